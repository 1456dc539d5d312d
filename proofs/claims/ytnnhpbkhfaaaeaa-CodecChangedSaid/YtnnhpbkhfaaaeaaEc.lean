/- The walk of the landed codec's reader: number. -/
import Derived.Test.YtnnhpbkhfaaaeaaEb
namespace Go.Proofs.Ytnnhpbkhfaaaeaa
open Go.RowKit

def NumP (R : Nat) (A : Option Addr) (len cap : Nat) (b : List Nat) (p : Nat) (w : World) (O : Option (Nat × Nat)) (e : Ending) (w' : World) : Prop := match O with
  | none => e = .panicked [{ v := .iface 25 (.int .i64 7), recovered := false }] ∧ Gro R w w'
  | some (u, k) => e = .returned (.int .u64 (u : Int)) ∧ Rdr w' R A len cap b (p + k) ∧ Gro R w w'
theorem or_zero64 (a : Int) (a0 : 0 ≤ a) (a1 : a < 18446744073709551616) : bits .or .u64 a 0 = a := by
  obtain ⟨n, rfl⟩ := Int.eq_ofNat_of_zero_le a0
  have := u64_or_nat n 0 (by omega) (by omega)
  simpa using this

set_option maxHeartbeats 6400000 in
theorem rnumber_is (R : Nat) (A : Option Addr) (len cap : Nat) (b : List Nat) (p : Nat) (O : Option (Nat × Nat)) (h : Cd.rdv (b.drop p) 0 0 = O) (hb : Cd.by8 b) (hmax : len ≤ 1000000000) (w : World) (hR : Rdr w R A len cap b p) :
    Calls Try.prog 39 #[.pointer (some ⟨R, 0, none⟩)] w fun e w' => NumP R A len cap b p w O e w' := by
  obtain ⟨c, hc⟩ : ∃ c, b.drop p = c := ⟨_, rfl⟩
  rw [hc] at h
  have HH : Hid (c.length = len - p ∧ (∀ i, atN c i = atN b (p + i)) ∧ (∀ x ∈ c, x < 256)) := Lib.hid (by
    rw [← hc]
    exact ⟨by rw [List.length_drop, hR.hl], fun i => by unfold atN; rw [List.getElem?_drop], hb.drop p⟩)
  have HR := Lib.hid hR
  have HO : Hid ((0 < 10 → Cd.rdv (c.drop 0) 0 (0 : Int).toNat = O) ∧ (10 ≤ 0 → O = none)) := Lib.hid ⟨fun _ => h, fun e => by omega⟩
  clear h hc hR hb
  go_enter Try.func39, Try.ntmps39
  go_wp2
  go_loopw [3, 4] (fun s3 s4 wr => ∃ (i : Nat) (q : Int) (a : Int), q = 7 * (i : Int) ∧ s4 = .int .i64 q ∧ s3 = .int .u64 a ∧ 0 ≤ a ∧ a < 18446744073709551616 ∧ (i < 10 → a < (128 ^ i : Nat)) ∧ p + i ≤ len ∧ Hid ((i < 10 → Cd.rdv (c.drop i) i a.toNat = O) ∧ (10 ≤ i → O = none)) ∧ Hid (Rdr wr R A len cap b (p + i)) ∧ Gro R w wr) (fun _ s4 _ => 7 * len + 7 - (intOf s4).toNat)
  case atStart => exact ⟨0, 0, 0, rfl, rfl, rfl, by omega, by omega, (fun _ => by decide), HR.out.le, HO, HR, .refl _ _⟩
  case round =>
    obtain ⟨i, q, a, hq0, rfl, rfl, a0, a64, a1, hpl, HE, HW, HG⟩ := hrel
    have HQ := Lib.hid hq0
    clear HR HO
    by_cases hlt : p + i = len
    · have hOn : O = none := by
        by_cases h10 : i < 10
        · rw [← HE.out.1 h10]; exact Cd.rdv_end _ (by rw [HH.out.1]; omega)
        · exact HE.out.2 (by omega)
      subst hOn
      clear HE
      go_wp2_with (first | (go_at_call 42; refine (next_none R A len cap b (p + i) hlt _ HW.out).mono ?_; rintro e w2 ⟨rfl, hb2⟩) | fail)
      exact ⟨rfl, rfl, HG.trans hb2⟩
    have HLT : Hid (p + i < len) := Lib.hid (by omega)
    obtain ⟨xN, hxN⟩ : ∃ xN, atN c i = xN := ⟨_, rfl⟩
    obtain ⟨x, hxx⟩ : ∃ x : Int, x = (xN : Int) := ⟨_, rfl⟩
    have hil : i < c.length := by rw [HH.out.1]; have := HLT.out; omega
    have hx1 : xN < 256 := by rw [← hxN, atN_eq hil]; exact HH.out.2.2 _ (List.getElem_mem hil)
    have HX : Hid ((atN b (p + i) : Int) = x) := Lib.hid (by rw [← HH.out.2.1, hxN, hxx])
    have hx0 : 0 ≤ x := by omega
    have hx2 : x < 256 := by omega
    have hm0 : 0 ≤ x % 128 := by omega
    have hm1 : x % 128 < 128 := by omega
    clear hlt hpl
    by_cases h10 : 10 ≤ i
    · have hOn := HE.out.2 h10
      subst hOn
      clear HE a1
      have hq64 : 64 ≤ q := by omega
      have hqn : 0 ≤ q := by omega
      clear hxN hil
      have hqm : q < 9000000000000 := by have := HLT.out; omega
      have hshl : ∀ g : Int, Op.shift .shl .u64 g .i64 q = pure (.int .u64 0) := fun g => by
        rw [shift_shl_any _ _ _ _ hqn, show min q.toNat IntKind.u64.bits = 64 by simp [IntKind.bits]; omega]
        congr 2
        simp only [IntKind.wrap, IntKind.bits, IntKind.signed, Bool.false_and, Bool.false_eq_true, if_false]
        omega
      have hshr : Op.shift .shr .u64 0 .i64 q = pure (.int .u64 0) := by
        rw [shift_shr_any _ _ _ _ hqn]
        simp
      clear hq0 hxx
      have hor := or_zero64 a a0 a64
      by_cases hg : x % 128 = 0
      · by_cases hx00 : x = 0
        · have hqp : 0 < q := by omega
          subst hx00
          go_wp2_with (first | (go_at_call 42; refine (next_is R A len cap b (p + i) 0 HLT.out HX.out hmax _ HW.out).mono ?_; rintro e w2 ⟨rfl, HR2, hb2⟩) | fail)
          exact ⟨rfl, rfl, HG.trans hb2⟩
        · have h128 : x = 128 := by omega
          subst h128
          go_wp2_with (first | (go_at_call 42; refine (next_is R A len cap b (p + i) 128 HLT.out HX.out hmax _ HW.out).mono ?_; rintro e w2 ⟨rfl, HR2, hb2⟩) | fail)
          exact ⟨⟨i + 1, q + 7, a, (by have := HQ.out; omega), rfl, (by first | rfl | rw [hor]), a0, a64, (fun e => by omega), (by have := HLT.out; omega), Lib.hid ⟨fun e => by omega, (by first | exact fun _ => rfl | (intros; trivial))⟩, Lib.hid HR2, HG.trans hb2⟩, by have := HLT.out; have := HQ.out; simp [intOf] <;> omega⟩
      · have hgne : ((0 : Int) != x % 128) = true := by simp; omega
        go_wp2_with (first | (go_at_call 42; refine (next_is R A len cap b (p + i) x HLT.out HX.out hmax _ HW.out).mono ?_; rintro e w2 ⟨rfl, HR2, hb2⟩) | fail)
        exact ⟨rfl, rfl, HG.trans hb2⟩
    have HE2 : Hid ((if 10 ≤ i then none else if i = 9 ∧ 1 < xN then none else if 128 ≤ xN then Cd.rdv (c.drop (i + 1)) (i + 1) (a.toNat + xN % 128 * 128 ^ i) else if 0 < i ∧ xN = 0 then none else some (a.toNat + xN % 128 * 128 ^ i, i + 1)) = O) := Lib.hid (by rw [← hxN, ← Cd.rdv_at a.toNat hil]; exact HE.out.1 (by omega))
    clear HE hxN hil
    obtain rfl : xN = x.toNat := by omega
    clear hxx hx1
    clear hq0
    have c10 : i = 0 ∨ i = 1 ∨ i = 2 ∨ i = 3 ∨ i = 4 ∨ i = 5 ∨ i = 6 ∨ i = 7 ∨ i = 8 ∨ i = 9 := by omega
    have a2 := a1 (by omega)
    clear a1 h10
    rcases c10 with rfl | rfl | rfl | rfl | rfl | rfl | rfl | rfl | rfl | rfl
    · obtain rfl : q = 0 := by have := HQ.out; omega
      have p1 : (128 : Nat) ^ 0 = 1 := by decide
      rw [p1] at a2
      obtain ⟨z, hz⟩ : ∃ z, a + x % 128 * 1 = z := ⟨_, rfl⟩
      have z0 : 0 ≤ z := by omega
      have z1 : z < 128 := by omega
      have e0 : x % 128 * 1 / 1 = x % 128 := by omega
      have e1 : bits .or .u64 a (x % 128 * 1) = z := by rw [Cd.or_add 0 (by decide) a0 (by omega) (by omega) (by omega), hz]
      have e2 : bits .or .u64 a (x % 128) = z := by have := e1; rwa [Int.mul_one] at this
      by_cases h128 : 128 ≤ x
      · have HE3 : Hid (Cd.rdv (c.drop 1) 1 z.toNat = O) := Lib.hid (by
          have h := HE2.out
          rw [if_neg (by omega), if_neg (by omega), if_pos (by omega), show a.toNat + x.toNat % 128 * 128 ^ 0 = z.toNat by rw [p1]; omega] at h
          exact h)
        clear HE2
        have p2 : (128 : Nat) ^ 1 = 128 := by decide
        have z2 : z < ((128 ^ 1 : Nat) : Int) := by rw [p2]; exact z1
        have h128' : ¬ x < 128 := by omega
        clear p1 p2 hz
        go_wp2_with (first | (go_at_call 42; refine (next_is R A len cap b (p + 0) x HLT.out HX.out hmax _ HW.out).mono ?_; rintro e w2 ⟨rfl, HR2, hb2⟩) | fail)
        exact ⟨⟨1, 7, z, by omega, rfl, (by first | rfl | rw [e1] | rw [e2]), z0, by omega, (fun _ => z2), (by have := HLT.out; omega), Lib.hid ⟨fun _ => HE3.out, fun e => by omega⟩, Lib.hid HR2, HG.trans hb2⟩, by have := HLT.out; simp [intOf] <;> omega⟩
      have h128' : x < 128 := by omega
      have HF : Hid (some (z.toNat, 1) = O) := Lib.hid (by
        have h := HE2.out
        rw [if_neg (by omega), if_neg (by omega), if_neg (by omega), if_neg (by omega), show a.toNat + x.toNat % 128 * 128 ^ 0 = z.toNat by rw [p1]; omega] at h
        exact h)
      obtain rfl := HF.out
      have HZ : Hid (z = ((z.toNat : Nat) : Int)) := Lib.hid (by omega)
      clear HF HE2 p1 hz
      go_wp2_with (first | (go_at_call 42; refine (next_is R A len cap b (p + 0) x HLT.out HX.out hmax _ HW.out).mono ?_; rintro e w2 ⟨rfl, HR2, hb2⟩) | fail)
      all_goals
        go_ret
        exact ⟨congrArg (fun y => Ending.returned (.int .u64 y)) HZ.out, HR2, HG.trans hb2⟩
    · obtain rfl : q = 7 := by have := HQ.out; omega
      have p1 : (128 : Nat) ^ 1 = 128 := by decide
      rw [p1] at a2
      obtain ⟨z, hz⟩ : ∃ z, a + x % 128 * 128 = z := ⟨_, rfl⟩
      have z0 : 0 ≤ z := by omega
      have z1 : z < 16384 := by omega
      have e0 : x % 128 * 128 / 128 = x % 128 := by omega
      have e1 : bits .or .u64 a (x % 128 * 128) = z := by rw [Cd.or_add 7 (by decide) a0 (by omega) (by omega) (by omega), hz]
      by_cases h128 : 128 ≤ x
      · have HE3 : Hid (Cd.rdv (c.drop 2) 2 z.toNat = O) := Lib.hid (by
          have h := HE2.out
          rw [if_neg (by omega), if_neg (by omega), if_pos (by omega), show a.toNat + x.toNat % 128 * 128 ^ 1 = z.toNat by rw [p1]; omega] at h
          exact h)
        clear HE2
        have p2 : (128 : Nat) ^ 2 = 16384 := by decide
        have z2 : z < ((128 ^ 2 : Nat) : Int) := by rw [p2]; exact z1
        have h128' : ¬ x < 128 := by omega
        clear p1 p2 hz
        go_wp2_with (first | (go_at_call 42; refine (next_is R A len cap b (p + 1) x HLT.out HX.out hmax _ HW.out).mono ?_; rintro e w2 ⟨rfl, HR2, hb2⟩) | fail)
        exact ⟨⟨2, 14, z, by omega, rfl, (by first | rfl | rw [e1]), z0, by omega, (fun _ => z2), (by have := HLT.out; omega), Lib.hid ⟨fun _ => HE3.out, fun e => by omega⟩, Lib.hid HR2, HG.trans hb2⟩, by have := HLT.out; simp [intOf] <;> omega⟩
      have h128' : x < 128 := by omega
      by_cases hx00 : x = 0
      · have hOn : O = none := by
          have h := HE2.out
          rw [if_neg (by omega), if_neg (by omega), if_neg (by omega), if_pos ⟨by omega, by omega⟩] at h
          exact h.symm
        subst hOn
        subst hx00
        clear HE2
        go_wp2_with (first | (go_at_call 42; refine (next_is R A len cap b (p + 1) 0 HLT.out HX.out hmax _ HW.out).mono ?_; rintro e w2 ⟨rfl, HR2, hb2⟩) | fail)
        exact ⟨rfl, rfl, HG.trans hb2⟩
      have hxz : (x == 0) = false := by simp; omega
      have HF : Hid (some (z.toNat, 2) = O) := Lib.hid (by
        have h := HE2.out
        rw [if_neg (by omega), if_neg (by omega), if_neg (by omega), if_neg (by omega), show a.toNat + x.toNat % 128 * 128 ^ 1 = z.toNat by rw [p1]; omega] at h
        exact h)
      obtain rfl := HF.out
      have HZ : Hid (z = ((z.toNat : Nat) : Int)) := Lib.hid (by omega)
      clear HF HE2 p1 hz
      go_wp2_with (first | (go_at_call 42; refine (next_is R A len cap b (p + 1) x HLT.out HX.out hmax _ HW.out).mono ?_; rintro e w2 ⟨rfl, HR2, hb2⟩) | fail)
      all_goals
        go_ret
        exact ⟨congrArg (fun y => Ending.returned (.int .u64 y)) HZ.out, HR2, HG.trans hb2⟩
    · obtain rfl : q = 14 := by have := HQ.out; omega
      have p1 : (128 : Nat) ^ 2 = 16384 := by decide
      rw [p1] at a2
      obtain ⟨z, hz⟩ : ∃ z, a + x % 128 * 16384 = z := ⟨_, rfl⟩
      have z0 : 0 ≤ z := by omega
      have z1 : z < 2097152 := by omega
      have e0 : x % 128 * 16384 / 16384 = x % 128 := by omega
      have e1 : bits .or .u64 a (x % 128 * 16384) = z := by rw [Cd.or_add 14 (by decide) a0 (by omega) (by omega) (by omega), hz]
      by_cases h128 : 128 ≤ x
      · have HE3 : Hid (Cd.rdv (c.drop 3) 3 z.toNat = O) := Lib.hid (by
          have h := HE2.out
          rw [if_neg (by omega), if_neg (by omega), if_pos (by omega), show a.toNat + x.toNat % 128 * 128 ^ 2 = z.toNat by rw [p1]; omega] at h
          exact h)
        clear HE2
        have p2 : (128 : Nat) ^ 3 = 2097152 := by decide
        have z2 : z < ((128 ^ 3 : Nat) : Int) := by rw [p2]; exact z1
        have h128' : ¬ x < 128 := by omega
        clear p1 p2 hz
        go_wp2_with (first | (go_at_call 42; refine (next_is R A len cap b (p + 2) x HLT.out HX.out hmax _ HW.out).mono ?_; rintro e w2 ⟨rfl, HR2, hb2⟩) | fail)
        exact ⟨⟨3, 21, z, by omega, rfl, (by first | rfl | rw [e1]), z0, by omega, (fun _ => z2), (by have := HLT.out; omega), Lib.hid ⟨fun _ => HE3.out, fun e => by omega⟩, Lib.hid HR2, HG.trans hb2⟩, by have := HLT.out; simp [intOf] <;> omega⟩
      have h128' : x < 128 := by omega
      by_cases hx00 : x = 0
      · have hOn : O = none := by
          have h := HE2.out
          rw [if_neg (by omega), if_neg (by omega), if_neg (by omega), if_pos ⟨by omega, by omega⟩] at h
          exact h.symm
        subst hOn
        subst hx00
        clear HE2
        go_wp2_with (first | (go_at_call 42; refine (next_is R A len cap b (p + 2) 0 HLT.out HX.out hmax _ HW.out).mono ?_; rintro e w2 ⟨rfl, HR2, hb2⟩) | fail)
        exact ⟨rfl, rfl, HG.trans hb2⟩
      have hxz : (x == 0) = false := by simp; omega
      have HF : Hid (some (z.toNat, 3) = O) := Lib.hid (by
        have h := HE2.out
        rw [if_neg (by omega), if_neg (by omega), if_neg (by omega), if_neg (by omega), show a.toNat + x.toNat % 128 * 128 ^ 2 = z.toNat by rw [p1]; omega] at h
        exact h)
      obtain rfl := HF.out
      have HZ : Hid (z = ((z.toNat : Nat) : Int)) := Lib.hid (by omega)
      clear HF HE2 p1 hz
      go_wp2_with (first | (go_at_call 42; refine (next_is R A len cap b (p + 2) x HLT.out HX.out hmax _ HW.out).mono ?_; rintro e w2 ⟨rfl, HR2, hb2⟩) | fail)
      all_goals
        go_ret
        exact ⟨congrArg (fun y => Ending.returned (.int .u64 y)) HZ.out, HR2, HG.trans hb2⟩
    · obtain rfl : q = 21 := by have := HQ.out; omega
      have p1 : (128 : Nat) ^ 3 = 2097152 := by decide
      rw [p1] at a2
      obtain ⟨z, hz⟩ : ∃ z, a + x % 128 * 2097152 = z := ⟨_, rfl⟩
      have z0 : 0 ≤ z := by omega
      have z1 : z < 268435456 := by omega
      have e0 : x % 128 * 2097152 / 2097152 = x % 128 := by omega
      have e1 : bits .or .u64 a (x % 128 * 2097152) = z := by rw [Cd.or_add 21 (by decide) a0 (by omega) (by omega) (by omega), hz]
      by_cases h128 : 128 ≤ x
      · have HE3 : Hid (Cd.rdv (c.drop 4) 4 z.toNat = O) := Lib.hid (by
          have h := HE2.out
          rw [if_neg (by omega), if_neg (by omega), if_pos (by omega), show a.toNat + x.toNat % 128 * 128 ^ 3 = z.toNat by rw [p1]; omega] at h
          exact h)
        clear HE2
        have p2 : (128 : Nat) ^ 4 = 268435456 := by decide
        have z2 : z < ((128 ^ 4 : Nat) : Int) := by rw [p2]; exact z1
        have h128' : ¬ x < 128 := by omega
        clear p1 p2 hz
        go_wp2_with (first | (go_at_call 42; refine (next_is R A len cap b (p + 3) x HLT.out HX.out hmax _ HW.out).mono ?_; rintro e w2 ⟨rfl, HR2, hb2⟩) | fail)
        exact ⟨⟨4, 28, z, by omega, rfl, (by first | rfl | rw [e1]), z0, by omega, (fun _ => z2), (by have := HLT.out; omega), Lib.hid ⟨fun _ => HE3.out, fun e => by omega⟩, Lib.hid HR2, HG.trans hb2⟩, by have := HLT.out; simp [intOf] <;> omega⟩
      have h128' : x < 128 := by omega
      by_cases hx00 : x = 0
      · have hOn : O = none := by
          have h := HE2.out
          rw [if_neg (by omega), if_neg (by omega), if_neg (by omega), if_pos ⟨by omega, by omega⟩] at h
          exact h.symm
        subst hOn
        subst hx00
        clear HE2
        go_wp2_with (first | (go_at_call 42; refine (next_is R A len cap b (p + 3) 0 HLT.out HX.out hmax _ HW.out).mono ?_; rintro e w2 ⟨rfl, HR2, hb2⟩) | fail)
        exact ⟨rfl, rfl, HG.trans hb2⟩
      have hxz : (x == 0) = false := by simp; omega
      have HF : Hid (some (z.toNat, 4) = O) := Lib.hid (by
        have h := HE2.out
        rw [if_neg (by omega), if_neg (by omega), if_neg (by omega), if_neg (by omega), show a.toNat + x.toNat % 128 * 128 ^ 3 = z.toNat by rw [p1]; omega] at h
        exact h)
      obtain rfl := HF.out
      have HZ : Hid (z = ((z.toNat : Nat) : Int)) := Lib.hid (by omega)
      clear HF HE2 p1 hz
      go_wp2_with (first | (go_at_call 42; refine (next_is R A len cap b (p + 3) x HLT.out HX.out hmax _ HW.out).mono ?_; rintro e w2 ⟨rfl, HR2, hb2⟩) | fail)
      all_goals
        go_ret
        exact ⟨congrArg (fun y => Ending.returned (.int .u64 y)) HZ.out, HR2, HG.trans hb2⟩
    · obtain rfl : q = 28 := by have := HQ.out; omega
      have p1 : (128 : Nat) ^ 4 = 268435456 := by decide
      rw [p1] at a2
      obtain ⟨z, hz⟩ : ∃ z, a + x % 128 * 268435456 = z := ⟨_, rfl⟩
      have z0 : 0 ≤ z := by omega
      have z1 : z < 34359738368 := by omega
      have e0 : x % 128 * 268435456 / 268435456 = x % 128 := by omega
      have e1 : bits .or .u64 a (x % 128 * 268435456) = z := by rw [Cd.or_add 28 (by decide) a0 (by omega) (by omega) (by omega), hz]
      by_cases h128 : 128 ≤ x
      · have HE3 : Hid (Cd.rdv (c.drop 5) 5 z.toNat = O) := Lib.hid (by
          have h := HE2.out
          rw [if_neg (by omega), if_neg (by omega), if_pos (by omega), show a.toNat + x.toNat % 128 * 128 ^ 4 = z.toNat by rw [p1]; omega] at h
          exact h)
        clear HE2
        have p2 : (128 : Nat) ^ 5 = 34359738368 := by decide
        have z2 : z < ((128 ^ 5 : Nat) : Int) := by rw [p2]; exact z1
        have h128' : ¬ x < 128 := by omega
        clear p1 p2 hz
        go_wp2_with (first | (go_at_call 42; refine (next_is R A len cap b (p + 4) x HLT.out HX.out hmax _ HW.out).mono ?_; rintro e w2 ⟨rfl, HR2, hb2⟩) | fail)
        exact ⟨⟨5, 35, z, by omega, rfl, (by first | rfl | rw [e1]), z0, by omega, (fun _ => z2), (by have := HLT.out; omega), Lib.hid ⟨fun _ => HE3.out, fun e => by omega⟩, Lib.hid HR2, HG.trans hb2⟩, by have := HLT.out; simp [intOf] <;> omega⟩
      have h128' : x < 128 := by omega
      by_cases hx00 : x = 0
      · have hOn : O = none := by
          have h := HE2.out
          rw [if_neg (by omega), if_neg (by omega), if_neg (by omega), if_pos ⟨by omega, by omega⟩] at h
          exact h.symm
        subst hOn
        subst hx00
        clear HE2
        go_wp2_with (first | (go_at_call 42; refine (next_is R A len cap b (p + 4) 0 HLT.out HX.out hmax _ HW.out).mono ?_; rintro e w2 ⟨rfl, HR2, hb2⟩) | fail)
        exact ⟨rfl, rfl, HG.trans hb2⟩
      have hxz : (x == 0) = false := by simp; omega
      have HF : Hid (some (z.toNat, 5) = O) := Lib.hid (by
        have h := HE2.out
        rw [if_neg (by omega), if_neg (by omega), if_neg (by omega), if_neg (by omega), show a.toNat + x.toNat % 128 * 128 ^ 4 = z.toNat by rw [p1]; omega] at h
        exact h)
      obtain rfl := HF.out
      have HZ : Hid (z = ((z.toNat : Nat) : Int)) := Lib.hid (by omega)
      clear HF HE2 p1 hz
      go_wp2_with (first | (go_at_call 42; refine (next_is R A len cap b (p + 4) x HLT.out HX.out hmax _ HW.out).mono ?_; rintro e w2 ⟨rfl, HR2, hb2⟩) | fail)
      all_goals
        go_ret
        exact ⟨congrArg (fun y => Ending.returned (.int .u64 y)) HZ.out, HR2, HG.trans hb2⟩
    · obtain rfl : q = 35 := by have := HQ.out; omega
      have p1 : (128 : Nat) ^ 5 = 34359738368 := by decide
      rw [p1] at a2
      obtain ⟨z, hz⟩ : ∃ z, a + x % 128 * 34359738368 = z := ⟨_, rfl⟩
      have z0 : 0 ≤ z := by omega
      have z1 : z < 4398046511104 := by omega
      have e0 : x % 128 * 34359738368 / 34359738368 = x % 128 := by omega
      have e1 : bits .or .u64 a (x % 128 * 34359738368) = z := by rw [Cd.or_add 35 (by decide) a0 (by omega) (by omega) (by omega), hz]
      by_cases h128 : 128 ≤ x
      · have HE3 : Hid (Cd.rdv (c.drop 6) 6 z.toNat = O) := Lib.hid (by
          have h := HE2.out
          rw [if_neg (by omega), if_neg (by omega), if_pos (by omega), show a.toNat + x.toNat % 128 * 128 ^ 5 = z.toNat by rw [p1]; omega] at h
          exact h)
        clear HE2
        have p2 : (128 : Nat) ^ 6 = 4398046511104 := by decide
        have z2 : z < ((128 ^ 6 : Nat) : Int) := by rw [p2]; exact z1
        have h128' : ¬ x < 128 := by omega
        clear p1 p2 hz
        go_wp2_with (first | (go_at_call 42; refine (next_is R A len cap b (p + 5) x HLT.out HX.out hmax _ HW.out).mono ?_; rintro e w2 ⟨rfl, HR2, hb2⟩) | fail)
        exact ⟨⟨6, 42, z, by omega, rfl, (by first | rfl | rw [e1]), z0, by omega, (fun _ => z2), (by have := HLT.out; omega), Lib.hid ⟨fun _ => HE3.out, fun e => by omega⟩, Lib.hid HR2, HG.trans hb2⟩, by have := HLT.out; simp [intOf] <;> omega⟩
      have h128' : x < 128 := by omega
      by_cases hx00 : x = 0
      · have hOn : O = none := by
          have h := HE2.out
          rw [if_neg (by omega), if_neg (by omega), if_neg (by omega), if_pos ⟨by omega, by omega⟩] at h
          exact h.symm
        subst hOn
        subst hx00
        clear HE2
        go_wp2_with (first | (go_at_call 42; refine (next_is R A len cap b (p + 5) 0 HLT.out HX.out hmax _ HW.out).mono ?_; rintro e w2 ⟨rfl, HR2, hb2⟩) | fail)
        exact ⟨rfl, rfl, HG.trans hb2⟩
      have hxz : (x == 0) = false := by simp; omega
      have HF : Hid (some (z.toNat, 6) = O) := Lib.hid (by
        have h := HE2.out
        rw [if_neg (by omega), if_neg (by omega), if_neg (by omega), if_neg (by omega), show a.toNat + x.toNat % 128 * 128 ^ 5 = z.toNat by rw [p1]; omega] at h
        exact h)
      obtain rfl := HF.out
      have HZ : Hid (z = ((z.toNat : Nat) : Int)) := Lib.hid (by omega)
      clear HF HE2 p1 hz
      go_wp2_with (first | (go_at_call 42; refine (next_is R A len cap b (p + 5) x HLT.out HX.out hmax _ HW.out).mono ?_; rintro e w2 ⟨rfl, HR2, hb2⟩) | fail)
      all_goals
        go_ret
        exact ⟨congrArg (fun y => Ending.returned (.int .u64 y)) HZ.out, HR2, HG.trans hb2⟩
    · obtain rfl : q = 42 := by have := HQ.out; omega
      have p1 : (128 : Nat) ^ 6 = 4398046511104 := by decide
      rw [p1] at a2
      obtain ⟨z, hz⟩ : ∃ z, a + x % 128 * 4398046511104 = z := ⟨_, rfl⟩
      have z0 : 0 ≤ z := by omega
      have z1 : z < 562949953421312 := by omega
      have e0 : x % 128 * 4398046511104 / 4398046511104 = x % 128 := by omega
      have e1 : bits .or .u64 a (x % 128 * 4398046511104) = z := by rw [Cd.or_add 42 (by decide) a0 (by omega) (by omega) (by omega), hz]
      by_cases h128 : 128 ≤ x
      · have HE3 : Hid (Cd.rdv (c.drop 7) 7 z.toNat = O) := Lib.hid (by
          have h := HE2.out
          rw [if_neg (by omega), if_neg (by omega), if_pos (by omega), show a.toNat + x.toNat % 128 * 128 ^ 6 = z.toNat by rw [p1]; omega] at h
          exact h)
        clear HE2
        have p2 : (128 : Nat) ^ 7 = 562949953421312 := by decide
        have z2 : z < ((128 ^ 7 : Nat) : Int) := by rw [p2]; exact z1
        have h128' : ¬ x < 128 := by omega
        clear p1 p2 hz
        go_wp2_with (first | (go_at_call 42; refine (next_is R A len cap b (p + 6) x HLT.out HX.out hmax _ HW.out).mono ?_; rintro e w2 ⟨rfl, HR2, hb2⟩) | fail)
        exact ⟨⟨7, 49, z, by omega, rfl, (by first | rfl | rw [e1]), z0, by omega, (fun _ => z2), (by have := HLT.out; omega), Lib.hid ⟨fun _ => HE3.out, fun e => by omega⟩, Lib.hid HR2, HG.trans hb2⟩, by have := HLT.out; simp [intOf] <;> omega⟩
      have h128' : x < 128 := by omega
      by_cases hx00 : x = 0
      · have hOn : O = none := by
          have h := HE2.out
          rw [if_neg (by omega), if_neg (by omega), if_neg (by omega), if_pos ⟨by omega, by omega⟩] at h
          exact h.symm
        subst hOn
        subst hx00
        clear HE2
        go_wp2_with (first | (go_at_call 42; refine (next_is R A len cap b (p + 6) 0 HLT.out HX.out hmax _ HW.out).mono ?_; rintro e w2 ⟨rfl, HR2, hb2⟩) | fail)
        exact ⟨rfl, rfl, HG.trans hb2⟩
      have hxz : (x == 0) = false := by simp; omega
      have HF : Hid (some (z.toNat, 7) = O) := Lib.hid (by
        have h := HE2.out
        rw [if_neg (by omega), if_neg (by omega), if_neg (by omega), if_neg (by omega), show a.toNat + x.toNat % 128 * 128 ^ 6 = z.toNat by rw [p1]; omega] at h
        exact h)
      obtain rfl := HF.out
      have HZ : Hid (z = ((z.toNat : Nat) : Int)) := Lib.hid (by omega)
      clear HF HE2 p1 hz
      go_wp2_with (first | (go_at_call 42; refine (next_is R A len cap b (p + 6) x HLT.out HX.out hmax _ HW.out).mono ?_; rintro e w2 ⟨rfl, HR2, hb2⟩) | fail)
      all_goals
        go_ret
        exact ⟨congrArg (fun y => Ending.returned (.int .u64 y)) HZ.out, HR2, HG.trans hb2⟩
    · obtain rfl : q = 49 := by have := HQ.out; omega
      have p1 : (128 : Nat) ^ 7 = 562949953421312 := by decide
      rw [p1] at a2
      obtain ⟨z, hz⟩ : ∃ z, a + x % 128 * 562949953421312 = z := ⟨_, rfl⟩
      have z0 : 0 ≤ z := by omega
      have z1 : z < 72057594037927936 := by omega
      have e0 : x % 128 * 562949953421312 / 562949953421312 = x % 128 := by omega
      have e1 : bits .or .u64 a (x % 128 * 562949953421312) = z := by rw [Cd.or_add 49 (by decide) a0 (by omega) (by omega) (by omega), hz]
      by_cases h128 : 128 ≤ x
      · have HE3 : Hid (Cd.rdv (c.drop 8) 8 z.toNat = O) := Lib.hid (by
          have h := HE2.out
          rw [if_neg (by omega), if_neg (by omega), if_pos (by omega), show a.toNat + x.toNat % 128 * 128 ^ 7 = z.toNat by rw [p1]; omega] at h
          exact h)
        clear HE2
        have p2 : (128 : Nat) ^ 8 = 72057594037927936 := by decide
        have z2 : z < ((128 ^ 8 : Nat) : Int) := by rw [p2]; exact z1
        have h128' : ¬ x < 128 := by omega
        clear p1 p2 hz
        go_wp2_with (first | (go_at_call 42; refine (next_is R A len cap b (p + 7) x HLT.out HX.out hmax _ HW.out).mono ?_; rintro e w2 ⟨rfl, HR2, hb2⟩) | fail)
        exact ⟨⟨8, 56, z, by omega, rfl, (by first | rfl | rw [e1]), z0, by omega, (fun _ => z2), (by have := HLT.out; omega), Lib.hid ⟨fun _ => HE3.out, fun e => by omega⟩, Lib.hid HR2, HG.trans hb2⟩, by have := HLT.out; simp [intOf] <;> omega⟩
      have h128' : x < 128 := by omega
      by_cases hx00 : x = 0
      · have hOn : O = none := by
          have h := HE2.out
          rw [if_neg (by omega), if_neg (by omega), if_neg (by omega), if_pos ⟨by omega, by omega⟩] at h
          exact h.symm
        subst hOn
        subst hx00
        clear HE2
        go_wp2_with (first | (go_at_call 42; refine (next_is R A len cap b (p + 7) 0 HLT.out HX.out hmax _ HW.out).mono ?_; rintro e w2 ⟨rfl, HR2, hb2⟩) | fail)
        exact ⟨rfl, rfl, HG.trans hb2⟩
      have hxz : (x == 0) = false := by simp; omega
      have HF : Hid (some (z.toNat, 8) = O) := Lib.hid (by
        have h := HE2.out
        rw [if_neg (by omega), if_neg (by omega), if_neg (by omega), if_neg (by omega), show a.toNat + x.toNat % 128 * 128 ^ 7 = z.toNat by rw [p1]; omega] at h
        exact h)
      obtain rfl := HF.out
      have HZ : Hid (z = ((z.toNat : Nat) : Int)) := Lib.hid (by omega)
      clear HF HE2 p1 hz
      go_wp2_with (first | (go_at_call 42; refine (next_is R A len cap b (p + 7) x HLT.out HX.out hmax _ HW.out).mono ?_; rintro e w2 ⟨rfl, HR2, hb2⟩) | fail)
      all_goals
        go_ret
        exact ⟨congrArg (fun y => Ending.returned (.int .u64 y)) HZ.out, HR2, HG.trans hb2⟩
    · obtain rfl : q = 56 := by have := HQ.out; omega
      have p1 : (128 : Nat) ^ 8 = 72057594037927936 := by decide
      rw [p1] at a2
      obtain ⟨z, hz⟩ : ∃ z, a + x % 128 * 72057594037927936 = z := ⟨_, rfl⟩
      have z0 : 0 ≤ z := by omega
      have z1 : z < 9223372036854775808 := by omega
      have e0 : x % 128 * 72057594037927936 / 72057594037927936 = x % 128 := by omega
      have e1 : bits .or .u64 a (x % 128 * 72057594037927936) = z := by rw [Cd.or_add 56 (by decide) a0 (by omega) (by omega) (by omega), hz]
      by_cases h128 : 128 ≤ x
      · have HE3 : Hid (Cd.rdv (c.drop 9) 9 z.toNat = O) := Lib.hid (by
          have h := HE2.out
          rw [if_neg (by omega), if_neg (by omega), if_pos (by omega), show a.toNat + x.toNat % 128 * 128 ^ 8 = z.toNat by rw [p1]; omega] at h
          exact h)
        clear HE2
        have p2 : (128 : Nat) ^ 9 = 9223372036854775808 := by decide
        have z2 : z < ((128 ^ 9 : Nat) : Int) := by rw [p2]; exact z1
        have h128' : ¬ x < 128 := by omega
        clear p1 p2 hz
        go_wp2_with (first | (go_at_call 42; refine (next_is R A len cap b (p + 8) x HLT.out HX.out hmax _ HW.out).mono ?_; rintro e w2 ⟨rfl, HR2, hb2⟩) | fail)
        exact ⟨⟨9, 63, z, by omega, rfl, (by first | rfl | rw [e1]), z0, by omega, (fun _ => z2), (by have := HLT.out; omega), Lib.hid ⟨fun _ => HE3.out, fun e => by omega⟩, Lib.hid HR2, HG.trans hb2⟩, by have := HLT.out; simp [intOf] <;> omega⟩
      have h128' : x < 128 := by omega
      by_cases hx00 : x = 0
      · have hOn : O = none := by
          have h := HE2.out
          rw [if_neg (by omega), if_neg (by omega), if_neg (by omega), if_pos ⟨by omega, by omega⟩] at h
          exact h.symm
        subst hOn
        subst hx00
        clear HE2
        go_wp2_with (first | (go_at_call 42; refine (next_is R A len cap b (p + 8) 0 HLT.out HX.out hmax _ HW.out).mono ?_; rintro e w2 ⟨rfl, HR2, hb2⟩) | fail)
        exact ⟨rfl, rfl, HG.trans hb2⟩
      have hxz : (x == 0) = false := by simp; omega
      have HF : Hid (some (z.toNat, 9) = O) := Lib.hid (by
        have h := HE2.out
        rw [if_neg (by omega), if_neg (by omega), if_neg (by omega), if_neg (by omega), show a.toNat + x.toNat % 128 * 128 ^ 8 = z.toNat by rw [p1]; omega] at h
        exact h)
      obtain rfl := HF.out
      have HZ : Hid (z = ((z.toNat : Nat) : Int)) := Lib.hid (by omega)
      clear HF HE2 p1 hz
      go_wp2_with (first | (go_at_call 42; refine (next_is R A len cap b (p + 8) x HLT.out HX.out hmax _ HW.out).mono ?_; rintro e w2 ⟨rfl, HR2, hb2⟩) | fail)
      all_goals
        go_ret
        exact ⟨congrArg (fun y => Ending.returned (.int .u64 y)) HZ.out, HR2, HG.trans hb2⟩
    · obtain rfl : q = 63 := by have := HQ.out; omega
      have p1 : (128 : Nat) ^ 9 = 9223372036854775808 := by decide
      rw [p1] at a2
      obtain ⟨z, hz⟩ : ∃ z, a + x % 128 * 9223372036854775808 = z := ⟨_, rfl⟩
      have z0 : 0 ≤ z := by omega
      by_cases hbig : 1 < x
      · have hOn : O = none := by
          have h := HE2.out
          rw [if_neg (by omega), if_pos ⟨rfl, by omega⟩] at h
          exact h.symm
        subst hOn
        clear HE2
        by_cases hg : 1 < x % 128
        · have hw2 : IntKind.u64.wrap (x % 128 * 9223372036854775808) / 9223372036854775808 = x % 128 % 2 := by
            simp only [IntKind.wrap, IntKind.bits, IntKind.signed, Bool.false_and, Bool.false_eq_true, if_false]
            omega
          have hg3 : x % 128 * 9223372036854775808 % 18446744073709551616 / 9223372036854775808 = x % 128 % 2 := by omega
          have hgne : (x % 128 % 2 != x % 128) = true := by simp; omega
          go_wp2_with (first | (go_at_call 42; refine (next_is R A len cap b (p + 9) x HLT.out HX.out hmax _ HW.out).mono ?_; rintro e w2 ⟨rfl, HR2, hb2⟩) | fail)
          exact ⟨rfl, rfl, HG.trans hb2⟩
        · have z1 : z < 18446744073709551616 := by omega
          have hg2 : x % 128 * 9223372036854775808 < 18446744073709551616 := by omega
          have e0 : x % 128 * 9223372036854775808 / 9223372036854775808 = x % 128 := by omega
          have e1 : bits .or .u64 a (x % 128 * 9223372036854775808) = z := by rw [Cd.or_add 63 (by decide) a0 (by omega) (by omega) (by omega), hz]
          have h128 : ¬ x < 128 := by omega
          go_wp2_with (first | (go_at_call 42; refine (next_is R A len cap b (p + 9) x HLT.out HX.out hmax _ HW.out).mono ?_; rintro e w2 ⟨rfl, HR2, hb2⟩) | fail)
          exact ⟨⟨10, 70, z, by omega, rfl, (by first | rfl | rw [e1]), z0, z1, (fun e => by omega), (by have := HLT.out; omega), Lib.hid ⟨fun e => by omega, (by first | exact fun _ => rfl | (intros; trivial))⟩, Lib.hid HR2, HG.trans hb2⟩, by have := HLT.out; simp [intOf] <;> omega⟩
      have z1 : z < 18446744073709551616 := by omega
      have hg2 : x % 128 * 9223372036854775808 < 18446744073709551616 := by omega
      have e0 : x % 128 * 9223372036854775808 / 9223372036854775808 = x % 128 := by omega
      have e1 : bits .or .u64 a (x % 128 * 9223372036854775808) = z := by rw [Cd.or_add 63 (by decide) a0 (by omega) (by omega) (by omega), hz]
      have h128' : x < 128 := by omega
      have h128 : ¬ 128 ≤ x := by omega
      by_cases hx00 : x = 0
      · have hOn : O = none := by
          have h := HE2.out
          rw [if_neg (by omega), if_neg (by omega), if_neg (by omega), if_pos ⟨by omega, by omega⟩] at h
          exact h.symm
        subst hOn
        subst hx00
        clear HE2
        go_wp2_with (first | (go_at_call 42; refine (next_is R A len cap b (p + 9) 0 HLT.out HX.out hmax _ HW.out).mono ?_; rintro e w2 ⟨rfl, HR2, hb2⟩) | fail)
        exact ⟨rfl, rfl, HG.trans hb2⟩
      have hxz : (x == 0) = false := by simp; omega
      have HF : Hid (some (z.toNat, 10) = O) := Lib.hid (by
        have h := HE2.out
        rw [if_neg (by omega), if_neg (by omega), if_neg (by omega), if_neg (by omega), show a.toNat + x.toNat % 128 * 128 ^ 9 = z.toNat by rw [p1]; omega] at h
        exact h)
      obtain rfl := HF.out
      have HZ : Hid (z = ((z.toNat : Nat) : Int)) := Lib.hid (by omega)
      clear HF HE2 p1 hz
      go_wp2_with (first | (go_at_call 42; refine (next_is R A len cap b (p + 9) x HLT.out HX.out hmax _ HW.out).mono ?_; rintro e w2 ⟨rfl, HR2, hb2⟩) | fail)
      all_goals
        go_ret
        exact ⟨congrArg (fun y => Ending.returned (.int .u64 y)) HZ.out, HR2, HG.trans hb2⟩
end Go.Proofs.Ytnnhpbkhfaaaeaa
