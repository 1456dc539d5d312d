/- The walk of the reference's read. -/
import Derived.Test.YtnnhpbkhfaaaeaaCp
namespace Go.Proofs.Ytnnhpbkhfaaaeaa
open Go.RowKit

namespace Cd
def rdR (b : List Nat) : Int × Nat := (rd b).getD (0, 0)
theorem rdv_at {b : List Nat} {i : Nat} (a : Nat) (h : i < b.length) : rdv (b.drop i) i a = if 10 ≤ i then none else if i = 9 ∧ 1 < atN b i then none else if 128 ≤ atN b i then rdv (b.drop (i + 1)) (i + 1) (a + atN b i % 128 * 128 ^ i) else if 0 < i ∧ atN b i = 0 then none else some (a + atN b i % 128 * 128 ^ i, i + 1) := by
  rw [List.drop_eq_getElem_cons h, rdv, atN_eq h]
theorem rdv_end {b : List Nat} {i : Nat} (a : Nat) (h : b.length ≤ i) : rdv (b.drop i) i a = none := by
  rw [List.drop_eq_nil_of_le h, rdv]
theorem or_add {a y : Int} {K : Int} (j : Nat) (hK : K = ((2 ^ j : Nat) : Int)) (a0 : 0 ≤ a) (aK : a < K) (y0 : 0 ≤ y) (h : a + y * K < 18446744073709551616) : bits .or .u64 a (y * K) = a + y * K := by
  obtain ⟨A, rfl⟩ := Int.eq_ofNat_of_zero_le a0
  obtain ⟨Y, rfl⟩ := Int.eq_ofNat_of_zero_le y0
  subst hK
  have hA : A < 2 ^ j := by exact_mod_cast aK
  have e : ((Y : Int) * ((2 ^ j : Nat) : Int)) = ((Y * 2 ^ j : Nat) : Int) := by rw [Int.natCast_mul]
  rw [e] at h ⊢
  have h1 : A + Y * 2 ^ j < 18446744073709551616 := by omega
  rw [u64_or_nat A (Y * 2 ^ j) (by omega) (by omega)]
  have h2 := Nat.two_pow_add_eq_or_of_lt hA Y
  rw [Nat.or_comm, Nat.mul_comm Y, ← h2, Nat.add_comm, Int.natCast_add]
def fin (o : Option (Nat × Nat)) : Int × Nat := (o.map fun p => (un p.1, p.2)).getD (0, 0)
theorem fin_none : fin none = (0, 0) := rfl
theorem fin_some (u k : Nat) : fin (some (u, k)) = (un u, k) := rfl
theorem fin_rd (b : List Nat) : rdR b = fin (rdv b 0 0) := rfl
end Cd

set_option maxHeartbeats 6400000 in
theorem kread_is (b : List Nat) (X : Int) (k : Nat) (len cap : Nat) (A : Option Addr) (h : Cd.rdR b = (X, k)) (hl : b.length = len) (hb : ∀ x ∈ b, x < 256) (hmax : len ≤ 1000000000000) (w : World) (hL : SlN .u8 w A b) :
    Calls Try.prog 31 #[.slice A len cap] w fun e w' => e = .returned (.tuple #[.int .i64 X, .int .i64 (k : Int)]) ∧ Below w.heap.size w w' := by
  have HN := Lib.hid hl
  have HL := Lib.hid hL
  have HB := Lib.hid hb
  have HR : Hid (Cd.fin (Cd.rdv b 0 0) = (X, k)) := Lib.hid h
  clear hl hL hb h
  go_enter Try.func31, Try.ntmps31
  go_wp2
  go_loopw [4, 5] (fun s4 s5 wr => ∃ (i : Nat) (q : Int) (a : Int), i ≤ len ∧ i ≤ 10 ∧ q = i ∧ s5 = .int .i64 q ∧ s4 = .int .u64 a ∧ 0 ≤ a ∧ (i < 10 → a < (128 ^ i : Nat)) ∧ Hid (Cd.fin (Cd.rdv (b.drop i) i a.toNat) = (X, k)) ∧ wr = w) (fun _ s5 _ => len - (intOf s5).toNat)
  case atStart => exact ⟨0, 0, 0, by omega, by omega, rfl, rfl, rfl, by omega, (fun _ => by decide), HR, rfl⟩
  case round =>
    obtain ⟨i, q, a, hi, hi10, hq, rfl, rfl, a0, a1, HE, rfl⟩ := hrel
    by_cases hlt : i < len
    · have hil : i < b.length := by have := HN.out; omega
      obtain ⟨bb, off, rfl, hbb, hc⟩ := HL.out (by omega)
      have x0 := hc i hil
      have hx := HB.out _ (List.getElem_mem hil)
      rw [← atN_eq hil] at hx
      have HE2 : Hid (Cd.fin (if 10 ≤ i then none else if i = 9 ∧ 1 < atN b i then none else if 128 ≤ atN b i then Cd.rdv (b.drop (i + 1)) (i + 1) (a.toNat + atN b i % 128 * 128 ^ i) else if 0 < i ∧ atN b i = 0 then none else some (a.toNat + atN b i % 128 * 128 ^ i, i + 1)) = (X, k)) := Lib.hid (by rw [← Cd.rdv_at a.toNat hil]; exact HE.out)
      clear HE hc
      generalize hxN : atN b i = xN at *
      obtain ⟨x, hxx⟩ : ∃ x : Int, x = (xN : Int) := ⟨_, rfl⟩
      rw [← hxx] at x0
      have hx0 : 0 ≤ x := by omega
      have hx1 : x < 256 := by omega
      have hxT : xN = x.toNat := by omega
      subst hxT
      clear hxx hxN hx
      by_cases h10 : i = 10
      · subst h10
        obtain rfl : q = 10 := hq
        have hXk := HE2.out
        rw [if_pos (by omega), Cd.fin_none] at hXk
        cases hXk
        go_wp2_with fail
        go_ret2
        exact ⟨rfl, Below.refl _ _⟩
      have c10 : i = 0 ∨ i = 1 ∨ i = 2 ∨ i = 3 ∨ i = 4 ∨ i = 5 ∨ i = 6 ∨ i = 7 ∨ i = 8 ∨ i = 9 := by omega
      have a2 := a1 (by omega)
      clear a1 hi10 h10
      rcases c10 with rfl | rfl | rfl | rfl | rfl | rfl | rfl | rfl | rfl | rfl
      · obtain rfl : q = 0 := hq
        have p : (128 : Nat) ^ 0 = 1 := by decide
        rw [p] at a2
        rw [Nat.add_zero] at x0
        obtain ⟨z, hz⟩ : ∃ z, a + x % 128 * 1 = z := ⟨_, rfl⟩
        have z0 : 0 ≤ z := by omega
        have z1 : z < 128 := by omega
        have e1 : bits .or .u64 a (x % 128 * 1) = z := by rw [Cd.or_add 0 (by decide) a0 (by omega) (by omega) (by omega), hz]
        have e2 : bits .or .u64 a (x % 128) = z := by have := e1; rwa [Int.mul_one] at this
        by_cases h128 : 128 ≤ x
        · have HE3 : Hid (Cd.fin (Cd.rdv (b.drop 1) 1 z.toNat) = (X, k)) := Lib.hid (by
            have h := HE2.out
            rw [if_neg (by omega), if_neg (by omega), if_pos (by omega), show a.toNat + x.toNat % 128 * 128 ^ 0 = z.toNat by rw [p]; omega] at h
            exact h)
          clear HE2
          have p2 : (128 : Nat) ^ 1 = 128 := by decide
          have z2 : z < ((128 ^ 1 : Nat) : Int) := by rw [p2]; exact z1
          clear p p2 hz
          go_wp2_with fail
          exact ⟨⟨1, 1, z, by omega, by omega, rfl, rfl, (by first | rfl | rw [e1] | rw [e2]), z0, (fun _ => z2), HE3, (by first | rfl | trivial)⟩, by simp [intOf]; omega⟩
        · have HF : Hid (Cd.un z.toNat = X ∧ 1 = k) := Lib.hid (by
            have h := HE2.out
            rw [if_neg (by omega), if_neg (by omega), if_neg (by omega), if_neg (by omega), Cd.fin_some, show a.toNat + x.toNat % 128 * 128 ^ 0 = z.toNat by rw [p]; omega] at h
            cases h
            exact ⟨rfl, rfl⟩)
          obtain ⟨hX, hk⟩ := HF.out
          subst hk
          by_cases hodd : z % 2 = 1
          · have hXv : X = -(z / 2) - 1 := by rw [← hX]; unfold Cd.un; rw [if_pos (by omega)]; omega
            subst hXv
            clear hX HF HE2
            go_wp2_with fail
            go_ret2
            exact ⟨rfl, Below.refl _ _⟩
          · have hXv : X = z / 2 := by rw [← hX]; unfold Cd.un; rw [if_neg (by omega)]; omega
            subst hXv
            clear hX HF HE2
            go_wp2_with fail
            go_ret2
            exact ⟨rfl, Below.refl _ _⟩
      · obtain rfl : q = 1 := hq
        have p : (128 : Nat) ^ 1 = 128 := by decide
        rw [p] at a2
        obtain ⟨z, hz⟩ : ∃ z, a + x % 128 * 128 = z := ⟨_, rfl⟩
        have z0 : 0 ≤ z := by omega
        have z1 : z < 16384 := by omega
        have e1 : bits .or .u64 a (x % 128 * 128) = z := by rw [Cd.or_add 7 (by decide) a0 (by omega) (by omega) (by omega), hz]
        by_cases h128 : 128 ≤ x
        · have HE3 : Hid (Cd.fin (Cd.rdv (b.drop 2) 2 z.toNat) = (X, k)) := Lib.hid (by
            have h := HE2.out
            rw [if_neg (by omega), if_neg (by omega), if_pos (by omega), show a.toNat + x.toNat % 128 * 128 ^ 1 = z.toNat by rw [p]; omega] at h
            exact h)
          clear HE2
          have p2 : (128 : Nat) ^ 2 = 16384 := by decide
          have z2 : z < ((128 ^ 2 : Nat) : Int) := by rw [p2]; exact z1
          clear p p2 hz
          go_wp2_with fail
          exact ⟨⟨2, 2, z, by omega, by omega, rfl, rfl, (by first | rfl | rw [e1]), z0, (fun _ => z2), HE3, (by first | rfl | trivial)⟩, by simp [intOf]; omega⟩
        · by_cases hx00 : x = 0
          · have hXk := HE2.out
            rw [if_neg (by omega), if_neg (by omega), if_neg (by omega), if_pos ⟨by omega, by omega⟩, Cd.fin_none] at hXk
            cases hXk
            clear HE2
            go_wp2_with fail
            go_ret2
            exact ⟨rfl, Below.refl _ _⟩
          · have HF : Hid (Cd.un z.toNat = X ∧ 2 = k) := Lib.hid (by
              have h := HE2.out
              rw [if_neg (by omega), if_neg (by omega), if_neg (by omega), if_neg (by omega), Cd.fin_some, show a.toNat + x.toNat % 128 * 128 ^ 1 = z.toNat by rw [p]; omega] at h
              cases h
              exact ⟨rfl, rfl⟩)
            obtain ⟨hX, hk⟩ := HF.out
            subst hk
            by_cases hodd : z % 2 = 1
            · have hXv : X = -(z / 2) - 1 := by rw [← hX]; unfold Cd.un; rw [if_pos (by omega)]; omega
              subst hXv
              clear hX HF HE2
              go_wp2_with fail
              go_ret2
              exact ⟨rfl, Below.refl _ _⟩
            · have hXv : X = z / 2 := by rw [← hX]; unfold Cd.un; rw [if_neg (by omega)]; omega
              subst hXv
              clear hX HF HE2
              go_wp2_with fail
              go_ret2
              exact ⟨rfl, Below.refl _ _⟩
      · obtain rfl : q = 2 := hq
        have p : (128 : Nat) ^ 2 = 16384 := by decide
        rw [p] at a2
        obtain ⟨z, hz⟩ : ∃ z, a + x % 128 * 16384 = z := ⟨_, rfl⟩
        have z0 : 0 ≤ z := by omega
        have z1 : z < 2097152 := by omega
        have e1 : bits .or .u64 a (x % 128 * 16384) = z := by rw [Cd.or_add 14 (by decide) a0 (by omega) (by omega) (by omega), hz]
        by_cases h128 : 128 ≤ x
        · have HE3 : Hid (Cd.fin (Cd.rdv (b.drop 3) 3 z.toNat) = (X, k)) := Lib.hid (by
            have h := HE2.out
            rw [if_neg (by omega), if_neg (by omega), if_pos (by omega), show a.toNat + x.toNat % 128 * 128 ^ 2 = z.toNat by rw [p]; omega] at h
            exact h)
          clear HE2
          have p2 : (128 : Nat) ^ 3 = 2097152 := by decide
          have z2 : z < ((128 ^ 3 : Nat) : Int) := by rw [p2]; exact z1
          clear p p2 hz
          go_wp2_with fail
          exact ⟨⟨3, 3, z, by omega, by omega, rfl, rfl, (by first | rfl | rw [e1]), z0, (fun _ => z2), HE3, (by first | rfl | trivial)⟩, by simp [intOf]; omega⟩
        · by_cases hx00 : x = 0
          · have hXk := HE2.out
            rw [if_neg (by omega), if_neg (by omega), if_neg (by omega), if_pos ⟨by omega, by omega⟩, Cd.fin_none] at hXk
            cases hXk
            clear HE2
            go_wp2_with fail
            go_ret2
            exact ⟨rfl, Below.refl _ _⟩
          · have HF : Hid (Cd.un z.toNat = X ∧ 3 = k) := Lib.hid (by
              have h := HE2.out
              rw [if_neg (by omega), if_neg (by omega), if_neg (by omega), if_neg (by omega), Cd.fin_some, show a.toNat + x.toNat % 128 * 128 ^ 2 = z.toNat by rw [p]; omega] at h
              cases h
              exact ⟨rfl, rfl⟩)
            obtain ⟨hX, hk⟩ := HF.out
            subst hk
            by_cases hodd : z % 2 = 1
            · have hXv : X = -(z / 2) - 1 := by rw [← hX]; unfold Cd.un; rw [if_pos (by omega)]; omega
              subst hXv
              clear hX HF HE2
              go_wp2_with fail
              go_ret2
              exact ⟨rfl, Below.refl _ _⟩
            · have hXv : X = z / 2 := by rw [← hX]; unfold Cd.un; rw [if_neg (by omega)]; omega
              subst hXv
              clear hX HF HE2
              go_wp2_with fail
              go_ret2
              exact ⟨rfl, Below.refl _ _⟩
      · obtain rfl : q = 3 := hq
        have p : (128 : Nat) ^ 3 = 2097152 := by decide
        rw [p] at a2
        obtain ⟨z, hz⟩ : ∃ z, a + x % 128 * 2097152 = z := ⟨_, rfl⟩
        have z0 : 0 ≤ z := by omega
        have z1 : z < 268435456 := by omega
        have e1 : bits .or .u64 a (x % 128 * 2097152) = z := by rw [Cd.or_add 21 (by decide) a0 (by omega) (by omega) (by omega), hz]
        by_cases h128 : 128 ≤ x
        · have HE3 : Hid (Cd.fin (Cd.rdv (b.drop 4) 4 z.toNat) = (X, k)) := Lib.hid (by
            have h := HE2.out
            rw [if_neg (by omega), if_neg (by omega), if_pos (by omega), show a.toNat + x.toNat % 128 * 128 ^ 3 = z.toNat by rw [p]; omega] at h
            exact h)
          clear HE2
          have p2 : (128 : Nat) ^ 4 = 268435456 := by decide
          have z2 : z < ((128 ^ 4 : Nat) : Int) := by rw [p2]; exact z1
          clear p p2 hz
          go_wp2_with fail
          exact ⟨⟨4, 4, z, by omega, by omega, rfl, rfl, (by first | rfl | rw [e1]), z0, (fun _ => z2), HE3, (by first | rfl | trivial)⟩, by simp [intOf]; omega⟩
        · by_cases hx00 : x = 0
          · have hXk := HE2.out
            rw [if_neg (by omega), if_neg (by omega), if_neg (by omega), if_pos ⟨by omega, by omega⟩, Cd.fin_none] at hXk
            cases hXk
            clear HE2
            go_wp2_with fail
            go_ret2
            exact ⟨rfl, Below.refl _ _⟩
          · have HF : Hid (Cd.un z.toNat = X ∧ 4 = k) := Lib.hid (by
              have h := HE2.out
              rw [if_neg (by omega), if_neg (by omega), if_neg (by omega), if_neg (by omega), Cd.fin_some, show a.toNat + x.toNat % 128 * 128 ^ 3 = z.toNat by rw [p]; omega] at h
              cases h
              exact ⟨rfl, rfl⟩)
            obtain ⟨hX, hk⟩ := HF.out
            subst hk
            by_cases hodd : z % 2 = 1
            · have hXv : X = -(z / 2) - 1 := by rw [← hX]; unfold Cd.un; rw [if_pos (by omega)]; omega
              subst hXv
              clear hX HF HE2
              go_wp2_with fail
              go_ret2
              exact ⟨rfl, Below.refl _ _⟩
            · have hXv : X = z / 2 := by rw [← hX]; unfold Cd.un; rw [if_neg (by omega)]; omega
              subst hXv
              clear hX HF HE2
              go_wp2_with fail
              go_ret2
              exact ⟨rfl, Below.refl _ _⟩
      · obtain rfl : q = 4 := hq
        have p : (128 : Nat) ^ 4 = 268435456 := by decide
        rw [p] at a2
        obtain ⟨z, hz⟩ : ∃ z, a + x % 128 * 268435456 = z := ⟨_, rfl⟩
        have z0 : 0 ≤ z := by omega
        have z1 : z < 34359738368 := by omega
        have e1 : bits .or .u64 a (x % 128 * 268435456) = z := by rw [Cd.or_add 28 (by decide) a0 (by omega) (by omega) (by omega), hz]
        by_cases h128 : 128 ≤ x
        · have HE3 : Hid (Cd.fin (Cd.rdv (b.drop 5) 5 z.toNat) = (X, k)) := Lib.hid (by
            have h := HE2.out
            rw [if_neg (by omega), if_neg (by omega), if_pos (by omega), show a.toNat + x.toNat % 128 * 128 ^ 4 = z.toNat by rw [p]; omega] at h
            exact h)
          clear HE2
          have p2 : (128 : Nat) ^ 5 = 34359738368 := by decide
          have z2 : z < ((128 ^ 5 : Nat) : Int) := by rw [p2]; exact z1
          clear p p2 hz
          go_wp2_with fail
          exact ⟨⟨5, 5, z, by omega, by omega, rfl, rfl, (by first | rfl | rw [e1]), z0, (fun _ => z2), HE3, (by first | rfl | trivial)⟩, by simp [intOf]; omega⟩
        · by_cases hx00 : x = 0
          · have hXk := HE2.out
            rw [if_neg (by omega), if_neg (by omega), if_neg (by omega), if_pos ⟨by omega, by omega⟩, Cd.fin_none] at hXk
            cases hXk
            clear HE2
            go_wp2_with fail
            go_ret2
            exact ⟨rfl, Below.refl _ _⟩
          · have HF : Hid (Cd.un z.toNat = X ∧ 5 = k) := Lib.hid (by
              have h := HE2.out
              rw [if_neg (by omega), if_neg (by omega), if_neg (by omega), if_neg (by omega), Cd.fin_some, show a.toNat + x.toNat % 128 * 128 ^ 4 = z.toNat by rw [p]; omega] at h
              cases h
              exact ⟨rfl, rfl⟩)
            obtain ⟨hX, hk⟩ := HF.out
            subst hk
            by_cases hodd : z % 2 = 1
            · have hXv : X = -(z / 2) - 1 := by rw [← hX]; unfold Cd.un; rw [if_pos (by omega)]; omega
              subst hXv
              clear hX HF HE2
              go_wp2_with fail
              go_ret2
              exact ⟨rfl, Below.refl _ _⟩
            · have hXv : X = z / 2 := by rw [← hX]; unfold Cd.un; rw [if_neg (by omega)]; omega
              subst hXv
              clear hX HF HE2
              go_wp2_with fail
              go_ret2
              exact ⟨rfl, Below.refl _ _⟩
      · obtain rfl : q = 5 := hq
        have p : (128 : Nat) ^ 5 = 34359738368 := by decide
        rw [p] at a2
        obtain ⟨z, hz⟩ : ∃ z, a + x % 128 * 34359738368 = z := ⟨_, rfl⟩
        have z0 : 0 ≤ z := by omega
        have z1 : z < 4398046511104 := by omega
        have e1 : bits .or .u64 a (x % 128 * 34359738368) = z := by rw [Cd.or_add 35 (by decide) a0 (by omega) (by omega) (by omega), hz]
        by_cases h128 : 128 ≤ x
        · have HE3 : Hid (Cd.fin (Cd.rdv (b.drop 6) 6 z.toNat) = (X, k)) := Lib.hid (by
            have h := HE2.out
            rw [if_neg (by omega), if_neg (by omega), if_pos (by omega), show a.toNat + x.toNat % 128 * 128 ^ 5 = z.toNat by rw [p]; omega] at h
            exact h)
          clear HE2
          have p2 : (128 : Nat) ^ 6 = 4398046511104 := by decide
          have z2 : z < ((128 ^ 6 : Nat) : Int) := by rw [p2]; exact z1
          clear p p2 hz
          go_wp2_with fail
          exact ⟨⟨6, 6, z, by omega, by omega, rfl, rfl, (by first | rfl | rw [e1]), z0, (fun _ => z2), HE3, (by first | rfl | trivial)⟩, by simp [intOf]; omega⟩
        · by_cases hx00 : x = 0
          · have hXk := HE2.out
            rw [if_neg (by omega), if_neg (by omega), if_neg (by omega), if_pos ⟨by omega, by omega⟩, Cd.fin_none] at hXk
            cases hXk
            clear HE2
            go_wp2_with fail
            go_ret2
            exact ⟨rfl, Below.refl _ _⟩
          · have HF : Hid (Cd.un z.toNat = X ∧ 6 = k) := Lib.hid (by
              have h := HE2.out
              rw [if_neg (by omega), if_neg (by omega), if_neg (by omega), if_neg (by omega), Cd.fin_some, show a.toNat + x.toNat % 128 * 128 ^ 5 = z.toNat by rw [p]; omega] at h
              cases h
              exact ⟨rfl, rfl⟩)
            obtain ⟨hX, hk⟩ := HF.out
            subst hk
            by_cases hodd : z % 2 = 1
            · have hXv : X = -(z / 2) - 1 := by rw [← hX]; unfold Cd.un; rw [if_pos (by omega)]; omega
              subst hXv
              clear hX HF HE2
              go_wp2_with fail
              go_ret2
              exact ⟨rfl, Below.refl _ _⟩
            · have hXv : X = z / 2 := by rw [← hX]; unfold Cd.un; rw [if_neg (by omega)]; omega
              subst hXv
              clear hX HF HE2
              go_wp2_with fail
              go_ret2
              exact ⟨rfl, Below.refl _ _⟩
      · obtain rfl : q = 6 := hq
        have p : (128 : Nat) ^ 6 = 4398046511104 := by decide
        rw [p] at a2
        obtain ⟨z, hz⟩ : ∃ z, a + x % 128 * 4398046511104 = z := ⟨_, rfl⟩
        have z0 : 0 ≤ z := by omega
        have z1 : z < 562949953421312 := by omega
        have e1 : bits .or .u64 a (x % 128 * 4398046511104) = z := by rw [Cd.or_add 42 (by decide) a0 (by omega) (by omega) (by omega), hz]
        by_cases h128 : 128 ≤ x
        · have HE3 : Hid (Cd.fin (Cd.rdv (b.drop 7) 7 z.toNat) = (X, k)) := Lib.hid (by
            have h := HE2.out
            rw [if_neg (by omega), if_neg (by omega), if_pos (by omega), show a.toNat + x.toNat % 128 * 128 ^ 6 = z.toNat by rw [p]; omega] at h
            exact h)
          clear HE2
          have p2 : (128 : Nat) ^ 7 = 562949953421312 := by decide
          have z2 : z < ((128 ^ 7 : Nat) : Int) := by rw [p2]; exact z1
          clear p p2 hz
          go_wp2_with fail
          exact ⟨⟨7, 7, z, by omega, by omega, rfl, rfl, (by first | rfl | rw [e1]), z0, (fun _ => z2), HE3, (by first | rfl | trivial)⟩, by simp [intOf]; omega⟩
        · by_cases hx00 : x = 0
          · have hXk := HE2.out
            rw [if_neg (by omega), if_neg (by omega), if_neg (by omega), if_pos ⟨by omega, by omega⟩, Cd.fin_none] at hXk
            cases hXk
            clear HE2
            go_wp2_with fail
            go_ret2
            exact ⟨rfl, Below.refl _ _⟩
          · have HF : Hid (Cd.un z.toNat = X ∧ 7 = k) := Lib.hid (by
              have h := HE2.out
              rw [if_neg (by omega), if_neg (by omega), if_neg (by omega), if_neg (by omega), Cd.fin_some, show a.toNat + x.toNat % 128 * 128 ^ 6 = z.toNat by rw [p]; omega] at h
              cases h
              exact ⟨rfl, rfl⟩)
            obtain ⟨hX, hk⟩ := HF.out
            subst hk
            by_cases hodd : z % 2 = 1
            · have hXv : X = -(z / 2) - 1 := by rw [← hX]; unfold Cd.un; rw [if_pos (by omega)]; omega
              subst hXv
              clear hX HF HE2
              go_wp2_with fail
              go_ret2
              exact ⟨rfl, Below.refl _ _⟩
            · have hXv : X = z / 2 := by rw [← hX]; unfold Cd.un; rw [if_neg (by omega)]; omega
              subst hXv
              clear hX HF HE2
              go_wp2_with fail
              go_ret2
              exact ⟨rfl, Below.refl _ _⟩
      · obtain rfl : q = 7 := hq
        have p : (128 : Nat) ^ 7 = 562949953421312 := by decide
        rw [p] at a2
        obtain ⟨z, hz⟩ : ∃ z, a + x % 128 * 562949953421312 = z := ⟨_, rfl⟩
        have z0 : 0 ≤ z := by omega
        have z1 : z < 72057594037927936 := by omega
        have e1 : bits .or .u64 a (x % 128 * 562949953421312) = z := by rw [Cd.or_add 49 (by decide) a0 (by omega) (by omega) (by omega), hz]
        by_cases h128 : 128 ≤ x
        · have HE3 : Hid (Cd.fin (Cd.rdv (b.drop 8) 8 z.toNat) = (X, k)) := Lib.hid (by
            have h := HE2.out
            rw [if_neg (by omega), if_neg (by omega), if_pos (by omega), show a.toNat + x.toNat % 128 * 128 ^ 7 = z.toNat by rw [p]; omega] at h
            exact h)
          clear HE2
          have p2 : (128 : Nat) ^ 8 = 72057594037927936 := by decide
          have z2 : z < ((128 ^ 8 : Nat) : Int) := by rw [p2]; exact z1
          clear p p2 hz
          go_wp2_with fail
          exact ⟨⟨8, 8, z, by omega, by omega, rfl, rfl, (by first | rfl | rw [e1]), z0, (fun _ => z2), HE3, (by first | rfl | trivial)⟩, by simp [intOf]; omega⟩
        · by_cases hx00 : x = 0
          · have hXk := HE2.out
            rw [if_neg (by omega), if_neg (by omega), if_neg (by omega), if_pos ⟨by omega, by omega⟩, Cd.fin_none] at hXk
            cases hXk
            clear HE2
            go_wp2_with fail
            go_ret2
            exact ⟨rfl, Below.refl _ _⟩
          · have HF : Hid (Cd.un z.toNat = X ∧ 8 = k) := Lib.hid (by
              have h := HE2.out
              rw [if_neg (by omega), if_neg (by omega), if_neg (by omega), if_neg (by omega), Cd.fin_some, show a.toNat + x.toNat % 128 * 128 ^ 7 = z.toNat by rw [p]; omega] at h
              cases h
              exact ⟨rfl, rfl⟩)
            obtain ⟨hX, hk⟩ := HF.out
            subst hk
            by_cases hodd : z % 2 = 1
            · have hXv : X = -(z / 2) - 1 := by rw [← hX]; unfold Cd.un; rw [if_pos (by omega)]; omega
              subst hXv
              clear hX HF HE2
              go_wp2_with fail
              go_ret2
              exact ⟨rfl, Below.refl _ _⟩
            · have hXv : X = z / 2 := by rw [← hX]; unfold Cd.un; rw [if_neg (by omega)]; omega
              subst hXv
              clear hX HF HE2
              go_wp2_with fail
              go_ret2
              exact ⟨rfl, Below.refl _ _⟩
      · obtain rfl : q = 8 := hq
        have p : (128 : Nat) ^ 8 = 72057594037927936 := by decide
        rw [p] at a2
        obtain ⟨z, hz⟩ : ∃ z, a + x % 128 * 72057594037927936 = z := ⟨_, rfl⟩
        have z0 : 0 ≤ z := by omega
        have z1 : z < 9223372036854775808 := by omega
        have e1 : bits .or .u64 a (x % 128 * 72057594037927936) = z := by rw [Cd.or_add 56 (by decide) a0 (by omega) (by omega) (by omega), hz]
        by_cases h128 : 128 ≤ x
        · have HE3 : Hid (Cd.fin (Cd.rdv (b.drop 9) 9 z.toNat) = (X, k)) := Lib.hid (by
            have h := HE2.out
            rw [if_neg (by omega), if_neg (by omega), if_pos (by omega), show a.toNat + x.toNat % 128 * 128 ^ 8 = z.toNat by rw [p]; omega] at h
            exact h)
          clear HE2
          have p2 : (128 : Nat) ^ 9 = 9223372036854775808 := by decide
          have z2 : z < ((128 ^ 9 : Nat) : Int) := by rw [p2]; exact z1
          clear p p2 hz
          go_wp2_with fail
          exact ⟨⟨9, 9, z, by omega, by omega, rfl, rfl, (by first | rfl | rw [e1]), z0, (fun _ => z2), HE3, (by first | rfl | trivial)⟩, by simp [intOf]; omega⟩
        · by_cases hx00 : x = 0
          · have hXk := HE2.out
            rw [if_neg (by omega), if_neg (by omega), if_neg (by omega), if_pos ⟨by omega, by omega⟩, Cd.fin_none] at hXk
            cases hXk
            clear HE2
            go_wp2_with fail
            go_ret2
            exact ⟨rfl, Below.refl _ _⟩
          · have HF : Hid (Cd.un z.toNat = X ∧ 9 = k) := Lib.hid (by
              have h := HE2.out
              rw [if_neg (by omega), if_neg (by omega), if_neg (by omega), if_neg (by omega), Cd.fin_some, show a.toNat + x.toNat % 128 * 128 ^ 8 = z.toNat by rw [p]; omega] at h
              cases h
              exact ⟨rfl, rfl⟩)
            obtain ⟨hX, hk⟩ := HF.out
            subst hk
            by_cases hodd : z % 2 = 1
            · have hXv : X = -(z / 2) - 1 := by rw [← hX]; unfold Cd.un; rw [if_pos (by omega)]; omega
              subst hXv
              clear hX HF HE2
              go_wp2_with fail
              go_ret2
              exact ⟨rfl, Below.refl _ _⟩
            · have hXv : X = z / 2 := by rw [← hX]; unfold Cd.un; rw [if_neg (by omega)]; omega
              subst hXv
              clear hX HF HE2
              go_wp2_with fail
              go_ret2
              exact ⟨rfl, Below.refl _ _⟩
      · obtain rfl : q = 9 := hq
        have p : (128 : Nat) ^ 9 = 9223372036854775808 := by decide
        rw [p] at a2
        by_cases h1 : 1 < x
        · have hXk := HE2.out
          rw [if_neg (by omega), if_pos ⟨rfl, by omega⟩, Cd.fin_none] at hXk
          cases hXk
          clear HE2
          go_wp2_with fail
          go_ret2
          exact ⟨rfl, Below.refl _ _⟩
        obtain ⟨z, hz⟩ : ∃ z, a + x % 128 * 9223372036854775808 = z := ⟨_, rfl⟩
        have z0 : 0 ≤ z := by omega
        have z1 : z < 18446744073709551616 := by omega
        have e1 : bits .or .u64 a (x % 128 * 9223372036854775808) = z := by rw [Cd.or_add 63 (by decide) a0 (by omega) (by omega) (by omega), hz]
        by_cases hx00 : x = 0
        · have hXk := HE2.out
          rw [if_neg (by omega), if_neg (by omega), if_neg (by omega), if_pos ⟨by omega, by omega⟩, Cd.fin_none] at hXk
          cases hXk
          clear HE2
          go_wp2_with fail
          go_ret2
          exact ⟨rfl, Below.refl _ _⟩
        · have HF : Hid (Cd.un z.toNat = X ∧ 10 = k) := Lib.hid (by
            have h := HE2.out
            rw [if_neg (by omega), if_neg (by omega), if_neg (by omega), if_neg (by omega), Cd.fin_some, show a.toNat + x.toNat % 128 * 128 ^ 9 = z.toNat by rw [p]; omega] at h
            cases h
            exact ⟨rfl, rfl⟩)
          obtain ⟨hX, hk⟩ := HF.out
          subst hk
          by_cases hodd : z % 2 = 1
          · have hXv : X = -(z / 2) - 1 := by rw [← hX]; unfold Cd.un; rw [if_pos (by omega)]; omega
            subst hXv
            clear hX HF HE2
            go_wp2_with fail
            go_ret2
            exact ⟨rfl, Below.refl _ _⟩
          · have hXv : X = z / 2 := by rw [← hX]; unfold Cd.un; rw [if_neg (by omega)]; omega
            subst hXv
            clear hX HF HE2
            go_wp2_with fail
            go_ret2
            exact ⟨rfl, Below.refl _ _⟩
    · obtain rfl : i = len := by omega
      have hXk := HE.out
      rw [Cd.rdv_end _ (by rw [HN.out]; omega), Cd.fin_none] at hXk
      cases hXk
      clear HE
      go_wp2_with fail
      go_ret2
      exact ⟨rfl, Below.refl _ _⟩
end Go.Proofs.Ytnnhpbkhfaaaeaa
