/- The walks of the landed codec's reader: integer, list. -/
import Derived.Test.YtnnhpbkhfaaaeaaEc
import Derived.OwnWalk
namespace Go.Proofs.Ytnnhpbkhfaaaeaa
open Go.RowKit

namespace Cd
def jn (acc : List Int) (o : Option (List Int × List Nat)) : Option (List Int × List Nat) := o.map fun p => (acc ++ p.1, p.2)
theorem jn_nil (o : Option (List Int × List Nat)) : jn [] o = o := by cases o <;> rfl
theorem jn_step (acc : List Int) (m : Nat) (B : List Nat) : jn acc (rdn (m + 1) B) = match rd B with
  | none => none
  | some (v, k) => jn (acc ++ [v]) (rdn m (B.drop k)) := by
  rw [rdn]
  cases rd B with
  | none => rfl
  | some p =>
    simp only
    cases rdn m (B.drop p.2) with
    | none => rfl
    | some q => simp [jn]
def lst (b : List Nat) : Option (List Int × List Nat) := match rd b with
  | none => none
  | some (n, k) => if n < 0 ∨ 4000 < n then none else rdn n.toNat (b.drop k)
theorem get_lst (b : List Nat) : get b = match lst b with
  | none => none
  | some (l, r) => if r = [] then some l else none := by
  rw [get_eq]
  unfold lst gfin
  cases rd b with
  | none => rfl
  | some p =>
    simp only [List.nil_append]
    split <;> rfl
end Cd

def IntP (R : Nat) (A : Option Addr) (len cap : Nat) (b : List Nat) (p : Nat) (w : World) (O : Option (Int × Nat)) (e : Ending) (w' : World) : Prop := match O with
  | none => e = .panicked [{ v := .iface 25 (.int .i64 7), recovered := false }] ∧ Gro R w w'
  | some (n, k) => e = .returned (.int .i64 n) ∧ Rdr w' R A len cap b (p + k) ∧ Gro R w w'

set_option maxHeartbeats 800000 in
theorem rinteger_is (R : Nat) (A : Option Addr) (len cap : Nat) (b : List Nat) (p : Nat) (O : Option (Int × Nat)) (h : Cd.rd (b.drop p) = O) (hb : Cd.by8 b) (hmax : len ≤ 1000000000) (w : World) (hR : Rdr w R A len cap b p) :
    Calls Try.prog 37 #[.pointer (some ⟨R, 0, none⟩)] w fun e w' => IntP R A len cap b p w O e w' := by
  cases hr : Cd.rdv (b.drop p) 0 0 with
  | none =>
    have hO : O = none := by rw [← h]; unfold Cd.rd; rw [hr]; rfl
    subst hO
    have HC := Lib.hid (rnumber_is R A len cap b p none hr hb hmax w hR)
    clear hr h hR hb
    go_enter Try.func37, Try.ntmps37
    go_wp2_with (first | (go_at_call 39; refine HC.out.mono ?_; rintro e w2 ⟨rfl, hb2⟩) | fail)
    exact ⟨rfl, rfl, hb2⟩
  | some q =>
    obtain ⟨u, k⟩ := q
    have hrd : Cd.rd (b.drop p) = some (Cd.un u, k) := by unfold Cd.rd; rw [hr]; rfl
    have hu : u < 18446744073709551616 := by
      obtain ⟨_, _, hw⟩ := Cd.rd_fits hrd (hb.drop p)
      have := Cd.zz_lt hw
      rwa [Cd.zz_un] at this
    rw [hrd] at h
    subst h
    have HC := Lib.hid (rnumber_is R A len cap b p (some (u, k)) hr hb hmax w hR)
    clear hr hR hb hrd
    obtain ⟨y, hy⟩ : ∃ y : Int, y = (u : Int) := ⟨_, rfl⟩
    have y0 : 0 ≤ y := by omega
    have y1 : y < 18446744073709551616 := by omega
    have y2 : y / 2 < 9223372036854775808 := by omega
    have y3 : 0 ≤ y / 2 := by omega
    by_cases hodd : y % 2 = 1
    · have HU : Hid (-(y / 2) - 1 = Cd.un u) := Lib.hid (by unfold Cd.un; rw [if_pos (by omega)]; omega)
      have HY := Lib.hid hy
      clear hy hu
      go_enter Try.func37, Try.ntmps37
      go_wp2_with (first | (go_at_call 39; refine HC.out.mono ?_; rintro e w2 ⟨rfl, HR2, hb2⟩; rw [← HY.out]) | fail)
      go_ret
      exact ⟨congrArg (fun z => Ending.returned (.int .i64 z)) HU.out, HR2, hb2⟩
    · have HU : Hid (y / 2 = Cd.un u) := Lib.hid (by unfold Cd.un; rw [if_neg (by omega)]; omega)
      have HY := Lib.hid hy
      clear hy hu
      go_enter Try.func37, Try.ntmps37
      go_wp2_with (first | (go_at_call 39; refine HC.out.mono ?_; rintro e w2 ⟨rfl, HR2, hb2⟩; rw [← HY.out]) | fail)
      go_ret
      exact ⟨congrArg (fun z => Ending.returned (.int .i64 z)) HU.out, HR2, hb2⟩

theorem Rdr.other {w : World} {R : Nat} {A : Option Addr} {len cap : Nat} {b : List Nat} {i : Nat} (h : Rdr w R A len cap b i) {S j : Nat} {v : Value} (hS : S ≠ R) (hA : ∀ a, A = some a → 0 < len → a.block ≠ S) : Rdr (w.setCell ⟨S, j, none⟩ v) R A len cap b i := by
  refine ⟨by simpa using h.lt, ?_, ?_, (World.frozen?_setCell ..).trans h.f1, fun h0 => ?_, h.ap, h.hl, h.le⟩
  · exact (World.cell?_setCell_other (w := w) (a := ⟨S, j, none⟩) (b := ⟨R, 0, none⟩) (v := v) (fun e => hS (congrArg Addr.block e))).trans h.c0
  · exact (World.cell?_setCell_other (w := w) (a := ⟨S, j, none⟩) (b := ⟨R, 1, none⟩) (v := v) (fun e => hS (congrArg Addr.block e))).trans h.c1
  · obtain ⟨bb, off, rfl, hb, hc⟩ := h.sl h0
    have hne := hA _ rfl (by rw [← h.hl]; exact h0)
    exact ⟨bb, off, rfl, by simpa using hb, fun k hk => (World.cell?_setCell_other (w := w) (a := ⟨S, j, none⟩) (b := ⟨bb, off + k, none⟩) (v := v) (fun e => hne (congrArg Addr.block e).symm)).trans (hc k hk)⟩
theorem vK_fill {acc : List Int} {i m : Nat} (n : Int) (h : acc.length = i) : (vK .i64 (acc ++ List.replicate (m + 1) 0)).set i (.int .i64 n) = vK .i64 ((acc ++ [n]) ++ List.replicate m 0) := by
  subst h
  unfold vK
  simp [List.replicate_succ]

def ListP (R : Nat) (A : Option Addr) (len cap : Nat) (b : List Nat) (w : World) (O : Option (List Int × List Nat)) (e : Ending) (w' : World) : Prop := match O with
  | none => e = .panicked [{ v := .iface 25 (.int .i64 7), recovered := false }] ∧ Gro R w w'
  | some (l, r) => ∃ S c, e = .returned (.slice (some ⟨S, 0, none⟩) l.length c) ∧ w.heap.size ≤ S ∧ SlK .i64 w' (some ⟨S, 0, none⟩) l ∧ TyK 3 w' (some ⟨S, 0, none⟩) ∧ Rdr w' R A len cap b (len - r.length) ∧ Gro R w w'

set_option maxHeartbeats 1600000 in
theorem rlist_is (R : Nat) (A : Option Addr) (len cap : Nat) (b : List Nat) (O : Option (List Int × List Nat)) (h : Cd.lst b = O) (hb : Cd.by8 b) (hmax : len ≤ 1000000000) (w : World) (hR : Rdr w R A len cap b 0) :
    Calls Try.prog 29 #[.pointer (some ⟨R, 0, none⟩)] w fun e w' => ListP R A len cap b w O e w' := by
  have HB := Lib.hid hb
  have HRL := Lib.hid hR.lt
  have HLN := Lib.hid hR.hl
  have HAS : Hid (∀ a, A = some a → 0 < len → a.block < w.heap.size) := Lib.hid (fun a ha h0 => by
    obtain ⟨bb, off, e, hlt, _⟩ := hR.sl (by rw [hR.hl]; exact h0)
    rw [ha] at e
    cases e
    exact hlt)
  unfold Cd.lst at h
  obtain ⟨i0, hi, hz0, hz1, hz2⟩ := info_parts infoInt
  cases hr : Cd.rd b with
  | none =>
    rw [hr] at h
    subst h
    have HC := Lib.hid (rinteger_is R A len cap b 0 none (by rw [List.drop_zero]; exact hr) hb hmax w hR)
    clear hr hR hb
    go_enter Try.func29, Try.ntmps29
    go_wp2_with (first | (go_at_call 37; refine HC.out.mono ?_; rintro e w2 ⟨rfl, hb2⟩) | fail)
    exact ⟨rfl, rfl, hb2⟩
  | some q =>
    obtain ⟨n, k⟩ := q
    rw [hr] at h
    simp only at h
    have HC := Lib.hid (rinteger_is R A len cap b 0 (some (n, k)) (by rw [List.drop_zero]; exact hr) hb hmax w hR)
    obtain ⟨k0, k1, n0, n1⟩ := Cd.rd_fits hr hb
    clear hr hb
    by_cases hbad : n < 0 ∨ 4000 < n
    · rw [if_pos hbad] at h
      subst h
      clear hR
      have hb3 : (n < 0) ∨ (¬ n < 0 ∧ 4000 < n) := by omega
      clear hbad k1
      rcases hb3 with hb3 | ⟨hb3, hb4⟩
      all_goals
        go_enter Try.func29, Try.ntmps29
        go_wp2_with (first | (go_at_call 37; refine HC.out.mono ?_; rintro e w2 ⟨rfl, _, hb2⟩) | fail)
        exact ⟨rfl, rfl, hb2⟩
    · rw [if_neg hbad] at h
      obtain ⟨N, rfl⟩ := Int.eq_ofNat_of_zero_le (show 0 ≤ n by omega)
      have hN4 : N ≤ 4000 := by omega
      have g0 : ¬ (N : Int) < 0 := by omega
      have g1 : ¬ (4000 : Int) < (N : Int) := by omega
      rw [Int.toNat_natCast] at h
      have HO : Hid (Cd.jn [] (Cd.rdn N (b.drop k)) = O) := Lib.hid (by rw [Cd.jn_nil]; exact h)
      clear h hbad n0 n1 hR k1
      go_enter Try.func29, Try.ntmps29
      go_wp2_with (first | (go_at_call 37; refine HC.out.mono ?_; rintro e w1 ⟨rfl, HR1, hb1⟩; have hs1 := hb1.size) | (at_make; refine wpList_make_full _ rfl _ _ 22 rfl w1.heap.size 3 i0 (.int .i64 0) 1 Try.underlying22 hi hz0 hz1 .i64 .i64 _ _ N rfl rfl rfl rfl (by rw [hz2]; omega) (by unfold maxLen; omega) (Nat.le_refl _) ?_; intro w2 hrow hg2) | fail)
      have HS := Lib.hid (show w.heap.size ≤ w1.heap.size from hs1)
      have HSR : Hid (w1.heap.size ≠ R) := Lib.hid (by have := HRL.out; omega)
      have hrow2 : w2.ownsRow w1.heap.size 3 1 (.slice (some ⟨w1.heap.size, 0, none⟩) N N) N (vK .i64 ([] ++ List.replicate (N - 0) 0)) := by
        rw [show (Value.int IntKind.i64 0).cells = #[Value.int .i64 0] from rfl, toList_madeCells_one, Nat.mul_one] at hrow
        simpa [vK] using hrow
      have HR2 := HR1.grown hg2
      have G2 : Gro R w w2 := hb1.trans (hg2.but _)
      rw [Nat.zero_add] at HR2
      clear hrow HR1 hb1 hg2 hs1 HC hi hz0 hz1 hz2 i0
      generalize w1.heap.size = S at *
      go_loopw [19] (fun s19 wr => ∃ (i q : Nat) (acc : List Int), i ≤ N ∧ s19 = .int .i64 (i : Int) ∧ Hid (acc.length = i) ∧ Hid (wr.ownsRow S 3 1 (.slice (some ⟨S, 0, none⟩) N N) N (vK .i64 (acc ++ List.replicate (N - i) 0))) ∧ Hid (Rdr wr R A len cap b q) ∧ Hid (Cd.jn acc (Cd.rdn (N - i) (b.drop q)) = O) ∧ Gro R w wr) (fun s19 _ => N - (intOf s19).toNat)
      case atStart => exact ⟨0, k, [], by omega, rfl, Lib.hid rfl, Lib.hid hrow2, Lib.hid HR2, HO, G2⟩
      case round =>
        clear hrow2 HR2 G2 HO
        obtain ⟨i, q, acc, hi9, rfl, HA, HW, HR, HE, hG⟩ := hrel
        by_cases hlt : i < N
        · have hstep := Cd.jn_step acc (N - i - 1) (b.drop q)
          rw [show N - i - 1 + 1 = N - i by omega, HE.out] at hstep
          cases hr : Cd.rd (b.drop q) with
          | none =>
            rw [hr] at hstep
            subst hstep
            have HC := Lib.hid (rinteger_is R A len cap b q none hr HB.out hmax wr HR.out)
            clear hr HE
            go_wp2_with (first | (go_at_call 37; refine HC.out.mono ?_; rintro e w2 ⟨rfl, hb2⟩) | fail)
            exact ⟨rfl, rfl, hG.trans hb2⟩
          | some z =>
            obtain ⟨v, z⟩ := z
            rw [hr] at hstep
            have HO2 : Hid (Cd.jn (acc ++ [v]) (Cd.rdn (N - (i + 1)) (b.drop (q + z))) = O) := Lib.hid (by
              rw [show N - (i + 1) = N - i - 1 by omega, ← List.drop_drop]
              exact hstep.symm)
            have HC := Lib.hid (rinteger_is R A len cap b q (some (v, z)) hr HB.out hmax wr HR.out)
            clear hr hstep HE
            go_wp2_with (first | (go_at_call 37; refine HC.out.mono ?_; rintro e w2 ⟨rfl, HR2, hb2⟩; have hown2 := HW.out.kept hb2 (.inr (fun e => HSR.out (Option.some.inj e))); have c2 := hown2.cells (g := S) rfl i _ (vK_at (by rw [List.length_append, HA.out, List.length_replicate]; omega)); rw [addr_add] at c2; have f2 := hown2.frozenAt i; have hst := hown2.stored i (.int .i64 v); rw [show N - i = (N - i - 1) + 1 by omega, vK_fill v HA.out] at hst; have HST := Lib.hid hst; clear hown2 hst) | fail)
            go_roundw
            case rel => exact ⟨i + 1, q + z, acc ++ [v], by omega, by simp, Lib.hid (by rw [List.length_append, HA.out]; rfl), Lib.hid (by rw [show N - (i + 1) = N - i - 1 by omega]; exact HST.out.1), Lib.hid (HR2.other (HSR.out) (fun a ha h0 e => by have h1 := HAS.out a ha h0; have h2 := HS.out; omega)), HO2, (hG.trans hb2).andThen HST.out.2 (fun j e => .inl (by cases e; exact HS.out))⟩
            case measure => simp [intOf]; omega
        · obtain rfl : i = N := by omega
          have hO := HE.out
          rw [Nat.sub_self, Cd.rdn] at hO
          have hlq : len - (b.drop q).length = q := by rw [List.length_drop, HLN.out]; have := HR.out.le; omega
          have HO : Hid (O = some (acc, b.drop q)) := Lib.hid (by rw [← hO]; simp [Cd.jn])
          have hown := HW.out
          rw [Nat.sub_self, List.replicate_zero, List.append_nil] at hown
          have hT := own_ty hown
          obtain ⟨hlen, D, c, e, hsl⟩ := own_k hown
          cases e
          clear hO HE HW
          go_wp2_with fail
          go_ret
          rw [HO.out]
          exact ⟨S, i, by rw [hlen]; rfl, HS.out, hsl, hT, by rw [hlq]; exact HR.out, hG⟩
end Go.Proofs.Ytnnhpbkhfaaaeaa
