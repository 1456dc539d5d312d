import Derived.Test.YthamkigdpgajaaaDoorHd
/- What the laws ask for: Few, usable, covers. -/
namespace Go.Proofs.YthamkigdpgajaaaDoor
open Go.RowKit

theorem lfew_is (n m c1 c2 : Nat) (B A : Option Addr) (f : Bool) (h : decide (n ≤ 60 ∧ m ≤ 60) = f) (w : World) :
    Calls Tryd.prog 10 #[.slice B n c1, .slice A m c2] w fun e w' => e = .returned (.bool f) ∧ Below w.heap.size w w' := by
  have HF := Lib.hid h
  clear h
  have hb0 : Below w.heap.size w w := Below.refl _ _
  go_enter Tryd.func10, Tryd.ntmps10
  by_cases h1 : (n : Int) ≤ 60
  · by_cases h2 : (m : Int) ≤ 60
    · obtain rfl : true = f := (decide_eq_true ⟨by omega, by omega⟩).symm.trans HF.out
      go_wp2_with fail
      go_ret
      exact ⟨rfl, hb0⟩
    · obtain rfl : false = f := (decide_eq_false (by omega)).symm.trans HF.out
      go_wp2_with fail
      go_ret
      exact ⟨rfl, hb0⟩
  · obtain rfl : false = f := (decide_eq_false (by omega)).symm.trans HF.out
    go_wp2_with fail
    go_ret
    exact ⟨rfl, hb0⟩
def Usb (bs : List Mt.B) (l : List No.Nt) : Prop := (bs.length ≤ 60 ∧ l.length ≤ 60) ∧ No.Val bs l
set_option maxHeartbeats 400000 in
theorem lusable_is (bs : List Mt.B) (l : List No.Nt) (f : Bool) (blen bcap len cap : Nat) (B A : Option Addr) (h : f = true ↔ Usb bs l) (hbl : bs.length = blen) (hl : l.length = len) (w : World) (hB : SlB w B bs) (hL : SlO w A l) :
    Calls Tryd.prog 23 #[.slice B blen bcap, .slice A len cap] w fun e w' => e = .returned (.bool f) ∧ Below w.heap.size w w' := by
  have HB := Lib.hid hB
  have HL := Lib.hid hL
  have HN := Lib.hid hbl
  have HM := Lib.hid hl
  by_cases h60 : blen ≤ 60 ∧ len ≤ 60
  · have hv : f = true ↔ No.Val bs l := by rw [h]; unfold Usb; rw [hbl, hl]; exact ⟨fun x => x.2, fun x => ⟨h60, x⟩⟩
    have HV := Lib.hid hv
    have HD := Lib.hid (decide_eq_true h60)
    clear h hv hbl hl hB hL h60
    go_enter Tryd.func23, Tryd.ntmps23
    go_wp2_with fail
    refine (lfew_is blen len _ _ _ _ true HD.out _).mono ?_; rintro e w1 ⟨rfl, hb⟩
    go_wp2_with fail
    refine (rnvalid_is bs l f _ _ _ _ _ _ HV.out HN.out HM.out _ (HB.out.below hb) (HL.out.below hb)).mono ?_; rintro e w2 ⟨rfl, hb2⟩
    replace hb := hb.trans (hb2.mono hb.size)
    go_wp2_with fail
    go_ret
    exact ⟨rfl, hb⟩
  · obtain rfl : f = false := by
      cases f with
      | false => rfl
      | true => exact absurd (by have := (h.1 rfl).1; rwa [hbl, hl] at this) h60
    have HD := Lib.hid (decide_eq_false h60)
    clear h hbl hl hB hL h60
    go_enter Tryd.func23, Tryd.ntmps23
    go_wp2_with fail
    refine (lfew_is blen len _ _ _ _ false HD.out _).mono ?_; rintro e w1 ⟨rfl, hb⟩
    go_wp2_with fail
    go_ret
    exact ⟨rfl, hb⟩
/-- Spans that a bar can hold. -/
def BdS (l : List No.Sp) : Prop := ∀ s ∈ l, s.1 ≤ 1000000000 ∧ s.2 ≤ 1000000000
theorem BdS.at {l : List No.Sp} (h : BdS l) {k : Nat} (hk : k < l.length) : (atS l k).1 ≤ 1000000000 ∧ (atS l k).2 ≤ 1000000000 := by
  unfold atS
  rw [List.getElem?_eq_getElem hk]
  exact h _ (List.getElem_mem hk)
theorem tk_sp {x : Int} (h0 : 0 ≤ x) (h1 : x ≤ 1000000000) : Mt.tk (Mt.oN x.toNat) (Mt.oD x.toNat) = x := by
  rw [Mt.tk_of (n := x.toNat) (by omega)]
  omega
theorem cov_at {l : List No.Sp} {t : Int} : No.cov l t ↔ ∃ k, k < l.length ∧ (atS l k).1 ≤ t ∧ t < (atS l k).2 := by
  unfold No.cov
  constructor
  · rintro ⟨s, hs, h⟩
    obtain ⟨k, hk, rfl⟩ := List.mem_iff_getElem.1 hs
    exact ⟨k, hk, by unfold atS; rw [List.getElem?_eq_getElem hk]; exact h⟩
  · rintro ⟨k, hk, h⟩
    unfold atS at h
    rw [List.getElem?_eq_getElem hk] at h
    exact ⟨_, List.getElem_mem hk, h⟩
set_option maxHeartbeats 1600000 in
theorem lcovers_is (X : List No.Sp) (t : Int) (f : Bool) (h : f = true ↔ No.cov X t) (n cap : Nat) (A : Option Addr) (hX : X.length = n) (hn : n ≤ 1000000) (pX : NnS X) (bX : BdS X) (w : World) (hL : SlR w A X) :
    Calls Tryd.prog 26 #[.slice A n cap, .int .i64 t] w fun e w' => e = .returned (.bool f) ∧ Below w.heap.size w w' := by
  have HL := Lib.hid hL
  have HX := Lib.hid hX
  have HF := Lib.hid h
  clear hL hX h
  go_enter Tryd.func26, Tryd.ntmps26
  have hb0 : Below w.heap.size w w := Below.refl _ _
  go_wp2_with fail
  go_loopw [9] (fun s9 wr => ∃ (i : Nat), i ≤ n ∧ s9 = .int .i64 (i : Int) ∧ (∀ k, k < i → ¬ ((atS X k).1 ≤ t ∧ t < (atS X k).2)) ∧ Below w.heap.size w wr) (fun s9 _ => n - (intOf s9).toNat)
  case atStart => exact ⟨0, Nat.zero_le _, rfl, (fun k h => absurd h (Nat.not_lt_zero k)), hb0⟩
  case round =>
    obtain ⟨i, hi, rfl, hS, hB⟩ := hrel
    have HS := Lib.hid hS
    clear hS
    by_cases hlt : i < n
    · have hx : i < X.length := by rw [HX.out]; exact hlt
      obtain ⟨bb, off, rfl, hbb, c0, c1, c2, c3⟩ := SlR.cells (HL.out) hx
      have t1 := tk_sp (pX.at hx).1 (bX.at hx).1
      have t2 := tk_sp (pX.at hx).2 (bX.at hx).2
      replace c0 := (hB.cell (p := ⟨bb, off + i * 4, none⟩) hbb).trans c0
      replace c1 := (hB.cell (p := ⟨bb, off + i * 4 + 1, none⟩) hbb).trans c1
      replace c2 := (hB.cell (p := ⟨bb, off + i * 4 + 2, none⟩) hbb).trans c2
      replace c3 := (hB.cell (p := ⟨bb, off + i * 4 + 3, none⟩) hbb).trans c3
      have hq1 : (i : Int) < (n : Int) := by omega
      obtain ⟨x, hxx⟩ : ∃ x, (atS X i).1 = x := ⟨_, rfl⟩
      obtain ⟨y, hyy⟩ : ∃ y, (atS X i).2 = y := ⟨_, rfl⟩
      rw [hxx] at t1 c0 c1
      rw [hyy] at t2 c2 c3
      generalize Mt.oN x.toNat = a at *
      generalize Mt.oD x.toNat = b at *
      generalize Mt.oN y.toNat = c at *
      generalize Mt.oD y.toNat = d at *
      have HXX := Lib.hid (And.intro hxx hyy)
      have T1 := Lib.hid t1
      have T2 := Lib.hid t2
      clear hxx hyy t1 t2
      go_wp2_with fail
      have Z := At4.new wr a b c d 52
      replace hB := hB.alloc hB.size (.cells #[.int .i64 a, .int .i64 b, .int .i64 c, .int .i64 d] 52)
      refine (kticks_is a b x T1.out _).mono ?_; rintro e w1 ⟨rfl, hb⟩
      replace Z := Z.below hb
      replace hB := hB.trans (hb.mono hB.size)
      clear hb c0 c1 c2 c3
      obtain ⟨d0, d1, d2, d3⟩ := And.intro Z.c0 (And.intro Z.c1 (And.intro Z.c2 Z.c3))
      by_cases h1 : x ≤ t
      · go_wp2_with fail
        refine (kticks_is c d y T2.out _).mono ?_; rintro e w2 ⟨rfl, hb⟩
        replace hB := hB.trans (hb.mono hB.size)
        clear hb d0 d1 d2 d3 Z
        by_cases h2 : t < y
        · obtain rfl : f = true := HF.out.2 (cov_at.2 ⟨i, hx, by rw [HXX.out.1]; exact h1, by rw [HXX.out.2]; exact h2⟩)
          go_wp2_with fail
          go_ret
          exact ⟨rfl, hB⟩
        · go_wp2_with fail
          go_roundw
          case rel =>
            refine ⟨i + 1, by omega, (by simp), fun k hk => ?_, hB⟩
            rcases Nat.lt_or_ge k i with h | h
            · exact HS.out k h
            · obtain rfl : k = i := by omega
              rw [HXX.out.1, HXX.out.2]
              omega
          case measure => simp [intOf]; omega
      · go_wp2_with fail
        go_roundw
        case rel =>
          refine ⟨i + 1, by omega, (by simp), fun k hk => ?_, hB⟩
          rcases Nat.lt_or_ge k i with h | h
          · exact HS.out k h
          · obtain rfl : k = i := by omega
            rw [HXX.out.1, HXX.out.2]
            omega
        case measure => simp [intOf]; omega
    · obtain rfl : i = n := by omega
      obtain rfl : f = false := by
        cases f with
        | false => rfl
        | true =>
          obtain ⟨k, hk, hc⟩ := cov_at.1 (HF.out.1 rfl)
          rw [HX.out] at hk
          exact absurd hc (HS.out k hk)
      go_wp2_with fail
      go_ret
      exact ⟨rfl, hB⟩
end Go.Proofs.YthamkigdpgajaaaDoor
