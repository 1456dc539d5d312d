/- The walks of the reference's SameInts, SameLists. -/
import Derived.Test.YtnnhpbkhfaaaeaaCw
namespace Go.Proofs.Ytnnhpbkhfaaaeaa
open Go.RowKit

theorem take_step {α : Type} {a b : List α} {i : Nat} (h : a.take i = b.take i) (ha : i < a.length) (hb : i < b.length) (e : a[i] = b[i]) : a.take (i + 1) = b.take (i + 1) := by
  rw [List.take_succ_eq_append_getElem ha, List.take_succ_eq_append_getElem hb, h, e]
theorem atI_ne {a b : List Int} {i : Nat} (h : atI a i ≠ atI b i) : a ≠ b := fun e => h (by rw [e])
theorem atL_ne {a b : List (List Int)} {i : Nat} (h : atL a i ≠ atL b i) : a ≠ b := fun e => h (by rw [e])

set_option maxHeartbeats 800000 in
theorem ksameInts_is (a b : List Int) (f : Bool) (la ca lb cb : Nat) (A B : Option Addr) (h : decide (a = b) = f) (hla : a.length = la) (hlb : b.length = lb) (hmax : la ≤ 1000000000000) (w : World) (hA : SlK .i64 w A a) (hB : SlK .i64 w B b) :
    Calls Try.prog 17 #[.slice A la ca, .slice B lb cb] w fun e w' => e = .returned (.bool f) ∧ Below w.heap.size w w' := by
  have HF := Lib.hid h
  have HNa := Lib.hid hla
  have HNb := Lib.hid hlb
  have HA := Lib.hid hA
  have HB := Lib.hid hB
  clear h hA hB hla hlb
  go_enter Try.func17, Try.ntmps17
  by_cases hl : la = lb
  · subst hl
    have hlz : ((la : Int) != (la : Int)) = false := by simp
    go_wp2
    go_loopw [4, 5] (fun s4 s5 wr => ∃ i : Nat, i ≤ la ∧ s4 = .bool false ∧ s5 = .int .i64 i ∧ Hid (a.take i = b.take i) ∧ Below w.heap.size w wr) (fun _ s5 _ => la - (intOf s5).toNat)
    case atStart => exact ⟨0, Nat.zero_le _, rfl, rfl, Lib.hid (by simp), Below.refl _ _⟩
    case round =>
      obtain ⟨i, hi, rfl, rfl, HE, hG⟩ := hrel
      by_cases hlt : i < la
      · have ha : i < a.length := by have := HNa.out; omega
        have hb : i < b.length := by have := HNb.out; omega
        obtain ⟨ab, ao, rfl, hab, hac⟩ := HA.out (by omega)
        obtain ⟨bb, bo, rfl, hbb, hbc⟩ := HB.out (by omega)
        have x0 := fun x : Ext wr => x.cell ((hG.cell (p := ⟨ab, ao + i, none⟩) hab).trans (hac i ha))
        have y0 := fun x : Ext wr => x.cell ((hG.cell (p := ⟨bb, bo + i, none⟩) hbb).trans (hbc i hb))
        have hne := Ext.there wr
        have HX : Hid (atI a i = atI b i → a.take (i + 1) = b.take (i + 1)) := Lib.hid (fun e => take_step HE.out ha hb (by rw [← atI_eq ha, ← atI_eq hb, e]))
        have HY : Hid (atI a i ≠ atI b i → f = false) := Lib.hid (fun e => by rw [← HF.out]; exact decide_eq_false (atI_ne e))
        clear hac hbc
        generalize atI a i = x at *
        generalize atI b i = y at *
        by_cases e : x = y
        · have e1 : (x != y) = false := by simpa using e
          have HE2 := Lib.hid (HX.out e)
          clear HX HY
          subst e
          go_wp2_with fail
          refine Ext.region (by kernel_rfl) (by kernel_rfl) ?_
          repeat (go_big_quiet_step (fail))
          refine wpQuiet_nil ?_
          rintro _ ⟨xw, rfl⟩
          replace hG := hG.trans (xw.h.mono hG.size)
          clear x0 y0 hne
          generalize xw.w = w3 at *
          clear xw
          go_wp2_with fail
          go_roundw
          case rel => exact ⟨i + 1, by omega, rfl, by simp, HE2, hG⟩
          case measure => simp [intOf]; omega
        · have e1 : (x != y) = true := by simpa using e
          obtain rfl := HY.out e
          clear HX HY
          go_wp2_with fail
          refine Ext.region (by kernel_rfl) (by kernel_rfl) ?_
          repeat (go_big_quiet_step (fail))
          refine wpQuiet_nil ?_
          rintro _ ⟨xw, rfl⟩
          replace hG := hG.trans (xw.h.mono hG.size)
          clear x0 y0 hne
          generalize xw.w = w3 at *
          clear xw
          go_wp2_with fail
          go_ret
          exact ⟨rfl, hG⟩
      · obtain rfl : i = la := by omega
        have hab : a = b := by
          have := HE.out
          rwa [List.take_of_length_le (by rw [HNa.out]; omega), List.take_of_length_le (by rw [HNb.out]; omega)] at this
        have hf := HF.out
        rw [decide_eq_true hab] at hf
        subst hf
        go_wp2_with fail
        go_ret
        exact ⟨rfl, hG⟩
  · have hlz : ((la : Int) != (lb : Int)) = true := by simp; omega
    have hf := HF.out
    rw [decide_eq_false (fun e => hl (by rw [← HNa.out, ← HNb.out, e]))] at hf
    subst hf
    go_wp2_with fail
    go_ret
    exact ⟨rfl, Below.refl _ _⟩

set_option maxHeartbeats 800000 in
theorem ksameLists_is (a b : List (List Int)) (f : Bool) (la ca lb cb : Nat) (A B : Option Addr) (h : decide (a = b) = f) (hla : a.length = la) (hlb : b.length = lb) (hmax : la ≤ 1000000000000) (hin : ∀ g ∈ a, g.length ≤ 1000000000000) (w : World) (hA : SlL w A a) (hB : SlL w B b) :
    Calls Try.prog 20 #[.slice A la ca, .slice B lb cb] w fun e w' => e = .returned (.bool f) ∧ Below w.heap.size w w' := by
  have HF := Lib.hid h
  have HNa := Lib.hid hla
  have HNb := Lib.hid hlb
  have HA := Lib.hid hA
  have HB := Lib.hid hB
  have HI := Lib.hid hin
  clear h hA hB hla hlb hin
  go_enter Try.func20, Try.ntmps20
  by_cases hl : la = lb
  · subst hl
    have hlz : ((la : Int) != (la : Int)) = false := by simp
    go_wp2
    go_loopw [4, 5] (fun s4 s5 wr => ∃ i : Nat, i ≤ la ∧ s4 = .bool false ∧ s5 = .int .i64 i ∧ Hid (a.take i = b.take i) ∧ Below w.heap.size w wr) (fun _ s5 _ => la - (intOf s5).toNat)
    case atStart => exact ⟨0, Nat.zero_le _, rfl, rfl, Lib.hid (by simp), Below.refl _ _⟩
    case round =>
      obtain ⟨i, hi, rfl, rfl, HE, hG⟩ := hrel
      by_cases hlt : i < la
      · have ha : i < a.length := by have := HNa.out; omega
        have hb : i < b.length := by have := HNb.out; omega
        obtain ⟨ab, ao, rfl, hab, hac⟩ := HA.out (by omega)
        obtain ⟨bb, bo, rfl, hbb, hbc⟩ := HB.out (by omega)
        obtain ⟨C1, c1, p1, S1, _⟩ := hac i ha
        obtain ⟨C2, c2, p2, S2, _⟩ := hbc i hb
        have x0 := fun x : Ext wr => x.cell ((hG.cell (p := ⟨ab, ao + i, none⟩) hab).trans p1)
        have y0 := fun x : Ext wr => x.cell ((hG.cell (p := ⟨bb, bo + i, none⟩) hbb).trans p2)
        have hne := Ext.there wr
        have hlen : (atL a i).length ≤ 1000000000000 := HI.out _ (by rw [atL_eq ha]; exact List.getElem_mem ha)
        have HC := Lib.hid (fun x : Ext wr => ksameInts_is (atL a i) (atL b i) (decide (atL a i = atL b i)) (atL a i).length c1 (atL b i).length c2 C1 C2 rfl rfl rfl hlen x.w ((S1.below hG).below x.h) ((S2.below hG).below x.h))
        have HX : Hid (atL a i = atL b i → a.take (i + 1) = b.take (i + 1)) := Lib.hid (fun e => take_step HE.out ha hb (by rw [← atL_eq ha, ← atL_eq hb, e]))
        have HY : Hid (atL a i ≠ atL b i → f = false) := Lib.hid (fun e => by rw [← HF.out]; exact decide_eq_false (atL_ne e))
        clear hac hbc p1 p2 S1 S2 hlen
        by_cases e : atL a i = atL b i
        · have HE2 := Lib.hid (HX.out e)
          rw [decide_eq_true e] at HC
          clear HX HY e
          generalize (atL a i).length = u at *
          generalize (atL b i).length = v at *
          go_wp2_with fail
          refine Ext.region (by kernel_rfl) (by kernel_rfl) ?_
          repeat (go_big_quiet_step ((go_at_call 17; exact Ext.call _ (HC.out _))))
          refine wpQuiet_nil ?_
          rintro _ ⟨xw, rfl⟩
          replace hG := hG.trans (xw.h.mono hG.size)
          clear x0 y0 hne HC
          generalize xw.w = w3 at *
          clear xw
          go_wp2_with fail
          go_roundw
          case rel => exact ⟨i + 1, by omega, rfl, by simp, HE2, hG⟩
          case measure => simp [intOf]; omega
        · obtain rfl := HY.out e
          rw [decide_eq_false e] at HC
          clear HX HY e
          generalize (atL a i).length = u at *
          generalize (atL b i).length = v at *
          go_wp2_with fail
          refine Ext.region (by kernel_rfl) (by kernel_rfl) ?_
          repeat (go_big_quiet_step ((go_at_call 17; exact Ext.call _ (HC.out _))))
          refine wpQuiet_nil ?_
          rintro _ ⟨xw, rfl⟩
          replace hG := hG.trans (xw.h.mono hG.size)
          clear x0 y0 hne HC
          generalize xw.w = w3 at *
          clear xw
          go_wp2_with fail
          go_ret
          exact ⟨rfl, hG⟩
      · obtain rfl : i = la := by omega
        have hab : a = b := by
          have := HE.out
          rwa [List.take_of_length_le (by rw [HNa.out]; omega), List.take_of_length_le (by rw [HNb.out]; omega)] at this
        have hf := HF.out
        rw [decide_eq_true hab] at hf
        subst hf
        go_wp2_with fail
        go_ret
        exact ⟨rfl, hG⟩
  · have hlz : ((la : Int) != (lb : Int)) = true := by simp; omega
    have hf := HF.out
    rw [decide_eq_false (fun e => hl (by rw [← HNa.out, ← HNb.out, e]))] at hf
    subst hf
    go_wp2_with fail
    go_ret
    exact ⟨rfl, Below.refl _ _⟩
end Go.Proofs.Ytnnhpbkhfaaaeaa
