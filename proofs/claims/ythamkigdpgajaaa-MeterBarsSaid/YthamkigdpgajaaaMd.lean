/- The walks of the reference's at, Total, Time, Where. -/
import Derived.Test.YthamkigdpgajaaaMc
namespace Go.Proofs.Ythamkigdpgajaaa
open Go.RowKit

namespace Mt
def mv (i : Nat) (o : Option (Nat × Int)) : Option (Nat × Int) := o.map fun p => (i + p.1, p.2)
theorem mv_zero (o : Option (Nat × Int)) : mv 0 o = o := by cases o <;> simp [mv]
theorem wh_drop {l : List B} {i : Nat} (n : Int) (h : i < l.length) : mv i (wh (l.drop i) n) = if 0 ≤ n ∧ n < bt l[i] then some (i, n) else mv (i + 1) (wh (l.drop (i + 1)) (n - bt l[i])) := by
  rw [List.drop_eq_getElem_cons h, wh]
  split
  · rfl
  · cases wh (l.drop (i + 1)) (n - bt l[i]) with
    | none => rfl
    | some p => simp [mv]; omega
theorem wh_end {l : List B} {i : Nat} (n : Int) (h : l.length ≤ i) : mv i (wh (l.drop i) n) = if n = 0 then some (i, 0) else none := by
  rw [List.drop_eq_nil_of_le h, wh]
  split <;> rfl
end Mt
def AtP (O : Option (Nat × Int)) (e : Ending) : Prop := match O with
  | none => e = .returned (.tuple #[.agg #[.int .i64 0, .int .i64 0, .int .i64 0], .bool false])
  | some (k, t) => e = .returned (.tuple #[.agg #[.int .i64 (k : Int), .int .i64 (Mt.oN t.toNat), .int .i64 (Mt.oD t.toNat)], .bool true])

set_option maxHeartbeats 1600000 in
theorem kat_is (l : List Mt.B) (n : Int) (O : Option (Nat × Int)) (len cap : Nat) (A : Option Addr) (h : Mt.wh l n = O) (hl : l.length = len) (hok : ∀ b ∈ l, Mt.okB b) (hmax : len ≤ 4000) (hn0 : -4000000000000 ≤ n) (hn1 : n ≤ 4000000000000) (w : World) (hL : SlB w A l) :
    Calls Try.prog 39 #[.slice A len cap, .int .i64 n] w fun e w' => AtP O e ∧ Below w.heap.size w w' := by
  have HO : Hid (Mt.mv 0 (Mt.wh (l.drop 0) n) = O) := Lib.hid (by rw [Mt.mv_zero, List.drop_zero]; exact h)
  have HN := Lib.hid hl
  have HOK := Lib.hid hok
  have HL := Lib.hid hL
  have G0 := (Below.refl w.heap.size w).alloc (Nat.le_refl _) (.cells #[.int .i64 0, .int .i64 0, .int .i64 0] 26)
  have V0 : Var3 (w.alloc (.cells #[.int .i64 0, .int .i64 0, .int .i64 0] 26)) w.heap.size 0 0 0 := Var3.new _ _ _ _ _
  clear h hl hok hL
  go_enter Try.func39, Try.ntmps39
  go_wp2_with fail
  go_loopw [1, 6] (fun s1 s6 wr => ∃ (i : Nat) (q z : Int), i ≤ len ∧ q = i ∧ s6 = .int .i64 q ∧ s1 = .int .i64 z ∧ -4000000000000 - 40320 * q ≤ z ∧ z ≤ 4000000000000 ∧ Hid (Mt.mv i (Mt.wh (l.drop i) z) = O) ∧ Hid (Var3 wr w.heap.size 0 0 0) ∧ Below w.heap.size w wr) (fun _ s6 _ => len - (intOf s6).toNat)
  case atStart => exact ⟨0, 0, n, Nat.zero_le _, rfl, rfl, rfl, by omega, by omega, HO, Lib.hid V0, G0⟩
  case round =>
    clear HO V0 G0
    obtain ⟨i, q, z, hi, hq, rfl, rfl, z0, z1, HE, HV, hG⟩ := hrel
    by_cases hlt : i < len
    · have hil : i < l.length := by rw [HN.out]; omega
      obtain ⟨bb, off, rfl, hbb, hc⟩ := HL.out (by omega)
      obtain ⟨_, c1, c2, _⟩ := hc i hil
      have x1 := (hG.cell (p := ⟨bb, off + i * 4 + 1, none⟩) hbb).trans c1
      have x2 := (hG.cell (p := ⟨bb, off + i * 4 + 2, none⟩) hbb).trans c2
      have ho := HOK.out _ (List.getElem_mem hil)
      have hw := Mt.wh_drop z hil
      rw [← atB_eq hil] at ho hw
      obtain ⟨_, _, t1, t2, _, _⟩ := ho
      obtain ⟨t, ht⟩ : ∃ t, Mt.bt (atB l i) = t := ⟨_, rfl⟩
      rw [ht] at t1 t2 hw
      rw [HE.out] at hw
      have HT : Hid (Mt.tk (atB l i).2.1 (atB l i).2.2.1 = t) := Lib.hid ht
      have hq1 : q < (len : Int) := by omega
      have hq3 : 0 ≤ q := by omega
      have hqn : q.toNat = i := by omega
      have HQ := Lib.hid hq
      have hq4 : q ≤ 4000 := by omega
      clear hc c1 c2 ht HE hil hq
      generalize (atB l i).2.1 = n2 at *
      generalize (atB l i).2.2.1 = d2 at *
      by_cases hin : 0 ≤ z ∧ z < t
      · rw [if_pos hin] at hw
        subst hw
        obtain ⟨i0, i1⟩ := hin
        have i0' : z ≥ 0 := i0
        obtain ⟨Z, rfl⟩ := Int.eq_ofNat_of_zero_le i0
        obtain ⟨N, hN⟩ : ∃ N, Mt.oN Z = N := ⟨_, rfl⟩
        obtain ⟨D, hD⟩ : ∃ D, Mt.oD Z = D := ⟨_, rfl⟩
        have HNN := Lib.hid hN
        have HDD := Lib.hid hD
        have hZ : Z ≤ 1000000000000000 := by omega
        clear hN hD
        go_wp2_with (first | (go_at_call 31; refine (kticks_is n2 d2 t HT.out _).mono ?_; rintro e w2 ⟨rfl, hb⟩; have G2 := hG.trans (hb.mono hG.size); have V2 := HV.out.below hb) | (go_at_call 28; refine (kof_is Z N D HNN.out HDD.out hZ _).mono ?_; rintro e w4 ⟨rfl, hb4⟩; have G4 := G2.trans (hb4.mono G2.size); have V4 := V2.below hb4; obtain ⟨v0, v1, v2, f0, f1, f2⟩ := And.intro V4.at3.c0 (And.intro V4.at3.c1 (And.intro V4.at3.c2 (And.intro V4.f0 (And.intro V4.f1 V4.f2))))) | fail)
        refine bodyPost_ret (v := .tuple #[.agg #[.int .i64 q, .int .i64 N, .int .i64 D], .bool true]) (by simp [results, Try.results39, go_sem, v0, v1, v2]) rfl ⟨by rw [← HNN.out, ← HDD.out, HQ.out]; rfl, ((G4.setCell (by simp <;> omega) _).setCell (by simp <;> omega) _).setCell (by simp <;> omega) _⟩
      · rw [if_neg hin] at hw
        have HM := Lib.hid hw.symm
        clear hw
        by_cases i0 : 0 ≤ z
        · have i1 : ¬ z < t := fun h => hin ⟨i0, h⟩
          have i0' : z ≥ 0 := i0
          clear hin
          go_wp2_with (first | (go_at_call 31; refine (kticks_is n2 d2 t HT.out _).mono ?_; rintro e w2 ⟨rfl, hb⟩; have G2 := hG.trans (hb.mono hG.size); have V2 := HV.out.below hb) | fail)
          go_roundw
          case rel => exact ⟨i + 1, q + 1, z - t, by omega, (by have := HQ.out; omega), rfl, rfl, by omega, by omega, HM, Lib.hid V2, G2⟩
          case measure => have := HQ.out; simp [intOf]; omega
        · clear hin
          go_wp2_with (first | (go_at_call 31; refine (kticks_is n2 d2 t HT.out _).mono ?_; rintro e w2 ⟨rfl, hb⟩; have G2 := hG.trans (hb.mono hG.size); have V2 := HV.out.below hb) | fail)
          go_roundw
          case rel => exact ⟨i + 1, q + 1, z - t, by omega, (by have := HQ.out; omega), rfl, rfl, by omega, by omega, HM, Lib.hid V2, G2⟩
          case measure => have := HQ.out; simp [intOf]; omega
    · obtain rfl : i = len := by omega
      have hq1 : ¬ q < (i : Int) := by omega
      have hw := Mt.wh_end (l := l) (i := i) z (by rw [HN.out]; exact Nat.le_refl _)
      rw [HE.out] at hw
      clear hq
      by_cases hz : z = 0
      · rw [if_pos hz] at hw
        subst hw
        subst hz
        go_wp2_with (first | (go_at_call 28; refine (kof_is 0 0 1 rfl rfl (by omega) _).mono ?_; rintro e w4 ⟨rfl, hb4⟩; have G4 := hG.trans (hb4.mono hG.size); have V4 := HV.out.below hb4; obtain ⟨v0, v1, v2, f0, f1, f2⟩ := And.intro V4.at3.c0 (And.intro V4.at3.c1 (And.intro V4.at3.c2 (And.intro V4.f0 (And.intro V4.f1 V4.f2))))) | fail)
        refine bodyPost_ret (v := .tuple #[.agg #[.int .i64 (i : Int), .int .i64 0, .int .i64 1], .bool true]) (by simp [results, Try.results39, go_sem, v0, v1, v2]) rfl ⟨rfl, ((G4.setCell (by simp <;> omega) _).setCell (by simp <;> omega) _).setCell (by simp <;> omega) _⟩
      · rw [if_neg hz] at hw
        subst hw
        have hz' : (z == 0) = false := by simpa using hz
        have G4 := hG
        have V4 := HV.out
        obtain ⟨v0, v1, v2, f0, f1, f2⟩ := And.intro V4.at3.c0 (And.intro V4.at3.c1 (And.intro V4.at3.c2 (And.intro V4.f0 (And.intro V4.f1 V4.f2))))
        clear hz
        go_wp2_with fail
        refine bodyPost_ret (v := .tuple #[.agg #[.int .i64 0, .int .i64 0, .int .i64 0], .bool false]) (by simp [results, Try.results39, go_sem, v0, v1, v2]) rfl ⟨rfl, ((G4.setCell (by simp <;> omega) _).setCell (by simp <;> omega) _).setCell (by simp <;> omega) _⟩

namespace Mt
theorem before_bounds {l : List B} (hok : ∀ b ∈ l, okB b) : ∀ k, k ≤ l.length → 0 ≤ before l k ∧ before l k ≤ 40320 * (k : Int)
  | 0, _ => by rw [before_zero]; omega
  | k + 1, h => by
    have ih := before_bounds hok k (by omega)
    have := hok _ (List.getElem_mem (show k < l.length by omega))
    obtain ⟨_, _, t1, t2, _, _⟩ := this
    rw [before_succ (by omega)]
    omega
def totN (l : List B) : Int := oN (before l l.length).toNat
def totD (l : List B) : Int := oD (before l l.length).toNat
end Mt
/-- A ratio and an error, or none and ErrArg. -/
def RatP (f : Bool) (N D : Int) (e : Ending) : Prop := if f = true then e = .returned (.tuple #[.agg #[.int .i64 N, .int .i64 D], .int .i64 0]) else e = .returned (.tuple #[.agg #[.int .i64 0, .int .i64 0], .int .i64 1])

set_option maxHeartbeats 800000 in
theorem ktotal_is (l : List Mt.B) (f : Bool) (N D : Int) (len cap : Nat) (A : Option Addr) (hv : f = true ↔ Mt.Val l) (hN : Mt.totN l = N) (hD : Mt.totD l = D) (hl : l.length = len) (w : World) (hL : SlB w A l) :
    Calls Try.prog 12 #[.slice A len cap] w fun e w' => RatP f N D e ∧ Below w.heap.size w w' := by
  have HV := Lib.hid hv
  have HN := Lib.hid hl
  have HL := Lib.hid hL
  have G0 := (Below.refl w.heap.size w).alloc (Nat.le_refl _) (.cells #[.int .i64 0, .int .i64 0] 24)
  have V0 : Var2 (w.alloc (.cells #[.int .i64 0, .int .i64 0] 24)) w.heap.size 0 0 := Var2.new _ _ _ _
  have HL0 := Lib.hid (hL.alloc (.cells #[.int .i64 0, .int .i64 0] 24))
  cases f with
  | false =>
    clear hv hl hL
    go_enter Try.func12, Try.ntmps12
    go_wp2_with (first | (go_at_call 14; refine (kvalid_is l false len cap A HV.out HN.out _ HL0.out).mono ?_; rintro e w2 ⟨rfl, hb⟩; have G4 := G0.trans (hb.mono G0.size); have V4 := V0.below hb; obtain ⟨v0, v1, f0, f1⟩ := And.intro V4.at2.c0 (And.intro V4.at2.c1 (And.intro V4.f0 V4.f1))) | fail)
    refine bodyPost_ret (v := .tuple #[.agg #[.int .i64 0, .int .i64 0], .int .i64 1]) (by simp [results, Try.results12, go_sem, v0, v1]) rfl ⟨rfl, (G4.setCell (by simp <;> omega) _).setCell (by simp <;> omega) _⟩
  | true =>
    have hval := hv.1 rfl
    obtain ⟨b, hb⟩ := Int.eq_ofNat_of_zero_le (Mt.before_bounds hval.ok _ (Nat.le_refl _)).1
    have hb2 := (Mt.before_bounds hval.ok _ (Nat.le_refl l.length)).2
    have hl4 := hval.2.1
    unfold Mt.totN at hN
    unfold Mt.totD at hD
    rw [hb] at hN hD hb2
    rw [Int.toNat_natCast] at hN hD
    rw [hl] at hb hb2 hl4
    have HB := Lib.hid hb
    have HNN := Lib.hid hN
    have HDD := Lib.hid hD
    have HOK := Lib.hid hval.ok
    have hbm : b ≤ 1000000000000000 := by omega
    clear hv hl hL hval hb hN hD hb2
    go_enter Try.func12, Try.ntmps12
    go_wp2_with (first | (go_at_call 14; refine (kvalid_is l true len cap A HV.out HN.out _ HL0.out).mono ?_; rintro e w2 ⟨rfl, hb⟩; have G2 := G0.trans (hb.mono G0.size); have V2 := V0.below hb; have L2 := HL0.out.below hb; clear hb) | (go_at_call 29; refine (kbefore_is l len (b : Int) len cap A HB.out HN.out (Nat.le_refl _) HOK.out hl4 _ L2).mono ?_; rintro e w3 ⟨rfl, hb⟩; have G3 := G2.trans (hb.mono G2.size); have V3 := V2.below hb; clear hb) | (go_at_call 28; refine (kof_is b N D HNN.out HDD.out hbm _).mono ?_; rintro e w4 ⟨rfl, hb⟩; have G4 := G3.trans (hb.mono G3.size); have V4 := V3.below hb; obtain ⟨v0, v1, f0, f1⟩ := And.intro V4.at2.c0 (And.intro V4.at2.c1 (And.intro V4.f0 V4.f1))) | fail)
    refine bodyPost_ret (v := .tuple #[.agg #[.int .i64 N, .int .i64 D], .int .i64 0]) (by simp [results, Try.results12, go_sem, v0, v1]) rfl ⟨rfl, (G4.setCell (by simp <;> omega) _).setCell (by simp <;> omega) _⟩
end Go.Proofs.Ythamkigdpgajaaa
