/- The walk of meter's before: a loop over begins, with a variable that its rounds write. -/
import Derived.Test.YthamkigdpgajaaaNi
namespace Go.Proofs.Ythamkigdpgajaaa
open Go.RowKit Go.Shelf

attribute [local go_sem] Oper.semAt_some

theorem Mt.pres_last {l : List B} {m : Nat} {pre : List (Nat × Int)} {x : Nat × Int} (h : pre ++ [x] <+: pres l m) : x = (pre.length, before l pre.length) ∧ pre.length < m := by
  obtain ⟨k, hk, e⟩ := pres_of h
  have hlen : pre.length + 1 = k := by have := congrArg List.length e; simpa [pres] using this
  subst hlen
  rw [pres_succ] at e
  have := (List.append_inj' e rfl).2
  exact ⟨by simpa using this, by omega⟩
theorem Mt.pres_len (l : List B) (m : Nat) : (pres l m).length = m := by simp [pres]

theorem new1 (w : World) (v : Value) (t : TypeId) (h : v.cells.size = 1 := by rfl) : (w.alloc (.cells #[v] t)).cell? ⟨w.heap.size, 0, none⟩ = some v ∧ (w.alloc (.cells #[v] t)).frozen? ⟨w.heap.size, 0, none⟩ = false := by
  have := h
  exact ⟨by go_simp, by go_simp⟩
theorem At3.low {B : Nat} {X Y : World} {b : Nat} {x y z : Int} (h : At3 X b x y z) (hb : Below B X Y) (hB : b < B) : At3 Y b x y z :=
  ⟨Nat.lt_of_lt_of_le h.lt hb.size, (hb.cell (p := ⟨b, 0, none⟩) hB).trans h.c0, (hb.cell (p := ⟨b, 1, none⟩) hB).trans h.c1, (hb.cell (p := ⟨b, 2, none⟩) hB).trans h.c2⟩

set_option maxHeartbeats 2000000 in
set_option maxRecDepth 100000 in
theorem mbefore_is (l : List Mt.B) (b n d v : Int) (len cap : Nat) (A : Option Addr) (hv : Mt.before l b.toNat + Mt.tk n d = v) (hp : Mt.posB l b n d = true) (hl : l.length = len) (hval : Mt.Val l) (w : World) (hL : SlB w A l) :
    Calls Try.prog 34 #[.slice A len cap, .agg #[.int .i64 b, .int .i64 n, .int .i64 d]] w fun e w' => e = .returned (.int .i64 v) ∧ Below w.heap.size w w' := by
  obtain ⟨hb0, hb1, ht0, _⟩ := Mt.posB_iff.1 hp
  obtain ⟨k, rfl⟩ := Int.eq_ofNat_of_zero_le hb0
  rw [Int.toNat_natCast] at hv hb1
  rw [hl] at hb1
  obtain ⟨t, ht⟩ : ∃ t, Mt.tk n d = t := ⟨_, rfl⟩
  have htl := Mt.tk_le n d
  rw [ht] at hv ht0 htl
  have hl0 : 0 < l.length := hval.1
  have hl4 : len ≤ 4000 := by have := hval.2.1; omega
  obtain ⟨bb, off, rfl, hbb, hc⟩ := hL hl0
  obtain ⟨z, hz⟩ : ∃ z, Mt.before l k = z := ⟨_, rfl⟩
  obtain ⟨hz0, hz1⟩ := Mt.before_bounds hval.ok k (by omega)
  rw [hz] at hv hz0 hz1
  have HT := Lib.hid ht
  have HV := Lib.hid hv
  have HZ := Lib.hid hz
  have HL := Lib.hid hL
  have HVal := Lib.hid hval
  have HN := Lib.hid hl
  clear hp ht hv hz hL hval hl hc hl0 hb0
  refine (callsIn_wide (n := 10)).1 (callsIn_of_wp_marks Try.func34 rfl trivial (wpIn_wide.2 ?_) rfl)
  simp only [Try.ntmps34, List.size_toArray, List.length_cons, List.length_nil, Nat.reduceAdd, Nat.reduceSub, Array.replicate_succ, Array.replicate_zero, List.push_toArray, List.append_toArray, List.nil_append, List.cons_append]
  go_wp2_with (first | (go_at_call 48; refine (mbegins_is _ _ _ _).mono ?_; rintro e w2 ⟨rfl, rfl⟩) | fail)
  obtain ⟨w3, hw3⟩ : ∃ w3, (((w.alloc (.cells #[.int .i64 (k : Int), .int .i64 n, .int .i64 d] 26)).alloc (.cells #[.int .i64 0] 3)).alloc (.cells #[.slice (some ⟨bb, off, none⟩) len cap] 22)) = w3 := ⟨_, rfl⟩
  have hs3 : w3.heap.size = w.heap.size + 3 := by rw [← hw3]; simp
  have G3 : Below w.heap.size w w3 := by rw [← hw3]; exact (((Below.refl _ w).alloc (Nat.le_refl _) _).alloc (by simp) _).alloc (by simp; omega) _
  have P3 : At3 w3 w.heap.size k n d := by rw [← hw3]; exact ((At3.new w k n d 26).alloc _).alloc _
  have T3 : w3.cell? ⟨w.heap.size + 1, 0, none⟩ = some (.int .i64 0) ∧ w3.frozen? ⟨w.heap.size + 1, 0, none⟩ = false := by
    have e := new1 (w.alloc (.cells #[.int .i64 (k : Int), .int .i64 n, .int .i64 d] 26)) (.int .i64 0) 3
    have hb := (Below.refl ((w.alloc (.cells #[.int .i64 (k : Int), .int .i64 n, .int .i64 d] 26)).alloc (.cells #[.int .i64 0] 3)).heap.size _).alloc (Nat.le_refl _) (.cells #[.slice (some ⟨bb, off, none⟩) len cap] 22)
    rw [hw3] at hb
    simp only [World.size_alloc] at e hb
    exact ⟨(hb.cell (p := ⟨w.heap.size + 1, 0, none⟩) (by simp)).trans e.1, (hb.frozen (p := ⟨w.heap.size + 1, 0, none⟩) (by simp)).trans e.2⟩
  have B3 : w3.cell? ⟨w.heap.size + 2, 0, none⟩ = some (.slice (some ⟨bb, off, none⟩) len cap) := by
    have e := (new1 ((w.alloc (.cells #[.int .i64 (k : Int), .int .i64 n, .int .i64 d] 26)).alloc (.cells #[.int .i64 0] 3)) (.slice (some ⟨bb, off, none⟩) len cap) 22).1
    rw [hw3] at e
    simpa only [World.size_alloc] using e
  rw [hw3]
  clear hw3
  refine wp_ranged (gf := 53) (lb := #[.pointer (some ⟨w.heap.size + 1 + 1, 0, none⟩)]) rfl (enters_of Try.func53 (by kernel_rfl) rfl)
    (mbegins_ranged l len cap _ (w.heap.size + 2) (w.heap.size + 1) (w.heap.size + 2) HN.out HVal.out.ok hl4 w3 (by omega) (by omega) (by omega) B3 (fun b o e => by cases e; omega) (HL.out.below G3))
    (Below.refl _ _) (fun h k => h.trans k) (fun X j o o' _ h hc => Keep.putObj h hc) (fun _ => rfl)
    (fun pre X => pre.length ≤ k + 1 ∧ At3 X w.heap.size k n d ∧ X.cell? ⟨w.heap.size + 1, 0, none⟩ = some (.int .i64 (Mt.before l (pre.length - 1))) ∧ X.frozen? ⟨w.heap.size + 1, 0, none⟩ = false ∧ Below w.heap.size w X)
    (fun _ X => At3 X w.heap.size k n d ∧ X.cell? ⟨w.heap.size + 1, 0, none⟩ = some (.int .i64 z) ∧ Below w.heap.size w X)
    0
    (fun s X Y h hb => ⟨h.1, h.2.1.low hb (by omega), (hb.cell (p := ⟨w.heap.size + 1, 0, none⟩) (show w.heap.size + 1 < w3.heap.size by omega)).trans h.2.2.1, (hb.frozen (p := ⟨w.heap.size + 1, 0, none⟩) (show w.heap.size + 1 < w3.heap.size by omega)).trans h.2.2.2.1, h.2.2.2.2.trans (hb.mono (by omega))⟩)
    (fun s X Y h hb => ⟨h.1.low hb (by omega), (hb.cell (p := ⟨w.heap.size + 1, 0, none⟩) (show w.heap.size + 1 < w3.heap.size by omega)).trans h.2.1, h.2.2.trans (hb.mono (by omega))⟩)
    ⟨Nat.zero_le _, P3, T3.1, T3.2, G3⟩
    (fun x => { tmps := #[.slice (some ⟨bb, off, none⟩) len cap, .agg #[.int .i64 (k : Int), .int .i64 n, .int .i64 d], undef, .pointer (some ⟨w.heap.size, 0, none⟩), .int .i64 0, .pointer (some ⟨w.heap.size + 1, 0, none⟩), .int .i64 (x.1 : Int), .int .i64 x.2, .slice (some ⟨bb, off, none⟩) len cap, .func (.func 53) #[] #[.pointer (some ⟨w.heap.size + 1 + 1, 0, none⟩)], .int .i64 (x.1 : Int), .int .i64 x.2, undef, undef, undef, undef, undef, undef, undef, undef, undef, undef], defers := [] }) ?assign ?body ?done ?stop
  case assign =>
    intro L x X K hK
    gi_wp2
    exact hK
  case body =>
    rintro L pre x X hpre ⟨hlen, hP, hT, hF, hG⟩ hsz
    obtain ⟨rfl, hpl⟩ := Mt.pres_last hpre
    dsimp only
    obtain ⟨j, hj⟩ : ∃ j, pre.length = j := ⟨_, rfl⟩
    obtain ⟨y, hy⟩ : ∃ y, Mt.before l j = y := ⟨_, rfl⟩
    rw [hj] at hlen hT hpl ⊢
    rw [hy]
    have HJ := Lib.hid hj
    have HY := Lib.hid hy
    have p0 := hP.c0
    by_cases hjk : j ≤ k
    · have h1 : ¬ (k : Int) < (j : Int) := by omega
      clear hy hj
      gi_wp2
      refine ⟨(KeepsOthers.setCell _ _ _).from _, Keep.setCell (p := ⟨w.heap.size + 1, 0, none⟩) (Nat.le_refl _) (Nat.lt_succ_self _) _, ?_, hP.low ((Below.refl (w.heap.size + 1) X).setCell (p := ⟨w.heap.size + 1, 0, none⟩) (Nat.le_refl _) _) (by omega), ?_, by rw [World.frozen?_setCell]; exact hF, hG.setCell (p := ⟨w.heap.size + 1, 0, none⟩) (Nat.le_succ _) _⟩
      · rw [List.length_append, HJ.out, List.length_singleton]; omega
      · rw [List.length_append, HJ.out, List.length_singleton, Nat.add_sub_cancel, HY.out]
        exact World.cell?_setCell_same' _ _ _ (by rw [hT]; rfl)
    · have h1 : (k : Int) < (j : Int) := by omega
      obtain rfl : j = k + 1 := by omega
      rw [Nat.add_sub_cancel, HZ.out] at hT
      clear hy hj
      gi_wp2
      exact ⟨rfl, KeepsFrom.refl _ _, hP, hT, hG⟩
  case done =>
    rintro D X hD ⟨hlen, hP, hT, hF, hG⟩ hK
    rw [Mt.pres_len] at hlen hT
    obtain rfl : k = len := by omega
    rw [Nat.add_sub_cancel, HZ.out] at hT
    have hlt : D < X.heap.size := (Array.getElem?_eq_some_iff.1 hK).1
    have x0 := fun x : Ext X => x.cell hP.c1
    have x1 := fun x : Ext X => x.cell hP.c2
    have x2 := fun x : Ext X => x.cell hT
    have hne := Ext.there X
    go_wp2_with fail
    refine Ext.region (by kernel_rfl) (by kernel_rfl) ?_
    repeat (go_big_quiet_step ((go_at_call 37; exact Ext.call _ (munits_is n d t HT.out ht0 _))))
    refine wpQuiet_nil ?_
    rintro _ ⟨xw, rfl⟩
    have G4 := hG.trans (xw.h.mono hG.size)
    have K4 := (xw.h.block D hlt).trans hK
    clear x0 x1 x2 hne
    generalize xw.w = w4 at *
    clear xw
    go_wp2_with fail
    refine ⟨by simp, .inl ⟨_, _, rfl, run_takeDeferred K4, ?_⟩⟩
    exact ⟨_, results_tmp rfl _ _ _, by rw [← HV.out]; rfl, G4.trans (putObj_below (by omega) G4.size)⟩
  case stop =>
    rintro D pre X hD hpre ⟨hP, hT, hG⟩ hK
    have hlt : D < X.heap.size := (Array.getElem?_eq_some_iff.1 hK).1
    have x0 := fun x : Ext X => x.cell hP.c1
    have x1 := fun x : Ext X => x.cell hP.c2
    have x2 := fun x : Ext X => x.cell hT
    have hne := Ext.there X
    go_wp2_with fail
    refine Ext.region (by kernel_rfl) (by kernel_rfl) ?_
    repeat (go_big_quiet_step ((go_at_call 37; exact Ext.call _ (munits_is n d t HT.out ht0 _))))
    refine wpQuiet_nil ?_
    rintro _ ⟨xw, rfl⟩
    have G4 := hG.trans (xw.h.mono hG.size)
    have K4 := (xw.h.block D hlt).trans hK
    clear x0 x1 x2 hne
    generalize xw.w = w4 at *
    clear xw
    go_wp2_with fail
    refine ⟨by simp, .inl ⟨_, _, rfl, run_takeDeferred K4, ?_⟩⟩
    exact ⟨_, results_tmp rfl _ _ _, by rw [← HV.out]; rfl, G4.trans (putObj_below (by omega) G4.size)⟩

end Go.Proofs.Ythamkigdpgajaaa
