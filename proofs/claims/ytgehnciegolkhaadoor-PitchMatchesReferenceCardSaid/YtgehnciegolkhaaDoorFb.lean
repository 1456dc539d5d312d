/- The walks of pitch's functions on intervals, places and numbers. -/
import Derived.Test.YtgehnciegolkhaaDoorFa
import Derived.WalkSmall
import Derived.Shelf.Strconv.Itoa3
namespace Go.Proofs.YtgehnciegolkhaaDoor
open Go.RowKit

theorem gPow : Tryd.prog.globalNamed "internal/strconv.uint64pow10" = some 2 := by kernel_rfl
/-- What the tables hold that are read. -/
structure Glob (w : World) : Prop where
  lt : 0 < w.heap.size
  ltp : 2 < w.heap.size
  nums : ∀ s : Int, 0 ≤ s → s ≤ 6 → w.cell? ⟨0, s.toNat, none⟩ = some (.int .i64 (Pt.natI s))
  pow : Lib.TabIs Tryd.prog w "internal/strconv.uint64pow10" .u64 Lib.pow10Tab
theorem Glob.below {w w' : World} (h : Glob w) (hb : Below w.heap.size w w') : Glob w' :=
  ⟨Nat.lt_of_lt_of_le h.lt hb.size, Nat.lt_of_lt_of_le h.ltp hb.size, fun s h0 h1 => (hb.cell (p := ⟨0, s.toNat, none⟩) h.lt).trans (h.nums s h0 h1), var?_below hb gPow h.ltp h.pow⟩
theorem Glob.alloc {w : World} (h : Glob w) (o : Obj) : Glob (w.alloc o) := h.below ((Below.refl _ _).alloc (Nat.le_refl _) _)

set_option maxHeartbeats 800000 in
theorem wellFormed_is (i t : Int) (v : Bool) (hv : Pt.iv i t = v) (w : World) :
    Calls Tryd.prog 32 #[.agg #[.int .i64 i, .int .i64 t]] w fun e w' => e = .returned (.bool v) ∧ Below w.heap.size w w' := by
  obtain ⟨x, hx⟩ : ∃ x, nr i (-70) 70 = x := ⟨_, rfl⟩
  obtain ⟨y, hy⟩ : ∃ y, nr t (-120) 120 = y := ⟨_, rfl⟩
  have e : v = (decide (i = x) && decide (t = y)) := by
    rw [← hv, Bool.eq_iff_iff, Pt.iv_iff, ← hx, ← hy]
    simp only [Bool.and_eq_true, decide_eq_true_eq]
    rw [eq_comm (a := i), eq_comm (a := t), nr_eq (by omega), nr_eq (by omega)]
    omega
  have HX := Lib.hid hx
  have HY := Lib.hid hy
  clear hx hy hv
  by_cases h1 : i = x <;> by_cases h2 : t = y
  all_goals
    simp only [h1, h2, decide_true, decide_false, Bool.and_true, Bool.and_false] at e
    subst e
    try subst h1
    try subst h2
    go_enter Tryd.func32, Tryd.ntmps32
    go_wp2_with fail
    go_quiet ((go_at_call 28; first | (with_reducible exact quiet_left (nearest_is _ _ _ _ HX.out _)) | (with_reducible exact quiet_left (nearest_is _ _ _ _ HY.out _))))
    go_wp2_with fail
    go_ret
    exact ⟨rfl, below_drewN (by go_grown) _⟩

set_option maxHeartbeats 400000 in
theorem pplace_any (s a o : Int) (w : World) (h0 : -1000 ≤ s) (h1 : s ≤ 1000) (h2 : -1000 ≤ o) (h3 : o ≤ 1000) :
    Calls Tryd.prog 34 #[.agg #[.int .i64 s, .int .i64 a, .int .i64 o]] w fun e w' => e = .returned (.int .i64 (7 * o + s)) ∧ Below w.heap.size w w' := by
  go_enter Tryd.func34, Tryd.ntmps34
  go_wp2_with fail
  go_ret
  exact ⟨rfl, by go_grown⟩

/-- The place and the number of a pitch with a right step that is not far out. -/
structure NGood (s a o P N : Int) : Prop where
  eP : 7 * o + s = P
  eN : Pt.snd s a o = N
  h0 : 0 ≤ s
  h1 : s ≤ 6
  h2 : -1000 ≤ o
  h3 : o ≤ 1000
  h4 : -1000 ≤ a
  h5 : a ≤ 1000
theorem pplace_is (s a o P N : Int) (g : NGood s a o P N) (w : World) :
    Calls Tryd.prog 34 #[.agg #[.int .i64 s, .int .i64 a, .int .i64 o]] w fun e w' => e = .returned (.int .i64 P) ∧ Below w.heap.size w w' :=
  g.eP ▸ pplace_any s a o w (by have := g.h0; omega) (by have := g.h1; omega) g.h2 g.h3

set_option maxHeartbeats 800000 in
theorem pnumber_is (s a o P N : Int) (g : NGood s a o P N) (w : World) (hG : Glob w) :
    Calls Tryd.prog 30 #[.agg #[.int .i64 s, .int .i64 a, .int .i64 o]] w fun e w' => e = .returned (.int .i64 N) ∧ Below w.heap.size w w' := by
  obtain ⟨-, e, h0, h1, h2, h3, h4, h5⟩ := g
  subst e
  have n1 := Pt.natI_in h0 h1
  have hn := (hG.alloc (.cells #[.int .i64 s, .int .i64 a, .int .i64 o] 23)).nums s h0 h1
  have E : Hid (Pt.snd s a o = 12 * o + Pt.natI s + a) := Lib.hid rfl
  rw [E.out]
  generalize Pt.natI s = n at *
  obtain ⟨n1, n2⟩ := n1
  have A := At3.new w s a o 23
  have xa0 := fun x : Ext (w.alloc (.cells #[.int .i64 s, .int .i64 a, .int .i64 o] 23)) => x.cell A.c0
  have xa1 := fun x : Ext (w.alloc (.cells #[.int .i64 s, .int .i64 a, .int .i64 o] 23)) => x.cell A.c1
  have xa2 := fun x : Ext (w.alloc (.cells #[.int .i64 s, .int .i64 a, .int .i64 o] 23)) => x.cell A.c2
  have xn := fun x : Ext (w.alloc (.cells #[.int .i64 s, .int .i64 a, .int .i64 o] 23)) => x.cell hn
  have hne := Ext.there (w.alloc (.cells #[.int .i64 s, .int .i64 a, .int .i64 o] 23))
  have hlt : s.toNat < 7 := by omega
  clear hn E A hG
  go_enter Tryd.func30, Tryd.ntmps30
  go_wp2_with fail
  refine Ext.region (by kernel_rfl) (by kernel_rfl) ?_
  repeat (go_big_quiet_step (fail))
  refine wpQuiet_nil ?_
  rintro _ ⟨xw, rfl⟩
  have hb := xw.h
  generalize xw.w = w3 at *
  clear xw
  go_wp2_with fail
  go_ret
  exact ⟨rfl, ((Below.refl _ _).alloc (Nat.le_refl _) _).trans (hb.mono (by simp))⟩
end Go.Proofs.YtgehnciegolkhaaDoor
