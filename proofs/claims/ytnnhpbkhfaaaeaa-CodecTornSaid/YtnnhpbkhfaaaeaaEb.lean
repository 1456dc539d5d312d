/- The walks of the landed codec's reader: next, end. -/
import Derived.Test.YtnnhpbkhfaaaeaaEa
import Derived.Test.YtnnhpbkhfaaaeaaCe
import Derived.WalkLawsBesides
namespace Go.Proofs.Ytnnhpbkhfaaaeaa
open Go.RowKit

/-- A reader in block R, over these bytes, at this position. -/
structure Rdr (w : World) (R : Nat) (A : Option Addr) (len cap : Nat) (b : List Nat) (i : Nat) : Prop where
  lt : R < w.heap.size
  c0 : w.cell? ⟨R, 0, none⟩ = some (.slice A len cap)
  c1 : w.cell? ⟨R, 1, none⟩ = some (.int .i64 (i : Int))
  f1 : w.frozen? ⟨R, 1, none⟩ = false
  sl : SlN .u8 w A b
  ap : ∀ a, A = some a → 0 < len → a.block ≠ R
  hl : b.length = len
  le : i ≤ len
theorem Rdr.below {w w' : World} {R : Nat} {A : Option Addr} {len cap : Nat} {b : List Nat} {i : Nat} (h : Rdr w R A len cap b i) (hb : Below w.heap.size w w') : Rdr w' R A len cap b i :=
  ⟨Nat.lt_of_lt_of_le h.lt hb.size, (hb.cell (p := ⟨R, 0, none⟩) h.lt).trans h.c0, (hb.cell (p := ⟨R, 1, none⟩) h.lt).trans h.c1, (hb.frozen (p := ⟨R, 1, none⟩) h.lt).trans h.f1, h.sl.below hb, h.ap, h.hl, h.le⟩
theorem Rdr.step {w : World} {R : Nat} {A : Option Addr} {len cap : Nat} {b : List Nat} {i : Nat} (h : Rdr w R A len cap b i) (hi : i < len) (q : Int) (hq : q = ((i + 1 : Nat) : Int)) : Rdr (w.setCell ⟨R, 1, none⟩ (.int .i64 q)) R A len cap b (i + 1) := by
  subst hq
  refine ⟨by simpa using h.lt, ?_, ?_, (World.frozen?_setCell ..).trans h.f1, fun h0 => ?_, h.ap, h.hl, hi⟩
  · exact (World.cell?_setCell_other (w := w) (a := ⟨R, 1, none⟩) (b := ⟨R, 0, none⟩) (v := .int .i64 ((i + 1 : Nat) : Int)) (fun e => by cases e)).trans h.c0
  · exact World.cell?_setCell_same w _ _ h.c1
  · obtain ⟨bb, off, rfl, hb, hc⟩ := h.sl h0
    have hne := h.ap _ rfl (by rw [← h.hl]; exact h0)
    exact ⟨bb, off, rfl, by simpa using hb, fun j hj => (World.cell?_setCell_other (w := w) (a := ⟨R, 1, none⟩) (b := ⟨bb, off + j, none⟩) (v := .int .i64 ((i + 1 : Nat) : Int)) (fun e => hne (congrArg Addr.block e).symm)).trans (hc j hj)⟩
/-- Grown, but for block R. -/
abbrev Gro (R : Nat) (w w' : World) : Prop := w.grownBy w' (some R)
theorem Gro.setCell {R : Nat} {w : World} (a : Addr) (v : Value) (h : a.block = R) : Gro R w (w.setCell a v) := by
  subst h
  exact ⟨rfl, rfl, rfl, by simp, fun k _ hk => Below.heap_setCell _ _ _ _ (fun e => hk (by rw [e]))⟩
theorem gro_below {R : Nat} {w w' : World} (h : Below w.heap.size w w') : Gro R w w' := ⟨h.os, h.tape, h.output, h.size, fun k hk _ => h.block k hk⟩
theorem Below.gro {B R : Nat} {a w w' : World} (h : Below B a w) (hB : B ≤ w.heap.size) (hR : B ≤ R) (hg : Gro R w w') : Below B a w' := h.grown hg hB (fun k hk => by cases hk; exact hR)
theorem Rdr.grown {w w' : World} {R : Nat} {A : Option Addr} {len cap : Nat} {b : List Nat} {i : Nat} (h : Rdr w R A len cap b i) (hg : w.grownBy w' none) : Rdr w' R A len cap b i :=
  h.below ⟨hg.os, hg.tape, hg.output, hg.size, fun k hk => hg.block k hk (by simp)⟩


set_option maxHeartbeats 800000 in
theorem next_is (R : Nat) (A : Option Addr) (len cap : Nat) (b : List Nat) (i : Nat) (x : Int) (hi : i < len) (hx : (atN b i : Int) = x) (hmax : len ≤ 1000000000) (w : World) (hR : Rdr w R A len cap b i) :
    Calls Try.prog 42 #[.pointer (some ⟨R, 0, none⟩)] w fun e w' => e = .returned (.int .u8 x) ∧ Rdr w' R A len cap b (i + 1) ∧ Gro R w w' := by
  have HR := Lib.hid hR
  obtain ⟨bb, off, rfl, hbb, hc⟩ := hR.sl (by rw [hR.hl]; omega)
  have hcx := hc i (by rw [hR.hl]; exact hi)
  rw [hx] at hcx
  have hap := hR.ap _ rfl (by omega)
  have x0 := fun y : Ext w => y.cell hR.c0
  have x1 := fun y : Ext w => y.cell hR.c1
  have hne := Ext.there w
  have e1 : ((i : Int) == (len : Int)) = false := by simp; omega
  clear hc hR hx
  go_enter Try.func42, Try.ntmps42
  go_wp2_with fail
  refine Ext.region (by kernel_rfl) (by kernel_rfl) ?_
  repeat (go_big_quiet_step (fail))
  refine wpQuiet_nil ?_
  rintro _ ⟨xw, rfl⟩
  have hG := xw.h
  clear x0 x1 hne
  generalize xw.w = w3 at *
  clear xw
  have H3 := HR.out.below hG
  have c1 := H3.c1
  have f1 := H3.f1
  have HS := Lib.hid (H3.step hi ((i : Int) + 1) (by omega))
  have hcx3 : (w3.setCell ⟨R, 1, none⟩ (.int .i64 ((i : Int) + 1))).cell? ⟨bb, off + i, none⟩ = some (.int .u8 x) :=
    (World.cell?_setCell_other (w := w3) (a := ⟨R, 1, none⟩) (b := ⟨bb, off + i, none⟩) (v := .int .i64 ((i : Int) + 1)) (fun e => hap (congrArg Addr.block e).symm)).trans ((hG.cell (p := ⟨bb, off + i, none⟩) hbb).trans hcx)
  have HG4 : Hid (Gro R w (w3.setCell ⟨R, 1, none⟩ (.int .i64 ((i : Int) + 1)))) := Lib.hid ((gro_below hG).trans (Gro.setCell _ _ rfl))
  clear H3 hcx
  go_wp2_with fail
  clear c1 f1
  generalize w3.setCell ⟨R, 1, none⟩ (.int .i64 ((i : Int) + 1)) = w4 at *
  have y0 := fun y : Ext w4 => y.cell HS.out.c0
  have y1 := fun y : Ext w4 => y.cell HS.out.c1
  have y2 := fun y : Ext w4 => y.cell hcx3
  have hne := Ext.there w4
  have i1 : (((i + 1 : Nat) : Int) - 1) = i := by omega
  refine Ext.region (by kernel_rfl) (by kernel_rfl) ?_
  repeat (go_big_quiet_step (fail))
  refine wpQuiet_nil ?_
  rintro _ ⟨xw, rfl⟩
  have hG5 := xw.h
  clear y0 y1 y2 hne
  generalize xw.w = w5 at *
  clear xw
  go_wp2_with fail
  go_ret
  exact ⟨rfl, HS.out.below hG5, HG4.out.trans (gro_below hG5)⟩

set_option maxHeartbeats 800000 in
theorem next_none (R : Nat) (A : Option Addr) (len cap : Nat) (b : List Nat) (i : Nat) (hi : i = len) (w : World) (hR : Rdr w R A len cap b i) :
    Calls Try.prog 42 #[.pointer (some ⟨R, 0, none⟩)] w fun e w' => e = .panicked [{ v := .iface 25 (.int .i64 7), recovered := false }] ∧ Gro R w w' := by
  subst hi
  have x0 := fun y : Ext w => y.cell hR.c0
  have x1 := fun y : Ext w => y.cell hR.c1
  have hne := Ext.there w
  have e1 : ((i : Int) == (i : Int)) = true := by simp
  clear hR
  go_enter Try.func42, Try.ntmps42
  go_wp2_with fail
  refine Ext.region (by kernel_rfl) (by kernel_rfl) ?_
  repeat (go_big_quiet_step (fail))
  refine wpQuiet_nil ?_
  rintro _ ⟨xw, rfl⟩
  have hG := xw.h
  clear x0 x1 hne
  generalize xw.w = w3 at *
  clear xw
  go_wp2_with fail
  exact ⟨rfl, rfl, gro_below hG⟩

set_option maxHeartbeats 800000 in
theorem end_is (R : Nat) (A : Option Addr) (len cap : Nat) (b : List Nat) (i : Nat) (hi : i = len) (w : World) (hR : Rdr w R A len cap b i) :
    Calls Try.prog 30 #[.pointer (some ⟨R, 0, none⟩)] w fun e w' => e = .returned (.tuple #[]) ∧ Below w.heap.size w w' := by
  subst hi
  have x0 := fun y : Ext w => y.cell hR.c0
  have x1 := fun y : Ext w => y.cell hR.c1
  have hne := Ext.there w
  have e1 : ((i : Int) != (i : Int)) = false := by simp
  clear hR
  go_enter Try.func30, Try.ntmps30
  go_wp2_with fail
  refine Ext.region (by kernel_rfl) (by kernel_rfl) ?_
  repeat (go_big_quiet_step (fail))
  refine wpQuiet_nil ?_
  rintro _ ⟨xw, rfl⟩
  have hG := xw.h
  clear x0 x1 hne
  generalize xw.w = w3 at *
  clear xw
  go_wp2_with fail
  go_end0
  exact ⟨rfl, hG⟩

set_option maxHeartbeats 800000 in
theorem end_none (R : Nat) (A : Option Addr) (len cap : Nat) (b : List Nat) (i : Nat) (hi : i < len) (w : World) (hR : Rdr w R A len cap b i) :
    Calls Try.prog 30 #[.pointer (some ⟨R, 0, none⟩)] w fun e w' => e = .panicked [{ v := .iface 25 (.int .i64 7), recovered := false }] ∧ Below w.heap.size w w' := by
  have x0 := fun y : Ext w => y.cell hR.c0
  have x1 := fun y : Ext w => y.cell hR.c1
  have hne := Ext.there w
  have e1 : ((i : Int) != (len : Int)) = true := by simp; omega
  clear hR
  go_enter Try.func30, Try.ntmps30
  go_wp2_with fail
  refine Ext.region (by kernel_rfl) (by kernel_rfl) ?_
  repeat (go_big_quiet_step (fail))
  refine wpQuiet_nil ?_
  rintro _ ⟨xw, rfl⟩
  have hG := xw.h
  clear x0 x1 hne
  generalize xw.w = w3 at *
  clear xw
  go_wp2_with fail
  exact ⟨rfl, rfl, hG⟩
end Go.Proofs.Ytnnhpbkhfaaaeaa
