/- The walk of the laws' head: the chapter's examples. -/
import Derived.Test.YtgehnciegolkhaaDoorFp
namespace Go.Proofs.YtgehnciegolkhaaDoor
open Go.RowKit

set_option maxHeartbeats 400000 in
theorem of_any (s a o : Int) (w : World) :
    Calls Tryd.prog 27 #[.int .i64 s, .int .i64 a, .int .i64 o] w fun e w' => e = .returned (.agg #[.int .i64 s, .int .i64 a, .int .i64 o]) ∧ Below w.heap.size w w' := by
  go_enter Tryd.func27, Tryd.ntmps27
  go_wp2_with fail
  refine bodyPost_ret (v := .agg #[.int .i64 s, .int .i64 a, .int .i64 o]) (by simp [results, Tryd.results27, go_sem]) rfl ⟨rfl, by go_grown⟩

theorem h_n1 : Pt.numR 0 0 4 = (48, 0) := by decide +kernel
theorem h_n2 : Pt.numR 6 1 3 = (48, 0) := by decide +kernel
theorem h_n3 : Pt.numR 0 (-1) 4 = (47, 0) := by decide +kernel
theorem h_n4 : Pt.numR 7 0 4 = (0, 1) := by decide +kernel
theorem h_a1 : Pt.addR 3 1 4 2 3 = (5, 0, 4, 0) := by decide +kernel
theorem h_a2 : Pt.addR 0 0 4 0 5 = (0, 0, 0, 3) := by decide +kernel
theorem h_b1 : Pt.betR 4 0 4 2 (-1) 5 = (5, 8, 0) := by decide +kernel
theorem h_t1 : Tx.txR 3 1 4 = (⟨#[70, 35, 52]⟩, 0) := by decide +kernel
theorem h_t2 : Tx.txR 6 (-2) (-1) = (⟨#[66, 98, 98, 45, 49]⟩, 0) := by decide +kernel
theorem h_p1 : Tx.paR ⟨#[66, 98, 98, 45, 49]⟩ = (6, -2, -1, 0) := by decide +kernel
theorem h_p2 : Tx.paR ⟨#[72, 52]⟩ = (0, 0, 0, 7) := by decide +kernel

set_option maxHeartbeats 1600000 in
set_option maxRecDepth 100000 in
theorem head_any (w : World) (hG : Glob w) :
    Calls Tryd.prog 9 #[] w fun e w' => e = .returned (.bool true) ∧ Below w.heap.size w w' := by
  go_enter Tryd.func9, Tryd.ntmps9
  go_wp2_with fail
  have B := Below.refl w.heap.size w
  refine (of_any _ _ _ _).mono ?_; rintro e w1 ⟨rfl, hb⟩
  replace hG := hG.below hb
  replace B := B.trans (hb.mono (by have := B.size; simp <;> omega))
  clear hb
  go_wp2_with fail
  refine (number_is _ _ _ _ _ h_n1 _ hG).mono ?_; rintro e w2 ⟨rfl, hb⟩
  replace hG := hG.below hb
  replace B := B.trans (hb.mono (by have := B.size; simp <;> omega))
  clear hb
  go_wp2_with fail
  refine (of_any _ _ _ _).mono ?_; rintro e w3 ⟨rfl, hb⟩
  replace hG := hG.below hb
  replace B := B.trans (hb.mono (by have := B.size; simp <;> omega))
  clear hb
  go_wp2_with fail
  refine (number_is _ _ _ _ _ h_n2 _ hG).mono ?_; rintro e w4 ⟨rfl, hb⟩
  replace hG := hG.below hb
  replace B := B.trans (hb.mono (by have := B.size; simp <;> omega))
  clear hb
  go_wp2_with fail
  refine (of_any _ _ _ _).mono ?_; rintro e w5 ⟨rfl, hb⟩
  replace hG := hG.below hb
  replace B := B.trans (hb.mono (by have := B.size; simp <;> omega))
  clear hb
  go_wp2_with fail
  refine (number_is _ _ _ _ _ h_n3 _ hG).mono ?_; rintro e w6 ⟨rfl, hb⟩
  replace hG := hG.below hb
  replace B := B.trans (hb.mono (by have := B.size; simp <;> omega))
  clear hb
  go_wp2_with fail
  refine (of_any _ _ _ _).mono ?_; rintro e w7 ⟨rfl, hb⟩
  replace hG := hG.below hb
  replace B := B.trans (hb.mono (by have := B.size; simp <;> omega))
  clear hb
  go_wp2_with fail
  refine (add_is _ _ _ _ _ _ _ _ _ h_a1 _ hG).mono ?_; rintro e w8 ⟨rfl, hb⟩
  replace hG := hG.below hb
  replace B := B.trans (hb.mono (by have := B.size; simp <;> omega))
  clear hb
  go_wp2_with fail
  refine (of_any _ _ _ _).mono ?_; rintro e w9 ⟨rfl, hb⟩
  have d := (At3.new _ (5) (0) (4) _).below hb
  replace hG := (hG.alloc _).below hb
  replace B := (B.alloc (by have := B.size; simp <;> omega) _).trans (hb.mono (by have := B.size; simp <;> omega))
  clear hb
  go_wp2_with fail
  refine (of_any _ _ _ _).mono ?_; rintro e w10 ⟨rfl, hb⟩
  replace d := d.below hb
  replace hG := hG.below hb
  replace B := B.trans (hb.mono (by have := B.size; simp <;> omega))
  clear hb
  go_wp2_with fail
  refine (between_is _ _ _ _ _ _ _ _ _ h_b1 _ hG).mono ?_; rintro e w11 ⟨rfl, hb⟩
  replace d := d.below hb
  replace hG := hG.below hb
  replace B := B.trans (hb.mono (by have := B.size; simp <;> omega))
  clear hb
  go_wp2_with fail
  refine (of_any _ _ _ _).mono ?_; rintro e w12 ⟨rfl, hb⟩
  replace d := (d.alloc _).below hb
  have i := (At2.new _ (5) (8) _).below hb
  replace hG := (hG.alloc _).below hb
  replace B := (B.alloc (by have := B.size; simp <;> omega) _).trans (hb.mono (by have := B.size; simp <;> omega))
  clear hb
  go_wp2_with fail
  refine (add_is _ _ _ _ _ _ _ _ _ h_a2 _ hG).mono ?_; rintro e w13 ⟨rfl, hb⟩
  replace d := d.below hb
  replace i := i.below hb
  replace hG := hG.below hb
  replace B := B.trans (hb.mono (by have := B.size; simp <;> omega))
  clear hb
  go_wp2_with fail
  refine (of_any _ _ _ _).mono ?_; rintro e w14 ⟨rfl, hb⟩
  replace d := (d.alloc _).below hb
  replace i := (i.alloc _).below hb
  replace hG := (hG.alloc _).below hb
  replace B := (B.alloc (by have := B.size; simp <;> omega) _).trans (hb.mono (by have := B.size; simp <;> omega))
  clear hb
  go_wp2_with fail
  refine (text_is _ _ _ _ _ h_t1 _ hG).mono ?_; rintro e w15 ⟨rfl, hb⟩
  replace d := d.below hb
  replace i := i.below hb
  replace hG := hG.below hb
  replace B := B.trans (hb.mono (by have := B.size; simp <;> omega))
  clear hb
  go_wp2_with fail
  refine (of_any _ _ _ _).mono ?_; rintro e w16 ⟨rfl, hb⟩
  replace d := d.below hb
  replace i := i.below hb
  replace hG := hG.below hb
  replace B := B.trans (hb.mono (by have := B.size; simp <;> omega))
  clear hb
  go_wp2_with fail
  refine (text_is _ _ _ _ _ h_t2 _ hG).mono ?_; rintro e w17 ⟨rfl, hb⟩
  replace d := d.below hb
  replace i := i.below hb
  replace hG := hG.below hb
  replace B := B.trans (hb.mono (by have := B.size; simp <;> omega))
  clear hb
  go_wp2_with fail
  refine (parse_is _ _ _ _ _ h_p1 _ hG).mono ?_; rintro e w18 ⟨rfl, hb⟩
  replace d := d.below hb
  replace i := i.below hb
  replace hG := hG.below hb
  replace B := B.trans (hb.mono (by have := B.size; simp <;> omega))
  clear hb
  go_wp2_with fail
  refine (parse_is _ _ _ _ _ h_p2 _ (hG.alloc _)).mono ?_; rintro e w19 ⟨rfl, hb⟩
  replace d := (d.alloc _).below hb
  replace i := (i.alloc _).below hb
  have p := (At3.new _ (6) (-2) (-1) _).below hb
  replace hG := (hG.alloc _).below hb
  replace B := (B.alloc (by have := B.size; simp <;> omega) _).trans (hb.mono (by have := B.size; simp <;> omega))
  clear hb
  go_wp2_with fail
  refine (of_any _ _ _ _).mono ?_; rintro e w20 ⟨rfl, hb⟩
  replace d := (d.alloc _).below hb
  replace i := (i.alloc _).below hb
  replace p := (p.alloc _).below hb
  replace hG := (hG.alloc _).below hb
  replace B := (B.alloc (by have := B.size; simp <;> omega) _).trans (hb.mono (by have := B.size; simp <;> omega))
  clear hb
  go_wp2_with fail
  refine (number_is _ _ _ _ _ h_n4 _ hG).mono ?_; rintro e w21 ⟨rfl, hb⟩
  replace d := d.below hb
  replace i := i.below hb
  replace p := p.below hb
  replace hG := hG.below hb
  replace B := B.trans (hb.mono (by have := B.size; simp <;> omega))
  clear hb
  go_wp2_with fail
  have x0 := fun x : Ext w21 => x.cell d.c0
  have x1 := fun x : Ext w21 => x.cell d.c1
  have x2 := fun x : Ext w21 => x.cell d.c2
  have x3 := fun x : Ext w21 => x.cell i.c0
  have x4 := fun x : Ext w21 => x.cell i.c1
  have x5 := fun x : Ext w21 => x.cell p.c0
  have x6 := fun x : Ext w21 => x.cell p.c1
  have x7 := fun x : Ext w21 => x.cell p.c2
  have hne := Ext.there w21
  refine Ext.region (by kernel_rfl) (by kernel_rfl) ?_
  repeat (go_big_quiet_step ((go_at_call 27; exact Ext.call _ (of_any _ _ _ _))))
  refine wpQuiet_nil ?_
  rintro _ ⟨x, rfl⟩
  replace B := B.trans (x.h.mono B.size)
  generalize x.w = wy at *
  clear x0 x1 x2 x3 x4 x5 x6 x7 hne x d i p hG
  go_wp2_with fail
  go_ret
  exact ⟨rfl, B⟩
end Go.Proofs.YtgehnciegolkhaaDoor
