import Derived.Test.YtbbjifhelbeniaaGreatDoorGU
/- The walk of the laws' head: the chapter's example. -/
namespace Go.Proofs.YtbbjifhelbeniaaGreatDoor
open Go.RowKit

set_option maxRecDepth 100000 in
set_option maxHeartbeats 4000000 in
theorem head_any (w : World) (hG : Glob w) :
    Calls Tryz.prog 9 #[] w fun e w' => e = .returned (.bool true) ∧ Below w.heap.size w w' := by
  go_enter Tryz.func9, Tryz.ntmps9
  go_wp2_with fail
  have B := Below.refl w.heap.size w
  have HG0 := Lib.hid hG
  obtain ⟨i0, hi, hz0, hz1, hz2⟩ := info_parts infoNote
  refine (lexample_is _).mono ?_; rintro e w1 ⟨hb, b1, b2, b3, rfl, hS⟩
  replace hG := hG.below hb
  replace B := B.trans (hb.mono B.size)
  clear hb
  go_wp2_with fail
  have V : ScV (w1.alloc (.cells #[.int .i64 1, .slice (some ⟨b1, 0, none⟩) 1 1, .slice (some ⟨b2, 0, none⟩) 2 2, .slice (some ⟨b3, 0, none⟩) 2 2] 26)) w1.heap.size (⟨1, some ⟨b1, 0, none⟩, 1, 1, some ⟨b2, 0, none⟩, 2, 2, some ⟨b3, 0, none⟩, 2, 2⟩ : SH) := ScV.new w1 (⟨1, some ⟨b1, 0, none⟩, 1, 1, some ⟨b2, 0, none⟩, 2, 2, some ⟨b3, 0, none⟩, 2, 2⟩ : SH)
  replace hS := hS.alloc (.cells #[.int .i64 1, .slice (some ⟨b1, 0, none⟩) 1 1, .slice (some ⟨b2, 0, none⟩) 2 2, .slice (some ⟨b3, 0, none⟩) 2 2] 26)
  replace hG := hG.alloc (.cells #[.int .i64 1, .slice (some ⟨b1, 0, none⟩) 1 1, .slice (some ⟨b2, 0, none⟩) 2 2, .slice (some ⟨b3, 0, none⟩) 2 2] 26)
  have hWB := B.size
  replace B := B.alloc B.size (.cells #[.int .i64 1, .slice (some ⟨b1, 0, none⟩) 1 1, .slice (some ⟨b2, 0, none⟩) 2 2, .slice (some ⟨b3, 0, none⟩) 2 2] 26)
  obtain ⟨x1, hx1⟩ : ∃ x1, w1.alloc (.cells #[.int .i64 1, .slice (some ⟨b1, 0, none⟩) 1 1, .slice (some ⟨b2, 0, none⟩) 2 2, .slice (some ⟨b3, 0, none⟩) 2 2] 26) = x1 := ⟨_, rfl⟩
  rw [hx1] at V hS hG B
  obtain ⟨t, ht⟩ : ∃ t, w1.heap.size = t := ⟨_, rfl⟩
  rw [ht] at V
  have HTB : Hid (w.heap.size ≤ t) := Lib.hid (by rw [← ht]; exact hWB)
  simp only [hx1, ht]
  clear hx1 ht
  refine (hdPlays2 b1 b2 b3 _ hG hS).mono ?_; rintro e w2 ⟨D2, c2, rfl, L2, hb⟩
  replace V := V.below hb
  replace hS := hS.below hb
  replace hG := hG.below hb
  replace B := B.trans (hb.mono B.size)
  clear hb
  have lV := V.at_.lt; have v0 := V.at_.c0; have v1 := V.at_.c1; have v2 := V.at_.c2; have v3 := V.at_.c3; dsimp only at v0 v1 v2 v3
  go_wp2_with fail
  clear lV v0 v1 v2 v3
  have HSS := Lib.hid hS; have HGG := Lib.hid hG
  have z0 := fun x : PfW (hwC w2 nX 22) => (V.below x.h.1.1).at_.c0
  have z1 := fun x : PfW (hwC w2 nX 22) => (V.below x.h.1.1).at_.c1
  have z2 := fun x : PfW (hwC w2 nX 22) => (V.below x.h.1.1).at_.c2
  have z3 := fun x : PfW (hwC w2 nX 22) => (V.below x.h.1.1).at_.c3
  dsimp only at z0 z1 z2 z3
  have hne : Nonempty (PfW (hwC w2 nX 22)) := PfW.there (w := w2) ⟨⟨Below.refl _ _, trivial⟩, trivial⟩
  refine region_pf (cs := [1, 4, 5, 6, 7, 8, 13]) (d := 12) (G := fun g => ∃ b, g = .pointer (some ⟨b, 0, none⟩) ∧ w2.heap.size ≤ b) (Cv := hwC w2 nX 22) 14 ⟨_, _, rfl, Nat.le_refl _⟩ (by kernel_rfl) (by kernel_rfl) (by kernel_rfl) ⟨⟨(Below.refl _ _).drew, trivial⟩, trivial⟩ ?_
  simp only [List.take_succ_cons, List.take_zero, List.drop_succ_cons, List.drop_zero]
  refine pf_quiet (by decide) rfl rfl ?_; intro K' hK'; go_big_quiet_op; go_big_quiet_on
  refine pf_made ⟨by decide, rfl⟩ rfl ⟨none, w2, ⟨Below.refl _ _, trivial⟩, trivial⟩ (fun og w' hw' => ⟨.slice (some ⟨w'.heap.size, 0, none⟩) 0 0, w'.alloc (.cells #[] 51), ?_, hwV.below hw'.1 ((Below.refl _ _).alloc (Nat.le_refl _) _), own_emptyQ w' _ hw'.1.1.size⟩) ?_
  · go_simp
  rintro u1 e1
  simp only [Act.put, List.setIfInBounds_toArray, List.set_cons_succ, List.set_cons_zero]
  refine pf_quiet (by decide) rfl rfl ?_; intro K' hK'; go_big_quiet_op; go_big_quiet_on
  refine pf_quiet (by decide) rfl rfl ?_; intro K' hK'; go_big_quiet_op; go_big_quiet_on
  refine pf_made ⟨by decide, rfl⟩ rfl e1 (fun og w' hw' => ?_) ?_
  · obtain ⟨hb', hown⟩ := hw'
    refine exec_slo2 (.tmp 29) (.tmp 31) 24 rfl w2.heap.size 51 i0 _ 96 Tryz.underlying24 hi hz0 hz1 hz2 rfl u1 0 [] rfl hown (some ⟨b3, 0, none⟩) 2 2 hN rfl (fun h => by cases h) rfl (HSS.out.below hb'.1).sn (by decide) (by decide) hb'.1.size (fun v' w'' h2 h3 => ?_)
    rw [Nat.zero_add, List.nil_append] at h2
    exact ⟨hwV.grown hb' hown h3, h2⟩
  rintro u2 e2
  simp only [Act.put, List.setIfInBounds_toArray, List.set_cons_succ, List.set_cons_zero]
  refine pf_enter (f := 33) (args := #[.int .i64 9, .int .i64 2, .int .i64 2, .int .i64 6, .int .i64 2]) ⟨by decide, rfl⟩ rfl e2 (fun og w' hw' => ?_) (fun og w' hw' => ?_) ?_
  · simp [go_sem]
  · refine (lnote_is 9 2 2 6 2 w').mono ?_
    rintro e w5 ⟨rfl, hb5⟩
    obtain ⟨hb', hown⟩ := hw'
    exact ⟨_, rfl, hwV.below hb' hb5, own_actsE hown (Acts.ofBelow (n1 := 0) (n2 := 0) hb5) (fun j _ => .inr (Nat.zero_le _)), rfl⟩
  rintro _ ⟨og3, x3, y3, q3, rfl⟩
  simp only [Act.put, List.setIfInBounds_toArray, List.set_cons_succ, List.set_cons_zero]
  refine pf_made ⟨by decide, rfl⟩ rfl ⟨og3, x3, y3, q3, rfl⟩ (fun og w' hw' => ⟨.slice (some ⟨w'.heap.size, 0, none⟩) 1 1, w'.alloc (.cells (vO [nX]).toArray 51), ?_, hwV.below hw'.1 ((Below.refl _ _).alloc (Nat.le_refl _) _), hw'.2.1.alloc _, w'.heap.size, rfl, slo_blk (l := [nX]) (heap_alloc_new w' _)⟩) ?_
  · go_simp
    rfl
  rintro u4 ⟨og4, x4, y4, q4, g4, rfl, r4⟩
  simp only [Act.put, List.setIfInBounds_toArray, List.set_cons_succ, List.set_cons_zero]
  refine pf_made ⟨by decide, rfl⟩ rfl ⟨og4, x4, y4, q4, g4, rfl, r4⟩ (fun og w' hw' => ?_) ?_
  · obtain ⟨hb', hown, g, hg, hN4⟩ := hw'
    cases hg
    refine exec_slo2 (.tmp 32) (.tmp 34) 24 rfl w2.heap.size 51 i0 _ 96 Tryz.underlying24 hi hz0 hz1 hz2 rfl u2 2 (vO hN) rfl hown (some ⟨g4, 0, none⟩) 1 1 [nX] rfl (fun h => by cases h) rfl hN4 (by decide) (by decide) hb'.1.size (fun v' w'' h2 h3 => ?_)
    exact ⟨hwV.grown hb' hown h3, h2⟩
  rintro u5 ⟨og5, x5, y5, ho5⟩
  simp only [Act.put, List.setIfInBounds_toArray, List.set_cons_succ, List.set_cons_zero]
  obtain ⟨D5, k5, rfl, -⟩ := own_so ho5
  refine pf_enter (f := 22) (args := #[.agg #[.int .i64 1, .slice (some ⟨b1, 0, none⟩) 1 1, .slice (some ⟨b2, 0, none⟩) 2 2, .slice (some ⟨b3, 0, none⟩) 2 2], .int .i64 2, .slice D5 3 k5]) ⟨by decide, rfl⟩ rfl ⟨og5, x5, y5, ho5⟩ (fun og w' hw' => ?_) (fun og w' hw' => ?_) ?_
  · simp [go_sem]
  · obtain ⟨hb', hown⟩ := hw'
    obtain ⟨D6, k6, e6, h6⟩ := own_so hown
    cases e6
    refine (hdWith b1 b2 b3 [n8, n7, nX] 22 (by decide) wr_22 3 k5 D5 rfl (hN_val _ (by decide) (by simp) (by decide)) (wf_notes _ (by simp)) w' (HGG.out.below hb'.1) (HSS.out.below hb'.1) h6).mono ?_
    rintro e w5 ⟨rfl, hb5⟩
    exact ⟨_, rfl, hwV.below hb' hb5, rfl⟩
  rintro _ ⟨_, _, _, rfl⟩
  simp only [Act.put, List.setIfInBounds_toArray, List.set_cons_succ, List.set_cons_zero]
  refine pf_quiet (by decide) rfl rfl ?_; intro K' hK'; go_big_quiet_op; go_big_quiet_on
  refine pf_quiet (by decide) rfl rfl ?_; intro K' hK'; go_big_quiet_op; go_big_quiet_on
  refine pf_quiet (by decide) rfl rfl ?_; intro K' hK'; go_big_quiet_op; go_big_quiet_on
  refine pf_floats rfl (fun j hj => (by cases hj; kernel_rfl)) rfl (fun vs' w' hw' => ⟨.pointer (some ⟨w'.heap.size, 0, none⟩), w'.alloc (.cells #[.int .i64 0, .slice none 0 0, .slice none 0 0, .slice none 0 0] 26), ?_, ⟨_, rfl, hw'.1.1.size⟩, hwC.made hw'⟩) ?_
  · go_simp
  rintro _ ⟨sa, rfl, hsa⟩
  simp only [Act.put, List.setIfInBounds_toArray, List.set_cons_succ, List.set_cons_zero]
  refine pf_stored ⟨by decide, rfl⟩ rfl ⟨none, w2, ⟨Below.refl _ _, trivial⟩, trivial⟩ (fun w' hw' => ?_) ?_
  · obtain ⟨⟨hb', b', e', hl', hv'⟩, -⟩ := hw'
    cases e'
    obtain ⟨w2', h1, h2, h3, -⟩ := hv'.row .zero
    dsimp only [SH.zero] at h1
    refine ⟨w2', ?_, ⟨h3 hb' hl', _, rfl, hl', h2⟩, trivial⟩
    simp [execOp, Act.eval, Instr.storeAt, Instr.sureAddr, h1, Result.andThen]
  rintro _ -
  simp only [Act.put]
  rintro wa ⟨⟨hb, _, eb, -, Va⟩, -⟩
  cases eb
  clear z0 z1 z2 z3 hne HSS HGG
  replace V := V.below hb
  replace hS := hS.below hb
  replace hG := hG.below hb
  replace L2 := L2.below hb
  replace B := B.trans (hb.mono B.size)
  clear hb
  have lV := V.at_.lt; have v0 := V.at_.c0; have v1 := V.at_.c1; have v2 := V.at_.c2; have v3 := V.at_.c3; dsimp only at v0 v1 v2 v3
  go_wp2_with fail
  clear lV v0 v1 v2 v3
  have HSS := Lib.hid hS; have HGG := Lib.hid hG
  have z0 := fun x : PfW (hwC wa nY 20) => (V.below x.h.1.1).at_.c0
  have z1 := fun x : PfW (hwC wa nY 20) => (V.below x.h.1.1).at_.c1
  have z2 := fun x : PfW (hwC wa nY 20) => (V.below x.h.1.1).at_.c2
  have z3 := fun x : PfW (hwC wa nY 20) => (V.below x.h.1.1).at_.c3
  dsimp only at z0 z1 z2 z3
  have hne : Nonempty (PfW (hwC wa nY 20)) := PfW.there (w := wa) ⟨⟨Below.refl _ _, trivial⟩, trivial⟩
  refine region_pf (cs := [1, 4, 5, 6, 7, 8, 13]) (d := 12) (G := fun g => ∃ b, g = .pointer (some ⟨b, 0, none⟩) ∧ wa.heap.size ≤ b) (Cv := hwC wa nY 20) 14 ⟨_, _, rfl, Nat.le_refl _⟩ (by kernel_rfl) (by kernel_rfl) (by kernel_rfl) ⟨⟨(Below.refl _ _).drew, trivial⟩, trivial⟩ ?_
  simp only [List.take_succ_cons, List.take_zero, List.drop_succ_cons, List.drop_zero]
  refine pf_quiet (by decide) rfl rfl ?_; intro K' hK'; go_big_quiet_op; go_big_quiet_on
  refine pf_made ⟨by decide, rfl⟩ rfl ⟨none, wa, ⟨Below.refl _ _, trivial⟩, trivial⟩ (fun og w' hw' => ⟨.slice (some ⟨w'.heap.size, 0, none⟩) 0 0, w'.alloc (.cells #[] 51), ?_, hwV.below hw'.1 ((Below.refl _ _).alloc (Nat.le_refl _) _), own_emptyQ w' _ hw'.1.1.size⟩) ?_
  · go_simp
  rintro u1 e1
  simp only [Act.put, List.setIfInBounds_toArray, List.set_cons_succ, List.set_cons_zero]
  refine pf_quiet (by decide) rfl rfl ?_; intro K' hK'; go_big_quiet_op; go_big_quiet_on
  refine pf_quiet (by decide) rfl rfl ?_; intro K' hK'; go_big_quiet_op; go_big_quiet_on
  refine pf_made ⟨by decide, rfl⟩ rfl e1 (fun og w' hw' => ?_) ?_
  · obtain ⟨hb', hown⟩ := hw'
    refine exec_slo2 (.tmp 41) (.tmp 43) 24 rfl wa.heap.size 51 i0 _ 96 Tryz.underlying24 hi hz0 hz1 hz2 rfl u1 0 [] rfl hown (some ⟨b3, 0, none⟩) 2 2 hN rfl (fun h => by cases h) rfl (HSS.out.below hb'.1).sn (by decide) (by decide) hb'.1.size (fun v' w'' h2 h3 => ?_)
    rw [Nat.zero_add, List.nil_append] at h2
    exact ⟨hwV.grown hb' hown h3, h2⟩
  rintro u2 e2
  simp only [Act.put, List.setIfInBounds_toArray, List.set_cons_succ, List.set_cons_zero]
  refine pf_enter (f := 33) (args := #[.int .i64 9, .int .i64 1, .int .i64 2, .int .i64 6, .int .i64 2]) ⟨by decide, rfl⟩ rfl e2 (fun og w' hw' => ?_) (fun og w' hw' => ?_) ?_
  · simp [go_sem]
  · refine (lnote_is 9 1 2 6 2 w').mono ?_
    rintro e w5 ⟨rfl, hb5⟩
    obtain ⟨hb', hown⟩ := hw'
    exact ⟨_, rfl, hwV.below hb' hb5, own_actsE hown (Acts.ofBelow (n1 := 0) (n2 := 0) hb5) (fun j _ => .inr (Nat.zero_le _)), rfl⟩
  rintro _ ⟨og3, x3, y3, q3, rfl⟩
  simp only [Act.put, List.setIfInBounds_toArray, List.set_cons_succ, List.set_cons_zero]
  refine pf_made ⟨by decide, rfl⟩ rfl ⟨og3, x3, y3, q3, rfl⟩ (fun og w' hw' => ⟨.slice (some ⟨w'.heap.size, 0, none⟩) 1 1, w'.alloc (.cells (vO [nY]).toArray 51), ?_, hwV.below hw'.1 ((Below.refl _ _).alloc (Nat.le_refl _) _), hw'.2.1.alloc _, w'.heap.size, rfl, slo_blk (l := [nY]) (heap_alloc_new w' _)⟩) ?_
  · go_simp
    rfl
  rintro u4 ⟨og4, x4, y4, q4, g4, rfl, r4⟩
  simp only [Act.put, List.setIfInBounds_toArray, List.set_cons_succ, List.set_cons_zero]
  refine pf_made ⟨by decide, rfl⟩ rfl ⟨og4, x4, y4, q4, g4, rfl, r4⟩ (fun og w' hw' => ?_) ?_
  · obtain ⟨hb', hown, g, hg, hN4⟩ := hw'
    cases hg
    refine exec_slo2 (.tmp 44) (.tmp 46) 24 rfl wa.heap.size 51 i0 _ 96 Tryz.underlying24 hi hz0 hz1 hz2 rfl u2 2 (vO hN) rfl hown (some ⟨g4, 0, none⟩) 1 1 [nY] rfl (fun h => by cases h) rfl hN4 (by decide) (by decide) hb'.1.size (fun v' w'' h2 h3 => ?_)
    exact ⟨hwV.grown hb' hown h3, h2⟩
  rintro u5 ⟨og5, x5, y5, ho5⟩
  simp only [Act.put, List.setIfInBounds_toArray, List.set_cons_succ, List.set_cons_zero]
  obtain ⟨D5, k5, rfl, -⟩ := own_so ho5
  refine pf_enter (f := 22) (args := #[.agg #[.int .i64 1, .slice (some ⟨b1, 0, none⟩) 1 1, .slice (some ⟨b2, 0, none⟩) 2 2, .slice (some ⟨b3, 0, none⟩) 2 2], .int .i64 2, .slice D5 3 k5]) ⟨by decide, rfl⟩ rfl ⟨og5, x5, y5, ho5⟩ (fun og w' hw' => ?_) (fun og w' hw' => ?_) ?_
  · simp [go_sem]
  · obtain ⟨hb', hown⟩ := hw'
    obtain ⟨D6, k6, e6, h6⟩ := own_so hown
    cases e6
    refine (hdWith b1 b2 b3 [n8, n7, nY] 20 (by decide) wr_20 3 k5 D5 rfl (hN_val _ (by decide) (by simp) (by decide)) (wf_notes _ (by simp)) w' (HGG.out.below hb'.1) (HSS.out.below hb'.1) h6).mono ?_
    rintro e w5 ⟨rfl, hb5⟩
    exact ⟨_, rfl, hwV.below hb' hb5, rfl⟩
  rintro _ ⟨_, _, _, rfl⟩
  simp only [Act.put, List.setIfInBounds_toArray, List.set_cons_succ, List.set_cons_zero]
  refine pf_quiet (by decide) rfl rfl ?_; intro K' hK'; go_big_quiet_op; go_big_quiet_on
  refine pf_quiet (by decide) rfl rfl ?_; intro K' hK'; go_big_quiet_op; go_big_quiet_on
  refine pf_quiet (by decide) rfl rfl ?_; intro K' hK'; go_big_quiet_op; go_big_quiet_on
  refine pf_floats rfl (fun j hj => (by cases hj; kernel_rfl)) rfl (fun vs' w' hw' => ⟨.pointer (some ⟨w'.heap.size, 0, none⟩), w'.alloc (.cells #[.int .i64 0, .slice none 0 0, .slice none 0 0, .slice none 0 0] 26), ?_, ⟨_, rfl, hw'.1.1.size⟩, hwC.made hw'⟩) ?_
  · go_simp
  rintro _ ⟨sb, rfl, hsb⟩
  simp only [Act.put, List.setIfInBounds_toArray, List.set_cons_succ, List.set_cons_zero]
  refine pf_stored ⟨by decide, rfl⟩ rfl ⟨none, wa, ⟨Below.refl _ _, trivial⟩, trivial⟩ (fun w' hw' => ?_) ?_
  · obtain ⟨⟨hb', b', e', hl', hv'⟩, -⟩ := hw'
    cases e'
    obtain ⟨w2', h1, h2, h3, -⟩ := hv'.row .zero
    dsimp only [SH.zero] at h1
    refine ⟨w2', ?_, ⟨h3 hb' hl', _, rfl, hl', h2⟩, trivial⟩
    simp [execOp, Act.eval, Instr.storeAt, Instr.sureAddr, h1, Result.andThen]
  rintro _ -
  simp only [Act.put]
  rintro wb ⟨⟨hb, _, eb, -, Vb⟩, -⟩
  cases eb
  clear z0 z1 z2 z3 hne HSS HGG
  replace V := V.below hb
  replace hS := hS.below hb
  replace hG := hG.below hb
  replace L2 := L2.below hb
  replace B := B.trans (hb.mono B.size)
  clear hb
  have lV := V.at_.lt; have v0 := V.at_.c0; have v1 := V.at_.c1; have v2 := V.at_.c2; have v3 := V.at_.c3; dsimp only at v0 v1 v2 v3
  go_wp2_with fail
  clear lV v0 v1 v2 v3
  refine (hdNote b1 b2 b3 _ hG hS).mono ?_; rintro e w5 ⟨rfl, hb⟩
  replace V := V.below hb
  replace hS := hS.below hb
  replace hG := hG.below hb
  replace L2 := L2.below hb
  replace B := B.trans (hb.mono B.size)
  clear hb
  have lV := V.at_.lt; have v0 := V.at_.c0; have v1 := V.at_.c1; have v2 := V.at_.c2; have v3 := V.at_.c3; dsimp only at v0 v1 v2 v3
  go_wp2_with fail
  clear lV v0 v1 v2 v3
  refine (hdPart b1 b2 b3 _ hG hS).mono ?_; rintro e w6 ⟨rfl, hb⟩
  replace V := V.below hb
  replace hS := hS.below hb
  replace hG := hG.below hb
  replace L2 := L2.below hb
  replace B := B.trans (hb.mono B.size)
  clear hb
  have lV := V.at_.lt; have v0 := V.at_.c0; have v1 := V.at_.c1; have v2 := V.at_.c2; have v3 := V.at_.c3; dsimp only at v0 v1 v2 v3
  go_wp2_with fail
  clear lV v0 v1 v2 v3
  refine (hdPlays3 b1 b2 b3 _ hG hS).mono ?_; rintro e w7 ⟨rfl, hb⟩
  replace V := V.below hb
  replace hS := hS.below hb
  replace hG := hG.below hb
  replace L2 := L2.below hb
  replace B := B.trans (hb.mono B.size)
  clear hb
  have lV := V.at_.lt; have v0 := V.at_.c0; have v1 := V.at_.c1; have v2 := V.at_.c2; have v3 := V.at_.c3; dsimp only at v0 v1 v2 v3
  go_wp2_with fail
  clear lV v0 v1 v2 v3
  refine (hdPlaysZ _ hG).mono ?_; rintro e w8 ⟨rfl, hb⟩
  replace V := V.below hb
  replace hS := hS.below hb
  replace hG := hG.below hb
  replace L2 := L2.below hb
  replace B := B.trans (hb.mono B.size)
  clear hb
  have lV := V.at_.lt; have v0 := V.at_.c0; have v1 := V.at_.c1; have v2 := V.at_.c2; have v3 := V.at_.c3; dsimp only at v0 v1 v2 v3
  go_wp2_with fail
  clear lV v0 v1 v2 v3
  have htl : t < w8.heap.size := V.at_.lt
  have HSS := Lib.hid hS; have HGG := Lib.hid hG
  have z0 := fun x : PfW (h9C w8) => (V.below x.h.b).at_.c0
  have z1 := fun x : PfW (h9C w8) => (V.below x.h.b).at_.c1
  have z2 := fun x : PfW (h9C w8) => (V.below x.h.b).at_.c2
  have z3 := fun x : PfW (h9C w8) => (V.below x.h.b).at_.c3
  dsimp only at z0 z1 z2 z3
  have hb3 : b3 < w8.heap.size := by
    obtain ⟨b, off, e, hlt, hc⟩ := hS.sn (by decide)
    cases e
    exact hlt
  have M8 : NtAt w8 b3 (0 + 0 * 12) n8 := by
    obtain ⟨b, off, e, hlt, hc⟩ := hS.sn (by decide)
    cases e
    exact hc 0 (by decide)
  have M7 : NtAt w8 b3 (0 + 1 * 12) n7 := by
    obtain ⟨b, off, e, hlt, hc⟩ := hS.sn (by decide)
    cases e
    exact hc 1 (by decide)
  have p0 := fun x : PfW (h9C w8) => (x.h.b.cell (p := ⟨b3, 0, none⟩) hb3).trans (show w8.cell? ⟨b3, 0, none⟩ = some (.int .i64 8) from M8.c0)
  have q0 := fun x : PfW (h9C w8) => (x.h.b.cell (p := ⟨b3, 12, none⟩) hb3).trans (show w8.cell? ⟨b3, 12, none⟩ = some (.int .i64 7) from M7.c0)
  have p1 := fun x : PfW (h9C w8) => (x.h.b.cell (p := ⟨b3, 1, none⟩) hb3).trans (show w8.cell? ⟨b3, 1, none⟩ = some (.int .i64 1) from M8.c1)
  have q1 := fun x : PfW (h9C w8) => (x.h.b.cell (p := ⟨b3, 13, none⟩) hb3).trans (show w8.cell? ⟨b3, 13, none⟩ = some (.int .i64 1) from M7.c1)
  have p2 := fun x : PfW (h9C w8) => (x.h.b.cell (p := ⟨b3, 2, none⟩) hb3).trans (show w8.cell? ⟨b3, 2, none⟩ = some (.int .i64 5) from M8.c2)
  have q2 := fun x : PfW (h9C w8) => (x.h.b.cell (p := ⟨b3, 14, none⟩) hb3).trans (show w8.cell? ⟨b3, 14, none⟩ = some (.int .i64 5) from M7.c2)
  have p3 := fun x : PfW (h9C w8) => (x.h.b.cell (p := ⟨b3, 3, none⟩) hb3).trans (show w8.cell? ⟨b3, 3, none⟩ = some (.int .i64 0) from M8.c3)
  have q3 := fun x : PfW (h9C w8) => (x.h.b.cell (p := ⟨b3, 15, none⟩) hb3).trans (show w8.cell? ⟨b3, 15, none⟩ = some (.int .i64 0) from M7.c3)
  have p4 := fun x : PfW (h9C w8) => (x.h.b.cell (p := ⟨b3, 4, none⟩) hb3).trans (show w8.cell? ⟨b3, 4, none⟩ = some (.int .i64 0) from M8.c4)
  have q4 := fun x : PfW (h9C w8) => (x.h.b.cell (p := ⟨b3, 16, none⟩) hb3).trans (show w8.cell? ⟨b3, 16, none⟩ = some (.int .i64 0) from M7.c4)
  have p5 := fun x : PfW (h9C w8) => (x.h.b.cell (p := ⟨b3, 5, none⟩) hb3).trans (show w8.cell? ⟨b3, 5, none⟩ = some (.int .i64 0) from M8.c5)
  have q5 := fun x : PfW (h9C w8) => (x.h.b.cell (p := ⟨b3, 17, none⟩) hb3).trans (show w8.cell? ⟨b3, 17, none⟩ = some (.int .i64 1) from M7.c5)
  have p6 := fun x : PfW (h9C w8) => (x.h.b.cell (p := ⟨b3, 6, none⟩) hb3).trans (show w8.cell? ⟨b3, 6, none⟩ = some (.int .i64 1) from M8.c6)
  have q6 := fun x : PfW (h9C w8) => (x.h.b.cell (p := ⟨b3, 18, none⟩) hb3).trans (show w8.cell? ⟨b3, 18, none⟩ = some (.int .i64 1) from M7.c6)
  have p7 := fun x : PfW (h9C w8) => (x.h.b.cell (p := ⟨b3, 7, none⟩) hb3).trans (show w8.cell? ⟨b3, 7, none⟩ = some (.int .i64 1) from M8.c7)
  have q7 := fun x : PfW (h9C w8) => (x.h.b.cell (p := ⟨b3, 19, none⟩) hb3).trans (show w8.cell? ⟨b3, 19, none⟩ = some (.int .i64 1) from M7.c7)
  have p8 := fun x : PfW (h9C w8) => (x.h.b.cell (p := ⟨b3, 8, none⟩) hb3).trans (show w8.cell? ⟨b3, 8, none⟩ = some (.int .i64 1) from M8.c8)
  have q8 := fun x : PfW (h9C w8) => (x.h.b.cell (p := ⟨b3, 20, none⟩) hb3).trans (show w8.cell? ⟨b3, 20, none⟩ = some (.int .i64 1) from M7.c8)
  have p9 := fun x : PfW (h9C w8) => (x.h.b.cell (p := ⟨b3, 9, none⟩) hb3).trans (show w8.cell? ⟨b3, 9, none⟩ = some (.int .i64 0) from M8.c9)
  have q9 := fun x : PfW (h9C w8) => (x.h.b.cell (p := ⟨b3, 21, none⟩) hb3).trans (show w8.cell? ⟨b3, 21, none⟩ = some (.int .i64 2) from M7.c9)
  have p10 := fun x : PfW (h9C w8) => (x.h.b.cell (p := ⟨b3, 10, none⟩) hb3).trans (show w8.cell? ⟨b3, 10, none⟩ = some (.int .i64 0) from M8.c10)
  have q10 := fun x : PfW (h9C w8) => (x.h.b.cell (p := ⟨b3, 22, none⟩) hb3).trans (show w8.cell? ⟨b3, 22, none⟩ = some (.int .i64 0) from M7.c10)
  have p11 := fun x : PfW (h9C w8) => (x.h.b.cell (p := ⟨b3, 11, none⟩) hb3).trans (show w8.cell? ⟨b3, 11, none⟩ = some (.int .i64 4) from M8.c11)
  have q11 := fun x : PfW (h9C w8) => (x.h.b.cell (p := ⟨b3, 23, none⟩) hb3).trans (show w8.cell? ⟨b3, 23, none⟩ = some (.int .i64 4) from M7.c11)
  have hne : Nonempty (PfW (h9C w8)) := PfW.there (w := w8) ⟨Below.refl _ _, trivial⟩
  refine region_pf (cs := [9, 10, 15]) (d := 14) (G := fun g => ∃ b, g = .pointer (some ⟨b, 0, none⟩) ∧ w8.heap.size ≤ b) (Cv := h9C w8) 16 ⟨_, _, rfl, Nat.le_refl _⟩ (by kernel_rfl) (by kernel_rfl) (by kernel_rfl) ⟨(Below.refl _ _).drew, trivial⟩ ?_
  simp only [List.take_succ_cons, List.take_zero, List.drop_succ_cons, List.drop_zero]
  iterate 9 (refine pf_quiet (by decide) rfl rfl ?_; intro K' hK'; go_big_quiet_op; go_big_quiet_on)
  refine pf_made ⟨by decide, rfl⟩ rfl ⟨none, w8, Below.refl _ _, trivial⟩ (fun og w' hw' => ⟨.slice (some ⟨w'.heap.size, 0, none⟩) 2 2, w'.alloc (.cells #[.int .i64 7, .int .i64 1, .int .i64 5, .int .i64 0, .int .i64 0, .int .i64 1, .int .i64 1, .int .i64 1, .int .i64 1, .int .i64 2, .int .i64 0, .int .i64 4, .int .i64 8, .int .i64 1, .int .i64 5, .int .i64 0, .int .i64 0, .int .i64 0, .int .i64 1, .int .i64 1, .int .i64 1, .int .i64 0, .int .i64 0, .int .i64 4] 51), ?_, hwV.below hw' ((Below.refl _ _).alloc (Nat.le_refl _) _), w'.heap.size, rfl, slo_blk (l := [n7, n8]) (heap_alloc_new w' _)⟩) ?_
  · go_simp
  rintro u1 ⟨og1, x1', y1, g1, rfl, r1⟩
  simp only [Act.put, List.setIfInBounds_toArray, List.set_cons_succ, List.set_cons_zero]
  refine pf_enter (f := 22) (args := #[.agg #[.int .i64 1, .slice (some ⟨b1, 0, none⟩) 1 1, .slice (some ⟨b2, 0, none⟩) 2 2, .slice (some ⟨b3, 0, none⟩) 2 2], .int .i64 2, .slice (some ⟨g1, 0, none⟩) 2 2]) ⟨by decide, rfl⟩ rfl ⟨og1, x1', y1, g1, rfl, r1⟩ (fun og w' hw' => ?_) (fun og w' hw' => ?_) ?_
  · simp [go_sem]
  · obtain ⟨hb', g, e, hL⟩ := hw'
    cases e
    refine (hdWith0 b1 b2 b3 2 2 (some ⟨g1, 0, none⟩) rfl w' (HGG.out.below hb'.1) (HSS.out.below hb'.1) hL).mono ?_
    rintro e w5 ⟨s', rfl, h2, h3, hb5⟩
    exact ⟨_, rfl, hwV.below hb' hb5, s', rfl, h2, h3⟩
  rintro u2 ⟨og2, x2, y2, s9, rfl, r2, r3⟩
  simp only [Act.put, List.setIfInBounds_toArray, List.set_cons_succ, List.set_cons_zero]
  iterate 3 (refine pf_quiet (by decide) rfl rfl ?_; intro K' hK'; go_big_quiet_op; go_big_quiet_on)
  refine pf_floats rfl (fun j hj => (by cases hj; kernel_rfl)) rfl (fun vs' w' hw' => ⟨.pointer (some ⟨w'.heap.size, 0, none⟩), w'.alloc (.cells #[.int .i64 0, .slice none 0 0, .slice none 0 0, .slice none 0 0] 26), ?_, ⟨_, rfl, hw'.b.size⟩, h9C.made hw'⟩) ?_
  · go_simp
  rintro _ ⟨s18, rfl, hs18⟩
  simp only [Act.put, List.setIfInBounds_toArray, List.set_cons_succ, List.set_cons_zero]
  refine pf_stored ⟨by decide, rfl⟩ rfl (h9C.sat ⟨og2, x2, y2, s9, rfl, r2, r3⟩) (fun w' hw' => ?_) ?_
  · obtain ⟨b', e', w2', h1, h2⟩ := hw'.row
    cases e'
    rw [r2] at h1
    refine ⟨w2', ?_, h2 _ _⟩
    simp [execOp, Act.eval, Instr.storeAt, Instr.sureAddr, h1, Result.andThen]
  rintro _ -
  simp only [Act.put]
  rintro w9 ⟨hb, _, eb, -, t9, V9, r4, S9⟩
  cases eb
  clear z0 z1 z2 z3 hne HSS HGG M7 M8 hb3 p0 q0 p1 q1 p2 q2 p3 q3 p4 q4 p5 q5 p6 q6 p7 q7 p8 q8 p9 q9 p10 q10 p11 q11
  replace V := V.below hb
  replace hS := hS.below hb
  replace hG := hG.below hb
  replace L2 := L2.below hb
  replace B := B.trans (hb.mono B.size)
  clear hb
  have gf := V.f 0
  have lV := V.at_.lt; have v0 := V.at_.c0; have v1 := V.at_.c1; have v2 := V.at_.c2; have v3 := V.at_.c3; dsimp only at v0 v1 v2 v3
  go_wp2_with fail
  clear lV v0 v1 v2 v3
  clear gf
  have hts : s18 ≠ t := by omega
  have L3 := L2.set1 V 0 (.int .i64 2)
  have S3 := S9.set1 V 0 (.int .i64 2)
  have hS3 := hS.set1 V 0 (.int .i64 2)
  have V93 := V9.ne hts 0 (.int .i64 2)
  have V3 : ScV (w9.setCell ⟨t, 0, none⟩ (.int .i64 2)) t (⟨2, some ⟨b1, 0, none⟩, 1, 1, some ⟨b2, 0, none⟩, 2, 2, some ⟨b3, 0, none⟩, 2, 2⟩ : SH) := V.vn 2
  have B3 := B.setCell (p := ⟨t, 0, none⟩) HTB.out (.int .i64 2)
  have hG3 := HG0.out.below B3
  have hS4 : SlS (w9.setCell ⟨t, 0, none⟩ (.int .i64 2)) (⟨2, some ⟨b1, 0, none⟩, 1, 1, some ⟨b2, 0, none⟩, 2, 2, some ⟨b3, 0, none⟩, 2, 2⟩ : SH) hB hP hN := ⟨hS3.bl, hS3.pl, hS3.nl, hS3.sb, hS3.sp, hS3.sn⟩
  have HR4 := Lib.hid r4
  clear hS3 hS hG V V9 S9 L2 B r4
  obtain ⟨y9, hy9⟩ : ∃ y9, (w9.setCell ⟨t, 0, none⟩ (.int .i64 2)) = y9 := ⟨_, rfl⟩
  rw [hy9] at L3 S3 V93 V3 hG3 B3 hS4 ⊢
  clear hy9
  refine (lnote_is 8 2 0 0 3 _).mono ?_; rintro e w10 ⟨rfl, hb⟩
  replace L3 := L3.below hb
  replace S3 := S3.below hb
  replace V93 := V93.below hb
  replace V3 := V3.below hb
  replace hG3 := hG3.below hb
  replace hS4 := hS4.below hb
  replace B3 := B3.trans (hb.mono B3.size)
  clear hb
  go_wp2_with fail
  refine (lnote_is 7 2 1 2 3 _).mono ?_; rintro e w11 ⟨rfl, hb⟩
  replace L3 := L3.below hb
  replace S3 := S3.below hb
  replace V93 := V93.below hb
  replace V3 := V3.below hb
  replace hG3 := hG3.below hb
  replace hS4 := hS4.below hb
  replace B3 := B3.trans (hb.mono B3.size)
  clear hb
  go_wp2_with fail
  have K := slo_blk (l := [⟨8, 2, 5, 0, 0, 0, 1, 1, 1, 0, 0, 3⟩, ⟨7, 2, 5, 0, 0, 1, 1, 1, 1, 2, 0, 3⟩]) (heap_alloc_new w11 (.cells #[.int .i64 8, .int .i64 2, .int .i64 5, .int .i64 0, .int .i64 0, .int .i64 0, .int .i64 1, .int .i64 1, .int .i64 1, .int .i64 0, .int .i64 0, .int .i64 3, .int .i64 7, .int .i64 2, .int .i64 5, .int .i64 0, .int .i64 0, .int .i64 1, .int .i64 1, .int .i64 1, .int .i64 1, .int .i64 2, .int .i64 0, .int .i64 3] 51))
  replace L3 := L3.alloc (.cells #[.int .i64 8, .int .i64 2, .int .i64 5, .int .i64 0, .int .i64 0, .int .i64 0, .int .i64 1, .int .i64 1, .int .i64 1, .int .i64 0, .int .i64 0, .int .i64 3, .int .i64 7, .int .i64 2, .int .i64 5, .int .i64 0, .int .i64 0, .int .i64 1, .int .i64 1, .int .i64 1, .int .i64 1, .int .i64 2, .int .i64 0, .int .i64 3] 51)
  replace S3 := S3.alloc (.cells #[.int .i64 8, .int .i64 2, .int .i64 5, .int .i64 0, .int .i64 0, .int .i64 0, .int .i64 1, .int .i64 1, .int .i64 1, .int .i64 0, .int .i64 0, .int .i64 3, .int .i64 7, .int .i64 2, .int .i64 5, .int .i64 0, .int .i64 0, .int .i64 1, .int .i64 1, .int .i64 1, .int .i64 1, .int .i64 2, .int .i64 0, .int .i64 3] 51)
  replace V93 := V93.alloc (.cells #[.int .i64 8, .int .i64 2, .int .i64 5, .int .i64 0, .int .i64 0, .int .i64 0, .int .i64 1, .int .i64 1, .int .i64 1, .int .i64 0, .int .i64 0, .int .i64 3, .int .i64 7, .int .i64 2, .int .i64 5, .int .i64 0, .int .i64 0, .int .i64 1, .int .i64 1, .int .i64 1, .int .i64 1, .int .i64 2, .int .i64 0, .int .i64 3] 51)
  replace V3 := V3.alloc (.cells #[.int .i64 8, .int .i64 2, .int .i64 5, .int .i64 0, .int .i64 0, .int .i64 0, .int .i64 1, .int .i64 1, .int .i64 1, .int .i64 0, .int .i64 0, .int .i64 3, .int .i64 7, .int .i64 2, .int .i64 5, .int .i64 0, .int .i64 0, .int .i64 1, .int .i64 1, .int .i64 1, .int .i64 1, .int .i64 2, .int .i64 0, .int .i64 3] 51)
  replace hG3 := hG3.alloc (.cells #[.int .i64 8, .int .i64 2, .int .i64 5, .int .i64 0, .int .i64 0, .int .i64 0, .int .i64 1, .int .i64 1, .int .i64 1, .int .i64 0, .int .i64 0, .int .i64 3, .int .i64 7, .int .i64 2, .int .i64 5, .int .i64 0, .int .i64 0, .int .i64 1, .int .i64 1, .int .i64 1, .int .i64 1, .int .i64 2, .int .i64 0, .int .i64 3] 51)
  replace hS4 := hS4.alloc (.cells #[.int .i64 8, .int .i64 2, .int .i64 5, .int .i64 0, .int .i64 0, .int .i64 0, .int .i64 1, .int .i64 1, .int .i64 1, .int .i64 0, .int .i64 0, .int .i64 3, .int .i64 7, .int .i64 2, .int .i64 5, .int .i64 0, .int .i64 0, .int .i64 1, .int .i64 1, .int .i64 1, .int .i64 1, .int .i64 2, .int .i64 0, .int .i64 3] 51)
  replace B3 := B3.alloc B3.size (.cells #[.int .i64 8, .int .i64 2, .int .i64 5, .int .i64 0, .int .i64 0, .int .i64 0, .int .i64 1, .int .i64 1, .int .i64 1, .int .i64 0, .int .i64 0, .int .i64 3, .int .i64 7, .int .i64 2, .int .i64 5, .int .i64 0, .int .i64 0, .int .i64 1, .int .i64 1, .int .i64 1, .int .i64 1, .int .i64 2, .int .i64 0, .int .i64 3] 51)
  refine (rsameo_is [⟨8, 2, 5, 0, 0, 0, 1, 1, 1, 0, 0, 3⟩, ⟨7, 2, 5, 0, 0, 1, 1, 1, 1, 2, 0, 3⟩] 2 _ _ _ _ rfl (by decide) _ L3 K).mono ?_; rintro e w12 ⟨rfl, hb⟩
  replace L3 := L3.below hb
  replace S3 := S3.below hb
  replace V93 := V93.below hb
  replace V3 := V3.below hb
  replace hG3 := hG3.below hb
  replace hS4 := hS4.below hb
  replace B3 := B3.trans (hb.mono B3.size)
  clear hb
  have v0 := V3.at_.c0; have v1 := V3.at_.c1; have v2 := V3.at_.c2; have v3 := V3.at_.c3; dsimp only at v0 v1 v2 v3; have n0 := V93.at_.c0; have n1 := V93.at_.c1; have n2 := V93.at_.c2; have n3 := V93.at_.c3
  go_wp2_with fail
  clear v0 v1 v2 v3 n0 n1 n2 n3
  refine (rsameS_is t9 (⟨2, some ⟨b1, 0, none⟩, 1, 1, some ⟨b2, 0, none⟩, 2, 2, some ⟨b3, 0, none⟩, 2, 2⟩ : SH) hB hP hN HR4.out ⟨by rw [← S3.bl]; decide, by rw [← S3.pl]; decide, by rw [← S3.nl]; decide⟩ _ S3 hS4).mono ?_; rintro e w13 ⟨rfl, hb⟩
  replace L3 := L3.below hb
  replace S3 := S3.below hb
  replace V93 := V93.below hb
  replace V3 := V3.below hb
  replace hG3 := hG3.below hb
  replace hS4 := hS4.below hb
  replace B3 := B3.trans (hb.mono B3.size)
  clear hb
  have v0 := V3.at_.c0; have v1 := V3.at_.c1; have v2 := V3.at_.c2; have v3 := V3.at_.c3; dsimp only at v0 v1 v2 v3; have n0 := V93.at_.c0; have n1 := V93.at_.c1; have n2 := V93.at_.c2; have n3 := V93.at_.c3
  go_wp2_with fail
  clear v0 v1 v2 v3 n0 n1 n2 n3
  refine (hdValid b1 b2 b3 _ hG3 hS4).mono ?_; rintro e w14 ⟨rfl, hb⟩
  replace L3 := L3.below hb
  replace S3 := S3.below hb
  replace V93 := V93.below hb
  replace V3 := V3.below hb
  replace hG3 := hG3.below hb
  replace hS4 := hS4.below hb
  replace B3 := B3.trans (hb.mono B3.size)
  clear hb
  go_wp2_with fail
  go_ret
  exact ⟨rfl, B3⟩
end Go.Proofs.YtbbjifhelbeniaaGreatDoor
