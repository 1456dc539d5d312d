import Derived.Test.YthamkigdpgajaaaDoorGM
/- The walk of the laws' head: the chapter's example. -/
namespace Go.Proofs.YthamkigdpgajaaaDoor
open Go.RowKit

set_option maxRecDepth 100000 in
set_option maxHeartbeats 3200000 in
theorem head_any (w : World) (hG : Glob w) :
    Calls Tryd.prog 9 #[] w fun e w' => e = .returned (.bool true) ∧ Below w.heap.size w w' := by
  go_enter Tryd.func9, Tryd.ntmps9
  go_wp2_with fail
  have B := Below.refl w.heap.size w
  refine (lrat_is _ _ _).mono ?_; rintro e w1 ⟨rfl, hb⟩
  replace hG := hG.below hb
  replace B := B.trans (hb.mono (by have := B.size; simp <;> omega))
  clear hb
  go_wp2_with fail
  refine (lrat_is _ _ _).mono ?_; rintro e w2 ⟨rfl, hb⟩
  replace hG := hG.below hb
  replace B := B.trans (hb.mono (by have := B.size; simp <;> omega))
  clear hb
  go_wp2_with fail
  refine (lrat_is _ _ _).mono ?_; rintro e w3 ⟨rfl, hb⟩
  have L1 := (hxB_slB (heap_alloc_new _ _)).below hb
  replace hG := (hG.alloc _).below hb
  replace B := (B.alloc (by have := B.size; simp <;> omega) _).trans (hb.mono (by have := B.size; simp <;> omega))
  clear hb
  go_wp2_with fail
  refine (lrat_is _ _ _).mono ?_; rintro e w4 ⟨rfl, hb⟩
  replace L1 := L1.below hb
  replace hG := hG.below hb
  replace B := B.trans (hb.mono (by have := B.size; simp <;> omega))
  clear hb
  go_wp2_with fail
  refine (lnote_is _ _ _ _ _ _).mono ?_; rintro e w5 ⟨rfl, hb⟩
  replace L1 := L1.below hb
  replace hG := hG.below hb
  replace B := B.trans (hb.mono (by have := B.size; simp <;> omega))
  clear hb
  go_wp2_with fail
  refine (lrat_is _ _ _).mono ?_; rintro e w6 ⟨rfl, hb⟩
  replace L1 := L1.below hb
  replace hG := hG.below hb
  replace B := B.trans (hb.mono (by have := B.size; simp <;> omega))
  clear hb
  go_wp2_with fail
  refine (lrat_is _ _ _).mono ?_; rintro e w7 ⟨rfl, hb⟩
  replace L1 := L1.below hb
  replace hG := hG.below hb
  replace B := B.trans (hb.mono (by have := B.size; simp <;> omega))
  clear hb
  go_wp2_with fail
  refine (lnote_is _ _ _ _ _ _).mono ?_; rintro e w8 ⟨rfl, hb⟩
  replace L1 := L1.below hb
  replace hG := hG.below hb
  replace B := B.trans (hb.mono (by have := B.size; simp <;> omega))
  clear hb
  go_wp2_with fail
  refine (lrat_is _ _ _).mono ?_; rintro e w9 ⟨rfl, hb⟩
  replace L1 := L1.below hb
  replace hG := hG.below hb
  replace B := B.trans (hb.mono (by have := B.size; simp <;> omega))
  clear hb
  go_wp2_with fail
  refine (lrat_is _ _ _).mono ?_; rintro e w10 ⟨rfl, hb⟩
  replace L1 := L1.below hb
  replace hG := hG.below hb
  replace B := B.trans (hb.mono (by have := B.size; simp <;> omega))
  clear hb
  go_wp2_with fail
  refine (lnote_is _ _ _ _ _ _).mono ?_; rintro e w11 ⟨rfl, hb⟩
  replace L1 := L1.below hb
  replace hG := hG.below hb
  replace B := B.trans (hb.mono (by have := B.size; simp <;> omega))
  clear hb
  go_wp2_with fail
  refine (lrat_is _ _ _).mono ?_; rintro e w12 ⟨rfl, hb⟩
  replace L1 := (L1.alloc _).below hb
  have L2 := (slo_of_block (l := hxN) (heap_alloc_new _ _)).below hb
  replace hG := (hG.alloc _).below hb
  replace B := (B.alloc (by have := B.size; simp <;> omega) _).trans (hb.mono (by have := B.size; simp <;> omega))
  clear hb
  go_wp2_with fail
  refine (lrat_is _ _ _).mono ?_; rintro e w13 ⟨rfl, hb⟩
  replace L1 := L1.below hb
  replace L2 := L2.below hb
  replace hG := hG.below hb
  replace B := B.trans (hb.mono (by have := B.size; simp <;> omega))
  clear hb
  go_wp2_with fail
  refine (lnote_is _ _ _ _ _ _).mono ?_; rintro e w14 ⟨rfl, hb⟩
  replace L1 := L1.below hb
  replace L2 := L2.below hb
  replace hG := hG.below hb
  replace B := B.trans (hb.mono (by have := B.size; simp <;> omega))
  clear hb
  go_wp2_with fail
  refine (hdBusy (some ⟨w2.heap.size, 0, none⟩) (some ⟨w11.heap.size, 0, none⟩) _ (L1.alloc _) (L2.alloc _) (hG.alloc _)).mono ?_; rintro e w15 ⟨D1, c1, rfl, X1, hb⟩
  replace L1 := (L1.alloc _).below hb
  replace L2 := (L2.alloc _).below hb
  have O := (NtB.new _ nO).below hb
  replace hG := (hG.alloc _).below hb
  replace B := (B.alloc (by have := B.size; simp <;> omega) _).trans (hb.mono (by have := B.size; simp <;> omega))
  clear hb
  go_wp2_with fail
  refine (hdRests (some ⟨w2.heap.size, 0, none⟩) (some ⟨w11.heap.size, 0, none⟩) _ L1 L2 hG).mono ?_; rintro e w16 ⟨D2, c2, rfl, X2, hb⟩
  replace L1 := L1.below hb
  replace L2 := L2.below hb
  replace O := O.below hb
  replace X1 := X1.below hb
  replace hG := hG.below hb
  replace B := B.trans (hb.mono (by have := B.size; simp <;> omega))
  clear hb
  go_wp2_with fail
  obtain ⟨i0, hi, hz0, hz1, hz2⟩ := info_parts infoNote
  have HL1 := Lib.hid L1; have HL2 := Lib.hid L2; have HG := Lib.hid hG
  have h11 : w11.heap.size < w16.heap.size := by
    obtain ⟨b, off, e, hlt, hc⟩ := L2 (by decide)
    cases e
    exact hlt
  have xN : NtAt w16 w11.heap.size (0 + 0 * 12) nA := by
    obtain ⟨b, off, e, hlt, hc⟩ := L2 (by decide)
    cases e
    exact hc 0 (by decide)
  have x0 := fun x : PvW (h7C w16) => (x.h.1.cell (p := ⟨w11.heap.size, 0, none⟩) h11).trans (show w16.cell? ⟨w11.heap.size, 0, none⟩ = some (.int .i64 9) from xN.c0)
  have x1 := fun x : PvW (h7C w16) => (x.h.1.cell (p := ⟨w11.heap.size, 1, none⟩) h11).trans (show w16.cell? ⟨w11.heap.size, 1, none⟩ = some (.int .i64 2) from xN.c1)
  have x2 := fun x : PvW (h7C w16) => (x.h.1.cell (p := ⟨w11.heap.size, 2, none⟩) h11).trans (show w16.cell? ⟨w11.heap.size, 2, none⟩ = some (.int .i64 5) from xN.c2)
  have x3 := fun x : PvW (h7C w16) => (x.h.1.cell (p := ⟨w11.heap.size, 3, none⟩) h11).trans (show w16.cell? ⟨w11.heap.size, 3, none⟩ = some (.int .i64 0) from xN.c3)
  have x4 := fun x : PvW (h7C w16) => (x.h.1.cell (p := ⟨w11.heap.size, 4, none⟩) h11).trans (show w16.cell? ⟨w11.heap.size, 4, none⟩ = some (.int .i64 0) from xN.c4)
  have x5 := fun x : PvW (h7C w16) => (x.h.1.cell (p := ⟨w11.heap.size, 5, none⟩) h11).trans (show w16.cell? ⟨w11.heap.size, 5, none⟩ = some (.int .i64 3) from xN.c5)
  have x6 := fun x : PvW (h7C w16) => (x.h.1.cell (p := ⟨w11.heap.size, 6, none⟩) h11).trans (show w16.cell? ⟨w11.heap.size, 6, none⟩ = some (.int .i64 1) from xN.c6)
  have x7 := fun x : PvW (h7C w16) => (x.h.1.cell (p := ⟨w11.heap.size, 7, none⟩) h11).trans (show w16.cell? ⟨w11.heap.size, 7, none⟩ = some (.int .i64 1) from xN.c7)
  have x8 := fun x : PvW (h7C w16) => (x.h.1.cell (p := ⟨w11.heap.size, 8, none⟩) h11).trans (show w16.cell? ⟨w11.heap.size, 8, none⟩ = some (.int .i64 2) from xN.c8)
  have x9 := fun x : PvW (h7C w16) => (x.h.1.cell (p := ⟨w11.heap.size, 9, none⟩) h11).trans (show w16.cell? ⟨w11.heap.size, 9, none⟩ = some (.int .i64 0) from xN.c9)
  have x10 := fun x : PvW (h7C w16) => (x.h.1.cell (p := ⟨w11.heap.size, 10, none⟩) h11).trans (show w16.cell? ⟨w11.heap.size, 10, none⟩ = some (.int .i64 0) from xN.c10)
  have x11 := fun x : PvW (h7C w16) => (x.h.1.cell (p := ⟨w11.heap.size, 11, none⟩) h11).trans (show w16.cell? ⟨w11.heap.size, 11, none⟩ = some (.int .i64 4) from xN.c11)
  clear xN
  have o0 := fun x : PvW (h7C w16) => (x.h.1.cell (p := ⟨w14.heap.size, 0, none⟩) O.lt).trans (show w16.cell? ⟨w14.heap.size, 0, none⟩ = some (.int .i64 8) from O.c0)
  have o1 := fun x : PvW (h7C w16) => (x.h.1.cell (p := ⟨w14.heap.size, 1, none⟩) O.lt).trans (show w16.cell? ⟨w14.heap.size, 1, none⟩ = some (.int .i64 2) from O.c1)
  have o2 := fun x : PvW (h7C w16) => (x.h.1.cell (p := ⟨w14.heap.size, 2, none⟩) O.lt).trans (show w16.cell? ⟨w14.heap.size, 2, none⟩ = some (.int .i64 7) from O.c2)
  have o3 := fun x : PvW (h7C w16) => (x.h.1.cell (p := ⟨w14.heap.size, 3, none⟩) O.lt).trans (show w16.cell? ⟨w14.heap.size, 3, none⟩ = some (.int .i64 0) from O.c3)
  have o4 := fun x : PvW (h7C w16) => (x.h.1.cell (p := ⟨w14.heap.size, 4, none⟩) O.lt).trans (show w16.cell? ⟨w14.heap.size, 4, none⟩ = some (.int .i64 0) from O.c4)
  have o5 := fun x : PvW (h7C w16) => (x.h.1.cell (p := ⟨w14.heap.size, 5, none⟩) O.lt).trans (show w16.cell? ⟨w14.heap.size, 5, none⟩ = some (.int .i64 0) from O.c5)
  have o6 := fun x : PvW (h7C w16) => (x.h.1.cell (p := ⟨w14.heap.size, 6, none⟩) O.lt).trans (show w16.cell? ⟨w14.heap.size, 6, none⟩ = some (.int .i64 1) from O.c6)
  have o7 := fun x : PvW (h7C w16) => (x.h.1.cell (p := ⟨w14.heap.size, 7, none⟩) O.lt).trans (show w16.cell? ⟨w14.heap.size, 7, none⟩ = some (.int .i64 3) from O.c7)
  have o8 := fun x : PvW (h7C w16) => (x.h.1.cell (p := ⟨w14.heap.size, 8, none⟩) O.lt).trans (show w16.cell? ⟨w14.heap.size, 8, none⟩ = some (.int .i64 1) from O.c8)
  have o9 := fun x : PvW (h7C w16) => (x.h.1.cell (p := ⟨w14.heap.size, 9, none⟩) O.lt).trans (show w16.cell? ⟨w14.heap.size, 9, none⟩ = some (.int .i64 0) from O.c9)
  have o10 := fun x : PvW (h7C w16) => (x.h.1.cell (p := ⟨w14.heap.size, 10, none⟩) O.lt).trans (show w16.cell? ⟨w14.heap.size, 10, none⟩ = some (.int .i64 0) from O.c10)
  have o11 := fun x : PvW (h7C w16) => (x.h.1.cell (p := ⟨w14.heap.size, 11, none⟩) O.lt).trans (show w16.cell? ⟨w14.heap.size, 11, none⟩ = some (.int .i64 4) from O.c11)
  have hne : Nonempty (PvW (h7C w16)) := PvW.there (w := w16.drew) ⟨(Below.refl _ _).drew, trivial⟩
  refine region_pv (V := fun _ _ => undef) (cs := [5, 8, 9]) (Cv := h7C w16) 14 (by kernel_rfl) (by kernel_rfl) (by kernel_rfl) ⟨(Below.refl _ _).drew, trivial⟩ ?_
  simp only [List.take_succ_cons, List.take_zero, List.drop_succ_cons, List.drop_zero]
  iterate 5 (refine pv_quiet (by decide) rfl rfl ?_; intro K' hK'; go_big_quiet_op; go_big_quiet_on)
  refine pv_made rfl rfl (fun w' hw' => ⟨.slice (some ⟨w'.heap.size, 0, none⟩) 2 2, w'.alloc (.cells #[.int .i64 9, .int .i64 2, .int .i64 5, .int .i64 0, .int .i64 0, .int .i64 3, .int .i64 1, .int .i64 1, .int .i64 2, .int .i64 0, .int .i64 0, .int .i64 4, .int .i64 8, .int .i64 2, .int .i64 7, .int .i64 0, .int .i64 0, .int .i64 0, .int .i64 1, .int .i64 3, .int .i64 1, .int .i64 0, .int .i64 0, .int .i64 4] 42), ?_, hw'.1.alloc hw'.1.size _, _, rfl, slo_of_block (l := [nA, nO]) (heap_alloc_new w' _)⟩) ?_
  · go_simp
  rintro _ ⟨_, _, g, rfl, _⟩
  simp only [Act.put, List.setIfInBounds_toArray, List.set_cons_succ, List.set_cons_zero]
  iterate 2 (refine pv_quiet (by decide) rfl rfl ?_; intro K' hK'; go_big_quiet_op; go_big_quiet_on)
  refine pv_made rfl rfl (fun w' hw' => ?_) ?_
  · obtain ⟨hb', g', e', hS'⟩ := hw'
    cases e'
    refine exec_app (.tmp 54) (.tmp 56) 23 rfl 42 i0 _ 12 96 Tryd.underlying23 hi hz0 hz1 hz2 rfl (by omega) ⟨g, 0, none⟩ 2 2 (vO [nA, nO]) rfl rfl (slo_news hS') ⟨w11.heap.size, 12, none⟩ 2 2 (vO [nB, nC]) rfl rfl (slo_news ((HL2.out.below hb').drop 1)) (by omega) (by omega) (by unfold maxLen; omega) (by omega) (fun g2 cap2 w2 hown hb2 hlt2 => ?_)
    exact ⟨hb'.trans (hb2.mono hb'.size), g2, cap2, rfl, slo_own hown⟩
  rintro _ ⟨_, _, g2, cap2, rfl, _⟩
  simp only [Act.put, List.setIfInBounds_toArray, List.set_cons_succ, List.set_cons_zero]
  refine pv_enter (f := 11) (args := #[.slice (some ⟨w2.heap.size, 0, none⟩) 2 2, .slice (some ⟨g2, 0, none⟩) 4 cap2]) rfl rfl (fun w' hw' => ?_) (fun w' hw' => ?_) ?_
  · simp [go_sem]
  · obtain ⟨hb', g', cap', e', hL'⟩ := hw'
    cases e'
    refine (hdSort _ _ _ _ (HL1.out.below hb') hL' (HG.out.below hb')).mono ?_
    rintro e w2 ⟨D, c, rfl, hX, hb2⟩
    exact ⟨_, rfl, hb'.trans (hb2.mono hb'.size), D, c, rfl, hX⟩
  rintro _ ⟨_, _, D3, c3, rfl, _⟩
  simp only [Act.put, List.setIfInBounds_toArray, List.set_cons_succ, List.set_cons_zero]
  iterate 4 (refine pv_quiet (by decide) rfl rfl ?_; intro K' hK'; go_big_quiet_op; go_big_quiet_on)
  rintro w17 ⟨hb, D3', c3', e', X3⟩
  cases e'
  clear x0 x1 x2 x3 x4 x5 x6 x7 x8 x9 x10 x11 o0 o1 o2 o3 o4 o5 o6 o7 o8 o9 o10 o11 hne h11 HL1 HL2 HG
  replace L1 := L1.below hb
  replace L2 := L2.below hb
  replace O := O.below hb
  replace X1 := X1.below hb
  replace X2 := X2.below hb
  replace hG := hG.below hb
  replace B := B.trans (hb.mono B.size)
  clear hb
  go_wp2_with fail
  refine (hdRests7 (some ⟨w2.heap.size, 0, none⟩) (some ⟨w11.heap.size, 0, none⟩) _ L1 L2 hG).mono ?_; rintro e w18 ⟨D4, c4, rfl, X4, hb⟩
  replace L1 := L1.below hb
  replace L2 := L2.below hb
  replace O := O.below hb
  replace X1 := X1.below hb
  replace X2 := X2.below hb
  replace X3 := X3.below hb
  replace hG := hG.below hb
  replace B := B.trans (hb.mono (by have := B.size; simp <;> omega))
  clear hb
  go_wp2_with fail
  refine (hdOf6 (some ⟨w2.heap.size, 0, none⟩) (some ⟨w11.heap.size, 0, none⟩) _ L1 L2 hG).mono ?_; rintro e w19 ⟨rfl, hb⟩
  replace L1 := L1.below hb
  replace L2 := L2.below hb
  replace O := O.below hb
  replace X1 := X1.below hb
  replace X2 := X2.below hb
  replace X3 := X3.below hb
  replace X4 := X4.below hb
  replace hG := hG.below hb
  replace B := B.trans (hb.mono (by have := B.size; simp <;> omega))
  clear hb
  have NN : NtAt w19 w11.heap.size (0 + 0 * 12) nA := by
    obtain ⟨b, off, e, hlt, hc⟩ := L2 (by decide)
    cases e
    exact hc 0 (by decide)
  have k0 : w19.cell? ⟨w11.heap.size, 0, none⟩ = some (.int .i64 9) := NN.c0
  have k1 : w19.cell? ⟨w11.heap.size, 1, none⟩ = some (.int .i64 2) := NN.c1
  have k2 : w19.cell? ⟨w11.heap.size, 2, none⟩ = some (.int .i64 5) := NN.c2
  have k3 : w19.cell? ⟨w11.heap.size, 3, none⟩ = some (.int .i64 0) := NN.c3
  have k4 : w19.cell? ⟨w11.heap.size, 4, none⟩ = some (.int .i64 0) := NN.c4
  have k5 : w19.cell? ⟨w11.heap.size, 5, none⟩ = some (.int .i64 3) := NN.c5
  have k6 : w19.cell? ⟨w11.heap.size, 6, none⟩ = some (.int .i64 1) := NN.c6
  have k7 : w19.cell? ⟨w11.heap.size, 7, none⟩ = some (.int .i64 1) := NN.c7
  have k8 : w19.cell? ⟨w11.heap.size, 8, none⟩ = some (.int .i64 2) := NN.c8
  have k9 : w19.cell? ⟨w11.heap.size, 9, none⟩ = some (.int .i64 0) := NN.c9
  have k10 : w19.cell? ⟨w11.heap.size, 10, none⟩ = some (.int .i64 0) := NN.c10
  have k11 : w19.cell? ⟨w11.heap.size, 11, none⟩ = some (.int .i64 4) := NN.c11
  clear NN
  have hold : ∀ b, some (⟨w11.heap.size, 0, none⟩ : Addr) = some b → ∀ j u, (vO hxN)[j]? = some u → (w19.alloc (.cells #[.int .i64 9, .int .i64 2, .int .i64 5, .int .i64 0, .int .i64 0, .int .i64 3, .int .i64 1, .int .i64 1, .int .i64 2, .int .i64 0, .int .i64 0, .int .i64 4] 42)).cell? (b.add j) = some u := fun b hb => by
    cases hb
    exact slo_news (L2.alloc _)
  have hnew : ∀ j u, (vO [nA])[j]? = some u → (w19.alloc (.cells #[.int .i64 9, .int .i64 2, .int .i64 5, .int .i64 0, .int .i64 0, .int .i64 3, .int .i64 1, .int .i64 1, .int .i64 2, .int .i64 0, .int .i64 0, .int .i64 4] 42)).cell? ((⟨w19.heap.size, 0, none⟩ : Addr).add j) = some u := slo_news (slo_of_block (l := [nA]) (heap_alloc_new w19 (.cells #[.int .i64 9, .int .i64 2, .int .i64 5, .int .i64 0, .int .i64 0, .int .i64 3, .int .i64 1, .int .i64 1, .int .i64 2, .int .i64 0, .int .i64 0, .int .i64 4] 42)))
  go_wp2_with (first | (at_builtin; go_loud (refine wpList_append_grows (w19.alloc (.cells #[.int .i64 9, .int .i64 2, .int .i64 5, .int .i64 0, .int .i64 0, .int .i64 3, .int .i64 1, .int .i64 1, .int .i64 2, .int .i64 0, .int .i64 0, .int .i64 4] 42)) rfl _ _ 23 rfl 42 i0 _ 12 96 Tryd.underlying23 hi hz0 hz1 hz2 rfl (by decide) (some ⟨w11.heap.size, 0, none⟩) 3 3 (vO hxN) rfl (fun h => by cases h) rfl hold ⟨w19.heap.size, 0, none⟩ 1 1 (vO [nA]) rfl rfl hnew (vO_cells _) (by decide) (by decide) (by decide) ?_; intro v5 w20 hown5 hgrow5; obtain ⟨g5, cap5, rfl, _, _⟩ := hown5.form (by decide); have X5 := slo_own (l := hxN ++ [nA]) hown5; clear hown5; have hb := (Below.refl (w19.alloc (.cells #[.int .i64 9, .int .i64 2, .int .i64 5, .int .i64 0, .int .i64 0, .int .i64 3, .int .i64 1, .int .i64 1, .int .i64 2, .int .i64 0, .int .i64 0, .int .i64 4] 42)).heap.size (w19.alloc (.cells #[.int .i64 9, .int .i64 2, .int .i64 5, .int .i64 0, .int .i64 0, .int .i64 3, .int .i64 1, .int .i64 1, .int .i64 2, .int .i64 0, .int .i64 0, .int .i64 4] 42))).grown hgrow5 (by simp) (fun j hj => by cases hj); clear hgrow5)) | fail)
  clear k0 k1 k2 k3 k4 k5 k6 k7 k8 k9 k10 k11 hold hnew
  replace L1 := (L1.alloc _).below hb
  replace L2 := (L2.alloc _).below hb
  replace O := (O.alloc _).below hb
  replace X1 := (X1.alloc _).below hb
  replace X2 := (X2.alloc _).below hb
  replace X3 := (X3.alloc _).below hb
  replace X4 := (X4.alloc _).below hb
  replace hG := (hG.alloc _).below hb
  replace B := (B.alloc B.size _).trans (hb.mono (by have := B.size; simp; omega))
  clear hb
  refine (hdOf5 (some ⟨w2.heap.size, 0, none⟩) _ _ _ L1 X5 hG).mono ?_; rintro e w21 ⟨rfl, hb⟩
  replace L1 := L1.below hb
  replace L2 := L2.below hb
  replace O := O.below hb
  replace X1 := X1.below hb
  replace X2 := X2.below hb
  replace X3 := X3.below hb
  replace X4 := X4.below hb
  replace X5 := X5.below hb
  replace hG := hG.below hb
  replace B := B.trans (hb.mono (by have := B.size; simp <;> omega))
  clear hb
  go_wp2_with fail
  clear X5
  refine (lrat_is _ _ _).mono ?_; rintro e w22 ⟨rfl, hb⟩
  replace L1 := L1.below hb
  replace L2 := L2.below hb
  replace O := O.below hb
  replace X1 := X1.below hb
  replace X2 := X2.below hb
  replace X3 := X3.below hb
  replace X4 := X4.below hb
  replace hG := hG.below hb
  replace B := B.trans (hb.mono (by have := B.size; simp <;> omega))
  clear hb
  go_wp2_with fail
  refine (lrat_is _ _ _).mono ?_; rintro e w23 ⟨rfl, hb⟩
  replace L1 := L1.below hb
  replace L2 := L2.below hb
  replace O := O.below hb
  replace X1 := X1.below hb
  replace X2 := X2.below hb
  replace X3 := X3.below hb
  replace X4 := X4.below hb
  replace hG := hG.below hb
  replace B := B.trans (hb.mono (by have := B.size; simp <;> omega))
  clear hb
  go_wp2_with fail
  refine (lrat_is _ _ _).mono ?_; rintro e w24 ⟨rfl, hb⟩
  replace L1 := L1.below hb
  replace L2 := L2.below hb
  replace O := O.below hb
  replace X1 := X1.below hb
  replace X2 := X2.below hb
  replace X3 := X3.below hb
  replace X4 := X4.below hb
  replace hG := hG.below hb
  replace B := B.trans (hb.mono (by have := B.size; simp <;> omega))
  clear hb
  go_wp2_with fail
  refine (lrat_is _ _ _).mono ?_; rintro e w25 ⟨rfl, hb⟩
  replace L1 := L1.below hb
  replace L2 := L2.below hb
  replace O := O.below hb
  replace X1 := X1.below hb
  replace X2 := X2.below hb
  replace X3 := X3.below hb
  replace X4 := X4.below hb
  replace hG := hG.below hb
  replace B := B.trans (hb.mono (by have := B.size; simp <;> omega))
  clear hb
  go_wp2_with fail
  refine (rsames_is _ _ 2 2 _ _ _ _ rfl rfl (by omega) (by omega) nns_1 nns_1 true (by decide) _ (X1.alloc _) (slr_new1 _)).mono ?_; rintro e w26 ⟨rfl, hb⟩
  replace L1 := (L1.alloc _).below hb
  replace L2 := (L2.alloc _).below hb
  replace O := (O.alloc _).below hb
  replace X1 := (X1.alloc _).below hb
  replace X2 := (X2.alloc _).below hb
  replace X3 := (X3.alloc _).below hb
  replace X4 := (X4.alloc _).below hb
  have Y1 := (slr_new1 _).below hb
  replace hG := (hG.alloc _).below hb
  replace B := (B.alloc (by have := B.size; simp <;> omega) _).trans (hb.mono (by have := B.size; simp <;> omega))
  clear hb
  go_wp2_with fail
  clear Y1 X1
  refine (lrat_is _ _ _).mono ?_; rintro e w27 ⟨rfl, hb⟩
  replace L1 := L1.below hb
  replace L2 := L2.below hb
  replace O := O.below hb
  replace X2 := X2.below hb
  replace X3 := X3.below hb
  replace X4 := X4.below hb
  replace hG := hG.below hb
  replace B := B.trans (hb.mono (by have := B.size; simp <;> omega))
  clear hb
  go_wp2_with fail
  refine (lrat_is _ _ _).mono ?_; rintro e w28 ⟨rfl, hb⟩
  replace L1 := L1.below hb
  replace L2 := L2.below hb
  replace O := O.below hb
  replace X2 := X2.below hb
  replace X3 := X3.below hb
  replace X4 := X4.below hb
  replace hG := hG.below hb
  replace B := B.trans (hb.mono (by have := B.size; simp <;> omega))
  clear hb
  go_wp2_with fail
  refine (lrat_is _ _ _).mono ?_; rintro e w29 ⟨rfl, hb⟩
  replace L1 := L1.below hb
  replace L2 := L2.below hb
  replace O := O.below hb
  replace X2 := X2.below hb
  replace X3 := X3.below hb
  replace X4 := X4.below hb
  replace hG := hG.below hb
  replace B := B.trans (hb.mono (by have := B.size; simp <;> omega))
  clear hb
  go_wp2_with fail
  refine (lrat_is _ _ _).mono ?_; rintro e w30 ⟨rfl, hb⟩
  replace L1 := L1.below hb
  replace L2 := L2.below hb
  replace O := O.below hb
  replace X2 := X2.below hb
  replace X3 := X3.below hb
  replace X4 := X4.below hb
  replace hG := hG.below hb
  replace B := B.trans (hb.mono (by have := B.size; simp <;> omega))
  clear hb
  go_wp2_with fail
  refine (rsames_is _ _ 2 2 _ _ _ _ rfl rfl (by omega) (by omega) nns_2 nns_2 true (by decide) _ (X2.alloc _) (slr_new2 _)).mono ?_; rintro e w31 ⟨rfl, hb⟩
  replace L1 := (L1.alloc _).below hb
  replace L2 := (L2.alloc _).below hb
  replace O := (O.alloc _).below hb
  replace X2 := (X2.alloc _).below hb
  replace X3 := (X3.alloc _).below hb
  replace X4 := (X4.alloc _).below hb
  have Y2 := (slr_new2 _).below hb
  replace hG := (hG.alloc _).below hb
  replace B := (B.alloc (by have := B.size; simp <;> omega) _).trans (hb.mono (by have := B.size; simp <;> omega))
  clear hb
  clear Y2 X2
  go_wp2_with fail
  have h11 : w11.heap.size < w31.heap.size := by
    obtain ⟨b, off, e, hlt, hc⟩ := L2 (by decide)
    cases e
    exact hlt
  have xN : NtAt w31 w11.heap.size (0 + 0 * 12) nA := by
    obtain ⟨b, off, e, hlt, hc⟩ := L2 (by decide)
    cases e
    exact hc 0 (by decide)
  have x0 := fun x : PvW (hzC w31) => (x.h.1.cell (p := ⟨w11.heap.size, 0, none⟩) h11).trans (show w31.cell? ⟨w11.heap.size, 0, none⟩ = some (.int .i64 9) from xN.c0)
  have x1 := fun x : PvW (hzC w31) => (x.h.1.cell (p := ⟨w11.heap.size, 1, none⟩) h11).trans (show w31.cell? ⟨w11.heap.size, 1, none⟩ = some (.int .i64 2) from xN.c1)
  have x2 := fun x : PvW (hzC w31) => (x.h.1.cell (p := ⟨w11.heap.size, 2, none⟩) h11).trans (show w31.cell? ⟨w11.heap.size, 2, none⟩ = some (.int .i64 5) from xN.c2)
  have x3 := fun x : PvW (hzC w31) => (x.h.1.cell (p := ⟨w11.heap.size, 3, none⟩) h11).trans (show w31.cell? ⟨w11.heap.size, 3, none⟩ = some (.int .i64 0) from xN.c3)
  have x4 := fun x : PvW (hzC w31) => (x.h.1.cell (p := ⟨w11.heap.size, 4, none⟩) h11).trans (show w31.cell? ⟨w11.heap.size, 4, none⟩ = some (.int .i64 0) from xN.c4)
  have x5 := fun x : PvW (hzC w31) => (x.h.1.cell (p := ⟨w11.heap.size, 5, none⟩) h11).trans (show w31.cell? ⟨w11.heap.size, 5, none⟩ = some (.int .i64 3) from xN.c5)
  have x6 := fun x : PvW (hzC w31) => (x.h.1.cell (p := ⟨w11.heap.size, 6, none⟩) h11).trans (show w31.cell? ⟨w11.heap.size, 6, none⟩ = some (.int .i64 1) from xN.c6)
  have x7 := fun x : PvW (hzC w31) => (x.h.1.cell (p := ⟨w11.heap.size, 7, none⟩) h11).trans (show w31.cell? ⟨w11.heap.size, 7, none⟩ = some (.int .i64 1) from xN.c7)
  have x8 := fun x : PvW (hzC w31) => (x.h.1.cell (p := ⟨w11.heap.size, 8, none⟩) h11).trans (show w31.cell? ⟨w11.heap.size, 8, none⟩ = some (.int .i64 2) from xN.c8)
  have x9 := fun x : PvW (hzC w31) => (x.h.1.cell (p := ⟨w11.heap.size, 9, none⟩) h11).trans (show w31.cell? ⟨w11.heap.size, 9, none⟩ = some (.int .i64 0) from xN.c9)
  have x10 := fun x : PvW (hzC w31) => (x.h.1.cell (p := ⟨w11.heap.size, 10, none⟩) h11).trans (show w31.cell? ⟨w11.heap.size, 10, none⟩ = some (.int .i64 0) from xN.c10)
  have x11 := fun x : PvW (hzC w31) => (x.h.1.cell (p := ⟨w11.heap.size, 11, none⟩) h11).trans (show w31.cell? ⟨w11.heap.size, 11, none⟩ = some (.int .i64 4) from xN.c11)
  clear xN
  have yN : NtAt w31 w11.heap.size (0 + 1 * 12) nB := by
    obtain ⟨b, off, e, hlt, hc⟩ := L2 (by decide)
    cases e
    exact hc 1 (by decide)
  have y0 := fun x : PvW (hzC w31) => (x.h.1.cell (p := ⟨w11.heap.size, 12, none⟩) h11).trans (show w31.cell? ⟨w11.heap.size, 12, none⟩ = some (.int .i64 2) from yN.c0)
  have y1 := fun x : PvW (hzC w31) => (x.h.1.cell (p := ⟨w11.heap.size, 13, none⟩) h11).trans (show w31.cell? ⟨w11.heap.size, 13, none⟩ = some (.int .i64 2) from yN.c1)
  have y2 := fun x : PvW (hzC w31) => (x.h.1.cell (p := ⟨w11.heap.size, 14, none⟩) h11).trans (show w31.cell? ⟨w11.heap.size, 14, none⟩ = some (.int .i64 5) from yN.c2)
  have y3 := fun x : PvW (hzC w31) => (x.h.1.cell (p := ⟨w11.heap.size, 15, none⟩) h11).trans (show w31.cell? ⟨w11.heap.size, 15, none⟩ = some (.int .i64 0) from yN.c3)
  have y4 := fun x : PvW (hzC w31) => (x.h.1.cell (p := ⟨w11.heap.size, 16, none⟩) h11).trans (show w31.cell? ⟨w11.heap.size, 16, none⟩ = some (.int .i64 0) from yN.c4)
  have y5 := fun x : PvW (hzC w31) => (x.h.1.cell (p := ⟨w11.heap.size, 17, none⟩) h11).trans (show w31.cell? ⟨w11.heap.size, 17, none⟩ = some (.int .i64 0) from yN.c5)
  have y6 := fun x : PvW (hzC w31) => (x.h.1.cell (p := ⟨w11.heap.size, 18, none⟩) h11).trans (show w31.cell? ⟨w11.heap.size, 18, none⟩ = some (.int .i64 1) from yN.c6)
  have y7 := fun x : PvW (hzC w31) => (x.h.1.cell (p := ⟨w11.heap.size, 19, none⟩) h11).trans (show w31.cell? ⟨w11.heap.size, 19, none⟩ = some (.int .i64 1) from yN.c7)
  have y8 := fun x : PvW (hzC w31) => (x.h.1.cell (p := ⟨w11.heap.size, 20, none⟩) h11).trans (show w31.cell? ⟨w11.heap.size, 20, none⟩ = some (.int .i64 1) from yN.c8)
  have y9 := fun x : PvW (hzC w31) => (x.h.1.cell (p := ⟨w11.heap.size, 21, none⟩) h11).trans (show w31.cell? ⟨w11.heap.size, 21, none⟩ = some (.int .i64 0) from yN.c9)
  have y10 := fun x : PvW (hzC w31) => (x.h.1.cell (p := ⟨w11.heap.size, 22, none⟩) h11).trans (show w31.cell? ⟨w11.heap.size, 22, none⟩ = some (.int .i64 0) from yN.c10)
  have y11 := fun x : PvW (hzC w31) => (x.h.1.cell (p := ⟨w11.heap.size, 23, none⟩) h11).trans (show w31.cell? ⟨w11.heap.size, 23, none⟩ = some (.int .i64 4) from yN.c11)
  clear yN
  have zN : NtAt w31 w11.heap.size (0 + 2 * 12) nC := by
    obtain ⟨b, off, e, hlt, hc⟩ := L2 (by decide)
    cases e
    exact hc 2 (by decide)
  have z0 := fun x : PvW (hzC w31) => (x.h.1.cell (p := ⟨w11.heap.size, 24, none⟩) h11).trans (show w31.cell? ⟨w11.heap.size, 24, none⟩ = some (.int .i64 4) from zN.c0)
  have z1 := fun x : PvW (hzC w31) => (x.h.1.cell (p := ⟨w11.heap.size, 25, none⟩) h11).trans (show w31.cell? ⟨w11.heap.size, 25, none⟩ = some (.int .i64 2) from zN.c1)
  have z2 := fun x : PvW (hzC w31) => (x.h.1.cell (p := ⟨w11.heap.size, 26, none⟩) h11).trans (show w31.cell? ⟨w11.heap.size, 26, none⟩ = some (.int .i64 5) from zN.c2)
  have z3 := fun x : PvW (hzC w31) => (x.h.1.cell (p := ⟨w11.heap.size, 27, none⟩) h11).trans (show w31.cell? ⟨w11.heap.size, 27, none⟩ = some (.int .i64 0) from zN.c3)
  have z4 := fun x : PvW (hzC w31) => (x.h.1.cell (p := ⟨w11.heap.size, 28, none⟩) h11).trans (show w31.cell? ⟨w11.heap.size, 28, none⟩ = some (.int .i64 0) from zN.c4)
  have z5 := fun x : PvW (hzC w31) => (x.h.1.cell (p := ⟨w11.heap.size, 29, none⟩) h11).trans (show w31.cell? ⟨w11.heap.size, 29, none⟩ = some (.int .i64 1) from zN.c5)
  have z6 := fun x : PvW (hzC w31) => (x.h.1.cell (p := ⟨w11.heap.size, 30, none⟩) h11).trans (show w31.cell? ⟨w11.heap.size, 30, none⟩ = some (.int .i64 2) from zN.c6)
  have z7 := fun x : PvW (hzC w31) => (x.h.1.cell (p := ⟨w11.heap.size, 31, none⟩) h11).trans (show w31.cell? ⟨w11.heap.size, 31, none⟩ = some (.int .i64 3) from zN.c7)
  have z8 := fun x : PvW (hzC w31) => (x.h.1.cell (p := ⟨w11.heap.size, 32, none⟩) h11).trans (show w31.cell? ⟨w11.heap.size, 32, none⟩ = some (.int .i64 2) from zN.c8)
  have z9 := fun x : PvW (hzC w31) => (x.h.1.cell (p := ⟨w11.heap.size, 33, none⟩) h11).trans (show w31.cell? ⟨w11.heap.size, 33, none⟩ = some (.int .i64 0) from zN.c9)
  have z10 := fun x : PvW (hzC w31) => (x.h.1.cell (p := ⟨w11.heap.size, 34, none⟩) h11).trans (show w31.cell? ⟨w11.heap.size, 34, none⟩ = some (.int .i64 0) from zN.c10)
  have z11 := fun x : PvW (hzC w31) => (x.h.1.cell (p := ⟨w11.heap.size, 35, none⟩) h11).trans (show w31.cell? ⟨w11.heap.size, 35, none⟩ = some (.int .i64 4) from zN.c11)
  clear zN
  have o0 := fun x : PvW (hzC w31) => (x.h.1.cell (p := ⟨w14.heap.size, 0, none⟩) O.lt).trans (show w31.cell? ⟨w14.heap.size, 0, none⟩ = some (.int .i64 8) from O.c0)
  have o1 := fun x : PvW (hzC w31) => (x.h.1.cell (p := ⟨w14.heap.size, 1, none⟩) O.lt).trans (show w31.cell? ⟨w14.heap.size, 1, none⟩ = some (.int .i64 2) from O.c1)
  have o2 := fun x : PvW (hzC w31) => (x.h.1.cell (p := ⟨w14.heap.size, 2, none⟩) O.lt).trans (show w31.cell? ⟨w14.heap.size, 2, none⟩ = some (.int .i64 7) from O.c2)
  have o3 := fun x : PvW (hzC w31) => (x.h.1.cell (p := ⟨w14.heap.size, 3, none⟩) O.lt).trans (show w31.cell? ⟨w14.heap.size, 3, none⟩ = some (.int .i64 0) from O.c3)
  have o4 := fun x : PvW (hzC w31) => (x.h.1.cell (p := ⟨w14.heap.size, 4, none⟩) O.lt).trans (show w31.cell? ⟨w14.heap.size, 4, none⟩ = some (.int .i64 0) from O.c4)
  have o5 := fun x : PvW (hzC w31) => (x.h.1.cell (p := ⟨w14.heap.size, 5, none⟩) O.lt).trans (show w31.cell? ⟨w14.heap.size, 5, none⟩ = some (.int .i64 0) from O.c5)
  have o6 := fun x : PvW (hzC w31) => (x.h.1.cell (p := ⟨w14.heap.size, 6, none⟩) O.lt).trans (show w31.cell? ⟨w14.heap.size, 6, none⟩ = some (.int .i64 1) from O.c6)
  have o7 := fun x : PvW (hzC w31) => (x.h.1.cell (p := ⟨w14.heap.size, 7, none⟩) O.lt).trans (show w31.cell? ⟨w14.heap.size, 7, none⟩ = some (.int .i64 3) from O.c7)
  have o8 := fun x : PvW (hzC w31) => (x.h.1.cell (p := ⟨w14.heap.size, 8, none⟩) O.lt).trans (show w31.cell? ⟨w14.heap.size, 8, none⟩ = some (.int .i64 1) from O.c8)
  have o9 := fun x : PvW (hzC w31) => (x.h.1.cell (p := ⟨w14.heap.size, 9, none⟩) O.lt).trans (show w31.cell? ⟨w14.heap.size, 9, none⟩ = some (.int .i64 0) from O.c9)
  have o10 := fun x : PvW (hzC w31) => (x.h.1.cell (p := ⟨w14.heap.size, 10, none⟩) O.lt).trans (show w31.cell? ⟨w14.heap.size, 10, none⟩ = some (.int .i64 0) from O.c10)
  have o11 := fun x : PvW (hzC w31) => (x.h.1.cell (p := ⟨w14.heap.size, 11, none⟩) O.lt).trans (show w31.cell? ⟨w14.heap.size, 11, none⟩ = some (.int .i64 4) from O.c11)
  have HL1 := Lib.hid L1; have HL2 := Lib.hid L2; have HX3 := Lib.hid X3; have HX4 := Lib.hid X4
  have hne : Nonempty (PvW (hzC w31)) := PvW.there (w := w31.drew) ⟨(Below.refl _ _).drew, trivial⟩
  refine region_pv (V := fun _ _ => undef) (cs := [13, 14, 18, 19, 21, 22, 27, 33]) (Cv := hzC w31) 36 (by kernel_rfl) (by kernel_rfl) (by kernel_rfl) ⟨(Below.refl _ _).drew, trivial⟩ ?_
  simp only [List.take_succ_cons, List.take_zero, List.drop_succ_cons, List.drop_zero]
  iterate 13 (refine pv_quiet (by decide) rfl rfl ?_; intro K' hK'; go_big_quiet_op; go_big_quiet_on)
  refine pv_made rfl rfl (fun w' hw' => ⟨.slice (some ⟨w'.heap.size, 0, none⟩) 4 4, w'.alloc (.cells #[.int .i64 8, .int .i64 2, .int .i64 7, .int .i64 0, .int .i64 0, .int .i64 0, .int .i64 1, .int .i64 3, .int .i64 1, .int .i64 0, .int .i64 0, .int .i64 4, .int .i64 2, .int .i64 2, .int .i64 5, .int .i64 0, .int .i64 0, .int .i64 0, .int .i64 1, .int .i64 1, .int .i64 1, .int .i64 0, .int .i64 0, .int .i64 4, .int .i64 4, .int .i64 2, .int .i64 5, .int .i64 0, .int .i64 0, .int .i64 1, .int .i64 2, .int .i64 3, .int .i64 2, .int .i64 0, .int .i64 0, .int .i64 4, .int .i64 9, .int .i64 2, .int .i64 5, .int .i64 0, .int .i64 0, .int .i64 3, .int .i64 1, .int .i64 1, .int .i64 2, .int .i64 0, .int .i64 0, .int .i64 4] 42), ?_, hw'.1.alloc hw'.1.size _, _, rfl, slo_of_block (l := [nO, nB, nC, nA]) (heap_alloc_new w' _)⟩) ?_
  · go_simp
  rintro _ ⟨_, _, g, rfl, _⟩
  simp only [Act.put, List.setIfInBounds_toArray, List.set_cons_succ, List.set_cons_zero]
  refine pv_enter (f := 15) (args := #[.slice D3 4 c3, .slice (some ⟨g, 0, none⟩) 4 4]) rfl rfl (fun w' hw' => ?_) (fun w' hw' => ?_) ?_
  · simp [go_sem]
  · obtain ⟨hb', g', e', hS'⟩ := hw'
    cases e'
    refine (rsameo_is [nO, nB, nC, nA] 4 _ _ _ _ rfl (by omega) _ (HX3.out.below hb') hS').mono ?_
    rintro e w2 ⟨rfl, hb2⟩
    exact ⟨_, rfl, hb'.trans (hb2.mono hb'.size), rfl⟩
  rintro _ ⟨_, _, rfl⟩
  simp only [Act.put, List.setIfInBounds_toArray, List.set_cons_succ, List.set_cons_zero]
  iterate 3 (refine pv_quiet (by decide) rfl rfl ?_; intro K' hK'; go_big_quiet_op; go_big_quiet_on)
  refine pv_enter (f := 28) (args := #[.int .i64 0, .int .i64 1]) rfl rfl (fun w' hw' => ?_) (fun w' hw' => ?_) ?_
  · simp [go_sem]
  · have hb' := hw'.1
    refine (lrat_is 0 1 _).mono ?_
    rintro e w2 ⟨rfl, hb2⟩
    exact ⟨_, rfl, hb'.trans (hb2.mono hb'.size), rfl⟩
  rintro _ ⟨_, _, rfl⟩
  simp only [Act.put, List.setIfInBounds_toArray, List.set_cons_succ, List.set_cons_zero]
  refine pv_enter (f := 28) (args := #[.int .i64 3, .int .i64 1]) rfl rfl (fun w' hw' => ?_) (fun w' hw' => ?_) ?_
  · simp [go_sem]
  · have hb' := hw'.1
    refine (lrat_is 3 1 _).mono ?_
    rintro e w2 ⟨rfl, hb2⟩
    exact ⟨_, rfl, hb'.trans (hb2.mono hb'.size), rfl⟩
  rintro _ ⟨_, _, rfl⟩
  simp only [Act.put, List.setIfInBounds_toArray, List.set_cons_succ, List.set_cons_zero]
  iterate 1 (refine pv_quiet (by decide) rfl rfl ?_; intro K' hK'; go_big_quiet_op; go_big_quiet_on)
  refine pv_made rfl rfl (fun w' hw' => ⟨.slice (some ⟨w'.heap.size, 0, none⟩) 1 1, w'.alloc (.cells #[.int .i64 0, .int .i64 1, .int .i64 3, .int .i64 1] 52), ?_, hw'.1.alloc hw'.1.size _, _, rfl, slr_new3 w'⟩) ?_
  · go_simp
  rintro _ ⟨_, _, g4, rfl, _⟩
  simp only [Act.put, List.setIfInBounds_toArray, List.set_cons_succ, List.set_cons_zero]
  refine pv_enter (f := 20) (args := #[.slice D4 1 c4, .slice (some ⟨g4, 0, none⟩) 1 1]) rfl rfl (fun w' hw' => ?_) (fun w' hw' => ?_) ?_
  · simp [go_sem]
  · obtain ⟨hb', g', e', hS'⟩ := hw'
    cases e'
    refine (rsames_is [(0, 5040)] [(0, 5040)] 1 1 _ _ _ _ rfl rfl (by omega) (by omega) nns_3 nns_3 true (by decide) _ (HX4.out.below hb') hS').mono ?_
    rintro e w2 ⟨rfl, hb2⟩
    exact ⟨_, rfl, hb'.trans (hb2.mono hb'.size), rfl⟩
  rintro _ ⟨_, _, rfl⟩
  simp only [Act.put, List.setIfInBounds_toArray, List.set_cons_succ, List.set_cons_zero]
  iterate 4 (refine pv_quiet (by decide) rfl rfl ?_; intro K' hK'; go_big_quiet_op; go_big_quiet_on)
  refine pv_enter (f := 13) (args := #[.slice (some ⟨w2.heap.size, 0, none⟩) 2 2, .slice (some ⟨w11.heap.size, 0, none⟩) 3 3]) rfl rfl (fun w' hw' => ?_) (fun w' hw' => ?_) ?_
  · simp [go_sem]
  · have hb' := hw'.1
    refine (hdValid _ _ _ (HL1.out.below hb') (HL2.out.below hb')).mono ?_
    rintro e w2 ⟨rfl, hb2⟩
    exact ⟨_, rfl, hb'.trans (hb2.mono hb'.size), rfl⟩
  rintro _ ⟨_, _, rfl⟩
  simp only [Act.put, List.setIfInBounds_toArray, List.set_cons_succ, List.set_cons_zero]
  iterate 5 (refine pv_quiet (by decide) rfl rfl ?_; intro K' hK'; go_big_quiet_op; go_big_quiet_on)
  refine pv_enter (f := 13) (args := #[.slice (some ⟨w2.heap.size, 0, none⟩) 1 2, .slice (some ⟨w11.heap.size, 0, none⟩) 3 3]) rfl rfl (fun w' hw' => ?_) (fun w' hw' => ?_) ?_
  · simp [go_sem]
  · have hb' := hw'.1
    refine (hdNot _ _ _ (HL1.out.below hb') (HL2.out.below hb')).mono ?_
    rintro e w2 ⟨rfl, hb2⟩
    exact ⟨_, rfl, hb'.trans (hb2.mono hb'.size), rfl⟩
  rintro _ ⟨_, _, rfl⟩
  simp only [Act.put, List.setIfInBounds_toArray, List.set_cons_succ, List.set_cons_zero]
  iterate 2 (refine pv_quiet (by decide) rfl rfl ?_; intro K' hK'; go_big_quiet_op; go_big_quiet_on)
  rintro wz ⟨hb, _⟩
  clear x0 x1 x2 x3 x4 x5 x6 x7 x8 x9 x10 x11 y0 y1 y2 y3 y4 y5 y6 y7 y8 y9 y10 y11 z0 z1 z2 z3 z4 z5 z6 z7 z8 z9 z10 z11 o0 o1 o2 o3 o4 o5 o6 o7 o8 o9 o10 o11 hne h11 HL1 HL2 HX3 HX4
  replace B := B.trans (hb.mono B.size)
  go_wp2_with fail
  go_ret
  exact ⟨rfl, B⟩
end Go.Proofs.YthamkigdpgajaaaDoor
