import Derived.Test.YtbbjifhelbeniaaGreatDoorGW
/- ScoreFurther, call by call. -/
namespace Go.Proofs.YtbbjifhelbeniaaGreatDoor
open Go.RowKit

set_option maxRecDepth 100000 in
set_option maxHeartbeats 3200000 in
theorem scoreFurther_walk (s : SH) (bs : List Mt.B) (ps : List Sc.Pt) (ns : List No.Nt) (hwf : WfS bs ps ns) (hN0 : s.N = none → s.nc = 0) (n : No.Nt) (hwn : (-9223372036854775808 ≤ n.id ∧ n.id ≤ 9223372036854775807) ∧ (-9223372036854775808 ≤ n.ba ∧ n.ba ≤ 9223372036854775807)) (w : World) (hG : Glob w) (hS : SlS w s bs ps ns) :
    Calls Tryz.prog 7 #[.agg #[.int .i64 s.v, .slice s.B s.bl s.bc, .slice s.P s.pl s.pc, .slice s.N s.nl s.nc], .agg #[.int .i64 n.id, .int .i64 n.pa, .int .i64 n.ba, .int .i64 n.vo, .int .i64 n.os, .int .i64 n.sn, .int .i64 n.sd, .int .i64 n.ln, .int .i64 n.ld, .int .i64 n.st, .int .i64 n.al, .int .i64 n.oc]] w fun e w' => e = .returned (.bool true) ∧ Below w.heap.size w w' := by
  have HW := Lib.hid hwf
  have HWN := Lib.hid hwn
  clear hwf hwn
  by_cases q1 : s.bl ≤ 60 ∧ s.pl ≤ 61 ∧ s.nl ≤ 60
  case neg =>
    have HF := Lib.hid q1
    clear q1 hN0
    go_enter Tryz.func7, Tryz.ntmps7
    go_wp2_with fail
    have B := Below.refl w.heap.size w
    refine (head_any _ ((hG.alloc _).alloc _)).mono ?_; rintro e w1 ⟨rfl, hb⟩
    replace hS := ((hS.alloc _).alloc _).below hb
    have Q := ((ScB.new _ s).alloc _).below hb
    have NB := (NtB.new _ n).below hb
    simp only [World.size_alloc] at NB
    replace hG := ((hG.alloc _).alloc _).below hb
    replace B := ((B.alloc (by have := B.size; simp <;> omega) _).alloc (by have := B.size; simp <;> omega) _).trans (hb.mono (by have := B.size; simp <;> omega))
    clear hb
    have lQ := Q.lt; have cQ0 := Q.c0; have cQ1 := Q.c1; have cQ2 := Q.c2; have cQ3 := Q.c3
    go_wp2_with fail
    refine (rfew_is s false ⟨(fun h => by cases h), fun h => absurd h HF.out⟩ _).mono ?_; rintro e w2 ⟨rfl, hb⟩
    replace hS := hS.below hb
    replace Q := Q.below hb
    replace NB := NB.below hb
    replace hG := hG.below hb
    replace B := B.trans (hb.mono (by have := B.size; simp <;> omega))
    clear hb lQ cQ0 cQ1 cQ2 cQ3
    have lQ := Q.lt; have cQ0 := Q.c0; have cQ1 := Q.c1; have cQ2 := Q.c2; have cQ3 := Q.c3
    go_wp2_with fail
    go_ret
    exact ⟨rfl, B⟩
  have HF := Lib.hid q1
  by_cases q2 : s.nl ≤ 59
  case neg =>
    have h60 : (s.nl : Int) > 59 := by omega
    clear q1 q2 hN0
    go_enter Tryz.func7, Tryz.ntmps7
    go_wp2_with fail
    have B := Below.refl w.heap.size w
    refine (head_any _ ((hG.alloc _).alloc _)).mono ?_; rintro e w1 ⟨rfl, hb⟩
    replace hS := ((hS.alloc _).alloc _).below hb
    have Q := ((ScB.new _ s).alloc _).below hb
    have NB := (NtB.new _ n).below hb
    simp only [World.size_alloc] at NB
    replace hG := ((hG.alloc _).alloc _).below hb
    replace B := ((B.alloc (by have := B.size; simp <;> omega) _).alloc (by have := B.size; simp <;> omega) _).trans (hb.mono (by have := B.size; simp <;> omega))
    clear hb
    have lQ := Q.lt; have cQ0 := Q.c0; have cQ1 := Q.c1; have cQ2 := Q.c2; have cQ3 := Q.c3
    go_wp2_with fail
    refine (rfew_is s true ⟨fun _ => HF.out, fun _ => rfl⟩ _).mono ?_; rintro e w2 ⟨rfl, hb⟩
    replace hS := hS.below hb
    replace Q := Q.below hb
    replace NB := NB.below hb
    replace hG := hG.below hb
    replace B := B.trans (hb.mono (by have := B.size; simp <;> omega))
    clear hb lQ cQ0 cQ1 cQ2 cQ3
    have lQ := Q.lt; have cQ0 := Q.c0; have cQ1 := Q.c1; have cQ2 := Q.c2; have cQ3 := Q.c3
    go_wp2_with fail
    go_ret
    exact ⟨rfl, B⟩
  have h60 : ¬ (s.nl : Int) > 59 := by omega
  by_cases q3 : Sc.Val s.v bs ps ns
  case neg =>
    have HV := Lib.hid q3
    clear q1 q2 q3 hN0
    go_enter Tryz.func7, Tryz.ntmps7
    go_wp2_with fail
    have B := Below.refl w.heap.size w
    refine (head_any _ ((hG.alloc _).alloc _)).mono ?_; rintro e w1 ⟨rfl, hb⟩
    replace hS := ((hS.alloc _).alloc _).below hb
    have Q := ((ScB.new _ s).alloc _).below hb
    have NB := (NtB.new _ n).below hb
    simp only [World.size_alloc] at NB
    replace hG := ((hG.alloc _).alloc _).below hb
    replace B := ((B.alloc (by have := B.size; simp <;> omega) _).alloc (by have := B.size; simp <;> omega) _).trans (hb.mono (by have := B.size; simp <;> omega))
    clear hb
    have lQ := Q.lt; have cQ0 := Q.c0; have cQ1 := Q.c1; have cQ2 := Q.c2; have cQ3 := Q.c3
    go_wp2_with fail
    refine (rfew_is s true ⟨fun _ => HF.out, fun _ => rfl⟩ _).mono ?_; rintro e w2 ⟨rfl, hb⟩
    replace hS := hS.below hb
    replace Q := Q.below hb
    replace NB := NB.below hb
    replace hG := hG.below hb
    replace B := B.trans (hb.mono (by have := B.size; simp <;> omega))
    clear hb lQ cQ0 cQ1 cQ2 cQ3
    have lQ := Q.lt; have cQ0 := Q.c0; have cQ1 := Q.c1; have cQ2 := Q.c2; have cQ3 := Q.c3
    go_wp2_with fail
    refine (rval_is s bs ps ns false ⟨(fun h => by cases h), fun h => absurd h HV.out⟩ _ hS).mono ?_; rintro e w3 ⟨rfl, hb⟩
    replace hS := hS.below hb
    replace Q := Q.below hb
    replace NB := NB.below hb
    replace hG := hG.below hb
    replace B := B.trans (hb.mono (by have := B.size; simp <;> omega))
    clear hb lQ cQ0 cQ1 cQ2 cQ3
    have lQ := Q.lt; have cQ0 := Q.c0; have cQ1 := Q.c1; have cQ2 := Q.c2; have cQ3 := Q.c3
    go_wp2_with fail
    go_ret
    exact ⟨rfl, B⟩
  have HV := Lib.hid q3
  have hp0 : 0 < ps.length := q3.parts.1.1
  have hbl := hS.bl; have hpl := hS.pl; have hnl := hS.nl
  obtain ⟨bp, ofp, hPe, hbp, hcP⟩ := hS.sp hp0
  obtain ⟨sv, sB, bl, bc, sP, pl, pc, sN, nl, nc⟩ := s
  dsimp only at hbl hpl hnl hPe HF HV q1 q2 q3 hN0 h60 ⊢
  subst hPe
  have HN0 := Lib.hid hN0
  have HLEN := Lib.hid (And.intro hbl (And.intro hpl hnl))
  have hn60 : (nl : Int) ≤ 59 := by omega
  have hp61 : (pl : Int) ≤ 61 := by omega
  have HMX := Lib.hid (show bl ≤ 1000000 ∧ pl ≤ 1000000 ∧ nl ≤ 59 by omega)
  obtain ⟨eW, hWI⟩ := withi_ex (Sc.Val sv bs ps ns ∧ (1 ≤ sv ∧ sv ≤ 1000000) ∧ No.Val bs (ns ++ [n])) (Sc.wrong ps (ns ++ [n]))
  obtain ⟨v', bs', ps', ns', hWL⟩ := wil_ex eW sv bs ps (No.srt (No.lt bs) (ns ++ [n]))
  have HWI := Lib.hid hWI; have HWL := Lib.hid hWL
  have HWX : Hid (No.Wf (ns ++ [n])) := Lib.hid (No.wf_snoc HW.out.n HWN.out)
  have HLX : Hid ((ns ++ [n]).length = nl + 1) := Lib.hid (by rw [List.length_append, hnl]; rfl)
  obtain ⟨i0, hi0, hz0, hz1, hz2⟩ := info_parts infoNote
  have HI0 := Lib.hid (And.intro hi0 (And.intro hz0 (And.intro hz1 hz2)))
  clear hi0 hz0 hz1 hz2 hWI hWL hbl hpl hnl q1 q2 q3 hN0 hp0 hbp hcP
  go_enter Tryz.func7, Tryz.ntmps7
  go_wp2_with fail
  have B := Below.refl w.heap.size w
  refine (head_any _ ((hG.alloc _).alloc _)).mono ?_; rintro e w1 ⟨rfl, hb⟩
  replace hS := ((hS.alloc _).alloc _).below hb
  have Q := ((ScB.new _ (⟨sv, sB, bl, bc, some ⟨bp, ofp, none⟩, pl, pc, sN, nl, nc⟩ : SH)).alloc _).below hb
  have NB := (NtB.new _ n).below hb
  simp only [World.size_alloc] at NB
  replace hG := ((hG.alloc _).alloc _).below hb
  replace B := ((B.alloc (by have := B.size; simp <;> omega) _).alloc (by have := B.size; simp <;> omega) _).trans (hb.mono (by have := B.size; simp <;> omega))
  clear hb
  have lQ := Q.lt; have cQ0 := Q.c0; have cQ1 := Q.c1; have cQ2 := Q.c2; have cQ3 := Q.c3
  dsimp only at cQ0 cQ1 cQ2 cQ3
  go_wp2_with fail
  refine (rfew_is (⟨sv, sB, bl, bc, some ⟨bp, ofp, none⟩, pl, pc, sN, nl, nc⟩ : SH) true ⟨fun _ => HF.out, fun _ => rfl⟩ _).mono ?_; rintro e w2 ⟨rfl, hb⟩
  replace hS := hS.below hb
  replace Q := Q.below hb
  replace NB := NB.below hb
  replace hG := hG.below hb
  replace B := B.trans (hb.mono (by have := B.size; simp <;> omega))
  clear hb lQ cQ0 cQ1 cQ2 cQ3
  have lQ := Q.lt; have cQ0 := Q.c0; have cQ1 := Q.c1; have cQ2 := Q.c2; have cQ3 := Q.c3
  dsimp only at cQ0 cQ1 cQ2 cQ3
  go_wp2_with fail
  refine (rval_is (⟨sv, sB, bl, bc, some ⟨bp, ofp, none⟩, pl, pc, sN, nl, nc⟩ : SH) bs ps ns true ⟨fun _ => HV.out, fun _ => rfl⟩ _ hS).mono ?_; rintro e w3 ⟨rfl, hb⟩
  replace hS := hS.below hb
  replace Q := Q.below hb
  replace NB := NB.below hb
  replace hG := hG.below hb
  replace B := B.trans (hb.mono (by have := B.size; simp <;> omega))
  clear hb lQ cQ0 cQ1 cQ2 cQ3
  have lQ := Q.lt; have cQ0 := Q.c0; have cQ1 := Q.c1; have cQ2 := Q.c2; have cQ3 := Q.c3
  dsimp only at cQ0 cQ1 cQ2 cQ3
  go_wp2_with fail
  clear lQ cQ0 cQ1 cQ2 cQ3
  have HSS := Lib.hid hS; have HGG := Lib.hid hG; have HQB := Lib.hid Q; have HNB := Lib.hid NB; have HB0 := Lib.hid B
  have z0 := fun x : Pg.PfW (f4C w3 nl ns n v' bs' ps' ns' eW) => (x.h.b.cell (p := ⟨w.heap.size, 0, none⟩) Q.lt).trans Q.c0
  have z1 := fun x : Pg.PfW (f4C w3 nl ns n v' bs' ps' ns' eW) => (x.h.b.cell (p := ⟨w.heap.size, 1, none⟩) Q.lt).trans Q.c1
  have z2 := fun x : Pg.PfW (f4C w3 nl ns n v' bs' ps' ns' eW) => (x.h.b.cell (p := ⟨w.heap.size, 2, none⟩) Q.lt).trans Q.c2
  have z3 := fun x : Pg.PfW (f4C w3 nl ns n v' bs' ps' ns' eW) => (x.h.b.cell (p := ⟨w.heap.size, 3, none⟩) Q.lt).trans Q.c3
  have y0 := fun x : Pg.PfW (f4C w3 nl ns n v' bs' ps' ns' eW) => (x.h.b.cell (p := ⟨w.heap.size + 1, 0, none⟩) NB.lt).trans NB.c0
  have y1 := fun x : Pg.PfW (f4C w3 nl ns n v' bs' ps' ns' eW) => (x.h.b.cell (p := ⟨w.heap.size + 1, 1, none⟩) NB.lt).trans NB.c1
  have y2 := fun x : Pg.PfW (f4C w3 nl ns n v' bs' ps' ns' eW) => (x.h.b.cell (p := ⟨w.heap.size + 1, 2, none⟩) NB.lt).trans NB.c2
  have y3 := fun x : Pg.PfW (f4C w3 nl ns n v' bs' ps' ns' eW) => (x.h.b.cell (p := ⟨w.heap.size + 1, 3, none⟩) NB.lt).trans NB.c3
  have y4 := fun x : Pg.PfW (f4C w3 nl ns n v' bs' ps' ns' eW) => (x.h.b.cell (p := ⟨w.heap.size + 1, 4, none⟩) NB.lt).trans NB.c4
  have y5 := fun x : Pg.PfW (f4C w3 nl ns n v' bs' ps' ns' eW) => (x.h.b.cell (p := ⟨w.heap.size + 1, 5, none⟩) NB.lt).trans NB.c5
  have y6 := fun x : Pg.PfW (f4C w3 nl ns n v' bs' ps' ns' eW) => (x.h.b.cell (p := ⟨w.heap.size + 1, 6, none⟩) NB.lt).trans NB.c6
  have y7 := fun x : Pg.PfW (f4C w3 nl ns n v' bs' ps' ns' eW) => (x.h.b.cell (p := ⟨w.heap.size + 1, 7, none⟩) NB.lt).trans NB.c7
  have y8 := fun x : Pg.PfW (f4C w3 nl ns n v' bs' ps' ns' eW) => (x.h.b.cell (p := ⟨w.heap.size + 1, 8, none⟩) NB.lt).trans NB.c8
  have y9 := fun x : Pg.PfW (f4C w3 nl ns n v' bs' ps' ns' eW) => (x.h.b.cell (p := ⟨w.heap.size + 1, 9, none⟩) NB.lt).trans NB.c9
  have y10 := fun x : Pg.PfW (f4C w3 nl ns n v' bs' ps' ns' eW) => (x.h.b.cell (p := ⟨w.heap.size + 1, 10, none⟩) NB.lt).trans NB.c10
  have y11 := fun x : Pg.PfW (f4C w3 nl ns n v' bs' ps' ns' eW) => (x.h.b.cell (p := ⟨w.heap.size + 1, 11, none⟩) NB.lt).trans NB.c11
  dsimp only at z0 z1 z2 z3
  have hne : Nonempty (Pg.PfW (f4C w3 nl ns n v' bs' ps' ns' eW)) := Pg.PfW.there (w := w3) ⟨⟨Below.refl _ _, trivial⟩, fun u hu => by cases hu⟩
  have HHN : Hid (∃ v og w, f4C w3 nl ns n v' bs' ps' ns' eW [v] og w) := Lib.hid ⟨.slice (some ⟨w3.heap.size, 0, none⟩) 0 0, .no, w3.alloc (.cells #[] 51), hwV.below (⟨Below.refl _ _, trivial⟩ : hwV w3 none w3) ((Below.refl _ _).alloc (Nat.le_refl _) _), fun u hu => (by cases hu), own_emptyQ w3 _ (Nat.le_refl _), fun g hg => by cases hg⟩
  have HHF : Hid (∀ x, ∃ v og w, f4C w3 nl ns n v' bs' ps' ns' eW [x, v] og w) := Lib.hid fun x => ⟨.slice (some ⟨w3.heap.size, 0, none⟩) nl nl, .no, w3.alloc (.cells (vO ns).toArray 51), hwV.below (⟨Below.refl _ _, trivial⟩ : hwV w3 none w3) ((Below.refl _ _).alloc (Nat.le_refl _) _), fun u hu => (by cases hu), own_freshQ w3 _ (Nat.le_refl _) ns nl HLEN.out.2.2 (by have := HMX.out; omega), fun g hg => by cases hg⟩
  have HHG : Hid (∀ x y, ∃ v og w, f4C w3 nl ns n v' bs' ps' ns' eW [x, y, v] og w) := Lib.hid fun x y => ⟨.slice (some ⟨w3.heap.size, 0, none⟩) (nl + 1) (nl + 1), .no, w3.alloc (.cells (vO (ns ++ [n])).toArray 51), hwV.below (⟨Below.refl _ _, trivial⟩ : hwV w3 none w3) ((Below.refl _ _).alloc (Nat.le_refl _) _), own_freshQ w3 _ (Nat.le_refl _) (ns ++ [n]) (nl + 1) HLX.out (by have := HMX.out; omega)⟩
  clear hS hG Q NB B
  refine Pg.region_pf (cs := [3, 6, 9, 10, 15]) (ds := [8, 14]) (G := fun i g => if i = 8 then ∃ b, g = .slice (some ⟨b, 0, none⟩) 1 1 else ∃ b, g = .pointer (some ⟨b, 0, none⟩) ∧ w3.heap.size ≤ b) (Cv := f4C w3 nl ns n v' bs' ps' ns' eW) 16 (fun i hi => ?_) (by kernel_rfl) (by kernel_rfl) (by kernel_rfl) ⟨⟨(Below.refl _ _).drew, trivial⟩, fun u hu => by cases hu⟩ ?_
  · by_cases h : i = 8
    · exact ⟨.slice (some ⟨0, 0, none⟩) 1 1, by rw [if_pos h]; exact ⟨0, rfl⟩⟩
    · exact ⟨.pointer (some ⟨w3.heap.size, 0, none⟩), by rw [if_neg h]; exact ⟨_, rfl, Nat.le_refl _⟩⟩
  simp only [List.take_succ_cons, List.take_zero, List.drop_succ_cons, List.drop_zero]
  refine Pg.pf_quiet (by decide) rfl rfl ?_; intro K' hK'; go_big_quiet_op; go_big_quiet_on
  refine Pg.pf_quiet (by decide) rfl rfl ?_; intro K' hK'; go_big_quiet_op; go_big_quiet_on
  refine Pg.pf_quiet (by decide) rfl rfl ?_; intro K' hK'; go_big_quiet_op; go_big_quiet_on
  refine Pg.pf_made ⟨by decide, rfl⟩ rfl HHN.out (fun og w' _ hw' => ⟨.slice (some ⟨w'.heap.size, 0, none⟩) 0 0, w'.alloc (.cells #[] 51), ?_, hwV.below hw'.1 ((Below.refl _ _).alloc (Nat.le_refl _) _), hw'.2.below ((Below.refl _ _).alloc (Nat.le_refl _) _), own_emptyQ w' _ hw'.1.1.size, fun g hg e => ?_⟩) ?_
  · go_simp
  · have := f4U.lt hw'.2 hg
    have := Option.some.inj (show some w'.heap.size = some g from e)
    omega
  rintro u1 e1
  simp only [Act.put, List.setIfInBounds_toArray, List.set_cons_succ, List.set_cons_zero]
  refine Pg.pf_quiet (by decide) rfl rfl ?_; intro K' hK'; go_big_quiet_op; go_big_quiet_on
  refine Pg.pf_quiet (by decide) rfl rfl ?_; intro K' hK'; go_big_quiet_op; go_big_quiet_on
  refine Pg.pf_made ⟨by decide, rfl⟩ rfl (HHF.out _) (fun og w' _ hw' => ?_) ?_
  · obtain ⟨hb', hU, hown, hA⟩ := hw'
    refine exec_sloA (.tmp 35) (.tmp 37) 24 rfl w3.heap.size 51 i0 _ 96 Tryz.underlying24 HI0.out.1 HI0.out.2.1 HI0.out.2.2.1 HI0.out.2.2.2 rfl u1 0 [] rfl hown sN nl nc ns rfl HN0.out HLEN.out.2.2 (HSS.out.below hb'.1).sn (by have := HMX.out; unfold maxLen; omega) (by have := HMX.out; omega) hb'.1.size (fun v' w'' h2 h3 h4 => ?_)
    rw [Nat.zero_add, List.nil_append] at h2
    exact ⟨hwV.grown hb' hown h3, hU.grown hA h3, h2, hA.grown hU h4⟩
  rintro u2 e2
  simp only [Act.put, List.setIfInBounds_toArray, List.set_cons_succ, List.set_cons_zero]
  refine Pg.pf_quiet (by decide) rfl rfl ?_; intro K' hK'; go_big_quiet_op; go_big_quiet_on
  refine Pg.pf_floats (by decide) rfl (fun j hj => (by cases hj; kernel_rfl)) rfl (fun vs' og' w' h0 hw' => ⟨.slice (some ⟨w'.heap.size, 0, none⟩) 1 1, w'.alloc (.cells (vO [n]).toArray 51), ?_, ⟨_, rfl⟩, f4C.one hw'⟩) ?_
  · go_simp
    rfl
  rintro u3 hu3
  obtain ⟨g3, rfl⟩ : ∃ b, u3 = .slice (some ⟨b, 0, none⟩) 1 1 := hu3
  simp only [Act.put, List.setIfInBounds_toArray, List.set_cons_succ, List.set_cons_zero]
  refine Pg.pf_made ⟨by decide, rfl⟩ rfl (HHG.out _ _) (fun og w' ho hw' => ?_) ?_
  · obtain ⟨hb', hU, hown, hA⟩ := hw'
    have h8 := ho 8
    rw [Fl.up_same] at h8
    obtain ⟨g, hg, hN4⟩ := hU _ (h8.resolve_left (by simp))
    cases hg
    refine exec_sloA (.tmp 38) (.tmp 40) 24 rfl w3.heap.size 51 i0 _ 96 Tryz.underlying24 HI0.out.1 HI0.out.2.1 HI0.out.2.2.1 HI0.out.2.2.2 rfl u2 nl (vO ns) rfl hown (some ⟨g3, 0, none⟩) 1 1 [n] rfl (fun h => by cases h) rfl hN4 (by have := HMX.out; unfold maxLen; omega) (by have := HMX.out; omega) hb'.1.size (fun v' w'' h2 h3 _ => ?_)
    rw [← vO_app] at h2
    exact ⟨hwV.grown hb' hown h3, h2⟩
  rintro u4 ⟨og4, xw4, yv4, ho4⟩
  simp only [Act.put, List.setIfInBounds_toArray, List.set_cons_succ, List.set_cons_zero]
  obtain ⟨D4, k4, rfl, -⟩ := own_so ho4
  refine Pg.pf_enter (f := 22) (args := #[.agg #[.int .i64 sv, .slice sB bl bc, .slice (some ⟨bp, ofp, none⟩) pl pc, .slice sN nl nc], .int .i64 sv, .slice D4 (nl + 1) k4]) ⟨by decide, rfl⟩ rfl ?_ (fun og w' _ hw' => ?_) (fun og w' _ hw' => ?_) ?_
  · obtain ⟨e', w2, s', rfl, h2, h3, hb5⟩ := Calls.some (swithL_is (⟨sv, sB, bl, bc, some ⟨bp, ofp, none⟩, pl, pc, sN, nl, nc⟩ : SH) bs ps ns sv (ns ++ [n]) eW (nl + 1) k4 D4 v' bs' ps' ns' HWI.out HWL.out HLX.out HW.out HWX.out xw4 (HGG.out.below yv4.1) (HSS.out.below yv4.1) (by obtain ⟨D6, k6, e6, h6⟩ := own_so ho4; cases e6; exact h6))
    exact ⟨_, og4, w2, hwV.below yv4 hb5, s', rfl, h2, h3⟩
  · simp [go_sem]
  · obtain ⟨hb', hown⟩ := hw'
    obtain ⟨D6, k6, e6, h6⟩ := own_so hown
    cases e6
    refine (swithL_is (⟨sv, sB, bl, bc, some ⟨bp, ofp, none⟩, pl, pc, sN, nl, nc⟩ : SH) bs ps ns sv (ns ++ [n]) eW (nl + 1) k4 D4 v' bs' ps' ns' HWI.out HWL.out HLX.out HW.out HWX.out w' (HGG.out.below hb'.1) (HSS.out.below hb'.1) h6).mono ?_
    rintro e w5 ⟨s', rfl, h2, h3, hb5⟩
    exact ⟨_, rfl, hwV.below hb' hb5, s', rfl, h2, h3⟩
  rintro u5 ⟨og5, x5, y5v, s9, rfl, r5, q5⟩
  simp only [Act.put, List.setIfInBounds_toArray, List.set_cons_succ, List.set_cons_zero]
  have HR5 := Lib.hid r5
  clear r5
  refine Pg.pf_quiet (by decide) rfl rfl ?_; intro K' hK'; go_big_quiet_op; go_big_quiet_on
  refine Pg.pf_quiet (by decide) rfl rfl ?_; intro K' hK'; go_big_quiet_op; go_big_quiet_on
  refine Pg.pf_quiet (by decide) rfl rfl ?_; intro K' hK'; go_big_quiet_op; go_big_quiet_on
  refine Pg.pf_floats (by decide) ((Fl.up_ne _ _ (by decide)).trans rfl) (fun j hj => (by cases hj; kernel_rfl)) rfl (fun vs' og' w' h0 hw' => ⟨.pointer (some ⟨w'.heap.size, 0, none⟩), w'.alloc (.cells #[.int .i64 0, .slice none 0 0, .slice none 0 0, .slice none 0 0] 26), ?_, ⟨_, rfl, hw'.b.size⟩, f4C.made hw' h0⟩) ?_
  · go_simp
  rintro u6 hu6
  obtain ⟨s18, rfl, hs18⟩ : ∃ b, u6 = .pointer (some ⟨b, 0, none⟩) ∧ w3.heap.size ≤ b := hu6
  simp only [Act.put, List.setIfInBounds_toArray, List.set_cons_succ, List.set_cons_zero]
  refine Pg.pf_stored ⟨by decide, rfl⟩ rfl (by obtain ⟨og7, w7, h7⟩ := f4C.sat (nl := nl) (ns := ns) (n := n) (e := eW) (a := u1) (b := u2) (c := .slice D4 (nl + 1) k4) (y := undef) (z := undef) ⟨og5, x5, y5v, s9, rfl, HR5.out, q5⟩; exact ⟨undef, og7, w7, h7⟩) (fun og' w' ho hw' => ?_) ?_
  · have h14 := ho 14
    rw [Fl.up_same] at h14
    obtain ⟨b', e', w2', h1, h2⟩ := hw'.row (h14.resolve_left (by simp))
    cases e'
    refine ⟨w2', ?_, h2 _ _ _ _ _⟩
    simp [execOp, Act.eval, Instr.storeAt, Instr.sureAddr, h1, Result.andThen]
  rintro _ -
  simp only [Act.put]
  rintro w9 ⟨R, h9⟩
  rw [Fl.up_same] at h9
  obtain ⟨_, eb, -, t9, V9, r9, S9⟩ := h9
  cases eb
  have HR9 := Lib.hid r9
  clear z0 z1 z2 z3 y0 y1 y2 y3 y4 y5 y6 y7 y8 y9 y10 y11 hne r9 q5 y5v e1 e2 ho4 yv4 HHN HHF HHG
  by_cases he : eW = 0
  case neg =>
    have hee : (eW != 0) = true := by simpa using he
    clear he
    go_wp2_with fail
    go_ret
    exact ⟨rfl, HB0.out.trans (R.mono HB0.out.size)⟩
  subst he
  obtain ⟨e1, e2, e3, e4⟩ := HWL.out.ok rfl
  rw [e2, e3, e4] at S9
  have e5 := HR9.out.trans e1
  have hWE : No.Val bs (ns ++ [n]) ∧ Sc.wrong ps (ns ++ [n]) = 0 := by
    rcases HWI.out with ⟨_, h⟩ | ⟨h1, h2⟩
    · cases h
    · exact ⟨h1.2.2, h2.symm⟩
  obtain ⟨nt, hnt⟩ : ∃ nt, No.srt (No.lt bs) (ns ++ [n]) = nt := ⟨_, rfl⟩
  have hSV := HV.out.sorted HV.out.ver hWE.1 hWE.2
  rw [hnt, ← e5] at hSV
  rw [hnt] at S9
  have HSV := Lib.hid hSV
  have HND := Lib.hid hWE.1.2.2.2
  have HNT := Lib.hid hnt
  have HWT : Hid (WfS bs ps nt) := Lib.hid ⟨HW.out.b, HW.out.p, by rw [← hnt]; exact No.wf_perm HWX.out (No.srt_perm _)⟩
  have HS9 := Lib.hid S9; have HV9 := Lib.hid V9; have HRR := Lib.hid R
  have QR := HQB.out.below R
  have q0 := QR.c0; have q1 := QR.c1; have q2 := QR.c2; have q3 := QR.c3; have ql := QR.lt; dsimp only at q0 q1 q2 q3
  clear e1 e2 e3 e4 e5 hWE hnt hSV S9 V9 R HWL HWI HR9 QR
  go_wp2_with fail
  clear q0 q1 q2 q3 ql
  go_loopw [5, 51] (fun s5 s51 wr => ∃ (k : Nat), k ≤ pl ∧ s5 = .bool true ∧ s51 = .int .i64 (k : Int) ∧ Below w9.heap.size w9 wr) (fun _ s51 _ => pl - (intOf s51).toNat)
  case atStart => exact ⟨0, Nat.zero_le _, rfl, rfl, Below.refl _ _⟩
  case round =>
    obtain ⟨k, hk, rfl, rfl, hT⟩ := hrel
    have hR2 := HRR.out.trans (hT.mono HRR.out.size)
    by_cases hlt : k < pl
    case neg =>
      obtain rfl : k = pl := by omega
      go_wp2_with fail
      go_ret
      exact ⟨rfl, HB0.out.trans (hR2.mono HB0.out.size)⟩
    have hki : k < ps.length := by have := HLEN.out.2.1; omega
    obtain ⟨_, _, hPe, hbp, hcP⟩ := HSS.out.sp (by omega)
    cases hPe
    have X := (hcP k hki).below hR2 hbp
    obtain ⟨p, hp⟩ : ∃ p, atQ ps k = p := ⟨_, rfl⟩
    rw [hp] at X
    have hpix := Sc.pix_of HV.out.parts.2.2.1 hki
    rw [hp] at hpix
    have HPX := Lib.hid hpix; have HPE := Lib.hid hp
    obtain ⟨L, hL⟩ : ∃ L, Sc.play p ns = L := ⟨_, rfl⟩
    obtain ⟨m, hm⟩ : ∃ m, L.length = m := ⟨_, rfl⟩
    have hm59 : m ≤ 59 := by
      have h1 := Sc.play_len p ns
      rw [hL, hm] at h1
      have h2 := HLEN.out.2.2; have h3 := HMX.out.2.2; omega
    have HLP : Hid (Sc.play (atQ ps ((k : Int)).toNat) ns = L) := Lib.hid (by rw [show ((k : Int)).toNat = k from rfl, hp]; exact hL)
    have HLM := Lib.hid hm
    have hk1 : (k : Int) < (pl : Int) := by omega
    have hm60 : (m : Int) ≤ 59 := by omega
    obtain ⟨c0, c1, c2, c3, c4, c5, c6, c7, c8, c9, c10, c11, c12⟩ := X
    rw [Nat.add_zero] at c0
    have QR := HQB.out.below hR2; have q0 := QR.c0; have q1 := QR.c1; have q2 := QR.c2; have q3 := QR.c3; have ql := QR.lt; dsimp only at q0 q1 q2 q3
    clear hcP hki hpix hbp
    by_cases hs : n.pa = Sc.src p
    case neg =>
      have hbe : (Sc.src p != n.pa) = true := by simpa using (fun h => hs h.symm)
      have HLT : Hid (Sc.play (atQ ps ((k : Int)).toNat) nt = L) := Lib.hid (by rw [show ((k : Int)).toNat = k from rfl, hp, ← HNT.out, Sc.further_no HV.out.order hs]; exact hL)
      clear hs hL hm hp
      go_wp2_with fail
      clear c0 c1 c2 c3 c4 c5 c6 c7 c8 c9 c10 c11 c12 q0 q1 q2 q3 ql QR
      have PV := PtB.new wr p
      replace hT := hT.alloc hT.size (.cells #[.int .i64 p.id, .int .i64 p.se, .int .i64 p.f, .int .i64 p.oc, .int .i64 p.de, .int .i64 p.ss, .int .i64 p.sm, .int .i64 p.ls, .int .i64 p.la, .int .i64 p.lo, .int .i64 p.hs, .int .i64 p.ha, .int .i64 p.ho] 49)
      replace hR2 := HRR.out.trans (hT.mono HRR.out.size)
      refine (splaysC_is (⟨sv, sB, bl, bc, some ⟨bp, ofp, none⟩, pl, pc, sN, nl, nc⟩ : SH) bs ps ns p.id (k : Int) L m HPX.out HV.out (by omega) HLP.out HLM.out HW.out _ (HGG.out.below hR2) (HSS.out.below hR2)).mono ?_; rintro e z1 ⟨D1, d1, rfl, L1, hd1, hb⟩
      replace hT := hT.trans (hb.mono hT.size); replace hR2 := HRR.out.trans (hT.mono HRR.out.size); replace PV := PV.below hb; clear hb
      have V1 := HV9.out.below hT
      have v0 := V1.at_.c0; have v1 := V1.at_.c1; have v2 := V1.at_.c2; have v3 := V1.at_.c3; have p0 := PV.c0
      go_wp2_with fail
      clear v0 v1 v2 v3 p0 V1
      refine (splaysC_is t9 bs ps nt p.id (k : Int) L m HPX.out HSV.out (by omega) HLT.out HLM.out HWT.out _ (HGG.out.below hR2) (HS9.out.below hT)).mono ?_; rintro e z2 ⟨D2, d2, rfl, L2, hd2, hb⟩
      replace hT := hT.trans (hb.mono hT.size); replace hR2 := HRR.out.trans (hT.mono HRR.out.size); replace PV := PV.below hb; replace L1 := L1.below hb; clear hb
      have NB := HNB.out.below hR2
      have xn := fun y : Ext z2 => y.cell NB.c1
      have xp0 := fun y : Ext z2 => y.cell PV.c0
      have xp1 := fun y : Ext z2 => y.cell PV.c1
      have xp2 := fun y : Ext z2 => y.cell PV.c2
      have xp3 := fun y : Ext z2 => y.cell PV.c3
      have xp4 := fun y : Ext z2 => y.cell PV.c4
      have xp5 := fun y : Ext z2 => y.cell PV.c5
      have xp6 := fun y : Ext z2 => y.cell PV.c6
      have xp7 := fun y : Ext z2 => y.cell PV.c7
      have xp8 := fun y : Ext z2 => y.cell PV.c8
      have xp9 := fun y : Ext z2 => y.cell PV.c9
      have xp10 := fun y : Ext z2 => y.cell PV.c10
      have xp11 := fun y : Ext z2 => y.cell PV.c11
      have xp12 := fun y : Ext z2 => y.cell PV.c12
      have hne := Ext.there z2
      go_wp2_with fail
      refine Ext.region (by kernel_rfl) (by kernel_rfl) ?_
      repeat (go_big_quiet_step ((go_at_call 25; exact Ext.call _ (rsource_is p _))))
      refine wpQuiet_nil ?_
      rintro _ ⟨xw, rfl⟩
      have hb := xw.h
      replace hT := hT.trans (hb.mono hT.size); replace hR2 := HRR.out.trans (hT.mono HRR.out.size); replace L1 := L1.below hb; replace L2 := L2.below hb; clear hb
      clear xn xp0 xp1 xp2 xp3 xp4 xp5 xp6 xp7 xp8 xp9 xp10 xp11 xp12 hne PV NB
      generalize xw.w = z3 at *
      clear xw
      go_wp2_with fail
      refine (rsameo_is L m _ _ _ _ HLM.out (by omega) _ L1 L2).mono ?_; rintro e z4 ⟨rfl, hb⟩
      replace hT := hT.trans (hb.mono hT.size)
      clear hb
      go_wp2_with fail
      go_roundw
      case rel => exact ⟨k + 1, by omega, rfl, by simp, hT⟩
      case measure => simp [intOf]; omega
    have hbe : (Sc.src p != n.pa) = false := by simpa using hs.symm
    obtain ⟨a, b, ha, hb', hnx⟩ := Sc.further_yes HV.out.order HND.out hs
    rw [HNT.out] at hb' hnx
    rw [hb'] at hnx
    obtain ⟨ka, hka⟩ : ∃ ka, a.length = ka := ⟨_, rfl⟩
    rw [hka] at hnx
    rw [hL] at ha
    have HMT : Hid (Sc.play (atQ ps ((k : Int)).toNat) nt = a ++ Sc.asP p n :: b) := Lib.hid (by rw [show ((k : Int)).toNat = k from rfl, hp]; exact hb')
    have hml : a.length + b.length = m := by rw [← hm, ha, List.length_append]
    have HMM : Hid ((a ++ Sc.asP p n :: b).length = m + 1) := Lib.hid (by rw [List.length_append, List.length_cons]; omega)
    have HNX := Lib.hid hnx; have HLA := Lib.hid ha; have HKA := Lib.hid hka
    have hkm : ka ≤ m := by omega
    clear hs hL hm hp hb' hnx ha hka hml
    go_wp2_with fail
    clear c0 c1 c2 c3 c4 c5 c6 c7 c8 c9 c10 c11 c12 q0 q1 q2 q3 ql QR
    have PV := PtB.new wr p
    replace hT := hT.alloc hT.size (.cells #[.int .i64 p.id, .int .i64 p.se, .int .i64 p.f, .int .i64 p.oc, .int .i64 p.de, .int .i64 p.ss, .int .i64 p.sm, .int .i64 p.ls, .int .i64 p.la, .int .i64 p.lo, .int .i64 p.hs, .int .i64 p.ha, .int .i64 p.ho] 49)
    replace hR2 := HRR.out.trans (hT.mono HRR.out.size)
    refine (splaysC_is (⟨sv, sB, bl, bc, some ⟨bp, ofp, none⟩, pl, pc, sN, nl, nc⟩ : SH) bs ps ns p.id (k : Int) L m HPX.out HV.out (by omega) HLP.out HLM.out HW.out _ (HGG.out.below hR2) (HSS.out.below hR2)).mono ?_; rintro e z1 ⟨D1, d1, rfl, L1, hd1, hb⟩
    replace hT := hT.trans (hb.mono hT.size); replace hR2 := HRR.out.trans (hT.mono HRR.out.size); replace PV := PV.below hb; clear hb
    have V1 := HV9.out.below hT
    have v0 := V1.at_.c0; have v1 := V1.at_.c1; have v2 := V1.at_.c2; have v3 := V1.at_.c3; have p0 := PV.c0
    go_wp2_with fail
    clear v0 v1 v2 v3 p0 V1
    refine (splaysC_is t9 bs ps nt p.id (k : Int) (a ++ Sc.asP p n :: b) (m + 1) HPX.out HSV.out (by omega) HMT.out HMM.out HWT.out _ (HGG.out.below hR2) (HS9.out.below hT)).mono ?_; rintro e z2 ⟨D2, d2, rfl, L2, hd2, hb⟩
    replace hT := hT.trans (hb.mono hT.size); replace hR2 := HRR.out.trans (hT.mono HRR.out.size); replace PV := PV.below hb; replace L1 := L1.below hb; clear hb
    have NB := HNB.out.below hR2
    have xn := fun y : Ext z2 => y.cell NB.c1
    have xp0 := fun y : Ext z2 => y.cell PV.c0
    have xp1 := fun y : Ext z2 => y.cell PV.c1
    have xp2 := fun y : Ext z2 => y.cell PV.c2
    have xp3 := fun y : Ext z2 => y.cell PV.c3
    have xp4 := fun y : Ext z2 => y.cell PV.c4
    have xp5 := fun y : Ext z2 => y.cell PV.c5
    have xp6 := fun y : Ext z2 => y.cell PV.c6
    have xp7 := fun y : Ext z2 => y.cell PV.c7
    have xp8 := fun y : Ext z2 => y.cell PV.c8
    have xp9 := fun y : Ext z2 => y.cell PV.c9
    have xp10 := fun y : Ext z2 => y.cell PV.c10
    have xp11 := fun y : Ext z2 => y.cell PV.c11
    have xp12 := fun y : Ext z2 => y.cell PV.c12
    have hne := Ext.there z2
    go_wp2_with fail
    refine Ext.region (by kernel_rfl) (by kernel_rfl) ?_
    repeat (go_big_quiet_step ((go_at_call 25; exact Ext.call _ (rsource_is p _))))
    refine wpQuiet_nil ?_
    rintro _ ⟨xw, rfl⟩
    have hb := xw.h
    replace hT := hT.trans (hb.mono hT.size); replace hR2 := HRR.out.trans (hT.mono HRR.out.size); replace L1 := L1.below hb; replace L2 := L2.below hb; clear hb
    clear xn xp0 xp1 xp2 xp3 xp4 xp5 xp6 xp7 xp8 xp9 xp10 xp11 xp12 hne PV NB
    generalize xw.w = z3 at *
    clear xw
    have NB := HNB.out.below hR2
    have n0 := NB.c0
    obtain ⟨bd, ofd, rfl, hbd, hcD⟩ := L2 (by rw [HMM.out]; omega)
    have L2 : SlO z3 (some ⟨bd, ofd, none⟩) (a ++ Sc.asP p n :: b) := fun _ => ⟨bd, ofd, rfl, hbd, hcD⟩
    have Y := hcD ka (by rw [HMM.out]; omega)
    have hat : atO (a ++ Sc.asP p n :: b) ka = Sc.asP p n := by
      rw [atO_eq (by rw [HMM.out]; omega)]
      simp [← HKA.out]
    rw [hat] at Y
    have HY := Lib.hid Y; have HBD := Lib.hid hbd
    clear hat Y hcD hbd
    go_wp2_with fail
    clear n0 NB
    refine (rnoteat_is (a ++ Sc.asP p n :: b) n.id (ka : Int) (m + 1) _ _ HNX.out HMM.out (by omega) _ L2).mono ?_; rintro e z4 ⟨rfl, hb⟩
    replace hT := hT.trans (hb.mono hT.size); replace hR2 := HRR.out.trans (hT.mono HRR.out.size); replace L1 := L1.below hb; replace L2 := L2.below hb; have Y := HY.out.below hb HBD.out; have hbd := Nat.lt_of_lt_of_le HBD.out hb.size; clear hb
    have hk0 : ¬ (ka : Int) < 0 := by omega
    go_wp2_with fail
    have HBL : Hid (b.length = m - ka) := Lib.hid (by have := HLM.out; rw [HLA.out, List.length_append, HKA.out] at this; omega)
    by_cases hck : d2 = ka + 1
    case neg =>
      have NB := HNB.out.below hR2
      have y2 : z4.cell? ⟨bd, ofd + ka * 12 + 2, none⟩ = some (.int .i64 n.ba) := Y.c2
      have y5 : z4.cell? ⟨bd, ofd + ka * 12 + 5, none⟩ = some (.int .i64 n.sn) := Y.c5
      have y6 : z4.cell? ⟨bd, ofd + ka * 12 + 6, none⟩ = some (.int .i64 n.sd) := Y.c6
      have xy2 := fun x : PvW (f19C z4 ka m a L) => (x.h.1.cell (p := ⟨bd, ofd + ka * 12 + 2, none⟩) hbd).trans y2
      have xy5 := fun x : PvW (f19C z4 ka m a L) => (x.h.1.cell (p := ⟨bd, ofd + ka * 12 + 5, none⟩) hbd).trans y5
      have xy6 := fun x : PvW (f19C z4 ka m a L) => (x.h.1.cell (p := ⟨bd, ofd + ka * 12 + 6, none⟩) hbd).trans y6
      have xn2 := fun x : PvW (f19C z4 ka m a L) => (x.h.1.cell (p := ⟨w.heap.size + 1, 2, none⟩) NB.lt).trans NB.c2
      have xn5 := fun x : PvW (f19C z4 ka m a L) => (x.h.1.cell (p := ⟨w.heap.size + 1, 5, none⟩) NB.lt).trans NB.c5
      have xn6 := fun x : PvW (f19C z4 ka m a L) => (x.h.1.cell (p := ⟨w.heap.size + 1, 6, none⟩) NB.lt).trans NB.c6
      have hne : Nonempty (PvW (f19C z4 ka m a L)) := PvW.there (w := z4) ⟨Below.refl _ _, trivial⟩
      have hk1 : (0 : Int) ≤ (ka : Int) := by omega
      have hk2 : (ka : Int) ≤ (d2 : Int) := by omega
      have hk3 : (ka : Int) < ((m + 1 : Nat) : Int) := by omega
      have hk3' : (ka : Int) < (m : Int) + 1 := by omega
      have hk4 : (ka : Int) + 1 ≤ ((m + 1 : Nat) : Int) := by omega
      have hk5 : (0 : Int) ≤ (ka : Int) + 1 := by omega
      have hk6 : (ka : Int) + 1 ≤ (m : Int) + 1 := by omega
      have hk7 : (ka : Int) ≤ 60 := by omega
      have hk8 : ka ≤ d2 := by omega
      have HL1 := Lib.hid L1; have HL2 := Lib.hid L2
      clear Y NB y2 y5 y6 hk0 L1 L2
      refine region_pv (V := fun _ _ => undef) (cs := [2, 6, 11, 13]) (Cv := f19C z4 ka m a L) 35 (by kernel_rfl) (by kernel_rfl) (by kernel_rfl) ⟨(Below.refl _ _).drew, trivial⟩ ?_
      simp only [List.take_succ_cons, List.take_zero, List.drop_succ_cons, List.drop_zero]
      refine pv_quiet (by decide) rfl rfl ?_; intro K' hK'; go_big_quiet_op; go_big_quiet_on
      refine pv_quiet (by decide) rfl rfl ?_; intro K' hK'; go_big_quiet_op; go_big_quiet_on
      refine pv_made rfl rfl (fun w' hw' => ⟨.slice (some ⟨w'.heap.size, 0, none⟩) 0 0, w'.alloc (.cells #[] 51), ?_, hw'.1.alloc hw'.1.size _, own_emptyQ w' _ hw'.1.size⟩) ?_
      · go_simp
      rintro u1 ⟨wu1, eu1⟩
      simp only [Act.put, List.setIfInBounds_toArray, List.set_cons_succ, List.set_cons_zero]
      refine pv_quiet (by decide) rfl rfl ?_; intro K' hK'; go_big_quiet_op; go_big_quiet_on
      refine pv_quiet (by decide) rfl rfl ?_; intro K' hK'; go_big_quiet_op; go_big_quiet_on
      refine pv_quiet (by decide) rfl rfl ?_; intro K' hK'; go_big_quiet_op; go_big_quiet_on
      refine pv_made rfl rfl (fun w' hw' => ?_) ?_
      · obtain ⟨hb', hown⟩ := hw'
        refine exec_slo2 (.tmp 102) (.tmp 105) 24 rfl z4.heap.size 51 i0 _ 96 Tryz.underlying24 HI0.out.1 HI0.out.2.1 HI0.out.2.2.1 HI0.out.2.2.2 rfl u1 0 [] rfl hown (some ⟨bd, ofd, none⟩) ka d2 a rfl (fun h => by cases h) HKA.out (by have h := (HL2.out.below hb').take ka; rwa [List.take_left' HKA.out] at h) (by unfold maxLen; omega) (by omega) hb'.size (fun v' w'' h2 h3 => ?_)
        rw [Nat.zero_add, List.nil_append] at h2
        exact ⟨hb'.grown h3 hb'.size (oown_ne hown), h2⟩
      rintro u2 ⟨wu2, eu2⟩
      simp only [Act.put, List.setIfInBounds_toArray, List.set_cons_succ, List.set_cons_zero]
      refine pv_quiet (by decide) rfl rfl ?_; intro K' hK'; go_big_quiet_op; go_big_quiet_on
      refine pv_quiet (by decide) rfl rfl ?_; intro K' hK'; go_big_quiet_op; go_big_quiet_on
      refine pv_quiet (by decide) rfl rfl ?_; intro K' hK'; go_big_quiet_op; go_big_quiet_on
      refine pv_quiet (by decide) rfl rfl ?_; intro K' hK'; go_big_quiet_op; go_big_quiet_on
      refine pv_made rfl rfl (fun w' hw' => ?_) ?_
      · obtain ⟨hb', hown⟩ := hw'
        refine exec_slo2 (.tmp 106) (.tmp 110) 24 rfl z4.heap.size 51 i0 _ 96 Tryz.underlying24 HI0.out.1 HI0.out.2.1 HI0.out.2.2.1 HI0.out.2.2.2 rfl u2 ka (vO a) rfl hown (some ⟨bd, ofd + (ka + 1) * 12, none⟩) (m - ka) (d2 - (ka + 1)) b ?_ (fun h => by cases h) HBL.out (by have h := (HL2.out.below hb').drop (ka + 1); rw [Option.map_some, baddr_off] at h; rwa [show (a ++ Sc.asP p n :: b).drop (ka + 1) = b by rw [← HKA.out]; simp] at h) (by unfold maxLen; omega) (by omega) hb'.size (fun v' w'' h2 h3 => ?_)
        · rfl
        rw [show ka + (m - ka) = m by omega, ← vO_app, ← HLA.out] at h2
        exact ⟨hb'.grown h3 hb'.size (oown_ne hown), h2⟩
      rintro u3 ⟨wu3, xu3, eu3⟩
      simp only [Act.put, List.setIfInBounds_toArray, List.set_cons_succ, List.set_cons_zero]
      obtain ⟨D5, d5, rfl, -⟩ := own_so eu3
      refine pv_quiet (by decide) rfl rfl ?_; intro K' hK'; go_big_quiet_op; go_big_quiet_on
      refine pv_enter (f := 21) (args := #[.slice D5 m d5, .slice D1 m d1]) rfl rfl (fun w' hw' => ?_) (fun w' hw' => ?_) ?_
      · simp [go_sem]
      · obtain ⟨hb', hown⟩ := hw'
        obtain ⟨D6, d6, e6, L6⟩ := own_so hown
        cases e6
        refine (rsameo_is L m _ _ _ _ HLM.out (by omega) _ L6 (HL1.out.below hb')).mono ?_; rintro e w5 ⟨rfl, hb5⟩
        exact ⟨_, rfl, hb'.trans (hb5.mono hb'.size), rfl⟩
      rintro _ ⟨_, _, rfl⟩
      simp only [Act.put, List.setIfInBounds_toArray, List.set_cons_succ, List.set_cons_zero]
      refine pv_quiet (by decide) rfl rfl ?_; intro K' hK'; go_big_quiet_op; go_big_quiet_on
      refine pv_quiet (by decide) rfl rfl ?_; intro K' hK'; go_big_quiet_op; go_big_quiet_on
      refine pv_quiet (by decide) rfl rfl ?_; intro K' hK'; go_big_quiet_op; go_big_quiet_on
      refine pv_quiet (by decide) rfl rfl ?_; intro K' hK'; go_big_quiet_op; go_big_quiet_on
      refine pv_quiet (by decide) rfl rfl ?_; intro K' hK'; go_big_quiet_op; go_big_quiet_on
      refine pv_quiet (by decide) rfl rfl ?_; intro K' hK'; go_big_quiet_op; go_big_quiet_on
      refine pv_quiet (by decide) rfl rfl ?_; intro K' hK'; go_big_quiet_op; go_big_quiet_on
      refine pv_quiet (by decide) rfl rfl ?_; intro K' hK'; go_big_quiet_op; go_big_quiet_on
      refine pv_quiet (by decide) rfl rfl ?_; intro K' hK'; go_big_quiet_op; go_big_quiet_on
      refine pv_value (by decide) (.bool true) rfl (fun vs' w' hw' => by simp [execOp, Act.eval, go_sem]) ?_
      simp only [Act.put, List.setIfInBounds_toArray, List.set_cons_succ, List.set_cons_zero]
      refine pv_quiet (by decide) rfl rfl ?_; intro K' hK'; go_big_quiet_op; go_big_quiet_on
      refine pv_quiet (by decide) rfl rfl ?_; intro K' hK'; go_big_quiet_op; go_big_quiet_on
      refine pv_quiet (by decide) rfl rfl ?_; intro K' hK'; go_big_quiet_op; go_big_quiet_on
      refine pv_quiet (by decide) rfl rfl ?_; intro K' hK'; go_big_quiet_op; go_big_quiet_on
      refine pv_quiet (by decide) rfl rfl ?_; intro K' hK'; go_big_quiet_op; go_big_quiet_on
      refine pv_quiet (by decide) rfl rfl ?_; intro K' hK'; go_big_quiet_op; go_big_quiet_on
      refine pv_quiet (by decide) rfl rfl ?_; intro K' hK'; go_big_quiet_op; go_big_quiet_on
      refine pv_quiet (by decide) rfl rfl ?_; intro K' hK'; go_big_quiet_op; go_big_quiet_on
      refine pv_quiet (by decide) rfl rfl ?_; intro K' hK'; go_big_quiet_op; go_big_quiet_on
      refine pv_quiet (by decide) rfl rfl ?_; intro K' hK'; go_big_quiet_op; go_big_quiet_on
      refine pv_quiet (by decide) rfl rfl ?_; intro K' hK'; go_big_quiet_op; go_big_quiet_on
      rintro z5 ⟨hb, -⟩
      replace hT := hT.trans (hb.mono hT.size)
      clear hb xy2 xy5 xy6 xn2 xn5 xn6 hne
      go_wp2_with fail
      go_roundw
      case rel => exact ⟨k + 1, by omega, rfl, by simp, hT⟩
      case measure => simp [intOf]; omega
    have HBN : Hid (b = []) := Lib.hid (List.eq_nil_of_length_eq_zero (by have := HBL.out; omega))
    have HCK := Lib.hid hck
    clear hck
    have NB := HNB.out.below hR2
    have y2 : z4.cell? ⟨bd, ofd + ka * 12 + 2, none⟩ = some (.int .i64 n.ba) := Y.c2
    have y5 : z4.cell? ⟨bd, ofd + ka * 12 + 5, none⟩ = some (.int .i64 n.sn) := Y.c5
    have y6 : z4.cell? ⟨bd, ofd + ka * 12 + 6, none⟩ = some (.int .i64 n.sd) := Y.c6
    have xy2 := fun x : PvW (f19C z4 ka m a L) => (x.h.1.cell (p := ⟨bd, ofd + ka * 12 + 2, none⟩) hbd).trans y2
    have xy5 := fun x : PvW (f19C z4 ka m a L) => (x.h.1.cell (p := ⟨bd, ofd + ka * 12 + 5, none⟩) hbd).trans y5
    have xy6 := fun x : PvW (f19C z4 ka m a L) => (x.h.1.cell (p := ⟨bd, ofd + ka * 12 + 6, none⟩) hbd).trans y6
    have xn2 := fun x : PvW (f19C z4 ka m a L) => (x.h.1.cell (p := ⟨w.heap.size + 1, 2, none⟩) NB.lt).trans NB.c2
    have xn5 := fun x : PvW (f19C z4 ka m a L) => (x.h.1.cell (p := ⟨w.heap.size + 1, 5, none⟩) NB.lt).trans NB.c5
    have xn6 := fun x : PvW (f19C z4 ka m a L) => (x.h.1.cell (p := ⟨w.heap.size + 1, 6, none⟩) NB.lt).trans NB.c6
    have hne : Nonempty (PvW (f19C z4 ka m a L)) := PvW.there (w := z4) ⟨Below.refl _ _, trivial⟩
    have hk1 : (0 : Int) ≤ (ka : Int) := by omega
    have hk2 : (ka : Int) ≤ (d2 : Int) := by omega
    have hk3 : (ka : Int) < ((m + 1 : Nat) : Int) := by omega
    have hk3' : (ka : Int) < (m : Int) + 1 := by omega
    have hk4 : (ka : Int) + 1 ≤ ((m + 1 : Nat) : Int) := by omega
    have hk5 : (0 : Int) ≤ (ka : Int) + 1 := by omega
    have hk6 : (ka : Int) + 1 ≤ (m : Int) + 1 := by omega
    have hk7 : (ka : Int) ≤ 60 := by omega
    have hk8 : ka ≤ d2 := by omega
    have HL1 := Lib.hid L1; have HL2 := Lib.hid L2
    clear Y NB y2 y5 y6 hk0 L1 L2
    refine region_pv (V := fun _ _ => undef) (cs := [2, 6, 11, 13]) (Cv := f19C z4 ka m a L) 35 (by kernel_rfl) (by kernel_rfl) (by kernel_rfl) ⟨(Below.refl _ _).drew, trivial⟩ ?_
    simp only [List.take_succ_cons, List.take_zero, List.drop_succ_cons, List.drop_zero]
    refine pv_quiet (by decide) rfl rfl ?_; intro K' hK'; go_big_quiet_op; go_big_quiet_on
    refine pv_quiet (by decide) rfl rfl ?_; intro K' hK'; go_big_quiet_op; go_big_quiet_on
    refine pv_made rfl rfl (fun w' hw' => ⟨.slice (some ⟨w'.heap.size, 0, none⟩) 0 0, w'.alloc (.cells #[] 51), ?_, hw'.1.alloc hw'.1.size _, own_emptyQ w' _ hw'.1.size⟩) ?_
    · go_simp
    rintro u1 ⟨wu1, eu1⟩
    simp only [Act.put, List.setIfInBounds_toArray, List.set_cons_succ, List.set_cons_zero]
    refine pv_quiet (by decide) rfl rfl ?_; intro K' hK'; go_big_quiet_op; go_big_quiet_on
    refine pv_quiet (by decide) rfl rfl ?_; intro K' hK'; go_big_quiet_op; go_big_quiet_on
    refine pv_quiet (by decide) rfl rfl ?_; intro K' hK'; go_big_quiet_op; go_big_quiet_on
    refine pv_made rfl rfl (fun w' hw' => ?_) ?_
    · obtain ⟨hb', hown⟩ := hw'
      refine exec_slo2 (.tmp 102) (.tmp 105) 24 rfl z4.heap.size 51 i0 _ 96 Tryz.underlying24 HI0.out.1 HI0.out.2.1 HI0.out.2.2.1 HI0.out.2.2.2 rfl u1 0 [] rfl hown (some ⟨bd, ofd, none⟩) ka d2 a rfl (fun h => by cases h) HKA.out (by have h := (HL2.out.below hb').take ka; rwa [List.take_left' HKA.out] at h) (by unfold maxLen; omega) (by omega) hb'.size (fun v' w'' h2 h3 => ?_)
      rw [Nat.zero_add, List.nil_append] at h2
      exact ⟨hb'.grown h3 hb'.size (oown_ne hown), h2⟩
    rintro u2 ⟨wu2, eu2⟩
    simp only [Act.put, List.setIfInBounds_toArray, List.set_cons_succ, List.set_cons_zero]
    refine pv_quiet (by decide) rfl rfl ?_; intro K' hK'; go_big_quiet_op; go_big_quiet_on
    refine pv_quiet (by decide) rfl rfl ?_; intro K' hK'; go_big_quiet_op; go_big_quiet_on
    refine pv_quiet (by decide) rfl rfl ?_; intro K' hK'; go_big_quiet_op; go_big_quiet_on
    have hck2 : d2 = ka + 1 := HCK.out
    refine pv_quiet (by decide) rfl rfl ?_; intro K' hK'; go_big_quiet_op; go_big_quiet_on
    clear hck2
    refine pv_made rfl rfl (fun w' hw' => ?_) ?_
    · obtain ⟨hb', hown⟩ := hw'
      refine exec_slo2 (.tmp 106) (.tmp 110) 24 rfl z4.heap.size 51 i0 _ 96 Tryz.underlying24 HI0.out.1 HI0.out.2.1 HI0.out.2.2.1 HI0.out.2.2.2 rfl u2 ka (vO a) rfl hown (some ⟨bd, ofd, none⟩) (m - ka) 0 b ?_ (fun h => by cases h) HBL.out (by rw [HBN.out]; exact SlO.nil _ _) (by unfold maxLen; omega) (by omega) hb'.size (fun v' w'' h2 h3 => ?_)
      · rfl
      rw [show ka + (m - ka) = m by omega, ← vO_app, ← HLA.out] at h2
      exact ⟨hb'.grown h3 hb'.size (oown_ne hown), h2⟩
    rintro u3 ⟨wu3, xu3, eu3⟩
    simp only [Act.put, List.setIfInBounds_toArray, List.set_cons_succ, List.set_cons_zero]
    obtain ⟨D5, d5, rfl, -⟩ := own_so eu3
    refine pv_quiet (by decide) rfl rfl ?_; intro K' hK'; go_big_quiet_op; go_big_quiet_on
    refine pv_enter (f := 21) (args := #[.slice D5 m d5, .slice D1 m d1]) rfl rfl (fun w' hw' => ?_) (fun w' hw' => ?_) ?_
    · simp [go_sem]
    · obtain ⟨hb', hown⟩ := hw'
      obtain ⟨D6, d6, e6, L6⟩ := own_so hown
      cases e6
      refine (rsameo_is L m _ _ _ _ HLM.out (by omega) _ L6 (HL1.out.below hb')).mono ?_; rintro e w5 ⟨rfl, hb5⟩
      exact ⟨_, rfl, hb'.trans (hb5.mono hb'.size), rfl⟩
    rintro _ ⟨_, _, rfl⟩
    simp only [Act.put, List.setIfInBounds_toArray, List.set_cons_succ, List.set_cons_zero]

    refine pv_quiet (by decide) rfl rfl ?_; intro K' hK'; go_big_quiet_op; go_big_quiet_on
    refine pv_quiet (by decide) rfl rfl ?_; intro K' hK'; go_big_quiet_op; go_big_quiet_on
    refine pv_quiet (by decide) rfl rfl ?_; intro K' hK'; go_big_quiet_op; go_big_quiet_on
    refine pv_quiet (by decide) rfl rfl ?_; intro K' hK'; go_big_quiet_op; go_big_quiet_on
    refine pv_quiet (by decide) rfl rfl ?_; intro K' hK'; go_big_quiet_op; go_big_quiet_on
    refine pv_quiet (by decide) rfl rfl ?_; intro K' hK'; go_big_quiet_op; go_big_quiet_on
    refine pv_quiet (by decide) rfl rfl ?_; intro K' hK'; go_big_quiet_op; go_big_quiet_on
    refine pv_quiet (by decide) rfl rfl ?_; intro K' hK'; go_big_quiet_op; go_big_quiet_on
    refine pv_quiet (by decide) rfl rfl ?_; intro K' hK'; go_big_quiet_op; go_big_quiet_on
    refine pv_value (by decide) (.bool true) rfl (fun vs' w' hw' => by simp [execOp, Act.eval, go_sem]) ?_
    simp only [Act.put, List.setIfInBounds_toArray, List.set_cons_succ, List.set_cons_zero]
    refine pv_quiet (by decide) rfl rfl ?_; intro K' hK'; go_big_quiet_op; go_big_quiet_on
    refine pv_quiet (by decide) rfl rfl ?_; intro K' hK'; go_big_quiet_op; go_big_quiet_on
    refine pv_quiet (by decide) rfl rfl ?_; intro K' hK'; go_big_quiet_op; go_big_quiet_on
    refine pv_quiet (by decide) rfl rfl ?_; intro K' hK'; go_big_quiet_op; go_big_quiet_on
    refine pv_quiet (by decide) rfl rfl ?_; intro K' hK'; go_big_quiet_op; go_big_quiet_on
    refine pv_quiet (by decide) rfl rfl ?_; intro K' hK'; go_big_quiet_op; go_big_quiet_on
    refine pv_quiet (by decide) rfl rfl ?_; intro K' hK'; go_big_quiet_op; go_big_quiet_on
    refine pv_quiet (by decide) rfl rfl ?_; intro K' hK'; go_big_quiet_op; go_big_quiet_on
    refine pv_quiet (by decide) rfl rfl ?_; intro K' hK'; go_big_quiet_op; go_big_quiet_on
    refine pv_quiet (by decide) rfl rfl ?_; intro K' hK'; go_big_quiet_op; go_big_quiet_on
    refine pv_quiet (by decide) rfl rfl ?_; intro K' hK'; go_big_quiet_op; go_big_quiet_on
    rintro z5 ⟨hb, -⟩
    replace hT := hT.trans (hb.mono hT.size)
    clear hb xy2 xy5 xy6 xn2 xn5 xn6 hne
    go_wp2_with fail
    go_roundw
    case rel => exact ⟨k + 1, by omega, rfl, by simp, hT⟩
    case measure => simp [intOf]; omega
end Go.Proofs.YtbbjifhelbeniaaGreatDoor
