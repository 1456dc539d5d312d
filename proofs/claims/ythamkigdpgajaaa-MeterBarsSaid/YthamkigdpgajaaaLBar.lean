/- The walk of the law MeterBars. -/
import Derived.Test.YthamkigdpgajaaaNl
import Derived.Test.YthamkigdpgajaaaPw
namespace Go.Proofs.Ythamkigdpgajaaa
open Go.RowKit
namespace Mt
/-- So many 1680ths are before bar i, or before the end. -/
def bef (l : List B) (i : Nat) : Nat := (before l (min i l.length)).toNat
theorem bars_time {l : List B} {i : Nat} (hval : Val l) (hi : i ≤ l.length) : posB l (i : Int) 0 1 = true ∧ rR (true && true) (oN (before l (i : Int).toNat + tk 0 1).toNat) (oD (before l (i : Int).toNat + tk 0 1).toNat) = (oN (bef l i), oD (bef l i), 0) := by
  have h0 : tk 0 1 = 0 := by decide
  have e : (before l (i : Int).toNat + tk 0 1).toNat = bef l i := by unfold bef; rw [Int.toNat_natCast, h0, Nat.min_eq_left hi, Int.add_zero]
  rw [e]
  refine ⟨?_, rfl⟩
  rw [posB_iff, Int.toNat_natCast, h0]
  exact ⟨by omega, hi, by omega, fun _ => rfl, fun h => by have := (hval.ok _ (List.getElem_mem h)).2.2.1; omega⟩
theorem bars_add {l : List B} {i : Nat} (hval : Val l) (hi : i < l.length) : Rt.addR (oN (bef l i)) (oD (bef l i)) (atB l i).2.1 (atB l i).2.2.1 = (oN (bef l (i + 1)), oD (bef l (i + 1)), 0) := by
  have hb := before_bounds hval.ok i (by omega)
  have hs := before_succ hi
  have ho := hval.2.2.1 i hi
  have hl := hval.2.1
  rw [← atB_eq hi] at hs
  obtain ⟨t, ht⟩ := Int.eq_ofNat_of_zero_le (show 0 ≤ tk (atB l i).2.1 (atB l i).2.2.1 from by have := ho.2.2.1; unfold bt at this; omega)
  have hbt : bt (atB l i) = (t : Int) := ht
  obtain ⟨e1, e2⟩ := of_tk (n := (atB l i).2.1) (d := (atB l i).2.2.1) (by omega)
  have h1 := ho.2.2.2.1
  rw [hbt] at hs h1
  rw [ht, Int.toNat_natCast] at e1 e2
  obtain ⟨u, hu⟩ := Int.eq_ofNat_of_zero_le hb.1
  have b0 : bef l i = u := by unfold bef; rw [Nat.min_eq_left (by omega), hu, Int.toNat_natCast]
  have b1 : bef l (i + 1) = u + t := by unfold bef; rw [Nat.min_eq_left hi, hs, hu]; omega
  rw [b0, b1, ← e1, ← e2]
  exact add_of (by omega)
theorem bars_end {l : List B} (i : Nat) (hi : i = l.length + 1) : rR true (totN l) (totD l) = (oN (bef l i), oD (bef l i), 0) := by
  have : bef l i = (before l l.length).toNat := by unfold bef; rw [Nat.min_eq_right (by omega)]
  rw [this]
  rfl
theorem bef_zero (l : List B) : oN (bef l 0) = 0 ∧ oD (bef l 0) = 1 := by
  have : bef l 0 = 0 := by unfold bef; rw [Nat.zero_min, before_zero]; rfl
  rw [this]
  decide +kernel
theorem bef_last {l : List B} {i : Nat} (hi : i = l.length) : bef l (i + 1) = bef l i := by unfold bef; rw [Nat.min_eq_right (by omega), Nat.min_eq_right (by omega)]
end Mt

set_option maxHeartbeats 1600000 in
theorem meterBars_walk (A0 : Option Addr) (n0 c0 : Nat) (l0 : List Mt.B) (hl0 : l0.length = n0) (hw0 : Mt.Wf l0) (_hc0 : n0 ≤ c0) (w : World) (L0 : SlB w A0 l0) :
    Calls Try.prog 6 #[.slice A0 n0 c0] w fun e w' => e = .returned (.bool true) ∧ Below w.heap.size w w' := by
  obtain ⟨f, hf⟩ : ∃ f : Bool, f = true ↔ (n0 ≤ 60 ∧ Mt.Val l0) := by classical exact ⟨decide (n0 ≤ 60 ∧ Mt.Val l0), by simp⟩
  have HN := Lib.hid hl0
  have HW := Lib.hid hw0
  cases f with
  | false =>
    have HU : Hid (¬ (n0 ≤ 60 ∧ Mt.Val l0)) := Lib.hid (fun h => by have := hf.2 h; cases this)
    clear hf hl0 hw0
    go_enter Try.func6, Try.ntmps6
    go_wp2_with fail
    have BASE := Below.refl w.heap.size w
    have M0 := L0
    clear L0
    have B := Below.refl w.heap.size w
    refine (head_any _).mono ?_; rintro e w1 ⟨rfl, hb⟩
    replace B := B.trans (hb.mono (by have := B.size; simp <;> omega))
    clear hb
    go_wp2_with fail
    refine (lusable_is l0 false n0 c0 A0 (Mt.iff_ff HU.out) HN.out _ (M0.below B)).mono ?_; rintro e w2 ⟨rfl, hb⟩
    replace B := B.trans (hb.mono (by have := B.size; simp <;> omega))
    clear hb
    go_wp2_with fail
    go_ret
    refine ⟨rfl, BASE.trans (Below.mono (B := w.heap.size) ?_ BASE.size)⟩
    exact B
  | true =>
    have HU := Lib.hid (hf.1 rfl)
    have HVal := Lib.hid (hf.1 rfl).2
    have hn60 : n0 ≤ 60 := (hf.1 rfl).1
    clear hf hl0 hw0
    go_enter Try.func6, Try.ntmps6
    go_wp2_with fail
    have BASE := Below.refl w.heap.size w
    have M0 := L0
    clear L0
    have B := Below.refl w.heap.size w
    refine (head_any _).mono ?_; rintro e w1 ⟨rfl, hb⟩
    replace B := B.trans (hb.mono (by have := B.size; simp <;> omega))
    clear hb
    go_wp2_with fail
    refine (lusable_is l0 true n0 c0 A0 (Mt.iff_tt HU.out) HN.out _ (M0.below B)).mono ?_; rintro e w2 ⟨rfl, hb⟩
    replace B := B.trans (hb.mono (by have := B.size; simp <;> omega))
    clear hb
    go_wp2_with fail
    refine (lrat_is 0 1 _).mono ?_; rintro e w3 ⟨rfl, hb⟩
    replace B := B.trans (hb.mono (by have := B.size; simp <;> omega))
    clear hb
    go_wp2_with fail
    have V0 := Var2.new w3 0 1 24
    have nb_want : w.heap.size ≤ w3.heap.size := B.size
    replace B := B.alloc nb_want (.cells #[.int .i64 0, .int .i64 1] 24)
    have HM := Lib.hid M0
    clear M0
    obtain ⟨WB, hWB⟩ : ∃ b, w3.heap.size = b := ⟨_, rfl⟩
    obtain ⟨w4, hw4⟩ : ∃ x, w3.alloc (.cells #[.int .i64 0, .int .i64 1] 24) = x := ⟨_, rfl⟩
    rw [hw4] at V0 B ⊢
    rw [hWB] at V0 nb_want ⊢
    clear hWB hw4
    go_loopw [3, 5] (fun s3 s5 wr => ∃ (i : Nat) (q N D : Int), i ≤ n0 + 1 ∧ q = i ∧ s3 = .bool true ∧ s5 = .int .i64 q ∧ Hid (Mt.oN (Mt.bef l0 i) = N ∧ Mt.oD (Mt.bef l0 i) = D) ∧ Hid (Var2 wr WB N D) ∧ Below w.heap.size w wr) (fun _ s5 _ => n0 + 1 - (intOf s5).toNat)
    case atStart => exact ⟨0, 0, 0, 1, Nat.zero_le _, rfl, rfl, rfl, Lib.hid (Mt.bef_zero _), Lib.hid V0, B⟩
    case round =>
      clear V0 B
      obtain ⟨i, q, N, D, hi, hq, rfl, rfl, HE, HV, B⟩ := hrel
      have want := HV.out
      clear HV
      by_cases hin : i ≤ n0
      · obtain ⟨tp, tr⟩ := Mt.bars_time (i := i) HVal.out (by rw [HN.out]; exact hin)
        rw [← hq, HE.out.1, HE.out.2] at tr
        rw [← hq] at tp
        have HTP := Lib.hid tp
        have HTR := Lib.hid tr
        have hql : q ≤ (n0 : Int) := by omega
        have HQ := Lib.hid hq
        clear tp tr
        by_cases hlast : i = n0
        · have hnl : ¬ q < (n0 : Int) := by have := HQ.out; omega
          clear hq
          go_wp2_with fail
          refine (lrat_is 0 1 _).mono ?_; rintro e w5 ⟨rfl, hb⟩
          replace want := want.below hb
          replace B := B.trans (hb.mono (by have := B.size; simp <;> omega))
          clear hb
          go_wp2_with fail
          refine (mtime_lt l0 q 0 1 true true N D 0 n0 c0 A0 (Mt.iff_tt HVal.out) HTP.out HTR.out HN.out HW.out _ (HM.out.below B)).mono ?_; rintro e w6 ⟨rfl, hb⟩
          replace want := want.below hb
          replace B := B.trans (hb.mono (by have := B.size; simp <;> omega))
          clear hb
          have lwant := want.at2.lt; have cwant0 := want.at2.c0; have cwant1 := want.at2.c1; have fwant0 := want.f0; have fwant1 := want.f1
          go_wp2_with fail
          go_roundw
          case rel => exact ⟨i + 1, q + 1, N, D, by omega, (by have := HQ.out; omega), rfl, rfl, Lib.hid (by rw [Mt.bef_last (by rw [HN.out]; exact hlast)]; exact HE.out), Lib.hid (want.alloc _), (B.alloc (by have := B.size; simp <;> omega) _)⟩
          case measure => have := HQ.out; simp [intOf]; omega
        · have hil : i < l0.length := by rw [HN.out]; omega
          have hadd := Mt.bars_add HVal.out hil
          rw [HE.out.1, HE.out.2] at hadd
          obtain ⟨N', hN'⟩ : ∃ N', Mt.oN (Mt.bef l0 (i + 1)) = N' := ⟨_, rfl⟩
          obtain ⟨D', hD'⟩ : ∃ D', Mt.oD (Mt.bef l0 (i + 1)) = D' := ⟨_, rfl⟩
          have HE2 : Hid (Mt.oN (Mt.bef l0 (i + 1)) = N' ∧ Mt.oD (Mt.bef l0 (i + 1)) = D') := Lib.hid ⟨hN', hD'⟩
          rw [hN', hD'] at hadd
          obtain ⟨bb, off, rfl, hbb, hc⟩ := HM.out (by omega)
          obtain ⟨_, c1, c2, _⟩ := hc i hil
          have hql2 : q < (n0 : Int) := by omega
          have hq3 : 0 ≤ q := by omega
          have hqn : q.toNat = i := by omega
          have hin2 : i < n0 := by omega
          clear hc hN' hD' hq hil
          generalize (atB l0 i).2.1 = bn at *
          generalize (atB l0 i).2.2.1 = bd at *
          have HADD := Lib.hid hadd
          clear hadd
          go_wp2_with fail
          refine (lrat_is 0 1 _).mono ?_; rintro e w5 ⟨rfl, hb⟩
          replace want := want.below hb
          replace B := B.trans (hb.mono (by have := B.size; simp <;> omega))
          clear hb
          go_wp2_with fail
          refine (mtime_lt l0 q 0 1 true true N D 0 n0 c0 (some ⟨bb, off, none⟩) (Mt.iff_tt HVal.out) HTP.out HTR.out HN.out HW.out _ (HM.out.below B)).mono ?_; rintro e w6 ⟨rfl, hb⟩
          replace want := want.below hb
          replace B := B.trans (hb.mono (by have := B.size; simp <;> omega))
          clear hb
          have lwant := want.at2.lt; have cwant0 := want.at2.c0; have cwant1 := want.at2.c1; have fwant0 := want.f0; have fwant1 := want.f1
          go_wp2_with fail
          have B8 : Below w.heap.size w (w6.alloc (.cells #[.int .i64 N, .int .i64 D] 24)) := (B.alloc (by have := B.size; simp <;> omega) _)
          replace want : Var2 (w6.alloc (.cells #[.int .i64 N, .int .i64 D] 24)) WB N D := want.alloc _
          clear B lwant cwant0 cwant1 fwant0 fwant1
          obtain ⟨w8, ew8⟩ : ∃ x, w6.alloc (.cells #[.int .i64 N, .int .i64 D] 24) = x := ⟨_, rfl⟩
          rw [ew8] at B8 want ⊢
          clear ew8
          have B := B8
          clear B8
          have owant := want.at2
          have xwant0 := fun x : PvW (mkC2 w8 N' D') => (x.h.1.cell (p := ⟨WB, 0, none⟩) owant.lt).trans owant.c0
          have xwant1 := fun x : PvW (mkC2 w8 N' D') => (x.h.1.cell (p := ⟨WB, 1, none⟩) owant.lt).trans owant.c1
          have BW_w8 := B.size
          have z1 := fun x : PvW (mkC2 w8 N' D') => (x.h.1.cell (p := ⟨bb, off + i * 4 + 1, none⟩) (Nat.lt_of_lt_of_le hbb B.size)).trans ((B.cell (p := ⟨bb, off + i * 4 + 1, none⟩) hbb).trans c1)
          have z2 := fun x : PvW (mkC2 w8 N' D') => (x.h.1.cell (p := ⟨bb, off + i * 4 + 2, none⟩) (Nat.lt_of_lt_of_le hbb B.size)).trans ((B.cell (p := ⟨bb, off + i * 4 + 2, none⟩) hbb).trans c2)
          have hne : Nonempty (PvW (mkC2 w8 N' D')) := PvW.there (w := w8.drew) ⟨(Below.refl _ _).drew, trivial⟩
          refine region_pv (V := fun _ _ => .tuple #[.agg #[.int .i64 N', .int .i64 D'], .int .i64 0]) (cs := [10, 11]) (Cv := (mkC2 w8 N' D')) 12 (by kernel_rfl) (by kernel_rfl) (by kernel_rfl) ⟨(Below.refl _ _).drew, trivial⟩ ?_
          simp only [List.take_succ_cons, List.take_zero, List.drop_succ_cons, List.drop_zero]
          iterate 6 (refine pv_quiet (by decide) rfl rfl ?_; intro K' hK'; go_big_quiet_op; go_big_quiet_on)
          refine pv_kept (f := 25) (args := #[.agg #[.int .i64 N, .int .i64 D], .agg #[.int .i64 bn, .int .i64 bd]]) (by decide) (.tuple #[.agg #[.int .i64 N', .int .i64 D'], .int .i64 0]) rfl (fun vs' w' hw' => ?_) rfl (fun vs' w' hw' => ?_) ?_
          · simp [go_sem]
          · refine (add_is N D bn bd N' D' 0 HADD.out _).mono ?_
            rintro e wz ⟨rfl, hbz⟩
            exact ⟨rfl, hw'.below hbz⟩
          simp only [Act.put, List.setIfInBounds_toArray, List.set_cons_succ, List.set_cons_zero]
          iterate 3 (refine pv_quiet (by decide) rfl rfl ?_; intro K' hK'; go_big_quiet_op; go_big_quiet_on)
          refine pv_made rfl rfl (fun w' hw' => ⟨.pointer (some ⟨w'.heap.size, 0, none⟩), w'.alloc (.cells #[.int .i64 0, .int .i64 0] 24), ?_, hw'.1.alloc hw'.1.size _, _, rfl, hw'.1.size, Var2.new _ _ _ _⟩) ?_
          · go_simp
          rintro _ ⟨_, _, g, rfl, _, _⟩
          simp only [Act.put, List.setIfInBounds_toArray, List.set_cons_succ, List.set_cons_zero]
          refine pv_stored rfl rfl (fun w' hw' => ?_) ?_
          · obtain ⟨hb', g', e', hg', hV'⟩ := hw'
            cases e'
            refine ⟨((w'.setCell ⟨g, 0, none⟩ (.int .i64 N')).setCell ⟨g, 1, none⟩ (.int .i64 D')), ?_, ((hb'.setCell (p := ⟨g, 0, none⟩) hg' _).setCell (p := ⟨g, 1, none⟩) hg' _), g, rfl, hg', hV'.put _ _⟩
            have l0 := hV'.at2.lt
            have v0 := hV'.at2.c0
            have f0 := hV'.f0
            have v1 := hV'.at2.c1
            have f1 := hV'.f1
            go_simp
          rintro _ ⟨_, _, _, _, _, _⟩
          simp only [Act.put]
          rintro w9 ⟨hb, g', e', hg, hV⟩
          cases e'
          have n_want_nx : WB < g := Nat.lt_of_lt_of_le want.at2.lt hg
          replace want := want.below hb
          replace B := B.trans (hb.mono B.size)
          have nx := hV.at2
          clear hb hV hne xwant0 xwant1 owant
          have nb_nx : w.heap.size ≤ g := by have := BW_w8; omega
          clear z1 z2
          have lwant := want.at2.lt; have cwant0 := want.at2.c0; have cwant1 := want.at2.c1; have fwant0 := want.f0; have fwant1 := want.f1
          have lnx := nx.lt; have cnx0 := nx.c0; have cnx1 := nx.c1
          go_wp2_with fail
          go_roundw
          case rel => exact ⟨i + 1, q + 1, N', D', by omega, (by have := HQ.out; omega), rfl, rfl, HE2, Lib.hid (want.put _ _), ((B.setCell (p := ⟨WB, 0, none⟩) nb_want _).setCell (p := ⟨WB, 1, none⟩) nb_want _)⟩
          case measure => have := HQ.out; simp [intOf]; omega
      · obtain rfl : i = n0 + 1 := by omega
        have hql : ¬ q ≤ (n0 : Int) := by omega
        have HTO : Hid (Mt.rR true (Mt.totN l0) (Mt.totD l0) = (N, D, 0)) := Lib.hid (by rw [Mt.bars_end (n0 + 1) (by rw [HN.out]), HE.out.1, HE.out.2])
        clear hq
        go_wp2_with fail
        refine (mtotal_lt l0 true N D 0 n0 c0 A0 (Mt.iff_tt HVal.out) HTO.out HN.out HW.out _ (HM.out.below B)).mono ?_; rintro e w5 ⟨rfl, hb⟩
        replace want := want.below hb
        replace B := B.trans (hb.mono (by have := B.size; simp <;> omega))
        clear hb
        have lwant := want.at2.lt; have cwant0 := want.at2.c0; have cwant1 := want.at2.c1; have fwant0 := want.f0; have fwant1 := want.f1
        go_wp2_with fail
        go_ret
        refine ⟨rfl, BASE.trans (Below.mono (B := w.heap.size) ?_ BASE.size)⟩
        exact (B.alloc (by have := B.size; simp <;> omega) _)
end Go.Proofs.Ythamkigdpgajaaa
