/- The walk of the law FormVisits. -/
import Derived.Test.YtakbpgljbbkmkaaHv
import Derived.Maps.OwnOps
namespace Go.Proofs.Ytakbpgljbbkmkaa
open Go.RowKit Go.Maps

set_option maxRecDepth 100000 in
set_option maxHeartbeats 12800000 in
theorem formVisits_walk (h : FH) (f : Fo.Fm) (hwf : ∀ c ∈ f.cs, Fo.wf3 c) (hcap : h.cl ≤ h.cc) (w : World) (hS : SlF w h f) :
    Calls Try.prog 4 #[.agg #[.int .i64 h.n, .slice h.R h.rl h.rc, .slice h.E h.el h.ec, .int .i64 h.ja, .int .i64 h.jt, .int .i64 h.jf, .slice h.C h.cl h.cc]] w fun e w' => e = .returned (.bool true) ∧ Below w.heap.size w w' := by
  have HWF := Lib.hid hwf; have HCAP := Lib.hid hcap
  have HS := Lib.hid hS
  have Q := FB.new w h
  have B := (Below.refl w.heap.size w).alloc (Nat.le_refl _) (.cells #[.int .i64 h.n, .slice h.R h.rl h.rc, .slice h.E h.el h.ec, .int .i64 h.ja, .int .i64 h.jt, .int .i64 h.jf, .slice h.C h.cl h.cc] 28)
  clear hS hwf hcap
  go_enter Try.func4, Try.ntmps4
  go_wp2_with fail
  refine (head_any _).mono ?_; rintro e w2 ⟨rfl, hb⟩
  replace Q := Q.below hb; replace B := B.trans (hb.mono B.size); clear hb
  have q0 := Q.c0; have q1 := Q.c1; have q2 := Q.c2; have q3 := Q.c3; have q4 := Q.c4; have q5 := Q.c5; have q6 := Q.c6; have ql := Q.lt
  go_wp2_with fail
  clear q0 q1 q2 q3 q4 q5 q6 ql
  obtain ⟨u, hu⟩ : ∃ u : Bool, u = true ↔ fewH h ∧ Fo.Val f := ⟨@decide _ (Classical.propDecidable _), @decide_eq_true_iff _ (Classical.propDecidable _)⟩
  have HU := Lib.hid hu
  clear hu
  refine (lusable_is h f u HU.out HCAP.out _ (HS.out.below B)).mono ?_; rintro e w3 ⟨rfl, hb⟩
  replace Q := Q.below hb; replace B := B.trans (hb.mono B.size); clear hb
  cases u with
  | false =>
    go_wp2_with fail
    go_ret
    exact ⟨rfl, B⟩
  | true =>
  have HV := Lib.hid (HU.out.1 rfl).2
  have HFN : Hid (f.n = h.n) := Lib.hid HS.out.n
  have HNB : Hid (1 ≤ h.n ∧ h.n ≤ 4000) := Lib.hid (by rw [← HFN.out]; exact HV.out.n)
  have q0 := Q.c0; have q1 := Q.c1; have q2 := Q.c2; have q3 := Q.c3; have q4 := Q.c4; have q5 := Q.c5; have q6 := Q.c6; have ql := Q.lt
  go_wp2_with fail
  clear q0 q1 q2 q3 q4 q5 q6 ql
  refine (wUnfold_is h f HV.out HWF.out _ (HS.out.below B)).mono ?_; rintro e w4 ⟨hb, uv, rfl, OV⟩
  replace Q := Q.below hb; replace B := B.trans (hb.mono B.size); clear hb
  obtain ⟨l, hl⟩ : ∃ l, Fo.unf f = l := ⟨_, rfl⟩
  have HIN : Hid (∀ x ∈ l, 0 ≤ x.b ∧ x.b < h.n ∧ 1 ≤ x.p ∧ x.p ≤ 20000) := Lib.hid (fun x hx => by rw [← hl] at hx; rw [← HFN.out]; exact HV.out.unf_in hx)
  have HLT : Hid (∀ i, i < l.length → Fo.lastP (l.take i) (atV l i).b < (atV l i).p) := Lib.hid (fun i hi => Fo.lastP_lt hi (by rw [← hl]; exact Fo.unf_rise f) (fun y hy => (HIN.out y hy).2.2.1))
  have HLN : Hid (l.length ≤ 20000) := Lib.hid (by
    have h1 := Fo.unf_le f
    rw [Fo.vis_length] at h1
    have := HV.out.most
    rw [hl] at h1
    omega)
  have HLE : Hid (l.length ≤ (Fo.whl f).length) := Lib.hid (by
    have h1 := Fo.unf_le f
    rwa [Fo.vis_length, hl] at h1)
  rw [hl] at OV
  obtain ⟨hln, LA, lc, rfl, SL, -⟩ := own_V OV
  obtain ⟨n, hn⟩ : ∃ n, l.length = n := ⟨_, rfl⟩
  rw [hn] at HLN HLE ⊢
  have HN := Lib.hid hn; have HSL := Lib.hid SL
  have hnb := HLN.out
  have M0 : (w4.alloc (.map #[] 0)).ownsMap Try.prog 3 (plainElem Try.prog 3) w4.heap.size 0 (.map [] : DataW Unit) := World.ownsMap_made _ _ _ _
  have HM0 := Lib.hid M0
  have HB0 := Lib.hid ((Below.refl w4.heap.size w4).alloc (Nat.le_refl _) (.map #[] 0))
  have HQ := Lib.hid Q; have HB := Lib.hid B
  have hmm := run_mkNoneI
  clear OV hl hln SL hn M0 Q B
  go_wp2_with fail
  go_loopw [28] (fun s28 wr => ∃ (i : Nat), i ≤ n ∧ s28 = .int .i64 (i : Int) ∧ (∃ D : DataW Unit, wr.ownsMap Try.prog 3 (plainElem Try.prog 3) w4.heap.size i D ∧ Hid (Fo.Lst (l.take i) D)) ∧ Below w4.heap.size w4 wr) (fun s28 _ => n - (intOf s28).toNat)
  case atStart => exact ⟨0, Nat.zero_le _, rfl, ⟨_, HM0.out, Lib.hid Fo.Lst.start⟩, HB0.out⟩
  case round =>
    clear HM0 HB0 hmm
    obtain ⟨i, hi, rfl, ⟨D, hown, HLS⟩, hR⟩ := hrel
    by_cases hlt : i < n
    · have hil : i < l.length := by rw [HN.out]; exact hlt
      obtain ⟨bb, off, hLA, hbb, hcc⟩ := HSL.out (by omega)
      obtain ⟨x, hx⟩ : ∃ x, atV l i = x := ⟨_, rfl⟩
      have X := (hcc i hil).below hR hbb
      rw [hx] at X
      have HTA : Hid (l.take (i + 1) = l.take i ++ [x]) := Lib.hid (by rw [← hx]; exact take_atV hil)
      have hxb := HIN.out x (by rw [← hx]; exact atV_mem hil)
      have hkey := int_key (x := x.b) (by have := HNB.out; unfold i64; omega)
      obtain ⟨cv, hcv⟩ : ∃ cv, Fo.lastP (l.take i) x.b = cv := ⟨_, rfl⟩
      have hlp := HLT.out i hil
      rw [hx, hcv] at hlp
      have HC : Hid (D.atKey (.int .i64 x.b) (.lit (.int .i64 0)) = .lit (.int .i64 cv)) := Lib.hid (by rw [HLS.out x.b (by have := HNB.out; unfold i64; omega), hcv])
      have HS2 : Hid (IsMap D → Fo.Lst (l.take (i + 1)) (D.put (.int .i64 x.b) (.lit (.int .i64 x.p)))) := Lib.hid (fun hD => by rw [HTA.out]; exact Fo.Lst.step HLS.out hD (by have := HNB.out; unfold i64; omega))
      have Qr := (HQ.out.below hR).alloc (.cells #[.int .i64 x.b, .int .i64 x.p] 30)
      have hRn := hR.alloc hR.size (.cells #[.int .i64 x.b, .int .i64 x.p] 30)
      have XA := At2.new wr x.b x.p 30
      have hown1 := hown.alloc (.cells #[.int .i64 x.b, .int .i64 x.p] 30)
      have HR1 := Lib.hid hRn
      obtain ⟨c0, c1⟩ := X
      have q0 := Qr.c0; have ql := Qr.lt
      have x0 := XA.c0; have x1 := XA.c1; have xl := XA.lt
      obtain ⟨hb0, hb1, hp0, hp1⟩ := hxb
      have hi1 : (i : Int) < (n : Int) := by omega
      have hd0 : ¬ x.b < 0 := by omega
      have hd1 : ¬ h.n ≤ x.b := by omega
      have hd2 : ¬ x.p ≤ cv := by omega
      obtain ⟨c9, hrun, hat9, -⟩ := hown1.lookup_int intK Try.underlying47 Try.underlying3 (Try.zeroValue3 _) hkey
      obtain rfl : cv = c9 := (by rw [HC.out] at hat9; simpa using hat9)
      clear hat9
      clear hcc hx hil hcv Qr hRn XA hlp
      rw [hLA]
      go_wp2_with (first
        | (simp only [hrun])
        | (at_mapUpdate; refine wpList_mapUpdate_own _ rfl _ _ _ 47 rfl 3 3 intK Try.underlying47 _ w4.heap.size i D rfl hown1 (by unfold maxLen; omega) _ _ _ rfl rfl hkey (.lit (.int .i64 x.p)) [] (plainElem_int Try.underlying3 (wf_lit (by unfold i64; omega))) ?_; intro w5 hown3 hg3)
        | fail)
      go_roundw
      case rel => exact ⟨i + 1, by omega, by simp, ⟨_, hown3, Lib.hid (HS2.out (hown1.tidy intK).isMap)⟩, HR1.out.grown hg3 HR1.out.size (fun k hk => by cases hk; exact Nat.le_refl _)⟩
      case measure => simp [intOf]; omega
    · obtain rfl : i = n := by omega
      have Q := HQ.out.below hR
      have BX := HB.out.trans (hR.mono HB.out.size)
      clear hown HLS hR HQ HB
      obtain ⟨L, hL⟩ : ∃ L, Fo.whl f = L := ⟨_, rfl⟩
      have HL := Lib.hid hL
      rw [hL] at HLE
      have HWM : Hid (L.length ≤ 20000) := Lib.hid (by rw [← hL]; exact HV.out.most)
      have HLB : Hid (∀ b ∈ L, 0 ≤ b ∧ b < 4000) := Lib.hid (fun b hb => by rw [← hL] at hb; have := HV.out.bars b hb; rw [HFN.out] at this; have := HNB.out; omega)
      clear hL
      have BW : Below w.heap.size w (wr.alloc (.cells #[.int .i64 h.n, .slice h.R h.rl h.rc, .slice h.E h.el h.ec, .int .i64 h.ja, .int .i64 h.jt, .int .i64 h.jf, .slice none 0 0] 28)) := BX.alloc BX.size (.cells #[.int .i64 h.n, .slice h.R h.rl h.rc, .slice h.E h.el h.ec, .int .i64 h.ja, .int .i64 h.jt, .int .i64 h.jf, .slice none 0 0] 28)
      have G := (FV.new wr h).fw
      have Q1 := Q.alloc (.cells #[.int .i64 h.n, .slice h.R h.rl h.rc, .slice h.E h.el h.ec, .int .i64 h.ja, .int .i64 h.jt, .int .i64 h.jf, .slice h.C h.cl h.cc] 28)
      have f6 := G.f 6
      have q0 := Q1.c0; have q1 := Q1.c1; have q2 := Q1.c2; have q3 := Q1.c3; have q4 := Q1.c4; have q5 := Q1.c5; have q6 := Q1.c6; have ql := Q1.lt
      have p0 := Q.c0; have p1 := Q.c1; have p2 := Q.c2; have p3 := Q.c3; have p4 := Q.c4; have p5 := Q.c5; have p6 := Q.c6; have pl := Q.lt
      have g0 := G.a.c0; have g1 := G.a.c1; have g2 := G.a.c2; have g3 := G.a.c3; have g4 := G.a.c4; have g5 := G.a.c5; have g6 := G.a.c6; have gl := G.a.lt
      go_wp2_with fail
      clear q0 q1 q2 q3 q4 q5 q6 ql p0 p1 p2 p3 p4 p5 p6 pl g0 g1 g2 g3 g4 g5 g6 gl f6
      clear G Q Q1
      have HS5 := Lib.hid ((HS.out.below BW).unc none 0)
      obtain ⟨X, hX⟩ : ∃ X, wr.alloc (.cells #[.int .i64 h.n, .slice h.R h.rl h.rc, .slice h.E h.el h.ec, .int .i64 h.ja, .int .i64 h.jt, .int .i64 h.jf, .slice none 0 0] 28) = X := ⟨_, rfl⟩
      rw [hX] at BW HS5
      rw [hX]
      clear hX
      refine (wUnfold_is {h with C := none, cl := 0, cc := 0} (Fo.unc f) HV.out.unc (fun c hc => by cases hc) _ HS5.out).mono ?_; rintro e w6 ⟨hb, uv, rfl, OV⟩
      rw [Fo.unf_unc, Fo.vis_length, HL.out] at OV
      obtain ⟨hln, MA, mc, rfl, SM, -⟩ := own_V OV
      obtain ⟨m, hm⟩ : ∃ m, L.length = m := ⟨_, rfl⟩
      rw [hm] at HWM HLE ⊢
      have HM := Lib.hid hm; have HSM := Lib.hid SM
      replace BW := BW.trans (hb.mono BW.size)
      have hmb := HWM.out
      have hnm : (i : Int) ≤ (m : Int) := by have := HLE.out; omega
      have M0 : (w6.alloc (.map #[] 0)).ownsMap Try.prog 3 (plainElem Try.prog 3) w6.heap.size 0 (.map [] : DataW Unit) := World.ownsMap_made _ _ _ _
      have HM0 := Lib.hid M0
      have HB0 := Lib.hid ((Below.refl w6.heap.size w6).alloc (Nat.le_refl _) (.map #[] 0))
      have HBW := Lib.hid BW
      have hmm := run_mkNoneI
      clear OV hln hm SM hb M0 BW BX
      go_wp2_with fail
      go_loopw [3, 67] (fun s3 s67 wr => ∃ (j : Nat), j ≤ m ∧ s3 = .bool true ∧ s67 = .int .i64 (j : Int) ∧ (∃ D : DataW Unit, wr.ownsMap Try.prog 3 (plainElem Try.prog 3) w6.heap.size j D ∧ Hid (Fo.Cnt (L.take j) D)) ∧ Below w6.heap.size w6 wr) (fun _ s67 _ => m - (intOf s67).toNat)
      case atStart => exact ⟨0, Nat.zero_le _, rfl, rfl, ⟨_, HM0.out, Lib.hid Fo.Cnt.start⟩, HB0.out⟩
      case round =>
        clear HM0 HB0 hmm
        obtain ⟨j, hj, rfl, rfl, ⟨D, hown, HCN⟩, hR⟩ := hrel
        by_cases hlt : j < m
        · have hjl : j < L.length := by rw [HM.out]; exact hlt
          obtain ⟨bb, off, hMA, hbb, hcc⟩ := HSM.out (by rw [Fo.vis_length]; omega)
          have X := (hcc j (by rw [Fo.vis_length]; exact hjl)).below hR hbb
          rw [Fo.vis_at hjl] at X
          have HTA : Hid (L.take (j + 1) = L.take j ++ [L[j]]) := Lib.hid (List.take_succ_eq_append_getElem hjl)
          have hbar := HLB.out L[j] (List.getElem_mem hjl)
          obtain ⟨bar, hba⟩ : ∃ bar, L[j] = bar := ⟨_, rfl⟩
          rw [hba] at X HTA hbar
          have hkey := int_key (x := bar) (by unfold i64; omega)
          obtain ⟨cv, hcv⟩ : ∃ cv : Int, ((L.take j).count bar : Int) = cv := ⟨_, rfl⟩
          have hcvb : 0 ≤ cv ∧ cv ≤ 20000 := by
            have h3 := List.count_le_length (a := bar) (l := L.take j)
            rw [List.length_take] at h3
            omega
          rw [hcv] at X
          have HC : Hid (D.atKey (.int .i64 bar) (.lit (.int .i64 0)) = .lit (.int .i64 cv)) := Lib.hid (by rw [HCN.out bar (by unfold i64; omega), hcv])
          have HC5 : Hid (IsMap D → (D.put (.int .i64 bar) (.lit (.int .i64 (cv + 1)))).atKey (.int .i64 bar) (.lit (.int .i64 0)) = .lit (.int .i64 (cv + 1))) := Lib.hid (fun hD => atKey_put_same hD (intK.key hkey) _ _)
          have HCN5 : Hid (IsMap D → Fo.Cnt (L.take (j + 1)) (D.put (.int .i64 bar) (.lit (.int .i64 (cv + 1))))) := Lib.hid (fun hD => by rw [HTA.out, ← hcv]; exact Fo.Cnt.step HCN.out hD (by unfold i64; omega))
          have XA := At2.new wr bar (cv + 1) 30
          have hown1 := hown.alloc (.cells #[.int .i64 bar, .int .i64 (cv + 1)] 30)
          have HR1 := Lib.hid (hR.alloc hR.size (.cells #[.int .i64 bar, .int .i64 (cv + 1)] 30))
          have hsz : w6.heap.size < wr.heap.size := by obtain ⟨_, _, h1, _⟩ := hown; exact (Array.getElem?_eq_some_iff.1 h1).1
          obtain ⟨c0, c1⟩ := X
          have x0 := XA.c0; have x1 := XA.c1; have xl := XA.lt
          have hD1 := (hown1.tidy intK).isMap
          have HC6 : Hid ((D.put (.int .i64 bar) (.lit (.int .i64 (cv + 1)))).atKey (.int .i64 bar) (.lit (.int .i64 0)) = .lit (.int .i64 (cv + 1))) := Lib.hid (HC5.out hD1)
          have HCN6 := Lib.hid (HCN5.out hD1)
          have HXA := Lib.hid XA
          obtain ⟨hcv0, hcv1⟩ := hcvb
          have hj1 : (j : Int) < (m : Int) := by omega
          clear hcc hjl hba hcv XA HC5 HCN5 hD1 HCN HTA
          rw [hMA]
          go_wp2_with (first
            | (simp only [hrun])
            | (at_lookup; refine wpList_lookup_own_int _ rfl _ _ 47 rfl 3 3 .i64 intK Try.underlying47 Try.underlying3 (Try.zeroValue3 _) w6.heap.size j D rfl hown1 _ _ rfl hkey ?_; intro c hat hwc; obtain rfl : cv = c := (by rw [HC.out] at hat; simpa using hat); clear hat hwc)
            | (at_mapUpdate; refine wpList_mapUpdate_own _ rfl _ _ _ 47 rfl 3 3 intK Try.underlying47 _ w6.heap.size j D rfl hown1 (by unfold maxLen; omega) _ _ _ rfl rfl hkey (.lit (.int .i64 (cv + 1))) [] (plainElem_int Try.underlying3 (wf_lit (by unfold i64; omega))) ?_; intro w7 hown3 hg3; have HX7 := HXA.out.sameB hg3.size (hg3.block _ HXA.out.lt (fun e => by have := Option.some.inj e; omega)); obtain ⟨c9, hrun, hat9, -⟩ := hown3.lookup_int intK Try.underlying47 Try.underlying3 (Try.zeroValue3 _) hkey; obtain rfl : c9 = cv + 1 := (by rw [HC6.out] at hat9; simpa using hat9.symm); clear hat9; have y0 := HX7.c0; have y1 := HX7.c1; have yl := HX7.lt; clear x0 x1 xl HX7)
            | fail)
          go_roundw
          case rel => exact ⟨j + 1, by omega, rfl, by simp, ⟨_, hown3, HCN6⟩, HR1.out.grown hg3 HR1.out.size (fun k hk => by cases hk; exact Nat.le_refl _)⟩
          case measure => simp [intOf]; omega
        · obtain rfl : j = m := by omega
          have BZ := HBW.out.trans (hR.mono HBW.out.size)
          clear hown HCN hR
          go_wp2_with fail
          go_ret
          exact ⟨rfl, BZ⟩
end Go.Proofs.Ytakbpgljbbkmkaa
