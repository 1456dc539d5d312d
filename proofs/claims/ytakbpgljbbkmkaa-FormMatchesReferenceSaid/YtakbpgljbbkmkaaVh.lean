/- The walk of the reference's Valid. -/
import Derived.Test.YtakbpgljbbkmkaaVg
namespace Go.Proofs.Ytakbpgljbbkmkaa
open Go.RowKit

theorem fo_nodup {l : List Fo.T3} : l.Nodup ↔ ∀ j, j < l.length → Fo.at3 l j ∉ l.take j := by
  unfold List.Nodup
  rw [List.pairwise_iff_getElem]
  constructor
  · intro h j hj hm
    rw [Fo.at3_eq hj] at hm
    obtain ⟨i, hi, he⟩ := List.mem_iff_getElem.1 hm
    rw [List.length_take] at hi
    rw [List.getElem_take] at he
    exact h i j (by omega) hj (by omega) he
  · intro h i j hi hj hij he
    refine h j hj ?_
    rw [Fo.at3_eq hj, ← he]
    exact List.mem_iff_getElem.2 ⟨i, by rw [List.length_take]; omega, by rw [List.getElem_take]⟩
theorem fo_allC {n : Int} {l : List Fo.T3} : (∀ c ∈ l, Fo.okC n c) ↔ ∀ j, j < l.length → Fo.okC n (Fo.at3 l j) :=
  ⟨fun h j hj => h _ (Fo.at3_mem hj), fun h c hc => by
    obtain ⟨j, hj, rfl⟩ := List.mem_iff_getElem.1 hc
    have := h j hj
    rwa [Fo.at3_eq hj] at this⟩
set_option maxHeartbeats 6400000 in
theorem rValid_is (h : FH) (f : Fo.Fm) (r : Bool) (hr : r = true ↔ Fo.Val f) (hcap : h.cl ≤ h.cc) (w : World) (hS : SlF w h f) :
    Calls Try.prog 14 #[.agg #[.int .i64 h.n, .slice h.R h.rl h.rc, .slice h.E h.el h.ec, .int .i64 h.ja, .int .i64 h.jt, .int .i64 h.jf, .slice h.C h.cl h.cc]] w fun e w' => e = .returned (.bool r) ∧ Below w.heap.size w w' := by
  have B := (Below.refl w.heap.size w).alloc (Nat.le_refl _) (.cells #[.int .i64 h.n, .slice h.R h.rl h.rc, .slice h.E h.el h.ec, .int .i64 h.ja, .int .i64 h.jt, .int .i64 h.jf, .slice h.C h.cl h.cc] 28)
  have Q := FB.new w h
  have HSS := Lib.hid (hS.alloc (.cells #[.int .i64 h.n, .slice h.R h.rl h.rc, .slice h.E h.el h.ec, .int .i64 h.ja, .int .i64 h.jt, .int .i64 h.jf, .slice h.C h.cl h.cc] 28))
  have HR := Lib.hid hr; have HRL := Lib.hid hS.rl; have HEL := Lib.hid hS.el; have HCL := Lib.hid hS.cl
  have HFN := Lib.hid hS.n; have HFA := Lib.hid hS.ja; have HFT := Lib.hid hS.jt; have HFF := Lib.hid hS.jf
  have HCAP := Lib.hid hcap
  clear hr hS hcap
  by_cases q0 : h.n < 1
  case pos =>
    obtain rfl : r = false := by
      cases r with
      | false => rfl
      | true => have V := HR.out.1 rfl; have := V.n; have := HFN.out; omega
    clear HSS Q
    go_enter Try.func14, Try.ntmps14
    go_wp2_with fail
    go_ret
    exact ⟨rfl, B⟩
  by_cases q1 : h.n > 4000
  case pos =>
    obtain rfl : r = false := by
      cases r with
      | false => rfl
      | true => have V := HR.out.1 rfl; have := V.n; have := HFN.out; omega
    clear HSS Q
    go_enter Try.func14, Try.ntmps14
    go_wp2_with fail
    go_ret
    exact ⟨rfl, B⟩
  by_cases p1 : f.rs.length ≤ 100 ∧ Fo.chR h.n 0 f.rs
  case neg =>
    have HG1 := Lib.hid p1
    clear p1
    obtain rfl : r = false := by
      cases r with
      | false => rfl
      | true => have V := HR.out.1 rfl; exact absurd ⟨V.rl, by rw [← HFN.out]; exact V.rs⟩ HG1.out
    go_enter Try.func14, Try.ntmps14
    go_wp2_with fail
    refine (rrepeats_is f.rs h.n false _ _ _ ⟨(fun h => by cases h), fun k => absurd k HG1.out⟩ HRL.out _ HSS.out.sr).mono ?_; rintro e w2 ⟨rfl, hb⟩
    replace B := B.trans (hb.mono B.size); replace HSS := Lib.hid (HSS.out.below hb); replace Q := Q.below hb; clear hb
    have q0 := Q.c0; have q1 := Q.c1; have q2 := Q.c2; have q3 := Q.c3; have q4 := Q.c4; have q5 := Q.c5; have q6 := Q.c6; have ql := Q.lt
    go_wp2_with fail
    clear q0 q1 q2 q3 q4 q5 q6 ql
    go_ret
    exact ⟨rfl, B⟩
  have HG1 := Lib.hid p1
  clear p1
  have H100 : Hid (h.rl ≤ 100) := Lib.hid (by rw [← HRL.out]; exact HG1.out.1)
  by_cases p2 : f.es.length ≤ 100 ∧ Fo.chE f.rs 0 f.es
  case neg =>
    have HG2 := Lib.hid p2
    clear p2
    obtain rfl : r = false := by
      cases r with
      | false => rfl
      | true => have V := HR.out.1 rfl; exact absurd ⟨V.el, V.es⟩ HG2.out
    go_enter Try.func14, Try.ntmps14
    go_wp2_with fail
    refine (rrepeats_is f.rs h.n true _ _ _ ⟨fun _ => HG1.out, fun _ => rfl⟩ HRL.out _ HSS.out.sr).mono ?_; rintro e w2 ⟨rfl, hb⟩
    replace B := B.trans (hb.mono B.size); replace HSS := Lib.hid (HSS.out.below hb); replace Q := Q.below hb; clear hb
    have q0 := Q.c0; have q1 := Q.c1; have q2 := Q.c2; have q3 := Q.c3; have q4 := Q.c4; have q5 := Q.c5; have q6 := Q.c6; have ql := Q.lt
    go_wp2_with fail
    clear q0 q1 q2 q3 q4 q5 q6 ql
    refine (rendings_is h f false ⟨(fun h => by cases h), fun k => absurd k HG2.out⟩ H100.out _ HSS.out).mono ?_; rintro e w2 ⟨rfl, hb⟩
    replace B := B.trans (hb.mono B.size); replace HSS := Lib.hid (HSS.out.below hb); replace Q := Q.below hb; clear hb
    have q0 := Q.c0; have q1 := Q.c1; have q2 := Q.c2; have q3 := Q.c3; have q4 := Q.c4; have q5 := Q.c5; have q6 := Q.c6; have ql := Q.lt
    go_wp2_with fail
    clear q0 q1 q2 q3 q4 q5 q6 ql
    go_ret
    exact ⟨rfl, B⟩
  have HG2 := Lib.hid p2
  clear p2
  by_cases p3 : okJH h f.rs
  case neg =>
    have HG3 := Lib.hid p3
    clear p3
    obtain rfl : r = false := by
      cases r with
      | false => rfl
      | true => have V := HR.out.1 rfl; exact absurd (by have k := V.j; unfold Fo.okJ at k; rw [HFA.out, HFT.out, HFF.out, HFN.out] at k; exact k) HG3.out
    go_enter Try.func14, Try.ntmps14
    go_wp2_with fail
    refine (rrepeats_is f.rs h.n true _ _ _ ⟨fun _ => HG1.out, fun _ => rfl⟩ HRL.out _ HSS.out.sr).mono ?_; rintro e w2 ⟨rfl, hb⟩
    replace B := B.trans (hb.mono B.size); replace HSS := Lib.hid (HSS.out.below hb); replace Q := Q.below hb; clear hb
    have q0 := Q.c0; have q1 := Q.c1; have q2 := Q.c2; have q3 := Q.c3; have q4 := Q.c4; have q5 := Q.c5; have q6 := Q.c6; have ql := Q.lt
    go_wp2_with fail
    clear q0 q1 q2 q3 q4 q5 q6 ql
    refine (rendings_is h f true ⟨fun _ => HG2.out, fun _ => rfl⟩ H100.out _ HSS.out).mono ?_; rintro e w2 ⟨rfl, hb⟩
    replace B := B.trans (hb.mono B.size); replace HSS := Lib.hid (HSS.out.below hb); replace Q := Q.below hb; clear hb
    have q0 := Q.c0; have q1 := Q.c1; have q2 := Q.c2; have q3 := Q.c3; have q4 := Q.c4; have q5 := Q.c5; have q6 := Q.c6; have ql := Q.lt
    go_wp2_with fail
    clear q0 q1 q2 q3 q4 q5 q6 ql
    refine (rjump_is h f false ⟨(fun h => by cases h), fun k => absurd k HG3.out⟩ H100.out _ HSS.out).mono ?_; rintro e w2 ⟨rfl, hb⟩
    replace B := B.trans (hb.mono B.size); replace HSS := Lib.hid (HSS.out.below hb); replace Q := Q.below hb; clear hb
    have q0 := Q.c0; have q1 := Q.c1; have q2 := Q.c2; have q3 := Q.c3; have q4 := Q.c4; have q5 := Q.c5; have q6 := Q.c6; have ql := Q.lt
    go_wp2_with fail
    clear q0 q1 q2 q3 q4 q5 q6 ql
    go_ret
    exact ⟨rfl, B⟩
  have HG3 := Lib.hid p3
  clear p3
  have hrg : Hid (Fo.rgs f.rs) := Lib.hid (Fo.chR.rgs HG1.out.2 (by omega))
  have HJB : Hid (h.ja ≤ 4000 ∧ 0 ≤ h.jt ∧ h.jf ≤ 4000) := Lib.hid (by have k := HG3.out; unfold okJH at k; omega)
  by_cases hc100 : (h.cl : Int) > 100
  case pos =>
    obtain rfl : r = false := by
      cases r with
      | false => rfl
      | true => have V := HR.out.1 rfl; have := V.cl; have := HCL.out; omega
    go_enter Try.func14, Try.ntmps14
    go_wp2_with fail
    refine (rrepeats_is f.rs h.n true _ _ _ ⟨fun _ => HG1.out, fun _ => rfl⟩ HRL.out _ HSS.out.sr).mono ?_; rintro e w2 ⟨rfl, hb⟩
    replace B := B.trans (hb.mono B.size); replace HSS := Lib.hid (HSS.out.below hb); replace Q := Q.below hb; clear hb
    have q0 := Q.c0; have q1 := Q.c1; have q2 := Q.c2; have q3 := Q.c3; have q4 := Q.c4; have q5 := Q.c5; have q6 := Q.c6; have ql := Q.lt
    go_wp2_with fail
    clear q0 q1 q2 q3 q4 q5 q6 ql
    refine (rendings_is h f true ⟨fun _ => HG2.out, fun _ => rfl⟩ H100.out _ HSS.out).mono ?_; rintro e w2 ⟨rfl, hb⟩
    replace B := B.trans (hb.mono B.size); replace HSS := Lib.hid (HSS.out.below hb); replace Q := Q.below hb; clear hb
    have q0 := Q.c0; have q1 := Q.c1; have q2 := Q.c2; have q3 := Q.c3; have q4 := Q.c4; have q5 := Q.c5; have q6 := Q.c6; have ql := Q.lt
    go_wp2_with fail
    clear q0 q1 q2 q3 q4 q5 q6 ql
    refine (rjump_is h f true ⟨fun _ => HG3.out, fun _ => rfl⟩ H100.out _ HSS.out).mono ?_; rintro e w2 ⟨rfl, hb⟩
    replace B := B.trans (hb.mono B.size); replace HSS := Lib.hid (HSS.out.below hb); replace Q := Q.below hb; clear hb
    have q0 := Q.c0; have q1 := Q.c1; have q2 := Q.c2; have q3 := Q.c3; have q4 := Q.c4; have q5 := Q.c5; have q6 := Q.c6; have ql := Q.lt
    go_wp2_with fail
    clear q0 q1 q2 q3 q4 q5 q6 ql
    go_ret
    exact ⟨rfl, B⟩
  case neg =>
    have HV : Hid (r = true ↔ (∀ j, j < f.cs.length → Fo.okC h.n (Fo.at3 f.cs j) ∧ Fo.at3 f.cs j ∉ f.cs.take j) ∧ (Fo.whl f).length ≤ 20000) := Lib.hid (HR.out.trans ⟨fun V => ⟨fun j hj => ⟨by have := fo_allC.1 V.cs j hj; rwa [HFN.out] at this, fo_nodup.1 V.cd j hj⟩, V.most⟩, fun k => ⟨by rw [HFN.out]; omega, HG1.out.1, by rw [HFN.out]; exact HG1.out.2, HG2.out.1, HG2.out.2, by unfold Fo.okJ; rw [HFA.out, HFT.out, HFF.out, HFN.out]; exact HG3.out, by rw [HCL.out]; omega, by rw [HFN.out]; exact fo_allC.2 fun j hj => (k.1 j hj).1, fo_nodup.2 fun j hj => (k.1 j hj).2, k.2⟩⟩)
    have HBN := Lib.hid (show 1 ≤ h.n ∧ h.n ≤ 4000 by omega)
    go_enter Try.func14, Try.ntmps14
    go_wp2_with fail
    refine (rrepeats_is f.rs h.n true _ _ _ ⟨fun _ => HG1.out, fun _ => rfl⟩ HRL.out _ HSS.out.sr).mono ?_; rintro e w2 ⟨rfl, hb⟩
    replace B := B.trans (hb.mono B.size); replace HSS := Lib.hid (HSS.out.below hb); replace Q := Q.below hb; clear hb
    have q0 := Q.c0; have q1 := Q.c1; have q2 := Q.c2; have q3 := Q.c3; have q4 := Q.c4; have q5 := Q.c5; have q6 := Q.c6; have ql := Q.lt
    go_wp2_with fail
    clear q0 q1 q2 q3 q4 q5 q6 ql
    refine (rendings_is h f true ⟨fun _ => HG2.out, fun _ => rfl⟩ H100.out _ HSS.out).mono ?_; rintro e w2 ⟨rfl, hb⟩
    replace B := B.trans (hb.mono B.size); replace HSS := Lib.hid (HSS.out.below hb); replace Q := Q.below hb; clear hb
    have q0 := Q.c0; have q1 := Q.c1; have q2 := Q.c2; have q3 := Q.c3; have q4 := Q.c4; have q5 := Q.c5; have q6 := Q.c6; have ql := Q.lt
    go_wp2_with fail
    clear q0 q1 q2 q3 q4 q5 q6 ql
    refine (rjump_is h f true ⟨fun _ => HG3.out, fun _ => rfl⟩ H100.out _ HSS.out).mono ?_; rintro e w2 ⟨rfl, hb⟩
    replace B := B.trans (hb.mono B.size); replace HSS := Lib.hid (HSS.out.below hb); replace Q := Q.below hb; clear hb
    have q0 := Q.c0; have q1 := Q.c1; have q2 := Q.c2; have q3 := Q.c3; have q4 := Q.c4; have q5 := Q.c5; have q6 := Q.c6; have ql := Q.lt
    go_wp2_with fail
    clear q0 q1 q2 q3 q4 q5 q6 ql
    have HQ := Lib.hid Q; have HB := Lib.hid B
    have HE100 := Lib.hid (show h.el ≤ 100 by have := HEL.out; have := HG2.out.1; omega)
    have HSC := Lib.hid HSS.out.sc
    clear Q B
    generalize w2 = W1 at *
    go_loopw [3] (fun s3 wr => ∃ i : Nat, i ≤ h.cl ∧ s3 = .int .i64 (i : Int) ∧ Hid (∀ j, j < i → Fo.okC h.n (Fo.at3 f.cs j) ∧ Fo.at3 f.cs j ∉ f.cs.take j) ∧ Below W1.heap.size W1 wr) (fun s3 _ => h.cl - (intOf s3).toNat)
    case atStart => exact ⟨0, Nat.zero_le _, rfl, Lib.hid (fun j hj => by omega), Below.refl _ _⟩
    case round =>
      obtain ⟨i, hi, rfl, HJ, hR⟩ := hrel
      have Q := HQ.out.below hR
      have q_0 := Q.c0; have q_1 := Q.c1; have q_2 := Q.c2; have q_3 := Q.c3; have q_4 := Q.c4; have q_5 := Q.c5; have q_6 := Q.c6; have ql := Q.lt
      by_cases hlt : i < h.cl
      case neg =>
        obtain rfl : i = h.cl := by omega
        obtain ⟨L, hL⟩ : ∃ L, (Fo.whl f).length = L := ⟨_, rfl⟩
        have HL := Lib.hid hL
        clear hL
        by_cases hm : (L : Int) ≤ 20000
        case' pos => obtain rfl : r = true := HV.out.2 ⟨fun j hj => HJ.out j (by have := HCL.out; omega), by rw [HL.out]; omega⟩
        case' neg =>
          obtain rfl : r = false := by
            cases r with
            | false => rfl
            | true => have := (HV.out.1 rfl).2; have := HL.out; omega
        all_goals
          go_wp2_with fail
          clear q_0 q_1 q_2 q_3 q_4 q_5 q_6 ql
          refine (rwhole_is h f hrg.out HBN.out.2 HJB.out.1 HJB.out.2.1 HJB.out.2.2 H100.out HE100.out _ (HSS.out.below hR)).mono ?_; rintro e w4 ⟨hb, v, rfl, hown⟩
          obtain ⟨hlen, A, cap, rfl, hnl, hsl⟩ := own_kn hown
          rw [HL.out]
          clear hown hsl hnl hlen
          go_wp2_with fail
          go_ret
          exact ⟨by first | rfl | (show Ending.returned (.bool (decide ((L : Int) ≤ 20000))) = _; rw [decide_eq_false (show ¬ (L : Int) ≤ 20000 by omega)]), HB.out.trans ((hR.trans (hb.mono hR.size)).mono HB.out.size)⟩
      have hil : i < f.cs.length := by rw [HCL.out]; exact hlt
      obtain ⟨b, off, hCe, hb, hc⟩ := HSC.out (by omega)
      have X := (hc i hil).below hR hb
      obtain ⟨x, hx⟩ : ∃ x, Fo.at3 f.cs i = x := ⟨_, rfl⟩
      rw [hx] at X
      rw [hCe] at q_6
      have HTK : Hid (SlT wr (some ⟨b, off, none⟩) (f.cs.take i)) := Lib.hid (by rw [← hCe]; exact (HSC.out.below hR).take i)
      have HX := Lib.hid hx; have HIL := Lib.hid hil
      have hi1 : (i : Int) < (h.cl : Int) := by omega
      have hi2 : (i : Int) ≤ (h.cc : Int) := by have := HCAP.out; omega
      have hi3 : i ≤ h.cc := by omega
      have y0 := fun y : Ext wr => y.cell q_0; have y1 := fun y : Ext wr => y.cell q_1; have y2 := fun y : Ext wr => y.cell q_2; have y3 := fun y : Ext wr => y.cell q_3; have y4 := fun y : Ext wr => y.cell q_4; have y5 := fun y : Ext wr => y.cell q_5; have y6 := fun y : Ext wr => y.cell q_6
      have z0 := fun y : Ext wr => y.cell X.c0; have z1 := fun y : Ext wr => y.cell X.c1; have z2 := fun y : Ext wr => y.cell X.c2
      have hne := Ext.there wr
      clear hc hx hil hb hCe Q X
      by_cases hok : Fo.okC h.n x
      case neg =>
        have HOK := Lib.hid hok
        obtain rfl : r = false := by
          cases r with
          | false => rfl
          | true => have k := ((HV.out.1 rfl).1 i HIL.out).1; rw [HX.out] at k; exact absurd k hok
        clear hok
        go_wp2_with fail
        refine Ext.region (by kernel_rfl) (by kernel_rfl) ?_
        repeat (go_big_quiet_step ((first | (go_at_call 44; exact Ext.call _ (rcut_is {h with C := some ⟨b, off, none⟩} x false ⟨(fun h => by cases h), fun k => absurd k HOK.out⟩ _)))))
        refine wpQuiet_nil ?_
        rintro _ ⟨xw, rfl⟩
        have hb6 := xw.h
        generalize xw.w = w6 at *
        clear xw
        go_wp2_with fail
        go_ret
        exact ⟨rfl, HB.out.trans ((hR.trans (hb6.mono hR.size)).mono HB.out.size)⟩
      have HOK := Lib.hid hok
      clear hok
      obtain ⟨r2, hr2⟩ : ∃ r2, Fo.cix (f.cs.take i) x = r2 := ⟨_, rfl⟩
      have HR2 := Lib.hid hr2
      clear hr2
      by_cases h2 : r2 < 0
      case neg =>
        obtain rfl : r = false := by
          cases r with
          | false => rfl
          | true =>
            have k := ((HV.out.1 rfl).1 i HIL.out).2
            rw [HX.out] at k
            have k2 := Fo.cix_neg.2 k
            rw [HR2.out] at k2
            exact absurd k2 h2
        go_wp2_with fail
        refine Ext.region (by kernel_rfl) (by kernel_rfl) ?_
        repeat (go_big_quiet_step ((first | (go_at_call 44; exact Ext.call _ (rcut_is {h with C := some ⟨b, off, none⟩} x true ⟨fun _ => HOK.out, fun _ => rfl⟩ _)) | (go_at_call 45; exact Ext.call _ (rhas_is (f.cs.take i) x r2 i h.cc (some ⟨b, off, none⟩) HR2.out (by rw [List.length_take]; have := HIL.out; omega) (by omega) _ (HTK.out.below (Ext.h _)))))))
        refine wpQuiet_nil ?_
        rintro _ ⟨xw, rfl⟩
        have hb6 := xw.h
        generalize xw.w = w6 at *
        clear xw
        go_wp2_with fail
        go_ret
        exact ⟨rfl, HB.out.trans ((hR.trans (hb6.mono hR.size)).mono HB.out.size)⟩
      case pos =>
        have HJ2 : Hid (∀ j, j < i + 1 → Fo.okC h.n (Fo.at3 f.cs j) ∧ Fo.at3 f.cs j ∉ f.cs.take j) := Lib.hid (fun j hj => by
          rcases Nat.lt_or_ge j i with k | k
          · exact HJ.out j k
          · rw [show j = i by omega, HX.out]
            exact ⟨HOK.out, Fo.cix_neg.1 (by rw [HR2.out]; exact h2)⟩)
        go_wp2_with fail
        refine Ext.region (by kernel_rfl) (by kernel_rfl) ?_
        repeat (go_big_quiet_step ((first | (go_at_call 44; exact Ext.call _ (rcut_is {h with C := some ⟨b, off, none⟩} x true ⟨fun _ => HOK.out, fun _ => rfl⟩ _)) | (go_at_call 45; exact Ext.call _ (rhas_is (f.cs.take i) x r2 i h.cc (some ⟨b, off, none⟩) HR2.out (by rw [List.length_take]; have := HIL.out; omega) (by omega) _ (HTK.out.below (Ext.h _)))))))
        refine wpQuiet_nil ?_
        rintro _ ⟨xw, rfl⟩
        have hb6 := xw.h
        generalize xw.w = w6 at *
        clear xw
        go_wp2_with fail
        go_roundw
        case rel => exact ⟨i + 1, by omega, by simp, HJ2, hR.trans (hb6.mono hR.size)⟩
        case measure => simp [intOf]; omega
end Go.Proofs.Ytakbpgljbbkmkaa
