import Derived.Test.YtahdlkdiadlgeaaGreatGAJ
import Derived.Test.YtahdlkdiadlgeaaGreatGAO
/- The walks of Played and Few. -/
namespace Go.Proofs.YtahdlkdiadlgeaaGreat
open Go.RowKit

namespace Te
open Fo (T3)
/-- How long the first visits take, in 100800ths of a second. -/
def pre (bs : List Mt.B) (l : List T3) (vs : List Fo.V2) : Nat → Int
  | 0 => 0
  | k + 1 => pre bs l vs k + Mt.bt (atB bs (atV vs k).b.toNat) * sb l (atV vs k).b
theorem pre_succ (bs : List Mt.B) (l : List T3) (vs : List Fo.V2) (k : Nat) : pre bs l vs (k + 1) = pre bs l vs k + Mt.bt (atB bs (atV vs k).b.toNat) * sb l (atV vs k).b := rfl
end Te
namespace Fo
theorem vis_le9 : ∀ (l : List Int) (x : V2), x ∈ vis l → 1 ≤ x.p ∧ x.p ≤ (l.count x.b : Int) := fun l => by
  rw [← List.reverse_reverse l]
  generalize l.reverse = m
  induction m with
  | nil => intro x hx; cases hx
  | cons b m ih =>
    intro x hx
    rw [List.reverse_cons, vis_snoc] at hx
    rw [List.reverse_cons, List.count_append]
    rcases List.mem_append.1 hx with hx | hx
    · have := ih x hx
      omega
    · rw [List.mem_singleton.1 hx]
      simp
      omega
theorem vis_in9 {l : List Int} {x : V2} (h : x ∈ vis l) : x.b ∈ l := by
  have := vis_le9 l x h
  exact List.count_pos_iff.1 (by omega)
end Fo
namespace Te
open Fo (T3)
theorem unf_bar {f : Fo.Fm} (V : Fo.Val f) {x : Fo.V2} (h : x ∈ Fo.unf f) : 0 ≤ x.b ∧ x.b < f.n := V.bars x.b (Fo.vis_in9 (List.mem_filter.1 h).1)
theorem unf_most {f : Fo.Fm} (V : Fo.Val f) : (Fo.unf f).length ≤ 20000 := by
  have h1 : (Fo.unf f).length ≤ (Fo.vis (Fo.whl f)).length := List.length_filter_le _ _
  rw [Fo.vis_length] at h1
  have := V.most
  omega
/-- Visits of these bars. -/
def In (bs : List Mt.B) (vs : List Fo.V2) : Prop := ∀ k, k < vs.length → 0 ≤ (atV vs k).b ∧ (atV vs k).b < (bs.length : Int)
theorem unf_inb {f : Fo.Fm} (V : Fo.Val f) {bs : List Mt.B} (h : f.n = (bs.length : Int)) : In bs (Fo.unf f) := fun k hk => by
  rw [atV_eq hk, ← h]
  exact unf_bar V (List.getElem_mem _)
theorem vstep_r {bs : List Mt.B} {l : List T3} (V : Val bs l) {vs : List Fo.V2} (I : In bs vs) {k : Nat} (hk : k < vs.length) : 1 ≤ Mt.bt (atB bs (atV vs k).b.toNat) * sb l (atV vs k).b ∧ Mt.bt (atB bs (atV vs k).b.toNat) * sb l (atV vs k).b ≤ 24192000 := by
  obtain ⟨h1, h2⟩ := I k hk
  have h := step_r V (k := (atV vs k).b.toNat) (by omega)
  rwa [Int.toNat_of_nonneg h1] at h
theorem pre_mono {bs : List Mt.B} {l : List T3} (V : Val bs l) {vs : List Fo.V2} (I : In bs vs) {i : Nat} : ∀ {k : Nat}, i + k ≤ vs.length → pre bs l vs i + k ≤ pre bs l vs (i + k) ∧ pre bs l vs (i + k) ≤ pre bs l vs i + k * 24192000
  | 0, _ => ⟨by simp, by simp⟩
  | k + 1, h => by
    obtain ⟨h1, h2⟩ := pre_mono V I (i := i) (k := k) (by omega)
    obtain ⟨h3, h4⟩ := vstep_r V I (k := i + k) (by omega)
    rw [show i + (k + 1) = (i + k) + 1 by omega, pre_succ]
    constructor
    · push_cast at h1 h2 h3 h4 ⊢
      omega
    · push_cast at h1 h2 h3 h4 ⊢
      omega
/-- May be asked how long these visits take? -/
def AskP (bs : List Mt.B) (l : List T3) (f : Fo.Fm) (a b : Int) : Prop := Val bs l ∧ Fo.Val f ∧ f.n = (bs.length : Int) ∧ 0 ≤ a ∧ a ≤ b ∧ b ≤ ((Fo.unf f).length : Int)
/-- What Played answers. -/
structure PlaA (bs : List Mt.B) (l : List T3) (f : Fo.Fm) (a b N D E : Int) : Prop where
  ok : AskP bs l f a b → Rt.makeR (pre bs l (Fo.unf f) b.toNat - pre bs l (Fo.unf f) a.toNat) 100800 = (N, D, E)
  no : ¬ AskP bs l f a b → N = 0 ∧ D = 0 ∧ E = 1
theorem plaA_ex (bs : List Mt.B) (l : List T3) (f : Fo.Fm) (a b : Int) : ∃ N D E, PlaA bs l f a b N D E := by
  by_cases h : AskP bs l f a b
  · exact ⟨_, _, _, fun _ => rfl, fun k => absurd h k⟩
  · exact ⟨_, _, _, fun k => absurd k h, fun _ => ⟨rfl, rfl, rfl⟩⟩
end Te
set_option maxRecDepth 100000 in
set_option maxHeartbeats 3200000 in
theorem rPlayed_is (bs : List Mt.B) (l : List Fo.T3) (h : FH) (f : Fo.Fm) (a b N D E : Int) (hA : Te.PlaA bs l f a b N D E) (n1 c1 n2 c2 : Nat) (A1 A2 : Option Addr) (h1 : bs.length = n1) (h2 : l.length = n2) (hcap : h.cl ≤ h.cc) (w : World) (hB : SlB w A1 bs) (hL : SlT w A2 l) (hF : SlF w h f) :
    Calls Tryz.prog 13 #[.slice A1 n1 c1, .slice A2 n2 c2, .agg #[.int .i64 h.n, .slice h.R h.rl h.rc, .slice h.E h.el h.ec, .int .i64 h.ja, .int .i64 h.jt, .int .i64 h.jf, .slice h.C h.cl h.cc], .int .i64 a, .int .i64 b] w fun e w' => e = .returned (.tuple #[.agg #[.int .i64 N, .int .i64 D], .int .i64 E]) ∧ Below w.heap.size w w' := by
  have HANS := Lib.hid hA; have HN1 := Lib.hid h1; have HN2 := Lib.hid h2; have HB := Lib.hid hB; have HL := Lib.hid hL; have HF := Lib.hid hF; have HCAP := Lib.hid hcap
  obtain ⟨u, hu⟩ : ∃ u : Bool, u = true ↔ Te.Val bs l := ⟨@decide _ (Classical.propDecidable _), @decide_eq_true_iff _ (Classical.propDecidable _)⟩
  have HU := Lib.hid hu
  clear hA h1 h2 hB hL hu hF hcap
  cases u with
  | false =>
    obtain ⟨rfl, rfl, rfl⟩ := HANS.out.no (fun k => (by have := HU.out.2 k.1; cases this))
    by_cases hv : Fo.Val f
    · have HFV := Lib.hid hv
      clear hv
      go_enter Tryz.func13, Tryz.ntmps13
      go_wp2_with fail
      have Q := (FB.new w h).alloc (.cells #[.int .i64 0, .int .i64 0] 25)
      have R := Var2.new (w.alloc (.cells #[.int .i64 h.n, .slice h.R h.rl h.rc, .slice h.E h.el h.ec, .int .i64 h.ja, .int .i64 h.jt, .int .i64 h.jf, .slice h.C h.cl h.cc] 34)) 0 0 25
      rw [World.size_alloc] at R
      have hb0 := ((Below.refl w.heap.size w).alloc (Nat.le_refl _) (.cells #[.int .i64 h.n, .slice h.R h.rl h.rc, .slice h.E h.el h.ec, .int .i64 h.ja, .int .i64 h.jt, .int .i64 h.jf, .slice h.C h.cl h.cc] 34)).alloc (by simp) (.cells #[.int .i64 0, .int .i64 0] 25)
      refine (rtvalid_is bs l false n1 c1 n2 c2 A1 A2 HU.out HN1.out HN2.out _ (HB.out.below hb0) (HL.out.below hb0)).mono ?_; rintro e w2 ⟨rfl, hb⟩
      replace Q := Q.below hb; replace R := R.below hb; replace hb0 := hb0.trans (hb.mono hb0.size)
      clear hb
      have q0 := Q.c0; have q1 := Q.c1; have q2 := Q.c2; have q3 := Q.c3; have q4 := Q.c4; have q5 := Q.c5; have q6 := Q.c6; have ql := Q.lt
      have r0 := R.at2.c0; have r1 := R.at2.c1; have rl := R.at2.lt; have rf0 := R.f0; have rf1 := R.f1
      go_wp2_with fail
      clear q0 q1 q2 q3 q4 q5 q6 ql r0 r1 rl rf0 rf1
      refine (runfold_is h f HFV.out HCAP.out _ (HF.out.below hb0)).mono ?_; rintro e w3 ⟨hb, uv, rfl, OV⟩
      obtain ⟨-, VA, vc, rfl, LV, -⟩ := own_V OV
      clear OV
      replace Q := Q.below hb; replace R := R.below hb; replace hb0 := hb0.trans (hb.mono hb0.size)
      clear hb
      have q0 := Q.c0; have q1 := Q.c1; have q2 := Q.c2; have q3 := Q.c3; have q4 := Q.c4; have q5 := Q.c5; have q6 := Q.c6; have ql := Q.lt
      have r0 := R.at2.c0; have r1 := R.at2.c1; have rl := R.at2.lt; have rf0 := R.f0; have rf1 := R.f1
      go_wp2_with fail
      clear q0 q1 q2 q3 q4 q5 q6 ql r0 r1 rl rf0 rf1
      have R2 := R.put 0 0
      have hB2 := (hb0.setCell (p := ⟨w.heap.size + 1, 0, none⟩) (show w.heap.size ≤ w.heap.size + 1 by omega) (.int .i64 0)).setCell (p := ⟨w.heap.size + 1, 1, none⟩) (show w.heap.size ≤ w.heap.size + 1 by omega) (.int .i64 0)
      have z0 := R2.at2.c0; have z1 := R2.at2.c1
      refine bodyPost_ret (v := .tuple #[.agg #[.int .i64 0, .int .i64 0], .int .i64 1]) (by simp [results, Tryz.results13, z0, z1, go_sem]) rfl ⟨rfl, hB2⟩
    · have HFN := Lib.hid hv
      clear hv
      go_enter Tryz.func13, Tryz.ntmps13
      go_wp2_with fail
      have Q := (FB.new w h).alloc (.cells #[.int .i64 0, .int .i64 0] 25)
      have R := Var2.new (w.alloc (.cells #[.int .i64 h.n, .slice h.R h.rl h.rc, .slice h.E h.el h.ec, .int .i64 h.ja, .int .i64 h.jt, .int .i64 h.jf, .slice h.C h.cl h.cc] 34)) 0 0 25
      rw [World.size_alloc] at R
      have hb0 := ((Below.refl w.heap.size w).alloc (Nat.le_refl _) (.cells #[.int .i64 h.n, .slice h.R h.rl h.rc, .slice h.E h.el h.ec, .int .i64 h.ja, .int .i64 h.jt, .int .i64 h.jf, .slice h.C h.cl h.cc] 34)).alloc (by simp) (.cells #[.int .i64 0, .int .i64 0] 25)
      refine (rtvalid_is bs l false n1 c1 n2 c2 A1 A2 HU.out HN1.out HN2.out _ (HB.out.below hb0) (HL.out.below hb0)).mono ?_; rintro e w2 ⟨rfl, hb⟩
      replace Q := Q.below hb; replace R := R.below hb; replace hb0 := hb0.trans (hb.mono hb0.size)
      clear hb
      have q0 := Q.c0; have q1 := Q.c1; have q2 := Q.c2; have q3 := Q.c3; have q4 := Q.c4; have q5 := Q.c5; have q6 := Q.c6; have ql := Q.lt
      have r0 := R.at2.c0; have r1 := R.at2.c1; have rl := R.at2.lt; have rf0 := R.f0; have rf1 := R.f1
      go_wp2_with fail
      clear q0 q1 q2 q3 q4 q5 q6 ql r0 r1 rl rf0 rf1
      refine (runfold_no h f HFN.out HCAP.out _ (HF.out.below hb0)).mono ?_; rintro e w3 ⟨hb, rfl⟩
      replace Q := Q.below hb; replace R := R.below hb; replace hb0 := hb0.trans (hb.mono hb0.size)
      clear hb
      have q0 := Q.c0; have q1 := Q.c1; have q2 := Q.c2; have q3 := Q.c3; have q4 := Q.c4; have q5 := Q.c5; have q6 := Q.c6; have ql := Q.lt
      have r0 := R.at2.c0; have r1 := R.at2.c1; have rl := R.at2.lt; have rf0 := R.f0; have rf1 := R.f1
      go_wp2_with fail
      clear q0 q1 q2 q3 q4 q5 q6 ql r0 r1 rl rf0 rf1
      have R2 := R.put 0 0
      have hB2 := (hb0.setCell (p := ⟨w.heap.size + 1, 0, none⟩) (show w.heap.size ≤ w.heap.size + 1 by omega) (.int .i64 0)).setCell (p := ⟨w.heap.size + 1, 1, none⟩) (show w.heap.size ≤ w.heap.size + 1 by omega) (.int .i64 0)
      have z0 := R2.at2.c0; have z1 := R2.at2.c1
      refine bodyPost_ret (v := .tuple #[.agg #[.int .i64 0, .int .i64 0], .int .i64 1]) (by simp [results, Tryz.results13, z0, z1, go_sem]) rfl ⟨rfl, hB2⟩
  | true =>
  have HV := Lib.hid (HU.out.1 rfl)
  have hn1 : n1 ≤ 4000 := by have := HV.out.1.2.1; have := HN1.out; omega
  by_cases hv : Fo.Val f
  case neg =>
    have HFN := Lib.hid hv
    obtain ⟨rfl, rfl, rfl⟩ := HANS.out.no (fun k => HFN.out k.2.1)
    clear hv
    go_enter Tryz.func13, Tryz.ntmps13
    go_wp2_with fail
    have Q := (FB.new w h).alloc (.cells #[.int .i64 0, .int .i64 0] 25)
    have R := Var2.new (w.alloc (.cells #[.int .i64 h.n, .slice h.R h.rl h.rc, .slice h.E h.el h.ec, .int .i64 h.ja, .int .i64 h.jt, .int .i64 h.jf, .slice h.C h.cl h.cc] 34)) 0 0 25
    rw [World.size_alloc] at R
    have hb0 := ((Below.refl w.heap.size w).alloc (Nat.le_refl _) (.cells #[.int .i64 h.n, .slice h.R h.rl h.rc, .slice h.E h.el h.ec, .int .i64 h.ja, .int .i64 h.jt, .int .i64 h.jf, .slice h.C h.cl h.cc] 34)).alloc (by simp) (.cells #[.int .i64 0, .int .i64 0] 25)
    refine (rtvalid_is bs l true n1 c1 n2 c2 A1 A2 ⟨fun _ => HV.out, fun _ => rfl⟩ HN1.out HN2.out _ (HB.out.below hb0) (HL.out.below hb0)).mono ?_; rintro e w2 ⟨rfl, hb⟩
    replace Q := Q.below hb; replace R := R.below hb; replace hb0 := hb0.trans (hb.mono hb0.size)
    clear hb
    have q0 := Q.c0; have q1 := Q.c1; have q2 := Q.c2; have q3 := Q.c3; have q4 := Q.c4; have q5 := Q.c5; have q6 := Q.c6; have ql := Q.lt
    have r0 := R.at2.c0; have r1 := R.at2.c1; have rl := R.at2.lt; have rf0 := R.f0; have rf1 := R.f1
    go_wp2_with fail
    clear q0 q1 q2 q3 q4 q5 q6 ql r0 r1 rl rf0 rf1
    refine (runfold_no h f HFN.out HCAP.out _ (HF.out.below hb0)).mono ?_; rintro e w3 ⟨hb, rfl⟩
    replace Q := Q.below hb; replace R := R.below hb; replace hb0 := hb0.trans (hb.mono hb0.size)
    clear hb
    have q0 := Q.c0; have q1 := Q.c1; have q2 := Q.c2; have q3 := Q.c3; have q4 := Q.c4; have q5 := Q.c5; have q6 := Q.c6; have ql := Q.lt
    have r0 := R.at2.c0; have r1 := R.at2.c1; have rl := R.at2.lt; have rf0 := R.f0; have rf1 := R.f1
    go_wp2_with fail
    clear q0 q1 q2 q3 q4 q5 q6 ql r0 r1 rl rf0 rf1
    have R2 := R.put 0 0
    have hB2 := (hb0.setCell (p := ⟨w.heap.size + 1, 0, none⟩) (show w.heap.size ≤ w.heap.size + 1 by omega) (.int .i64 0)).setCell (p := ⟨w.heap.size + 1, 1, none⟩) (show w.heap.size ≤ w.heap.size + 1 by omega) (.int .i64 0)
    have z0 := R2.at2.c0; have z1 := R2.at2.c1
    refine bodyPost_ret (v := .tuple #[.agg #[.int .i64 0, .int .i64 0], .int .i64 1]) (by simp [results, Tryz.results13, z0, z1, go_sem]) rfl ⟨rfl, hB2⟩
  case pos =>
  have HFV := Lib.hid hv
  clear hv
  obtain ⟨nv, hnv⟩ : ∃ n, (Fo.unf f).length = n := ⟨_, rfl⟩
  have hnvm : nv ≤ 20000 := by rw [← hnv]; exact Te.unf_most HFV.out
  have HNV := Lib.hid hnv
  have HFNN := Lib.hid HF.out.n
  clear hnv
  by_cases m1 : h.n = (n1 : Int)
  case neg =>
    have m1' : (h.n != (n1 : Int)) = true := by simpa using m1
    obtain ⟨rfl, rfl, rfl⟩ := HANS.out.no (fun k => m1 (by rw [← HN1.out, ← HFNN.out]; exact k.2.2.1))
    clear m1
    go_enter Tryz.func13, Tryz.ntmps13
    go_wp2_with fail
    have Q := (FB.new w h).alloc (.cells #[.int .i64 0, .int .i64 0] 25)
    have R := Var2.new (w.alloc (.cells #[.int .i64 h.n, .slice h.R h.rl h.rc, .slice h.E h.el h.ec, .int .i64 h.ja, .int .i64 h.jt, .int .i64 h.jf, .slice h.C h.cl h.cc] 34)) 0 0 25
    rw [World.size_alloc] at R
    have hb0 := ((Below.refl w.heap.size w).alloc (Nat.le_refl _) (.cells #[.int .i64 h.n, .slice h.R h.rl h.rc, .slice h.E h.el h.ec, .int .i64 h.ja, .int .i64 h.jt, .int .i64 h.jf, .slice h.C h.cl h.cc] 34)).alloc (by simp) (.cells #[.int .i64 0, .int .i64 0] 25)
    refine (rtvalid_is bs l true n1 c1 n2 c2 A1 A2 ⟨fun _ => HV.out, fun _ => rfl⟩ HN1.out HN2.out _ (HB.out.below hb0) (HL.out.below hb0)).mono ?_; rintro e w2 ⟨rfl, hb⟩
    replace Q := Q.below hb; replace R := R.below hb; replace hb0 := hb0.trans (hb.mono hb0.size)
    clear hb
    have q0 := Q.c0; have q1 := Q.c1; have q2 := Q.c2; have q3 := Q.c3; have q4 := Q.c4; have q5 := Q.c5; have q6 := Q.c6; have ql := Q.lt
    have r0 := R.at2.c0; have r1 := R.at2.c1; have rl := R.at2.lt; have rf0 := R.f0; have rf1 := R.f1
    go_wp2_with fail
    clear q0 q1 q2 q3 q4 q5 q6 ql r0 r1 rl rf0 rf1
    refine (runfold_is h f HFV.out HCAP.out _ (HF.out.below hb0)).mono ?_; rintro e w3 ⟨hb, uv, rfl, OV⟩
    obtain ⟨-, VA, vc, rfl, LV, -⟩ := own_V OV
    clear OV
    replace Q := Q.below hb; replace R := R.below hb; replace hb0 := hb0.trans (hb.mono hb0.size)
    clear hb
    have q0 := Q.c0; have q1 := Q.c1; have q2 := Q.c2; have q3 := Q.c3; have q4 := Q.c4; have q5 := Q.c5; have q6 := Q.c6; have ql := Q.lt
    have r0 := R.at2.c0; have r1 := R.at2.c1; have rl := R.at2.lt; have rf0 := R.f0; have rf1 := R.f1
    go_wp2_with fail
    clear q0 q1 q2 q3 q4 q5 q6 ql r0 r1 rl rf0 rf1
    have R2 := R.put 0 0
    have hB2 := (hb0.setCell (p := ⟨w.heap.size + 1, 0, none⟩) (show w.heap.size ≤ w.heap.size + 1 by omega) (.int .i64 0)).setCell (p := ⟨w.heap.size + 1, 1, none⟩) (show w.heap.size ≤ w.heap.size + 1 by omega) (.int .i64 0)
    have z0 := R2.at2.c0; have z1 := R2.at2.c1
    refine bodyPost_ret (v := .tuple #[.agg #[.int .i64 0, .int .i64 0], .int .i64 1]) (by simp [results, Tryz.results13, z0, z1, go_sem]) rfl ⟨rfl, hB2⟩
  case pos =>
  have m1' : (h.n != (n1 : Int)) = false := by simpa using m1
  have HM1 : Hid (f.n = (bs.length : Int)) := Lib.hid (by rw [HN1.out, HFNN.out]; exact m1)
  clear m1
  by_cases m2 : a < 0
  · have m2' : decide (a < 0) = true := decide_eq_true m2
    obtain ⟨rfl, rfl, rfl⟩ := HANS.out.no (fun k => by have := k.2.2.2.1; omega)
    clear m2
    go_enter Tryz.func13, Tryz.ntmps13
    go_wp2_with fail
    have Q := (FB.new w h).alloc (.cells #[.int .i64 0, .int .i64 0] 25)
    have R := Var2.new (w.alloc (.cells #[.int .i64 h.n, .slice h.R h.rl h.rc, .slice h.E h.el h.ec, .int .i64 h.ja, .int .i64 h.jt, .int .i64 h.jf, .slice h.C h.cl h.cc] 34)) 0 0 25
    rw [World.size_alloc] at R
    have hb0 := ((Below.refl w.heap.size w).alloc (Nat.le_refl _) (.cells #[.int .i64 h.n, .slice h.R h.rl h.rc, .slice h.E h.el h.ec, .int .i64 h.ja, .int .i64 h.jt, .int .i64 h.jf, .slice h.C h.cl h.cc] 34)).alloc (by simp) (.cells #[.int .i64 0, .int .i64 0] 25)
    refine (rtvalid_is bs l true n1 c1 n2 c2 A1 A2 ⟨fun _ => HV.out, fun _ => rfl⟩ HN1.out HN2.out _ (HB.out.below hb0) (HL.out.below hb0)).mono ?_; rintro e w2 ⟨rfl, hb⟩
    replace Q := Q.below hb; replace R := R.below hb; replace hb0 := hb0.trans (hb.mono hb0.size)
    clear hb
    have q0 := Q.c0; have q1 := Q.c1; have q2 := Q.c2; have q3 := Q.c3; have q4 := Q.c4; have q5 := Q.c5; have q6 := Q.c6; have ql := Q.lt
    have r0 := R.at2.c0; have r1 := R.at2.c1; have rl := R.at2.lt; have rf0 := R.f0; have rf1 := R.f1
    go_wp2_with fail
    clear q0 q1 q2 q3 q4 q5 q6 ql r0 r1 rl rf0 rf1
    refine (runfold_is h f HFV.out HCAP.out _ (HF.out.below hb0)).mono ?_; rintro e w3 ⟨hb, uv, rfl, OV⟩
    obtain ⟨-, VA, vc, rfl, LV, -⟩ := own_V OV
    clear OV
    replace Q := Q.below hb; replace R := R.below hb; replace hb0 := hb0.trans (hb.mono hb0.size)
    clear hb
    have q0 := Q.c0; have q1 := Q.c1; have q2 := Q.c2; have q3 := Q.c3; have q4 := Q.c4; have q5 := Q.c5; have q6 := Q.c6; have ql := Q.lt
    have r0 := R.at2.c0; have r1 := R.at2.c1; have rl := R.at2.lt; have rf0 := R.f0; have rf1 := R.f1
    go_wp2_with fail
    clear q0 q1 q2 q3 q4 q5 q6 ql r0 r1 rl rf0 rf1
    have R2 := R.put 0 0
    have hB2 := (hb0.setCell (p := ⟨w.heap.size + 1, 0, none⟩) (show w.heap.size ≤ w.heap.size + 1 by omega) (.int .i64 0)).setCell (p := ⟨w.heap.size + 1, 1, none⟩) (show w.heap.size ≤ w.heap.size + 1 by omega) (.int .i64 0)
    have z0 := R2.at2.c0; have z1 := R2.at2.c1
    refine bodyPost_ret (v := .tuple #[.agg #[.int .i64 0, .int .i64 0], .int .i64 1]) (by simp [results, Tryz.results13, z0, z1, go_sem]) rfl ⟨rfl, hB2⟩
  have m2' : decide (a < 0) = false := decide_eq_false m2
  by_cases m3 : b < a
  · have m3' : decide (b < a) = true := decide_eq_true m3
    obtain ⟨rfl, rfl, rfl⟩ := HANS.out.no (fun k => by have := k.2.2.2.2.1; omega)
    clear m2 m3
    go_enter Tryz.func13, Tryz.ntmps13
    go_wp2_with fail
    have Q := (FB.new w h).alloc (.cells #[.int .i64 0, .int .i64 0] 25)
    have R := Var2.new (w.alloc (.cells #[.int .i64 h.n, .slice h.R h.rl h.rc, .slice h.E h.el h.ec, .int .i64 h.ja, .int .i64 h.jt, .int .i64 h.jf, .slice h.C h.cl h.cc] 34)) 0 0 25
    rw [World.size_alloc] at R
    have hb0 := ((Below.refl w.heap.size w).alloc (Nat.le_refl _) (.cells #[.int .i64 h.n, .slice h.R h.rl h.rc, .slice h.E h.el h.ec, .int .i64 h.ja, .int .i64 h.jt, .int .i64 h.jf, .slice h.C h.cl h.cc] 34)).alloc (by simp) (.cells #[.int .i64 0, .int .i64 0] 25)
    refine (rtvalid_is bs l true n1 c1 n2 c2 A1 A2 ⟨fun _ => HV.out, fun _ => rfl⟩ HN1.out HN2.out _ (HB.out.below hb0) (HL.out.below hb0)).mono ?_; rintro e w2 ⟨rfl, hb⟩
    replace Q := Q.below hb; replace R := R.below hb; replace hb0 := hb0.trans (hb.mono hb0.size)
    clear hb
    have q0 := Q.c0; have q1 := Q.c1; have q2 := Q.c2; have q3 := Q.c3; have q4 := Q.c4; have q5 := Q.c5; have q6 := Q.c6; have ql := Q.lt
    have r0 := R.at2.c0; have r1 := R.at2.c1; have rl := R.at2.lt; have rf0 := R.f0; have rf1 := R.f1
    go_wp2_with fail
    clear q0 q1 q2 q3 q4 q5 q6 ql r0 r1 rl rf0 rf1
    refine (runfold_is h f HFV.out HCAP.out _ (HF.out.below hb0)).mono ?_; rintro e w3 ⟨hb, uv, rfl, OV⟩
    obtain ⟨-, VA, vc, rfl, LV, -⟩ := own_V OV
    clear OV
    replace Q := Q.below hb; replace R := R.below hb; replace hb0 := hb0.trans (hb.mono hb0.size)
    clear hb
    have q0 := Q.c0; have q1 := Q.c1; have q2 := Q.c2; have q3 := Q.c3; have q4 := Q.c4; have q5 := Q.c5; have q6 := Q.c6; have ql := Q.lt
    have r0 := R.at2.c0; have r1 := R.at2.c1; have rl := R.at2.lt; have rf0 := R.f0; have rf1 := R.f1
    go_wp2_with fail
    clear q0 q1 q2 q3 q4 q5 q6 ql r0 r1 rl rf0 rf1
    have R2 := R.put 0 0
    have hB2 := (hb0.setCell (p := ⟨w.heap.size + 1, 0, none⟩) (show w.heap.size ≤ w.heap.size + 1 by omega) (.int .i64 0)).setCell (p := ⟨w.heap.size + 1, 1, none⟩) (show w.heap.size ≤ w.heap.size + 1 by omega) (.int .i64 0)
    have z0 := R2.at2.c0; have z1 := R2.at2.c1
    refine bodyPost_ret (v := .tuple #[.agg #[.int .i64 0, .int .i64 0], .int .i64 1]) (by simp [results, Tryz.results13, z0, z1, go_sem]) rfl ⟨rfl, hB2⟩
  have m3' : decide (b < a) = false := decide_eq_false m3
  by_cases m4 : (nv : Int) < b
  · have m4' : decide ((nv : Int) < b) = true := decide_eq_true m4
    obtain ⟨rfl, rfl, rfl⟩ := HANS.out.no (fun k => by have := k.2.2.2.2.2; rw [HNV.out] at this; omega)
    clear m2 m3 m4
    go_enter Tryz.func13, Tryz.ntmps13
    go_wp2_with fail
    have Q := (FB.new w h).alloc (.cells #[.int .i64 0, .int .i64 0] 25)
    have R := Var2.new (w.alloc (.cells #[.int .i64 h.n, .slice h.R h.rl h.rc, .slice h.E h.el h.ec, .int .i64 h.ja, .int .i64 h.jt, .int .i64 h.jf, .slice h.C h.cl h.cc] 34)) 0 0 25
    rw [World.size_alloc] at R
    have hb0 := ((Below.refl w.heap.size w).alloc (Nat.le_refl _) (.cells #[.int .i64 h.n, .slice h.R h.rl h.rc, .slice h.E h.el h.ec, .int .i64 h.ja, .int .i64 h.jt, .int .i64 h.jf, .slice h.C h.cl h.cc] 34)).alloc (by simp) (.cells #[.int .i64 0, .int .i64 0] 25)
    refine (rtvalid_is bs l true n1 c1 n2 c2 A1 A2 ⟨fun _ => HV.out, fun _ => rfl⟩ HN1.out HN2.out _ (HB.out.below hb0) (HL.out.below hb0)).mono ?_; rintro e w2 ⟨rfl, hb⟩
    replace Q := Q.below hb; replace R := R.below hb; replace hb0 := hb0.trans (hb.mono hb0.size)
    clear hb
    have q0 := Q.c0; have q1 := Q.c1; have q2 := Q.c2; have q3 := Q.c3; have q4 := Q.c4; have q5 := Q.c5; have q6 := Q.c6; have ql := Q.lt
    have r0 := R.at2.c0; have r1 := R.at2.c1; have rl := R.at2.lt; have rf0 := R.f0; have rf1 := R.f1
    go_wp2_with fail
    clear q0 q1 q2 q3 q4 q5 q6 ql r0 r1 rl rf0 rf1
    refine (runfold_is h f HFV.out HCAP.out _ (HF.out.below hb0)).mono ?_; rintro e w3 ⟨hb, uv, rfl, OV⟩
    obtain ⟨-, VA, vc, rfl, LV, -⟩ := own_V OV
    rw [HNV.out]
    clear OV
    replace Q := Q.below hb; replace R := R.below hb; replace hb0 := hb0.trans (hb.mono hb0.size)
    clear hb
    have q0 := Q.c0; have q1 := Q.c1; have q2 := Q.c2; have q3 := Q.c3; have q4 := Q.c4; have q5 := Q.c5; have q6 := Q.c6; have ql := Q.lt
    have r0 := R.at2.c0; have r1 := R.at2.c1; have rl := R.at2.lt; have rf0 := R.f0; have rf1 := R.f1
    go_wp2_with fail
    clear q0 q1 q2 q3 q4 q5 q6 ql r0 r1 rl rf0 rf1
    have R2 := R.put 0 0
    have hB2 := (hb0.setCell (p := ⟨w.heap.size + 1, 0, none⟩) (show w.heap.size ≤ w.heap.size + 1 by omega) (.int .i64 0)).setCell (p := ⟨w.heap.size + 1, 1, none⟩) (show w.heap.size ≤ w.heap.size + 1 by omega) (.int .i64 0)
    have z0 := R2.at2.c0; have z1 := R2.at2.c1
    refine bodyPost_ret (v := .tuple #[.agg #[.int .i64 0, .int .i64 0], .int .i64 1]) (by simp [results, Tryz.results13, z0, z1, go_sem]) rfl ⟨rfl, hB2⟩
  have m4' : decide ((nv : Int) < b) = false := decide_eq_false m4
  obtain ⟨i0, rfl⟩ : ∃ i : Nat, a = (i : Int) := ⟨a.toNat, by omega⟩
  obtain ⟨j0, rfl⟩ : ∃ i : Nat, b = (i : Int) := ⟨b.toNat, by omega⟩
  have hij : i0 ≤ j0 := by omega
  have hjn : j0 ≤ nv := by omega
  have HMK := Lib.hid (HANS.out.ok ⟨HV.out, HFV.out, HM1.out, by omega, by omega, by rw [HNV.out]; omega⟩)
  have HIN := Lib.hid (Te.unf_inb HFV.out HM1.out)
  have h1n2 : 1 ≤ n2 := by have := HV.out.2.one; have := HN2.out; omega
  have hn2 : n2 ≤ 1000000 := by have := HV.out.2.most; have := HN2.out; omega
  have H12 := Lib.hid (And.intro h1n2 hn2)
  obtain ⟨vs, hvs⟩ : ∃ x, Fo.unf f = x := ⟨_, rfl⟩
  have HVS := Lib.hid hvs
  have m3n : decide (j0 < i0) = false := decide_eq_false (by omega)
  have m4n : decide (nv < j0) = false := decide_eq_false (by omega)
  clear m2 m3 m4 h1n2 hn2 hvs
  go_enter Tryz.func13, Tryz.ntmps13
  go_wp2_with fail
  have Q := (FB.new w h).alloc (.cells #[.int .i64 0, .int .i64 0] 25)
  have R := Var2.new (w.alloc (.cells #[.int .i64 h.n, .slice h.R h.rl h.rc, .slice h.E h.el h.ec, .int .i64 h.ja, .int .i64 h.jt, .int .i64 h.jf, .slice h.C h.cl h.cc] 34)) 0 0 25
  rw [World.size_alloc] at R
  have hb0 := ((Below.refl w.heap.size w).alloc (Nat.le_refl _) (.cells #[.int .i64 h.n, .slice h.R h.rl h.rc, .slice h.E h.el h.ec, .int .i64 h.ja, .int .i64 h.jt, .int .i64 h.jf, .slice h.C h.cl h.cc] 34)).alloc (by simp) (.cells #[.int .i64 0, .int .i64 0] 25)
  refine (rtvalid_is bs l true n1 c1 n2 c2 A1 A2 ⟨fun _ => HV.out, fun _ => rfl⟩ HN1.out HN2.out _ (HB.out.below hb0) (HL.out.below hb0)).mono ?_; rintro e w2 ⟨rfl, hb⟩
  replace Q := Q.below hb; replace R := R.below hb; replace hb0 := hb0.trans (hb.mono hb0.size)
  clear hb
  have q0 := Q.c0; have q1 := Q.c1; have q2 := Q.c2; have q3 := Q.c3; have q4 := Q.c4; have q5 := Q.c5; have q6 := Q.c6; have ql := Q.lt
  have r0 := R.at2.c0; have r1 := R.at2.c1; have rl := R.at2.lt; have rf0 := R.f0; have rf1 := R.f1
  go_wp2_with fail
  clear q0 q1 q2 q3 q4 q5 q6 ql r0 r1 rl rf0 rf1
  refine (runfold_is h f HFV.out HCAP.out _ (HF.out.below hb0)).mono ?_; rintro e w3 ⟨hb, uv, rfl, OV⟩
  obtain ⟨-, VA, vc, rfl, LV, -⟩ := own_V OV
  rw [HNV.out]
  rw [HVS.out] at LV
  clear OV
  replace Q := Q.below hb; replace R := R.below hb; replace hb0 := hb0.trans (hb.mono hb0.size)
  clear hb
  have q0 := Q.c0; have q1 := Q.c1; have q2 := Q.c2; have q3 := Q.c3; have q4 := Q.c4; have q5 := Q.c5; have q6 := Q.c6; have ql := Q.lt
  have r0 := R.at2.c0; have r1 := R.at2.c1; have rl := R.at2.lt; have rf0 := R.f0; have rf1 := R.f1
  go_wp2_with fail
  clear q0 q1 q2 q3 q4 q5 q6 ql r0 r1 rl rf0 rf1
  go_loopw [15, 16, 17] (fun s15 s16 _ wr => ∃ (i : Nat) (q v : Int), i0 ≤ i ∧ i ≤ j0 ∧ q = i ∧ s16 = .int .i64 q ∧ s15 = .int .i64 v ∧ Hid (v = Te.pre bs l vs i - Te.pre bs l vs i0) ∧ SlV wr VA vs ∧ Var2 wr (w.heap.size + 1) 0 0 ∧ Below w.heap.size w wr) (fun _ s16 _ _ => j0 - (intOf s16).toNat)
  case atStart => exact ⟨i0, i0, 0, Nat.le_refl _, hij, rfl, rfl, rfl, Lib.hid (by omega), LV, R, hb0⟩
  case round =>
    clear Q R hb0 LV
    obtain ⟨i, q, v, hi0, hi1, hq, rfl, rfl, HVV, LV, R, hb0⟩ := hrel
    have HQ := Lib.hid hq; have HI := Lib.hid (And.intro hi0 hi1)
    have hq0 : 0 ≤ q := by omega
    have hqn : q.toNat = i := by omega
    have hqm : q ≤ 20000 := by omega
    have HLN : Hid (vs.length = nv) := Lib.hid (by rw [← HVS.out]; exact HNV.out)
    have HIN2 : Hid (Te.In bs vs) := Lib.hid (by rw [← HVS.out]; exact HIN.out)
    have hvr : 0 ≤ v ∧ v ≤ 483840000000 := by
      have h9 := Te.pre_mono HV.out HIN2.out (i := i0) (k := i - i0) (by rw [HLN.out]; omega)
      rw [show i0 + (i - i0) = i by omega] at h9
      have := HVV.out
      omega
    by_cases hlt : i < j0
    case pos =>
      have hq1 : q < (j0 : Int) := by omega
      have hqb : q < (nv : Int) := by omega
      have hiv : i < vs.length := by rw [HLN.out]; omega
      obtain ⟨vb, vo, rfl, hvb, hvc⟩ := LV (by omega)
      have Y := hvc i hiv
      obtain ⟨x, hx⟩ : ∃ x, atV vs i = x := ⟨_, rfl⟩
      rw [hx] at Y
      have HX := Lib.hid hx
      have g0 := Y.c0
      obtain ⟨k, hk⟩ : ∃ k : Nat, x.b = (k : Int) := ⟨x.b.toNat, by have := (HIN2.out i hiv).1; rw [hx] at this; omega⟩
      have hkb : (k : Int) < (n1 : Int) := by have := (HIN2.out i hiv).2; rw [hx, hk, HN1.out] at this; exact this
      rw [hk] at g0
      have hkl : k < bs.length := by have := HN1.out; omega
      obtain ⟨bb, off, hAe, hbb, hc⟩ := (HB.out.below hb0) (by omega)
      obtain ⟨c0, x1, x2, c3⟩ := hc k hkl
      obtain ⟨bN, hbN⟩ : ∃ x, (atB bs k).2.1 = x := ⟨_, rfl⟩
      obtain ⟨bD, hbD⟩ : ∃ x, (atB bs k).2.2.1 = x := ⟨_, rfl⟩
      rw [hbN] at x1
      rw [hbD] at x2
      obtain ⟨t, ht⟩ : ∃ t, Mt.bt (atB bs k) = t := ⟨_, rfl⟩
      have HTT : Hid (Mt.tk bN bD = t) := Lib.hid (by rw [← hbN, ← hbD]; exact ht)
      have hbt := Te.bt_r HV.out.1 hkl
      rw [ht] at hbt
      obtain ⟨y, hy⟩ : ∃ y, t * Te.sb l (k : Int) = y := ⟨_, rfl⟩
      have hyr : 1 ≤ y ∧ y ≤ 24192000 := by rw [← hy, ← ht]; exact Te.step_r HV.out hkl
      have HY := Lib.hid hy
      have HV2 : Hid (v + y = Te.pre bs l vs (i + 1) - Te.pre bs l vs i0) := Lib.hid (by rw [Te.pre_succ, HX.out, hk, Int.toNat_natCast, ht, hy, HVV.out]; omega)
      have HSR := Lib.hid (HV.out.2.sb_r (k : Int))
      have HTR := Lib.hid hbt
      have hkm : k ≤ 4000 := by omega
      subst hAe
      clear c0 c3 hc hbN hbD ht hbt hy hq hlt hx hvc Y hk
      have r0 := R.at2.c0; have r1 := R.at2.c1; have rl := R.at2.lt; have rf0 := R.f0; have rf1 := R.f1
      go_wp2_with fail
      clear r0 r1 rl rf0 rf1 x1 x2 g0
      refine (kticks_is bN bD t HTT.out _).mono ?_; rintro e w6 ⟨rfl, hb⟩
      replace R := R.below hb; replace hb0 := hb0.trans (hb.mono hb0.size); replace LV := LV.below hb
      clear hb
      go_wp2_with fail
      refine (rtakes_is l (k : Int) t y n2 c2 A2 HN2.out H12.out.1 H12.out.2 (by have := HTR.out; omega) (by have := HTR.out; omega) HSR.out HY.out _ (HL.out.below hb0)).mono ?_; rintro e w7 ⟨rfl, hb⟩
      replace R := R.below hb; replace hb0 := hb0.trans (hb.mono hb0.size); replace LV := LV.below hb
      clear hb
      go_wp2_with fail
      go_roundw
      case rel => exact ⟨i + 1, q + 1, v + y, by have := HI.out; omega, by have := HQ.out; omega, by have := HQ.out; omega, rfl, rfl, HV2, LV, R, hb0⟩
      case measure => simp [intOf]; have := HQ.out; omega
    case neg =>
      obtain rfl : i = j0 := by omega
      have hq1 : ¬ q < (i : Int) := by omega
      have HMN : Hid (Rt.makeR v 100800 = (N, D, E)) := Lib.hid (by
        have h9 := HMK.out
        rw [Int.toNat_natCast, Int.toNat_natCast, HVS.out] at h9
        rw [← h9, HVV.out])
      clear hq
      go_wp2_with fail
      refine (rmake_is _ 100800 N D E HMN.out _).mono ?_; rintro e w8 ⟨rfl, hb⟩
      replace R := (R.below hb).alloc (.cells #[.int .i64 N, .int .i64 D] 25); replace hb0 := (hb0.trans (hb.mono hb0.size)).alloc (hb0.trans (hb.mono hb0.size)).size (.cells #[.int .i64 N, .int .i64 D] 25)
      clear hb
      have r0 := R.at2.c0; have r1 := R.at2.c1; have rl := R.at2.lt; have rf0 := R.f0; have rf1 := R.f1
      go_wp2_with fail
      clear r0 r1 rl rf0 rf1
      have R2 := R.put N D
      have hB2 := (hb0.setCell (p := ⟨w.heap.size + 1, 0, none⟩) (show w.heap.size ≤ w.heap.size + 1 by omega) (.int .i64 N)).setCell (p := ⟨w.heap.size + 1, 1, none⟩) (show w.heap.size ≤ w.heap.size + 1 by omega) (.int .i64 D)
      have z0 := R2.at2.c0; have z1 := R2.at2.c1
      refine bodyPost_ret (v := .tuple #[.agg #[.int .i64 N, .int .i64 D], .int .i64 E]) (by simp [results, Tryz.results13, z0, z1, go_sem]) rfl ⟨rfl, hB2⟩
def fewT (h : FH) (n1 n2 : Nat) : Prop := fewH h ∧ n1 ≤ 40 ∧ n2 ≤ 60
set_option maxHeartbeats 800000 in
theorem rtfew_is (h : FH) (n1 c1 n2 c2 : Nat) (A1 A2 : Option Addr) (r : Bool) (hr : r = true ↔ fewT h n1 n2) (w : World) :
    Calls Tryz.prog 5 #[.slice A1 n1 c1, .slice A2 n2 c2, .agg #[.int .i64 h.n, .slice h.R h.rl h.rc, .slice h.E h.el h.ec, .int .i64 h.ja, .int .i64 h.jt, .int .i64 h.jf, .slice h.C h.cl h.cc]] w fun e w' => e = .returned (.bool r) ∧ Below w.heap.size w w' := by
  have B := (Below.refl w.heap.size w).alloc (Nat.le_refl _) (.cells #[.int .i64 h.n, .slice h.R h.rl h.rc, .slice h.E h.el h.ec, .int .i64 h.ja, .int .i64 h.jt, .int .i64 h.jf, .slice h.C h.cl h.cc] 34)
  have Q := FB.new w h
  obtain ⟨u, hu⟩ : ∃ u : Bool, u = true ↔ fewH h := ⟨@decide _ (Classical.propDecidable _), @decide_eq_true_iff _ (Classical.propDecidable _)⟩
  obtain rfl : r = (u && decide ((n1 : Int) ≤ 40) && decide ((n2 : Int) ≤ 60)) := by
    rw [Bool.eq_iff_iff, hr, Bool.and_eq_true, Bool.and_eq_true, decide_eq_true_eq, decide_eq_true_eq, hu]
    unfold fewT
    constructor
    · rintro ⟨a, b, c⟩
      exact ⟨⟨a, by omega⟩, by omega⟩
    · rintro ⟨⟨a, b⟩, c⟩
      exact ⟨a, by omega, by omega⟩
  have HU := Lib.hid hu
  clear hr hu
  go_enter Tryz.func5, Tryz.ntmps5
  have q0 := Q.c0; have q1 := Q.c1; have q2 := Q.c2; have q3 := Q.c3; have q4 := Q.c4; have q5 := Q.c5; have q6 := Q.c6; have ql := Q.lt
  go_wp2_with fail
  clear q0 q1 q2 q3 q4 q5 q6 ql
  refine (rfew_is h u HU.out _).mono ?_; rintro e w2 ⟨rfl, hb⟩
  have B2 := B.trans (hb.mono B.size)
  cases u with
  | false =>
    go_wp2_with fail
    go_ret
    exact ⟨rfl, B2⟩
  | true =>
    by_cases m1 : (n1 : Int) ≤ 40
    · have m1' : decide ((n1 : Int) ≤ 40) = true := decide_eq_true m1
      go_wp2_with fail
      go_ret
      exact ⟨by first | rfl | simp [m1'], B2⟩
    · have m1' : decide ((n1 : Int) ≤ 40) = false := decide_eq_false m1
      go_wp2_with fail
      go_ret
      exact ⟨by first | rfl | simp [m1'], B2⟩
end Go.Proofs.YtahdlkdiadlgeaaGreat

/- Mathematics of the chapter's example. -/
namespace Go.Proofs.YtahdlkdiadlgeaaGreat
open Go.RowKit

def txB : List Mt.B := [(3, 4, 1, 0), (1, 4, 1, 0), (2, 4, 1, 0)]
def txT : List Fo.T3 := [⟨0, 1, 1⟩, ⟨2, 1, 2⟩]
def txF : Fo.Fm := ⟨3, [⟨2, 3, 2⟩], [], 0, 0, 0, []⟩
theorem txB_val : Mt.Val txB := by
  refine ⟨by decide, by decide, fun j hj => ?_, fun j k hj hk => ?_⟩
  · have : j = 0 ∨ j = 1 ∨ j = 2 := by simp [txB] at hj; omega
    rcases this with rfl | rfl | rfl <;> (unfold Mt.okB; decide +kernel)
  · have : (j = 1 ∧ k = 0) ∨ (j = 2 ∧ k = 0) ∨ (j = 2 ∧ k = 1) := by simp [txB] at hj; omega
    rcases this with ⟨rfl, rfl⟩ | ⟨rfl, rfl⟩ | ⟨rfl, rfl⟩ <;> decide
theorem txT_val : Te.ValL 3 txT := by
  refine ⟨by decide, by decide, rfl, fun j hj => ?_, fun j hj => ?_⟩
  · have : j = 0 ∨ j = 1 := by simp [txT] at hj; omega
    rcases this with rfl | rfl <;> decide +kernel
  · have : j = 0 := by simp [txT] at hj; omega
    subst this
    decide
theorem tx_val : Te.Val txB txT := ⟨txB_val, txT_val⟩
theorem tx_no : ¬ Te.Val txB (txT.drop 1) := fun V => by
  have := V.2.zero
  exact absurd this (by decide)
theorem txF_val : Fo.Val txF := ⟨by decide, by decide, ⟨by decide, trivial⟩, by decide, trivial, .inl ⟨rfl, rfl, rfl⟩, by decide, fun c hc => (by cases hc), List.nodup_nil, by decide +kernel⟩
theorem txF_unf : Fo.unf txF = [⟨0, 1⟩, ⟨1, 1⟩, ⟨2, 1⟩, ⟨2, 2⟩] := by decide +kernel
theorem tx_s1 : Te.SecA txB txT 0 0 1 3 0 1 10 1 0 :=
  ⟨fun _ => by decide +kernel, fun k => absurd ⟨tx_val, by decide +kernel, by decide +kernel, fun h => by
    rcases h with h | ⟨h, _⟩
    · exact absurd h (by decide)
    · exact absurd h (by decide)⟩ k⟩
theorem tx_s2 : Te.SecA txB txT 1 3 1 2 1 1 3 2 0 :=
  ⟨fun _ => by decide +kernel, fun k => absurd ⟨tx_val, by decide +kernel, by decide +kernel, fun h => by
    rcases h with h | ⟨h, _⟩
    · exact absurd h (by decide)
    · exact absurd h (by decide)⟩ k⟩
theorem tx_s3 : Te.SecA txB txT 3 0 1 0 0 1 0 0 1 :=
  ⟨fun k => absurd (.inl (by decide)) k.2.2.2, fun _ => ⟨rfl, rfl, rfl⟩⟩
theorem tx_p : Te.PlaA txB txT txF 0 4 12 1 0 :=
  ⟨fun _ => by rw [txF_unf]; decide +kernel, fun k => absurd ⟨tx_val, txF_val, rfl, by decide, by decide, by rw [txF_unf]; decide⟩ k⟩
theorem tx_a : Te.AtA txB txT 1 1 1 0 := ⟨fun _ => by decide +kernel, fun k => absurd ⟨tx_val, by decide, by decide⟩ k⟩
theorem txB_sl (w : World) : SlB (w.alloc (.cells #[.int .i64 3, .int .i64 4, .int .i64 1, .int .i64 0, .int .i64 1, .int .i64 4, .int .i64 1, .int .i64 0, .int .i64 2, .int .i64 4, .int .i64 1, .int .i64 0] 46)) (some ⟨w.heap.size, 0, none⟩) txB := fun _ => by
  refine ⟨w.heap.size, 0, rfl, by simp, fun i hi => ?_⟩
  have : i = 0 ∨ i = 1 ∨ i = 2 := by simp [txB] at hi; omega
  rcases this with rfl | rfl | rfl <;> (refine ⟨?_, ?_, ?_, ?_⟩ <;> (go_simp; rfl))
theorem txT_sl (w : World) : SlT (w.alloc (.cells #[.int .i64 0, .int .i64 1, .int .i64 1, .int .i64 2, .int .i64 1, .int .i64 2] 48)) (some ⟨w.heap.size, 0, none⟩) txT := fun _ => by
  refine ⟨w.heap.size, 0, rfl, by simp, fun i hi => ?_⟩
  have : i = 0 ∨ i = 1 := by simp [txT] at hi; omega
  rcases this with rfl | rfl <;> (refine ⟨?_, ?_, ?_⟩ <;> (go_simp; rfl))
theorem txR_sl (w : World) : SlT (w.alloc (.cells #[.int .i64 2, .int .i64 3, .int .i64 2] 50)) (some ⟨w.heap.size, 0, none⟩) [⟨2, 3, 2⟩] := fun _ => by
  refine ⟨w.heap.size, 0, rfl, by simp, fun i hi => ?_⟩
  have : i = 0 := by simp at hi; omega
  subst this
  refine ⟨?_, ?_, ?_⟩ <;> (go_simp; rfl)
theorem txF_sl (w : World) : SlF (w.alloc (.cells #[.int .i64 2, .int .i64 3, .int .i64 2] 50)) (⟨3, some ⟨w.heap.size, 0, none⟩, 1, 1, none, 0, 0, 0, 0, 0, none, 0, 0⟩ : FH) txF :=
  ⟨rfl, rfl, rfl, rfl, rfl, rfl, rfl, txR_sl w, SlT.nil _ _, SlT.nil _ _⟩
end Go.Proofs.YtahdlkdiadlgeaaGreat
