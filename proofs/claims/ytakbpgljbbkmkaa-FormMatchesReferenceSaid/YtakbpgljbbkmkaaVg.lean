/- The walk of the reference's whole. -/
import Derived.Test.YtakbpgljbbkmkaaVf
namespace Go.Proofs.Ytakbpgljbbkmkaa
open Go.RowKit

theorem own_kn {k : IntKind} {w : World} {base : Nat} {e : TypeId} {v : Value} {n : Nat} {g : List Int} (h : w.ownsRow base e 1 v n (vK k g)) : g.length = n ∧ ∃ A cap, v = .slice A n cap ∧ (A = none → cap = 0) ∧ SlK k w A g := by
  obtain ⟨hl, A, cap, hv, hs⟩ := own_k h
  refine ⟨hl, A, cap, hv, fun hA => ?_, hs⟩
  subst hA
  rcases h.2 with ⟨h1, _⟩ | ⟨g2, cap2, cur, h1, _⟩
  · rw [h1] at hv; cases hv; rfl
  · rw [h1] at hv; cases hv
theorem Fo.whl_len {f : Fo.Fm} (h : Fo.rgs f.rs) (hn : f.n ≤ 4000) (ha : f.ja ≤ 4000) (ht : 0 ≤ f.jt) (hf : f.jf ≤ 4000) : (Fo.whl f).length ≤ 288000000 := by
  have h1 := Fo.par_len h false (bar := 0) (hi := f.n) (by omega)
  have h2 := Fo.par_len h false (bar := 0) (hi := f.ja) (by omega)
  have h3 := Fo.par_len h true (bar := f.jt) (hi := f.jf) (by omega)
  unfold Fo.whl
  split
  · omega
  · rw [List.length_append]; omega

set_option maxHeartbeats 3200000 in
theorem rwhole_is (h : FH) (f : Fo.Fm) (hrg : Fo.rgs f.rs) (hn : h.n ≤ 4000) (ha : h.ja ≤ 4000) (ht : 0 ≤ h.jt) (hf : h.jf ≤ 4000) (hr : h.rl ≤ 100) (he : h.el ≤ 100) (w : World) (hS : SlF w h f) :
    Calls Try.prog 46 #[.agg #[.int .i64 h.n, .slice h.R h.rl h.rc, .slice h.E h.el h.ec, .int .i64 h.ja, .int .i64 h.jt, .int .i64 h.jf, .slice h.C h.cl h.cc]] w fun e w' => Below w.heap.size w w' ∧ ∃ v, e = .returned v ∧ w'.ownsRow w.heap.size 3 1 v (Fo.whl f).length (vK .i64 (Fo.whl f)) := by
  obtain ⟨i0, hi0, hz0, hz1, hz2⟩ := info_parts infoInt
  have B := (Below.refl w.heap.size w).alloc (Nat.le_refl _) (.cells #[.int .i64 h.n, .slice h.R h.rl h.rc, .slice h.E h.el h.ec, .int .i64 h.ja, .int .i64 h.jt, .int .i64 h.jf, .slice h.C h.cl h.cc] 28)
  have Q := FB.new w h
  have HSS := Lib.hid (hS.alloc (.cells #[.int .i64 h.n, .slice h.R h.rl h.rc, .slice h.E h.el h.ec, .int .i64 h.ja, .int .i64 h.jt, .int .i64 h.jf, .slice h.C h.cl h.cc] 28))
  have HRG := Lib.hid hrg
  by_cases h0 : h.ja = 0
  case pos =>
    have hw : Fo.whl f = Fo.par f false 0 h.n := by unfold Fo.whl; rw [hS.ja, hS.n, if_pos h0]
    have HW := Lib.hid hw
    clear hS hrg hw hi0 hz0 hz1 hz2 Q
    obtain ⟨n0, R, rl, rc, E, el, ec, ja, jt, jf, C, cl, cc⟩ := h
    dsimp only at hn ha ht hf hr he h0 B HSS HW ⊢
    subst h0
    go_enter Try.func46, Try.ntmps46
    go_wp2_with fail
    refine (rpart_is ⟨n0, R, rl, rc, E, el, ec, 0, jt, jf, C, cl, cc⟩ f 0 n0 false HRG.out (Int.le_refl _) hn hr he _ HSS.out).mono ?_; rintro e w2 ⟨hb, v, rfl, hown⟩
    go_wp2_with fail
    go_ret
    exact ⟨B.trans (hb.mono (by simp)), v, rfl, by rw [HW.out]; exact own_lessK hown (by simp)⟩
  case neg =>
    have hw : Fo.whl f = Fo.par f false 0 h.ja ++ Fo.par f true h.jt h.jf := by unfold Fo.whl; rw [hS.ja, hS.jt, hS.jf, if_neg h0]
    have HW := Lib.hid hw
    have HI0 := Lib.hid (And.intro hi0 (And.intro hz0 (And.intro hz1 hz2)))
    clear hS hrg hw hi0 hz0 hz1 hz2
    have HL1 := Lib.hid (Fo.par_len HRG.out false (bar := 0) (hi := h.ja) (by omega))
    have HL2 := Lib.hid (Fo.par_len HRG.out true (bar := h.jt) (hi := h.jf) (by omega))
    go_enter Try.func46, Try.ntmps46
    go_wp2_with fail
    obtain ⟨W1, hW1⟩ : ∃ W1, w.alloc (.cells #[.int .i64 h.n, .slice h.R h.rl h.rc, .slice h.E h.el h.ec, .int .i64 h.ja, .int .i64 h.jt, .int .i64 h.jf, .slice h.C h.cl h.cc] 28) = W1 := ⟨_, rfl⟩
    have hs1 : w.heap.size ≤ W1.heap.size := by rw [← hW1]; simp
    rw [hW1] at B Q HSS
    (try simp only [hW1])
    clear hW1
    have HQ := Lib.hid Q; have HB := Lib.hid B; have HS1 := Lib.hid hs1
    clear Q B hs1
    refine (rpart_is h f 0 h.ja false HRG.out (Int.le_refl _) ha hr he _ HSS.out).mono ?_; rintro e w2 ⟨hb, v, rfl, hown⟩
    have HOW := Lib.hid hown
    have Q := HQ.out.below hb
    have q0 := Q.c0; have q1 := Q.c1; have q2 := Q.c2; have q3 := Q.c3; have q4 := Q.c4; have q5 := Q.c5; have q6 := Q.c6; have ql := Q.lt
    have HB2 := Lib.hid hb
    clear hown hb
    go_wp2_with fail
    clear q0 q1 q2 q3 q4 q5 q6 ql Q
    refine (rpart_is h f h.jt h.jf true HRG.out ht hf hr he _ (HSS.out.below HB2.out)).mono ?_; rintro e w3 ⟨hb, v2, rfl, hown2⟩
    obtain ⟨_, A, cap, rfl, hnl, hsl⟩ := own_kn hown2
    have HK := Lib.hid (HOW.out.kept (below_grown hb none) none_ne)
    have HSL := Lib.hid hsl; have HNL := Lib.hid hnl
    have HB3 := Lib.hid (HB2.out.trans (hb.mono HB2.out.size))
    clear hown2 hsl hnl hb
    go_wp2_with (first | (at_builtin; refine append_slk .i64 rfl _ _ 57 rfl W1.heap.size 3 i0 (.int .i64 0) 8 Try.underlying57 HI0.out.1 HI0.out.2.1 HI0.out.2.2.1 HI0.out.2.2.2 rfl _ _ _ rfl HK.out A _ cap (Fo.par f true h.jt h.jf) rfl HNL.out rfl HSL.out (by unfold maxLen; have := HL1.out; have := HL2.out; omega) (by have := HL1.out; have := HL2.out; omega) HB3.out.size ?_; intro v5 w5 hown5 hgrow5) | fail)
    go_ret
    refine ⟨HB.out.trans ((HB3.out.grown hgrow5 HB3.out.size (own_ne HK.out)).mono HS1.out), v5, rfl, ?_⟩
    rw [HW.out, List.length_append, vK_app]
    exact own_lessK hown5 HS1.out
end Go.Proofs.Ytakbpgljbbkmkaa
