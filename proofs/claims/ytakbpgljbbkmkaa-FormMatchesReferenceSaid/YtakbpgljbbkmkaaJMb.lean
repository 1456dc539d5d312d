import Derived.Test.YtakbpgljbbkmkaaJMa
/- Cut, the good case, landed and reference, with where the answer's slices lie. -/
namespace Go.Proofs.Ytakbpgljbbkmkaa
open Go.RowKit

set_option maxHeartbeats 6400000 in
theorem rCut_okF (h : FH) (f : Fo.Fm) (c : Fo.T3) (V0 : Fo.Val f) (hcap : h.cl ≤ h.cc) (hnil : h.C = none → h.cc = 0) (hok : Fo.okC h.n c) (hno : Fo.cix f.cs c < 0) (h99 : h.cl < 100) (w : World) (hS : SlF w h f) :
    Calls Try.prog 19 #[.agg #[.int .i64 h.n, .slice h.R h.rl h.rc, .slice h.E h.el h.ec, .int .i64 h.ja, .int .i64 h.jt, .int .i64 h.jf, .slice h.C h.cl h.cc], .agg #[.int .i64 c.a, .int .i64 c.b, .int .i64 c.c]] w fun y w' => Below w.heap.size w w' ∧ ∃ h' : FH, y = .returned (.tuple #[.agg #[.int .i64 h'.n, .slice h'.R h'.rl h'.rc, .slice h'.E h'.el h'.ec, .int .i64 h'.ja, .int .i64 h'.jt, .int .i64 h'.jf, .slice h'.C h'.cl h'.cc], .int .i64 0]) ∧ (FormR {f with cs := f.cs ++ [c]} 0 h' w' ∧ ∀ n0, LowF n0 h f → SepF n0 w.heap.size h' {f with cs := f.cs ++ [c]}) := by
    obtain ⟨ic, hi0, hz0, hz1, hz2⟩ := info_parts infoCut
    have HI := Lib.hid (And.intro hi0 (And.intro hz0 (And.intro hz1 hz2)))
    have HV := Lib.hid V0; have HCAP := Lib.hid hcap; have HSS := Lib.hid hS; have HE := Lib.hid hok; have HNIL := Lib.hid hnil
    have HM := Lib.hid (show h.cl ≤ 100 by omega)
    obtain ⟨r, hr⟩ : ∃ r, Fo.cix f.cs c = r := ⟨_, rfl⟩
    rw [hr] at hno
    have HR := Lib.hid hr
    have hno2 : ¬ 0 ≤ r := by omega
    have hne : ¬ (h.cl : Int) = 100 := by omega
    clear hS V0 hcap hok hr hnil hi0 hz0 hz1 hz2
    go_enter Try.func19, Try.ntmps19
    go_wp2_with fail
    have Q := ((FV.new w h).alloc (.cells #[.int .i64 c.a, .int .i64 c.b, .int .i64 c.c] 32)).alloc (.cells #[.int .i64 0, .slice none 0 0, .slice none 0 0, .int .i64 0, .int .i64 0, .int .i64 0, .slice none 0 0] 28)
    have T := (TB.new (w.alloc (.cells #[.int .i64 h.n, .slice h.R h.rl h.rc, .slice h.E h.el h.ec, .int .i64 h.ja, .int .i64 h.jt, .int .i64 h.jf, .slice h.C h.cl h.cc] 28)) c 32).alloc (.cells #[.int .i64 0, .slice none 0 0, .slice none 0 0, .int .i64 0, .int .i64 0, .int .i64 0, .slice none 0 0] 28)
    have V := FV.zero ((w.alloc (.cells #[.int .i64 h.n, .slice h.R h.rl h.rc, .slice h.E h.el h.ec, .int .i64 h.ja, .int .i64 h.jt, .int .i64 h.jf, .slice h.C h.cl h.cc] 28)).alloc (.cells #[.int .i64 c.a, .int .i64 c.b, .int .i64 c.c] 32))
    have B := (((Below.refl w.heap.size w).alloc (Nat.le_refl _) (.cells #[.int .i64 h.n, .slice h.R h.rl h.rc, .slice h.E h.el h.ec, .int .i64 h.ja, .int .i64 h.jt, .int .i64 h.jf, .slice h.C h.cl h.cc] 28)).alloc (by simp) (.cells #[.int .i64 c.a, .int .i64 c.b, .int .i64 c.c] 32)).alloc (by simp <;> omega) (.cells #[.int .i64 0, .slice none 0 0, .slice none 0 0, .int .i64 0, .int .i64 0, .int .i64 0, .slice none 0 0] 28)
    rw [World.size_alloc] at T
    rw [World.size_alloc, World.size_alloc] at V
    refine (rValid_is h f true ⟨fun _ => HV.out, fun _ => rfl⟩ HCAP.out _ (((HSS.out.alloc _).alloc _).alloc _)).mono ?_; rintro e w1 ⟨rfl, hb⟩
    replace V := V.below hb; replace Q := Q.below hb; replace T := T.below hb; replace B := B.trans (hb.mono B.size)
    clear hb
    have Qq := Q.at_; have q0 := Qq.c0; have q1 := Qq.c1; have q2 := Qq.c2; have q3 := Qq.c3; have q4 := Qq.c4; have q5 := Qq.c5; have q6 := Qq.c6; have ql := Qq.lt; have k6 := Q.f 6
    have t0 := T.c0; have t1 := T.c1; have t2 := T.c2; have tl := T.lt
    have Vv := V.at_; have v0 := Vv.c0; have v1 := Vv.c1; have v2 := Vv.c2; have v3 := Vv.c3; have v4 := Vv.c4; have v5 := Vv.c5; have v6 := Vv.c6; have vl := Vv.lt; have g0 := V.f 0; have g1 := V.f 1; have g2 := V.f 2; have g3 := V.f 3; have g4 := V.f 4; have g5 := V.f 5; have g6 := V.f 6
    clear Qq Vv
    go_wp2_with fail
    clear q0 q1 q2 q3 q4 q5 q6 ql k6 t0 t1 t2 tl v0 v1 v2 v3 v4 v5 v6 vl g0 g1 g2 g3 g4 g5 g6
    refine (rcut_is h c true ⟨fun _ => HE.out, fun _ => rfl⟩ _).mono ?_; rintro e w2 ⟨rfl, hb⟩
    replace V := V.below hb; replace Q := Q.below hb; replace T := T.below hb; replace B := B.trans (hb.mono B.size)
    clear hb
    have Qq := Q.at_; have q0 := Qq.c0; have q1 := Qq.c1; have q2 := Qq.c2; have q3 := Qq.c3; have q4 := Qq.c4; have q5 := Qq.c5; have q6 := Qq.c6; have ql := Qq.lt; have k6 := Q.f 6
    have t0 := T.c0; have t1 := T.c1; have t2 := T.c2; have tl := T.lt
    have Vv := V.at_; have v0 := Vv.c0; have v1 := Vv.c1; have v2 := Vv.c2; have v3 := Vv.c3; have v4 := Vv.c4; have v5 := Vv.c5; have v6 := Vv.c6; have vl := Vv.lt; have g0 := V.f 0; have g1 := V.f 1; have g2 := V.f 2; have g3 := V.f 3; have g4 := V.f 4; have g5 := V.f 5; have g6 := V.f 6
    clear Qq Vv
    go_wp2_with fail
    clear q0 q1 q2 q3 q4 q5 q6 ql k6 t0 t1 t2 tl v0 v1 v2 v3 v4 v5 v6 vl g0 g1 g2 g3 g4 g5 g6
    refine (rhas_is f.cs c r _ _ _ HR.out HSS.out.cl (Nat.le_trans HM.out (by decide)) _ (HSS.out.sc.below B)).mono ?_; rintro e w3 ⟨rfl, hb⟩
    replace V := V.below hb; replace Q := Q.below hb; replace T := T.below hb; replace B := B.trans (hb.mono B.size)
    clear hb
    have Qq := Q.at_; have q0 := Qq.c0; have q1 := Qq.c1; have q2 := Qq.c2; have q3 := Qq.c3; have q4 := Qq.c4; have q5 := Qq.c5; have q6 := Qq.c6; have ql := Qq.lt; have k6 := Q.f 6
    have t0 := T.c0; have t1 := T.c1; have t2 := T.c2; have tl := T.lt
    have Vv := V.at_; have v0 := Vv.c0; have v1 := Vv.c1; have v2 := Vv.c2; have v3 := Vv.c3; have v4 := Vv.c4; have v5 := Vv.c5; have v6 := Vv.c6; have vl := Vv.lt; have g0 := V.f 0; have g1 := V.f 1; have g2 := V.f 2; have g3 := V.f 3; have g4 := V.f 4; have g5 := V.f 5; have g6 := V.f 6
    clear Qq Vv
    have hl3 := V.at_.lt
    go_wp2_with (first | (at_builtin; refine append_slt rfl _ _ 26 rfl w3.heap.size 32 ic (.agg #[.int .i64 0, .int .i64 0, .int .i64 0]) 24 Try.underlying26 HI.out.1 HI.out.2.1 HI.out.2.2.1 HI.out.2.2.2 rfl (.slice none 0 0) 0 [] rfl (World.ownsRow_nil _ _ _ _) h.C h.cl h.cc f.cs rfl HNIL.out HSS.out.cl (HSS.out.sc.below B) (by unfold maxLen; omega) (by omega) (Nat.le_refl _) ?_; intro y5 w5 hown5 hgrow5; have hb5 := none_below (show w3.grownBy w5 none from hgrow5); clear q0 q1 q2 q3 q4 q5 q6 ql k6 t0 t1 t2 tl v0 v1 v2 v3 v4 v5 v6 vl g0 g1 g2 g3 g4 g5 g6; replace V := V.below hb5; replace Q := Q.below hb5; replace T := T.below hb5; replace B := B.trans (hb5.mono B.size); have hsz5 := hb5.size; clear hb5 hgrow5; have HK := Lib.hid (hown5.kept (below_grown ((Below.refl w5.heap.size w5).alloc (Nat.le_refl _) (.cells #[.int .i64 c.a, .int .i64 c.b, .int .i64 c.c] 32)) none) none_ne); clear hown5; have Qq := Q.at_; have q0 := Qq.c0; have q1 := Qq.c1; have q2 := Qq.c2; have q3 := Qq.c3; have q4 := Qq.c4; have q5 := Qq.c5; have q6 := Qq.c6; have ql := Qq.lt; have k6 := Q.f 6; have t0 := T.c0; have t1 := T.c1; have t2 := T.c2; have tl := T.lt; have Vv := V.at_; have v0 := Vv.c0; have v1 := Vv.c1; have v2 := Vv.c2; have v3 := Vv.c3; have v4 := Vv.c4; have v5 := Vv.c5; have v6 := Vv.c6; have vl := Vv.lt; have g0 := V.f 0; have g1 := V.f 1; have g2 := V.f 2; have g3 := V.f 3; have g4 := V.f 4; have g5 := V.f 5; have g6 := V.f 6; clear Qq Vv) | (at_builtin; refine wpList_append_own _ rfl _ _ 26 rfl w3.heap.size 32 ic (.agg #[.int .i64 0, .int .i64 0, .int .i64 0]) 3 24 Try.underlying26 HI.out.1 HI.out.2.1 HI.out.2.2.1 HI.out.2.2.2 rfl (by decide) _ _ _ rfl HK.out ⟨w5.heap.size, 0, none⟩ 1 1 [.int .i64 c.a, .int .i64 c.b, .int .i64 c.c] rfl rfl (cell_three_new _ _ _ _ _) (fun u hu => by simp at hu; rcases hu with rfl | rfl | rfl <;> rfl) (by unfold maxLen; omega) (by omega) (by simp; omega) ?_; intro y6 w6 hown6 hgrow6 hnil6; have hlt3 : w.heap.size + 1 + 1 < w3.heap.size := hl3; clear q0 q1 q2 q3 q4 q5 q6 ql k6 t0 t1 t2 tl v0 v1 v2 v3 v4 v5 v6 vl g0 g1 g2 g3 g4 g5 g6; replace V := (V.alloc (.cells #[.int .i64 c.a, .int .i64 c.b, .int .i64 c.c] 32)).grown hlt3 (own_ne HK.out) hgrow6; replace Q := (Q.alloc (.cells #[.int .i64 c.a, .int .i64 c.b, .int .i64 c.c] 32)).grown (show w.heap.size < w3.heap.size by omega) (own_ne HK.out) hgrow6; replace B := (B.alloc B.size (.cells #[.int .i64 c.a, .int .i64 c.b, .int .i64 c.c] 32)).grown hgrow6 (by have := B.size; simp; omega) (fun j hj => by have := own_ne HK.out j hj; omega); obtain ⟨hl6, A6, c6, rfl, ho6, hn6⟩ := own_T6 hown6; have HOW6 := Lib.hid ho6; clear hown6 ho6 hgrow6 hnil6 T; have Qq := Q.at_; have q0 := Qq.c0; have q1 := Qq.c1; have q2 := Qq.c2; have q3 := Qq.c3; have q4 := Qq.c4; have q5 := Qq.c5; have q6 := Qq.c6; have ql := Qq.lt; have k6 := Q.f 6; have Vv := V.at_; have v0 := Vv.c0; have v1 := Vv.c1; have v2 := Vv.c2; have v3 := Vv.c3; have v4 := Vv.c4; have v5 := Vv.c5; have v6 := Vv.c6; have vl := Vv.lt; have g0 := V.f 0; have g1 := V.f 1; have g2 := V.f 2; have g3 := V.f 3; have g4 := V.f 4; have g5 := V.f 5; have g6 := V.f 6; clear Qq Vv) | fail)
    have V7 := FB.other V.at_ (p := ⟨w.heap.size, 6, none⟩) (show w.heap.size + 1 + 1 ≠ w.heap.size by omega) (.slice A6 (h.cl + 1) c6)
    have P := FB.put V7 (fun j => (World.frozen?_setCell ..).trans (V.f j)) {h with C := A6, cl := h.cl + 1, cc := c6}
    have hB2 := putF_below (B.setCell (p := ⟨w.heap.size, 6, none⟩) (Nat.le_refl _) (.slice A6 (h.cl + 1) c6)) (show w.heap.size ≤ w.heap.size + 1 + 1 by omega) {h with C := A6, cl := h.cl + 1, cc := c6}
    have hO : (putF (w6.setCell ⟨w.heap.size, 6, none⟩ (.slice A6 (h.cl + 1) c6)) (w.heap.size + 1 + 1) {h with C := A6, cl := h.cl + 1, cc := c6}).ownsRow w3.heap.size 32 3 (.slice A6 (h.cl + 1) c6) (h.cl + 1) (vT (f.cs ++ [c])) := by
      unfold putF
      exact (ownsRow_setCell_below (ownsRow_setCell_below (ownsRow_setCell_below (ownsRow_setCell_below (ownsRow_setCell_below (ownsRow_setCell_below (ownsRow_setCell_below (ownsRow_setCell_below HOW6.out (show w.heap.size < w3.heap.size by omega) _) (show w.heap.size + 1 + 1 < w3.heap.size by omega) _) (show w.heap.size + 1 + 1 < w3.heap.size by omega) _) (show w.heap.size + 1 + 1 < w3.heap.size by omega) _) (show w.heap.size + 1 + 1 < w3.heap.size by omega) _) (show w.heap.size + 1 + 1 < w3.heap.size by omega) _) (show w.heap.size + 1 + 1 < w3.heap.size by omega) _) (show w.heap.size + 1 + 1 < w3.heap.size by omega) _)
    show bodyPost _ _ _ _ _ (putF (w6.setCell ⟨w.heap.size, 6, none⟩ (.slice A6 (h.cl + 1) c6)) (w.heap.size + 1 + 1) {h with C := A6, cl := h.cl + 1, cc := c6})
    obtain ⟨wz, hz⟩ : ∃ wz, putF (w6.setCell ⟨w.heap.size, 6, none⟩ (.slice A6 (h.cl + 1) c6)) (w.heap.size + 1 + 1) {h with C := A6, cl := h.cl + 1, cc := c6} = wz := ⟨_, rfl⟩
    rw [hz] at P hB2 hO ⊢
    obtain ⟨-, p0, p1, p2, p3, p4, p5, p6⟩ := P
    dsimp only at p0 p1 p2 p3 p4 p5 p6
    obtain ⟨-, A9, c9, e9, hs9, -⟩ := own_T hO
    cases e9
    refine bodyPost_ret (v := .tuple #[.agg #[.int .i64 h.n, .slice h.R h.rl h.rc, .slice h.E h.el h.ec, .int .i64 h.ja, .int .i64 h.jt, .int .i64 h.jf, .slice A6 (h.cl + 1) c6], .int .i64 0]) (by simp [results, Try.results19, p0, p1, p2, p3, p4, p5, p6, go_sem]) rfl ⟨hB2, {h with C := A6, cl := h.cl + 1, cc := c6}, rfl, ⟨fun _ => ⟨⟨HSS.out.n, HSS.out.ja, HSS.out.jt, HSS.out.jf, HSS.out.rl, HSS.out.el, hl6, HSS.out.sr.below hB2, HSS.out.se.below hB2, hs9⟩, hn6⟩, fun k => absurd rfl k⟩, fun n0 L => ⟨L.1.sep, L.2.1.sep, own_sep hO (by omega)⟩⟩
set_option maxRecDepth 100000 in
set_option maxHeartbeats 6400000 in
theorem wCut_okF (h : FH) (f : Fo.Fm) (c : Fo.T3) (V0 : Fo.Val f) (he : Fo.okC h.n c) (h5 : Fo.cix f.cs c < 0) (h6 : h.cl < 100) (hN : Nils h) (hwf : ∀ c ∈ f.cs, Fo.wf3 c) (w : World) (hS : SlF w h f) :
    Calls Try.prog 18 #[.agg #[.int .i64 h.n, .slice h.R h.rl h.rc, .slice h.E h.el h.ec, .int .i64 h.ja, .int .i64 h.jt, .int .i64 h.jf, .slice h.C h.cl h.cc], .agg #[.int .i64 c.a, .int .i64 c.b, .int .i64 c.c]] w fun y w' => Below w.heap.size w w' ∧ ∃ h' : FH, y = .returned (.tuple #[.agg #[.int .i64 h'.n, .slice h'.R h'.rl h'.rc, .slice h'.E h'.el h'.ec, .int .i64 h'.ja, .int .i64 h'.jt, .int .i64 h'.jf, .slice h'.C h'.cl h'.cc], .int .i64 0]) ∧ (FormW {f with cs := f.cs ++ [c]} h' w' ∧ ∀ n0, LowF n0 h f → SepF n0 w.heap.size h' {f with cs := f.cs ++ [c]}) := by
    have HV := Lib.hid V0; have HWF := Lib.hid hwf; have HSS := Lib.hid hS
    have HM := Lib.hid (show h.cl ≤ 100 by have := V0.cl; have := hS.cl; omega)
    obtain ⟨ic, hi0, hz0, hz1, hz2⟩ := info_parts infoCut
    have HI := Lib.hid (And.intro hi0 (And.intro hz0 (And.intro hz1 hz2)))
    have HE := Lib.hid he; have HR := Lib.hid h5; have HNN := Lib.hid hN
    have HRL := Lib.hid (show h.rl ≤ 100 by have := V0.rl; have := hS.rl; omega)
    have HEL := Lib.hid (show h.el ≤ 100 by have := V0.el; have := hS.el; omega)
    have hne : ¬ (h.cl : Int) = 100 := by omega
    clear hS V0 hwf he h5 hN hi0 hz0 hz1 hz2
    go_enter Try.func18, Try.ntmps18
    go_wp2_with fail
    have Q := ((FV.new w h).alloc (.cells #[.int .i64 c.a, .int .i64 c.b, .int .i64 c.c] 32)).alloc (.cells #[.int .i64 0, .slice none 0 0, .slice none 0 0, .int .i64 0, .int .i64 0, .int .i64 0, .slice none 0 0] 28)
    have T := (TB.new (w.alloc (.cells #[.int .i64 h.n, .slice h.R h.rl h.rc, .slice h.E h.el h.ec, .int .i64 h.ja, .int .i64 h.jt, .int .i64 h.jf, .slice h.C h.cl h.cc] 28)) c 32).alloc (.cells #[.int .i64 0, .slice none 0 0, .slice none 0 0, .int .i64 0, .int .i64 0, .int .i64 0, .slice none 0 0] 28)
    have V := FV.zero ((w.alloc (.cells #[.int .i64 h.n, .slice h.R h.rl h.rc, .slice h.E h.el h.ec, .int .i64 h.ja, .int .i64 h.jt, .int .i64 h.jf, .slice h.C h.cl h.cc] 28)).alloc (.cells #[.int .i64 c.a, .int .i64 c.b, .int .i64 c.c] 32))
    have B := (((Below.refl w.heap.size w).alloc (Nat.le_refl _) (.cells #[.int .i64 h.n, .slice h.R h.rl h.rc, .slice h.E h.el h.ec, .int .i64 h.ja, .int .i64 h.jt, .int .i64 h.jf, .slice h.C h.cl h.cc] 28)).alloc (by simp) (.cells #[.int .i64 c.a, .int .i64 c.b, .int .i64 c.c] 32)).alloc (by simp <;> omega) (.cells #[.int .i64 0, .slice none 0 0, .slice none 0 0, .int .i64 0, .int .i64 0, .int .i64 0, .slice none 0 0] 28)
    rw [World.size_alloc] at T
    rw [World.size_alloc, World.size_alloc] at V
    refine (wValid_is h f true ⟨fun _ => HV.out, fun _ => rfl⟩ HWF.out _ (((HSS.out.alloc _).alloc _).alloc _)).mono ?_; rintro e w1 ⟨rfl, hb⟩
    replace V := V.below hb; replace Q := Q.below hb; replace T := T.below hb; replace B := B.trans (hb.mono B.size)
    clear hb
    have Qq := Q.at_; have q0 := Qq.c0; have q1 := Qq.c1; have q2 := Qq.c2; have q3 := Qq.c3; have q4 := Qq.c4; have q5 := Qq.c5; have q6 := Qq.c6; have ql := Qq.lt; have k6 := Q.f 6
    have t0 := T.c0; have t1 := T.c1; have t2 := T.c2; have tl := T.lt
    have Vv := V.at_; have v0 := Vv.c0; have v1 := Vv.c1; have v2 := Vv.c2; have v3 := Vv.c3; have v4 := Vv.c4; have v5 := Vv.c5; have v6 := Vv.c6; have vl := Vv.lt; have g0 := V.f 0; have g1 := V.f 1; have g2 := V.f 2; have g3 := V.f 3; have g4 := V.f 4; have g5 := V.f 5; have g6 := V.f 6
    clear Qq Vv
    go_wp2_with fail
    clear q0 q1 q2 q3 q4 q5 q6 ql k6 t0 t1 t2 tl v0 v1 v2 v3 v4 v5 v6 vl g0 g1 g2 g3 g4 g5 g6
    refine (wcut_is h c true ⟨fun _ => HE.out, fun _ => rfl⟩ _).mono ?_; rintro e w2 ⟨rfl, hb⟩
    replace V := V.below hb; replace Q := Q.below hb; replace T := T.below hb; replace B := B.trans (hb.mono B.size)
    clear hb
    have Qq := Q.at_; have q0 := Qq.c0; have q1 := Qq.c1; have q2 := Qq.c2; have q3 := Qq.c3; have q4 := Qq.c4; have q5 := Qq.c5; have q6 := Qq.c6; have ql := Qq.lt; have k6 := Q.f 6
    have t0 := T.c0; have t1 := T.c1; have t2 := T.c2; have tl := T.lt
    have Vv := V.at_; have v0 := Vv.c0; have v1 := Vv.c1; have v2 := Vv.c2; have v3 := Vv.c3; have v4 := Vv.c4; have v5 := Vv.c5; have v6 := Vv.c6; have vl := Vv.lt; have g0 := V.f 0; have g1 := V.f 1; have g2 := V.f 2; have g3 := V.f 3; have g4 := V.f 4; have g5 := V.f 5; have g6 := V.f 6
    clear Qq Vv
    go_wp2_with fail
    clear q0 q1 q2 q3 q4 q5 q6 ql k6 t0 t1 t2 tl v0 v1 v2 v3 v4 v5 v6 vl g0 g1 g2 g3 g4 g5 g6
    refine (wcontains_is f.cs c false _ _ _ ⟨(fun h => by cases h), fun k => absurd k (by have := HR.out; omega)⟩ HSS.out.cl (Nat.le_trans HM.out (by decide)) _ (HSS.out.sc.below B)).mono ?_; rintro e w3 ⟨rfl, hb⟩
    replace V := V.below hb; replace Q := Q.below hb; replace T := T.below hb; replace B := B.trans (hb.mono B.size)
    clear hb
    have Qq := Q.at_; have q0 := Qq.c0; have q1 := Qq.c1; have q2 := Qq.c2; have q3 := Qq.c3; have q4 := Qq.c4; have q5 := Qq.c5; have q6 := Qq.c6; have ql := Qq.lt; have k6 := Q.f 6
    have t0 := T.c0; have t1 := T.c1; have t2 := T.c2; have tl := T.lt
    have Vv := V.at_; have v0 := Vv.c0; have v1 := Vv.c1; have v2 := Vv.c2; have v3 := Vv.c3; have v4 := Vv.c4; have v5 := Vv.c5; have v6 := Vv.c6; have vl := Vv.lt; have g0 := V.f 0; have g1 := V.f 1; have g2 := V.f 2; have g3 := V.f 3; have g4 := V.f 4; have g5 := V.f 5; have g6 := V.f 6
    clear Qq Vv
    go_wp2_with fail
    clear q0 q1 q2 q3 q4 q5 q6 ql k6 t0 t1 t2 tl v0 v1 v2 v3 v4 v5 v6 vl g0 g1 g2 g3 g4 g5 g6
    refine (wclone_is h f HRL.out HEL.out HM.out HNN.out _ (HSS.out.below B)).mono ?_; rintro e w4 ⟨hb, R', E', C', rc', ec', cc', rfl, OF⟩
    have hl3 := V.at_.lt
    have hb4 := hb.size
    replace V := (V.below hb).fw; replace Q := (Q.below hb).fw; replace T := T.below hb; replace B := B.trans (hb.mono B.size)
    clear hb
    obtain ⟨-, OR, OE, OC⟩ := OF
    dsimp only at OR OE OC
    have hK7 := (own_putF OC (own_far OC (show w.heap.size < w3.heap.size by omega)) {h with R := R', rc := rc', E := E', ec := ec', C := C', cc := cc'}).alloc (.cells #[.int .i64 c.a, .int .i64 c.b, .int .i64 c.c] 32)
    have hNW := cell_three_new (putF w4 w.heap.size {h with R := R', rc := rc', E := E', ec := ec', C := C', cc := cc'}) (.int .i64 c.a) (.int .i64 c.b) (.int .i64 c.c) 32
    rw [putF_size] at hNW
    have OR7 := (own_putF OR (own_far OR (show w.heap.size < w3.heap.size by omega)) {h with R := R', rc := rc', E := E', ec := ec', C := C', cc := cc'}).alloc (.cells #[.int .i64 c.a, .int .i64 c.b, .int .i64 c.c] 32)
    have OE7 := (own_putF OE (own_far OE (show w.heap.size < w3.heap.size by omega)) {h with R := R', rc := rc', E := E', ec := ec', C := C', cc := cc'}).alloc (.cells #[.int .i64 c.a, .int .i64 c.b, .int .i64 c.c] 32)
    have Q7 := (Q.put {h with R := R', rc := rc', E := E', ec := ec', C := C', cc := cc'}).alloc (.cells #[.int .i64 c.a, .int .i64 c.b, .int .i64 c.c] 32)
    have V7 := (V.putO (c := w.heap.size) (by omega) {h with R := R', rc := rc', E := E', ec := ec', C := C', cc := cc'}).alloc (.cells #[.int .i64 c.a, .int .i64 c.b, .int .i64 c.c] 32)
    have B7 := (putF_below B (Nat.le_refl w.heap.size) {h with R := R', rc := rc', E := E', ec := ec', C := C', cc := cc'}).alloc (by rw [putF_size]; exact B.size) (.cells #[.int .i64 c.a, .int .i64 c.b, .int .i64 c.c] 32)
    dsimp only [putF] at hK7 OR7 OE7 Q7 V7 B7 hNW
    have HK := Lib.hid hK7; have HNW := Lib.hid hNW
    clear hK7 hNW OR OE OC
    have q0 := Q.a.c0; have q1 := Q.a.c1; have q2 := Q.a.c2; have q3 := Q.a.c3; have q4 := Q.a.c4; have q5 := Q.a.c5; have q6 := Q.a.c6; have ql := Q.a.lt; have k0 := Q.f 0; have k1 := Q.f 1; have k2 := Q.f 2; have k3 := Q.f 3; have k4 := Q.f 4; have k5 := Q.f 5; have k6 := Q.f 6; (try dsimp only at q0 q1 q2 q3 q4 q5 q6)
    have v0 := V.a.c0; have v1 := V.a.c1; have v2 := V.a.c2; have v3 := V.a.c3; have v4 := V.a.c4; have v5 := V.a.c5; have v6 := V.a.c6; have vl := V.a.lt; have g0 := V.f 0; have g1 := V.f 1; have g2 := V.f 2; have g3 := V.f 3; have g4 := V.f 4; have g5 := V.f 5; have g6 := V.f 6
    have t0 := T.c0; have t1 := T.c1; have t2 := T.c2; have tl := T.lt
    go_wp2_with (first | (at_builtin; go_loud (refine wpList_append_own _ rfl _ _ 26 rfl w3.heap.size 32 ic (.agg #[.int .i64 0, .int .i64 0, .int .i64 0]) 3 24 Try.underlying26 HI.out.1 HI.out.2.1 HI.out.2.2.1 HI.out.2.2.2 rfl (by decide) _ h.cl (vT f.cs) rfl HK.out ⟨w4.heap.size, 0, none⟩ 1 1 [.int .i64 c.a, .int .i64 c.b, .int .i64 c.c] rfl rfl HNW.out (fun u hu => by simp at hu; rcases hu with rfl | rfl | rfl <;> rfl) (by unfold maxLen; omega) (by omega) (by simp; omega) ?_; intro y6 w6 hown6 hgrow6 hnil6; clear q0 q1 q2 q3 q4 q5 q6 ql k0 k1 k2 k3 k4 k5 k6 v0 v1 v2 v3 v4 v5 v6 vl g0 g1 g2 g3 g4 g5 g6 t0 t1 t2 tl; replace Q := Q7.grown hgrow6 (own_far HK.out (by omega)); replace V := V7.grown hgrow6 (own_far HK.out (by omega)); have hOR := OR7.kept hgrow6 (own_apart OR7 HK.out (by decide)); have hOE := OE7.kept hgrow6 (own_apart OE7 HK.out (by decide)); replace B := B7.grown hgrow6 B7.size (fun j hj => by have := own_ne HK.out j hj; omega); obtain ⟨hl6, A6, c6, rfl, ho6, hn6⟩ := own_T6K hown6; clear hown6 hgrow6 hnil6 T; have q0 := Q.a.c0; have q1 := Q.a.c1; have q2 := Q.a.c2; have q3 := Q.a.c3; have q4 := Q.a.c4; have q5 := Q.a.c5; have q6 := Q.a.c6; have ql := Q.a.lt; have k0 := Q.f 0; have k1 := Q.f 1; have k2 := Q.f 2; have k3 := Q.f 3; have k4 := Q.f 4; have k5 := Q.f 5; have k6 := Q.f 6; (try dsimp only at q0 q1 q2 q3 q4 q5 q6); have v0 := V.a.c0; have v1 := V.a.c1; have v2 := V.a.c2; have v3 := V.a.c3; have v4 := V.a.c4; have v5 := V.a.c5; have v6 := V.a.c6; have vl := V.a.lt; have g0 := V.f 0; have g1 := V.f 1; have g2 := V.f 2; have g3 := V.f 3; have g4 := V.f 4; have g5 := V.f 5; have g6 := V.f 6)) | fail)
    have V8 := (V.other (c := w.heap.size) (k := 6) (by omega) (.slice A6 (h.cl + 1) c6)).put {h with R := R', rc := rc', E := E', ec := ec', C := A6, cl := h.cl + 1, cc := c6}
    have hB2 := putF_below (B.setCell (p := ⟨w.heap.size, 6, none⟩) (Nat.le_refl _) (.slice A6 (h.cl + 1) c6)) (show w.heap.size ≤ w.heap.size + 1 + 1 by omega) {h with R := R', rc := rc', E := E', ec := ec', C := A6, cl := h.cl + 1, cc := c6}
    have pO : ∀ {ET : TypeId} {v : Value} {n : Nat} {xs : List Value}, w6.ownsRow w3.heap.size ET 3 v n xs → (putF (w6.setCell ⟨w.heap.size, 6, none⟩ (.slice A6 (h.cl + 1) c6)) (w.heap.size + 1 + 1) {h with R := R', rc := rc', E := E', ec := ec', C := A6, cl := h.cl + 1, cc := c6}).ownsRow w3.heap.size ET 3 v n xs := fun {ET v n xs} ho =>
      own_putF (own_setS ho (own_far ho (by omega)) 6 _) (own_far ho (by omega)) {h with R := R', rc := rc', E := E', ec := ec', C := A6, cl := h.cl + 1, cc := c6}
    have hOR8 := pO hOR; have hOE8 := pO hOE; have hOC8 := pO ho6
    clear hOR hOE ho6 pO
    show bodyPost _ _ _ _ _ (putF (w6.setCell ⟨w.heap.size, 6, none⟩ (.slice A6 (h.cl + 1) c6)) (w.heap.size + 1 + 1) {h with R := R', rc := rc', E := E', ec := ec', C := A6, cl := h.cl + 1, cc := c6})
    obtain ⟨wz, hz⟩ : ∃ wz, putF (w6.setCell ⟨w.heap.size, 6, none⟩ (.slice A6 (h.cl + 1) c6)) (w.heap.size + 1 + 1) {h with R := R', rc := rc', E := E', ec := ec', C := A6, cl := h.cl + 1, cc := c6} = wz := ⟨_, rfl⟩
    rw [hz] at V8 hB2 hOR8 hOE8 hOC8 ⊢
    obtain ⟨-, p0, p1, p2, p3, p4, p5, p6⟩ := V8.a
    dsimp only at p0 p1 p2 p3 p4 p5 p6
    obtain ⟨-, _, _, e1, s1, n1⟩ := own_T hOR8
    cases e1
    obtain ⟨-, _, _, e2, s2, n2⟩ := own_T hOE8
    cases e2
    obtain ⟨-, _, _, e3, s3, n3⟩ := own_T hOC8
    cases e3
    refine bodyPost_ret (v := .tuple #[.agg #[.int .i64 h.n, .slice R' h.rl rc', .slice E' h.el ec', .int .i64 h.ja, .int .i64 h.jt, .int .i64 h.jf, .slice A6 (h.cl + 1) c6], .int .i64 0]) (by simp [results, Try.results18, p0, p1, p2, p3, p4, p5, p6, go_sem]) rfl ⟨hB2, {h with R := R', rc := rc', E := E', ec := ec', C := A6, cl := h.cl + 1, cc := c6}, rfl, ⟨⟨HSS.out.n, HSS.out.ja, HSS.out.jt, HSS.out.jf, HSS.out.rl, HSS.out.el, hl6, s1, s2, s3⟩, hn6, ⟨n1, n2, n3⟩⟩, fun n0 _ => ⟨own_sep hOR8 (by omega), own_sep hOE8 (by omega), own_sep hOC8 (by omega)⟩⟩
end Go.Proofs.Ytakbpgljbbkmkaa

/- Open, the good case, with where the answer's slices lie. -/
namespace Go.Proofs.Ytakbpgljbbkmkaa
open Go.RowKit

set_option maxRecDepth 100000 in
set_option maxHeartbeats 6400000 in
theorem wOpen_okF (h : FH) (f : Fo.Fm) (c : Fo.T3) (k : Nat) (V0 : Fo.Val f) (hk : Fo.cix f.cs c = (k : Int)) (hN : Nils h) (hwf : ∀ c ∈ f.cs, Fo.wf3 c) (w : World) (hS : SlF w h f) :
    Calls Try.prog 21 #[.agg #[.int .i64 h.n, .slice h.R h.rl h.rc, .slice h.E h.el h.ec, .int .i64 h.ja, .int .i64 h.jt, .int .i64 h.jf, .slice h.C h.cl h.cc], .agg #[.int .i64 c.a, .int .i64 c.b, .int .i64 c.c]] w fun y w' => Below w.heap.size w w' ∧ ∃ h' : FH, y = .returned (.tuple #[.agg #[.int .i64 h'.n, .slice h'.R h'.rl h'.rc, .slice h'.E h'.el h'.ec, .int .i64 h'.ja, .int .i64 h'.jt, .int .i64 h'.jf, .slice h'.C h'.cl h'.cc], .int .i64 0]) ∧ (FormW {f with cs := f.cs.eraseIdx k} h' w' ∧ ∀ n0, LowF n0 h f → SepF n0 w.heap.size h' {f with cs := f.cs.eraseIdx k}) := by
    have HV := Lib.hid V0; have HWF := Lib.hid hwf; have HSS := Lib.hid hS; have HNN := Lib.hid hN
    have HM := Lib.hid (show h.cl ≤ 100 by have := V0.cl; have := hS.cl; omega)
    have HRL := Lib.hid (show h.rl ≤ 100 by have := V0.rl; have := hS.rl; omega)
    have HEL := Lib.hid (show h.el ≤ 100 by have := V0.el; have := hS.el; omega)
    have hkl : k < h.cl := by have := Fo.cix_lt f.cs c; rw [hk, hS.cl] at this; omega
    obtain ⟨n, hn⟩ : ∃ n, h.cl = n + 1 := ⟨h.cl - 1, by omega⟩
    have HNE := Lib.hid hn
    have HKN : Hid (k ≤ n ∧ n ≤ 100) := Lib.hid (by have := HM.out; omega)
    have hkm : k ≤ 100 := by have := HM.out; omega
    have HR := Lib.hid hk
    clear hS V0 hwf hk hN hn
    go_enter Try.func21, Try.ntmps21
    go_wp2_with fail
    have Q := ((FV.new w h).alloc (.cells #[.int .i64 c.a, .int .i64 c.b, .int .i64 c.c] 32)).alloc (.cells #[.int .i64 0, .slice none 0 0, .slice none 0 0, .int .i64 0, .int .i64 0, .int .i64 0, .slice none 0 0] 28)
    have T := (TB.new (w.alloc (.cells #[.int .i64 h.n, .slice h.R h.rl h.rc, .slice h.E h.el h.ec, .int .i64 h.ja, .int .i64 h.jt, .int .i64 h.jf, .slice h.C h.cl h.cc] 28)) c 32).alloc (.cells #[.int .i64 0, .slice none 0 0, .slice none 0 0, .int .i64 0, .int .i64 0, .int .i64 0, .slice none 0 0] 28)
    have V := FV.zero ((w.alloc (.cells #[.int .i64 h.n, .slice h.R h.rl h.rc, .slice h.E h.el h.ec, .int .i64 h.ja, .int .i64 h.jt, .int .i64 h.jf, .slice h.C h.cl h.cc] 28)).alloc (.cells #[.int .i64 c.a, .int .i64 c.b, .int .i64 c.c] 32))
    have B := (((Below.refl w.heap.size w).alloc (Nat.le_refl _) (.cells #[.int .i64 h.n, .slice h.R h.rl h.rc, .slice h.E h.el h.ec, .int .i64 h.ja, .int .i64 h.jt, .int .i64 h.jf, .slice h.C h.cl h.cc] 28)).alloc (by simp) (.cells #[.int .i64 c.a, .int .i64 c.b, .int .i64 c.c] 32)).alloc (by simp <;> omega) (.cells #[.int .i64 0, .slice none 0 0, .slice none 0 0, .int .i64 0, .int .i64 0, .int .i64 0, .slice none 0 0] 28)
    rw [World.size_alloc] at T
    rw [World.size_alloc, World.size_alloc] at V
    refine (wValid_is h f true ⟨fun _ => HV.out, fun _ => rfl⟩ HWF.out _ (((HSS.out.alloc _).alloc _).alloc _)).mono ?_; rintro e w1 ⟨rfl, hb⟩
    replace V := V.below hb; replace Q := Q.below hb; replace T := T.below hb; replace B := B.trans (hb.mono B.size)
    clear hb
    have Qq := Q.at_; have q0 := Qq.c0; have q1 := Qq.c1; have q2 := Qq.c2; have q3 := Qq.c3; have q4 := Qq.c4; have q5 := Qq.c5; have q6 := Qq.c6; have ql := Qq.lt; have k6 := Q.f 6
    have t0 := T.c0; have t1 := T.c1; have t2 := T.c2; have tl := T.lt
    have Vv := V.at_; have v0 := Vv.c0; have v1 := Vv.c1; have v2 := Vv.c2; have v3 := Vv.c3; have v4 := Vv.c4; have v5 := Vv.c5; have v6 := Vv.c6; have vl := Vv.lt; have g0 := V.f 0; have g1 := V.f 1; have g2 := V.f 2; have g3 := V.f 3; have g4 := V.f 4; have g5 := V.f 5; have g6 := V.f 6
    clear Qq Vv
    go_wp2_with fail
    clear q0 q1 q2 q3 q4 q5 q6 ql k6 t0 t1 t2 tl v0 v1 v2 v3 v4 v5 v6 vl g0 g1 g2 g3 g4 g5 g6
    refine (windex_is f.cs c (k : Int) _ _ _ HR.out HSS.out.cl (Nat.le_trans HM.out (by decide)) _ (HSS.out.sc.below B)).mono ?_; rintro e w2 ⟨rfl, hb⟩
    replace V := V.below hb; replace Q := Q.below hb; replace T := T.below hb; replace B := B.trans (hb.mono B.size)
    clear hb
    have hk0 : ¬ (k : Int) < 0 := by omega
    have Qq := Q.at_; have q0 := Qq.c0; have q1 := Qq.c1; have q2 := Qq.c2; have q3 := Qq.c3; have q4 := Qq.c4; have q5 := Qq.c5; have q6 := Qq.c6; have ql := Qq.lt; have k6 := Q.f 6
    have t0 := T.c0; have t1 := T.c1; have t2 := T.c2; have tl := T.lt
    have Vv := V.at_; have v0 := Vv.c0; have v1 := Vv.c1; have v2 := Vv.c2; have v3 := Vv.c3; have v4 := Vv.c4; have v5 := Vv.c5; have v6 := Vv.c6; have vl := Vv.lt; have g0 := V.f 0; have g1 := V.f 1; have g2 := V.f 2; have g3 := V.f 3; have g4 := V.f 4; have g5 := V.f 5; have g6 := V.f 6
    clear Qq Vv
    go_wp2_with fail
    clear q0 q1 q2 q3 q4 q5 q6 ql k6 t0 t1 t2 tl v0 v1 v2 v3 v4 v5 v6 vl g0 g1 g2 g3 g4 g5 g6
    refine (wclone_is h f HRL.out HEL.out HM.out HNN.out _ (HSS.out.below B)).mono ?_; rintro e w3 ⟨hb, R', E', C', rc', ec', cc', rfl, OF⟩
    have hl3 := V.at_.lt
    have hb4 := hb.size
    replace V := (V.below hb).fw; replace Q := (Q.below hb).fw; replace B := B.trans (hb.mono B.size)
    clear hb T
    obtain ⟨-, OR, OE, OC⟩ := OF
    dsimp only at OR OE OC
    obtain ⟨g, rfl, hg0, hg1⟩ := own_openT OC (by omega)
    have OR7 := own_putF OR (own_far OR (show w.heap.size < w2.heap.size by omega)) {h with R := R', rc := rc', E := E', ec := ec', C := some ⟨g, 0, none⟩, cc := cc'}
    have OE7 := own_putF OE (own_far OE (show w.heap.size < w2.heap.size by omega)) {h with R := R', rc := rc', E := E', ec := ec', C := some ⟨g, 0, none⟩, cc := cc'}
    have OC7 := own_putF OC (own_far OC (show w.heap.size < w2.heap.size by omega)) {h with R := R', rc := rc', E := E', ec := ec', C := some ⟨g, 0, none⟩, cc := cc'}
    have Q7 := Q.put {h with R := R', rc := rc', E := E', ec := ec', C := some ⟨g, 0, none⟩, cc := cc'}
    have V7 := V.putO (c := w.heap.size) (by omega) {h with R := R', rc := rc', E := E', ec := ec', C := some ⟨g, 0, none⟩, cc := cc'}
    have B7 := putF_below B (Nat.le_refl w.heap.size) {h with R := R', rc := rc', E := E', ec := ec', C := some ⟨g, 0, none⟩, cc := cc'}
    clear OR OE OC B
    have q0 := Q.a.c0; have q1 := Q.a.c1; have q2 := Q.a.c2; have q3 := Q.a.c3; have q4 := Q.a.c4; have q5 := Q.a.c5; have q6 := Q.a.c6; have ql := Q.a.lt; have k0 := Q.f 0; have k1 := Q.f 1; have k2 := Q.f 2; have k3 := Q.f 3; have k4 := Q.f 4; have k5 := Q.f 5; have k6 := Q.f 6; (try dsimp only at q0 q1 q2 q3 q4 q5 q6)
    have v0 := V.a.c0; have v1 := V.a.c1; have v2 := V.a.c2; have v3 := V.a.c3; have v4 := V.a.c4; have v5 := V.a.c5; have v6 := V.a.c6; have vl := V.a.lt; have g0 := V.f 0; have g1 := V.f 1; have g2 := V.f 2; have g3 := V.f 3; have g4 := V.f 4; have g5 := V.f 5; have g6 := V.f 6; (try dsimp only at v0 v1 v2 v3 v4 v5 v6)
    go_wp2_with fail
    clear q0 q1 q2 q3 q4 q5 q6 ql k0 k1 k2 k3 k4 k5 k6 v0 v1 v2 v3 v4 v5 v6 vl g0 g1 g2 g3 g4 g5 g6
    clear Q V
    obtain ⟨X, hX⟩ : ∃ X, putF w3 w.heap.size {h with R := R', rc := rc', E := E', ec := ec', C := some ⟨g, 0, none⟩, cc := cc'} = X := ⟨_, rfl⟩
    rw [hX] at OR7 OE7 OC7 Q7 V7 B7
    dsimp only [putF] at hX
    rw [hX]
    clear hX
    refine (wdelete2 f.cs k n h.cl cc' g w2.heap.size HNE.out HKN.out.1 (by have := HKN.out; omega) _ OC7).mono ?_; rintro e w5 ⟨rfl, hgr, ho5⟩
    have Q := Q7.grown hgr (by intro e8; have := Option.some.inj e8; omega)
    have V := V7.grown hgr (by intro e8; have := Option.some.inj e8; omega)
    have hOR := OR7.kept hgr (own_apart OR7 OC7 (by decide))
    have hOE := OE7.kept hgr (own_apart OE7 OC7 (by decide))
    have B := B7.grown hgr B7.size (fun j hj => by have := Option.some.inj hj; omega)
    clear hgr OR7 OE7 OC7 Q7 V7 B7
    have q0 := Q.a.c0; have q1 := Q.a.c1; have q2 := Q.a.c2; have q3 := Q.a.c3; have q4 := Q.a.c4; have q5 := Q.a.c5; have q6 := Q.a.c6; have ql := Q.a.lt; have k0 := Q.f 0; have k1 := Q.f 1; have k2 := Q.f 2; have k3 := Q.f 3; have k4 := Q.f 4; have k5 := Q.f 5; have k6 := Q.f 6; (try dsimp only at q0 q1 q2 q3 q4 q5 q6)
    have v0 := V.a.c0; have v1 := V.a.c1; have v2 := V.a.c2; have v3 := V.a.c3; have v4 := V.a.c4; have v5 := V.a.c5; have v6 := V.a.c6; have vl := V.a.lt; have g0 := V.f 0; have g1 := V.f 1; have g2 := V.f 2; have g3 := V.f 3; have g4 := V.f 4; have g5 := V.f 5; have g6 := V.f 6; (try dsimp only at v0 v1 v2 v3 v4 v5 v6)
    go_wp2_with fail
    have V8 := (V.other (c := w.heap.size) (k := 6) (by omega) (.slice (some ⟨g, 0, none⟩) n cc')).put {h with R := R', rc := rc', E := E', ec := ec', C := some ⟨g, 0, none⟩, cl := n, cc := cc'}
    have hB2 := putF_below (B.setCell (p := ⟨w.heap.size, 6, none⟩) (Nat.le_refl _) (.slice (some ⟨g, 0, none⟩) n cc')) (show w.heap.size ≤ w.heap.size + 1 + 1 by omega) {h with R := R', rc := rc', E := E', ec := ec', C := some ⟨g, 0, none⟩, cl := n, cc := cc'}
    have pO : ∀ {ET : TypeId} {v : Value} {n9 : Nat} {xs : List Value}, w5.ownsRow w2.heap.size ET 3 v n9 xs → (putF (w5.setCell ⟨w.heap.size, 6, none⟩ (.slice (some ⟨g, 0, none⟩) n cc')) (w.heap.size + 1 + 1) {h with R := R', rc := rc', E := E', ec := ec', C := some ⟨g, 0, none⟩, cl := n, cc := cc'}).ownsRow w2.heap.size ET 3 v n9 xs := fun {ET v n9 xs} ho =>
      own_putF (own_setS ho (own_far ho (by omega)) 6 _) (own_far ho (by omega)) {h with R := R', rc := rc', E := E', ec := ec', C := some ⟨g, 0, none⟩, cl := n, cc := cc'}
    have hOR8 := pO hOR; have hOE8 := pO hOE; have hOC8 := pO ho5
    clear hOR hOE ho5 pO
    show bodyPost _ _ _ _ _ (putF (w5.setCell ⟨w.heap.size, 6, none⟩ (.slice (some ⟨g, 0, none⟩) n cc')) (w.heap.size + 1 + 1) {h with R := R', rc := rc', E := E', ec := ec', C := some ⟨g, 0, none⟩, cl := n, cc := cc'})
    obtain ⟨wz, hz⟩ : ∃ wz, putF (w5.setCell ⟨w.heap.size, 6, none⟩ (.slice (some ⟨g, 0, none⟩) n cc')) (w.heap.size + 1 + 1) {h with R := R', rc := rc', E := E', ec := ec', C := some ⟨g, 0, none⟩, cl := n, cc := cc'} = wz := ⟨_, rfl⟩
    rw [hz] at V8 hB2 hOR8 hOE8 hOC8 ⊢
    obtain ⟨-, p0, p1, p2, p3, p4, p5, p6⟩ := V8.a
    dsimp only at p0 p1 p2 p3 p4 p5 p6
    obtain ⟨-, _, _, e1, s1, n1⟩ := own_T hOR8
    cases e1
    obtain ⟨-, _, _, e2, s2, n2⟩ := own_T hOE8
    cases e2
    obtain ⟨hl6, _, _, e3, s3, n3⟩ := own_T hOC8
    cases e3
    obtain ⟨_, _, hn6, _⟩ := own_row hOC8
    refine bodyPost_ret (v := .tuple #[.agg #[.int .i64 h.n, .slice R' h.rl rc', .slice E' h.el ec', .int .i64 h.ja, .int .i64 h.jt, .int .i64 h.jf, .slice (some ⟨g, 0, none⟩) n cc'], .int .i64 0]) (by simp [results, Try.results21, p0, p1, p2, p3, p4, p5, p6, go_sem]) rfl ⟨hB2, {h with R := R', rc := rc', E := E', ec := ec', C := some ⟨g, 0, none⟩, cl := n, cc := cc'}, rfl, ⟨⟨HSS.out.n, HSS.out.ja, HSS.out.jt, HSS.out.jf, HSS.out.rl, HSS.out.el, hl6, s1, s2, s3⟩, hn6, ⟨n1, n2, n3⟩⟩, fun n0 _ => ⟨own_sep hOR8 (by omega), own_sep hOE8 (by omega), own_sep hOC8 (by omega)⟩⟩
end Go.Proofs.Ytakbpgljbbkmkaa

/- Times, the good case, with where the answer's slices lie. -/
namespace Go.Proofs.Ytakbpgljbbkmkaa
open Go.RowKit

set_option maxRecDepth 100000 in
set_option maxHeartbeats 6400000 in
theorem wTimes_okF (h : FH) (f : Fo.Fm) (k : Nat) (t : Int) (V0 : Fo.Val f) (hk : k < h.rl) (ht : 1 ≤ t ∧ t ≤ 9) (hsz : (Fo.whl (Fo.setC f k t)).length ≤ 20000) (hN : Nils h) (hwf : ∀ c ∈ f.cs, Fo.wf3 c) (w : World) (hS : SlF w h f) :
    Calls Try.prog 23 #[.agg #[.int .i64 h.n, .slice h.R h.rl h.rc, .slice h.E h.el h.ec, .int .i64 h.ja, .int .i64 h.jt, .int .i64 h.jf, .slice h.C h.cl h.cc], .int .i64 (k : Int), .int .i64 t] w fun y w' => Below w.heap.size w w' ∧ ∃ h' : FH, y = .returned (.tuple #[.agg #[.int .i64 h'.n, .slice h'.R h'.rl h'.rc, .slice h'.E h'.el h'.ec, .int .i64 h'.ja, .int .i64 h'.jt, .int .i64 h'.jf, .slice h'.C h'.cl h'.cc], .int .i64 0]) ∧ (FormW (Fo.setC f k t) h' w' ∧ ∀ n0, LowF n0 h f → SepF n0 w.heap.size h' (Fo.setC f k t)) := by
    have HV := Lib.hid V0; have HWF := Lib.hid hwf; have HSS := Lib.hid hS
    have HK := Lib.hid ht; have HSZ := Lib.hid hsz; have HNN := Lib.hid hN
    have hrl : h.rl ≤ 100 := by have := V0.rl; have := hS.rl; omega
    have HEL := Lib.hid (show h.el ≤ 100 by have := V0.el; have := hS.el; omega)
    have HCL := Lib.hid (show h.cl ≤ 100 by have := V0.cl; have := hS.cl; omega)
    have HRL := Lib.hid hrl
    have HKL : Hid (k < f.rs.length) := Lib.hid (by rw [hS.rl]; exact hk)
    clear hS V0 hwf ht hsz hN
    go_enter Try.func23, Try.ntmps23
    go_wp2_with fail
    have Q := (FV.new w h).alloc (.cells #[.int .i64 0, .slice none 0 0, .slice none 0 0, .int .i64 0, .int .i64 0, .int .i64 0, .slice none 0 0] 28)
    have V := FV.zero (w.alloc (.cells #[.int .i64 h.n, .slice h.R h.rl h.rc, .slice h.E h.el h.ec, .int .i64 h.ja, .int .i64 h.jt, .int .i64 h.jf, .slice h.C h.cl h.cc] 28))
    have B := ((Below.refl w.heap.size w).alloc (Nat.le_refl _) (.cells #[.int .i64 h.n, .slice h.R h.rl h.rc, .slice h.E h.el h.ec, .int .i64 h.ja, .int .i64 h.jt, .int .i64 h.jf, .slice h.C h.cl h.cc] 28)).alloc (by simp) (.cells #[.int .i64 0, .slice none 0 0, .slice none 0 0, .int .i64 0, .int .i64 0, .int .i64 0, .slice none 0 0] 28)
    rw [World.size_alloc] at V
    refine (wValid_is h f true ⟨fun _ => HV.out, fun _ => rfl⟩ HWF.out _ ((HSS.out.alloc _).alloc _)).mono ?_; rintro e w1 ⟨rfl, hb⟩
    replace V := V.below hb; replace Q := Q.below hb; replace B := B.trans (hb.mono B.size)
    clear hb
    have Qq := Q.at_; have q0 := Qq.c0; have q1 := Qq.c1; have q2 := Qq.c2; have q3 := Qq.c3; have q4 := Qq.c4; have q5 := Qq.c5; have q6 := Qq.c6; have ql := Qq.lt; have k6 := Q.f 6
    have Vv := V.at_; have v0 := Vv.c0; have v1 := Vv.c1; have v2 := Vv.c2; have v3 := Vv.c3; have v4 := Vv.c4; have v5 := Vv.c5; have v6 := Vv.c6; have vl := Vv.lt; have g0 := V.f 0; have g1 := V.f 1; have g2 := V.f 2; have g3 := V.f 3; have g4 := V.f 4; have g5 := V.f 5; have g6 := V.f 6
    clear Qq Vv
    go_wp2_with fail
    clear q0 q1 q2 q3 q4 q5 q6 ql k6 v0 v1 v2 v3 v4 v5 v6 vl g0 g1 g2 g3 g4 g5 g6
    refine (lbetween_is (k : Int) 0 ((h.rl : Int) - 1) true ⟨fun _ => (by omega), fun _ => rfl⟩ _).mono ?_; rintro e w2 ⟨rfl, rfl⟩
    have Qq := Q.at_; have q0 := Qq.c0; have q1 := Qq.c1; have q2 := Qq.c2; have q3 := Qq.c3; have q4 := Qq.c4; have q5 := Qq.c5; have q6 := Qq.c6; have ql := Qq.lt; have k6 := Q.f 6
    have Vv := V.at_; have v0 := Vv.c0; have v1 := Vv.c1; have v2 := Vv.c2; have v3 := Vv.c3; have v4 := Vv.c4; have v5 := Vv.c5; have v6 := Vv.c6; have vl := Vv.lt; have g0 := V.f 0; have g1 := V.f 1; have g2 := V.f 2; have g3 := V.f 3; have g4 := V.f 4; have g5 := V.f 5; have g6 := V.f 6
    clear Qq Vv
    go_wp2_with fail
    clear q0 q1 q2 q3 q4 q5 q6 ql k6 v0 v1 v2 v3 v4 v5 v6 vl g0 g1 g2 g3 g4 g5 g6
    refine (lbetween_is t 1 9 true ⟨fun _ => HK.out, fun _ => rfl⟩ _).mono ?_; rintro e w3 ⟨rfl, rfl⟩
    have Qq := Q.at_; have q0 := Qq.c0; have q1 := Qq.c1; have q2 := Qq.c2; have q3 := Qq.c3; have q4 := Qq.c4; have q5 := Qq.c5; have q6 := Qq.c6; have ql := Qq.lt; have k6 := Q.f 6
    have Vv := V.at_; have v0 := Vv.c0; have v1 := Vv.c1; have v2 := Vv.c2; have v3 := Vv.c3; have v4 := Vv.c4; have v5 := Vv.c5; have v6 := Vv.c6; have vl := Vv.lt; have g0 := V.f 0; have g1 := V.f 1; have g2 := V.f 2; have g3 := V.f 3; have g4 := V.f 4; have g5 := V.f 5; have g6 := V.f 6
    clear Qq Vv
    go_wp2_with fail
    clear q0 q1 q2 q3 q4 q5 q6 ql k6 v0 v1 v2 v3 v4 v5 v6 vl g0 g1 g2 g3 g4 g5 g6
    refine (wclone_is h f HRL.out HEL.out HCL.out HNN.out _ (HSS.out.below B)).mono ?_; rintro e w4 ⟨hb, R', E', C', rc', ec', cc', rfl, OF⟩
    have hl3 := V.at_.lt
    have hb4 := hb.size
    replace V := (V.below hb).fw; replace Q := (Q.below hb).fw; replace B := B.trans (hb.mono B.size)
    clear hb
    obtain ⟨-, OR, OE, OC⟩ := OF
    dsimp only at OR OE OC
    obtain ⟨g, rfl, hg0, hg1⟩ := own_openT OR (by omega)
    have hgn : ¬ g = w.heap.size := by omega
    have hgn2 : ¬ w.heap.size = g := by omega
    have hgm : ¬ g = w.heap.size + 1 := by omega
    have hki : (k : Int) < (h.rl : Int) := by omega
    have C2 : w4.cell? ⟨g, k * 3 + 2, none⟩ = some (.int .i64 (Fo.at3 f.rs k).c) := by
      obtain ⟨-, _, _, e1, s1, -⟩ := own_T OR
      cases e1
      obtain ⟨b9, o9, e9, _, hc9⟩ := s1 (by have := HKL.out; omega)
      cases e9
      have := (hc9 k HKL.out).c2
      rwa [Nat.zero_add] at this
    have CF : w4.frozen? ⟨g, k * 3 + 2, none⟩ = false := own_frz OR _
    have OR7 := own_putT (t := t) (own_putF OR (own_far OR (show w.heap.size < w3.heap.size by omega)) {h with R := some ⟨g, 0, none⟩, rc := rc', E := E', ec := ec', C := C', cc := cc'}) HKL.out
    have OE7 := own_setS (own_putF OE (own_far OE (show w.heap.size < w3.heap.size by omega)) {h with R := some ⟨g, 0, none⟩, rc := rc', E := E', ec := ec', C := C', cc := cc'}) (b := g) (by rcases own_apart OE OR (by decide) with e9 | e9 <;> (intro e8; rw [e8] at e9; first | (cases e9; done) | exact e9 rfl)) (k * 3 + 2) (.int .i64 t)
    have OC7 := own_setS (own_putF OC (own_far OC (show w.heap.size < w3.heap.size by omega)) {h with R := some ⟨g, 0, none⟩, rc := rc', E := E', ec := ec', C := C', cc := cc'}) (b := g) (by rcases own_apart OC OR (by decide) with e9 | e9 <;> (intro e8; rw [e8] at e9; first | (cases e9; done) | exact e9 rfl)) (k * 3 + 2) (.int .i64 t)
    have Q7 := (Q.put {h with R := some ⟨g, 0, none⟩, rc := rc', E := E', ec := ec', C := C', cc := cc'}).other (c := g) (k := k * 3 + 2) (by omega) (.int .i64 t)
    have V7 := (V.putO (c := w.heap.size) (by omega) {h with R := some ⟨g, 0, none⟩, rc := rc', E := E', ec := ec', C := C', cc := cc'}).other (c := g) (k := k * 3 + 2) (by omega) (.int .i64 t)
    have B7 := (putF_below B (Nat.le_refl w.heap.size) {h with R := some ⟨g, 0, none⟩, rc := rc', E := E', ec := ec', C := C', cc := cc'}).setCell (p := ⟨g, k * 3 + 2, none⟩) (show w.heap.size ≤ g by omega) (.int .i64 t)
    clear OR OE OC B
    have q0 := Q.a.c0; have q1 := Q.a.c1; have q2 := Q.a.c2; have q3 := Q.a.c3; have q4 := Q.a.c4; have q5 := Q.a.c5; have q6 := Q.a.c6; have ql := Q.a.lt; have k0 := Q.f 0; have k1 := Q.f 1; have k2 := Q.f 2; have k3 := Q.f 3; have k4 := Q.f 4; have k5 := Q.f 5; have k6 := Q.f 6; (try dsimp only at q0 q1 q2 q3 q4 q5 q6)
    have v0 := V.a.c0; have v1 := V.a.c1; have v2 := V.a.c2; have v3 := V.a.c3; have v4 := V.a.c4; have v5 := V.a.c5; have v6 := V.a.c6; have vl := V.a.lt; have g0 := V.f 0; have g1 := V.f 1; have g2 := V.f 2; have g3 := V.f 3; have g4 := V.f 4; have g5 := V.f 5; have g6 := V.f 6; (try dsimp only at v0 v1 v2 v3 v4 v5 v6)
    go_wp2_with fail
    clear q0 q1 q2 q3 q4 q5 q6 ql k0 k1 k2 k3 k4 k5 k6 v0 v1 v2 v3 v4 v5 v6 vl g0 g1 g2 g3 g4 g5 g6 C2 CF Q V
    obtain ⟨X, hX⟩ : ∃ X, (putF w4 w.heap.size {h with R := some ⟨g, 0, none⟩, rc := rc', E := E', ec := ec', C := C', cc := cc'}).setCell ⟨g, k * 3 + 2, none⟩ (.int .i64 t) = X := ⟨_, rfl⟩
    rw [hX] at OR7 OE7 OC7 Q7 V7 B7
    dsimp only [putF] at hX
    rw [hX]
    clear hX
    obtain ⟨-, _, _, e1, s1, n1⟩ := own_T OR7
    cases e1
    obtain ⟨-, _, _, e2, s2, n2⟩ := own_T OE7
    cases e2
    obtain ⟨-, _, _, e3, s3, n3⟩ := own_T OC7
    cases e3
    have hcap : h.cl ≤ cc' := by
      rcases OC7.2 with ⟨e8, _⟩ | ⟨_, _, _, e8, _, _, h9, _⟩
      · injection e8 with _ _ e8; omega
      · injection e8 with _ _ e8; omega
    have HSX : Hid (SlF X {h with R := some ⟨g, 0, none⟩, rc := rc', E := E', ec := ec', C := C', cc := cc'} (Fo.setC f k t)) := Lib.hid ⟨HSS.out.n, HSS.out.ja, HSS.out.jt, HSS.out.jf, (by show (Fo.setL f.rs k t).length = h.rl; rw [Fo.setL_len]; exact HSS.out.rl), HSS.out.el, HSS.out.cl, s1, s2, s3⟩
    refine (wsize_is {h with R := some ⟨g, 0, none⟩, rc := rc', E := E', ec := ec', C := C', cc := cc'} (Fo.setC f k t) (HV.out.ok.setC HK.out) _ HSX.out).mono ?_; rintro e w5 ⟨rfl, hb⟩
    have hsz := HSZ.out
    obtain ⟨z, hz⟩ : ∃ z, (Fo.whl (Fo.setC f k t)).length = z := ⟨_, rfl⟩
    rw [hz] at hsz ⊢
    have HZ := Lib.hid hz
    clear hz s1 s2 s3
    have hle : w.heap.size ≤ X.heap.size := B7.size
    have HS5 := Lib.hid (HSX.out.below hb)
    have OR8 := OR7.kept (below_grown hb none) none_ne; have OE8 := OE7.kept (below_grown hb none) none_ne; have OC8 := OC7.kept (below_grown hb none) none_ne
    have Q := Q7.below hb; have V := V7.below hb; have B := B7.trans (hb.mono B7.size)
    clear OR7 OE7 OC7
    clear hb Q7 V7 B7
    have q0 := Q.a.c0; have q1 := Q.a.c1; have q2 := Q.a.c2; have q3 := Q.a.c3; have q4 := Q.a.c4; have q5 := Q.a.c5; have q6 := Q.a.c6; have ql := Q.a.lt; have k0 := Q.f 0; have k1 := Q.f 1; have k2 := Q.f 2; have k3 := Q.f 3; have k4 := Q.f 4; have k5 := Q.f 5; have k6 := Q.f 6; (try dsimp only at q0 q1 q2 q3 q4 q5 q6)
    have v0 := V.a.c0; have v1 := V.a.c1; have v2 := V.a.c2; have v3 := V.a.c3; have v4 := V.a.c4; have v5 := V.a.c5; have v6 := V.a.c6; have vl := V.a.lt; have g0 := V.f 0; have g1 := V.f 1; have g2 := V.f 2; have g3 := V.f 3; have g4 := V.f 4; have g5 := V.f 5; have g6 := V.f 6; (try dsimp only at v0 v1 v2 v3 v4 v5 v6)
    have hsz2 : ¬ (20000 : Int) < (z : Int) := by omega
    go_wp2_with fail
    have hB2 := putF_below B (show w.heap.size ≤ w.heap.size + 1 by omega) {h with R := some ⟨g, 0, none⟩, rc := rc', E := E', ec := ec', C := C', cc := cc'}
    have P := V.put {h with R := some ⟨g, 0, none⟩, rc := rc', E := E', ec := ec', C := C', cc := cc'}
    have OR9 := own_putF OR8 (own_far OR8 (show w.heap.size + 1 < w3.heap.size by omega)) {h with R := some ⟨g, 0, none⟩, rc := rc', E := E', ec := ec', C := C', cc := cc'}
    have OE9 := own_putF OE8 (own_far OE8 (show w.heap.size + 1 < w3.heap.size by omega)) {h with R := some ⟨g, 0, none⟩, rc := rc', E := E', ec := ec', C := C', cc := cc'}
    have OC9 := own_putF OC8 (own_far OC8 (show w.heap.size + 1 < w3.heap.size by omega)) {h with R := some ⟨g, 0, none⟩, rc := rc', E := E', ec := ec', C := C', cc := cc'}
    obtain ⟨-, _, _, e1, s1, -⟩ := own_T OR9
    cases e1
    obtain ⟨-, _, _, e2, s2, -⟩ := own_T OE9
    cases e2
    obtain ⟨-, _, _, e3, s3, -⟩ := own_T OC9
    cases e3
    have HS6 : Hid (SlF (putF w5 (w.heap.size + 1) {h with R := some ⟨g, 0, none⟩, rc := rc', E := E', ec := ec', C := C', cc := cc'}) {h with R := some ⟨g, 0, none⟩, rc := rc', E := E', ec := ec', C := C', cc := cc'} (Fo.setC f k t)) := Lib.hid ⟨HSS.out.n, HSS.out.ja, HSS.out.jt, HSS.out.jf, (by show (Fo.setL f.rs k t).length = h.rl; rw [Fo.setL_len]; exact HSS.out.rl), HSS.out.el, HSS.out.cl, s1, s2, s3⟩
    have HSE : Hid (∀ n0, LowF n0 h f → SepF n0 w.heap.size {h with R := some ⟨g, 0, none⟩, rc := rc', E := E', ec := ec', C := C', cc := cc'} (Fo.setC f k t)) := Lib.hid (fun n0 _ => ⟨own_sep OR9 (by omega), own_sep OE9 (by omega), own_sep OC9 (by omega)⟩)
    clear OR8 OE8 OC8 OR9 OE9 OC9
    show bodyPost _ _ _ _ _ (putF w5 (w.heap.size + 1) {h with R := some ⟨g, 0, none⟩, rc := rc', E := E', ec := ec', C := C', cc := cc'})
    obtain ⟨wz, hz⟩ : ∃ wz, putF w5 (w.heap.size + 1) {h with R := some ⟨g, 0, none⟩, rc := rc', E := E', ec := ec', C := C', cc := cc'} = wz := ⟨_, rfl⟩
    rw [hz] at P hB2 HS6 ⊢
    obtain ⟨-, p0, p1, p2, p3, p4, p5, p6⟩ := P.a
    dsimp only at p0 p1 p2 p3 p4 p5 p6
    refine bodyPost_ret (v := .tuple #[.agg #[.int .i64 h.n, .slice (some ⟨g, 0, none⟩) h.rl rc', .slice E' h.el ec', .int .i64 h.ja, .int .i64 h.jt, .int .i64 h.jf, .slice C' h.cl cc'], .int .i64 0]) (by simp [results, Try.results23, p0, p1, p2, p3, p4, p5, p6, go_sem]) rfl ⟨hB2, {h with R := some ⟨g, 0, none⟩, rc := rc', E := E', ec := ec', C := C', cc := cc'}, rfl, ⟨HS6.out, hcap, ⟨n1, n2, n3⟩⟩, HSE.out⟩
end Go.Proofs.Ytakbpgljbbkmkaa
