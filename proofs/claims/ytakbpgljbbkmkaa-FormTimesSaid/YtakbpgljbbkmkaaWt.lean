/- The walk of Times: the case of too many visits, and the good case. -/
import Derived.Test.YtakbpgljbbkmkaaWs
namespace Go.Proofs.Ytakbpgljbbkmkaa
open Go.RowKit

set_option maxRecDepth 100000 in
set_option maxHeartbeats 6400000 in
theorem wTimes_two (h : FH) (f : Fo.Fm) (k : Nat) (t : Int) (V0 : Fo.Val f) (hk : k < h.rl) (ht : 1 ≤ t ∧ t ≤ 9) (hsz : 20000 < (Fo.whl (Fo.setC f k t)).length) (hN : Nils h) (hwf : ∀ c ∈ f.cs, Fo.wf3 c) (w : World) (hS : SlF w h f) :
    Calls Try.prog 23 #[.agg #[.int .i64 h.n, .slice h.R h.rl h.rc, .slice h.E h.el h.ec, .int .i64 h.ja, .int .i64 h.jt, .int .i64 h.jf, .slice h.C h.cl h.cc], .int .i64 (k : Int), .int .i64 t] w fun y w' => Below w.heap.size w w' ∧ ∃ h' : FH, y = .returned (.tuple #[.agg #[.int .i64 h'.n, .slice h'.R h'.rl h'.rc, .slice h'.E h'.el h'.ec, .int .i64 h'.ja, .int .i64 h'.jt, .int .i64 h'.jf, .slice h'.C h'.cl h'.cc], .int .i64 2]) ∧ FormR f 2 h' w' := by
    have HV := Lib.hid V0; have HWF := Lib.hid hwf; have HSS := Lib.hid hS
    have HK := Lib.hid ht; have HSZ := Lib.hid hsz; have HNN := Lib.hid hN
    have hrl : h.rl ≤ 100 := by have := V0.rl; have := hS.rl; omega
    have HEL := Lib.hid (show h.el ≤ 100 by have := V0.el; have := hS.el; omega)
    have HCL := Lib.hid (show h.cl ≤ 100 by have := V0.cl; have := hS.cl; omega)
    have HRL := Lib.hid hrl
    have HKL : Hid (k < f.rs.length) := Lib.hid (by rw [hS.rl]; exact hk)
    clear hS V0 hwf ht hsz hN
    go_enter Try.func23, Try.ntmps23
    go_wp2_with fail
    have Q := (FV.new w h).alloc (.cells #[.int .i64 0, .slice none 0 0, .slice none 0 0, .int .i64 0, .int .i64 0, .int .i64 0, .slice none 0 0] 28)
    have V := FV.zero (w.alloc (.cells #[.int .i64 h.n, .slice h.R h.rl h.rc, .slice h.E h.el h.ec, .int .i64 h.ja, .int .i64 h.jt, .int .i64 h.jf, .slice h.C h.cl h.cc] 28))
    have B := ((Below.refl w.heap.size w).alloc (Nat.le_refl _) (.cells #[.int .i64 h.n, .slice h.R h.rl h.rc, .slice h.E h.el h.ec, .int .i64 h.ja, .int .i64 h.jt, .int .i64 h.jf, .slice h.C h.cl h.cc] 28)).alloc (by simp) (.cells #[.int .i64 0, .slice none 0 0, .slice none 0 0, .int .i64 0, .int .i64 0, .int .i64 0, .slice none 0 0] 28)
    rw [World.size_alloc] at V
    refine (wValid_is h f true ⟨fun _ => HV.out, fun _ => rfl⟩ HWF.out _ ((HSS.out.alloc _).alloc _)).mono ?_; rintro e w1 ⟨rfl, hb⟩
    replace V := V.below hb; replace Q := Q.below hb; replace B := B.trans (hb.mono B.size)
    clear hb
    have Qq := Q.at_; have q0 := Qq.c0; have q1 := Qq.c1; have q2 := Qq.c2; have q3 := Qq.c3; have q4 := Qq.c4; have q5 := Qq.c5; have q6 := Qq.c6; have ql := Qq.lt; have k6 := Q.f 6
    have Vv := V.at_; have v0 := Vv.c0; have v1 := Vv.c1; have v2 := Vv.c2; have v3 := Vv.c3; have v4 := Vv.c4; have v5 := Vv.c5; have v6 := Vv.c6; have vl := Vv.lt; have g0 := V.f 0; have g1 := V.f 1; have g2 := V.f 2; have g3 := V.f 3; have g4 := V.f 4; have g5 := V.f 5; have g6 := V.f 6
    clear Qq Vv
    go_wp2_with fail
    clear q0 q1 q2 q3 q4 q5 q6 ql k6 v0 v1 v2 v3 v4 v5 v6 vl g0 g1 g2 g3 g4 g5 g6
    refine (lbetween_is (k : Int) 0 ((h.rl : Int) - 1) true ⟨fun _ => (by omega), fun _ => rfl⟩ _).mono ?_; rintro e w2 ⟨rfl, rfl⟩
    have Qq := Q.at_; have q0 := Qq.c0; have q1 := Qq.c1; have q2 := Qq.c2; have q3 := Qq.c3; have q4 := Qq.c4; have q5 := Qq.c5; have q6 := Qq.c6; have ql := Qq.lt; have k6 := Q.f 6
    have Vv := V.at_; have v0 := Vv.c0; have v1 := Vv.c1; have v2 := Vv.c2; have v3 := Vv.c3; have v4 := Vv.c4; have v5 := Vv.c5; have v6 := Vv.c6; have vl := Vv.lt; have g0 := V.f 0; have g1 := V.f 1; have g2 := V.f 2; have g3 := V.f 3; have g4 := V.f 4; have g5 := V.f 5; have g6 := V.f 6
    clear Qq Vv
    go_wp2_with fail
    clear q0 q1 q2 q3 q4 q5 q6 ql k6 v0 v1 v2 v3 v4 v5 v6 vl g0 g1 g2 g3 g4 g5 g6
    refine (lbetween_is t 1 9 true ⟨fun _ => HK.out, fun _ => rfl⟩ _).mono ?_; rintro e w3 ⟨rfl, rfl⟩
    have Qq := Q.at_; have q0 := Qq.c0; have q1 := Qq.c1; have q2 := Qq.c2; have q3 := Qq.c3; have q4 := Qq.c4; have q5 := Qq.c5; have q6 := Qq.c6; have ql := Qq.lt; have k6 := Q.f 6
    have Vv := V.at_; have v0 := Vv.c0; have v1 := Vv.c1; have v2 := Vv.c2; have v3 := Vv.c3; have v4 := Vv.c4; have v5 := Vv.c5; have v6 := Vv.c6; have vl := Vv.lt; have g0 := V.f 0; have g1 := V.f 1; have g2 := V.f 2; have g3 := V.f 3; have g4 := V.f 4; have g5 := V.f 5; have g6 := V.f 6
    clear Qq Vv
    go_wp2_with fail
    clear q0 q1 q2 q3 q4 q5 q6 ql k6 v0 v1 v2 v3 v4 v5 v6 vl g0 g1 g2 g3 g4 g5 g6
    refine (wclone_is h f HRL.out HEL.out HCL.out HNN.out _ (HSS.out.below B)).mono ?_; rintro e w4 ⟨hb, R', E', C', rc', ec', cc', rfl, OF⟩
    have hl3 := V.at_.lt
    have hb4 := hb.size
    replace V := (V.below hb).fw; replace Q := (Q.below hb).fw; replace B := B.trans (hb.mono B.size)
    clear hb
    obtain ⟨-, OR, OE, OC⟩ := OF
    dsimp only at OR OE OC
    obtain ⟨g, rfl, hg0, hg1⟩ := own_openT OR (by omega)
    have hgn : ¬ g = w.heap.size := by omega
    have hgn2 : ¬ w.heap.size = g := by omega
    have hgm : ¬ g = w.heap.size + 1 := by omega
    have hki : (k : Int) < (h.rl : Int) := by omega
    have C2 : w4.cell? ⟨g, k * 3 + 2, none⟩ = some (.int .i64 (Fo.at3 f.rs k).c) := by
      obtain ⟨-, _, _, e1, s1, -⟩ := own_T OR
      cases e1
      obtain ⟨b9, o9, e9, _, hc9⟩ := s1 (by have := HKL.out; omega)
      cases e9
      have := (hc9 k HKL.out).c2
      rwa [Nat.zero_add] at this
    have CF : w4.frozen? ⟨g, k * 3 + 2, none⟩ = false := own_frz OR _
    have OR7 := own_putT (t := t) (own_putF OR (own_far OR (show w.heap.size < w3.heap.size by omega)) {h with R := some ⟨g, 0, none⟩, rc := rc', E := E', ec := ec', C := C', cc := cc'}) HKL.out
    have OE7 := own_setS (own_putF OE (own_far OE (show w.heap.size < w3.heap.size by omega)) {h with R := some ⟨g, 0, none⟩, rc := rc', E := E', ec := ec', C := C', cc := cc'}) (b := g) (by rcases own_apart OE OR (by decide) with e9 | e9 <;> (intro e8; rw [e8] at e9; first | (cases e9; done) | exact e9 rfl)) (k * 3 + 2) (.int .i64 t)
    have OC7 := own_setS (own_putF OC (own_far OC (show w.heap.size < w3.heap.size by omega)) {h with R := some ⟨g, 0, none⟩, rc := rc', E := E', ec := ec', C := C', cc := cc'}) (b := g) (by rcases own_apart OC OR (by decide) with e9 | e9 <;> (intro e8; rw [e8] at e9; first | (cases e9; done) | exact e9 rfl)) (k * 3 + 2) (.int .i64 t)
    have Q7 := (Q.put {h with R := some ⟨g, 0, none⟩, rc := rc', E := E', ec := ec', C := C', cc := cc'}).other (c := g) (k := k * 3 + 2) (by omega) (.int .i64 t)
    have V7 := (V.putO (c := w.heap.size) (by omega) {h with R := some ⟨g, 0, none⟩, rc := rc', E := E', ec := ec', C := C', cc := cc'}).other (c := g) (k := k * 3 + 2) (by omega) (.int .i64 t)
    have B7 := (putF_below B (Nat.le_refl w.heap.size) {h with R := some ⟨g, 0, none⟩, rc := rc', E := E', ec := ec', C := C', cc := cc'}).setCell (p := ⟨g, k * 3 + 2, none⟩) (show w.heap.size ≤ g by omega) (.int .i64 t)
    clear OR OE OC B
    have q0 := Q.a.c0; have q1 := Q.a.c1; have q2 := Q.a.c2; have q3 := Q.a.c3; have q4 := Q.a.c4; have q5 := Q.a.c5; have q6 := Q.a.c6; have ql := Q.a.lt; have k0 := Q.f 0; have k1 := Q.f 1; have k2 := Q.f 2; have k3 := Q.f 3; have k4 := Q.f 4; have k5 := Q.f 5; have k6 := Q.f 6; (try dsimp only at q0 q1 q2 q3 q4 q5 q6)
    have v0 := V.a.c0; have v1 := V.a.c1; have v2 := V.a.c2; have v3 := V.a.c3; have v4 := V.a.c4; have v5 := V.a.c5; have v6 := V.a.c6; have vl := V.a.lt; have g0 := V.f 0; have g1 := V.f 1; have g2 := V.f 2; have g3 := V.f 3; have g4 := V.f 4; have g5 := V.f 5; have g6 := V.f 6; (try dsimp only at v0 v1 v2 v3 v4 v5 v6)
    go_wp2_with fail
    clear q0 q1 q2 q3 q4 q5 q6 ql k0 k1 k2 k3 k4 k5 k6 v0 v1 v2 v3 v4 v5 v6 vl g0 g1 g2 g3 g4 g5 g6 C2 CF Q V
    obtain ⟨X, hX⟩ : ∃ X, (putF w4 w.heap.size {h with R := some ⟨g, 0, none⟩, rc := rc', E := E', ec := ec', C := C', cc := cc'}).setCell ⟨g, k * 3 + 2, none⟩ (.int .i64 t) = X := ⟨_, rfl⟩
    rw [hX] at OR7 OE7 OC7 Q7 V7 B7
    dsimp only [putF] at hX
    rw [hX]
    clear hX
    obtain ⟨-, _, _, e1, s1, n1⟩ := own_T OR7
    cases e1
    obtain ⟨-, _, _, e2, s2, n2⟩ := own_T OE7
    cases e2
    obtain ⟨-, _, _, e3, s3, n3⟩ := own_T OC7
    cases e3
    have hcap : h.cl ≤ cc' := by
      rcases OC7.2 with ⟨e8, _⟩ | ⟨_, _, _, e8, _, _, h9, _⟩
      · injection e8 with _ _ e8; omega
      · injection e8 with _ _ e8; omega
    have HSX : Hid (SlF X {h with R := some ⟨g, 0, none⟩, rc := rc', E := E', ec := ec', C := C', cc := cc'} (Fo.setC f k t)) := Lib.hid ⟨HSS.out.n, HSS.out.ja, HSS.out.jt, HSS.out.jf, (by show (Fo.setL f.rs k t).length = h.rl; rw [Fo.setL_len]; exact HSS.out.rl), HSS.out.el, HSS.out.cl, s1, s2, s3⟩
    refine (wsize_is {h with R := some ⟨g, 0, none⟩, rc := rc', E := E', ec := ec', C := C', cc := cc'} (Fo.setC f k t) (HV.out.ok.setC HK.out) _ HSX.out).mono ?_; rintro e w5 ⟨rfl, hb⟩
    have hsz := HSZ.out
    obtain ⟨z, hz⟩ : ∃ z, (Fo.whl (Fo.setC f k t)).length = z := ⟨_, rfl⟩
    rw [hz] at hsz ⊢
    have HZ := Lib.hid hz
    clear hz s1 s2 s3
    have hle : w.heap.size ≤ X.heap.size := B7.size
    have HS5 := Lib.hid (HSX.out.below hb)
    have OR8 := OR7.kept (below_grown hb none) none_ne; have OE8 := OE7.kept (below_grown hb none) none_ne; have OC8 := OC7.kept (below_grown hb none) none_ne
    have Q := Q7.below hb; have V := V7.below hb; have B := B7.trans (hb.mono B7.size)
    clear OR7 OE7 OC7
    clear hb Q7 V7 B7
    have q0 := Q.a.c0; have q1 := Q.a.c1; have q2 := Q.a.c2; have q3 := Q.a.c3; have q4 := Q.a.c4; have q5 := Q.a.c5; have q6 := Q.a.c6; have ql := Q.a.lt; have k0 := Q.f 0; have k1 := Q.f 1; have k2 := Q.f 2; have k3 := Q.f 3; have k4 := Q.f 4; have k5 := Q.f 5; have k6 := Q.f 6; (try dsimp only at q0 q1 q2 q3 q4 q5 q6)
    have v0 := V.a.c0; have v1 := V.a.c1; have v2 := V.a.c2; have v3 := V.a.c3; have v4 := V.a.c4; have v5 := V.a.c5; have v6 := V.a.c6; have vl := V.a.lt; have g0 := V.f 0; have g1 := V.f 1; have g2 := V.f 2; have g3 := V.f 3; have g4 := V.f 4; have g5 := V.f 5; have g6 := V.f 6; (try dsimp only at v0 v1 v2 v3 v4 v5 v6)
    clear OR8 OE8 OC8
    have hsz2 : (20000 : Int) < (z : Int) := by omega
    go_wp2_with fail
    have hB2 := putF_below B (show w.heap.size ≤ w.heap.size + 1 by omega) .zero
    have P := V.put .zero
    show bodyPost _ _ _ _ _ (putF w5 (w.heap.size + 1) .zero)
    obtain ⟨wz, hz⟩ : ∃ wz, putF w5 (w.heap.size + 1) .zero = wz := ⟨_, rfl⟩
    rw [hz] at P hB2 ⊢
    obtain ⟨-, p0, p1, p2, p3, p4, p5, p6⟩ := P.a
    dsimp only [FH.zero] at p0 p1 p2 p3 p4 p5 p6
    refine bodyPost_ret (v := .tuple #[.agg #[.int .i64 0, .slice none 0 0, .slice none 0 0, .int .i64 0, .int .i64 0, .int .i64 0, .slice none 0 0], .int .i64 2]) (by simp [results, Try.results23, p0, p1, p2, p3, p4, p5, p6, go_sem]) rfl ⟨hB2, .zero, rfl, fun h => (by cases h), fun _ => rfl⟩
set_option maxRecDepth 100000 in
set_option maxHeartbeats 6400000 in
theorem wTimes_ok (h : FH) (f : Fo.Fm) (k : Nat) (t : Int) (V0 : Fo.Val f) (hk : k < h.rl) (ht : 1 ≤ t ∧ t ≤ 9) (hsz : (Fo.whl (Fo.setC f k t)).length ≤ 20000) (hN : Nils h) (hwf : ∀ c ∈ f.cs, Fo.wf3 c) (w : World) (hS : SlF w h f) :
    Calls Try.prog 23 #[.agg #[.int .i64 h.n, .slice h.R h.rl h.rc, .slice h.E h.el h.ec, .int .i64 h.ja, .int .i64 h.jt, .int .i64 h.jf, .slice h.C h.cl h.cc], .int .i64 (k : Int), .int .i64 t] w fun y w' => Below w.heap.size w w' ∧ ∃ h' : FH, y = .returned (.tuple #[.agg #[.int .i64 h'.n, .slice h'.R h'.rl h'.rc, .slice h'.E h'.el h'.ec, .int .i64 h'.ja, .int .i64 h'.jt, .int .i64 h'.jf, .slice h'.C h'.cl h'.cc], .int .i64 0]) ∧ FormW (Fo.setC f k t) h' w' := by
    have HV := Lib.hid V0; have HWF := Lib.hid hwf; have HSS := Lib.hid hS
    have HK := Lib.hid ht; have HSZ := Lib.hid hsz; have HNN := Lib.hid hN
    have hrl : h.rl ≤ 100 := by have := V0.rl; have := hS.rl; omega
    have HEL := Lib.hid (show h.el ≤ 100 by have := V0.el; have := hS.el; omega)
    have HCL := Lib.hid (show h.cl ≤ 100 by have := V0.cl; have := hS.cl; omega)
    have HRL := Lib.hid hrl
    have HKL : Hid (k < f.rs.length) := Lib.hid (by rw [hS.rl]; exact hk)
    clear hS V0 hwf ht hsz hN
    go_enter Try.func23, Try.ntmps23
    go_wp2_with fail
    have Q := (FV.new w h).alloc (.cells #[.int .i64 0, .slice none 0 0, .slice none 0 0, .int .i64 0, .int .i64 0, .int .i64 0, .slice none 0 0] 28)
    have V := FV.zero (w.alloc (.cells #[.int .i64 h.n, .slice h.R h.rl h.rc, .slice h.E h.el h.ec, .int .i64 h.ja, .int .i64 h.jt, .int .i64 h.jf, .slice h.C h.cl h.cc] 28))
    have B := ((Below.refl w.heap.size w).alloc (Nat.le_refl _) (.cells #[.int .i64 h.n, .slice h.R h.rl h.rc, .slice h.E h.el h.ec, .int .i64 h.ja, .int .i64 h.jt, .int .i64 h.jf, .slice h.C h.cl h.cc] 28)).alloc (by simp) (.cells #[.int .i64 0, .slice none 0 0, .slice none 0 0, .int .i64 0, .int .i64 0, .int .i64 0, .slice none 0 0] 28)
    rw [World.size_alloc] at V
    refine (wValid_is h f true ⟨fun _ => HV.out, fun _ => rfl⟩ HWF.out _ ((HSS.out.alloc _).alloc _)).mono ?_; rintro e w1 ⟨rfl, hb⟩
    replace V := V.below hb; replace Q := Q.below hb; replace B := B.trans (hb.mono B.size)
    clear hb
    have Qq := Q.at_; have q0 := Qq.c0; have q1 := Qq.c1; have q2 := Qq.c2; have q3 := Qq.c3; have q4 := Qq.c4; have q5 := Qq.c5; have q6 := Qq.c6; have ql := Qq.lt; have k6 := Q.f 6
    have Vv := V.at_; have v0 := Vv.c0; have v1 := Vv.c1; have v2 := Vv.c2; have v3 := Vv.c3; have v4 := Vv.c4; have v5 := Vv.c5; have v6 := Vv.c6; have vl := Vv.lt; have g0 := V.f 0; have g1 := V.f 1; have g2 := V.f 2; have g3 := V.f 3; have g4 := V.f 4; have g5 := V.f 5; have g6 := V.f 6
    clear Qq Vv
    go_wp2_with fail
    clear q0 q1 q2 q3 q4 q5 q6 ql k6 v0 v1 v2 v3 v4 v5 v6 vl g0 g1 g2 g3 g4 g5 g6
    refine (lbetween_is (k : Int) 0 ((h.rl : Int) - 1) true ⟨fun _ => (by omega), fun _ => rfl⟩ _).mono ?_; rintro e w2 ⟨rfl, rfl⟩
    have Qq := Q.at_; have q0 := Qq.c0; have q1 := Qq.c1; have q2 := Qq.c2; have q3 := Qq.c3; have q4 := Qq.c4; have q5 := Qq.c5; have q6 := Qq.c6; have ql := Qq.lt; have k6 := Q.f 6
    have Vv := V.at_; have v0 := Vv.c0; have v1 := Vv.c1; have v2 := Vv.c2; have v3 := Vv.c3; have v4 := Vv.c4; have v5 := Vv.c5; have v6 := Vv.c6; have vl := Vv.lt; have g0 := V.f 0; have g1 := V.f 1; have g2 := V.f 2; have g3 := V.f 3; have g4 := V.f 4; have g5 := V.f 5; have g6 := V.f 6
    clear Qq Vv
    go_wp2_with fail
    clear q0 q1 q2 q3 q4 q5 q6 ql k6 v0 v1 v2 v3 v4 v5 v6 vl g0 g1 g2 g3 g4 g5 g6
    refine (lbetween_is t 1 9 true ⟨fun _ => HK.out, fun _ => rfl⟩ _).mono ?_; rintro e w3 ⟨rfl, rfl⟩
    have Qq := Q.at_; have q0 := Qq.c0; have q1 := Qq.c1; have q2 := Qq.c2; have q3 := Qq.c3; have q4 := Qq.c4; have q5 := Qq.c5; have q6 := Qq.c6; have ql := Qq.lt; have k6 := Q.f 6
    have Vv := V.at_; have v0 := Vv.c0; have v1 := Vv.c1; have v2 := Vv.c2; have v3 := Vv.c3; have v4 := Vv.c4; have v5 := Vv.c5; have v6 := Vv.c6; have vl := Vv.lt; have g0 := V.f 0; have g1 := V.f 1; have g2 := V.f 2; have g3 := V.f 3; have g4 := V.f 4; have g5 := V.f 5; have g6 := V.f 6
    clear Qq Vv
    go_wp2_with fail
    clear q0 q1 q2 q3 q4 q5 q6 ql k6 v0 v1 v2 v3 v4 v5 v6 vl g0 g1 g2 g3 g4 g5 g6
    refine (wclone_is h f HRL.out HEL.out HCL.out HNN.out _ (HSS.out.below B)).mono ?_; rintro e w4 ⟨hb, R', E', C', rc', ec', cc', rfl, OF⟩
    have hl3 := V.at_.lt
    have hb4 := hb.size
    replace V := (V.below hb).fw; replace Q := (Q.below hb).fw; replace B := B.trans (hb.mono B.size)
    clear hb
    obtain ⟨-, OR, OE, OC⟩ := OF
    dsimp only at OR OE OC
    obtain ⟨g, rfl, hg0, hg1⟩ := own_openT OR (by omega)
    have hgn : ¬ g = w.heap.size := by omega
    have hgn2 : ¬ w.heap.size = g := by omega
    have hgm : ¬ g = w.heap.size + 1 := by omega
    have hki : (k : Int) < (h.rl : Int) := by omega
    have C2 : w4.cell? ⟨g, k * 3 + 2, none⟩ = some (.int .i64 (Fo.at3 f.rs k).c) := by
      obtain ⟨-, _, _, e1, s1, -⟩ := own_T OR
      cases e1
      obtain ⟨b9, o9, e9, _, hc9⟩ := s1 (by have := HKL.out; omega)
      cases e9
      have := (hc9 k HKL.out).c2
      rwa [Nat.zero_add] at this
    have CF : w4.frozen? ⟨g, k * 3 + 2, none⟩ = false := own_frz OR _
    have OR7 := own_putT (t := t) (own_putF OR (own_far OR (show w.heap.size < w3.heap.size by omega)) {h with R := some ⟨g, 0, none⟩, rc := rc', E := E', ec := ec', C := C', cc := cc'}) HKL.out
    have OE7 := own_setS (own_putF OE (own_far OE (show w.heap.size < w3.heap.size by omega)) {h with R := some ⟨g, 0, none⟩, rc := rc', E := E', ec := ec', C := C', cc := cc'}) (b := g) (by rcases own_apart OE OR (by decide) with e9 | e9 <;> (intro e8; rw [e8] at e9; first | (cases e9; done) | exact e9 rfl)) (k * 3 + 2) (.int .i64 t)
    have OC7 := own_setS (own_putF OC (own_far OC (show w.heap.size < w3.heap.size by omega)) {h with R := some ⟨g, 0, none⟩, rc := rc', E := E', ec := ec', C := C', cc := cc'}) (b := g) (by rcases own_apart OC OR (by decide) with e9 | e9 <;> (intro e8; rw [e8] at e9; first | (cases e9; done) | exact e9 rfl)) (k * 3 + 2) (.int .i64 t)
    have Q7 := (Q.put {h with R := some ⟨g, 0, none⟩, rc := rc', E := E', ec := ec', C := C', cc := cc'}).other (c := g) (k := k * 3 + 2) (by omega) (.int .i64 t)
    have V7 := (V.putO (c := w.heap.size) (by omega) {h with R := some ⟨g, 0, none⟩, rc := rc', E := E', ec := ec', C := C', cc := cc'}).other (c := g) (k := k * 3 + 2) (by omega) (.int .i64 t)
    have B7 := (putF_below B (Nat.le_refl w.heap.size) {h with R := some ⟨g, 0, none⟩, rc := rc', E := E', ec := ec', C := C', cc := cc'}).setCell (p := ⟨g, k * 3 + 2, none⟩) (show w.heap.size ≤ g by omega) (.int .i64 t)
    clear OR OE OC B
    have q0 := Q.a.c0; have q1 := Q.a.c1; have q2 := Q.a.c2; have q3 := Q.a.c3; have q4 := Q.a.c4; have q5 := Q.a.c5; have q6 := Q.a.c6; have ql := Q.a.lt; have k0 := Q.f 0; have k1 := Q.f 1; have k2 := Q.f 2; have k3 := Q.f 3; have k4 := Q.f 4; have k5 := Q.f 5; have k6 := Q.f 6; (try dsimp only at q0 q1 q2 q3 q4 q5 q6)
    have v0 := V.a.c0; have v1 := V.a.c1; have v2 := V.a.c2; have v3 := V.a.c3; have v4 := V.a.c4; have v5 := V.a.c5; have v6 := V.a.c6; have vl := V.a.lt; have g0 := V.f 0; have g1 := V.f 1; have g2 := V.f 2; have g3 := V.f 3; have g4 := V.f 4; have g5 := V.f 5; have g6 := V.f 6; (try dsimp only at v0 v1 v2 v3 v4 v5 v6)
    go_wp2_with fail
    clear q0 q1 q2 q3 q4 q5 q6 ql k0 k1 k2 k3 k4 k5 k6 v0 v1 v2 v3 v4 v5 v6 vl g0 g1 g2 g3 g4 g5 g6 C2 CF Q V
    obtain ⟨X, hX⟩ : ∃ X, (putF w4 w.heap.size {h with R := some ⟨g, 0, none⟩, rc := rc', E := E', ec := ec', C := C', cc := cc'}).setCell ⟨g, k * 3 + 2, none⟩ (.int .i64 t) = X := ⟨_, rfl⟩
    rw [hX] at OR7 OE7 OC7 Q7 V7 B7
    dsimp only [putF] at hX
    rw [hX]
    clear hX
    obtain ⟨-, _, _, e1, s1, n1⟩ := own_T OR7
    cases e1
    obtain ⟨-, _, _, e2, s2, n2⟩ := own_T OE7
    cases e2
    obtain ⟨-, _, _, e3, s3, n3⟩ := own_T OC7
    cases e3
    have hcap : h.cl ≤ cc' := by
      rcases OC7.2 with ⟨e8, _⟩ | ⟨_, _, _, e8, _, _, h9, _⟩
      · injection e8 with _ _ e8; omega
      · injection e8 with _ _ e8; omega
    have HSX : Hid (SlF X {h with R := some ⟨g, 0, none⟩, rc := rc', E := E', ec := ec', C := C', cc := cc'} (Fo.setC f k t)) := Lib.hid ⟨HSS.out.n, HSS.out.ja, HSS.out.jt, HSS.out.jf, (by show (Fo.setL f.rs k t).length = h.rl; rw [Fo.setL_len]; exact HSS.out.rl), HSS.out.el, HSS.out.cl, s1, s2, s3⟩
    refine (wsize_is {h with R := some ⟨g, 0, none⟩, rc := rc', E := E', ec := ec', C := C', cc := cc'} (Fo.setC f k t) (HV.out.ok.setC HK.out) _ HSX.out).mono ?_; rintro e w5 ⟨rfl, hb⟩
    have hsz := HSZ.out
    obtain ⟨z, hz⟩ : ∃ z, (Fo.whl (Fo.setC f k t)).length = z := ⟨_, rfl⟩
    rw [hz] at hsz ⊢
    have HZ := Lib.hid hz
    clear hz s1 s2 s3
    have hle : w.heap.size ≤ X.heap.size := B7.size
    have HS5 := Lib.hid (HSX.out.below hb)
    have OR8 := OR7.kept (below_grown hb none) none_ne; have OE8 := OE7.kept (below_grown hb none) none_ne; have OC8 := OC7.kept (below_grown hb none) none_ne
    have Q := Q7.below hb; have V := V7.below hb; have B := B7.trans (hb.mono B7.size)
    clear OR7 OE7 OC7
    clear hb Q7 V7 B7
    have q0 := Q.a.c0; have q1 := Q.a.c1; have q2 := Q.a.c2; have q3 := Q.a.c3; have q4 := Q.a.c4; have q5 := Q.a.c5; have q6 := Q.a.c6; have ql := Q.a.lt; have k0 := Q.f 0; have k1 := Q.f 1; have k2 := Q.f 2; have k3 := Q.f 3; have k4 := Q.f 4; have k5 := Q.f 5; have k6 := Q.f 6; (try dsimp only at q0 q1 q2 q3 q4 q5 q6)
    have v0 := V.a.c0; have v1 := V.a.c1; have v2 := V.a.c2; have v3 := V.a.c3; have v4 := V.a.c4; have v5 := V.a.c5; have v6 := V.a.c6; have vl := V.a.lt; have g0 := V.f 0; have g1 := V.f 1; have g2 := V.f 2; have g3 := V.f 3; have g4 := V.f 4; have g5 := V.f 5; have g6 := V.f 6; (try dsimp only at v0 v1 v2 v3 v4 v5 v6)
    have hsz2 : ¬ (20000 : Int) < (z : Int) := by omega
    go_wp2_with fail
    have hB2 := putF_below B (show w.heap.size ≤ w.heap.size + 1 by omega) {h with R := some ⟨g, 0, none⟩, rc := rc', E := E', ec := ec', C := C', cc := cc'}
    have P := V.put {h with R := some ⟨g, 0, none⟩, rc := rc', E := E', ec := ec', C := C', cc := cc'}
    have OR9 := own_putF OR8 (own_far OR8 (show w.heap.size + 1 < w3.heap.size by omega)) {h with R := some ⟨g, 0, none⟩, rc := rc', E := E', ec := ec', C := C', cc := cc'}
    have OE9 := own_putF OE8 (own_far OE8 (show w.heap.size + 1 < w3.heap.size by omega)) {h with R := some ⟨g, 0, none⟩, rc := rc', E := E', ec := ec', C := C', cc := cc'}
    have OC9 := own_putF OC8 (own_far OC8 (show w.heap.size + 1 < w3.heap.size by omega)) {h with R := some ⟨g, 0, none⟩, rc := rc', E := E', ec := ec', C := C', cc := cc'}
    obtain ⟨-, _, _, e1, s1, -⟩ := own_T OR9
    cases e1
    obtain ⟨-, _, _, e2, s2, -⟩ := own_T OE9
    cases e2
    obtain ⟨-, _, _, e3, s3, -⟩ := own_T OC9
    cases e3
    have HS6 : Hid (SlF (putF w5 (w.heap.size + 1) {h with R := some ⟨g, 0, none⟩, rc := rc', E := E', ec := ec', C := C', cc := cc'}) {h with R := some ⟨g, 0, none⟩, rc := rc', E := E', ec := ec', C := C', cc := cc'} (Fo.setC f k t)) := Lib.hid ⟨HSS.out.n, HSS.out.ja, HSS.out.jt, HSS.out.jf, (by show (Fo.setL f.rs k t).length = h.rl; rw [Fo.setL_len]; exact HSS.out.rl), HSS.out.el, HSS.out.cl, s1, s2, s3⟩
    clear OR8 OE8 OC8 OR9 OE9 OC9
    show bodyPost _ _ _ _ _ (putF w5 (w.heap.size + 1) {h with R := some ⟨g, 0, none⟩, rc := rc', E := E', ec := ec', C := C', cc := cc'})
    obtain ⟨wz, hz⟩ : ∃ wz, putF w5 (w.heap.size + 1) {h with R := some ⟨g, 0, none⟩, rc := rc', E := E', ec := ec', C := C', cc := cc'} = wz := ⟨_, rfl⟩
    rw [hz] at P hB2 HS6 ⊢
    obtain ⟨-, p0, p1, p2, p3, p4, p5, p6⟩ := P.a
    dsimp only at p0 p1 p2 p3 p4 p5 p6
    refine bodyPost_ret (v := .tuple #[.agg #[.int .i64 h.n, .slice (some ⟨g, 0, none⟩) h.rl rc', .slice E' h.el ec', .int .i64 h.ja, .int .i64 h.jt, .int .i64 h.jf, .slice C' h.cl cc'], .int .i64 0]) (by simp [results, Try.results23, p0, p1, p2, p3, p4, p5, p6, go_sem]) rfl ⟨hB2, {h with R := some ⟨g, 0, none⟩, rc := rc', E := E', ec := ec', C := C', cc := cc'}, rfl, ⟨HS6.out, hcap, ⟨n1, n2, n3⟩⟩⟩
end Go.Proofs.Ytakbpgljbbkmkaa
