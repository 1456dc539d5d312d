import Derived.Test.YtakbpgljbbkmkaaJMb
import Derived.Test.YtakbpgljbbkmkaaHc
/- The walk of the reference's Open. -/
namespace Go.Proofs.Ytakbpgljbbkmkaa
open Go.RowKit

theorem SlT.drop {w : World} {b o : Nat} {l : List Fo.T3} (h : SlT w (some ⟨b, o, none⟩) l) (j : Nat) : SlT w (some ⟨b, o + j * 3, none⟩) (l.drop j) := fun h0 => by
  rw [List.length_drop] at h0
  obtain ⟨b', off, e, hb, hc⟩ := h (by omega)
  cases e
  refine ⟨b, o + j * 3, rfl, hb, fun i hi => ?_⟩
  rw [List.length_drop] at hi
  have e : Fo.at3 (l.drop j) i = Fo.at3 l (j + i) := by unfold Fo.at3; rw [List.getElem?_drop]
  rw [e, show o + j * 3 + i * 3 = o + (j + i) * 3 by omega]
  exact hc (j + i) (by omega)
theorem own_T7 {w : World} {base k m : Nat} {e : TypeId} {v : Value} {l r : List Fo.T3} (h : w.ownsRow base e 3 v (0 + k + m) ([] ++ vT l ++ vT r)) : (l ++ r).length = k + m ∧ ∃ A cap, v = .slice A (k + m) cap ∧ w.ownsRow base e 3 v (k + m) (vT (l ++ r)) ∧ k + m ≤ cap := by
  rw [Nat.zero_add, List.nil_append, ← vT_app] at h
  obtain ⟨hl, A, cap, hv, -, -⟩ := own_T h
  refine ⟨hl, A, cap, hv, h, ?_⟩
  rcases h.2 with ⟨h1, h2⟩ | ⟨g2, cap2, cur, h1, _, _, h4, _⟩
  · omega
  · rw [h1] at hv
    cases hv
    exact h4
theorem rOpen_no (h : FH) (f : Fo.Fm) (c : Fo.T3) (hV : ¬ Fo.Val f) (hcap : h.cl ≤ h.cc) (w : World) (hS : SlF w h f) :
    Calls Try.prog 22 #[.agg #[.int .i64 h.n, .slice h.R h.rl h.rc, .slice h.E h.el h.ec, .int .i64 h.ja, .int .i64 h.jt, .int .i64 h.jf, .slice h.C h.cl h.cc], .agg #[.int .i64 c.a, .int .i64 c.b, .int .i64 c.c]] w fun y w' => Below w.heap.size w w' ∧ ∃ h' : FH, y = .returned (.tuple #[.agg #[.int .i64 h'.n, .slice h'.R h'.rl h'.rc, .slice h'.E h'.el h'.ec, .int .i64 h'.ja, .int .i64 h'.jt, .int .i64 h'.jf, .slice h'.C h'.cl h'.cc], .int .i64 1]) ∧ FormR f 1 h' w' := by
    have HV := Lib.hid hV; have HCAP := Lib.hid hcap; have HSS := Lib.hid hS
    clear hS hV hcap
    go_enter Try.func22, Try.ntmps22
    go_wp2_with fail
    have Q := ((FV.new w h).alloc (.cells #[.int .i64 c.a, .int .i64 c.b, .int .i64 c.c] 32)).alloc (.cells #[.int .i64 0, .slice none 0 0, .slice none 0 0, .int .i64 0, .int .i64 0, .int .i64 0, .slice none 0 0] 28)
    have T := (TB.new (w.alloc (.cells #[.int .i64 h.n, .slice h.R h.rl h.rc, .slice h.E h.el h.ec, .int .i64 h.ja, .int .i64 h.jt, .int .i64 h.jf, .slice h.C h.cl h.cc] 28)) c 32).alloc (.cells #[.int .i64 0, .slice none 0 0, .slice none 0 0, .int .i64 0, .int .i64 0, .int .i64 0, .slice none 0 0] 28)
    have V := FV.zero ((w.alloc (.cells #[.int .i64 h.n, .slice h.R h.rl h.rc, .slice h.E h.el h.ec, .int .i64 h.ja, .int .i64 h.jt, .int .i64 h.jf, .slice h.C h.cl h.cc] 28)).alloc (.cells #[.int .i64 c.a, .int .i64 c.b, .int .i64 c.c] 32))
    have B := (((Below.refl w.heap.size w).alloc (Nat.le_refl _) (.cells #[.int .i64 h.n, .slice h.R h.rl h.rc, .slice h.E h.el h.ec, .int .i64 h.ja, .int .i64 h.jt, .int .i64 h.jf, .slice h.C h.cl h.cc] 28)).alloc (by simp) (.cells #[.int .i64 c.a, .int .i64 c.b, .int .i64 c.c] 32)).alloc (by simp <;> omega) (.cells #[.int .i64 0, .slice none 0 0, .slice none 0 0, .int .i64 0, .int .i64 0, .int .i64 0, .slice none 0 0] 28)
    rw [World.size_alloc] at T
    rw [World.size_alloc, World.size_alloc] at V
    refine (rValid_is h f false ⟨(fun h => by cases h), fun k => absurd k HV.out⟩ HCAP.out _ (((HSS.out.alloc _).alloc _).alloc _)).mono ?_; rintro e w1 ⟨rfl, hb⟩
    replace V := V.below hb; replace Q := Q.below hb; replace T := T.below hb; replace B := B.trans (hb.mono B.size)
    clear hb
    have Qq := Q.at_; have q0 := Qq.c0; have q1 := Qq.c1; have q2 := Qq.c2; have q3 := Qq.c3; have q4 := Qq.c4; have q5 := Qq.c5; have q6 := Qq.c6; have ql := Qq.lt; have k6 := Q.f 6
    have t0 := T.c0; have t1 := T.c1; have t2 := T.c2; have tl := T.lt
    have Vv := V.at_; have v0 := Vv.c0; have v1 := Vv.c1; have v2 := Vv.c2; have v3 := Vv.c3; have v4 := Vv.c4; have v5 := Vv.c5; have v6 := Vv.c6; have vl := Vv.lt; have g0 := V.f 0; have g1 := V.f 1; have g2 := V.f 2; have g3 := V.f 3; have g4 := V.f 4; have g5 := V.f 5; have g6 := V.f 6
    clear Qq Vv
    go_wp2_with fail
    have hB2 := putF_below B (show w.heap.size ≤ w.heap.size + 1 + 1 by omega) .zero
    have P := V.put .zero
    show bodyPost _ _ _ _ _ (putF w1 (w.heap.size + 1 + 1) .zero)
    obtain ⟨wz, hz⟩ : ∃ wz, putF w1 (w.heap.size + 1 + 1) .zero = wz := ⟨_, rfl⟩
    rw [hz] at P hB2 ⊢
    obtain ⟨-, p0, p1, p2, p3, p4, p5, p6⟩ := P
    dsimp only [FH.zero] at p0 p1 p2 p3 p4 p5 p6
    refine bodyPost_ret (v := .tuple #[.agg #[.int .i64 0, .slice none 0 0, .slice none 0 0, .int .i64 0, .int .i64 0, .int .i64 0, .slice none 0 0], .int .i64 1]) (by simp [results, Try.results22, p0, p1, p2, p3, p4, p5, p6, go_sem]) rfl ⟨hB2, .zero, rfl, fun h => (by cases h), fun _ => rfl⟩

theorem rOpen_four (h : FH) (f : Fo.Fm) (c : Fo.T3) (V0 : Fo.Val f) (hcap : h.cl ≤ h.cc) (hno : Fo.cix f.cs c < 0) (w : World) (hS : SlF w h f) :
    Calls Try.prog 22 #[.agg #[.int .i64 h.n, .slice h.R h.rl h.rc, .slice h.E h.el h.ec, .int .i64 h.ja, .int .i64 h.jt, .int .i64 h.jf, .slice h.C h.cl h.cc], .agg #[.int .i64 c.a, .int .i64 c.b, .int .i64 c.c]] w fun y w' => Below w.heap.size w w' ∧ ∃ h' : FH, y = .returned (.tuple #[.agg #[.int .i64 h'.n, .slice h'.R h'.rl h'.rc, .slice h'.E h'.el h'.ec, .int .i64 h'.ja, .int .i64 h'.jt, .int .i64 h'.jf, .slice h'.C h'.cl h'.cc], .int .i64 4]) ∧ FormR f 4 h' w' := by
    have HV := Lib.hid V0; have HCAP := Lib.hid hcap; have HSS := Lib.hid hS
    have HM := Lib.hid (show h.cl ≤ 100 by have := V0.cl; have := hS.cl; omega)
    obtain ⟨r, hr⟩ : ∃ r, Fo.cix f.cs c = r := ⟨_, rfl⟩
    rw [hr] at hno
    have HR := Lib.hid hr
    clear hS V0 hcap hr
    go_enter Try.func22, Try.ntmps22
    go_wp2_with fail
    have Q := ((FV.new w h).alloc (.cells #[.int .i64 c.a, .int .i64 c.b, .int .i64 c.c] 32)).alloc (.cells #[.int .i64 0, .slice none 0 0, .slice none 0 0, .int .i64 0, .int .i64 0, .int .i64 0, .slice none 0 0] 28)
    have T := (TB.new (w.alloc (.cells #[.int .i64 h.n, .slice h.R h.rl h.rc, .slice h.E h.el h.ec, .int .i64 h.ja, .int .i64 h.jt, .int .i64 h.jf, .slice h.C h.cl h.cc] 28)) c 32).alloc (.cells #[.int .i64 0, .slice none 0 0, .slice none 0 0, .int .i64 0, .int .i64 0, .int .i64 0, .slice none 0 0] 28)
    have V := FV.zero ((w.alloc (.cells #[.int .i64 h.n, .slice h.R h.rl h.rc, .slice h.E h.el h.ec, .int .i64 h.ja, .int .i64 h.jt, .int .i64 h.jf, .slice h.C h.cl h.cc] 28)).alloc (.cells #[.int .i64 c.a, .int .i64 c.b, .int .i64 c.c] 32))
    have B := (((Below.refl w.heap.size w).alloc (Nat.le_refl _) (.cells #[.int .i64 h.n, .slice h.R h.rl h.rc, .slice h.E h.el h.ec, .int .i64 h.ja, .int .i64 h.jt, .int .i64 h.jf, .slice h.C h.cl h.cc] 28)).alloc (by simp) (.cells #[.int .i64 c.a, .int .i64 c.b, .int .i64 c.c] 32)).alloc (by simp <;> omega) (.cells #[.int .i64 0, .slice none 0 0, .slice none 0 0, .int .i64 0, .int .i64 0, .int .i64 0, .slice none 0 0] 28)
    rw [World.size_alloc] at T
    rw [World.size_alloc, World.size_alloc] at V
    refine (rValid_is h f true ⟨fun _ => HV.out, fun _ => rfl⟩ HCAP.out _ (((HSS.out.alloc _).alloc _).alloc _)).mono ?_; rintro e w1 ⟨rfl, hb⟩
    replace V := V.below hb; replace Q := Q.below hb; replace T := T.below hb; replace B := B.trans (hb.mono B.size)
    clear hb
    have Qq := Q.at_; have q0 := Qq.c0; have q1 := Qq.c1; have q2 := Qq.c2; have q3 := Qq.c3; have q4 := Qq.c4; have q5 := Qq.c5; have q6 := Qq.c6; have ql := Qq.lt; have k6 := Q.f 6
    have t0 := T.c0; have t1 := T.c1; have t2 := T.c2; have tl := T.lt
    have Vv := V.at_; have v0 := Vv.c0; have v1 := Vv.c1; have v2 := Vv.c2; have v3 := Vv.c3; have v4 := Vv.c4; have v5 := Vv.c5; have v6 := Vv.c6; have vl := Vv.lt; have g0 := V.f 0; have g1 := V.f 1; have g2 := V.f 2; have g3 := V.f 3; have g4 := V.f 4; have g5 := V.f 5; have g6 := V.f 6
    clear Qq Vv
    go_wp2_with fail
    clear q0 q1 q2 q3 q4 q5 q6 ql k6 t0 t1 t2 tl v0 v1 v2 v3 v4 v5 v6 vl g0 g1 g2 g3 g4 g5 g6
    refine (rhas_is f.cs c r _ _ _ HR.out HSS.out.cl (Nat.le_trans HM.out (by decide)) _ (HSS.out.sc.below B)).mono ?_; rintro e w2 ⟨rfl, hb⟩
    replace V := V.below hb; replace Q := Q.below hb; replace T := T.below hb; replace B := B.trans (hb.mono B.size)
    clear hb
    have Qq := Q.at_; have q0 := Qq.c0; have q1 := Qq.c1; have q2 := Qq.c2; have q3 := Qq.c3; have q4 := Qq.c4; have q5 := Qq.c5; have q6 := Qq.c6; have ql := Qq.lt; have k6 := Q.f 6
    have t0 := T.c0; have t1 := T.c1; have t2 := T.c2; have tl := T.lt
    have Vv := V.at_; have v0 := Vv.c0; have v1 := Vv.c1; have v2 := Vv.c2; have v3 := Vv.c3; have v4 := Vv.c4; have v5 := Vv.c5; have v6 := Vv.c6; have vl := Vv.lt; have g0 := V.f 0; have g1 := V.f 1; have g2 := V.f 2; have g3 := V.f 3; have g4 := V.f 4; have g5 := V.f 5; have g6 := V.f 6
    clear Qq Vv
    go_wp2_with fail
    have hB2 := putF_below B (show w.heap.size ≤ w.heap.size + 1 + 1 by omega) .zero
    have P := V.put .zero
    show bodyPost _ _ _ _ _ (putF w2 (w.heap.size + 1 + 1) .zero)
    obtain ⟨wz, hz⟩ : ∃ wz, putF w2 (w.heap.size + 1 + 1) .zero = wz := ⟨_, rfl⟩
    rw [hz] at P hB2 ⊢
    obtain ⟨-, p0, p1, p2, p3, p4, p5, p6⟩ := P
    dsimp only [FH.zero] at p0 p1 p2 p3 p4 p5 p6
    refine bodyPost_ret (v := .tuple #[.agg #[.int .i64 0, .slice none 0 0, .slice none 0 0, .int .i64 0, .int .i64 0, .int .i64 0, .slice none 0 0], .int .i64 4]) (by simp [results, Try.results22, p0, p1, p2, p3, p4, p5, p6, go_sem]) rfl ⟨hB2, .zero, rfl, fun h => (by cases h), fun _ => rfl⟩

set_option maxHeartbeats 6400000 in
theorem rOpen_okF (h : FH) (f : Fo.Fm) (c : Fo.T3) (k : Nat) (V0 : Fo.Val f) (hcap : h.cl ≤ h.cc) (hk : Fo.cix f.cs c = (k : Int)) (w : World) (hS : SlF w h f) :
    Calls Try.prog 22 #[.agg #[.int .i64 h.n, .slice h.R h.rl h.rc, .slice h.E h.el h.ec, .int .i64 h.ja, .int .i64 h.jt, .int .i64 h.jf, .slice h.C h.cl h.cc], .agg #[.int .i64 c.a, .int .i64 c.b, .int .i64 c.c]] w fun y w' => Below w.heap.size w w' ∧ ∃ h' : FH, y = .returned (.tuple #[.agg #[.int .i64 h'.n, .slice h'.R h'.rl h'.rc, .slice h'.E h'.el h'.ec, .int .i64 h'.ja, .int .i64 h'.jt, .int .i64 h'.jf, .slice h'.C h'.cl h'.cc], .int .i64 0]) ∧ (FormR {f with cs := f.cs.take k ++ f.cs.drop (k + 1)} 0 h' w' ∧ ∀ n0, LowF n0 h f → SepF n0 w.heap.size h' {f with cs := f.cs.take k ++ f.cs.drop (k + 1)}) := by
    obtain ⟨ic, hi0, hz0, hz1, hz2⟩ := info_parts infoCut
    have HI := Lib.hid (And.intro hi0 (And.intro hz0 (And.intro hz1 hz2)))
    have hkl : k < h.cl := by have := Fo.cix_lt f.cs c; have := hS.cl; omega
    obtain ⟨b, o, hCe, hb0, hc0⟩ := hS.sc (by rw [hS.cl]; omega)
    have HSC := Lib.hid (show SlT w (some ⟨b, o, none⟩) f.cs by rw [← hCe]; exact hS.sc)
    have HV := Lib.hid V0; have HSS := Lib.hid hS
    have HR := Lib.hid hk
    have h100 : h.cl ≤ 100 := by have := V0.cl; have := hS.cl; omega
    have HM := Lib.hid h100
    have HCAP := Lib.hid hcap
    obtain ⟨n0, R, rl, rc, E, el, ec, ja, jt, jf, C, n, q⟩ := h
    dsimp only at hCe HSS HCAP HM h100 hkl hcap ⊢
    subst hCe
    clear hS V0 hk hi0 hz0 hz1 hz2 hb0 hc0
    have HLEN := Lib.hid HSS.out.cl
    have hk1 : k + 1 ≤ n := by omega
    have hkn : k ≤ n := by omega
    have hkq : k ≤ q := by omega
    have hk1q : k + 1 ≤ q := by omega
    have hkm : k ≤ 100 := by omega
    have hkz : decide ((k : Int) < 0) = false := decide_eq_false (by omega)
    obtain ⟨m, hm⟩ : ∃ m, n - (k + 1) = m := ⟨_, rfl⟩
    have HMM := Lib.hid hm
    clear hm
    by_cases hcj : q = k + 1
    case pos =>
      obtain rfl : n = k + 1 := by omega
      subst hcj
      have HDR : Hid (SlT w (some ⟨b, o, none⟩) (f.cs.drop (k + 1))) := Lib.hid (fun h0 => by have := HLEN.out; dsimp only at this; rw [List.length_drop] at h0; omega)
      go_enter Try.func22, Try.ntmps22
      go_wp2_with fail
      have Q := ((FV.new w (⟨n0, R, rl, rc, E, el, ec, ja, jt, jf, some ⟨b, o, none⟩, (k + 1), (k + 1)⟩ : FH)).alloc (.cells #[.int .i64 c.a, .int .i64 c.b, .int .i64 c.c] 32)).alloc (.cells #[.int .i64 0, .slice none 0 0, .slice none 0 0, .int .i64 0, .int .i64 0, .int .i64 0, .slice none 0 0] 28)
      have T := (TB.new (w.alloc (.cells #[.int .i64 n0, .slice R rl rc, .slice E el ec, .int .i64 ja, .int .i64 jt, .int .i64 jf, .slice (some ⟨b, o, none⟩) ((k + 1) : Nat) ((k + 1) : Nat)] 28)) c 32).alloc (.cells #[.int .i64 0, .slice none 0 0, .slice none 0 0, .int .i64 0, .int .i64 0, .int .i64 0, .slice none 0 0] 28)
      have V := FV.zero ((w.alloc (.cells #[.int .i64 n0, .slice R rl rc, .slice E el ec, .int .i64 ja, .int .i64 jt, .int .i64 jf, .slice (some ⟨b, o, none⟩) ((k + 1) : Nat) ((k + 1) : Nat)] 28)).alloc (.cells #[.int .i64 c.a, .int .i64 c.b, .int .i64 c.c] 32))
      have B := (((Below.refl w.heap.size w).alloc (Nat.le_refl _) (.cells #[.int .i64 n0, .slice R rl rc, .slice E el ec, .int .i64 ja, .int .i64 jt, .int .i64 jf, .slice (some ⟨b, o, none⟩) ((k + 1) : Nat) ((k + 1) : Nat)] 28)).alloc (by simp) (.cells #[.int .i64 c.a, .int .i64 c.b, .int .i64 c.c] 32)).alloc (by simp <;> omega) (.cells #[.int .i64 0, .slice none 0 0, .slice none 0 0, .int .i64 0, .int .i64 0, .int .i64 0, .slice none 0 0] 28)
      rw [World.size_alloc] at T
      rw [World.size_alloc, World.size_alloc] at V
      refine (rValid_is (⟨n0, R, rl, rc, E, el, ec, ja, jt, jf, some ⟨b, o, none⟩, (k + 1), (k + 1)⟩ : FH) f true ⟨fun _ => HV.out, fun _ => rfl⟩ HCAP.out _ (((HSS.out.alloc _).alloc _).alloc _)).mono ?_; rintro e w1 ⟨rfl, hb⟩
      replace V := V.below hb; replace Q := Q.below hb; replace T := T.below hb; replace B := B.trans (hb.mono B.size)
      clear hb
      have Qq := Q.at_; have q0 := Qq.c0; have q1 := Qq.c1; have q2 := Qq.c2; have q3 := Qq.c3; have q4 := Qq.c4; have q5 := Qq.c5; have q6 := Qq.c6; have ql := Qq.lt; have k6 := Q.f 6
      have t0 := T.c0; have t1 := T.c1; have t2 := T.c2; have tl := T.lt
      have Vv := V.at_; have v0 := Vv.c0; have v1 := Vv.c1; have v2 := Vv.c2; have v3 := Vv.c3; have v4 := Vv.c4; have v5 := Vv.c5; have v6 := Vv.c6; have vl := Vv.lt; have g0 := V.f 0; have g1 := V.f 1; have g2 := V.f 2; have g3 := V.f 3; have g4 := V.f 4; have g5 := V.f 5; have g6 := V.f 6
      clear Qq Vv
      go_wp2_with fail
      clear q0 q1 q2 q3 q4 q5 q6 ql k6 t0 t1 t2 tl v0 v1 v2 v3 v4 v5 v6 vl g0 g1 g2 g3 g4 g5 g6
      refine (rhas_is f.cs c (k : Int) _ _ _ HR.out HLEN.out (Nat.le_trans HM.out (by decide)) _ (HSC.out.below B)).mono ?_; rintro e w3 ⟨rfl, hb⟩
      replace V := V.below hb; replace Q := Q.below hb; replace T := T.below hb; replace B := B.trans (hb.mono B.size)
      clear hb
      have Qq := Q.at_; have q0 := Qq.c0; have q1 := Qq.c1; have q2 := Qq.c2; have q3 := Qq.c3; have q4 := Qq.c4; have q5 := Qq.c5; have q6 := Qq.c6; have ql := Qq.lt; have k6 := Q.f 6
      have t0 := T.c0; have t1 := T.c1; have t2 := T.c2; have tl := T.lt
      have Vv := V.at_; have v0 := Vv.c0; have v1 := Vv.c1; have v2 := Vv.c2; have v3 := Vv.c3; have v4 := Vv.c4; have v5 := Vv.c5; have v6 := Vv.c6; have vl := Vv.lt; have g0 := V.f 0; have g1 := V.f 1; have g2 := V.f 2; have g3 := V.f 3; have g4 := V.f 4; have g5 := V.f 5; have g6 := V.f 6
      clear Qq Vv
      have hl3 := V.at_.lt
      go_wp2_with (first | (at_builtin; refine append_slt rfl _ _ 26 rfl w3.heap.size 32 ic (.agg #[.int .i64 0, .int .i64 0, .int .i64 0]) 24 Try.underlying26 HI.out.1 HI.out.2.1 HI.out.2.2.1 HI.out.2.2.2 rfl (.slice none 0 0) 0 [] rfl (World.ownsRow_nil _ _ _ _) (some ⟨b, o, none⟩) k (k + 1) (f.cs.take k) rfl (fun h => by cases h) (by rw [List.length_take]; have := HLEN.out; (try dsimp only at this); omega) ((HSC.out.below B).take k) (by unfold maxLen; omega) (by omega) (Nat.le_refl _) ?_; intro y5 w5 hown5 hgrow5; have hb5 := none_below (show w3.grownBy w5 none from hgrow5); clear q0 q1 q2 q3 q4 q5 q6 ql k6 t0 t1 t2 tl v0 v1 v2 v3 v4 v5 v6 vl g0 g1 g2 g3 g4 g5 g6; replace V := V.below hb5; replace Q := Q.below hb5; replace T := T.below hb5; replace B := B.trans (hb5.mono B.size); have hsz5 := hb5.size; clear hb5 hgrow5; have HK := Lib.hid (hown5.kept (below_grown (Below.refl w5.heap.size w5) none) none_ne); clear hown5; have Qq := Q.at_; have q0 := Qq.c0; have q1 := Qq.c1; have q2 := Qq.c2; have q3 := Qq.c3; have q4 := Qq.c4; have q5 := Qq.c5; have q6 := Qq.c6; have ql := Qq.lt; have k6 := Q.f 6; have t0 := T.c0; have t1 := T.c1; have t2 := T.c2; have tl := T.lt; have Vv := V.at_; have v0 := Vv.c0; have v1 := Vv.c1; have v2 := Vv.c2; have v3 := Vv.c3; have v4 := Vv.c4; have v5 := Vv.c5; have v6 := Vv.c6; have vl := Vv.lt; have g0 := V.f 0; have g1 := V.f 1; have g2 := V.f 2; have g3 := V.f 3; have g4 := V.f 4; have g5 := V.f 5; have g6 := V.f 6; clear Qq Vv) | (at_builtin; refine append_slt rfl _ _ 26 rfl w3.heap.size 32 ic (.agg #[.int .i64 0, .int .i64 0, .int .i64 0]) 24 Try.underlying26 HI.out.1 HI.out.2.1 HI.out.2.2.1 HI.out.2.2.2 rfl _ _ _ rfl HK.out (some ⟨b, o, none⟩) 0 0 (f.cs.drop (k + 1)) rfl (fun h => by cases h) (by rw [List.length_drop]; have := HLEN.out; (try dsimp only at this); omega) (HDR.out.below B) (by unfold maxLen; omega) (by omega) (by omega) ?_; intro y6 w6 hown6 hgrow6; have hlt3 : w.heap.size + 1 + 1 < w3.heap.size := hl3; clear q0 q1 q2 q3 q4 q5 q6 ql k6 t0 t1 t2 tl v0 v1 v2 v3 v4 v5 v6 vl g0 g1 g2 g3 g4 g5 g6; replace V := V.grown hlt3 (own_ne HK.out) hgrow6; replace Q := Q.grown (show w.heap.size < w3.heap.size by omega) (own_ne HK.out) hgrow6; replace B := B.grown hgrow6 B.size (fun j hj => by have := own_ne HK.out j hj; omega); obtain ⟨hl6, A6, c6, rfl, ho6, hn6⟩ := own_T7 hown6; have HOW6 := Lib.hid ho6; clear hown6 ho6 hgrow6 T; have Qq := Q.at_; have q0 := Qq.c0; have q1 := Qq.c1; have q2 := Qq.c2; have q3 := Qq.c3; have q4 := Qq.c4; have q5 := Qq.c5; have q6 := Qq.c6; have ql := Qq.lt; have k6 := Q.f 6; have Vv := V.at_; have v0 := Vv.c0; have v1 := Vv.c1; have v2 := Vv.c2; have v3 := Vv.c3; have v4 := Vv.c4; have v5 := Vv.c5; have v6 := Vv.c6; have vl := Vv.lt; have g0 := V.f 0; have g1 := V.f 1; have g2 := V.f 2; have g3 := V.f 3; have g4 := V.f 4; have g5 := V.f 5; have g6 := V.f 6; clear Qq Vv) | fail)
      have V7 := FB.other V.at_ (p := ⟨w.heap.size, 6, none⟩) (show w.heap.size + 1 + 1 ≠ w.heap.size by omega) (.slice A6 (k + 0) c6)
      have P := FB.put V7 (fun j => (World.frozen?_setCell ..).trans (V.f j)) (⟨n0, R, rl, rc, E, el, ec, ja, jt, jf, A6, k + 0, c6⟩ : FH)
      have hB2 := putF_below (B.setCell (p := ⟨w.heap.size, 6, none⟩) (Nat.le_refl _) (.slice A6 (k + 0) c6)) (show w.heap.size ≤ w.heap.size + 1 + 1 by omega) (⟨n0, R, rl, rc, E, el, ec, ja, jt, jf, A6, k + 0, c6⟩ : FH)
      have hO : (putF (w6.setCell ⟨w.heap.size, 6, none⟩ (.slice A6 (k + 0) c6)) (w.heap.size + 1 + 1) (⟨n0, R, rl, rc, E, el, ec, ja, jt, jf, A6, k + 0, c6⟩ : FH)).ownsRow w3.heap.size 32 3 (.slice A6 (k + 0) c6) (k + 0) (vT (f.cs.take k ++ f.cs.drop (k + 1))) := by
        unfold putF
        exact (ownsRow_setCell_below (ownsRow_setCell_below (ownsRow_setCell_below (ownsRow_setCell_below (ownsRow_setCell_below (ownsRow_setCell_below (ownsRow_setCell_below (ownsRow_setCell_below HOW6.out (show w.heap.size < w3.heap.size by omega) _) (show w.heap.size + 1 + 1 < w3.heap.size by omega) _) (show w.heap.size + 1 + 1 < w3.heap.size by omega) _) (show w.heap.size + 1 + 1 < w3.heap.size by omega) _) (show w.heap.size + 1 + 1 < w3.heap.size by omega) _) (show w.heap.size + 1 + 1 < w3.heap.size by omega) _) (show w.heap.size + 1 + 1 < w3.heap.size by omega) _) (show w.heap.size + 1 + 1 < w3.heap.size by omega) _)
      show bodyPost _ _ _ _ _ (putF (w6.setCell ⟨w.heap.size, 6, none⟩ (.slice A6 (k + 0) c6)) (w.heap.size + 1 + 1) (⟨n0, R, rl, rc, E, el, ec, ja, jt, jf, A6, k + 0, c6⟩ : FH))
      obtain ⟨wz, hz⟩ : ∃ wz, putF (w6.setCell ⟨w.heap.size, 6, none⟩ (.slice A6 (k + 0) c6)) (w.heap.size + 1 + 1) (⟨n0, R, rl, rc, E, el, ec, ja, jt, jf, A6, k + 0, c6⟩ : FH) = wz := ⟨_, rfl⟩
      rw [hz] at P hB2 hO ⊢
      obtain ⟨-, p0, p1, p2, p3, p4, p5, p6⟩ := P
      dsimp only at p0 p1 p2 p3 p4 p5 p6
      obtain ⟨-, A9, c9, e9, hs9, -⟩ := own_T hO
      cases e9
      refine bodyPost_ret (v := .tuple #[.agg #[.int .i64 n0, .slice R rl rc, .slice E el ec, .int .i64 ja, .int .i64 jt, .int .i64 jf, .slice A6 (k + 0) c6], .int .i64 0]) (by simp [results, Try.results22, p0, p1, p2, p3, p4, p5, p6, go_sem]) rfl ⟨hB2, (⟨n0, R, rl, rc, E, el, ec, ja, jt, jf, A6, k + 0, c6⟩ : FH), rfl, ⟨fun _ => ⟨⟨HSS.out.n, HSS.out.ja, HSS.out.jt, HSS.out.jf, HSS.out.rl, HSS.out.el, hl6, HSS.out.sr.below hB2, HSS.out.se.below hB2, hs9⟩, hn6⟩, fun k => absurd rfl k⟩, fun n0 L => ⟨L.1.sep, L.2.1.sep, own_sep hO (by omega)⟩⟩
    case neg =>
      have HDR := Lib.hid (HSC.out.drop (k + 1))
      go_enter Try.func22, Try.ntmps22
      go_wp2_with fail
      have Q := ((FV.new w (⟨n0, R, rl, rc, E, el, ec, ja, jt, jf, some ⟨b, o, none⟩, n, q⟩ : FH)).alloc (.cells #[.int .i64 c.a, .int .i64 c.b, .int .i64 c.c] 32)).alloc (.cells #[.int .i64 0, .slice none 0 0, .slice none 0 0, .int .i64 0, .int .i64 0, .int .i64 0, .slice none 0 0] 28)
      have T := (TB.new (w.alloc (.cells #[.int .i64 n0, .slice R rl rc, .slice E el ec, .int .i64 ja, .int .i64 jt, .int .i64 jf, .slice (some ⟨b, o, none⟩) (n : Nat) (q : Nat)] 28)) c 32).alloc (.cells #[.int .i64 0, .slice none 0 0, .slice none 0 0, .int .i64 0, .int .i64 0, .int .i64 0, .slice none 0 0] 28)
      have V := FV.zero ((w.alloc (.cells #[.int .i64 n0, .slice R rl rc, .slice E el ec, .int .i64 ja, .int .i64 jt, .int .i64 jf, .slice (some ⟨b, o, none⟩) (n : Nat) (q : Nat)] 28)).alloc (.cells #[.int .i64 c.a, .int .i64 c.b, .int .i64 c.c] 32))
      have B := (((Below.refl w.heap.size w).alloc (Nat.le_refl _) (.cells #[.int .i64 n0, .slice R rl rc, .slice E el ec, .int .i64 ja, .int .i64 jt, .int .i64 jf, .slice (some ⟨b, o, none⟩) (n : Nat) (q : Nat)] 28)).alloc (by simp) (.cells #[.int .i64 c.a, .int .i64 c.b, .int .i64 c.c] 32)).alloc (by simp <;> omega) (.cells #[.int .i64 0, .slice none 0 0, .slice none 0 0, .int .i64 0, .int .i64 0, .int .i64 0, .slice none 0 0] 28)
      rw [World.size_alloc] at T
      rw [World.size_alloc, World.size_alloc] at V
      refine (rValid_is (⟨n0, R, rl, rc, E, el, ec, ja, jt, jf, some ⟨b, o, none⟩, n, q⟩ : FH) f true ⟨fun _ => HV.out, fun _ => rfl⟩ HCAP.out _ (((HSS.out.alloc _).alloc _).alloc _)).mono ?_; rintro e w1 ⟨rfl, hb⟩
      replace V := V.below hb; replace Q := Q.below hb; replace T := T.below hb; replace B := B.trans (hb.mono B.size)
      clear hb
      have Qq := Q.at_; have q0 := Qq.c0; have q1 := Qq.c1; have q2 := Qq.c2; have q3 := Qq.c3; have q4 := Qq.c4; have q5 := Qq.c5; have q6 := Qq.c6; have ql := Qq.lt; have k6 := Q.f 6
      have t0 := T.c0; have t1 := T.c1; have t2 := T.c2; have tl := T.lt
      have Vv := V.at_; have v0 := Vv.c0; have v1 := Vv.c1; have v2 := Vv.c2; have v3 := Vv.c3; have v4 := Vv.c4; have v5 := Vv.c5; have v6 := Vv.c6; have vl := Vv.lt; have g0 := V.f 0; have g1 := V.f 1; have g2 := V.f 2; have g3 := V.f 3; have g4 := V.f 4; have g5 := V.f 5; have g6 := V.f 6
      clear Qq Vv
      go_wp2_with fail
      clear q0 q1 q2 q3 q4 q5 q6 ql k6 t0 t1 t2 tl v0 v1 v2 v3 v4 v5 v6 vl g0 g1 g2 g3 g4 g5 g6
      refine (rhas_is f.cs c (k : Int) _ _ _ HR.out HLEN.out (Nat.le_trans HM.out (by decide)) _ (HSC.out.below B)).mono ?_; rintro e w3 ⟨rfl, hb⟩
      replace V := V.below hb; replace Q := Q.below hb; replace T := T.below hb; replace B := B.trans (hb.mono B.size)
      clear hb
      have Qq := Q.at_; have q0 := Qq.c0; have q1 := Qq.c1; have q2 := Qq.c2; have q3 := Qq.c3; have q4 := Qq.c4; have q5 := Qq.c5; have q6 := Qq.c6; have ql := Qq.lt; have k6 := Q.f 6
      have t0 := T.c0; have t1 := T.c1; have t2 := T.c2; have tl := T.lt
      have Vv := V.at_; have v0 := Vv.c0; have v1 := Vv.c1; have v2 := Vv.c2; have v3 := Vv.c3; have v4 := Vv.c4; have v5 := Vv.c5; have v6 := Vv.c6; have vl := Vv.lt; have g0 := V.f 0; have g1 := V.f 1; have g2 := V.f 2; have g3 := V.f 3; have g4 := V.f 4; have g5 := V.f 5; have g6 := V.f 6
      clear Qq Vv
      have hl3 := V.at_.lt
      go_wp2_with (first | (at_builtin; refine append_slt rfl _ _ 26 rfl w3.heap.size 32 ic (.agg #[.int .i64 0, .int .i64 0, .int .i64 0]) 24 Try.underlying26 HI.out.1 HI.out.2.1 HI.out.2.2.1 HI.out.2.2.2 rfl (.slice none 0 0) 0 [] rfl (World.ownsRow_nil _ _ _ _) (some ⟨b, o, none⟩) k q (f.cs.take k) rfl (fun h => by cases h) (by rw [List.length_take]; have := HLEN.out; (try dsimp only at this); omega) ((HSC.out.below B).take k) (by unfold maxLen; omega) (by omega) (Nat.le_refl _) ?_; intro y5 w5 hown5 hgrow5; have hb5 := none_below (show w3.grownBy w5 none from hgrow5); clear q0 q1 q2 q3 q4 q5 q6 ql k6 t0 t1 t2 tl v0 v1 v2 v3 v4 v5 v6 vl g0 g1 g2 g3 g4 g5 g6; replace V := V.below hb5; replace Q := Q.below hb5; replace T := T.below hb5; replace B := B.trans (hb5.mono B.size); have hsz5 := hb5.size; clear hb5 hgrow5; have HK := Lib.hid (hown5.kept (below_grown (Below.refl w5.heap.size w5) none) none_ne); clear hown5; have Qq := Q.at_; have q0 := Qq.c0; have q1 := Qq.c1; have q2 := Qq.c2; have q3 := Qq.c3; have q4 := Qq.c4; have q5 := Qq.c5; have q6 := Qq.c6; have ql := Qq.lt; have k6 := Q.f 6; have t0 := T.c0; have t1 := T.c1; have t2 := T.c2; have tl := T.lt; have Vv := V.at_; have v0 := Vv.c0; have v1 := Vv.c1; have v2 := Vv.c2; have v3 := Vv.c3; have v4 := Vv.c4; have v5 := Vv.c5; have v6 := Vv.c6; have vl := Vv.lt; have g0 := V.f 0; have g1 := V.f 1; have g2 := V.f 2; have g3 := V.f 3; have g4 := V.f 4; have g5 := V.f 5; have g6 := V.f 6; clear Qq Vv) | (at_builtin; refine append_slt rfl _ _ 26 rfl w3.heap.size 32 ic (.agg #[.int .i64 0, .int .i64 0, .int .i64 0]) 24 Try.underlying26 HI.out.1 HI.out.2.1 HI.out.2.2.1 HI.out.2.2.2 rfl _ _ _ rfl HK.out (some ⟨b, o + (k + 1) * 3, none⟩) (n - (k + 1)) (q - (k + 1)) (f.cs.drop (k + 1)) rfl (fun h => by cases h) (by rw [List.length_drop]; have := HLEN.out; (try dsimp only at this); omega) (HDR.out.below B) (by unfold maxLen; omega) (by omega) (by omega) ?_; intro y6 w6 hown6 hgrow6; have hlt3 : w.heap.size + 1 + 1 < w3.heap.size := hl3; clear q0 q1 q2 q3 q4 q5 q6 ql k6 t0 t1 t2 tl v0 v1 v2 v3 v4 v5 v6 vl g0 g1 g2 g3 g4 g5 g6; replace V := V.grown hlt3 (own_ne HK.out) hgrow6; replace Q := Q.grown (show w.heap.size < w3.heap.size by omega) (own_ne HK.out) hgrow6; replace B := B.grown hgrow6 B.size (fun j hj => by have := own_ne HK.out j hj; omega); obtain ⟨hl6, A6, c6, rfl, ho6, hn6⟩ := own_T7 hown6; have HOW6 := Lib.hid ho6; clear hown6 ho6 hgrow6 T; have Qq := Q.at_; have q0 := Qq.c0; have q1 := Qq.c1; have q2 := Qq.c2; have q3 := Qq.c3; have q4 := Qq.c4; have q5 := Qq.c5; have q6 := Qq.c6; have ql := Qq.lt; have k6 := Q.f 6; have Vv := V.at_; have v0 := Vv.c0; have v1 := Vv.c1; have v2 := Vv.c2; have v3 := Vv.c3; have v4 := Vv.c4; have v5 := Vv.c5; have v6 := Vv.c6; have vl := Vv.lt; have g0 := V.f 0; have g1 := V.f 1; have g2 := V.f 2; have g3 := V.f 3; have g4 := V.f 4; have g5 := V.f 5; have g6 := V.f 6; clear Qq Vv) | fail)
      have V7 := FB.other V.at_ (p := ⟨w.heap.size, 6, none⟩) (show w.heap.size + 1 + 1 ≠ w.heap.size by omega) (.slice A6 (k + (n - (k + 1))) c6)
      have P := FB.put V7 (fun j => (World.frozen?_setCell ..).trans (V.f j)) (⟨n0, R, rl, rc, E, el, ec, ja, jt, jf, A6, k + (n - (k + 1)), c6⟩ : FH)
      have hB2 := putF_below (B.setCell (p := ⟨w.heap.size, 6, none⟩) (Nat.le_refl _) (.slice A6 (k + (n - (k + 1))) c6)) (show w.heap.size ≤ w.heap.size + 1 + 1 by omega) (⟨n0, R, rl, rc, E, el, ec, ja, jt, jf, A6, k + (n - (k + 1)), c6⟩ : FH)
      have hO : (putF (w6.setCell ⟨w.heap.size, 6, none⟩ (.slice A6 (k + (n - (k + 1))) c6)) (w.heap.size + 1 + 1) (⟨n0, R, rl, rc, E, el, ec, ja, jt, jf, A6, k + (n - (k + 1)), c6⟩ : FH)).ownsRow w3.heap.size 32 3 (.slice A6 (k + (n - (k + 1))) c6) (k + (n - (k + 1))) (vT (f.cs.take k ++ f.cs.drop (k + 1))) := by
        unfold putF
        exact (ownsRow_setCell_below (ownsRow_setCell_below (ownsRow_setCell_below (ownsRow_setCell_below (ownsRow_setCell_below (ownsRow_setCell_below (ownsRow_setCell_below (ownsRow_setCell_below HOW6.out (show w.heap.size < w3.heap.size by omega) _) (show w.heap.size + 1 + 1 < w3.heap.size by omega) _) (show w.heap.size + 1 + 1 < w3.heap.size by omega) _) (show w.heap.size + 1 + 1 < w3.heap.size by omega) _) (show w.heap.size + 1 + 1 < w3.heap.size by omega) _) (show w.heap.size + 1 + 1 < w3.heap.size by omega) _) (show w.heap.size + 1 + 1 < w3.heap.size by omega) _) (show w.heap.size + 1 + 1 < w3.heap.size by omega) _)
      show bodyPost _ _ _ _ _ (putF (w6.setCell ⟨w.heap.size, 6, none⟩ (.slice A6 (k + (n - (k + 1))) c6)) (w.heap.size + 1 + 1) (⟨n0, R, rl, rc, E, el, ec, ja, jt, jf, A6, k + (n - (k + 1)), c6⟩ : FH))
      obtain ⟨wz, hz⟩ : ∃ wz, putF (w6.setCell ⟨w.heap.size, 6, none⟩ (.slice A6 (k + (n - (k + 1))) c6)) (w.heap.size + 1 + 1) (⟨n0, R, rl, rc, E, el, ec, ja, jt, jf, A6, k + (n - (k + 1)), c6⟩ : FH) = wz := ⟨_, rfl⟩
      rw [hz] at P hB2 hO ⊢
      obtain ⟨-, p0, p1, p2, p3, p4, p5, p6⟩ := P
      dsimp only at p0 p1 p2 p3 p4 p5 p6
      obtain ⟨-, A9, c9, e9, hs9, -⟩ := own_T hO
      cases e9
      refine bodyPost_ret (v := .tuple #[.agg #[.int .i64 n0, .slice R rl rc, .slice E el ec, .int .i64 ja, .int .i64 jt, .int .i64 jf, .slice A6 (k + (n - (k + 1))) c6], .int .i64 0]) (by simp [results, Try.results22, p0, p1, p2, p3, p4, p5, p6, go_sem]) rfl ⟨hB2, (⟨n0, R, rl, rc, E, el, ec, ja, jt, jf, A6, k + (n - (k + 1)), c6⟩ : FH), rfl, ⟨fun _ => ⟨⟨HSS.out.n, HSS.out.ja, HSS.out.jt, HSS.out.jf, HSS.out.rl, HSS.out.el, hl6, HSS.out.sr.below hB2, HSS.out.se.below hB2, hs9⟩, hn6⟩, fun k => absurd rfl k⟩, fun n0 L => ⟨L.1.sep, L.2.1.sep, own_sep hO (by omega)⟩⟩
end Go.Proofs.Ytakbpgljbbkmkaa

/- The walk of the reference's Times. -/
namespace Go.Proofs.Ytakbpgljbbkmkaa
open Go.RowKit

set_option maxRecDepth 100000 in
set_option maxHeartbeats 6400000 in
theorem rTimes_no (h : FH) (f : Fo.Fm) (k t : Int) (V0 : ¬ Fo.Val f) (hcap : h.cl ≤ h.cc) (w : World) (hS : SlF w h f) :
    Calls Try.prog 24 #[.agg #[.int .i64 h.n, .slice h.R h.rl h.rc, .slice h.E h.el h.ec, .int .i64 h.ja, .int .i64 h.jt, .int .i64 h.jf, .slice h.C h.cl h.cc], .int .i64 k, .int .i64 t] w fun y w' => Below w.heap.size w w' ∧ ∃ h' : FH, y = .returned (.tuple #[.agg #[.int .i64 h'.n, .slice h'.R h'.rl h'.rc, .slice h'.E h'.el h'.ec, .int .i64 h'.ja, .int .i64 h'.jt, .int .i64 h'.jf, .slice h'.C h'.cl h'.cc], .int .i64 1]) ∧ FormR f 1 h' w' := by
    have HV := Lib.hid V0; have HCAP := Lib.hid hcap; have HSS := Lib.hid hS
    clear hS V0 hcap
    go_enter Try.func24, Try.ntmps24
    go_wp2_with fail
    have Q := (FV.new w h).alloc (.cells #[.int .i64 0, .slice none 0 0, .slice none 0 0, .int .i64 0, .int .i64 0, .int .i64 0, .slice none 0 0] 28)
    have V := FV.zero (w.alloc (.cells #[.int .i64 h.n, .slice h.R h.rl h.rc, .slice h.E h.el h.ec, .int .i64 h.ja, .int .i64 h.jt, .int .i64 h.jf, .slice h.C h.cl h.cc] 28))
    have B := ((Below.refl w.heap.size w).alloc (Nat.le_refl _) (.cells #[.int .i64 h.n, .slice h.R h.rl h.rc, .slice h.E h.el h.ec, .int .i64 h.ja, .int .i64 h.jt, .int .i64 h.jf, .slice h.C h.cl h.cc] 28)).alloc (by simp) (.cells #[.int .i64 0, .slice none 0 0, .slice none 0 0, .int .i64 0, .int .i64 0, .int .i64 0, .slice none 0 0] 28)
    rw [World.size_alloc] at V
    refine (rValid_is h f false ⟨(fun h => by cases h), fun k => absurd k HV.out⟩ HCAP.out _ ((HSS.out.alloc _).alloc _)).mono ?_; rintro e w1 ⟨rfl, hb⟩
    replace V := V.below hb; replace Q := Q.below hb; replace B := B.trans (hb.mono B.size)
    clear hb
    have Qq := Q.at_; have q0 := Qq.c0; have q1 := Qq.c1; have q2 := Qq.c2; have q3 := Qq.c3; have q4 := Qq.c4; have q5 := Qq.c5; have q6 := Qq.c6; have ql := Qq.lt; have k1 := Q.f 1
    have Vv := V.at_; have v0 := Vv.c0; have v1 := Vv.c1; have v2 := Vv.c2; have v3 := Vv.c3; have v4 := Vv.c4; have v5 := Vv.c5; have v6 := Vv.c6; have vl := Vv.lt; have g0 := V.f 0; have g1 := V.f 1; have g2 := V.f 2; have g3 := V.f 3; have g4 := V.f 4; have g5 := V.f 5; have g6 := V.f 6
    clear Qq Vv
    go_wp2_with fail
    have hB2 := putF_below B (show w.heap.size ≤ w.heap.size + 1 by omega) .zero
    have P := V.put .zero
    show bodyPost _ _ _ _ _ (putF w1 (w.heap.size + 1) .zero)
    obtain ⟨wz, hz⟩ : ∃ wz, putF w1 (w.heap.size + 1) .zero = wz := ⟨_, rfl⟩
    rw [hz] at P hB2 ⊢
    obtain ⟨-, p0, p1, p2, p3, p4, p5, p6⟩ := P
    dsimp only [FH.zero] at p0 p1 p2 p3 p4 p5 p6
    refine bodyPost_ret (v := .tuple #[.agg #[.int .i64 0, .slice none 0 0, .slice none 0 0, .int .i64 0, .int .i64 0, .int .i64 0, .slice none 0 0], .int .i64 1]) (by simp [results, Try.results24, p0, p1, p2, p3, p4, p5, p6, go_sem]) rfl ⟨hB2, .zero, rfl, fun h => (by cases h), fun _ => rfl⟩
set_option maxRecDepth 100000 in
set_option maxHeartbeats 6400000 in
theorem rTimes_four (h : FH) (f : Fo.Fm) (k t : Int) (V0 : Fo.Val f) (hk : ¬ (0 ≤ k ∧ k ≤ (h.rl : Int) - 1)) (hcap : h.cl ≤ h.cc) (w : World) (hS : SlF w h f) :
    Calls Try.prog 24 #[.agg #[.int .i64 h.n, .slice h.R h.rl h.rc, .slice h.E h.el h.ec, .int .i64 h.ja, .int .i64 h.jt, .int .i64 h.jf, .slice h.C h.cl h.cc], .int .i64 k, .int .i64 t] w fun y w' => Below w.heap.size w w' ∧ ∃ h' : FH, y = .returned (.tuple #[.agg #[.int .i64 h'.n, .slice h'.R h'.rl h'.rc, .slice h'.E h'.el h'.ec, .int .i64 h'.ja, .int .i64 h'.jt, .int .i64 h'.jf, .slice h'.C h'.cl h'.cc], .int .i64 4]) ∧ FormR f 4 h' w' := by
    have HV := Lib.hid V0; have HCAP := Lib.hid hcap; have HSS := Lib.hid hS
    clear hS V0 hcap
    by_cases h0 : k < 0
    case pos =>
      go_enter Try.func24, Try.ntmps24
      go_wp2_with fail
      have Q := (FV.new w h).alloc (.cells #[.int .i64 0, .slice none 0 0, .slice none 0 0, .int .i64 0, .int .i64 0, .int .i64 0, .slice none 0 0] 28)
      have V := FV.zero (w.alloc (.cells #[.int .i64 h.n, .slice h.R h.rl h.rc, .slice h.E h.el h.ec, .int .i64 h.ja, .int .i64 h.jt, .int .i64 h.jf, .slice h.C h.cl h.cc] 28))
      have B := ((Below.refl w.heap.size w).alloc (Nat.le_refl _) (.cells #[.int .i64 h.n, .slice h.R h.rl h.rc, .slice h.E h.el h.ec, .int .i64 h.ja, .int .i64 h.jt, .int .i64 h.jf, .slice h.C h.cl h.cc] 28)).alloc (by simp) (.cells #[.int .i64 0, .slice none 0 0, .slice none 0 0, .int .i64 0, .int .i64 0, .int .i64 0, .slice none 0 0] 28)
      rw [World.size_alloc] at V
      refine (rValid_is h f true ⟨fun _ => HV.out, fun _ => rfl⟩ HCAP.out _ ((HSS.out.alloc _).alloc _)).mono ?_; rintro e w1 ⟨rfl, hb⟩
      replace V := V.below hb; replace Q := Q.below hb; replace B := B.trans (hb.mono B.size)
      clear hb
      have Qq := Q.at_; have q0 := Qq.c0; have q1 := Qq.c1; have q2 := Qq.c2; have q3 := Qq.c3; have q4 := Qq.c4; have q5 := Qq.c5; have q6 := Qq.c6; have ql := Qq.lt; have k1 := Q.f 1
      have Vv := V.at_; have v0 := Vv.c0; have v1 := Vv.c1; have v2 := Vv.c2; have v3 := Vv.c3; have v4 := Vv.c4; have v5 := Vv.c5; have v6 := Vv.c6; have vl := Vv.lt; have g0 := V.f 0; have g1 := V.f 1; have g2 := V.f 2; have g3 := V.f 3; have g4 := V.f 4; have g5 := V.f 5; have g6 := V.f 6
      clear Qq Vv
      go_wp2_with fail
      have hB2 := putF_below B (show w.heap.size ≤ w.heap.size + 1 by omega) .zero
      have P := V.put .zero
      show bodyPost _ _ _ _ _ (putF w1 (w.heap.size + 1) .zero)
      obtain ⟨wz, hz⟩ : ∃ wz, putF w1 (w.heap.size + 1) .zero = wz := ⟨_, rfl⟩
      rw [hz] at P hB2 ⊢
      obtain ⟨-, p0, p1, p2, p3, p4, p5, p6⟩ := P
      dsimp only [FH.zero] at p0 p1 p2 p3 p4 p5 p6
      refine bodyPost_ret (v := .tuple #[.agg #[.int .i64 0, .slice none 0 0, .slice none 0 0, .int .i64 0, .int .i64 0, .int .i64 0, .slice none 0 0], .int .i64 4]) (by simp [results, Try.results24, p0, p1, p2, p3, p4, p5, p6, go_sem]) rfl ⟨hB2, .zero, rfl, fun h => (by cases h), fun _ => rfl⟩
    case neg =>
      have h1 : (h.rl : Int) ≤ k := by omega
      go_enter Try.func24, Try.ntmps24
      go_wp2_with fail
      have Q := (FV.new w h).alloc (.cells #[.int .i64 0, .slice none 0 0, .slice none 0 0, .int .i64 0, .int .i64 0, .int .i64 0, .slice none 0 0] 28)
      have V := FV.zero (w.alloc (.cells #[.int .i64 h.n, .slice h.R h.rl h.rc, .slice h.E h.el h.ec, .int .i64 h.ja, .int .i64 h.jt, .int .i64 h.jf, .slice h.C h.cl h.cc] 28))
      have B := ((Below.refl w.heap.size w).alloc (Nat.le_refl _) (.cells #[.int .i64 h.n, .slice h.R h.rl h.rc, .slice h.E h.el h.ec, .int .i64 h.ja, .int .i64 h.jt, .int .i64 h.jf, .slice h.C h.cl h.cc] 28)).alloc (by simp) (.cells #[.int .i64 0, .slice none 0 0, .slice none 0 0, .int .i64 0, .int .i64 0, .int .i64 0, .slice none 0 0] 28)
      rw [World.size_alloc] at V
      refine (rValid_is h f true ⟨fun _ => HV.out, fun _ => rfl⟩ HCAP.out _ ((HSS.out.alloc _).alloc _)).mono ?_; rintro e w1 ⟨rfl, hb⟩
      replace V := V.below hb; replace Q := Q.below hb; replace B := B.trans (hb.mono B.size)
      clear hb
      have Qq := Q.at_; have q0 := Qq.c0; have q1 := Qq.c1; have q2 := Qq.c2; have q3 := Qq.c3; have q4 := Qq.c4; have q5 := Qq.c5; have q6 := Qq.c6; have ql := Qq.lt; have k1 := Q.f 1
      have Vv := V.at_; have v0 := Vv.c0; have v1 := Vv.c1; have v2 := Vv.c2; have v3 := Vv.c3; have v4 := Vv.c4; have v5 := Vv.c5; have v6 := Vv.c6; have vl := Vv.lt; have g0 := V.f 0; have g1 := V.f 1; have g2 := V.f 2; have g3 := V.f 3; have g4 := V.f 4; have g5 := V.f 5; have g6 := V.f 6
      clear Qq Vv
      go_wp2_with fail
      have hB2 := putF_below B (show w.heap.size ≤ w.heap.size + 1 by omega) .zero
      have P := V.put .zero
      show bodyPost _ _ _ _ _ (putF w1 (w.heap.size + 1) .zero)
      obtain ⟨wz, hz⟩ : ∃ wz, putF w1 (w.heap.size + 1) .zero = wz := ⟨_, rfl⟩
      rw [hz] at P hB2 ⊢
      obtain ⟨-, p0, p1, p2, p3, p4, p5, p6⟩ := P
      dsimp only [FH.zero] at p0 p1 p2 p3 p4 p5 p6
      refine bodyPost_ret (v := .tuple #[.agg #[.int .i64 0, .slice none 0 0, .slice none 0 0, .int .i64 0, .int .i64 0, .int .i64 0, .slice none 0 0], .int .i64 4]) (by simp [results, Try.results24, p0, p1, p2, p3, p4, p5, p6, go_sem]) rfl ⟨hB2, .zero, rfl, fun h => (by cases h), fun _ => rfl⟩
set_option maxRecDepth 100000 in
set_option maxHeartbeats 6400000 in
theorem rTimes_one (h : FH) (f : Fo.Fm) (k t : Int) (V0 : Fo.Val f) (hk : 0 ≤ k ∧ k ≤ (h.rl : Int) - 1) (ht : ¬ (1 ≤ t ∧ t ≤ 9)) (hcap : h.cl ≤ h.cc) (w : World) (hS : SlF w h f) :
    Calls Try.prog 24 #[.agg #[.int .i64 h.n, .slice h.R h.rl h.rc, .slice h.E h.el h.ec, .int .i64 h.ja, .int .i64 h.jt, .int .i64 h.jf, .slice h.C h.cl h.cc], .int .i64 k, .int .i64 t] w fun y w' => Below w.heap.size w w' ∧ ∃ h' : FH, y = .returned (.tuple #[.agg #[.int .i64 h'.n, .slice h'.R h'.rl h'.rc, .slice h'.E h'.el h'.ec, .int .i64 h'.ja, .int .i64 h'.jt, .int .i64 h'.jf, .slice h'.C h'.cl h'.cc], .int .i64 1]) ∧ FormR f 1 h' w' := by
    have HV := Lib.hid V0; have HCAP := Lib.hid hcap; have HSS := Lib.hid hS
    clear hS V0 hcap
    have hk0 : ¬ k < 0 := by omega
    have hk1 : ¬ (h.rl : Int) ≤ k := by omega
    by_cases h0 : t < 1
    case pos =>
      go_enter Try.func24, Try.ntmps24
      go_wp2_with fail
      have Q := (FV.new w h).alloc (.cells #[.int .i64 0, .slice none 0 0, .slice none 0 0, .int .i64 0, .int .i64 0, .int .i64 0, .slice none 0 0] 28)
      have V := FV.zero (w.alloc (.cells #[.int .i64 h.n, .slice h.R h.rl h.rc, .slice h.E h.el h.ec, .int .i64 h.ja, .int .i64 h.jt, .int .i64 h.jf, .slice h.C h.cl h.cc] 28))
      have B := ((Below.refl w.heap.size w).alloc (Nat.le_refl _) (.cells #[.int .i64 h.n, .slice h.R h.rl h.rc, .slice h.E h.el h.ec, .int .i64 h.ja, .int .i64 h.jt, .int .i64 h.jf, .slice h.C h.cl h.cc] 28)).alloc (by simp) (.cells #[.int .i64 0, .slice none 0 0, .slice none 0 0, .int .i64 0, .int .i64 0, .int .i64 0, .slice none 0 0] 28)
      rw [World.size_alloc] at V
      refine (rValid_is h f true ⟨fun _ => HV.out, fun _ => rfl⟩ HCAP.out _ ((HSS.out.alloc _).alloc _)).mono ?_; rintro e w1 ⟨rfl, hb⟩
      replace V := V.below hb; replace Q := Q.below hb; replace B := B.trans (hb.mono B.size)
      clear hb
      have Qq := Q.at_; have q0 := Qq.c0; have q1 := Qq.c1; have q2 := Qq.c2; have q3 := Qq.c3; have q4 := Qq.c4; have q5 := Qq.c5; have q6 := Qq.c6; have ql := Qq.lt; have k1 := Q.f 1
      have Vv := V.at_; have v0 := Vv.c0; have v1 := Vv.c1; have v2 := Vv.c2; have v3 := Vv.c3; have v4 := Vv.c4; have v5 := Vv.c5; have v6 := Vv.c6; have vl := Vv.lt; have g0 := V.f 0; have g1 := V.f 1; have g2 := V.f 2; have g3 := V.f 3; have g4 := V.f 4; have g5 := V.f 5; have g6 := V.f 6
      clear Qq Vv
      go_wp2_with fail
      have hB2 := putF_below B (show w.heap.size ≤ w.heap.size + 1 by omega) .zero
      have P := V.put .zero
      show bodyPost _ _ _ _ _ (putF w1 (w.heap.size + 1) .zero)
      obtain ⟨wz, hz⟩ : ∃ wz, putF w1 (w.heap.size + 1) .zero = wz := ⟨_, rfl⟩
      rw [hz] at P hB2 ⊢
      obtain ⟨-, p0, p1, p2, p3, p4, p5, p6⟩ := P
      dsimp only [FH.zero] at p0 p1 p2 p3 p4 p5 p6
      refine bodyPost_ret (v := .tuple #[.agg #[.int .i64 0, .slice none 0 0, .slice none 0 0, .int .i64 0, .int .i64 0, .int .i64 0, .slice none 0 0], .int .i64 1]) (by simp [results, Try.results24, p0, p1, p2, p3, p4, p5, p6, go_sem]) rfl ⟨hB2, .zero, rfl, fun h => (by cases h), fun _ => rfl⟩
    case neg =>
      have h1 : 9 < t := by omega
      go_enter Try.func24, Try.ntmps24
      go_wp2_with fail
      have Q := (FV.new w h).alloc (.cells #[.int .i64 0, .slice none 0 0, .slice none 0 0, .int .i64 0, .int .i64 0, .int .i64 0, .slice none 0 0] 28)
      have V := FV.zero (w.alloc (.cells #[.int .i64 h.n, .slice h.R h.rl h.rc, .slice h.E h.el h.ec, .int .i64 h.ja, .int .i64 h.jt, .int .i64 h.jf, .slice h.C h.cl h.cc] 28))
      have B := ((Below.refl w.heap.size w).alloc (Nat.le_refl _) (.cells #[.int .i64 h.n, .slice h.R h.rl h.rc, .slice h.E h.el h.ec, .int .i64 h.ja, .int .i64 h.jt, .int .i64 h.jf, .slice h.C h.cl h.cc] 28)).alloc (by simp) (.cells #[.int .i64 0, .slice none 0 0, .slice none 0 0, .int .i64 0, .int .i64 0, .int .i64 0, .slice none 0 0] 28)
      rw [World.size_alloc] at V
      refine (rValid_is h f true ⟨fun _ => HV.out, fun _ => rfl⟩ HCAP.out _ ((HSS.out.alloc _).alloc _)).mono ?_; rintro e w1 ⟨rfl, hb⟩
      replace V := V.below hb; replace Q := Q.below hb; replace B := B.trans (hb.mono B.size)
      clear hb
      have Qq := Q.at_; have q0 := Qq.c0; have q1 := Qq.c1; have q2 := Qq.c2; have q3 := Qq.c3; have q4 := Qq.c4; have q5 := Qq.c5; have q6 := Qq.c6; have ql := Qq.lt; have k1 := Q.f 1
      have Vv := V.at_; have v0 := Vv.c0; have v1 := Vv.c1; have v2 := Vv.c2; have v3 := Vv.c3; have v4 := Vv.c4; have v5 := Vv.c5; have v6 := Vv.c6; have vl := Vv.lt; have g0 := V.f 0; have g1 := V.f 1; have g2 := V.f 2; have g3 := V.f 3; have g4 := V.f 4; have g5 := V.f 5; have g6 := V.f 6
      clear Qq Vv
      go_wp2_with fail
      have hB2 := putF_below B (show w.heap.size ≤ w.heap.size + 1 by omega) .zero
      have P := V.put .zero
      show bodyPost _ _ _ _ _ (putF w1 (w.heap.size + 1) .zero)
      obtain ⟨wz, hz⟩ : ∃ wz, putF w1 (w.heap.size + 1) .zero = wz := ⟨_, rfl⟩
      rw [hz] at P hB2 ⊢
      obtain ⟨-, p0, p1, p2, p3, p4, p5, p6⟩ := P
      dsimp only [FH.zero] at p0 p1 p2 p3 p4 p5 p6
      refine bodyPost_ret (v := .tuple #[.agg #[.int .i64 0, .slice none 0 0, .slice none 0 0, .int .i64 0, .int .i64 0, .int .i64 0, .slice none 0 0], .int .i64 1]) (by simp [results, Try.results24, p0, p1, p2, p3, p4, p5, p6, go_sem]) rfl ⟨hB2, .zero, rfl, fun h => (by cases h), fun _ => rfl⟩
theorem FB.reps {w : World} {b : Nat} {s : FH} (h : FB w b s) (R : Option Addr) (rl rc : Nat) : FB (w.setCell ⟨b, 1, none⟩ (.slice R rl rc)) b {s with R := R, rl := rl, rc := rc} := by
  obtain ⟨l, c0, c1, c2, c3, c4, c5, c6⟩ := h
  have k : ∀ j, j ≠ 1 → (w.setCell ⟨b, 1, none⟩ (.slice R rl rc)).cell? ⟨b, j, none⟩ = w.cell? ⟨b, j, none⟩ := fun j hj => World.cell?_setCell_other (w := w) (a := ⟨b, 1, none⟩) (b := ⟨b, j, none⟩) (v := .slice R rl rc) (fun e2 => by cases e2; exact hj rfl)
  exact ⟨by simpa using l, (k 0 (by decide)).trans c0, World.cell?_setCell_same w _ _ c1, (k 2 (by decide)).trans c2, (k 3 (by decide)).trans c3, (k 4 (by decide)).trans c4, (k 5 (by decide)).trans c5, (k 6 (by decide)).trans c6⟩
theorem FW.reps {w : World} {b : Nat} {s : FH} (h : FW w b s) (R : Option Addr) (rl rc : Nat) : FW (w.setCell ⟨b, 1, none⟩ (.slice R rl rc)) b {s with R := R, rl := rl, rc := rc} := ⟨h.a.reps R rl rc, fun j => by rw [World.frozen?_setCell]; exact h.f j⟩
theorem own_cellC {w : World} {base g n cap k : Nat} {e : TypeId} {l : List Fo.T3} (h : w.ownsRow base e 3 (.slice (some ⟨g, 0, none⟩) n cap) n (vT l)) (hk : k < l.length) : w.cell? ⟨g, k * 3 + 2, none⟩ = some (.int .i64 (Fo.at3 l k).c) := by
  obtain ⟨hl, _, _, e1, s1, -⟩ := own_T h
  cases e1
  obtain ⟨b9, o9, e9, _, hc9⟩ := s1 (by omega)
  cases e9
  have := (hc9 k hk).c2
  rwa [Nat.zero_add] at this
theorem okJ_max {f : Fo.Fm} (V : Fo.Ok f) : f.ja ≤ 4000 ∧ 0 ≤ f.jt ∧ f.jf ≤ 4000 := by
  have hn := V.n.2
  rcases V.j with ⟨h1, h2, h3⟩ | ⟨⟨h1, h2, h3, h4, h5, h6⟩, _⟩
  · omega
  · omega
set_option maxRecDepth 100000 in
set_option maxHeartbeats 6400000 in
theorem rTimes_two (h : FH) (f : Fo.Fm) (k : Nat) (t : Int) (V0 : Fo.Val f) (hk : k < h.rl) (ht : 1 ≤ t ∧ t ≤ 9) (hsz : 20000 < (Fo.whl (Fo.setC f k t)).length) (hnil : h.R = none → h.rc = 0) (hcap : h.cl ≤ h.cc) (w : World) (hS : SlF w h f) :
    Calls Try.prog 24 #[.agg #[.int .i64 h.n, .slice h.R h.rl h.rc, .slice h.E h.el h.ec, .int .i64 h.ja, .int .i64 h.jt, .int .i64 h.jf, .slice h.C h.cl h.cc], .int .i64 (k : Int), .int .i64 t] w fun y w' => Below w.heap.size w w' ∧ ∃ h' : FH, y = .returned (.tuple #[.agg #[.int .i64 h'.n, .slice h'.R h'.rl h'.rc, .slice h'.E h'.el h'.ec, .int .i64 h'.ja, .int .i64 h'.jt, .int .i64 h'.jf, .slice h'.C h'.cl h'.cc], .int .i64 2]) ∧ FormR f 2 h' w' := by
    have HV := Lib.hid V0; have HCAP := Lib.hid hcap; have HSS := Lib.hid hS
    obtain ⟨ic, hi0, hz0, hz1, hz2⟩ := info_parts infoRepeat
    have HI := Lib.hid (And.intro hi0 (And.intro hz0 (And.intro hz1 hz2)))
    have HK := Lib.hid ht; have HSZ := Lib.hid hsz; have HNIL := Lib.hid hnil
    have hrl : h.rl ≤ 100 := by have := V0.rl; have := hS.rl; omega
    have HRL := Lib.hid hrl
    have HEL := Lib.hid (show h.el ≤ 100 by have := V0.el; have := hS.el; omega)
    have HKL : Hid (k < f.rs.length) := Lib.hid (by rw [hS.rl]; exact hk)
    have hk0 : ¬ (k : Int) < 0 := by omega
    have hk1 : ¬ (h.rl : Int) ≤ (k : Int) := by omega
    have hk2 : ¬ h.rl ≤ k := by omega
    have ht0 : ¬ t < 1 := by omega
    have ht1 : ¬ 9 < t := by omega
    have hki : (k : Int) < (h.rl : Int) := by omega
    clear hS V0 ht hsz hcap hnil hi0 hz0 hz1 hz2
    go_enter Try.func24, Try.ntmps24
    go_wp2_with fail
    have Q := (FV.new w h).alloc (.cells #[.int .i64 0, .slice none 0 0, .slice none 0 0, .int .i64 0, .int .i64 0, .int .i64 0, .slice none 0 0] 28)
    have V := FV.zero (w.alloc (.cells #[.int .i64 h.n, .slice h.R h.rl h.rc, .slice h.E h.el h.ec, .int .i64 h.ja, .int .i64 h.jt, .int .i64 h.jf, .slice h.C h.cl h.cc] 28))
    have B := ((Below.refl w.heap.size w).alloc (Nat.le_refl _) (.cells #[.int .i64 h.n, .slice h.R h.rl h.rc, .slice h.E h.el h.ec, .int .i64 h.ja, .int .i64 h.jt, .int .i64 h.jf, .slice h.C h.cl h.cc] 28)).alloc (by simp) (.cells #[.int .i64 0, .slice none 0 0, .slice none 0 0, .int .i64 0, .int .i64 0, .int .i64 0, .slice none 0 0] 28)
    rw [World.size_alloc] at V
    refine (rValid_is h f true ⟨fun _ => HV.out, fun _ => rfl⟩ HCAP.out _ ((HSS.out.alloc _).alloc _)).mono ?_; rintro e w1 ⟨rfl, hb⟩
    replace V := V.below hb; replace Q := Q.below hb; replace B := B.trans (hb.mono B.size)
    clear hb
    have hl1 := V.at_.lt
    have Qq := Q.at_; have q0 := Qq.c0; have q1 := Qq.c1; have q2 := Qq.c2; have q3 := Qq.c3; have q4 := Qq.c4; have q5 := Qq.c5; have q6 := Qq.c6; have ql := Qq.lt; have k1 := Q.f 1
    have Vv := V.at_; have v0 := Vv.c0; have v1 := Vv.c1; have v2 := Vv.c2; have v3 := Vv.c3; have v4 := Vv.c4; have v5 := Vv.c5; have v6 := Vv.c6; have vl := Vv.lt; have g0 := V.f 0; have g1 := V.f 1; have g2 := V.f 2; have g3 := V.f 3; have g4 := V.f 4; have g5 := V.f 5; have g6 := V.f 6
    clear Qq Vv
    go_wp2_with (first | (at_builtin; refine append_slt rfl _ _ 22 rfl w1.heap.size 54 ic (.agg #[.int .i64 0, .int .i64 0, .int .i64 0]) 24 Try.underlying22 HI.out.1 HI.out.2.1 HI.out.2.2.1 HI.out.2.2.2 rfl (.slice none 0 0) 0 [] rfl (World.ownsRow_nil _ _ _ _) h.R h.rl h.rc f.rs rfl HNIL.out HSS.out.rl (HSS.out.sr.below B) (by unfold maxLen; omega) (by omega) (Nat.le_refl _) ?_; intro y5 w5 hown5 hgrow5; have hb5 := none_below (show w1.grownBy w5 none from hgrow5); clear q0 q1 q2 q3 q4 q5 q6 ql k1 v0 v1 v2 v3 v4 v5 v6 vl g0 g1 g2 g3 g4 g5 g6; rw [Nat.zero_add, List.nil_append] at hown5; replace V := V.below hb5; replace Q := Q.below hb5; replace B := B.trans (hb5.mono B.size); have hsz5 := hb5.size; clear hb5 hgrow5; obtain ⟨-, A5, cap5, rfl, -, -⟩ := own_T hown5; obtain ⟨g, rfl, hg0, hg1⟩ := own_openT hown5 (by omega); have hgn : ¬ g = w.heap.size := (by omega); have hgn2 : ¬ w.heap.size = g := (by omega); have hgm : ¬ g = w.heap.size + 1 := (by omega); have hgm2 : ¬ w.heap.size + 1 = g := (by omega); have C2 := own_cellC hown5 HKL.out; have CF := own_frz hown5 (k * 3 + 2); have HO5 := Lib.hid hown5; clear hown5; have Qq := Q.at_; have q0 := Qq.c0; have q1 := Qq.c1; have q2 := Qq.c2; have q3 := Qq.c3; have q4 := Qq.c4; have q5 := Qq.c5; have q6 := Qq.c6; have ql := Qq.lt; have k1 := Q.f 1; have Vv := V.at_; have v0 := Vv.c0; have v1 := Vv.c1; have v2 := Vv.c2; have v3 := Vv.c3; have v4 := Vv.c4; have v5 := Vv.c5; have v6 := Vv.c6; have vl := Vv.lt; have g0 := V.f 0; have g1 := V.f 1; have g2 := V.f 2; have g3 := V.f 3; have g4 := V.f 4; have g5 := V.f 5; have g6 := V.f 6; clear Qq Vv) | fail)
    clear q0 q1 q2 q3 q4 q5 q6 ql k1 v0 v1 v2 v3 v4 v5 v6 vl g0 g1 g2 g3 g4 g5 g6
    have HO7 := own_setS (own_putT (t := t) HO5.out HKL.out) (b := w.heap.size) (by intro e8; have e7 : g = w.heap.size := Option.some.inj e8; omega) 1 (.slice (some ⟨g, 0, none⟩) h.rl cap5)
    have Q7 := ((Q.fw.other (c := g) (k := k * 3 + 2) (by omega) (.int .i64 t)).reps (some ⟨g, 0, none⟩) h.rl cap5)
    have V7 := (V.fw.other (c := g) (k := k * 3 + 2) (by omega) (.int .i64 t)).other (c := w.heap.size) (k := 1) (by omega) (.slice (some ⟨g, 0, none⟩) h.rl cap5)
    have B7 := (B.setCell (p := ⟨g, k * 3 + 2, none⟩) (show w.heap.size ≤ g by omega) (.int .i64 t)).setCell (p := ⟨w.heap.size, 1, none⟩) (Nat.le_refl _) (.slice (some ⟨g, 0, none⟩) h.rl cap5)
    clear Q V B C2 CF
    obtain ⟨X, hX⟩ : ∃ X, (w5.setCell ⟨g, k * 3 + 2, none⟩ (.int .i64 t)).setCell ⟨w.heap.size, 1, none⟩ (.slice (some ⟨g, 0, none⟩) h.rl cap5) = X := ⟨_, rfl⟩
    rw [hX] at HO7 Q7 V7 B7
    rw [hX]
    clear hX
    have HCF := Lib.hid HO7
    obtain ⟨-, _, _, e1, s1, n1⟩ := own_T HO7
    cases e1
    have HVC := Lib.hid (HV.out.ok.setC (k := k) HK.out)
    have hle : w.heap.size ≤ X.heap.size := B7.size
    have HSX : Hid (SlF X {h with R := some ⟨g, 0, none⟩, rc := cap5} (Fo.setC f k t)) := Lib.hid ⟨HSS.out.n, HSS.out.ja, HSS.out.jt, HSS.out.jf, (by show (Fo.setL f.rs k t).length = h.rl; rw [Fo.setL_len]; exact HSS.out.rl), HSS.out.el, HSS.out.cl, s1, HSS.out.se.below B7, HSS.out.sc.below B7⟩
    refine (rwhole_is {h with R := some ⟨g, 0, none⟩, rc := cap5} (Fo.setC f k t) (HVC.out.rs.rgs HVC.out.n.2) (by have := HVC.out.n.2; have e9 := HSX.out.n; dsimp only at e9 ⊢; omega) (by have := okJ_max HVC.out; have e9 := HSX.out.ja; dsimp only at e9 ⊢; omega) (by have := okJ_max HVC.out; have e9 := HSX.out.jt; dsimp only at e9 ⊢; omega) (by have := okJ_max HVC.out; have e9 := HSX.out.jf; dsimp only at e9 ⊢; omega) HRL.out HEL.out _ HSX.out).mono ?_; rintro e w6 ⟨hb, v6, rfl, OW⟩
    obtain ⟨-, A6, c6, rfl, -⟩ := own_k OW
    have hsz := HSZ.out
    obtain ⟨z, hz⟩ : ∃ z, (Fo.whl (Fo.setC f k t)).length = z := ⟨_, rfl⟩
    rw [hz] at hsz ⊢
    have HZ := Lib.hid hz
    clear hz s1 OW HO7
    have HO8 := Lib.hid (HCF.out.kept (below_grown hb none) none_ne)
    have Q := Q7.below hb; have V := V7.below hb; have B := B7.trans (hb.mono B7.size)
    clear hb Q7 V7 B7
    have hsz2 : (20000 : Int) < (z : Int) := by omega
    have q0 := Q.a.c0; have q1 := Q.a.c1; have q2 := Q.a.c2; have q3 := Q.a.c3; have q4 := Q.a.c4; have q5 := Q.a.c5; have q6 := Q.a.c6; have ql := Q.a.lt; (try dsimp only at q0 q1 q2 q3 q4 q5 q6)
    have v0 := V.a.c0; have v1 := V.a.c1; have v2 := V.a.c2; have v3 := V.a.c3; have v4 := V.a.c4; have v5 := V.a.c5; have v6 := V.a.c6; have vl := V.a.lt; have g0 := V.f 0; have g1 := V.f 1; have g2 := V.f 2; have g3 := V.f 3; have g4 := V.f 4; have g5 := V.f 5; have g6 := V.f 6; (try dsimp only at v0 v1 v2 v3 v4 v5 v6)
    go_wp2_with fail
    have hB2 := putF_below B (show w.heap.size ≤ w.heap.size + 1 by omega) .zero
    have P := V.put .zero
    show bodyPost _ _ _ _ _ (putF w6 (w.heap.size + 1) .zero)
    obtain ⟨wz, hz⟩ : ∃ wz, putF w6 (w.heap.size + 1) .zero = wz := ⟨_, rfl⟩
    rw [hz] at P hB2 ⊢
    obtain ⟨-, p0, p1, p2, p3, p4, p5, p6⟩ := P.a
    dsimp only [FH.zero] at p0 p1 p2 p3 p4 p5 p6
    refine bodyPost_ret (v := .tuple #[.agg #[.int .i64 0, .slice none 0 0, .slice none 0 0, .int .i64 0, .int .i64 0, .int .i64 0, .slice none 0 0], .int .i64 2]) (by simp [results, Try.results24, p0, p1, p2, p3, p4, p5, p6, go_sem]) rfl ⟨hB2, .zero, rfl, fun h => (by cases h), fun _ => rfl⟩
set_option maxRecDepth 100000 in
set_option maxHeartbeats 6400000 in
theorem rTimes_ok (h : FH) (f : Fo.Fm) (k : Nat) (t : Int) (V0 : Fo.Val f) (hk : k < h.rl) (ht : 1 ≤ t ∧ t ≤ 9) (hsz : (Fo.whl (Fo.setC f k t)).length ≤ 20000) (hnil : h.R = none → h.rc = 0) (hcap : h.cl ≤ h.cc) (w : World) (hS : SlF w h f) :
    Calls Try.prog 24 #[.agg #[.int .i64 h.n, .slice h.R h.rl h.rc, .slice h.E h.el h.ec, .int .i64 h.ja, .int .i64 h.jt, .int .i64 h.jf, .slice h.C h.cl h.cc], .int .i64 (k : Int), .int .i64 t] w fun y w' => Below w.heap.size w w' ∧ ∃ h' : FH, y = .returned (.tuple #[.agg #[.int .i64 h'.n, .slice h'.R h'.rl h'.rc, .slice h'.E h'.el h'.ec, .int .i64 h'.ja, .int .i64 h'.jt, .int .i64 h'.jf, .slice h'.C h'.cl h'.cc], .int .i64 0]) ∧ (FormR (Fo.setC f k t) 0 h' w' ∧ ∀ n0, LowF n0 h f → SepF n0 w.heap.size h' (Fo.setC f k t)) := by
    have HV := Lib.hid V0; have HCAP := Lib.hid hcap; have HSS := Lib.hid hS
    obtain ⟨ic, hi0, hz0, hz1, hz2⟩ := info_parts infoRepeat
    have HI := Lib.hid (And.intro hi0 (And.intro hz0 (And.intro hz1 hz2)))
    have HK := Lib.hid ht; have HSZ := Lib.hid hsz; have HNIL := Lib.hid hnil
    have hrl : h.rl ≤ 100 := by have := V0.rl; have := hS.rl; omega
    have HRL := Lib.hid hrl
    have HEL := Lib.hid (show h.el ≤ 100 by have := V0.el; have := hS.el; omega)
    have HKL : Hid (k < f.rs.length) := Lib.hid (by rw [hS.rl]; exact hk)
    have hk0 : ¬ (k : Int) < 0 := by omega
    have hk1 : ¬ (h.rl : Int) ≤ (k : Int) := by omega
    have hk2 : ¬ h.rl ≤ k := by omega
    have ht0 : ¬ t < 1 := by omega
    have ht1 : ¬ 9 < t := by omega
    have hki : (k : Int) < (h.rl : Int) := by omega
    clear hS V0 ht hsz hcap hnil hi0 hz0 hz1 hz2
    go_enter Try.func24, Try.ntmps24
    go_wp2_with fail
    have Q := (FV.new w h).alloc (.cells #[.int .i64 0, .slice none 0 0, .slice none 0 0, .int .i64 0, .int .i64 0, .int .i64 0, .slice none 0 0] 28)
    have V := FV.zero (w.alloc (.cells #[.int .i64 h.n, .slice h.R h.rl h.rc, .slice h.E h.el h.ec, .int .i64 h.ja, .int .i64 h.jt, .int .i64 h.jf, .slice h.C h.cl h.cc] 28))
    have B := ((Below.refl w.heap.size w).alloc (Nat.le_refl _) (.cells #[.int .i64 h.n, .slice h.R h.rl h.rc, .slice h.E h.el h.ec, .int .i64 h.ja, .int .i64 h.jt, .int .i64 h.jf, .slice h.C h.cl h.cc] 28)).alloc (by simp) (.cells #[.int .i64 0, .slice none 0 0, .slice none 0 0, .int .i64 0, .int .i64 0, .int .i64 0, .slice none 0 0] 28)
    rw [World.size_alloc] at V
    refine (rValid_is h f true ⟨fun _ => HV.out, fun _ => rfl⟩ HCAP.out _ ((HSS.out.alloc _).alloc _)).mono ?_; rintro e w1 ⟨rfl, hb⟩
    replace V := V.below hb; replace Q := Q.below hb; replace B := B.trans (hb.mono B.size)
    clear hb
    have hl1 := V.at_.lt
    have Qq := Q.at_; have q0 := Qq.c0; have q1 := Qq.c1; have q2 := Qq.c2; have q3 := Qq.c3; have q4 := Qq.c4; have q5 := Qq.c5; have q6 := Qq.c6; have ql := Qq.lt; have k1 := Q.f 1
    have Vv := V.at_; have v0 := Vv.c0; have v1 := Vv.c1; have v2 := Vv.c2; have v3 := Vv.c3; have v4 := Vv.c4; have v5 := Vv.c5; have v6 := Vv.c6; have vl := Vv.lt; have g0 := V.f 0; have g1 := V.f 1; have g2 := V.f 2; have g3 := V.f 3; have g4 := V.f 4; have g5 := V.f 5; have g6 := V.f 6
    clear Qq Vv
    go_wp2_with (first | (at_builtin; refine append_slt rfl _ _ 22 rfl w1.heap.size 54 ic (.agg #[.int .i64 0, .int .i64 0, .int .i64 0]) 24 Try.underlying22 HI.out.1 HI.out.2.1 HI.out.2.2.1 HI.out.2.2.2 rfl (.slice none 0 0) 0 [] rfl (World.ownsRow_nil _ _ _ _) h.R h.rl h.rc f.rs rfl HNIL.out HSS.out.rl (HSS.out.sr.below B) (by unfold maxLen; omega) (by omega) (Nat.le_refl _) ?_; intro y5 w5 hown5 hgrow5; have hb5 := none_below (show w1.grownBy w5 none from hgrow5); clear q0 q1 q2 q3 q4 q5 q6 ql k1 v0 v1 v2 v3 v4 v5 v6 vl g0 g1 g2 g3 g4 g5 g6; rw [Nat.zero_add, List.nil_append] at hown5; replace V := V.below hb5; replace Q := Q.below hb5; replace B := B.trans (hb5.mono B.size); have hsz5 := hb5.size; clear hb5 hgrow5; obtain ⟨-, A5, cap5, rfl, -, -⟩ := own_T hown5; obtain ⟨g, rfl, hg0, hg1⟩ := own_openT hown5 (by omega); have hgn : ¬ g = w.heap.size := (by omega); have hgn2 : ¬ w.heap.size = g := (by omega); have hgm : ¬ g = w.heap.size + 1 := (by omega); have hgm2 : ¬ w.heap.size + 1 = g := (by omega); have C2 := own_cellC hown5 HKL.out; have CF := own_frz hown5 (k * 3 + 2); have HO5 := Lib.hid hown5; clear hown5; have Qq := Q.at_; have q0 := Qq.c0; have q1 := Qq.c1; have q2 := Qq.c2; have q3 := Qq.c3; have q4 := Qq.c4; have q5 := Qq.c5; have q6 := Qq.c6; have ql := Qq.lt; have k1 := Q.f 1; have Vv := V.at_; have v0 := Vv.c0; have v1 := Vv.c1; have v2 := Vv.c2; have v3 := Vv.c3; have v4 := Vv.c4; have v5 := Vv.c5; have v6 := Vv.c6; have vl := Vv.lt; have g0 := V.f 0; have g1 := V.f 1; have g2 := V.f 2; have g3 := V.f 3; have g4 := V.f 4; have g5 := V.f 5; have g6 := V.f 6; clear Qq Vv) | fail)
    clear q0 q1 q2 q3 q4 q5 q6 ql k1 v0 v1 v2 v3 v4 v5 v6 vl g0 g1 g2 g3 g4 g5 g6
    have HO7 := own_setS (own_putT (t := t) HO5.out HKL.out) (b := w.heap.size) (by intro e8; have e7 : g = w.heap.size := Option.some.inj e8; omega) 1 (.slice (some ⟨g, 0, none⟩) h.rl cap5)
    have Q7 := ((Q.fw.other (c := g) (k := k * 3 + 2) (by omega) (.int .i64 t)).reps (some ⟨g, 0, none⟩) h.rl cap5)
    have V7 := (V.fw.other (c := g) (k := k * 3 + 2) (by omega) (.int .i64 t)).other (c := w.heap.size) (k := 1) (by omega) (.slice (some ⟨g, 0, none⟩) h.rl cap5)
    have B7 := (B.setCell (p := ⟨g, k * 3 + 2, none⟩) (show w.heap.size ≤ g by omega) (.int .i64 t)).setCell (p := ⟨w.heap.size, 1, none⟩) (Nat.le_refl _) (.slice (some ⟨g, 0, none⟩) h.rl cap5)
    clear Q V B C2 CF
    obtain ⟨X, hX⟩ : ∃ X, (w5.setCell ⟨g, k * 3 + 2, none⟩ (.int .i64 t)).setCell ⟨w.heap.size, 1, none⟩ (.slice (some ⟨g, 0, none⟩) h.rl cap5) = X := ⟨_, rfl⟩
    rw [hX] at HO7 Q7 V7 B7
    rw [hX]
    clear hX
    have HCF := Lib.hid HO7
    obtain ⟨-, _, _, e1, s1, n1⟩ := own_T HO7
    cases e1
    have HVC := Lib.hid (HV.out.ok.setC (k := k) HK.out)
    have hle : w.heap.size ≤ X.heap.size := B7.size
    have HSX : Hid (SlF X {h with R := some ⟨g, 0, none⟩, rc := cap5} (Fo.setC f k t)) := Lib.hid ⟨HSS.out.n, HSS.out.ja, HSS.out.jt, HSS.out.jf, (by show (Fo.setL f.rs k t).length = h.rl; rw [Fo.setL_len]; exact HSS.out.rl), HSS.out.el, HSS.out.cl, s1, HSS.out.se.below B7, HSS.out.sc.below B7⟩
    refine (rwhole_is {h with R := some ⟨g, 0, none⟩, rc := cap5} (Fo.setC f k t) (HVC.out.rs.rgs HVC.out.n.2) (by have := HVC.out.n.2; have e9 := HSX.out.n; dsimp only at e9 ⊢; omega) (by have := okJ_max HVC.out; have e9 := HSX.out.ja; dsimp only at e9 ⊢; omega) (by have := okJ_max HVC.out; have e9 := HSX.out.jt; dsimp only at e9 ⊢; omega) (by have := okJ_max HVC.out; have e9 := HSX.out.jf; dsimp only at e9 ⊢; omega) HRL.out HEL.out _ HSX.out).mono ?_; rintro e w6 ⟨hb, v6, rfl, OW⟩
    obtain ⟨-, A6, c6, rfl, -⟩ := own_k OW
    have hsz := HSZ.out
    obtain ⟨z, hz⟩ : ∃ z, (Fo.whl (Fo.setC f k t)).length = z := ⟨_, rfl⟩
    rw [hz] at hsz ⊢
    have HZ := Lib.hid hz
    clear hz s1 OW HO7
    have HO8 := Lib.hid (HCF.out.kept (below_grown hb none) none_ne)
    have Q := Q7.below hb; have V := V7.below hb; have B := B7.trans (hb.mono B7.size)
    clear hb Q7 V7 B7
    have hsz2 : ¬ (20000 : Int) < (z : Int) := by omega
    have q0 := Q.a.c0; have q1 := Q.a.c1; have q2 := Q.a.c2; have q3 := Q.a.c3; have q4 := Q.a.c4; have q5 := Q.a.c5; have q6 := Q.a.c6; have ql := Q.a.lt; (try dsimp only at q0 q1 q2 q3 q4 q5 q6)
    have v0 := V.a.c0; have v1 := V.a.c1; have v2 := V.a.c2; have v3 := V.a.c3; have v4 := V.a.c4; have v5 := V.a.c5; have v6 := V.a.c6; have vl := V.a.lt; have g0 := V.f 0; have g1 := V.f 1; have g2 := V.f 2; have g3 := V.f 3; have g4 := V.f 4; have g5 := V.f 5; have g6 := V.f 6; (try dsimp only at v0 v1 v2 v3 v4 v5 v6)
    go_wp2_with fail
    have hB2 := putF_below B (show w.heap.size ≤ w.heap.size + 1 by omega) {h with R := some ⟨g, 0, none⟩, rc := cap5}
    have P := V.put {h with R := some ⟨g, 0, none⟩, rc := cap5}
    have OR9 := own_putF HO8.out (own_far HO8.out (show w.heap.size + 1 < w1.heap.size by omega)) {h with R := some ⟨g, 0, none⟩, rc := cap5}
    obtain ⟨-, _, _, e1, s1, -⟩ := own_T OR9
    cases e1
    have HS6 : Hid (SlF (putF w6 (w.heap.size + 1) {h with R := some ⟨g, 0, none⟩, rc := cap5}) {h with R := some ⟨g, 0, none⟩, rc := cap5} (Fo.setC f k t)) := Lib.hid ⟨HSS.out.n, HSS.out.ja, HSS.out.jt, HSS.out.jf, (by show (Fo.setL f.rs k t).length = h.rl; rw [Fo.setL_len]; exact HSS.out.rl), HSS.out.el, HSS.out.cl, s1, HSS.out.se.below hB2, HSS.out.sc.below hB2⟩
    have HSE : Hid (∀ n0, LowF n0 h f → SepF n0 w.heap.size {h with R := some ⟨g, 0, none⟩, rc := cap5} (Fo.setC f k t)) := Lib.hid (fun n0 L => ⟨own_sep OR9 (by omega), L.2.1.sep, L.2.2.sep⟩)
    clear OR9
    show bodyPost _ _ _ _ _ (putF w6 (w.heap.size + 1) {h with R := some ⟨g, 0, none⟩, rc := cap5})
    obtain ⟨wz, hz⟩ : ∃ wz, putF w6 (w.heap.size + 1) {h with R := some ⟨g, 0, none⟩, rc := cap5} = wz := ⟨_, rfl⟩
    rw [hz] at P hB2 HS6 ⊢
    obtain ⟨-, p0, p1, p2, p3, p4, p5, p6⟩ := P.a
    dsimp only at p0 p1 p2 p3 p4 p5 p6
    refine bodyPost_ret (v := .tuple #[.agg #[.int .i64 h.n, .slice (some ⟨g, 0, none⟩) h.rl cap5, .slice h.E h.el h.ec, .int .i64 h.ja, .int .i64 h.jt, .int .i64 h.jf, .slice h.C h.cl h.cc], .int .i64 0]) (by simp [results, Try.results24, p0, p1, p2, p3, p4, p5, p6, go_sem]) rfl ⟨hB2, {h with R := some ⟨g, 0, none⟩, rc := cap5}, rfl, ⟨fun _ => ⟨HS6.out, HCAP.out⟩, fun k => absurd rfl k⟩, HSE.out⟩
end Go.Proofs.Ytakbpgljbbkmkaa

/- What each function answers, landed and reference, with the same letters. -/
namespace Go.Proofs.Ytakbpgljbbkmkaa
open Go.RowKit

def noFm : Fo.Fm := ⟨0, [], [], 0, 0, 0, []⟩
def LenF (F : Fo.Fm) : Prop := F.rs.length ≤ 1000 ∧ F.es.length ≤ 1000 ∧ F.cs.length ≤ 1000
theorem lenNo : LenF noFm := ⟨by decide, by decide, by decide⟩
theorem sl_no (w : World) : SlF w .zero noFm := ⟨rfl, rfl, rfl, rfl, rfl, rfl, rfl, SlT.nil _ _, SlT.nil _ _, SlT.nil _ _⟩
theorem ans_no {F f : Fo.Fm} {e : Int} {n : Nat} {h h' : FH} {w' : World} (r : FormR F e h' w') (he : e ≠ 0) : SlF w' h' noFm ∧ ∀ n0, LowF n0 h f → SepF n0 n h' noFm := by
  rw [r.no he]
  exact ⟨sl_no w', fun n0 _ => sep_zero _ _ _⟩
theorem lenVal {f : Fo.Fm} (V : Fo.Val f) : LenF f := ⟨Nat.le_trans V.rl (by decide), Nat.le_trans V.el (by decide), Nat.le_trans V.cl (by decide)⟩
theorem cut_both (h : FH) (f : Fo.Fm) (hcap : h.cl ≤ h.cc) (hN : Nils h) (hwf : ∀ c ∈ f.cs, Fo.wf3 c) (c : Fo.T3) (w0 : World) (hS0 : SlF w0 h f) : ∃ (F : Fo.Fm) (e : Int), LenF F ∧ (∀ w, SlF w h f → Calls Try.prog 18 #[.agg #[.int .i64 h.n, .slice h.R h.rl h.rc, .slice h.E h.el h.ec, .int .i64 h.ja, .int .i64 h.jt, .int .i64 h.jf, .slice h.C h.cl h.cc], .agg #[.int .i64 c.a, .int .i64 c.b, .int .i64 c.c]] w fun y w' => Below w.heap.size w w' ∧ ∃ h' : FH, y = .returned (.tuple #[.agg #[.int .i64 h'.n, .slice h'.R h'.rl h'.rc, .slice h'.E h'.el h'.ec, .int .i64 h'.ja, .int .i64 h'.jt, .int .i64 h'.jf, .slice h'.C h'.cl h'.cc], .int .i64 e]) ∧ SlF w' h' F ∧ ∀ n0, LowF n0 h f → SepF n0 w.heap.size h' F) ∧ (∀ w, SlF w h f → Calls Try.prog 19 #[.agg #[.int .i64 h.n, .slice h.R h.rl h.rc, .slice h.E h.el h.ec, .int .i64 h.ja, .int .i64 h.jt, .int .i64 h.jf, .slice h.C h.cl h.cc], .agg #[.int .i64 c.a, .int .i64 c.b, .int .i64 c.c]] w fun y w' => Below w.heap.size w w' ∧ ∃ h' : FH, y = .returned (.tuple #[.agg #[.int .i64 h'.n, .slice h'.R h'.rl h'.rc, .slice h'.E h'.el h'.ec, .int .i64 h'.ja, .int .i64 h'.jt, .int .i64 h'.jf, .slice h'.C h'.cl h'.cc], .int .i64 e]) ∧ SlF w' h' F ∧ ∀ n0, LowF n0 h f → SepF n0 w.heap.size h' F) := by
  have HN := hN
  by_cases V : Fo.Val f
  case neg => exact ⟨noFm, _, lenNo, fun w hS => (wCut_no h f c V hwf w hS).mono (fun y w' ⟨hb, h', hy, ha⟩ => ⟨hb, h', hy, ans_no ha (by decide)⟩), fun w hS => (rCut_no h f c V hcap w hS).mono (fun y w' ⟨hb, h', hy, ha⟩ => ⟨hb, h', hy, ans_no ha (by decide)⟩)⟩
  have hcl : h.cl ≤ 100 := by rw [← hS0.cl]; exact V.cl
  by_cases h1 : Fo.okC h.n c
  case neg => exact ⟨noFm, _, lenNo, fun w hS => (wCut_one h f c V h1 hwf w hS).mono (fun y w' ⟨hb, h', hy, ha⟩ => ⟨hb, h', hy, ans_no ha (by decide)⟩), fun w hS => (rCut_five h f c 1 V hcap (.inl ⟨h1, rfl⟩) w hS).mono (fun y w' ⟨hb, h', hy, ha⟩ => ⟨hb, h', hy, ans_no ha (by decide)⟩)⟩
  by_cases h5 : Fo.cix f.cs c < 0
  case neg => exact ⟨noFm, _, lenNo, fun w hS => (wCut_five h f c V h1 (by omega) hwf w hS).mono (fun y w' ⟨hb, h', hy, ha⟩ => ⟨hb, h', hy, ans_no ha (by decide)⟩), fun w hS => (rCut_five h f c 5 V hcap (.inr ⟨h1, .inl ⟨by omega, rfl⟩⟩) w hS).mono (fun y w' ⟨hb, h', hy, ha⟩ => ⟨hb, h', hy, ans_no ha (by decide)⟩)⟩
  by_cases h6 : h.cl = 100
  case pos => exact ⟨noFm, _, lenNo, fun w hS => (wCut_two h f c V h1 h5 h6 hwf w hS).mono (fun y w' ⟨hb, h', hy, ha⟩ => ⟨hb, h', hy, ans_no ha (by decide)⟩), fun w hS => (rCut_five h f c 2 V hcap (.inr ⟨h1, .inr ⟨h5, h6, rfl⟩⟩) w hS).mono (fun y w' ⟨hb, h', hy, ha⟩ => ⟨hb, h', hy, ans_no ha (by decide)⟩)⟩
  exact ⟨{f with cs := f.cs ++ [c]}, 0, ⟨(lenVal V).1, (lenVal V).2.1, by have := V.cl; show (f.cs ++ [c]).length ≤ 1000; rw [List.length_append]; simp; omega⟩, fun w hS => (wCut_okF h f c V h1 h5 (by omega) HN hwf w hS).mono (fun y w' ⟨hb, h', hy, ha⟩ => ⟨hb, h', hy, ha.1.s, ha.2⟩), fun w hS => (rCut_okF h f c V hcap HN.c h1 h5 (by omega) w hS).mono (fun y w' ⟨hb, h', hy, ha⟩ => ⟨hb, h', hy, id ⟨(ha.1.ok rfl).1, ha.2⟩⟩)⟩
theorem open_both (h : FH) (f : Fo.Fm) (hcap : h.cl ≤ h.cc) (hN : Nils h) (hwf : ∀ c ∈ f.cs, Fo.wf3 c) (c : Fo.T3) : ∃ (F : Fo.Fm) (e : Int), LenF F ∧ (∀ w, SlF w h f → Calls Try.prog 21 #[.agg #[.int .i64 h.n, .slice h.R h.rl h.rc, .slice h.E h.el h.ec, .int .i64 h.ja, .int .i64 h.jt, .int .i64 h.jf, .slice h.C h.cl h.cc], .agg #[.int .i64 c.a, .int .i64 c.b, .int .i64 c.c]] w fun y w' => Below w.heap.size w w' ∧ ∃ h' : FH, y = .returned (.tuple #[.agg #[.int .i64 h'.n, .slice h'.R h'.rl h'.rc, .slice h'.E h'.el h'.ec, .int .i64 h'.ja, .int .i64 h'.jt, .int .i64 h'.jf, .slice h'.C h'.cl h'.cc], .int .i64 e]) ∧ SlF w' h' F ∧ ∀ n0, LowF n0 h f → SepF n0 w.heap.size h' F) ∧ (∀ w, SlF w h f → Calls Try.prog 22 #[.agg #[.int .i64 h.n, .slice h.R h.rl h.rc, .slice h.E h.el h.ec, .int .i64 h.ja, .int .i64 h.jt, .int .i64 h.jf, .slice h.C h.cl h.cc], .agg #[.int .i64 c.a, .int .i64 c.b, .int .i64 c.c]] w fun y w' => Below w.heap.size w w' ∧ ∃ h' : FH, y = .returned (.tuple #[.agg #[.int .i64 h'.n, .slice h'.R h'.rl h'.rc, .slice h'.E h'.el h'.ec, .int .i64 h'.ja, .int .i64 h'.jt, .int .i64 h'.jf, .slice h'.C h'.cl h'.cc], .int .i64 e]) ∧ SlF w' h' F ∧ ∀ n0, LowF n0 h f → SepF n0 w.heap.size h' F) := by
  have HN := hN
  by_cases V : Fo.Val f
  case neg => exact ⟨noFm, _, lenNo, fun w hS => (wOpen_no h f c V hwf w hS).mono (fun y w' ⟨hb, h', hy, ha⟩ => ⟨hb, h', hy, ans_no ha (by decide)⟩), fun w hS => (rOpen_no h f c V hcap w hS).mono (fun y w' ⟨hb, h', hy, ha⟩ => ⟨hb, h', hy, ans_no ha (by decide)⟩)⟩
  by_cases h5 : Fo.cix f.cs c < 0
  case pos => exact ⟨noFm, _, lenNo, fun w hS => (wOpen_four h f c V h5 hwf w hS).mono (fun y w' ⟨hb, h', hy, ha⟩ => ⟨hb, h', hy, ans_no ha (by decide)⟩), fun w hS => (rOpen_four h f c V hcap h5 w hS).mono (fun y w' ⟨hb, h', hy, ha⟩ => ⟨hb, h', hy, ans_no ha (by decide)⟩)⟩
  obtain ⟨k, hk⟩ : ∃ k : Nat, Fo.cix f.cs c = (k : Int) := ⟨(Fo.cix f.cs c).toNat, by omega⟩
  have e9 : f.cs.take k ++ f.cs.drop (k + 1) = f.cs.eraseIdx k := (List.eraseIdx_eq_take_drop_succ f.cs k).symm
  exact ⟨{f with cs := f.cs.eraseIdx k}, 0, ⟨(lenVal V).1, (lenVal V).2.1, Nat.le_trans (List.length_eraseIdx_le _ _) (lenVal V).2.2⟩, fun w hS => (wOpen_okF h f c k V hk HN hwf w hS).mono (fun y w' ⟨hb, h', hy, ha⟩ => ⟨hb, h', hy, ha.1.s, ha.2⟩), fun w hS => (rOpen_okF h f c k V hcap hk w hS).mono (fun y w' ⟨hb, h', hy, ha⟩ => ⟨hb, h', hy, e9 ▸ ⟨(ha.1.ok rfl).1, ha.2⟩⟩)⟩
theorem times_both (h : FH) (f : Fo.Fm) (hcap : h.cl ≤ h.cc) (hN : Nils h) (hwf : ∀ c ∈ f.cs, Fo.wf3 c) (k t : Int) (w0 : World) (_hS0 : SlF w0 h f) : ∃ (F : Fo.Fm) (e : Int), LenF F ∧ (∀ w, SlF w h f → Calls Try.prog 23 #[.agg #[.int .i64 h.n, .slice h.R h.rl h.rc, .slice h.E h.el h.ec, .int .i64 h.ja, .int .i64 h.jt, .int .i64 h.jf, .slice h.C h.cl h.cc], .int .i64 k, .int .i64 t] w fun y w' => Below w.heap.size w w' ∧ ∃ h' : FH, y = .returned (.tuple #[.agg #[.int .i64 h'.n, .slice h'.R h'.rl h'.rc, .slice h'.E h'.el h'.ec, .int .i64 h'.ja, .int .i64 h'.jt, .int .i64 h'.jf, .slice h'.C h'.cl h'.cc], .int .i64 e]) ∧ SlF w' h' F ∧ ∀ n0, LowF n0 h f → SepF n0 w.heap.size h' F) ∧ (∀ w, SlF w h f → Calls Try.prog 24 #[.agg #[.int .i64 h.n, .slice h.R h.rl h.rc, .slice h.E h.el h.ec, .int .i64 h.ja, .int .i64 h.jt, .int .i64 h.jf, .slice h.C h.cl h.cc], .int .i64 k, .int .i64 t] w fun y w' => Below w.heap.size w w' ∧ ∃ h' : FH, y = .returned (.tuple #[.agg #[.int .i64 h'.n, .slice h'.R h'.rl h'.rc, .slice h'.E h'.el h'.ec, .int .i64 h'.ja, .int .i64 h'.jt, .int .i64 h'.jf, .slice h'.C h'.cl h'.cc], .int .i64 e]) ∧ SlF w' h' F ∧ ∀ n0, LowF n0 h f → SepF n0 w.heap.size h' F) := by
  have HN := hN
  by_cases V : Fo.Val f
  case neg => exact ⟨noFm, _, lenNo, fun w hS => (wTimes_no h f k t V hwf w hS).mono (fun y w' ⟨hb, h', hy, ha⟩ => ⟨hb, h', hy, ans_no ha (by decide)⟩), fun w hS => (rTimes_no h f k t V hcap w hS).mono (fun y w' ⟨hb, h', hy, ha⟩ => ⟨hb, h', hy, ans_no ha (by decide)⟩)⟩
  by_cases hk : 0 ≤ k ∧ k ≤ (h.rl : Int) - 1
  case neg => exact ⟨noFm, _, lenNo, fun w hS => (wTimes_four h f k t V hk hwf w hS).mono (fun y w' ⟨hb, h', hy, ha⟩ => ⟨hb, h', hy, ans_no ha (by decide)⟩), fun w hS => (rTimes_four h f k t V hk hcap w hS).mono (fun y w' ⟨hb, h', hy, ha⟩ => ⟨hb, h', hy, ans_no ha (by decide)⟩)⟩
  by_cases ht : 1 ≤ t ∧ t ≤ 9
  case neg => exact ⟨noFm, _, lenNo, fun w hS => (wTimes_one h f k t V hk ht hwf w hS).mono (fun y w' ⟨hb, h', hy, ha⟩ => ⟨hb, h', hy, ans_no ha (by decide)⟩), fun w hS => (rTimes_one h f k t V hk ht hcap w hS).mono (fun y w' ⟨hb, h', hy, ha⟩ => ⟨hb, h', hy, ans_no ha (by decide)⟩)⟩
  obtain ⟨n, rfl⟩ : ∃ n : Nat, k = (n : Int) := ⟨k.toNat, by omega⟩
  have hn : n < h.rl := by omega
  by_cases hz : (Fo.whl (Fo.setC f n t)).length ≤ 20000
  case neg => exact ⟨noFm, _, lenNo, fun w hS => (wTimes_two h f n t V hn ht (by omega) HN hwf w hS).mono (fun y w' ⟨hb, h', hy, ha⟩ => ⟨hb, h', hy, ans_no ha (by decide)⟩), fun w hS => (rTimes_two h f n t V hn ht (by omega) HN.r hcap w hS).mono (fun y w' ⟨hb, h', hy, ha⟩ => ⟨hb, h', hy, ans_no ha (by decide)⟩)⟩
  exact ⟨Fo.setC f n t, 0, ⟨by show (Fo.setL f.rs n t).length ≤ 1000; rw [Fo.setL_len]; exact (lenVal V).1, (lenVal V).2.1, (lenVal V).2.2⟩, fun w hS => (wTimes_okF h f n t V hn ht hz HN hwf w hS).mono (fun y w' ⟨hb, h', hy, ha⟩ => ⟨hb, h', hy, ha.1.s, ha.2⟩), fun w hS => (rTimes_ok h f n t V hn ht hz HN.r hcap w hS).mono (fun y w' ⟨hb, h', hy, ha⟩ => ⟨hb, h', hy, id ⟨(ha.1.ok rfl).1, ha.2⟩⟩)⟩
theorem find_both (h : FH) (f : Fo.Fm) (hcap : h.cl ≤ h.cc) (hwf : ∀ c ∈ f.cs, Fo.wf3 c) (v : Fo.V2) : ∃ (i : Int) (b : Bool) (e : Int), (∀ w, SlF w h f → Calls Try.prog 16 #[.agg #[.int .i64 h.n, .slice h.R h.rl h.rc, .slice h.E h.el h.ec, .int .i64 h.ja, .int .i64 h.jt, .int .i64 h.jf, .slice h.C h.cl h.cc], .agg #[.int .i64 v.b, .int .i64 v.p]] w fun y w' => Below w.heap.size w w' ∧ y = .returned (.tuple #[.int .i64 i, .bool b, .int .i64 e])) ∧ (∀ w, SlF w h f → Calls Try.prog 17 #[.agg #[.int .i64 h.n, .slice h.R h.rl h.rc, .slice h.E h.el h.ec, .int .i64 h.ja, .int .i64 h.jt, .int .i64 h.jf, .slice h.C h.cl h.cc], .agg #[.int .i64 v.b, .int .i64 v.p]] w fun y w' => Below w.heap.size w w' ∧ y = .returned (.tuple #[.int .i64 i, .bool b, .int .i64 e])) := by
  by_cases V : Fo.Val f
  case neg => exact ⟨0, false, 1, fun w hS => wFind_no h f v V hwf w hS, fun w hS => rfind_no h f v V hcap w hS⟩
  exact ⟨_, _, 0, fun w hS => wFind_is h f v _ V rfl hwf w hS, fun w hS => rfind_is h f v _ V rfl hcap w hS⟩
theorem unf_max9 {f : Fo.Fm} (V : Fo.Val f) : (Fo.unf f).length ≤ 20000 := by
  have h1 : (Fo.unf f).length ≤ (Fo.vis (Fo.whl f)).length := List.length_filter_le _ _
  rw [Fo.vis_length] at h1
  have := V.most
  omega
theorem unfold_both (h : FH) (f : Fo.Fm) (hcap : h.cl ≤ h.cc) (hwf : ∀ c ∈ f.cs, Fo.wf3 c) : ∃ (l : List Fo.V2) (n : Nat) (e : Int), l.length = n ∧ n ≤ 20000 ∧ (∀ w, SlF w h f → Calls Try.prog 11 #[.agg #[.int .i64 h.n, .slice h.R h.rl h.rc, .slice h.E h.el h.ec, .int .i64 h.ja, .int .i64 h.jt, .int .i64 h.jf, .slice h.C h.cl h.cc]] w fun y w' => Below w.heap.size w w' ∧ ∃ A cap, y = .returned (.tuple #[.slice A n cap, .int .i64 e]) ∧ SlV w' A l) ∧ (∀ w, SlF w h f → Calls Try.prog 12 #[.agg #[.int .i64 h.n, .slice h.R h.rl h.rc, .slice h.E h.el h.ec, .int .i64 h.ja, .int .i64 h.jt, .int .i64 h.jf, .slice h.C h.cl h.cc]] w fun y w' => Below w.heap.size w w' ∧ ∃ A cap, y = .returned (.tuple #[.slice A n cap, .int .i64 e]) ∧ SlV w' A l) := by
  by_cases V : Fo.Val f
  case neg => exact ⟨[], 0, 1, rfl, by decide, fun w hS => (wUnfold_no h f V hwf w hS).mono (fun y w' ⟨hy, hb⟩ => ⟨hb, none, 0, hy, SlV.nil _ _⟩), fun w hS => (runfold_no h f V hcap w hS).mono (fun y w' ⟨hb, hy⟩ => ⟨hb, none, 0, hy, SlV.nil _ _⟩)⟩
  refine ⟨Fo.unf f, _, 0, rfl, unf_max9 V, fun w hS => (wUnfold_is h f V hwf w hS).mono (fun y w' ⟨hb, v, hy, ho⟩ => ?_), fun w hS => (runfold_is h f V hcap w hS).mono (fun y w' ⟨hb, v, hy, ho⟩ => ?_)⟩
  all_goals
    obtain ⟨-, A, cap, hv, hs, -⟩ := own_V ho
    subst hv
    exact ⟨hb, A, cap, hy, hs⟩
theorem valid_both (h : FH) (f : Fo.Fm) (hcap : h.cl ≤ h.cc) (hwf : ∀ c ∈ f.cs, Fo.wf3 c) : ∃ r : Bool, (∀ w, SlF w h f → Calls Try.prog 13 #[.agg #[.int .i64 h.n, .slice h.R h.rl h.rc, .slice h.E h.el h.ec, .int .i64 h.ja, .int .i64 h.jt, .int .i64 h.jf, .slice h.C h.cl h.cc]] w fun e w' => e = .returned (.bool r) ∧ Below w.heap.size w w') ∧ (∀ w, SlF w h f → Calls Try.prog 14 #[.agg #[.int .i64 h.n, .slice h.R h.rl h.rc, .slice h.E h.el h.ec, .int .i64 h.ja, .int .i64 h.jt, .int .i64 h.jf, .slice h.C h.cl h.cc]] w fun e w' => e = .returned (.bool r) ∧ Below w.heap.size w w') := by
  obtain ⟨u, hu⟩ : ∃ u : Bool, u = true ↔ Fo.Val f := ⟨@decide _ (Classical.propDecidable _), @decide_eq_true_iff _ (Classical.propDecidable _)⟩
  exact ⟨u, fun w hS => wValid_is h f u hu hwf w hS, fun w hS => rValid_is h f u hu hcap w hS⟩
end Go.Proofs.Ytakbpgljbbkmkaa

/- The walk of the law FormMatchesReference. -/
namespace Go.Proofs.Ytakbpgljbbkmkaa
open Go.RowKit

theorem TB.putO {w : World} {b g : Nat} {x : Fo.T3} (h : TB w b x) (hn : b ≠ g) (t : FH) : TB (putF w g t) b x :=
  ⟨by rw [putF_size]; exact h.lt, (World.cell?_of_block (w := w) (a := ⟨b, 0, none⟩) (putF_other _ _ _ _ hn)).trans h.c0, (World.cell?_of_block (w := w) (a := ⟨b, 1, none⟩) (putF_other _ _ _ _ hn)).trans h.c1, (World.cell?_of_block (w := w) (a := ⟨b, 2, none⟩) (putF_other _ _ _ _ hn)).trans h.c2⟩
theorem At2.putO {w : World} {b g : Nat} {x y : Int} (h : At2 w b x y) (hn : b ≠ g) (t : FH) : At2 (putF w g t) b x y :=
  ⟨by rw [putF_size]; exact h.lt, (World.cell?_of_block (w := w) (a := ⟨b, 0, none⟩) (putF_other _ _ _ _ hn)).trans h.c0, (World.cell?_of_block (w := w) (a := ⟨b, 1, none⟩) (putF_other _ _ _ _ hn)).trans h.c1⟩
set_option maxRecDepth 100000 in
set_option maxHeartbeats 25600000 in
theorem formMatchesReference_walk (h : FH) (f : Fo.Fm) (hwf : ∀ c ∈ f.cs, Fo.wf3 c) (hcap : h.cl ≤ h.cc) (hN : Nils h) (v : Fo.V2) (c : Fo.T3) (_hwc : Fo.wf3 c) (k : Int) (_hk : -9223372036854775808 ≤ k ∧ k ≤ 9223372036854775807) (t : Int) (_ht : -9223372036854775808 ≤ t ∧ t ≤ 9223372036854775807) (w : World) (hS : SlF w h f) :
    Calls Try.prog 3 #[.agg #[.int .i64 h.n, .slice h.R h.rl h.rc, .slice h.E h.el h.ec, .int .i64 h.ja, .int .i64 h.jt, .int .i64 h.jf, .slice h.C h.cl h.cc], .agg #[.int .i64 v.b, .int .i64 v.p], .agg #[.int .i64 c.a, .int .i64 c.b, .int .i64 c.c], .int .i64 k, .int .i64 t] w fun e w' => e = .returned (.bool true) ∧ Below w.heap.size w w' := by
  obtain ⟨lu, nu, eu, hlu, hnu, CU1, CU2⟩ := unfold_both h f hcap hwf
  obtain ⟨rv, CV1, CV2⟩ := valid_both h f hcap hwf
  obtain ⟨fi, fb, fe, CF1, CF2⟩ := find_both h f hcap hwf v
  obtain ⟨F1, e1, LF1, CC1, CC2⟩ := cut_both h f hcap hN hwf c w hS
  obtain ⟨F2, e2, LF2, CO1, CO2⟩ := open_both h f hcap hN hwf c
  obtain ⟨F3, e3, LF3, CT1, CT2⟩ := times_both h f hcap hN hwf k t w hS
  replace CU1 := Lib.hid CU1; replace CU2 := Lib.hid CU2; replace CV1 := Lib.hid CV1; replace CV2 := Lib.hid CV2; replace CF1 := Lib.hid CF1; replace CF2 := Lib.hid CF2; replace CC1 := Lib.hid CC1; replace CC2 := Lib.hid CC2; replace CO1 := Lib.hid CO1; replace CO2 := Lib.hid CO2; replace CT1 := Lib.hid CT1; replace CT2 := Lib.hid CT2
  replace LF1 := Lib.hid LF1; replace LF2 := Lib.hid LF2; replace LF3 := Lib.hid LF3; replace hlu := Lib.hid hlu; replace hnu := Lib.hid hnu
  have HLOW := Lib.hid hS.low; have HSS := Lib.hid hS
  clear hS hwf hcap hN
  have Q := ((FB.new w h).alloc (.cells #[.int .i64 v.b, .int .i64 v.p] 30)).alloc (.cells #[.int .i64 c.a, .int .i64 c.b, .int .i64 c.c] 32)
  have A := (At2.new (w.alloc (.cells #[.int .i64 h.n, .slice h.R h.rl h.rc, .slice h.E h.el h.ec, .int .i64 h.ja, .int .i64 h.jt, .int .i64 h.jf, .slice h.C h.cl h.cc] 28)) v.b v.p 30).alloc (.cells #[.int .i64 c.a, .int .i64 c.b, .int .i64 c.c] 32)
  have C := TB.new ((w.alloc (.cells #[.int .i64 h.n, .slice h.R h.rl h.rc, .slice h.E h.el h.ec, .int .i64 h.ja, .int .i64 h.jt, .int .i64 h.jf, .slice h.C h.cl h.cc] 28)).alloc (.cells #[.int .i64 v.b, .int .i64 v.p] 30)) c 32
  rw [World.size_alloc] at A
  rw [World.size_alloc, World.size_alloc] at C
  have B := (((Below.refl w.heap.size w).alloc (Nat.le_refl _) (.cells #[.int .i64 h.n, .slice h.R h.rl h.rc, .slice h.E h.el h.ec, .int .i64 h.ja, .int .i64 h.jt, .int .i64 h.jf, .slice h.C h.cl h.cc] 28)).alloc (by simp) (.cells #[.int .i64 v.b, .int .i64 v.p] 30)).alloc (by simp; omega) (.cells #[.int .i64 c.a, .int .i64 c.b, .int .i64 c.c] 32)
  go_enter Try.func3, Try.ntmps3
  go_wp2_with fail
  refine (head_any _).mono ?_; rintro e w2 ⟨rfl, hb⟩
  replace Q := Q.below hb; replace A := A.below hb; replace C := C.below hb; replace B := B.trans (hb.mono B.size); clear hb
  have q0 := Q.c0; have q1 := Q.c1; have q2 := Q.c2; have q3 := Q.c3; have q4 := Q.c4; have q5 := Q.c5; have q6 := Q.c6; have ql := Q.lt
  go_wp2_with fail
  clear q0 q1 q2 q3 q4 q5 q6 ql
  obtain ⟨u, hu⟩ : ∃ u : Bool, u = true ↔ fewH h := ⟨@decide _ (Classical.propDecidable _), @decide_eq_true_iff _ (Classical.propDecidable _)⟩
  have HU := Lib.hid hu
  clear hu
  refine (rfew_is h u HU.out _).mono ?_; rintro e w3 ⟨rfl, hb⟩
  replace Q := Q.below hb; replace A := A.below hb; replace C := C.below hb; replace B := B.trans (hb.mono B.size); clear hb
  cases u with
  | false =>
    go_wp2_with fail
    go_ret
    exact ⟨rfl, B⟩
  | true =>
  have q0 := Q.c0; have q1 := Q.c1; have q2 := Q.c2; have q3 := Q.c3; have q4 := Q.c4; have q5 := Q.c5; have q6 := Q.c6; have ql := Q.lt
  go_wp2_with fail
  clear q0 q1 q2 q3 q4 q5 q6 ql
  refine (CU1.out _ (HSS.out.below B)).mono ?_; rintro e w4 ⟨hb, A1, c1, rfl, L1⟩
  replace Q := Q.below hb; replace A := A.below hb; replace C := C.below hb; replace B := B.trans (hb.mono B.size); clear hb
  have q0 := Q.c0; have q1 := Q.c1; have q2 := Q.c2; have q3 := Q.c3; have q4 := Q.c4; have q5 := Q.c5; have q6 := Q.c6; have ql := Q.lt
  go_wp2_with fail
  clear q0 q1 q2 q3 q4 q5 q6 ql
  refine (CU2.out _ (HSS.out.below B)).mono ?_; rintro e w5 ⟨hb, A2, c2, rfl, L2⟩
  replace L1 := L1.below hb
  replace Q := Q.below hb; replace A := A.below hb; replace C := C.below hb; replace B := B.trans (hb.mono B.size); clear hb
  have hne := Ext.there w5
  have y0 := fun y : Ext w5 => y.cell Q.c0; have y1 := fun y : Ext w5 => y.cell Q.c1; have y2 := fun y : Ext w5 => y.cell Q.c2; have y3 := fun y : Ext w5 => y.cell Q.c3; have y4 := fun y : Ext w5 => y.cell Q.c4; have y5 := fun y : Ext w5 => y.cell Q.c5; have y6 := fun y : Ext w5 => y.cell Q.c6
  have HC1 := fun y : Ext w5 => CV1.out y.w ((HSS.out.below B).below y.h)
  have HC2 := fun y : Ext w5 => CV2.out y.w ((HSS.out.below B).below y.h)
  have HC3 := fun y : Ext w5 => rsameV_is lu lu true nu c1 nu c2 A1 A2 ⟨fun _ => rfl, fun _ => rfl⟩ hlu.out hlu.out (Nat.le_trans hnu.out (by decide)) y.w (L1.below y.h) (L2.below y.h)
  go_wp2_with fail
  refine Ext.region (by kernel_rfl) (by kernel_rfl) ?_
  repeat (go_big_quiet_step (first | (go_at_call 13; exact Ext.call _ (HC1 _)) | (go_at_call 14; exact Ext.call _ (HC2 _)) | (go_at_call 15; exact Ext.call _ (HC3 _))))
  refine wpQuiet_nil ?_
  rintro _ ⟨xw, rfl⟩
  have hb := xw.h
  clear y0 y1 y2 y3 y4 y5 y6 hne HC1 HC2 HC3 L1 L2
  generalize xw.w = w6 at *
  clear xw
  replace Q := Q.below hb; replace A := A.below hb; replace C := C.below hb; replace B := B.trans (hb.mono B.size); clear hb
  have q0 := Q.c0; have q1 := Q.c1; have q2 := Q.c2; have q3 := Q.c3; have q4 := Q.c4; have q5 := Q.c5; have q6 := Q.c6; have ql := Q.lt
  have a0 := A.c0; have a1 := A.c1; have al := A.lt
  go_wp2_with fail
  clear q0 q1 q2 q3 q4 q5 q6 ql a0 a1 al
  refine (CF1.out _ (HSS.out.below B)).mono ?_; rintro e w7 ⟨hb, rfl⟩
  replace Q := Q.below hb; replace A := A.below hb; replace C := C.below hb; replace B := B.trans (hb.mono B.size); clear hb
  have q0 := Q.c0; have q1 := Q.c1; have q2 := Q.c2; have q3 := Q.c3; have q4 := Q.c4; have q5 := Q.c5; have q6 := Q.c6; have ql := Q.lt
  have a0 := A.c0; have a1 := A.c1; have al := A.lt
  go_wp2_with fail
  clear q0 q1 q2 q3 q4 q5 q6 ql a0 a1 al
  refine (CF2.out _ (HSS.out.below B)).mono ?_; rintro e w8 ⟨hb, rfl⟩
  replace Q := Q.below hb; replace A := A.below hb; replace C := C.below hb; replace B := B.trans (hb.mono B.size); clear hb
  have q0 := Q.c0; have q1 := Q.c1; have q2 := Q.c2; have q3 := Q.c3; have q4 := Q.c4; have q5 := Q.c5; have q6 := Q.c6; have ql := Q.lt
  have c0 := C.c0; have c1 := C.c1; have c2 := C.c2; have cl := C.lt
  go_wp2_with fail
  clear q0 q1 q2 q3 q4 q5 q6 ql c0 c1 c2 cl
  refine (CC1.out _ (HSS.out.below B)).mono ?_; rintro e w9 ⟨hb, h1, rfl, SX, -⟩
  replace Q := Q.below hb; replace A := A.below hb; replace C := C.below hb; replace B := B.trans (hb.mono B.size); clear hb
  have X := (FV.new w9 h1).fw
  have hX3 := C.lt
  replace Q := Q.alloc (.cells #[.int .i64 h1.n, .slice h1.R h1.rl h1.rc, .slice h1.E h1.el h1.ec, .int .i64 h1.ja, .int .i64 h1.jt, .int .i64 h1.jf, .slice h1.C h1.cl h1.cc] 28); replace A := A.alloc (.cells #[.int .i64 h1.n, .slice h1.R h1.rl h1.rc, .slice h1.E h1.el h1.ec, .int .i64 h1.ja, .int .i64 h1.jt, .int .i64 h1.jf, .slice h1.C h1.cl h1.cc] 28); replace C := C.alloc (.cells #[.int .i64 h1.n, .slice h1.R h1.rl h1.rc, .slice h1.E h1.el h1.ec, .int .i64 h1.ja, .int .i64 h1.jt, .int .i64 h1.jf, .slice h1.C h1.cl h1.cc] 28); replace B := B.alloc B.size (.cells #[.int .i64 h1.n, .slice h1.R h1.rl h1.rc, .slice h1.E h1.el h1.ec, .int .i64 h1.ja, .int .i64 h1.jt, .int .i64 h1.jf, .slice h1.C h1.cl h1.cc] 28)
  replace SX := SX.alloc (.cells #[.int .i64 h1.n, .slice h1.R h1.rl h1.rc, .slice h1.E h1.el h1.ec, .int .i64 h1.ja, .int .i64 h1.jt, .int .i64 h1.jf, .slice h1.C h1.cl h1.cc] 28)
  have q0 := Q.c0; have q1 := Q.c1; have q2 := Q.c2; have q3 := Q.c3; have q4 := Q.c4; have q5 := Q.c5; have q6 := Q.c6; have ql := Q.lt
  have c0 := C.c0; have c1 := C.c1; have c2 := C.c2; have cl := C.lt
  have x0 := X.a.c0; have x1 := X.a.c1; have x2 := X.a.c2; have x3 := X.a.c3; have x4 := X.a.c4; have x5 := X.a.c5; have x6 := X.a.c6; have xl := X.a.lt
  go_wp2_with fail
  clear q0 q1 q2 q3 q4 q5 q6 ql c0 c1 c2 cl x0 x1 x2 x3 x4 x5 x6 xl
  refine (CC2.out _ (HSS.out.below B)).mono ?_; rintro e w10 ⟨hb, h2, rfl, SY, -⟩
  replace SX := SX.below hb
  have hX4 := hb.size
  rw [World.size_alloc] at hX4
  replace Q := Q.below hb; replace A := A.below hb; replace C := C.below hb; replace X := X.below hb; replace B := B.trans (hb.mono B.size); clear hb
  have Y := (FV.new w10 h2).fw
  replace Q := Q.alloc (.cells #[.int .i64 h2.n, .slice h2.R h2.rl h2.rc, .slice h2.E h2.el h2.ec, .int .i64 h2.ja, .int .i64 h2.jt, .int .i64 h2.jf, .slice h2.C h2.cl h2.cc] 28); replace A := A.alloc (.cells #[.int .i64 h2.n, .slice h2.R h2.rl h2.rc, .slice h2.E h2.el h2.ec, .int .i64 h2.ja, .int .i64 h2.jt, .int .i64 h2.jf, .slice h2.C h2.cl h2.cc] 28); replace C := C.alloc (.cells #[.int .i64 h2.n, .slice h2.R h2.rl h2.rc, .slice h2.E h2.el h2.ec, .int .i64 h2.ja, .int .i64 h2.jt, .int .i64 h2.jf, .slice h2.C h2.cl h2.cc] 28); replace X := X.alloc (.cells #[.int .i64 h2.n, .slice h2.R h2.rl h2.rc, .slice h2.E h2.el h2.ec, .int .i64 h2.ja, .int .i64 h2.jt, .int .i64 h2.jf, .slice h2.C h2.cl h2.cc] 28); replace B := B.alloc B.size (.cells #[.int .i64 h2.n, .slice h2.R h2.rl h2.rc, .slice h2.E h2.el h2.ec, .int .i64 h2.ja, .int .i64 h2.jt, .int .i64 h2.jf, .slice h2.C h2.cl h2.cc] 28)
  replace SX := SX.alloc (.cells #[.int .i64 h2.n, .slice h2.R h2.rl h2.rc, .slice h2.E h2.el h2.ec, .int .i64 h2.ja, .int .i64 h2.jt, .int .i64 h2.jf, .slice h2.C h2.cl h2.cc] 28); replace SY := SY.alloc (.cells #[.int .i64 h2.n, .slice h2.R h2.rl h2.rc, .slice h2.E h2.el h2.ec, .int .i64 h2.ja, .int .i64 h2.jt, .int .i64 h2.jf, .slice h2.C h2.cl h2.cc] 28)
  have q0 := Q.c0; have q1 := Q.c1; have q2 := Q.c2; have q3 := Q.c3; have q4 := Q.c4; have q5 := Q.c5; have q6 := Q.c6; have ql := Q.lt
  have c0 := C.c0; have c1 := C.c1; have c2 := C.c2; have cl := C.lt
  have x0 := X.a.c0; have x1 := X.a.c1; have x2 := X.a.c2; have x3 := X.a.c3; have x4 := X.a.c4; have x5 := X.a.c5; have x6 := X.a.c6; have xl := X.a.lt
  have y0 := Y.a.c0; have y1 := Y.a.c1; have y2 := Y.a.c2; have y3 := Y.a.c3; have y4 := Y.a.c4; have y5 := Y.a.c5; have y6 := Y.a.c6; have yl := Y.a.lt
  go_wp2_with fail
  clear q0 q1 q2 q3 q4 q5 q6 ql c0 c1 c2 cl x0 x1 x2 x3 x4 x5 x6 xl y0 y1 y2 y3 y4 y5 y6 yl
  refine (rsameF_is h1 h2 F1 F1 true ⟨fun _ => rfl, fun _ => rfl⟩ (by have := LF1.out.1; have := SX.rl; omega) (by have := LF1.out.2.1; have := SX.el; omega) (by have := LF1.out.2.2; have := SX.cl; omega) _ SX SY).mono ?_; rintro e w11 ⟨rfl, hb⟩
  clear SX SY
  replace Q := Q.below hb; replace A := A.below hb; replace C := C.below hb; replace X := X.below hb; replace Y := Y.below hb; replace B := B.trans (hb.mono B.size); clear hb
  have q0 := Q.c0; have q1 := Q.c1; have q2 := Q.c2; have q3 := Q.c3; have q4 := Q.c4; have q5 := Q.c5; have q6 := Q.c6; have ql := Q.lt
  have c0 := C.c0; have c1 := C.c1; have c2 := C.c2; have cl := C.lt
  have x0 := X.a.c0; have x1 := X.a.c1; have x2 := X.a.c2; have x3 := X.a.c3; have x4 := X.a.c4; have x5 := X.a.c5; have x6 := X.a.c6; have xl := X.a.lt
  have y0 := Y.a.c0; have y1 := Y.a.c1; have y2 := Y.a.c2; have y3 := Y.a.c3; have y4 := Y.a.c4; have y5 := Y.a.c5; have y6 := Y.a.c6; have yl := Y.a.lt
  go_wp2_with fail
  clear q0 q1 q2 q3 q4 q5 q6 ql c0 c1 c2 cl x0 x1 x2 x3 x4 x5 x6 xl y0 y1 y2 y3 y4 y5 y6 yl
  refine (CO1.out _ (HSS.out.below B)).mono ?_; rintro e w12 ⟨hb, h3, rfl, SX, PX⟩
  have PX := Lib.hid (PX _ HLOW.out)
  have hlx := X.a.lt; have hly := Y.a.lt
  have hz12 := hb.size
  replace Q := Q.below hb; replace A := A.below hb; replace C := C.below hb; replace X := X.below hb; replace Y := Y.below hb; replace B := B.trans (hb.mono B.size); clear hb
  have q0 := Q.c0; have q1 := Q.c1; have q2 := Q.c2; have q3 := Q.c3; have q4 := Q.c4; have q5 := Q.c5; have q6 := Q.c6; have ql := Q.lt
  have c0 := C.c0; have c1 := C.c1; have c2 := C.c2; have cl := C.lt
  have x0 := X.a.c0; have x1 := X.a.c1; have x2 := X.a.c2; have x3 := X.a.c3; have x4 := X.a.c4; have x5 := X.a.c5; have x6 := X.a.c6; have xl := X.a.lt
  have xf0 := X.f 0; have xf1 := X.f 1; have xf2 := X.f 2; have xf3 := X.f 3; have xf4 := X.f 4; have xf5 := X.f 5; have xf6 := X.f 6
  go_wp2_with fail
  clear q0 q1 q2 q3 q4 q5 q6 ql c0 c1 c2 cl x0 x1 x2 x3 x4 x5 x6 xl xf0 xf1 xf2 xf3 xf4 xf5 xf6
  have BX := putF_below B (show w.heap.size ≤ w9.heap.size by omega) h3
  replace SX := SX.putF PX.out (show w.heap.size ≤ w9.heap.size by omega) (show w9.heap.size < _ from hlx) h3
  replace Q := Q.putO (c := w9.heap.size) (by omega) h3; replace A := A.putO (g := w9.heap.size) (by omega) h3; replace C := C.putO (g := w9.heap.size) (by omega) h3; replace Y := Y.putO (c := w9.heap.size) (by omega) h3
  replace X := X.put h3
  clear B
  obtain ⟨z12, hz⟩ : ∃ z, putF w12 w9.heap.size h3 = z := ⟨_, rfl⟩
  rw [hz] at BX SX Q A C X Y
  have hZ12 : z12.heap.size = w12.heap.size := by rw [← hz]; exact putF_size ..
  dsimp only [putF] at hz
  rw [hz]
  clear hz
  have B := BX
  clear BX
  refine (CO2.out _ (HSS.out.below B)).mono ?_; rintro e w13 ⟨hb, h4, rfl, SY, PY⟩
  have PY := Lib.hid (PY _ HLOW.out)
  have hly := Y.a.lt
  replace SX := SX.below hb
  replace Q := Q.below hb; replace A := A.below hb; replace C := C.below hb; replace X := X.below hb; replace Y := Y.below hb; replace B := B.trans (hb.mono B.size); clear hb
  have hxy : ¬ w9.heap.size = w10.heap.size := (by omega)
  have hyx : ¬ w10.heap.size = w9.heap.size := (by omega)
  have q0 := Q.c0; have q1 := Q.c1; have q2 := Q.c2; have q3 := Q.c3; have q4 := Q.c4; have q5 := Q.c5; have q6 := Q.c6; have ql := Q.lt
  have c0 := C.c0; have c1 := C.c1; have c2 := C.c2; have cl := C.lt
  have x0 := X.a.c0; have x1 := X.a.c1; have x2 := X.a.c2; have x3 := X.a.c3; have x4 := X.a.c4; have x5 := X.a.c5; have x6 := X.a.c6; have xl := X.a.lt
  have y0 := Y.a.c0; have y1 := Y.a.c1; have y2 := Y.a.c2; have y3 := Y.a.c3; have y4 := Y.a.c4; have y5 := Y.a.c5; have y6 := Y.a.c6; have yl := Y.a.lt
  have yf0 := Y.f 0; have yf1 := Y.f 1; have yf2 := Y.f 2; have yf3 := Y.f 3; have yf4 := Y.f 4; have yf5 := Y.f 5; have yf6 := Y.f 6
  go_wp2_with fail
  clear q0 q1 q2 q3 q4 q5 q6 ql c0 c1 c2 cl x0 x1 x2 x3 x4 x5 x6 xl y0 y1 y2 y3 y4 y5 y6 yl yf0 yf1 yf2 yf3 yf4 yf5 yf6 hxy hyx
  have BX := putF_below B (show w.heap.size ≤ w10.heap.size by omega) h4
  replace SY := SY.putF PY.out (show w.heap.size ≤ w10.heap.size by omega) (show w10.heap.size < _ from hly) h4
  replace SX := SX.putF PX.out (show w.heap.size ≤ w10.heap.size by omega) (by omega) h4
  replace Q := Q.putO (c := w10.heap.size) (by omega) h4; replace A := A.putO (g := w10.heap.size) (by omega) h4; replace C := C.putO (g := w10.heap.size) (by omega) h4; replace X := X.putO (c := w10.heap.size) (by omega) h4
  replace Y := Y.put h4
  clear B
  obtain ⟨z13, hz⟩ : ∃ z, putF w13 w10.heap.size h4 = z := ⟨_, rfl⟩
  rw [hz] at BX SX SY Q A C X Y
  have hZ13 : z13.heap.size = w13.heap.size := by rw [← hz]; exact putF_size ..
  dsimp only [putF] at hz
  rw [hz]
  clear hz
  have B := BX
  clear BX
  refine (rsameF_is h3 h4 F2 F2 true ⟨fun _ => rfl, fun _ => rfl⟩ (by have := LF2.out.1; have := SX.rl; omega) (by have := LF2.out.2.1; have := SX.el; omega) (by have := LF2.out.2.2; have := SX.cl; omega) _ SX SY).mono ?_; rintro e w14 ⟨rfl, hb⟩
  clear SX SY
  replace Q := Q.below hb; replace A := A.below hb; replace C := C.below hb; replace X := X.below hb; replace Y := Y.below hb; replace B := B.trans (hb.mono B.size); clear hb
  have q0 := Q.c0; have q1 := Q.c1; have q2 := Q.c2; have q3 := Q.c3; have q4 := Q.c4; have q5 := Q.c5; have q6 := Q.c6; have ql := Q.lt
  have x0 := X.a.c0; have x1 := X.a.c1; have x2 := X.a.c2; have x3 := X.a.c3; have x4 := X.a.c4; have x5 := X.a.c5; have x6 := X.a.c6; have xl := X.a.lt
  have y0 := Y.a.c0; have y1 := Y.a.c1; have y2 := Y.a.c2; have y3 := Y.a.c3; have y4 := Y.a.c4; have y5 := Y.a.c5; have y6 := Y.a.c6; have yl := Y.a.lt
  go_wp2_with fail
  clear q0 q1 q2 q3 q4 q5 q6 ql x0 x1 x2 x3 x4 x5 x6 xl y0 y1 y2 y3 y4 y5 y6 yl
  refine (CT1.out _ (HSS.out.below B)).mono ?_; rintro e w15 ⟨hb, h5, rfl, SX, PX⟩
  have PX := Lib.hid (PX _ HLOW.out)
  have hlx := X.a.lt; have hly := Y.a.lt
  have hz15 := hb.size
  replace Q := Q.below hb; replace A := A.below hb; replace C := C.below hb; replace X := X.below hb; replace Y := Y.below hb; replace B := B.trans (hb.mono B.size); clear hb
  have q0 := Q.c0; have q1 := Q.c1; have q2 := Q.c2; have q3 := Q.c3; have q4 := Q.c4; have q5 := Q.c5; have q6 := Q.c6; have ql := Q.lt
  have c0 := C.c0; have c1 := C.c1; have c2 := C.c2; have cl := C.lt
  have x0 := X.a.c0; have x1 := X.a.c1; have x2 := X.a.c2; have x3 := X.a.c3; have x4 := X.a.c4; have x5 := X.a.c5; have x6 := X.a.c6; have xl := X.a.lt
  have xf0 := X.f 0; have xf1 := X.f 1; have xf2 := X.f 2; have xf3 := X.f 3; have xf4 := X.f 4; have xf5 := X.f 5; have xf6 := X.f 6
  go_wp2_with fail
  clear q0 q1 q2 q3 q4 q5 q6 ql c0 c1 c2 cl x0 x1 x2 x3 x4 x5 x6 xl xf0 xf1 xf2 xf3 xf4 xf5 xf6
  have BX := putF_below B (show w.heap.size ≤ w9.heap.size by omega) h5
  replace SX := SX.putF PX.out (show w.heap.size ≤ w9.heap.size by omega) (show w9.heap.size < _ from hlx) h5
  replace Q := Q.putO (c := w9.heap.size) (by omega) h5; replace A := A.putO (g := w9.heap.size) (by omega) h5; replace C := C.putO (g := w9.heap.size) (by omega) h5; replace Y := Y.putO (c := w9.heap.size) (by omega) h5
  replace X := X.put h5
  clear B
  obtain ⟨z15, hz⟩ : ∃ z, putF w15 w9.heap.size h5 = z := ⟨_, rfl⟩
  rw [hz] at BX SX Q A C X Y
  have hZ15 : z15.heap.size = w15.heap.size := by rw [← hz]; exact putF_size ..
  dsimp only [putF] at hz
  rw [hz]
  clear hz
  have B := BX
  clear BX
  refine (CT2.out _ (HSS.out.below B)).mono ?_; rintro e w16 ⟨hb, h6, rfl, SY, PY⟩
  have PY := Lib.hid (PY _ HLOW.out)
  have hly := Y.a.lt
  replace SX := SX.below hb
  replace Q := Q.below hb; replace A := A.below hb; replace C := C.below hb; replace X := X.below hb; replace Y := Y.below hb; replace B := B.trans (hb.mono B.size); clear hb
  have hxy : ¬ w9.heap.size = w10.heap.size := (by omega)
  have hyx : ¬ w10.heap.size = w9.heap.size := (by omega)
  have q0 := Q.c0; have q1 := Q.c1; have q2 := Q.c2; have q3 := Q.c3; have q4 := Q.c4; have q5 := Q.c5; have q6 := Q.c6; have ql := Q.lt
  have c0 := C.c0; have c1 := C.c1; have c2 := C.c2; have cl := C.lt
  have x0 := X.a.c0; have x1 := X.a.c1; have x2 := X.a.c2; have x3 := X.a.c3; have x4 := X.a.c4; have x5 := X.a.c5; have x6 := X.a.c6; have xl := X.a.lt
  have y0 := Y.a.c0; have y1 := Y.a.c1; have y2 := Y.a.c2; have y3 := Y.a.c3; have y4 := Y.a.c4; have y5 := Y.a.c5; have y6 := Y.a.c6; have yl := Y.a.lt
  have yf0 := Y.f 0; have yf1 := Y.f 1; have yf2 := Y.f 2; have yf3 := Y.f 3; have yf4 := Y.f 4; have yf5 := Y.f 5; have yf6 := Y.f 6
  go_wp2_with fail
  clear q0 q1 q2 q3 q4 q5 q6 ql c0 c1 c2 cl x0 x1 x2 x3 x4 x5 x6 xl y0 y1 y2 y3 y4 y5 y6 yl yf0 yf1 yf2 yf3 yf4 yf5 yf6 hxy hyx
  have BX := putF_below B (show w.heap.size ≤ w10.heap.size by omega) h6
  replace SY := SY.putF PY.out (show w.heap.size ≤ w10.heap.size by omega) (show w10.heap.size < _ from hly) h6
  replace SX := SX.putF PX.out (show w.heap.size ≤ w10.heap.size by omega) (by omega) h6
  replace Q := Q.putO (c := w10.heap.size) (by omega) h6; replace A := A.putO (g := w10.heap.size) (by omega) h6; replace C := C.putO (g := w10.heap.size) (by omega) h6; replace X := X.putO (c := w10.heap.size) (by omega) h6
  replace Y := Y.put h6
  clear B
  obtain ⟨z16, hz⟩ : ∃ z, putF w16 w10.heap.size h6 = z := ⟨_, rfl⟩
  rw [hz] at BX SX SY Q A C X Y
  have hZ16 : z16.heap.size = w16.heap.size := by rw [← hz]; exact putF_size ..
  dsimp only [putF] at hz
  rw [hz]
  clear hz
  have B := BX
  clear BX
  refine (rsameF_is h5 h6 F3 F3 true ⟨fun _ => rfl, fun _ => rfl⟩ (by have := LF3.out.1; have := SX.rl; omega) (by have := LF3.out.2.1; have := SX.el; omega) (by have := LF3.out.2.2; have := SX.cl; omega) _ SX SY).mono ?_; rintro e w17 ⟨rfl, hb⟩
  clear SX SY
  replace Q := Q.below hb; replace A := A.below hb; replace C := C.below hb; replace X := X.below hb; replace Y := Y.below hb; replace B := B.trans (hb.mono B.size); clear hb
  go_wp2_with fail
  go_ret
  exact ⟨rfl, B⟩
end Go.Proofs.Ytakbpgljbbkmkaa
