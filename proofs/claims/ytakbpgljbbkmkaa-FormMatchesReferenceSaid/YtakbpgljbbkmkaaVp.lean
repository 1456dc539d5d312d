/- A form's block that can be written; what Cut, Open, Times answer. -/
import Derived.Test.YtakbpgljbbkmkaaVo
namespace Go.Proofs.Ytakbpgljbbkmkaa
open Go.RowKit

def FH.zero : FH := ⟨0, none, 0, 0, none, 0, 0, 0, 0, 0, none, 0, 0⟩
structure FV (w : World) (b : Nat) (h : FH) : Prop where
  at_ : FB w b h
  blk : ∃ arr, w.heap[b]? = some (.cells arr 28 (0, 0))
theorem FV.below {w w' : World} {b : Nat} {s : FH} (h : FV w b s) (hb : Below w.heap.size w w') : FV w' b s :=
  ⟨h.at_.below hb, by obtain ⟨arr, h1⟩ := h.blk; exact ⟨arr, (hb.block b h.at_.lt).trans h1⟩⟩
theorem FV.alloc {w : World} {b : Nat} {s : FH} (h : FV w b s) (o : Obj) : FV (w.alloc o) b s := h.below ((Below.refl _ _).alloc (Nat.le_refl _) _)
theorem FV.f {w : World} {b : Nat} {s : FH} (h : FV w b s) (j : Nat) : w.frozen? ⟨b, j, none⟩ = false := by
  obtain ⟨arr, h1⟩ := h.blk
  simp [World.frozen?, h1]
theorem FV.new (w : World) (h : FH) : FV (w.alloc (.cells #[.int .i64 h.n, .slice h.R h.rl h.rc, .slice h.E h.el h.ec, .int .i64 h.ja, .int .i64 h.jt, .int .i64 h.jf, .slice h.C h.cl h.cc] 28)) w.heap.size h := ⟨FB.new w h, _, heap_alloc_new w _⟩
theorem FV.zero (w : World) : FV (w.alloc (.cells #[.int .i64 0, .slice none 0 0, .slice none 0 0, .int .i64 0, .int .i64 0, .int .i64 0, .slice none 0 0] 28)) w.heap.size .zero := FV.new w .zero
theorem FV.grown {w w' : World} {b base : Nat} {s : FH} {v : Value} (h : FV w b s) (hlt : b < base) (hown : ∀ j, v.ownBlock = some j → base ≤ j) (hg : w.grownBy w' v.ownBlock) : FV w' b s := by
  have hne : some b ≠ v.ownBlock := fun e => by have := hown b e.symm; omega
  have hk := hg.block b h.at_.lt hne
  have c : ∀ j u, w.cell? ⟨b, j, none⟩ = some u → w'.cell? ⟨b, j, none⟩ = some u := fun j u hu => (World.cell?_of_block (w := w) (a := ⟨b, j, none⟩) hk).trans hu
  obtain ⟨arr, h4⟩ := h.blk
  exact ⟨⟨Nat.lt_of_lt_of_le h.at_.lt hg.size, c 0 _ h.at_.c0, c 1 _ h.at_.c1, c 2 _ h.at_.c2, c 3 _ h.at_.c3, c 4 _ h.at_.c4, c 5 _ h.at_.c5, c 6 _ h.at_.c6⟩, arr, hk.trans h4⟩
/-- The world behind the seven stores. -/
def putF (w : World) (b : Nat) (t : FH) : World := (((((((w.setCell ⟨b, 0, none⟩ (.int .i64 t.n)).setCell ⟨b, 1, none⟩ (.slice t.R t.rl t.rc)).setCell ⟨b, 2, none⟩ (.slice t.E t.el t.ec)).setCell ⟨b, 3, none⟩ (.int .i64 t.ja)).setCell ⟨b, 4, none⟩ (.int .i64 t.jt)).setCell ⟨b, 5, none⟩ (.int .i64 t.jf)).setCell ⟨b, 6, none⟩ (.slice t.C t.cl t.cc))
theorem putF_below {B : Nat} {w0 w : World} {b : Nat} (h : Below B w0 w) (hb : B ≤ b) (t : FH) : Below B w0 (putF w b t) := (((((((h.setCell (p := ⟨b, 0, none⟩) hb _).setCell (p := ⟨b, 1, none⟩) hb _).setCell (p := ⟨b, 2, none⟩) hb _).setCell (p := ⟨b, 3, none⟩) hb _).setCell (p := ⟨b, 4, none⟩) hb _).setCell (p := ⟨b, 5, none⟩) hb _).setCell (p := ⟨b, 6, none⟩) hb _)
theorem putF_size (w : World) (b : Nat) (t : FH) : (putF w b t).heap.size = w.heap.size := by unfold putF; simp
set_option maxHeartbeats 1600000 in
theorem FV.put {w : World} {b : Nat} {s : FH} (h : FV w b s) (t : FH) : FB (putF w b t) b t := by
  obtain ⟨l, c0, c1, c2, c3, c4, c5, c6⟩ := h.at_
  have f0 := h.f 0; have f1 := h.f 1; have f2 := h.f 2; have f3 := h.f 3; have f4 := h.f 4; have f5 := h.f 5; have f6 := h.f 6
  unfold putF
  refine ⟨by simpa using l, ?_, ?_, ?_, ?_, ?_, ?_, ?_⟩
  all_goals go_simp
/-- Another slice of cuts. -/
theorem FB.cuts {w : World} {b : Nat} {s : FH} (h : FB w b s) (C : Option Addr) (cl cc : Nat) : FB (w.setCell ⟨b, 6, none⟩ (.slice C cl cc)) b {s with C := C, cl := cl, cc := cc} := by
  obtain ⟨l, c0, c1, c2, c3, c4, c5, c6⟩ := h
  have k : ∀ j, j ≠ 6 → (w.setCell ⟨b, 6, none⟩ (.slice C cl cc)).cell? ⟨b, j, none⟩ = w.cell? ⟨b, j, none⟩ := fun j hj => World.cell?_setCell_other (w := w) (a := ⟨b, 6, none⟩) (b := ⟨b, j, none⟩) (v := .slice C cl cc) (fun e2 => by cases e2; exact hj rfl)
  exact ⟨by simpa using l, (k 0 (by decide)).trans c0, (k 1 (by decide)).trans c1, (k 2 (by decide)).trans c2, (k 3 (by decide)).trans c3, (k 4 (by decide)).trans c4, (k 5 (by decide)).trans c5, World.cell?_setCell_same w _ _ c6⟩
/-- What Cut answers. -/
def CutI (f : Fo.Fm) (c : Fo.T3) (e : Int) : Prop :=
  (¬ (Fo.Val f ∧ Fo.okC f.n c) ∧ e = 1) ∨ ((Fo.Val f ∧ Fo.okC f.n c) ∧ ((0 ≤ Fo.cix f.cs c ∧ e = 5) ∨ (Fo.cix f.cs c < 0 ∧ ((f.cs.length = 100 ∧ e = 2) ∨ (f.cs.length < 100 ∧ e = 0)))))
structure FormR (f' : Fo.Fm) (e : Int) (h' : FH) (w' : World) : Prop where
  ok : e = 0 → SlF w' h' f' ∧ h'.cl ≤ h'.cc
  no : e ≠ 0 → h' = .zero
set_option maxHeartbeats 6400000 in
theorem rCut_no (h : FH) (f : Fo.Fm) (c : Fo.T3) (hV : ¬ Fo.Val f) (hcap : h.cl ≤ h.cc) (w : World) (hS : SlF w h f) :
    Calls Try.prog 19 #[.agg #[.int .i64 h.n, .slice h.R h.rl h.rc, .slice h.E h.el h.ec, .int .i64 h.ja, .int .i64 h.jt, .int .i64 h.jf, .slice h.C h.cl h.cc], .agg #[.int .i64 c.a, .int .i64 c.b, .int .i64 c.c]] w fun y w' => Below w.heap.size w w' ∧ ∃ h' : FH, y = .returned (.tuple #[.agg #[.int .i64 h'.n, .slice h'.R h'.rl h'.rc, .slice h'.E h'.el h'.ec, .int .i64 h'.ja, .int .i64 h'.jt, .int .i64 h'.jf, .slice h'.C h'.cl h'.cc], .int .i64 1]) ∧ FormR f 1 h' w' := by
    have HV := Lib.hid hV; have HCAP := Lib.hid hcap; have HSS := Lib.hid hS
    clear hS hV hcap
    go_enter Try.func19, Try.ntmps19
    go_wp2_with fail
    have Q := ((FV.new w h).alloc (.cells #[.int .i64 c.a, .int .i64 c.b, .int .i64 c.c] 32)).alloc (.cells #[.int .i64 0, .slice none 0 0, .slice none 0 0, .int .i64 0, .int .i64 0, .int .i64 0, .slice none 0 0] 28)
    have T := (TB.new (w.alloc (.cells #[.int .i64 h.n, .slice h.R h.rl h.rc, .slice h.E h.el h.ec, .int .i64 h.ja, .int .i64 h.jt, .int .i64 h.jf, .slice h.C h.cl h.cc] 28)) c 32).alloc (.cells #[.int .i64 0, .slice none 0 0, .slice none 0 0, .int .i64 0, .int .i64 0, .int .i64 0, .slice none 0 0] 28)
    have V := FV.zero ((w.alloc (.cells #[.int .i64 h.n, .slice h.R h.rl h.rc, .slice h.E h.el h.ec, .int .i64 h.ja, .int .i64 h.jt, .int .i64 h.jf, .slice h.C h.cl h.cc] 28)).alloc (.cells #[.int .i64 c.a, .int .i64 c.b, .int .i64 c.c] 32))
    have B := (((Below.refl w.heap.size w).alloc (Nat.le_refl _) (.cells #[.int .i64 h.n, .slice h.R h.rl h.rc, .slice h.E h.el h.ec, .int .i64 h.ja, .int .i64 h.jt, .int .i64 h.jf, .slice h.C h.cl h.cc] 28)).alloc (by simp) (.cells #[.int .i64 c.a, .int .i64 c.b, .int .i64 c.c] 32)).alloc (by simp <;> omega) (.cells #[.int .i64 0, .slice none 0 0, .slice none 0 0, .int .i64 0, .int .i64 0, .int .i64 0, .slice none 0 0] 28)
    rw [World.size_alloc] at T
    rw [World.size_alloc, World.size_alloc] at V
    refine (rValid_is h f false ⟨(fun h => by cases h), fun k => absurd k HV.out⟩ HCAP.out _ (((HSS.out.alloc _).alloc _).alloc _)).mono ?_; rintro e w1 ⟨rfl, hb⟩
    replace V := V.below hb; replace Q := Q.below hb; replace T := T.below hb; replace B := B.trans (hb.mono B.size)
    clear hb
    have Qq := Q.at_; have q0 := Qq.c0; have q1 := Qq.c1; have q2 := Qq.c2; have q3 := Qq.c3; have q4 := Qq.c4; have q5 := Qq.c5; have q6 := Qq.c6; have ql := Qq.lt; have k6 := Q.f 6
    have t0 := T.c0; have t1 := T.c1; have t2 := T.c2; have tl := T.lt
    have Vv := V.at_; have v0 := Vv.c0; have v1 := Vv.c1; have v2 := Vv.c2; have v3 := Vv.c3; have v4 := Vv.c4; have v5 := Vv.c5; have v6 := Vv.c6; have vl := Vv.lt; have g0 := V.f 0; have g1 := V.f 1; have g2 := V.f 2; have g3 := V.f 3; have g4 := V.f 4; have g5 := V.f 5; have g6 := V.f 6
    clear Qq Vv
    go_wp2_with fail
    have hB2 := putF_below B (show w.heap.size ≤ w.heap.size + 1 + 1 by omega) .zero
    have P := V.put .zero
    show bodyPost _ _ _ _ _ (putF w1 (w.heap.size + 1 + 1) .zero)
    obtain ⟨wz, hz⟩ : ∃ wz, putF w1 (w.heap.size + 1 + 1) .zero = wz := ⟨_, rfl⟩
    rw [hz] at P hB2 ⊢
    obtain ⟨-, p0, p1, p2, p3, p4, p5, p6⟩ := P
    dsimp only [FH.zero] at p0 p1 p2 p3 p4 p5 p6
    refine bodyPost_ret (v := .tuple #[.agg #[.int .i64 0, .slice none 0 0, .slice none 0 0, .int .i64 0, .int .i64 0, .int .i64 0, .slice none 0 0], .int .i64 1]) (by simp [results, Try.results19, p0, p1, p2, p3, p4, p5, p6, go_sem]) rfl ⟨hB2, .zero, rfl, fun h => (by cases h), fun _ => rfl⟩
theorem rCut_five (h : FH) (f : Fo.Fm) (c : Fo.T3) (e : Int) (V0 : Fo.Val f) (hcap : h.cl ≤ h.cc) (he : (¬ Fo.okC h.n c ∧ e = 1) ∨ (Fo.okC h.n c ∧ ((0 ≤ Fo.cix f.cs c ∧ e = 5) ∨ (Fo.cix f.cs c < 0 ∧ h.cl = 100 ∧ e = 2)))) (w : World) (hS : SlF w h f) :
    Calls Try.prog 19 #[.agg #[.int .i64 h.n, .slice h.R h.rl h.rc, .slice h.E h.el h.ec, .int .i64 h.ja, .int .i64 h.jt, .int .i64 h.jf, .slice h.C h.cl h.cc], .agg #[.int .i64 c.a, .int .i64 c.b, .int .i64 c.c]] w fun y w' => Below w.heap.size w w' ∧ ∃ h' : FH, y = .returned (.tuple #[.agg #[.int .i64 h'.n, .slice h'.R h'.rl h'.rc, .slice h'.E h'.el h'.ec, .int .i64 h'.ja, .int .i64 h'.jt, .int .i64 h'.jf, .slice h'.C h'.cl h'.cc], .int .i64 e]) ∧ FormR f e h' w' := by
  have HV := Lib.hid V0; have HCAP := Lib.hid hcap; have HSS := Lib.hid hS
  have HM := Lib.hid (show h.cl ≤ 100 by have := V0.cl; have := hS.cl; omega)
  clear hS V0 hcap
  rcases he with ⟨he, rfl⟩ | ⟨he, h2⟩
  · have HE := Lib.hid he
    clear he
    go_enter Try.func19, Try.ntmps19
    go_wp2_with fail
    have Q := ((FV.new w h).alloc (.cells #[.int .i64 c.a, .int .i64 c.b, .int .i64 c.c] 32)).alloc (.cells #[.int .i64 0, .slice none 0 0, .slice none 0 0, .int .i64 0, .int .i64 0, .int .i64 0, .slice none 0 0] 28)
    have T := (TB.new (w.alloc (.cells #[.int .i64 h.n, .slice h.R h.rl h.rc, .slice h.E h.el h.ec, .int .i64 h.ja, .int .i64 h.jt, .int .i64 h.jf, .slice h.C h.cl h.cc] 28)) c 32).alloc (.cells #[.int .i64 0, .slice none 0 0, .slice none 0 0, .int .i64 0, .int .i64 0, .int .i64 0, .slice none 0 0] 28)
    have V := FV.zero ((w.alloc (.cells #[.int .i64 h.n, .slice h.R h.rl h.rc, .slice h.E h.el h.ec, .int .i64 h.ja, .int .i64 h.jt, .int .i64 h.jf, .slice h.C h.cl h.cc] 28)).alloc (.cells #[.int .i64 c.a, .int .i64 c.b, .int .i64 c.c] 32))
    have B := (((Below.refl w.heap.size w).alloc (Nat.le_refl _) (.cells #[.int .i64 h.n, .slice h.R h.rl h.rc, .slice h.E h.el h.ec, .int .i64 h.ja, .int .i64 h.jt, .int .i64 h.jf, .slice h.C h.cl h.cc] 28)).alloc (by simp) (.cells #[.int .i64 c.a, .int .i64 c.b, .int .i64 c.c] 32)).alloc (by simp <;> omega) (.cells #[.int .i64 0, .slice none 0 0, .slice none 0 0, .int .i64 0, .int .i64 0, .int .i64 0, .slice none 0 0] 28)
    rw [World.size_alloc] at T
    rw [World.size_alloc, World.size_alloc] at V
    refine (rValid_is h f true ⟨fun _ => HV.out, fun _ => rfl⟩ HCAP.out _ (((HSS.out.alloc _).alloc _).alloc _)).mono ?_; rintro e w1 ⟨rfl, hb⟩
    replace V := V.below hb; replace Q := Q.below hb; replace T := T.below hb; replace B := B.trans (hb.mono B.size)
    clear hb
    have Qq := Q.at_; have q0 := Qq.c0; have q1 := Qq.c1; have q2 := Qq.c2; have q3 := Qq.c3; have q4 := Qq.c4; have q5 := Qq.c5; have q6 := Qq.c6; have ql := Qq.lt; have k6 := Q.f 6
    have t0 := T.c0; have t1 := T.c1; have t2 := T.c2; have tl := T.lt
    have Vv := V.at_; have v0 := Vv.c0; have v1 := Vv.c1; have v2 := Vv.c2; have v3 := Vv.c3; have v4 := Vv.c4; have v5 := Vv.c5; have v6 := Vv.c6; have vl := Vv.lt; have g0 := V.f 0; have g1 := V.f 1; have g2 := V.f 2; have g3 := V.f 3; have g4 := V.f 4; have g5 := V.f 5; have g6 := V.f 6
    clear Qq Vv
    go_wp2_with fail
    clear q0 q1 q2 q3 q4 q5 q6 ql k6 t0 t1 t2 tl v0 v1 v2 v3 v4 v5 v6 vl g0 g1 g2 g3 g4 g5 g6
    refine (rcut_is h c false ⟨(fun h => by cases h), fun k => absurd k HE.out⟩ _).mono ?_; rintro e w2 ⟨rfl, hb⟩
    replace V := V.below hb; replace Q := Q.below hb; replace T := T.below hb; replace B := B.trans (hb.mono B.size)
    clear hb
    have Qq := Q.at_; have q0 := Qq.c0; have q1 := Qq.c1; have q2 := Qq.c2; have q3 := Qq.c3; have q4 := Qq.c4; have q5 := Qq.c5; have q6 := Qq.c6; have ql := Qq.lt; have k6 := Q.f 6
    have t0 := T.c0; have t1 := T.c1; have t2 := T.c2; have tl := T.lt
    have Vv := V.at_; have v0 := Vv.c0; have v1 := Vv.c1; have v2 := Vv.c2; have v3 := Vv.c3; have v4 := Vv.c4; have v5 := Vv.c5; have v6 := Vv.c6; have vl := Vv.lt; have g0 := V.f 0; have g1 := V.f 1; have g2 := V.f 2; have g3 := V.f 3; have g4 := V.f 4; have g5 := V.f 5; have g6 := V.f 6
    clear Qq Vv
    go_wp2_with fail
    have hB2 := putF_below B (show w.heap.size ≤ w.heap.size + 1 + 1 by omega) .zero
    have P := V.put .zero
    show bodyPost _ _ _ _ _ (putF w2 (w.heap.size + 1 + 1) .zero)
    obtain ⟨wz, hz⟩ : ∃ wz, putF w2 (w.heap.size + 1 + 1) .zero = wz := ⟨_, rfl⟩
    rw [hz] at P hB2 ⊢
    obtain ⟨-, p0, p1, p2, p3, p4, p5, p6⟩ := P
    dsimp only [FH.zero] at p0 p1 p2 p3 p4 p5 p6
    refine bodyPost_ret (v := .tuple #[.agg #[.int .i64 0, .slice none 0 0, .slice none 0 0, .int .i64 0, .int .i64 0, .int .i64 0, .slice none 0 0], .int .i64 1]) (by simp [results, Try.results19, p0, p1, p2, p3, p4, p5, p6, go_sem]) rfl ⟨hB2, .zero, rfl, fun h => (by cases h), fun _ => rfl⟩
  have HE := Lib.hid he
  clear he
  obtain ⟨r, hr⟩ : ∃ r, Fo.cix f.cs c = r := ⟨_, rfl⟩
  rw [hr] at h2
  have HR := Lib.hid hr
  clear hr
  rcases h2 with ⟨h2, rfl⟩ | ⟨h2, h3, rfl⟩
  · have h2' : ¬ r < 0 := by omega
    go_enter Try.func19, Try.ntmps19
    go_wp2_with fail
    have Q := ((FV.new w h).alloc (.cells #[.int .i64 c.a, .int .i64 c.b, .int .i64 c.c] 32)).alloc (.cells #[.int .i64 0, .slice none 0 0, .slice none 0 0, .int .i64 0, .int .i64 0, .int .i64 0, .slice none 0 0] 28)
    have T := (TB.new (w.alloc (.cells #[.int .i64 h.n, .slice h.R h.rl h.rc, .slice h.E h.el h.ec, .int .i64 h.ja, .int .i64 h.jt, .int .i64 h.jf, .slice h.C h.cl h.cc] 28)) c 32).alloc (.cells #[.int .i64 0, .slice none 0 0, .slice none 0 0, .int .i64 0, .int .i64 0, .int .i64 0, .slice none 0 0] 28)
    have V := FV.zero ((w.alloc (.cells #[.int .i64 h.n, .slice h.R h.rl h.rc, .slice h.E h.el h.ec, .int .i64 h.ja, .int .i64 h.jt, .int .i64 h.jf, .slice h.C h.cl h.cc] 28)).alloc (.cells #[.int .i64 c.a, .int .i64 c.b, .int .i64 c.c] 32))
    have B := (((Below.refl w.heap.size w).alloc (Nat.le_refl _) (.cells #[.int .i64 h.n, .slice h.R h.rl h.rc, .slice h.E h.el h.ec, .int .i64 h.ja, .int .i64 h.jt, .int .i64 h.jf, .slice h.C h.cl h.cc] 28)).alloc (by simp) (.cells #[.int .i64 c.a, .int .i64 c.b, .int .i64 c.c] 32)).alloc (by simp <;> omega) (.cells #[.int .i64 0, .slice none 0 0, .slice none 0 0, .int .i64 0, .int .i64 0, .int .i64 0, .slice none 0 0] 28)
    rw [World.size_alloc] at T
    rw [World.size_alloc, World.size_alloc] at V
    refine (rValid_is h f true ⟨fun _ => HV.out, fun _ => rfl⟩ HCAP.out _ (((HSS.out.alloc _).alloc _).alloc _)).mono ?_; rintro e w1 ⟨rfl, hb⟩
    replace V := V.below hb; replace Q := Q.below hb; replace T := T.below hb; replace B := B.trans (hb.mono B.size)
    clear hb
    have Qq := Q.at_; have q0 := Qq.c0; have q1 := Qq.c1; have q2 := Qq.c2; have q3 := Qq.c3; have q4 := Qq.c4; have q5 := Qq.c5; have q6 := Qq.c6; have ql := Qq.lt; have k6 := Q.f 6
    have t0 := T.c0; have t1 := T.c1; have t2 := T.c2; have tl := T.lt
    have Vv := V.at_; have v0 := Vv.c0; have v1 := Vv.c1; have v2 := Vv.c2; have v3 := Vv.c3; have v4 := Vv.c4; have v5 := Vv.c5; have v6 := Vv.c6; have vl := Vv.lt; have g0 := V.f 0; have g1 := V.f 1; have g2 := V.f 2; have g3 := V.f 3; have g4 := V.f 4; have g5 := V.f 5; have g6 := V.f 6
    clear Qq Vv
    go_wp2_with fail
    clear q0 q1 q2 q3 q4 q5 q6 ql k6 t0 t1 t2 tl v0 v1 v2 v3 v4 v5 v6 vl g0 g1 g2 g3 g4 g5 g6
    refine (rcut_is h c true ⟨fun _ => HE.out, fun _ => rfl⟩ _).mono ?_; rintro e w2 ⟨rfl, hb⟩
    replace V := V.below hb; replace Q := Q.below hb; replace T := T.below hb; replace B := B.trans (hb.mono B.size)
    clear hb
    have Qq := Q.at_; have q0 := Qq.c0; have q1 := Qq.c1; have q2 := Qq.c2; have q3 := Qq.c3; have q4 := Qq.c4; have q5 := Qq.c5; have q6 := Qq.c6; have ql := Qq.lt; have k6 := Q.f 6
    have t0 := T.c0; have t1 := T.c1; have t2 := T.c2; have tl := T.lt
    have Vv := V.at_; have v0 := Vv.c0; have v1 := Vv.c1; have v2 := Vv.c2; have v3 := Vv.c3; have v4 := Vv.c4; have v5 := Vv.c5; have v6 := Vv.c6; have vl := Vv.lt; have g0 := V.f 0; have g1 := V.f 1; have g2 := V.f 2; have g3 := V.f 3; have g4 := V.f 4; have g5 := V.f 5; have g6 := V.f 6
    clear Qq Vv
    go_wp2_with fail
    clear q0 q1 q2 q3 q4 q5 q6 ql k6 t0 t1 t2 tl v0 v1 v2 v3 v4 v5 v6 vl g0 g1 g2 g3 g4 g5 g6
    refine (rhas_is f.cs c r _ _ _ HR.out HSS.out.cl (Nat.le_trans HM.out (by decide)) _ (HSS.out.sc.below B)).mono ?_; rintro e w3 ⟨rfl, hb⟩
    replace V := V.below hb; replace Q := Q.below hb; replace T := T.below hb; replace B := B.trans (hb.mono B.size)
    clear hb
    have Qq := Q.at_; have q0 := Qq.c0; have q1 := Qq.c1; have q2 := Qq.c2; have q3 := Qq.c3; have q4 := Qq.c4; have q5 := Qq.c5; have q6 := Qq.c6; have ql := Qq.lt; have k6 := Q.f 6
    have t0 := T.c0; have t1 := T.c1; have t2 := T.c2; have tl := T.lt
    have Vv := V.at_; have v0 := Vv.c0; have v1 := Vv.c1; have v2 := Vv.c2; have v3 := Vv.c3; have v4 := Vv.c4; have v5 := Vv.c5; have v6 := Vv.c6; have vl := Vv.lt; have g0 := V.f 0; have g1 := V.f 1; have g2 := V.f 2; have g3 := V.f 3; have g4 := V.f 4; have g5 := V.f 5; have g6 := V.f 6
    clear Qq Vv
    go_wp2_with fail
    have hB2 := putF_below B (show w.heap.size ≤ w.heap.size + 1 + 1 by omega) .zero
    have P := V.put .zero
    show bodyPost _ _ _ _ _ (putF w3 (w.heap.size + 1 + 1) .zero)
    obtain ⟨wz, hz⟩ : ∃ wz, putF w3 (w.heap.size + 1 + 1) .zero = wz := ⟨_, rfl⟩
    rw [hz] at P hB2 ⊢
    obtain ⟨-, p0, p1, p2, p3, p4, p5, p6⟩ := P
    dsimp only [FH.zero] at p0 p1 p2 p3 p4 p5 p6
    refine bodyPost_ret (v := .tuple #[.agg #[.int .i64 0, .slice none 0 0, .slice none 0 0, .int .i64 0, .int .i64 0, .int .i64 0, .slice none 0 0], .int .i64 5]) (by simp [results, Try.results19, p0, p1, p2, p3, p4, p5, p6, go_sem]) rfl ⟨hB2, .zero, rfl, fun h => (by cases h), fun _ => rfl⟩
  · have h3' : (h.cl : Int) = 100 := by omega
    have h2' : ¬ 0 ≤ r := by omega
    obtain ⟨n0, R, rl, rc, E, el, ec, ja, jt, jf, C, cl, cc⟩ := h
    dsimp only at h3 h3' HM HCAP HSS HE ⊢
    subst h3
    clear h3'
    go_enter Try.func19, Try.ntmps19
    go_wp2_with fail
    have Q := ((FV.new w (⟨n0, R, rl, rc, E, el, ec, ja, jt, jf, C, 100, cc⟩ : FH)).alloc (.cells #[.int .i64 c.a, .int .i64 c.b, .int .i64 c.c] 32)).alloc (.cells #[.int .i64 0, .slice none 0 0, .slice none 0 0, .int .i64 0, .int .i64 0, .int .i64 0, .slice none 0 0] 28)
    have T := (TB.new (w.alloc (.cells #[.int .i64 n0, .slice R rl rc, .slice E el ec, .int .i64 ja, .int .i64 jt, .int .i64 jf, .slice C (100 : Nat) cc] 28)) c 32).alloc (.cells #[.int .i64 0, .slice none 0 0, .slice none 0 0, .int .i64 0, .int .i64 0, .int .i64 0, .slice none 0 0] 28)
    have V := FV.zero ((w.alloc (.cells #[.int .i64 n0, .slice R rl rc, .slice E el ec, .int .i64 ja, .int .i64 jt, .int .i64 jf, .slice C (100 : Nat) cc] 28)).alloc (.cells #[.int .i64 c.a, .int .i64 c.b, .int .i64 c.c] 32))
    have B := (((Below.refl w.heap.size w).alloc (Nat.le_refl _) (.cells #[.int .i64 n0, .slice R rl rc, .slice E el ec, .int .i64 ja, .int .i64 jt, .int .i64 jf, .slice C (100 : Nat) cc] 28)).alloc (by simp) (.cells #[.int .i64 c.a, .int .i64 c.b, .int .i64 c.c] 32)).alloc (by simp <;> omega) (.cells #[.int .i64 0, .slice none 0 0, .slice none 0 0, .int .i64 0, .int .i64 0, .int .i64 0, .slice none 0 0] 28)
    rw [World.size_alloc] at T
    rw [World.size_alloc, World.size_alloc] at V
    refine (rValid_is (⟨n0, R, rl, rc, E, el, ec, ja, jt, jf, C, 100, cc⟩ : FH) f true ⟨fun _ => HV.out, fun _ => rfl⟩ HCAP.out _ (((HSS.out.alloc _).alloc _).alloc _)).mono ?_; rintro e w1 ⟨rfl, hb⟩
    replace V := V.below hb; replace Q := Q.below hb; replace T := T.below hb; replace B := B.trans (hb.mono B.size)
    clear hb
    have Qq := Q.at_; have q0 := Qq.c0; have q1 := Qq.c1; have q2 := Qq.c2; have q3 := Qq.c3; have q4 := Qq.c4; have q5 := Qq.c5; have q6 := Qq.c6; have ql := Qq.lt; have k6 := Q.f 6
    have t0 := T.c0; have t1 := T.c1; have t2 := T.c2; have tl := T.lt
    have Vv := V.at_; have v0 := Vv.c0; have v1 := Vv.c1; have v2 := Vv.c2; have v3 := Vv.c3; have v4 := Vv.c4; have v5 := Vv.c5; have v6 := Vv.c6; have vl := Vv.lt; have g0 := V.f 0; have g1 := V.f 1; have g2 := V.f 2; have g3 := V.f 3; have g4 := V.f 4; have g5 := V.f 5; have g6 := V.f 6
    clear Qq Vv
    go_wp2_with fail
    clear q0 q1 q2 q3 q4 q5 q6 ql k6 t0 t1 t2 tl v0 v1 v2 v3 v4 v5 v6 vl g0 g1 g2 g3 g4 g5 g6
    refine (rcut_is (⟨n0, R, rl, rc, E, el, ec, ja, jt, jf, C, 100, cc⟩ : FH) c true ⟨fun _ => HE.out, fun _ => rfl⟩ _).mono ?_; rintro e w2 ⟨rfl, hb⟩
    replace V := V.below hb; replace Q := Q.below hb; replace T := T.below hb; replace B := B.trans (hb.mono B.size)
    clear hb
    have Qq := Q.at_; have q0 := Qq.c0; have q1 := Qq.c1; have q2 := Qq.c2; have q3 := Qq.c3; have q4 := Qq.c4; have q5 := Qq.c5; have q6 := Qq.c6; have ql := Qq.lt; have k6 := Q.f 6
    have t0 := T.c0; have t1 := T.c1; have t2 := T.c2; have tl := T.lt
    have Vv := V.at_; have v0 := Vv.c0; have v1 := Vv.c1; have v2 := Vv.c2; have v3 := Vv.c3; have v4 := Vv.c4; have v5 := Vv.c5; have v6 := Vv.c6; have vl := Vv.lt; have g0 := V.f 0; have g1 := V.f 1; have g2 := V.f 2; have g3 := V.f 3; have g4 := V.f 4; have g5 := V.f 5; have g6 := V.f 6
    clear Qq Vv
    go_wp2_with fail
    clear q0 q1 q2 q3 q4 q5 q6 ql k6 t0 t1 t2 tl v0 v1 v2 v3 v4 v5 v6 vl g0 g1 g2 g3 g4 g5 g6
    refine (rhas_is f.cs c r _ _ _ HR.out HSS.out.cl (Nat.le_trans HM.out (by decide)) _ (HSS.out.sc.below B)).mono ?_; rintro e w3 ⟨rfl, hb⟩
    replace V := V.below hb; replace Q := Q.below hb; replace T := T.below hb; replace B := B.trans (hb.mono B.size)
    clear hb
    have Qq := Q.at_; have q0 := Qq.c0; have q1 := Qq.c1; have q2 := Qq.c2; have q3 := Qq.c3; have q4 := Qq.c4; have q5 := Qq.c5; have q6 := Qq.c6; have ql := Qq.lt; have k6 := Q.f 6
    have t0 := T.c0; have t1 := T.c1; have t2 := T.c2; have tl := T.lt
    have Vv := V.at_; have v0 := Vv.c0; have v1 := Vv.c1; have v2 := Vv.c2; have v3 := Vv.c3; have v4 := Vv.c4; have v5 := Vv.c5; have v6 := Vv.c6; have vl := Vv.lt; have g0 := V.f 0; have g1 := V.f 1; have g2 := V.f 2; have g3 := V.f 3; have g4 := V.f 4; have g5 := V.f 5; have g6 := V.f 6
    clear Qq Vv
    go_wp2_with fail
    have hB2 := putF_below B (show w.heap.size ≤ w.heap.size + 1 + 1 by omega) .zero
    have P := V.put .zero
    show bodyPost _ _ _ _ _ (putF w3 (w.heap.size + 1 + 1) .zero)
    obtain ⟨wz, hz⟩ : ∃ wz, putF w3 (w.heap.size + 1 + 1) .zero = wz := ⟨_, rfl⟩
    rw [hz] at P hB2 ⊢
    obtain ⟨-, p0, p1, p2, p3, p4, p5, p6⟩ := P
    dsimp only [FH.zero] at p0 p1 p2 p3 p4 p5 p6
    refine bodyPost_ret (v := .tuple #[.agg #[.int .i64 0, .slice none 0 0, .slice none 0 0, .int .i64 0, .int .i64 0, .int .i64 0, .slice none 0 0], .int .i64 2]) (by simp [results, Try.results19, p0, p1, p2, p3, p4, p5, p6, go_sem]) rfl ⟨hB2, .zero, rfl, fun h => (by cases h), fun _ => rfl⟩
end Go.Proofs.Ytakbpgljbbkmkaa
