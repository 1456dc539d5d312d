/- The walk of reprise's Cut, where it cuts. -/
import Derived.Test.YtakbpgljbbkmkaaWp
namespace Go.Proofs.Ytakbpgljbbkmkaa
open Go.RowKit

/-- A form's block that can be written. -/
structure FW (w : World) (b : Nat) (h : FH) : Prop where
  a : FB w b h
  f : ∀ j, w.frozen? ⟨b, j, none⟩ = false
theorem FV.fw {w : World} {b : Nat} {h : FH} (s : FV w b h) : FW w b h := ⟨s.at_, s.f⟩
theorem FW.blk {w w' : World} {b : Nat} {h : FH} (s : FW w b h) (hs : w.heap.size ≤ w'.heap.size) (hb : w'.heap[b]? = w.heap[b]?) : FW w' b h := ⟨s.a.sameB hs hb, fun j => (World.frozen?_of_block (w := w) (a := ⟨b, j, none⟩) hb).trans (s.f j)⟩
theorem FW.below {w w' : World} {b : Nat} {h : FH} (s : FW w b h) (hb : Below w.heap.size w w') : FW w' b h := s.blk hb.size (hb.block b s.a.lt)
theorem FW.alloc {w : World} {b : Nat} {h : FH} (s : FW w b h) (o : Obj) : FW (w.alloc o) b h := s.below ((Below.refl _ _).alloc (Nat.le_refl _) _)
theorem FW.other {w : World} {b c k : Nat} {h : FH} (s : FW w b h) (hn : b ≠ c) (v : Value) : FW (w.setCell ⟨c, k, none⟩ v) b h := s.blk (by simp) (Below.heap_setCell w ⟨c, k, none⟩ v b hn)
theorem FW.putO {w : World} {b c : Nat} {h : FH} (s : FW w b h) (hn : b ≠ c) (t : FH) : FW (putF w c t) b h := ((((((s.other hn _).other hn _).other hn _).other hn _).other hn _).other hn _).other hn _
theorem FW.put {w : World} {b : Nat} {h : FH} (s : FW w b h) (t : FH) : FW (putF w b t) b t := ⟨s.a.put s.f t, fun j => by unfold putF; simp only [World.frozen?_setCell]; exact s.f j⟩
theorem FW.grown {w w' : World} {b : Nat} {h : FH} {row : Option Nat} (s : FW w b h) (hg : w.grownBy w' row) (hne : row ≠ some b) : FW w' b h := s.blk hg.size (hg.block b s.a.lt (fun e => hne e.symm))
theorem FW.cuts {w : World} {b : Nat} {s : FH} (h : FW w b s) (C : Option Addr) (cl cc : Nat) : FW (w.setCell ⟨b, 6, none⟩ (.slice C cl cc)) b {s with C := C, cl := cl, cc := cc} := ⟨h.a.cuts C cl cc, fun j => by rw [World.frozen?_setCell]; exact h.f j⟩
theorem own_putF {w : World} {base : Nat} {e : TypeId} {size n : Nat} {v : Value} {xs : List Value} (h : w.ownsRow base e size v n xs) {b : Nat} (hne : v.ownBlock ≠ some b) (t : FH) : (putF w b t).ownsRow base e size v n xs :=
  own_setS (own_setS (own_setS (own_setS (own_setS (own_setS (own_setS h hne 0 _) hne 1 _) hne 2 _) hne 3 _) hne 4 _) hne 5 _) hne 6 _
theorem own_apart {w : World} {b1 b2 : Nat} {e1 e2 : TypeId} {s1 s2 n1 n2 : Nat} {v1 v2 : Value} {x1 x2 : List Value} (h1 : w.ownsRow b1 e1 s1 v1 n1 x1) (h2 : w.ownsRow b2 e2 s2 v2 n2 x2) (hne : e1 ≠ e2) : v1.ownBlock = none ∨ v1.ownBlock ≠ v2.ownBlock := by
  rcases h1.2 with ⟨rfl, _⟩ | ⟨g, cap, cur, rfl, _, hg, _⟩
  · exact .inl rfl
  · refine .inr fun e => ?_
    rcases h2.2 with ⟨rfl, _⟩ | ⟨g2, cap2, cur2, rfl, _, hg2, _⟩
    · cases e
    · have e3 : g = g2 := by simpa [Value.ownBlock] using e
      subst e3
      rw [hg] at hg2
      cases hg2
      exact hne rfl
theorem own_far {w : World} {base b : Nat} {e : TypeId} {size n : Nat} {v : Value} {xs : List Value} (h : w.ownsRow base e size v n xs) (hb : b < base) : v.ownBlock ≠ some b := fun e2 => by
  rcases h.2 with ⟨rfl, _⟩ | ⟨g, cap, cur, rfl, hg, _⟩
  · cases e2
  · have : g = b := by simpa [Value.ownBlock] using e2
    omega
/-- A form that is handed back. -/
structure FormW (f' : Fo.Fm) (h' : FH) (w' : World) : Prop where
  s : SlF w' h' f'
  cap : h'.cl ≤ h'.cc
  nil : Nils h'
theorem own_T6K {w : World} {base m : Nat} {e : TypeId} {v : Value} {l : List Fo.T3} {c : Fo.T3} (h : w.ownsRow base e 3 v (m + 1) (vT l ++ [.int .i64 c.a, .int .i64 c.b, .int .i64 c.c])) : (l ++ [c]).length = m + 1 ∧ ∃ A cap, v = .slice A (m + 1) cap ∧ w.ownsRow base e 3 v (m + 1) (vT (l ++ [c])) ∧ m + 1 ≤ cap := own_T6 (by rw [Nat.zero_add, List.nil_append]; exact h)
set_option maxRecDepth 100000 in
set_option maxHeartbeats 6400000 in
theorem wCut_ok (h : FH) (f : Fo.Fm) (c : Fo.T3) (V0 : Fo.Val f) (he : Fo.okC h.n c) (h5 : Fo.cix f.cs c < 0) (h6 : h.cl < 100) (hN : Nils h) (hwf : ∀ c ∈ f.cs, Fo.wf3 c) (w : World) (hS : SlF w h f) :
    Calls Try.prog 18 #[.agg #[.int .i64 h.n, .slice h.R h.rl h.rc, .slice h.E h.el h.ec, .int .i64 h.ja, .int .i64 h.jt, .int .i64 h.jf, .slice h.C h.cl h.cc], .agg #[.int .i64 c.a, .int .i64 c.b, .int .i64 c.c]] w fun y w' => Below w.heap.size w w' ∧ ∃ h' : FH, y = .returned (.tuple #[.agg #[.int .i64 h'.n, .slice h'.R h'.rl h'.rc, .slice h'.E h'.el h'.ec, .int .i64 h'.ja, .int .i64 h'.jt, .int .i64 h'.jf, .slice h'.C h'.cl h'.cc], .int .i64 0]) ∧ FormW {f with cs := f.cs ++ [c]} h' w' := by
    have HV := Lib.hid V0; have HWF := Lib.hid hwf; have HSS := Lib.hid hS
    have HM := Lib.hid (show h.cl ≤ 100 by have := V0.cl; have := hS.cl; omega)
    obtain ⟨ic, hi0, hz0, hz1, hz2⟩ := info_parts infoCut
    have HI := Lib.hid (And.intro hi0 (And.intro hz0 (And.intro hz1 hz2)))
    have HE := Lib.hid he; have HR := Lib.hid h5; have HNN := Lib.hid hN
    have HRL := Lib.hid (show h.rl ≤ 100 by have := V0.rl; have := hS.rl; omega)
    have HEL := Lib.hid (show h.el ≤ 100 by have := V0.el; have := hS.el; omega)
    have hne : ¬ (h.cl : Int) = 100 := by omega
    clear hS V0 hwf he h5 hN hi0 hz0 hz1 hz2
    go_enter Try.func18, Try.ntmps18
    go_wp2_with fail
    have Q := ((FV.new w h).alloc (.cells #[.int .i64 c.a, .int .i64 c.b, .int .i64 c.c] 32)).alloc (.cells #[.int .i64 0, .slice none 0 0, .slice none 0 0, .int .i64 0, .int .i64 0, .int .i64 0, .slice none 0 0] 28)
    have T := (TB.new (w.alloc (.cells #[.int .i64 h.n, .slice h.R h.rl h.rc, .slice h.E h.el h.ec, .int .i64 h.ja, .int .i64 h.jt, .int .i64 h.jf, .slice h.C h.cl h.cc] 28)) c 32).alloc (.cells #[.int .i64 0, .slice none 0 0, .slice none 0 0, .int .i64 0, .int .i64 0, .int .i64 0, .slice none 0 0] 28)
    have V := FV.zero ((w.alloc (.cells #[.int .i64 h.n, .slice h.R h.rl h.rc, .slice h.E h.el h.ec, .int .i64 h.ja, .int .i64 h.jt, .int .i64 h.jf, .slice h.C h.cl h.cc] 28)).alloc (.cells #[.int .i64 c.a, .int .i64 c.b, .int .i64 c.c] 32))
    have B := (((Below.refl w.heap.size w).alloc (Nat.le_refl _) (.cells #[.int .i64 h.n, .slice h.R h.rl h.rc, .slice h.E h.el h.ec, .int .i64 h.ja, .int .i64 h.jt, .int .i64 h.jf, .slice h.C h.cl h.cc] 28)).alloc (by simp) (.cells #[.int .i64 c.a, .int .i64 c.b, .int .i64 c.c] 32)).alloc (by simp <;> omega) (.cells #[.int .i64 0, .slice none 0 0, .slice none 0 0, .int .i64 0, .int .i64 0, .int .i64 0, .slice none 0 0] 28)
    rw [World.size_alloc] at T
    rw [World.size_alloc, World.size_alloc] at V
    refine (wValid_is h f true ⟨fun _ => HV.out, fun _ => rfl⟩ HWF.out _ (((HSS.out.alloc _).alloc _).alloc _)).mono ?_; rintro e w1 ⟨rfl, hb⟩
    replace V := V.below hb; replace Q := Q.below hb; replace T := T.below hb; replace B := B.trans (hb.mono B.size)
    clear hb
    have Qq := Q.at_; have q0 := Qq.c0; have q1 := Qq.c1; have q2 := Qq.c2; have q3 := Qq.c3; have q4 := Qq.c4; have q5 := Qq.c5; have q6 := Qq.c6; have ql := Qq.lt; have k6 := Q.f 6
    have t0 := T.c0; have t1 := T.c1; have t2 := T.c2; have tl := T.lt
    have Vv := V.at_; have v0 := Vv.c0; have v1 := Vv.c1; have v2 := Vv.c2; have v3 := Vv.c3; have v4 := Vv.c4; have v5 := Vv.c5; have v6 := Vv.c6; have vl := Vv.lt; have g0 := V.f 0; have g1 := V.f 1; have g2 := V.f 2; have g3 := V.f 3; have g4 := V.f 4; have g5 := V.f 5; have g6 := V.f 6
    clear Qq Vv
    go_wp2_with fail
    clear q0 q1 q2 q3 q4 q5 q6 ql k6 t0 t1 t2 tl v0 v1 v2 v3 v4 v5 v6 vl g0 g1 g2 g3 g4 g5 g6
    refine (wcut_is h c true ⟨fun _ => HE.out, fun _ => rfl⟩ _).mono ?_; rintro e w2 ⟨rfl, hb⟩
    replace V := V.below hb; replace Q := Q.below hb; replace T := T.below hb; replace B := B.trans (hb.mono B.size)
    clear hb
    have Qq := Q.at_; have q0 := Qq.c0; have q1 := Qq.c1; have q2 := Qq.c2; have q3 := Qq.c3; have q4 := Qq.c4; have q5 := Qq.c5; have q6 := Qq.c6; have ql := Qq.lt; have k6 := Q.f 6
    have t0 := T.c0; have t1 := T.c1; have t2 := T.c2; have tl := T.lt
    have Vv := V.at_; have v0 := Vv.c0; have v1 := Vv.c1; have v2 := Vv.c2; have v3 := Vv.c3; have v4 := Vv.c4; have v5 := Vv.c5; have v6 := Vv.c6; have vl := Vv.lt; have g0 := V.f 0; have g1 := V.f 1; have g2 := V.f 2; have g3 := V.f 3; have g4 := V.f 4; have g5 := V.f 5; have g6 := V.f 6
    clear Qq Vv
    go_wp2_with fail
    clear q0 q1 q2 q3 q4 q5 q6 ql k6 t0 t1 t2 tl v0 v1 v2 v3 v4 v5 v6 vl g0 g1 g2 g3 g4 g5 g6
    refine (wcontains_is f.cs c false _ _ _ ⟨(fun h => by cases h), fun k => absurd k (by have := HR.out; omega)⟩ HSS.out.cl (Nat.le_trans HM.out (by decide)) _ (HSS.out.sc.below B)).mono ?_; rintro e w3 ⟨rfl, hb⟩
    replace V := V.below hb; replace Q := Q.below hb; replace T := T.below hb; replace B := B.trans (hb.mono B.size)
    clear hb
    have Qq := Q.at_; have q0 := Qq.c0; have q1 := Qq.c1; have q2 := Qq.c2; have q3 := Qq.c3; have q4 := Qq.c4; have q5 := Qq.c5; have q6 := Qq.c6; have ql := Qq.lt; have k6 := Q.f 6
    have t0 := T.c0; have t1 := T.c1; have t2 := T.c2; have tl := T.lt
    have Vv := V.at_; have v0 := Vv.c0; have v1 := Vv.c1; have v2 := Vv.c2; have v3 := Vv.c3; have v4 := Vv.c4; have v5 := Vv.c5; have v6 := Vv.c6; have vl := Vv.lt; have g0 := V.f 0; have g1 := V.f 1; have g2 := V.f 2; have g3 := V.f 3; have g4 := V.f 4; have g5 := V.f 5; have g6 := V.f 6
    clear Qq Vv
    go_wp2_with fail
    clear q0 q1 q2 q3 q4 q5 q6 ql k6 t0 t1 t2 tl v0 v1 v2 v3 v4 v5 v6 vl g0 g1 g2 g3 g4 g5 g6
    refine (wclone_is h f HRL.out HEL.out HM.out HNN.out _ (HSS.out.below B)).mono ?_; rintro e w4 ⟨hb, R', E', C', rc', ec', cc', rfl, OF⟩
    have hl3 := V.at_.lt
    have hb4 := hb.size
    replace V := (V.below hb).fw; replace Q := (Q.below hb).fw; replace T := T.below hb; replace B := B.trans (hb.mono B.size)
    clear hb
    obtain ⟨-, OR, OE, OC⟩ := OF
    dsimp only at OR OE OC
    have hK7 := (own_putF OC (own_far OC (show w.heap.size < w3.heap.size by omega)) {h with R := R', rc := rc', E := E', ec := ec', C := C', cc := cc'}).alloc (.cells #[.int .i64 c.a, .int .i64 c.b, .int .i64 c.c] 32)
    have hNW := cell_three_new (putF w4 w.heap.size {h with R := R', rc := rc', E := E', ec := ec', C := C', cc := cc'}) (.int .i64 c.a) (.int .i64 c.b) (.int .i64 c.c) 32
    rw [putF_size] at hNW
    have OR7 := (own_putF OR (own_far OR (show w.heap.size < w3.heap.size by omega)) {h with R := R', rc := rc', E := E', ec := ec', C := C', cc := cc'}).alloc (.cells #[.int .i64 c.a, .int .i64 c.b, .int .i64 c.c] 32)
    have OE7 := (own_putF OE (own_far OE (show w.heap.size < w3.heap.size by omega)) {h with R := R', rc := rc', E := E', ec := ec', C := C', cc := cc'}).alloc (.cells #[.int .i64 c.a, .int .i64 c.b, .int .i64 c.c] 32)
    have Q7 := (Q.put {h with R := R', rc := rc', E := E', ec := ec', C := C', cc := cc'}).alloc (.cells #[.int .i64 c.a, .int .i64 c.b, .int .i64 c.c] 32)
    have V7 := (V.putO (c := w.heap.size) (by omega) {h with R := R', rc := rc', E := E', ec := ec', C := C', cc := cc'}).alloc (.cells #[.int .i64 c.a, .int .i64 c.b, .int .i64 c.c] 32)
    have B7 := (putF_below B (Nat.le_refl w.heap.size) {h with R := R', rc := rc', E := E', ec := ec', C := C', cc := cc'}).alloc (by rw [putF_size]; exact B.size) (.cells #[.int .i64 c.a, .int .i64 c.b, .int .i64 c.c] 32)
    dsimp only [putF] at hK7 OR7 OE7 Q7 V7 B7 hNW
    have HK := Lib.hid hK7; have HNW := Lib.hid hNW
    clear hK7 hNW OR OE OC
    have q0 := Q.a.c0; have q1 := Q.a.c1; have q2 := Q.a.c2; have q3 := Q.a.c3; have q4 := Q.a.c4; have q5 := Q.a.c5; have q6 := Q.a.c6; have ql := Q.a.lt; have k0 := Q.f 0; have k1 := Q.f 1; have k2 := Q.f 2; have k3 := Q.f 3; have k4 := Q.f 4; have k5 := Q.f 5; have k6 := Q.f 6; (try dsimp only at q0 q1 q2 q3 q4 q5 q6)
    have v0 := V.a.c0; have v1 := V.a.c1; have v2 := V.a.c2; have v3 := V.a.c3; have v4 := V.a.c4; have v5 := V.a.c5; have v6 := V.a.c6; have vl := V.a.lt; have g0 := V.f 0; have g1 := V.f 1; have g2 := V.f 2; have g3 := V.f 3; have g4 := V.f 4; have g5 := V.f 5; have g6 := V.f 6
    have t0 := T.c0; have t1 := T.c1; have t2 := T.c2; have tl := T.lt
    go_wp2_with (first | (at_builtin; go_loud (refine wpList_append_own _ rfl _ _ 26 rfl w3.heap.size 32 ic (.agg #[.int .i64 0, .int .i64 0, .int .i64 0]) 3 24 Try.underlying26 HI.out.1 HI.out.2.1 HI.out.2.2.1 HI.out.2.2.2 rfl (by decide) _ h.cl (vT f.cs) rfl HK.out ⟨w4.heap.size, 0, none⟩ 1 1 [.int .i64 c.a, .int .i64 c.b, .int .i64 c.c] rfl rfl HNW.out (fun u hu => by simp at hu; rcases hu with rfl | rfl | rfl <;> rfl) (by unfold maxLen; omega) (by omega) (by simp; omega) ?_; intro y6 w6 hown6 hgrow6 hnil6; clear q0 q1 q2 q3 q4 q5 q6 ql k0 k1 k2 k3 k4 k5 k6 v0 v1 v2 v3 v4 v5 v6 vl g0 g1 g2 g3 g4 g5 g6 t0 t1 t2 tl; replace Q := Q7.grown hgrow6 (own_far HK.out (by omega)); replace V := V7.grown hgrow6 (own_far HK.out (by omega)); have hOR := OR7.kept hgrow6 (own_apart OR7 HK.out (by decide)); have hOE := OE7.kept hgrow6 (own_apart OE7 HK.out (by decide)); replace B := B7.grown hgrow6 B7.size (fun j hj => by have := own_ne HK.out j hj; omega); obtain ⟨hl6, A6, c6, rfl, ho6, hn6⟩ := own_T6K hown6; clear hown6 hgrow6 hnil6 T; have q0 := Q.a.c0; have q1 := Q.a.c1; have q2 := Q.a.c2; have q3 := Q.a.c3; have q4 := Q.a.c4; have q5 := Q.a.c5; have q6 := Q.a.c6; have ql := Q.a.lt; have k0 := Q.f 0; have k1 := Q.f 1; have k2 := Q.f 2; have k3 := Q.f 3; have k4 := Q.f 4; have k5 := Q.f 5; have k6 := Q.f 6; (try dsimp only at q0 q1 q2 q3 q4 q5 q6); have v0 := V.a.c0; have v1 := V.a.c1; have v2 := V.a.c2; have v3 := V.a.c3; have v4 := V.a.c4; have v5 := V.a.c5; have v6 := V.a.c6; have vl := V.a.lt; have g0 := V.f 0; have g1 := V.f 1; have g2 := V.f 2; have g3 := V.f 3; have g4 := V.f 4; have g5 := V.f 5; have g6 := V.f 6)) | fail)
    have V8 := (V.other (c := w.heap.size) (k := 6) (by omega) (.slice A6 (h.cl + 1) c6)).put {h with R := R', rc := rc', E := E', ec := ec', C := A6, cl := h.cl + 1, cc := c6}
    have hB2 := putF_below (B.setCell (p := ⟨w.heap.size, 6, none⟩) (Nat.le_refl _) (.slice A6 (h.cl + 1) c6)) (show w.heap.size ≤ w.heap.size + 1 + 1 by omega) {h with R := R', rc := rc', E := E', ec := ec', C := A6, cl := h.cl + 1, cc := c6}
    have pO : ∀ {ET : TypeId} {v : Value} {n : Nat} {xs : List Value}, w6.ownsRow w3.heap.size ET 3 v n xs → (putF (w6.setCell ⟨w.heap.size, 6, none⟩ (.slice A6 (h.cl + 1) c6)) (w.heap.size + 1 + 1) {h with R := R', rc := rc', E := E', ec := ec', C := A6, cl := h.cl + 1, cc := c6}).ownsRow w3.heap.size ET 3 v n xs := fun {ET v n xs} ho =>
      own_putF (own_setS ho (own_far ho (by omega)) 6 _) (own_far ho (by omega)) {h with R := R', rc := rc', E := E', ec := ec', C := A6, cl := h.cl + 1, cc := c6}
    have hOR8 := pO hOR; have hOE8 := pO hOE; have hOC8 := pO ho6
    clear hOR hOE ho6 pO
    show bodyPost _ _ _ _ _ (putF (w6.setCell ⟨w.heap.size, 6, none⟩ (.slice A6 (h.cl + 1) c6)) (w.heap.size + 1 + 1) {h with R := R', rc := rc', E := E', ec := ec', C := A6, cl := h.cl + 1, cc := c6})
    obtain ⟨wz, hz⟩ : ∃ wz, putF (w6.setCell ⟨w.heap.size, 6, none⟩ (.slice A6 (h.cl + 1) c6)) (w.heap.size + 1 + 1) {h with R := R', rc := rc', E := E', ec := ec', C := A6, cl := h.cl + 1, cc := c6} = wz := ⟨_, rfl⟩
    rw [hz] at V8 hB2 hOR8 hOE8 hOC8 ⊢
    obtain ⟨-, p0, p1, p2, p3, p4, p5, p6⟩ := V8.a
    dsimp only at p0 p1 p2 p3 p4 p5 p6
    obtain ⟨-, _, _, e1, s1, n1⟩ := own_T hOR8
    cases e1
    obtain ⟨-, _, _, e2, s2, n2⟩ := own_T hOE8
    cases e2
    obtain ⟨-, _, _, e3, s3, n3⟩ := own_T hOC8
    cases e3
    refine bodyPost_ret (v := .tuple #[.agg #[.int .i64 h.n, .slice R' h.rl rc', .slice E' h.el ec', .int .i64 h.ja, .int .i64 h.jt, .int .i64 h.jf, .slice A6 (h.cl + 1) c6], .int .i64 0]) (by simp [results, Try.results18, p0, p1, p2, p3, p4, p5, p6, go_sem]) rfl ⟨hB2, {h with R := R', rc := rc', E := E', ec := ec', C := A6, cl := h.cl + 1, cc := c6}, rfl, ⟨⟨HSS.out.n, HSS.out.ja, HSS.out.jt, HSS.out.jf, HSS.out.rl, HSS.out.el, hl6, s1, s2, s3⟩, hn6, ⟨n1, n2, n3⟩⟩⟩
end Go.Proofs.Ytakbpgljbbkmkaa
