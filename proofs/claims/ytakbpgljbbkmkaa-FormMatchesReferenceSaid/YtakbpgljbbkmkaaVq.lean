/- The walk of the reference's Cut, where it cuts. -/
import Derived.Test.YtakbpgljbbkmkaaVp
namespace Go.Proofs.Ytakbpgljbbkmkaa
open Go.RowKit

/-- 'append(own, x...)', x a slice of triples, nil or not. -/
theorem append_slt {P : Program} {w : World} {ops : Array Oper} {rest : List Oper} {o : Oper} {a : Act} {Q : Exit → Act → World → Prop} (hgd : o.guard = none) (s x : Operand) (t : TypeId)
    (ho : o.op = .call { callee := .builtin .append, args := #[s, x], argTypes := #[t, t] })
    (base : Nat) (e : TypeId) (i : TypeInfo) (z : Value) (bytes : Nat) (ht : P.underlying t = some (.slice e)) (hi : P.info? e = some i) (hz : i.zero = some z)
    (hsize : i.size = 3) (hby : i.bytes = bytes) (hzs : z.cells.size = 3)
    (v : Value) (n : Nat) (xs : List Value) (hs : a.eval s = v) (hown : w.ownsRow base e 3 v n xs)
    (A : Option Addr) (m c : Nat) (g : List Fo.T3) (hx : a.eval x = .slice A m c) (hA : A = none → c = 0) (hg : g.length = m) (hL : SlT w A g)
    (h63 : n + m ≤ maxLen) (hbytes : (n + m) * bytes ≤ 140737488355328) (hbase : base ≤ w.heap.size)
    (h : ∀ v' w', w'.ownsRow base e 3 v' (n + m) (xs ++ vT g) → w.grownBy w' v.ownBlock → wpList P ops Q rest (a.put o.dst v') w') : wpList P ops Q (o :: rest) a w := by
  subst hg
  cases A with
  | none =>
    obtain rfl := hA rfl
    have h0 : g = [] := by
      cases g with
      | nil => rfl
      | cons y r =>
        obtain ⟨b, off, hb, _⟩ := hL (by simp)
        cases hb
    subst h0
    exact wpList_append_own_none hgd s x t ho base e i 3 ht hi v n xs hs hown hx (h v w (by simpa [vT] using hown) ⟨rfl, rfl, rfl, Nat.le_refl _, fun _ _ _ => rfl⟩)
  | some ad =>
    refine wpList_append_own w hgd s x t ho base e i z 3 bytes ht hi hz hsize hby hzs (by omega) v n xs hs hown ad g.length c (vT g) hx (by rw [vT_length]) ?_ (vT_cells g) h63 hbytes hbase fun v' w' h1 h2 _ => h v' w' h1 h2
    cases g with
    | nil => intro j u hj; simp [vT] at hj
    | cons y r =>
      obtain ⟨b, off, hb, _, hc⟩ := hL (by simp)
      cases hb
      exact SlT.news hc
theorem FB.other {w : World} {b : Nat} {s : FH} (h : FB w b s) {p : Addr} (hp : b ≠ p.block) (v : Value) : FB (w.setCell p v) b s := by
  obtain ⟨l, c0, c1, c2, c3, c4, c5, c6⟩ := h
  have k : ∀ j, (w.setCell p v).cell? ⟨b, j, none⟩ = w.cell? ⟨b, j, none⟩ := fun j => World.cell?_setCell_other (w := w) (a := p) (b := ⟨b, j, none⟩) (v := v) (fun e2 => hp (by rw [e2]))
  exact ⟨by simpa using l, (k 0).trans c0, (k 1).trans c1, (k 2).trans c2, (k 3).trans c3, (k 4).trans c4, (k 5).trans c5, (k 6).trans c6⟩
set_option maxHeartbeats 1600000 in
theorem FB.put {w : World} {b : Nat} {s : FH} (h : FB w b s) (fr : ∀ j, w.frozen? ⟨b, j, none⟩ = false) (t : FH) : FB (putF w b t) b t := by
  obtain ⟨l, c0, c1, c2, c3, c4, c5, c6⟩ := h
  have f0 := fr 0; have f1 := fr 1; have f2 := fr 2; have f3 := fr 3; have f4 := fr 4; have f5 := fr 5; have f6 := fr 6
  unfold putF
  refine ⟨by simpa using l, ?_, ?_, ?_, ?_, ?_, ?_, ?_⟩
  all_goals go_simp
theorem cell_three_new (w : World) (a b c : Value) (t : TypeId) : ∀ j u, [a, b, c][j]? = some u → (w.alloc (.cells #[a, b, c] t)).cell? ((⟨w.heap.size, 0, none⟩ : Addr).add j) = some u := fun j u hj => by
  rw [addr_add]
  match j, hj with
  | 0, hj => simp at hj; subst hj; go_simp
  | 1, hj => simp at hj; subst hj; go_simp
  | 2, hj => simp at hj; subst hj; go_simp
  | j + 3, hj => simp at hj
theorem own_T6 {w : World} {base m : Nat} {e : TypeId} {v : Value} {l : List Fo.T3} {c : Fo.T3} (h : w.ownsRow base e 3 v (0 + m + 1) ([] ++ vT l ++ [.int .i64 c.a, .int .i64 c.b, .int .i64 c.c])) : (l ++ [c]).length = m + 1 ∧ ∃ A cap, v = .slice A (m + 1) cap ∧ w.ownsRow base e 3 v (m + 1) (vT (l ++ [c])) ∧ m + 1 ≤ cap := by
  rw [Nat.zero_add, List.nil_append, show [Value.int .i64 c.a, .int .i64 c.b, .int .i64 c.c] = vT [c] from (vT_one c).symm, ← vT_app] at h
  obtain ⟨hl, A, cap, hv, -, -⟩ := own_T h
  refine ⟨hl, A, cap, hv, h, ?_⟩
  rcases h.2 with ⟨h1, h2⟩ | ⟨g2, cap2, cur, h1, _, _, h4, _⟩
  · omega
  · rw [h1] at hv
    cases hv
    exact h4
set_option maxHeartbeats 6400000 in
theorem rCut_ok (h : FH) (f : Fo.Fm) (c : Fo.T3) (V0 : Fo.Val f) (hcap : h.cl ≤ h.cc) (hnil : h.C = none → h.cc = 0) (hok : Fo.okC h.n c) (hno : Fo.cix f.cs c < 0) (h99 : h.cl < 100) (w : World) (hS : SlF w h f) :
    Calls Try.prog 19 #[.agg #[.int .i64 h.n, .slice h.R h.rl h.rc, .slice h.E h.el h.ec, .int .i64 h.ja, .int .i64 h.jt, .int .i64 h.jf, .slice h.C h.cl h.cc], .agg #[.int .i64 c.a, .int .i64 c.b, .int .i64 c.c]] w fun y w' => Below w.heap.size w w' ∧ ∃ h' : FH, y = .returned (.tuple #[.agg #[.int .i64 h'.n, .slice h'.R h'.rl h'.rc, .slice h'.E h'.el h'.ec, .int .i64 h'.ja, .int .i64 h'.jt, .int .i64 h'.jf, .slice h'.C h'.cl h'.cc], .int .i64 0]) ∧ FormR {f with cs := f.cs ++ [c]} 0 h' w' := by
    obtain ⟨ic, hi0, hz0, hz1, hz2⟩ := info_parts infoCut
    have HI := Lib.hid (And.intro hi0 (And.intro hz0 (And.intro hz1 hz2)))
    have HV := Lib.hid V0; have HCAP := Lib.hid hcap; have HSS := Lib.hid hS; have HE := Lib.hid hok; have HNIL := Lib.hid hnil
    have HM := Lib.hid (show h.cl ≤ 100 by omega)
    obtain ⟨r, hr⟩ : ∃ r, Fo.cix f.cs c = r := ⟨_, rfl⟩
    rw [hr] at hno
    have HR := Lib.hid hr
    have hno2 : ¬ 0 ≤ r := by omega
    have hne : ¬ (h.cl : Int) = 100 := by omega
    clear hS V0 hcap hok hr hnil hi0 hz0 hz1 hz2
    go_enter Try.func19, Try.ntmps19
    go_wp2_with fail
    have Q := ((FV.new w h).alloc (.cells #[.int .i64 c.a, .int .i64 c.b, .int .i64 c.c] 32)).alloc (.cells #[.int .i64 0, .slice none 0 0, .slice none 0 0, .int .i64 0, .int .i64 0, .int .i64 0, .slice none 0 0] 28)
    have T := (TB.new (w.alloc (.cells #[.int .i64 h.n, .slice h.R h.rl h.rc, .slice h.E h.el h.ec, .int .i64 h.ja, .int .i64 h.jt, .int .i64 h.jf, .slice h.C h.cl h.cc] 28)) c 32).alloc (.cells #[.int .i64 0, .slice none 0 0, .slice none 0 0, .int .i64 0, .int .i64 0, .int .i64 0, .slice none 0 0] 28)
    have V := FV.zero ((w.alloc (.cells #[.int .i64 h.n, .slice h.R h.rl h.rc, .slice h.E h.el h.ec, .int .i64 h.ja, .int .i64 h.jt, .int .i64 h.jf, .slice h.C h.cl h.cc] 28)).alloc (.cells #[.int .i64 c.a, .int .i64 c.b, .int .i64 c.c] 32))
    have B := (((Below.refl w.heap.size w).alloc (Nat.le_refl _) (.cells #[.int .i64 h.n, .slice h.R h.rl h.rc, .slice h.E h.el h.ec, .int .i64 h.ja, .int .i64 h.jt, .int .i64 h.jf, .slice h.C h.cl h.cc] 28)).alloc (by simp) (.cells #[.int .i64 c.a, .int .i64 c.b, .int .i64 c.c] 32)).alloc (by simp <;> omega) (.cells #[.int .i64 0, .slice none 0 0, .slice none 0 0, .int .i64 0, .int .i64 0, .int .i64 0, .slice none 0 0] 28)
    rw [World.size_alloc] at T
    rw [World.size_alloc, World.size_alloc] at V
    refine (rValid_is h f true ⟨fun _ => HV.out, fun _ => rfl⟩ HCAP.out _ (((HSS.out.alloc _).alloc _).alloc _)).mono ?_; rintro e w1 ⟨rfl, hb⟩
    replace V := V.below hb; replace Q := Q.below hb; replace T := T.below hb; replace B := B.trans (hb.mono B.size)
    clear hb
    have Qq := Q.at_; have q0 := Qq.c0; have q1 := Qq.c1; have q2 := Qq.c2; have q3 := Qq.c3; have q4 := Qq.c4; have q5 := Qq.c5; have q6 := Qq.c6; have ql := Qq.lt; have k6 := Q.f 6
    have t0 := T.c0; have t1 := T.c1; have t2 := T.c2; have tl := T.lt
    have Vv := V.at_; have v0 := Vv.c0; have v1 := Vv.c1; have v2 := Vv.c2; have v3 := Vv.c3; have v4 := Vv.c4; have v5 := Vv.c5; have v6 := Vv.c6; have vl := Vv.lt; have g0 := V.f 0; have g1 := V.f 1; have g2 := V.f 2; have g3 := V.f 3; have g4 := V.f 4; have g5 := V.f 5; have g6 := V.f 6
    clear Qq Vv
    go_wp2_with fail
    clear q0 q1 q2 q3 q4 q5 q6 ql k6 t0 t1 t2 tl v0 v1 v2 v3 v4 v5 v6 vl g0 g1 g2 g3 g4 g5 g6
    refine (rcut_is h c true ⟨fun _ => HE.out, fun _ => rfl⟩ _).mono ?_; rintro e w2 ⟨rfl, hb⟩
    replace V := V.below hb; replace Q := Q.below hb; replace T := T.below hb; replace B := B.trans (hb.mono B.size)
    clear hb
    have Qq := Q.at_; have q0 := Qq.c0; have q1 := Qq.c1; have q2 := Qq.c2; have q3 := Qq.c3; have q4 := Qq.c4; have q5 := Qq.c5; have q6 := Qq.c6; have ql := Qq.lt; have k6 := Q.f 6
    have t0 := T.c0; have t1 := T.c1; have t2 := T.c2; have tl := T.lt
    have Vv := V.at_; have v0 := Vv.c0; have v1 := Vv.c1; have v2 := Vv.c2; have v3 := Vv.c3; have v4 := Vv.c4; have v5 := Vv.c5; have v6 := Vv.c6; have vl := Vv.lt; have g0 := V.f 0; have g1 := V.f 1; have g2 := V.f 2; have g3 := V.f 3; have g4 := V.f 4; have g5 := V.f 5; have g6 := V.f 6
    clear Qq Vv
    go_wp2_with fail
    clear q0 q1 q2 q3 q4 q5 q6 ql k6 t0 t1 t2 tl v0 v1 v2 v3 v4 v5 v6 vl g0 g1 g2 g3 g4 g5 g6
    refine (rhas_is f.cs c r _ _ _ HR.out HSS.out.cl (Nat.le_trans HM.out (by decide)) _ (HSS.out.sc.below B)).mono ?_; rintro e w3 ⟨rfl, hb⟩
    replace V := V.below hb; replace Q := Q.below hb; replace T := T.below hb; replace B := B.trans (hb.mono B.size)
    clear hb
    have Qq := Q.at_; have q0 := Qq.c0; have q1 := Qq.c1; have q2 := Qq.c2; have q3 := Qq.c3; have q4 := Qq.c4; have q5 := Qq.c5; have q6 := Qq.c6; have ql := Qq.lt; have k6 := Q.f 6
    have t0 := T.c0; have t1 := T.c1; have t2 := T.c2; have tl := T.lt
    have Vv := V.at_; have v0 := Vv.c0; have v1 := Vv.c1; have v2 := Vv.c2; have v3 := Vv.c3; have v4 := Vv.c4; have v5 := Vv.c5; have v6 := Vv.c6; have vl := Vv.lt; have g0 := V.f 0; have g1 := V.f 1; have g2 := V.f 2; have g3 := V.f 3; have g4 := V.f 4; have g5 := V.f 5; have g6 := V.f 6
    clear Qq Vv
    have hl3 := V.at_.lt
    go_wp2_with (first | (at_builtin; refine append_slt rfl _ _ 26 rfl w3.heap.size 32 ic (.agg #[.int .i64 0, .int .i64 0, .int .i64 0]) 24 Try.underlying26 HI.out.1 HI.out.2.1 HI.out.2.2.1 HI.out.2.2.2 rfl (.slice none 0 0) 0 [] rfl (World.ownsRow_nil _ _ _ _) h.C h.cl h.cc f.cs rfl HNIL.out HSS.out.cl (HSS.out.sc.below B) (by unfold maxLen; omega) (by omega) (Nat.le_refl _) ?_; intro y5 w5 hown5 hgrow5; have hb5 := none_below (show w3.grownBy w5 none from hgrow5); clear q0 q1 q2 q3 q4 q5 q6 ql k6 t0 t1 t2 tl v0 v1 v2 v3 v4 v5 v6 vl g0 g1 g2 g3 g4 g5 g6; replace V := V.below hb5; replace Q := Q.below hb5; replace T := T.below hb5; replace B := B.trans (hb5.mono B.size); have hsz5 := hb5.size; clear hb5 hgrow5; have HK := Lib.hid (hown5.kept (below_grown ((Below.refl w5.heap.size w5).alloc (Nat.le_refl _) (.cells #[.int .i64 c.a, .int .i64 c.b, .int .i64 c.c] 32)) none) none_ne); clear hown5; have Qq := Q.at_; have q0 := Qq.c0; have q1 := Qq.c1; have q2 := Qq.c2; have q3 := Qq.c3; have q4 := Qq.c4; have q5 := Qq.c5; have q6 := Qq.c6; have ql := Qq.lt; have k6 := Q.f 6; have t0 := T.c0; have t1 := T.c1; have t2 := T.c2; have tl := T.lt; have Vv := V.at_; have v0 := Vv.c0; have v1 := Vv.c1; have v2 := Vv.c2; have v3 := Vv.c3; have v4 := Vv.c4; have v5 := Vv.c5; have v6 := Vv.c6; have vl := Vv.lt; have g0 := V.f 0; have g1 := V.f 1; have g2 := V.f 2; have g3 := V.f 3; have g4 := V.f 4; have g5 := V.f 5; have g6 := V.f 6; clear Qq Vv) | (at_builtin; refine wpList_append_own _ rfl _ _ 26 rfl w3.heap.size 32 ic (.agg #[.int .i64 0, .int .i64 0, .int .i64 0]) 3 24 Try.underlying26 HI.out.1 HI.out.2.1 HI.out.2.2.1 HI.out.2.2.2 rfl (by decide) _ _ _ rfl HK.out ⟨w5.heap.size, 0, none⟩ 1 1 [.int .i64 c.a, .int .i64 c.b, .int .i64 c.c] rfl rfl (cell_three_new _ _ _ _ _) (fun u hu => by simp at hu; rcases hu with rfl | rfl | rfl <;> rfl) (by unfold maxLen; omega) (by omega) (by simp; omega) ?_; intro y6 w6 hown6 hgrow6 hnil6; have hlt3 : w.heap.size + 1 + 1 < w3.heap.size := hl3; clear q0 q1 q2 q3 q4 q5 q6 ql k6 t0 t1 t2 tl v0 v1 v2 v3 v4 v5 v6 vl g0 g1 g2 g3 g4 g5 g6; replace V := (V.alloc (.cells #[.int .i64 c.a, .int .i64 c.b, .int .i64 c.c] 32)).grown hlt3 (own_ne HK.out) hgrow6; replace Q := (Q.alloc (.cells #[.int .i64 c.a, .int .i64 c.b, .int .i64 c.c] 32)).grown (show w.heap.size < w3.heap.size by omega) (own_ne HK.out) hgrow6; replace B := (B.alloc B.size (.cells #[.int .i64 c.a, .int .i64 c.b, .int .i64 c.c] 32)).grown hgrow6 (by have := B.size; simp; omega) (fun j hj => by have := own_ne HK.out j hj; omega); obtain ⟨hl6, A6, c6, rfl, ho6, hn6⟩ := own_T6 hown6; have HOW6 := Lib.hid ho6; clear hown6 ho6 hgrow6 hnil6 T; have Qq := Q.at_; have q0 := Qq.c0; have q1 := Qq.c1; have q2 := Qq.c2; have q3 := Qq.c3; have q4 := Qq.c4; have q5 := Qq.c5; have q6 := Qq.c6; have ql := Qq.lt; have k6 := Q.f 6; have Vv := V.at_; have v0 := Vv.c0; have v1 := Vv.c1; have v2 := Vv.c2; have v3 := Vv.c3; have v4 := Vv.c4; have v5 := Vv.c5; have v6 := Vv.c6; have vl := Vv.lt; have g0 := V.f 0; have g1 := V.f 1; have g2 := V.f 2; have g3 := V.f 3; have g4 := V.f 4; have g5 := V.f 5; have g6 := V.f 6; clear Qq Vv) | fail)
    have V7 := FB.other V.at_ (p := ⟨w.heap.size, 6, none⟩) (show w.heap.size + 1 + 1 ≠ w.heap.size by omega) (.slice A6 (h.cl + 1) c6)
    have P := FB.put V7 (fun j => (World.frozen?_setCell ..).trans (V.f j)) {h with C := A6, cl := h.cl + 1, cc := c6}
    have hB2 := putF_below (B.setCell (p := ⟨w.heap.size, 6, none⟩) (Nat.le_refl _) (.slice A6 (h.cl + 1) c6)) (show w.heap.size ≤ w.heap.size + 1 + 1 by omega) {h with C := A6, cl := h.cl + 1, cc := c6}
    have hO : (putF (w6.setCell ⟨w.heap.size, 6, none⟩ (.slice A6 (h.cl + 1) c6)) (w.heap.size + 1 + 1) {h with C := A6, cl := h.cl + 1, cc := c6}).ownsRow w3.heap.size 32 3 (.slice A6 (h.cl + 1) c6) (h.cl + 1) (vT (f.cs ++ [c])) := by
      unfold putF
      exact (ownsRow_setCell_below (ownsRow_setCell_below (ownsRow_setCell_below (ownsRow_setCell_below (ownsRow_setCell_below (ownsRow_setCell_below (ownsRow_setCell_below (ownsRow_setCell_below HOW6.out (show w.heap.size < w3.heap.size by omega) _) (show w.heap.size + 1 + 1 < w3.heap.size by omega) _) (show w.heap.size + 1 + 1 < w3.heap.size by omega) _) (show w.heap.size + 1 + 1 < w3.heap.size by omega) _) (show w.heap.size + 1 + 1 < w3.heap.size by omega) _) (show w.heap.size + 1 + 1 < w3.heap.size by omega) _) (show w.heap.size + 1 + 1 < w3.heap.size by omega) _) (show w.heap.size + 1 + 1 < w3.heap.size by omega) _)
    show bodyPost _ _ _ _ _ (putF (w6.setCell ⟨w.heap.size, 6, none⟩ (.slice A6 (h.cl + 1) c6)) (w.heap.size + 1 + 1) {h with C := A6, cl := h.cl + 1, cc := c6})
    obtain ⟨wz, hz⟩ : ∃ wz, putF (w6.setCell ⟨w.heap.size, 6, none⟩ (.slice A6 (h.cl + 1) c6)) (w.heap.size + 1 + 1) {h with C := A6, cl := h.cl + 1, cc := c6} = wz := ⟨_, rfl⟩
    rw [hz] at P hB2 hO ⊢
    obtain ⟨-, p0, p1, p2, p3, p4, p5, p6⟩ := P
    dsimp only at p0 p1 p2 p3 p4 p5 p6
    obtain ⟨-, A9, c9, e9, hs9, -⟩ := own_T hO
    cases e9
    refine bodyPost_ret (v := .tuple #[.agg #[.int .i64 h.n, .slice h.R h.rl h.rc, .slice h.E h.el h.ec, .int .i64 h.ja, .int .i64 h.jt, .int .i64 h.jf, .slice A6 (h.cl + 1) c6], .int .i64 0]) (by simp [results, Try.results19, p0, p1, p2, p3, p4, p5, p6, go_sem]) rfl ⟨hB2, {h with C := A6, cl := h.cl + 1, cc := c6}, rfl, fun _ => ⟨⟨HSS.out.n, HSS.out.ja, HSS.out.jt, HSS.out.jf, HSS.out.rl, HSS.out.el, hl6, HSS.out.sr.below hB2, HSS.out.se.below hB2, hs9⟩, hn6⟩, fun k => absurd rfl k⟩
end Go.Proofs.Ytakbpgljbbkmkaa
