import Derived.Test.YtakbpgljbbkmkaaWq
import Derived.Deep.Upon
import Derived.Laws.IdiomCopy
import Derived.ArgAppend
import Derived.Lib.SliceRun
/- A repeat's number of times changed: what stays; a row of which one cell is written. -/
namespace Go.Proofs.Ytakbpgljbbkmkaa
open Go.RowKit

namespace Fo
/-- The list with another number at one place. -/
def setL (l : List T3) (k : Nat) (t : Int) : List T3 := l.set k ⟨(at3 l k).a, (at3 l k).b, t⟩
def setC (f : Fm) (k : Nat) (t : Int) : Fm := {f with rs := setL f.rs k t}
theorem setL_len (l : List T3) (k : Nat) (t : Int) : (setL l k t).length = l.length := by unfold setL; rw [List.length_set]
theorem setL_at {l : List T3} {k : Nat} {t : Int} {i : Nat} (hi : i < l.length) : at3 (setL l k t) i = if i = k then ⟨(at3 l k).a, (at3 l k).b, t⟩ else at3 l i := by
  rw [at3_eq (by rw [setL_len]; exact hi)]
  unfold setL
  rw [List.getElem_set]
  by_cases h : k = i
  · rw [if_pos h, if_pos h.symm]
  · rw [if_neg h, if_neg (fun e => h e.symm), at3_eq hi]
theorem setL_fw {l : List T3} {k : Nat} {t : Int} {x : T3} (h : x ∈ setL l k t) : ∃ z ∈ l, z.a = x.a ∧ z.b = x.b ∧ (x.c = z.c ∨ x.c = t) := by
  obtain ⟨i, hi, rfl⟩ := List.getElem_of_mem h
  have hi2 : i < l.length := by rwa [setL_len] at hi
  rw [← at3_eq hi, setL_at hi2]
  by_cases e : i = k
  · subst e
    rw [if_pos rfl]
    exact ⟨at3 l i, at3_mem hi2, rfl, rfl, .inr rfl⟩
  · rw [if_neg e]
    exact ⟨at3 l i, at3_mem hi2, rfl, rfl, .inl rfl⟩
theorem setL_bw {l : List T3} {k : Nat} {t : Int} {z : T3} (h : z ∈ l) : ∃ x ∈ setL l k t, x.a = z.a ∧ x.b = z.b := by
  obtain ⟨i, hi, rfl⟩ := List.getElem_of_mem h
  have hm : at3 (setL l k t) i ∈ setL l k t := at3_mem (by rw [setL_len]; exact hi)
  refine ⟨_, hm, ?_⟩
  rw [setL_at hi, ← at3_eq hi]
  by_cases e : i = k
  · subst e
    rw [if_pos rfl]
    exact ⟨rfl, rfl⟩
  · rw [if_neg e]
    exact ⟨rfl, rfl⟩
theorem ins_setL (l : List T3) (k : Nat) (t lo hi : Int) : ins (setL l k t) lo hi ↔ ins l lo hi := by
  constructor
  · rintro ⟨x, hx, h1, h2⟩
    obtain ⟨z, hz, e1, e2, _⟩ := setL_fw hx
    exact ⟨z, hz, by omega, by omega⟩
  · rintro ⟨z, hz, h1, h2⟩
    obtain ⟨x, hx, e1, e2⟩ := setL_bw (k := k) (t := t) hz
    exact ⟨x, hx, by omega, by omega⟩
theorem wi_setL (l : List T3) (k : Nat) (t b : Int) : wi (setL l k t) b ↔ wi l b := by
  constructor
  · rintro ⟨x, hx, h1, h2⟩
    obtain ⟨z, hz, e1, e2, _⟩ := setL_fw hx
    exact ⟨z, hz, by omega, by omega⟩
  · rintro ⟨z, hz, h1, h2⟩
    obtain ⟨x, hx, e1, e2⟩ := setL_bw (k := k) (t := t) hz
    exact ⟨x, hx, by omega, by omega⟩
theorem chR_setL {n t : Int} (ht : 1 ≤ t ∧ t ≤ 9) : ∀ {last : Int} (l : List T3) (k : Nat), chR n last l → chR n last (setL l k t)
  | _, [], _, _ => by unfold setL; exact True.intro
  | last, x :: l, 0, ⟨h1, h2⟩ => ⟨⟨h1.1, h1.2.1, h1.2.2.1, ht⟩, h2⟩
  | last, x :: l, k + 1, ⟨h1, h2⟩ => ⟨h1, chR_setL ht l k h2⟩
theorem chE_congr {rs rs' : List T3} (h : ∀ lo hi, ins rs lo hi → ins rs' lo hi) : ∀ {last : Int} {l : List T3}, chE rs last l → chE rs' last l
  | _, [], _ => True.intro
  | _, _ :: _, ⟨h1, h2⟩ => ⟨⟨h1.1, h1.2.1, h _ _ h1.2.2.1, h1.2.2.2⟩, chE_congr h h2⟩
theorem Ok.setC {f : Fm} (V : Ok f) {k : Nat} {t : Int} (ht : 1 ≤ t ∧ t ≤ 9) : Ok (setC f k t) := by
  refine ⟨V.n, by show (setL f.rs k t).length ≤ 100; rw [setL_len]; exact V.rl, chR_setL ht _ _ V.rs, V.el, chE_congr (fun lo hi h => (ins_setL _ _ _ _ _).2 h) V.es, ?_⟩
  have hj := V.j
  unfold okJ at hj ⊢
  show _ ∨ (_ ∧ ¬ wi (setL f.rs k t) f.ja ∧ ¬ wi (setL f.rs k t) f.jt ∧ ¬ wi (setL f.rs k t) f.jf)
  rw [wi_setL, wi_setL, wi_setL]
  exact hj
end Fo
theorem vT_cons (b : Fo.T3) (l : List Fo.T3) : vT (b :: l) = [.int .i64 b.a, .int .i64 b.b, .int .i64 b.c] ++ vT l := by unfold vT; rw [List.flatMap_cons]; rfl
theorem vT_setL : ∀ (l : List Fo.T3) (k : Nat) (t : Int), k < l.length → vT (Fo.setL l k t) = (vT l).set (k * 3 + 2) (.int .i64 t)
  | [], _, _, h => by simp at h
  | b :: l, 0, t, _ => by
    show vT (⟨b.a, b.b, t⟩ :: l) = _
    rw [vT_cons, vT_cons]
    rfl
  | b :: l, k + 1, t, h => by
    show vT (b :: Fo.setL l k t) = _
    rw [vT_cons, vT_cons, vT_setL l k t (by simpa using h), show (k + 1) * 3 + 2 = (k * 3 + 2) + 3 by omega]
    rfl
theorem own_putT {w : World} {base g n cap k : Nat} {e : TypeId} {l : List Fo.T3} {t : Int} (h : w.ownsRow base e 3 (.slice (some ⟨g, 0, none⟩) n cap) n (vT l)) (hk : k < l.length) : (w.setCell ⟨g, k * 3 + 2, none⟩ (.int .i64 t)).ownsRow base e 3 (.slice (some ⟨g, 0, none⟩) n cap) n (vT (Fo.setL l k t)) := by
  refine ⟨by rw [vT_length, Fo.setL_len, ← vT_length]; exact h.1, ?_⟩
  rcases h.2 with ⟨e1, _⟩ | ⟨g2, cap2, cur, e1, h1, h2, h3, h4, h5, h6⟩
  · cases e1
  · cases e1
    refine .inr ⟨g, cap, cur.setIfInBounds (k * 3 + 2) (.int .i64 t), rfl, h1, heap_setCell_same w g (k * 3 + 2) cur e _ h2, h3, h4, by rw [Array.size_setIfInBounds]; exact h5, ?_⟩
    rw [vT_setL l k t hk, ← h6, Array.toList_setIfInBounds, List.take_set]
theorem own_frz {w : World} {base g n cap : Nat} {e : TypeId} {s : Nat} {xs : List Value} (h : w.ownsRow base e s (.slice (some ⟨g, 0, none⟩) n cap) n xs) (j : Nat) : w.frozen? ⟨g, j, none⟩ = false := by
  rcases h.2 with ⟨e1, _⟩ | ⟨g2, cap2, cur, e1, h1, h2, h3, h4, h5, h6⟩
  · cases e1
  · cases e1
    exact frozen_of_row w g j cur e h2
theorem own_openT {w : World} {base : Nat} {A : Option Addr} {e : TypeId} {n cap : Nat} {l : List Fo.T3} (h : w.ownsRow base e 3 (.slice A n cap) n (vT l)) (h0 : 0 < n) : ∃ g, A = some ⟨g, 0, none⟩ ∧ base ≤ g ∧ g < w.heap.size := by
  rcases h.2 with ⟨_, h1⟩ | ⟨g2, cap2, cur, e1, h1, h2, _⟩
  · omega
  · cases e1
    exact ⟨g2, rfl, h1, (Array.getElem?_eq_some_iff.1 h2).1⟩
end Go.Proofs.Ytakbpgljbbkmkaa

/- The walk of Times: the case of too many visits, and the good case. -/
namespace Go.Proofs.Ytakbpgljbbkmkaa
open Go.RowKit

set_option maxRecDepth 100000 in
set_option maxHeartbeats 6400000 in
theorem wTimes_two (h : FH) (f : Fo.Fm) (k : Nat) (t : Int) (V0 : Fo.Val f) (hk : k < h.rl) (ht : 1 ≤ t ∧ t ≤ 9) (hsz : 20000 < (Fo.whl (Fo.setC f k t)).length) (hN : Nils h) (hwf : ∀ c ∈ f.cs, Fo.wf3 c) (w : World) (hS : SlF w h f) :
    Calls Try.prog 23 #[.agg #[.int .i64 h.n, .slice h.R h.rl h.rc, .slice h.E h.el h.ec, .int .i64 h.ja, .int .i64 h.jt, .int .i64 h.jf, .slice h.C h.cl h.cc], .int .i64 (k : Int), .int .i64 t] w fun y w' => Below w.heap.size w w' ∧ ∃ h' : FH, y = .returned (.tuple #[.agg #[.int .i64 h'.n, .slice h'.R h'.rl h'.rc, .slice h'.E h'.el h'.ec, .int .i64 h'.ja, .int .i64 h'.jt, .int .i64 h'.jf, .slice h'.C h'.cl h'.cc], .int .i64 2]) ∧ FormR f 2 h' w' := by
    have HV := Lib.hid V0; have HWF := Lib.hid hwf; have HSS := Lib.hid hS
    have HK := Lib.hid ht; have HSZ := Lib.hid hsz; have HNN := Lib.hid hN
    have hrl : h.rl ≤ 100 := by have := V0.rl; have := hS.rl; omega
    have HEL := Lib.hid (show h.el ≤ 100 by have := V0.el; have := hS.el; omega)
    have HCL := Lib.hid (show h.cl ≤ 100 by have := V0.cl; have := hS.cl; omega)
    have HRL := Lib.hid hrl
    have HKL : Hid (k < f.rs.length) := Lib.hid (by rw [hS.rl]; exact hk)
    clear hS V0 hwf ht hsz hN
    go_enter Try.func23, Try.ntmps23
    go_wp2_with fail
    have Q := (FV.new w h).alloc (.cells #[.int .i64 0, .slice none 0 0, .slice none 0 0, .int .i64 0, .int .i64 0, .int .i64 0, .slice none 0 0] 28)
    have V := FV.zero (w.alloc (.cells #[.int .i64 h.n, .slice h.R h.rl h.rc, .slice h.E h.el h.ec, .int .i64 h.ja, .int .i64 h.jt, .int .i64 h.jf, .slice h.C h.cl h.cc] 28))
    have B := ((Below.refl w.heap.size w).alloc (Nat.le_refl _) (.cells #[.int .i64 h.n, .slice h.R h.rl h.rc, .slice h.E h.el h.ec, .int .i64 h.ja, .int .i64 h.jt, .int .i64 h.jf, .slice h.C h.cl h.cc] 28)).alloc (by simp) (.cells #[.int .i64 0, .slice none 0 0, .slice none 0 0, .int .i64 0, .int .i64 0, .int .i64 0, .slice none 0 0] 28)
    rw [World.size_alloc] at V
    refine (wValid_is h f true ⟨fun _ => HV.out, fun _ => rfl⟩ HWF.out _ ((HSS.out.alloc _).alloc _)).mono ?_; rintro e w1 ⟨rfl, hb⟩
    replace V := V.below hb; replace Q := Q.below hb; replace B := B.trans (hb.mono B.size)
    clear hb
    have Qq := Q.at_; have q0 := Qq.c0; have q1 := Qq.c1; have q2 := Qq.c2; have q3 := Qq.c3; have q4 := Qq.c4; have q5 := Qq.c5; have q6 := Qq.c6; have ql := Qq.lt; have k6 := Q.f 6
    have Vv := V.at_; have v0 := Vv.c0; have v1 := Vv.c1; have v2 := Vv.c2; have v3 := Vv.c3; have v4 := Vv.c4; have v5 := Vv.c5; have v6 := Vv.c6; have vl := Vv.lt; have g0 := V.f 0; have g1 := V.f 1; have g2 := V.f 2; have g3 := V.f 3; have g4 := V.f 4; have g5 := V.f 5; have g6 := V.f 6
    clear Qq Vv
    go_wp2_with fail
    clear q0 q1 q2 q3 q4 q5 q6 ql k6 v0 v1 v2 v3 v4 v5 v6 vl g0 g1 g2 g3 g4 g5 g6
    refine (lbetween_is (k : Int) 0 ((h.rl : Int) - 1) true ⟨fun _ => (by omega), fun _ => rfl⟩ _).mono ?_; rintro e w2 ⟨rfl, rfl⟩
    have Qq := Q.at_; have q0 := Qq.c0; have q1 := Qq.c1; have q2 := Qq.c2; have q3 := Qq.c3; have q4 := Qq.c4; have q5 := Qq.c5; have q6 := Qq.c6; have ql := Qq.lt; have k6 := Q.f 6
    have Vv := V.at_; have v0 := Vv.c0; have v1 := Vv.c1; have v2 := Vv.c2; have v3 := Vv.c3; have v4 := Vv.c4; have v5 := Vv.c5; have v6 := Vv.c6; have vl := Vv.lt; have g0 := V.f 0; have g1 := V.f 1; have g2 := V.f 2; have g3 := V.f 3; have g4 := V.f 4; have g5 := V.f 5; have g6 := V.f 6
    clear Qq Vv
    go_wp2_with fail
    clear q0 q1 q2 q3 q4 q5 q6 ql k6 v0 v1 v2 v3 v4 v5 v6 vl g0 g1 g2 g3 g4 g5 g6
    refine (lbetween_is t 1 9 true ⟨fun _ => HK.out, fun _ => rfl⟩ _).mono ?_; rintro e w3 ⟨rfl, rfl⟩
    have Qq := Q.at_; have q0 := Qq.c0; have q1 := Qq.c1; have q2 := Qq.c2; have q3 := Qq.c3; have q4 := Qq.c4; have q5 := Qq.c5; have q6 := Qq.c6; have ql := Qq.lt; have k6 := Q.f 6
    have Vv := V.at_; have v0 := Vv.c0; have v1 := Vv.c1; have v2 := Vv.c2; have v3 := Vv.c3; have v4 := Vv.c4; have v5 := Vv.c5; have v6 := Vv.c6; have vl := Vv.lt; have g0 := V.f 0; have g1 := V.f 1; have g2 := V.f 2; have g3 := V.f 3; have g4 := V.f 4; have g5 := V.f 5; have g6 := V.f 6
    clear Qq Vv
    go_wp2_with fail
    clear q0 q1 q2 q3 q4 q5 q6 ql k6 v0 v1 v2 v3 v4 v5 v6 vl g0 g1 g2 g3 g4 g5 g6
    refine (wclone_is h f HRL.out HEL.out HCL.out HNN.out _ (HSS.out.below B)).mono ?_; rintro e w4 ⟨hb, R', E', C', rc', ec', cc', rfl, OF⟩
    have hl3 := V.at_.lt
    have hb4 := hb.size
    replace V := (V.below hb).fw; replace Q := (Q.below hb).fw; replace B := B.trans (hb.mono B.size)
    clear hb
    obtain ⟨-, OR, OE, OC⟩ := OF
    dsimp only at OR OE OC
    obtain ⟨g, rfl, hg0, hg1⟩ := own_openT OR (by omega)
    have hgn : ¬ g = w.heap.size := by omega
    have hgn2 : ¬ w.heap.size = g := by omega
    have hgm : ¬ g = w.heap.size + 1 := by omega
    have hki : (k : Int) < (h.rl : Int) := by omega
    have C2 : w4.cell? ⟨g, k * 3 + 2, none⟩ = some (.int .i64 (Fo.at3 f.rs k).c) := by
      obtain ⟨-, _, _, e1, s1, -⟩ := own_T OR
      cases e1
      obtain ⟨b9, o9, e9, _, hc9⟩ := s1 (by have := HKL.out; omega)
      cases e9
      have := (hc9 k HKL.out).c2
      rwa [Nat.zero_add] at this
    have CF : w4.frozen? ⟨g, k * 3 + 2, none⟩ = false := own_frz OR _
    have OR7 := own_putT (t := t) (own_putF OR (own_far OR (show w.heap.size < w3.heap.size by omega)) {h with R := some ⟨g, 0, none⟩, rc := rc', E := E', ec := ec', C := C', cc := cc'}) HKL.out
    have OE7 := own_setS (own_putF OE (own_far OE (show w.heap.size < w3.heap.size by omega)) {h with R := some ⟨g, 0, none⟩, rc := rc', E := E', ec := ec', C := C', cc := cc'}) (b := g) (by rcases own_apart OE OR (by decide) with e9 | e9 <;> (intro e8; rw [e8] at e9; first | (cases e9; done) | exact e9 rfl)) (k * 3 + 2) (.int .i64 t)
    have OC7 := own_setS (own_putF OC (own_far OC (show w.heap.size < w3.heap.size by omega)) {h with R := some ⟨g, 0, none⟩, rc := rc', E := E', ec := ec', C := C', cc := cc'}) (b := g) (by rcases own_apart OC OR (by decide) with e9 | e9 <;> (intro e8; rw [e8] at e9; first | (cases e9; done) | exact e9 rfl)) (k * 3 + 2) (.int .i64 t)
    have Q7 := (Q.put {h with R := some ⟨g, 0, none⟩, rc := rc', E := E', ec := ec', C := C', cc := cc'}).other (c := g) (k := k * 3 + 2) (by omega) (.int .i64 t)
    have V7 := (V.putO (c := w.heap.size) (by omega) {h with R := some ⟨g, 0, none⟩, rc := rc', E := E', ec := ec', C := C', cc := cc'}).other (c := g) (k := k * 3 + 2) (by omega) (.int .i64 t)
    have B7 := (putF_below B (Nat.le_refl w.heap.size) {h with R := some ⟨g, 0, none⟩, rc := rc', E := E', ec := ec', C := C', cc := cc'}).setCell (p := ⟨g, k * 3 + 2, none⟩) (show w.heap.size ≤ g by omega) (.int .i64 t)
    clear OR OE OC B
    have q0 := Q.a.c0; have q1 := Q.a.c1; have q2 := Q.a.c2; have q3 := Q.a.c3; have q4 := Q.a.c4; have q5 := Q.a.c5; have q6 := Q.a.c6; have ql := Q.a.lt; have k0 := Q.f 0; have k1 := Q.f 1; have k2 := Q.f 2; have k3 := Q.f 3; have k4 := Q.f 4; have k5 := Q.f 5; have k6 := Q.f 6; (try dsimp only at q0 q1 q2 q3 q4 q5 q6)
    have v0 := V.a.c0; have v1 := V.a.c1; have v2 := V.a.c2; have v3 := V.a.c3; have v4 := V.a.c4; have v5 := V.a.c5; have v6 := V.a.c6; have vl := V.a.lt; have g0 := V.f 0; have g1 := V.f 1; have g2 := V.f 2; have g3 := V.f 3; have g4 := V.f 4; have g5 := V.f 5; have g6 := V.f 6; (try dsimp only at v0 v1 v2 v3 v4 v5 v6)
    go_wp2_with fail
    clear q0 q1 q2 q3 q4 q5 q6 ql k0 k1 k2 k3 k4 k5 k6 v0 v1 v2 v3 v4 v5 v6 vl g0 g1 g2 g3 g4 g5 g6 C2 CF Q V
    obtain ⟨X, hX⟩ : ∃ X, (putF w4 w.heap.size {h with R := some ⟨g, 0, none⟩, rc := rc', E := E', ec := ec', C := C', cc := cc'}).setCell ⟨g, k * 3 + 2, none⟩ (.int .i64 t) = X := ⟨_, rfl⟩
    rw [hX] at OR7 OE7 OC7 Q7 V7 B7
    dsimp only [putF] at hX
    rw [hX]
    clear hX
    obtain ⟨-, _, _, e1, s1, n1⟩ := own_T OR7
    cases e1
    obtain ⟨-, _, _, e2, s2, n2⟩ := own_T OE7
    cases e2
    obtain ⟨-, _, _, e3, s3, n3⟩ := own_T OC7
    cases e3
    have hcap : h.cl ≤ cc' := by
      rcases OC7.2 with ⟨e8, _⟩ | ⟨_, _, _, e8, _, _, h9, _⟩
      · injection e8 with _ _ e8; omega
      · injection e8 with _ _ e8; omega
    have HSX : Hid (SlF X {h with R := some ⟨g, 0, none⟩, rc := rc', E := E', ec := ec', C := C', cc := cc'} (Fo.setC f k t)) := Lib.hid ⟨HSS.out.n, HSS.out.ja, HSS.out.jt, HSS.out.jf, (by show (Fo.setL f.rs k t).length = h.rl; rw [Fo.setL_len]; exact HSS.out.rl), HSS.out.el, HSS.out.cl, s1, s2, s3⟩
    refine (wsize_is {h with R := some ⟨g, 0, none⟩, rc := rc', E := E', ec := ec', C := C', cc := cc'} (Fo.setC f k t) (HV.out.ok.setC HK.out) _ HSX.out).mono ?_; rintro e w5 ⟨rfl, hb⟩
    have hsz := HSZ.out
    obtain ⟨z, hz⟩ : ∃ z, (Fo.whl (Fo.setC f k t)).length = z := ⟨_, rfl⟩
    rw [hz] at hsz ⊢
    have HZ := Lib.hid hz
    clear hz s1 s2 s3
    have hle : w.heap.size ≤ X.heap.size := B7.size
    have HS5 := Lib.hid (HSX.out.below hb)
    have OR8 := OR7.kept (below_grown hb none) none_ne; have OE8 := OE7.kept (below_grown hb none) none_ne; have OC8 := OC7.kept (below_grown hb none) none_ne
    have Q := Q7.below hb; have V := V7.below hb; have B := B7.trans (hb.mono B7.size)
    clear OR7 OE7 OC7
    clear hb Q7 V7 B7
    have q0 := Q.a.c0; have q1 := Q.a.c1; have q2 := Q.a.c2; have q3 := Q.a.c3; have q4 := Q.a.c4; have q5 := Q.a.c5; have q6 := Q.a.c6; have ql := Q.a.lt; have k0 := Q.f 0; have k1 := Q.f 1; have k2 := Q.f 2; have k3 := Q.f 3; have k4 := Q.f 4; have k5 := Q.f 5; have k6 := Q.f 6; (try dsimp only at q0 q1 q2 q3 q4 q5 q6)
    have v0 := V.a.c0; have v1 := V.a.c1; have v2 := V.a.c2; have v3 := V.a.c3; have v4 := V.a.c4; have v5 := V.a.c5; have v6 := V.a.c6; have vl := V.a.lt; have g0 := V.f 0; have g1 := V.f 1; have g2 := V.f 2; have g3 := V.f 3; have g4 := V.f 4; have g5 := V.f 5; have g6 := V.f 6; (try dsimp only at v0 v1 v2 v3 v4 v5 v6)
    clear OR8 OE8 OC8
    have hsz2 : (20000 : Int) < (z : Int) := by omega
    go_wp2_with fail
    have hB2 := putF_below B (show w.heap.size ≤ w.heap.size + 1 by omega) .zero
    have P := V.put .zero
    show bodyPost _ _ _ _ _ (putF w5 (w.heap.size + 1) .zero)
    obtain ⟨wz, hz⟩ : ∃ wz, putF w5 (w.heap.size + 1) .zero = wz := ⟨_, rfl⟩
    rw [hz] at P hB2 ⊢
    obtain ⟨-, p0, p1, p2, p3, p4, p5, p6⟩ := P.a
    dsimp only [FH.zero] at p0 p1 p2 p3 p4 p5 p6
    refine bodyPost_ret (v := .tuple #[.agg #[.int .i64 0, .slice none 0 0, .slice none 0 0, .int .i64 0, .int .i64 0, .int .i64 0, .slice none 0 0], .int .i64 2]) (by simp [results, Try.results23, p0, p1, p2, p3, p4, p5, p6, go_sem]) rfl ⟨hB2, .zero, rfl, fun h => (by cases h), fun _ => rfl⟩
set_option maxRecDepth 100000 in
set_option maxHeartbeats 6400000 in
theorem wTimes_ok (h : FH) (f : Fo.Fm) (k : Nat) (t : Int) (V0 : Fo.Val f) (hk : k < h.rl) (ht : 1 ≤ t ∧ t ≤ 9) (hsz : (Fo.whl (Fo.setC f k t)).length ≤ 20000) (hN : Nils h) (hwf : ∀ c ∈ f.cs, Fo.wf3 c) (w : World) (hS : SlF w h f) :
    Calls Try.prog 23 #[.agg #[.int .i64 h.n, .slice h.R h.rl h.rc, .slice h.E h.el h.ec, .int .i64 h.ja, .int .i64 h.jt, .int .i64 h.jf, .slice h.C h.cl h.cc], .int .i64 (k : Int), .int .i64 t] w fun y w' => Below w.heap.size w w' ∧ ∃ h' : FH, y = .returned (.tuple #[.agg #[.int .i64 h'.n, .slice h'.R h'.rl h'.rc, .slice h'.E h'.el h'.ec, .int .i64 h'.ja, .int .i64 h'.jt, .int .i64 h'.jf, .slice h'.C h'.cl h'.cc], .int .i64 0]) ∧ FormW (Fo.setC f k t) h' w' := by
    have HV := Lib.hid V0; have HWF := Lib.hid hwf; have HSS := Lib.hid hS
    have HK := Lib.hid ht; have HSZ := Lib.hid hsz; have HNN := Lib.hid hN
    have hrl : h.rl ≤ 100 := by have := V0.rl; have := hS.rl; omega
    have HEL := Lib.hid (show h.el ≤ 100 by have := V0.el; have := hS.el; omega)
    have HCL := Lib.hid (show h.cl ≤ 100 by have := V0.cl; have := hS.cl; omega)
    have HRL := Lib.hid hrl
    have HKL : Hid (k < f.rs.length) := Lib.hid (by rw [hS.rl]; exact hk)
    clear hS V0 hwf ht hsz hN
    go_enter Try.func23, Try.ntmps23
    go_wp2_with fail
    have Q := (FV.new w h).alloc (.cells #[.int .i64 0, .slice none 0 0, .slice none 0 0, .int .i64 0, .int .i64 0, .int .i64 0, .slice none 0 0] 28)
    have V := FV.zero (w.alloc (.cells #[.int .i64 h.n, .slice h.R h.rl h.rc, .slice h.E h.el h.ec, .int .i64 h.ja, .int .i64 h.jt, .int .i64 h.jf, .slice h.C h.cl h.cc] 28))
    have B := ((Below.refl w.heap.size w).alloc (Nat.le_refl _) (.cells #[.int .i64 h.n, .slice h.R h.rl h.rc, .slice h.E h.el h.ec, .int .i64 h.ja, .int .i64 h.jt, .int .i64 h.jf, .slice h.C h.cl h.cc] 28)).alloc (by simp) (.cells #[.int .i64 0, .slice none 0 0, .slice none 0 0, .int .i64 0, .int .i64 0, .int .i64 0, .slice none 0 0] 28)
    rw [World.size_alloc] at V
    refine (wValid_is h f true ⟨fun _ => HV.out, fun _ => rfl⟩ HWF.out _ ((HSS.out.alloc _).alloc _)).mono ?_; rintro e w1 ⟨rfl, hb⟩
    replace V := V.below hb; replace Q := Q.below hb; replace B := B.trans (hb.mono B.size)
    clear hb
    have Qq := Q.at_; have q0 := Qq.c0; have q1 := Qq.c1; have q2 := Qq.c2; have q3 := Qq.c3; have q4 := Qq.c4; have q5 := Qq.c5; have q6 := Qq.c6; have ql := Qq.lt; have k6 := Q.f 6
    have Vv := V.at_; have v0 := Vv.c0; have v1 := Vv.c1; have v2 := Vv.c2; have v3 := Vv.c3; have v4 := Vv.c4; have v5 := Vv.c5; have v6 := Vv.c6; have vl := Vv.lt; have g0 := V.f 0; have g1 := V.f 1; have g2 := V.f 2; have g3 := V.f 3; have g4 := V.f 4; have g5 := V.f 5; have g6 := V.f 6
    clear Qq Vv
    go_wp2_with fail
    clear q0 q1 q2 q3 q4 q5 q6 ql k6 v0 v1 v2 v3 v4 v5 v6 vl g0 g1 g2 g3 g4 g5 g6
    refine (lbetween_is (k : Int) 0 ((h.rl : Int) - 1) true ⟨fun _ => (by omega), fun _ => rfl⟩ _).mono ?_; rintro e w2 ⟨rfl, rfl⟩
    have Qq := Q.at_; have q0 := Qq.c0; have q1 := Qq.c1; have q2 := Qq.c2; have q3 := Qq.c3; have q4 := Qq.c4; have q5 := Qq.c5; have q6 := Qq.c6; have ql := Qq.lt; have k6 := Q.f 6
    have Vv := V.at_; have v0 := Vv.c0; have v1 := Vv.c1; have v2 := Vv.c2; have v3 := Vv.c3; have v4 := Vv.c4; have v5 := Vv.c5; have v6 := Vv.c6; have vl := Vv.lt; have g0 := V.f 0; have g1 := V.f 1; have g2 := V.f 2; have g3 := V.f 3; have g4 := V.f 4; have g5 := V.f 5; have g6 := V.f 6
    clear Qq Vv
    go_wp2_with fail
    clear q0 q1 q2 q3 q4 q5 q6 ql k6 v0 v1 v2 v3 v4 v5 v6 vl g0 g1 g2 g3 g4 g5 g6
    refine (lbetween_is t 1 9 true ⟨fun _ => HK.out, fun _ => rfl⟩ _).mono ?_; rintro e w3 ⟨rfl, rfl⟩
    have Qq := Q.at_; have q0 := Qq.c0; have q1 := Qq.c1; have q2 := Qq.c2; have q3 := Qq.c3; have q4 := Qq.c4; have q5 := Qq.c5; have q6 := Qq.c6; have ql := Qq.lt; have k6 := Q.f 6
    have Vv := V.at_; have v0 := Vv.c0; have v1 := Vv.c1; have v2 := Vv.c2; have v3 := Vv.c3; have v4 := Vv.c4; have v5 := Vv.c5; have v6 := Vv.c6; have vl := Vv.lt; have g0 := V.f 0; have g1 := V.f 1; have g2 := V.f 2; have g3 := V.f 3; have g4 := V.f 4; have g5 := V.f 5; have g6 := V.f 6
    clear Qq Vv
    go_wp2_with fail
    clear q0 q1 q2 q3 q4 q5 q6 ql k6 v0 v1 v2 v3 v4 v5 v6 vl g0 g1 g2 g3 g4 g5 g6
    refine (wclone_is h f HRL.out HEL.out HCL.out HNN.out _ (HSS.out.below B)).mono ?_; rintro e w4 ⟨hb, R', E', C', rc', ec', cc', rfl, OF⟩
    have hl3 := V.at_.lt
    have hb4 := hb.size
    replace V := (V.below hb).fw; replace Q := (Q.below hb).fw; replace B := B.trans (hb.mono B.size)
    clear hb
    obtain ⟨-, OR, OE, OC⟩ := OF
    dsimp only at OR OE OC
    obtain ⟨g, rfl, hg0, hg1⟩ := own_openT OR (by omega)
    have hgn : ¬ g = w.heap.size := by omega
    have hgn2 : ¬ w.heap.size = g := by omega
    have hgm : ¬ g = w.heap.size + 1 := by omega
    have hki : (k : Int) < (h.rl : Int) := by omega
    have C2 : w4.cell? ⟨g, k * 3 + 2, none⟩ = some (.int .i64 (Fo.at3 f.rs k).c) := by
      obtain ⟨-, _, _, e1, s1, -⟩ := own_T OR
      cases e1
      obtain ⟨b9, o9, e9, _, hc9⟩ := s1 (by have := HKL.out; omega)
      cases e9
      have := (hc9 k HKL.out).c2
      rwa [Nat.zero_add] at this
    have CF : w4.frozen? ⟨g, k * 3 + 2, none⟩ = false := own_frz OR _
    have OR7 := own_putT (t := t) (own_putF OR (own_far OR (show w.heap.size < w3.heap.size by omega)) {h with R := some ⟨g, 0, none⟩, rc := rc', E := E', ec := ec', C := C', cc := cc'}) HKL.out
    have OE7 := own_setS (own_putF OE (own_far OE (show w.heap.size < w3.heap.size by omega)) {h with R := some ⟨g, 0, none⟩, rc := rc', E := E', ec := ec', C := C', cc := cc'}) (b := g) (by rcases own_apart OE OR (by decide) with e9 | e9 <;> (intro e8; rw [e8] at e9; first | (cases e9; done) | exact e9 rfl)) (k * 3 + 2) (.int .i64 t)
    have OC7 := own_setS (own_putF OC (own_far OC (show w.heap.size < w3.heap.size by omega)) {h with R := some ⟨g, 0, none⟩, rc := rc', E := E', ec := ec', C := C', cc := cc'}) (b := g) (by rcases own_apart OC OR (by decide) with e9 | e9 <;> (intro e8; rw [e8] at e9; first | (cases e9; done) | exact e9 rfl)) (k * 3 + 2) (.int .i64 t)
    have Q7 := (Q.put {h with R := some ⟨g, 0, none⟩, rc := rc', E := E', ec := ec', C := C', cc := cc'}).other (c := g) (k := k * 3 + 2) (by omega) (.int .i64 t)
    have V7 := (V.putO (c := w.heap.size) (by omega) {h with R := some ⟨g, 0, none⟩, rc := rc', E := E', ec := ec', C := C', cc := cc'}).other (c := g) (k := k * 3 + 2) (by omega) (.int .i64 t)
    have B7 := (putF_below B (Nat.le_refl w.heap.size) {h with R := some ⟨g, 0, none⟩, rc := rc', E := E', ec := ec', C := C', cc := cc'}).setCell (p := ⟨g, k * 3 + 2, none⟩) (show w.heap.size ≤ g by omega) (.int .i64 t)
    clear OR OE OC B
    have q0 := Q.a.c0; have q1 := Q.a.c1; have q2 := Q.a.c2; have q3 := Q.a.c3; have q4 := Q.a.c4; have q5 := Q.a.c5; have q6 := Q.a.c6; have ql := Q.a.lt; have k0 := Q.f 0; have k1 := Q.f 1; have k2 := Q.f 2; have k3 := Q.f 3; have k4 := Q.f 4; have k5 := Q.f 5; have k6 := Q.f 6; (try dsimp only at q0 q1 q2 q3 q4 q5 q6)
    have v0 := V.a.c0; have v1 := V.a.c1; have v2 := V.a.c2; have v3 := V.a.c3; have v4 := V.a.c4; have v5 := V.a.c5; have v6 := V.a.c6; have vl := V.a.lt; have g0 := V.f 0; have g1 := V.f 1; have g2 := V.f 2; have g3 := V.f 3; have g4 := V.f 4; have g5 := V.f 5; have g6 := V.f 6; (try dsimp only at v0 v1 v2 v3 v4 v5 v6)
    go_wp2_with fail
    clear q0 q1 q2 q3 q4 q5 q6 ql k0 k1 k2 k3 k4 k5 k6 v0 v1 v2 v3 v4 v5 v6 vl g0 g1 g2 g3 g4 g5 g6 C2 CF Q V
    obtain ⟨X, hX⟩ : ∃ X, (putF w4 w.heap.size {h with R := some ⟨g, 0, none⟩, rc := rc', E := E', ec := ec', C := C', cc := cc'}).setCell ⟨g, k * 3 + 2, none⟩ (.int .i64 t) = X := ⟨_, rfl⟩
    rw [hX] at OR7 OE7 OC7 Q7 V7 B7
    dsimp only [putF] at hX
    rw [hX]
    clear hX
    obtain ⟨-, _, _, e1, s1, n1⟩ := own_T OR7
    cases e1
    obtain ⟨-, _, _, e2, s2, n2⟩ := own_T OE7
    cases e2
    obtain ⟨-, _, _, e3, s3, n3⟩ := own_T OC7
    cases e3
    have hcap : h.cl ≤ cc' := by
      rcases OC7.2 with ⟨e8, _⟩ | ⟨_, _, _, e8, _, _, h9, _⟩
      · injection e8 with _ _ e8; omega
      · injection e8 with _ _ e8; omega
    have HSX : Hid (SlF X {h with R := some ⟨g, 0, none⟩, rc := rc', E := E', ec := ec', C := C', cc := cc'} (Fo.setC f k t)) := Lib.hid ⟨HSS.out.n, HSS.out.ja, HSS.out.jt, HSS.out.jf, (by show (Fo.setL f.rs k t).length = h.rl; rw [Fo.setL_len]; exact HSS.out.rl), HSS.out.el, HSS.out.cl, s1, s2, s3⟩
    refine (wsize_is {h with R := some ⟨g, 0, none⟩, rc := rc', E := E', ec := ec', C := C', cc := cc'} (Fo.setC f k t) (HV.out.ok.setC HK.out) _ HSX.out).mono ?_; rintro e w5 ⟨rfl, hb⟩
    have hsz := HSZ.out
    obtain ⟨z, hz⟩ : ∃ z, (Fo.whl (Fo.setC f k t)).length = z := ⟨_, rfl⟩
    rw [hz] at hsz ⊢
    have HZ := Lib.hid hz
    clear hz s1 s2 s3
    have hle : w.heap.size ≤ X.heap.size := B7.size
    have HS5 := Lib.hid (HSX.out.below hb)
    have OR8 := OR7.kept (below_grown hb none) none_ne; have OE8 := OE7.kept (below_grown hb none) none_ne; have OC8 := OC7.kept (below_grown hb none) none_ne
    have Q := Q7.below hb; have V := V7.below hb; have B := B7.trans (hb.mono B7.size)
    clear OR7 OE7 OC7
    clear hb Q7 V7 B7
    have q0 := Q.a.c0; have q1 := Q.a.c1; have q2 := Q.a.c2; have q3 := Q.a.c3; have q4 := Q.a.c4; have q5 := Q.a.c5; have q6 := Q.a.c6; have ql := Q.a.lt; have k0 := Q.f 0; have k1 := Q.f 1; have k2 := Q.f 2; have k3 := Q.f 3; have k4 := Q.f 4; have k5 := Q.f 5; have k6 := Q.f 6; (try dsimp only at q0 q1 q2 q3 q4 q5 q6)
    have v0 := V.a.c0; have v1 := V.a.c1; have v2 := V.a.c2; have v3 := V.a.c3; have v4 := V.a.c4; have v5 := V.a.c5; have v6 := V.a.c6; have vl := V.a.lt; have g0 := V.f 0; have g1 := V.f 1; have g2 := V.f 2; have g3 := V.f 3; have g4 := V.f 4; have g5 := V.f 5; have g6 := V.f 6; (try dsimp only at v0 v1 v2 v3 v4 v5 v6)
    have hsz2 : ¬ (20000 : Int) < (z : Int) := by omega
    go_wp2_with fail
    have hB2 := putF_below B (show w.heap.size ≤ w.heap.size + 1 by omega) {h with R := some ⟨g, 0, none⟩, rc := rc', E := E', ec := ec', C := C', cc := cc'}
    have P := V.put {h with R := some ⟨g, 0, none⟩, rc := rc', E := E', ec := ec', C := C', cc := cc'}
    have OR9 := own_putF OR8 (own_far OR8 (show w.heap.size + 1 < w3.heap.size by omega)) {h with R := some ⟨g, 0, none⟩, rc := rc', E := E', ec := ec', C := C', cc := cc'}
    have OE9 := own_putF OE8 (own_far OE8 (show w.heap.size + 1 < w3.heap.size by omega)) {h with R := some ⟨g, 0, none⟩, rc := rc', E := E', ec := ec', C := C', cc := cc'}
    have OC9 := own_putF OC8 (own_far OC8 (show w.heap.size + 1 < w3.heap.size by omega)) {h with R := some ⟨g, 0, none⟩, rc := rc', E := E', ec := ec', C := C', cc := cc'}
    obtain ⟨-, _, _, e1, s1, -⟩ := own_T OR9
    cases e1
    obtain ⟨-, _, _, e2, s2, -⟩ := own_T OE9
    cases e2
    obtain ⟨-, _, _, e3, s3, -⟩ := own_T OC9
    cases e3
    have HS6 : Hid (SlF (putF w5 (w.heap.size + 1) {h with R := some ⟨g, 0, none⟩, rc := rc', E := E', ec := ec', C := C', cc := cc'}) {h with R := some ⟨g, 0, none⟩, rc := rc', E := E', ec := ec', C := C', cc := cc'} (Fo.setC f k t)) := Lib.hid ⟨HSS.out.n, HSS.out.ja, HSS.out.jt, HSS.out.jf, (by show (Fo.setL f.rs k t).length = h.rl; rw [Fo.setL_len]; exact HSS.out.rl), HSS.out.el, HSS.out.cl, s1, s2, s3⟩
    clear OR8 OE8 OC8 OR9 OE9 OC9
    show bodyPost _ _ _ _ _ (putF w5 (w.heap.size + 1) {h with R := some ⟨g, 0, none⟩, rc := rc', E := E', ec := ec', C := C', cc := cc'})
    obtain ⟨wz, hz⟩ : ∃ wz, putF w5 (w.heap.size + 1) {h with R := some ⟨g, 0, none⟩, rc := rc', E := E', ec := ec', C := C', cc := cc'} = wz := ⟨_, rfl⟩
    rw [hz] at P hB2 HS6 ⊢
    obtain ⟨-, p0, p1, p2, p3, p4, p5, p6⟩ := P.a
    dsimp only at p0 p1 p2 p3 p4 p5 p6
    refine bodyPost_ret (v := .tuple #[.agg #[.int .i64 h.n, .slice (some ⟨g, 0, none⟩) h.rl rc', .slice E' h.el ec', .int .i64 h.ja, .int .i64 h.jt, .int .i64 h.jf, .slice C' h.cl cc'], .int .i64 0]) (by simp [results, Try.results23, p0, p1, p2, p3, p4, p5, p6, go_sem]) rfl ⟨hB2, {h with R := some ⟨g, 0, none⟩, rc := rc', E := E', ec := ec', C := C', cc := cc'}, rfl, ⟨HS6.out, hcap, ⟨n1, n2, n3⟩⟩⟩
end Go.Proofs.Ytakbpgljbbkmkaa

/- A row of the call's own out of which one element is taken in place (slices.Delete). -/
namespace Go.Proofs.Ytakbpgljbbkmkaa
open Go.RowKit

/-- Cells with others laid over them, from a place on. -/
def ovr (cur : Array Value) : Nat → List Value → Array Value
  | _, [] => cur
  | o, v :: r => ovr (cur.setIfInBounds o v) (o + 1) r
theorem ovr_size : ∀ (vs : List Value) (cur : Array Value) (o : Nat), (ovr cur o vs).size = cur.size
  | [], _, _ => rfl
  | v :: r, cur, o => by
    unfold ovr
    rw [ovr_size r, Array.size_setIfInBounds]
theorem ovr_low : ∀ (vs : List Value) (cur : Array Value) (o m : Nat), m ≤ o → (ovr cur o vs).toList.take m = cur.toList.take m
  | [], _, _, _, _ => rfl
  | v :: r, cur, o, m, h => by
    unfold ovr
    rw [ovr_low r _ (o + 1) m (by omega), Array.toList_setIfInBounds, List.take_set, List.set_eq_of_length_le (by rw [List.length_take]; omega)]
theorem ovr_take : ∀ (vs : List Value) (cur : Array Value) (o : Nat), o + vs.length ≤ cur.size → (ovr cur o vs).toList.take (o + vs.length) = cur.toList.take o ++ vs
  | [], cur, o, _ => by unfold ovr; simp
  | v :: r, cur, o, h => by
    rw [List.length_cons] at h ⊢
    unfold ovr
    rw [show o + (r.length + 1) = o + 1 + r.length by omega, ovr_take r _ (o + 1) (by rw [Array.size_setIfInBounds]; omega)]
    have hl : o < (cur.setIfInBounds o v).toList.length := by rw [Array.length_toList, Array.size_setIfInBounds]; omega
    rw [List.take_succ_eq_append_getElem hl]
    have e1 : (cur.setIfInBounds o v).toList.take o = cur.toList.take o := by
      rw [Array.toList_setIfInBounds, List.take_set, List.set_eq_of_length_le (by rw [List.length_take]; omega)]
    have e2 : (cur.setIfInBounds o v).toList[o] = v := by simp
    rw [e1, e2, List.append_assoc]
    rfl
theorem heap_setCells_own (g : Nat) (e : TypeId) : ∀ (vs : List Value) (o : Nat) (w : World) (cur : Array Value), w.heap[g]? = some (.cells cur e (0, 0)) → (w.setCells g o vs).heap[g]? = some (.cells (ovr cur o vs) e (0, 0))
  | [], _, _, _, h => h
  | v :: r, o, w, cur, h => by
    unfold World.setCells ovr
    exact heap_setCells_own g e r (o + 1) _ _ (heap_setCell_same w g o cur e v h)
theorem vT_take : ∀ (l : List Fo.T3) (k : Nat), (vT l).take (k * 3) = vT (l.take k)
  | [], k => by simp [vT]
  | b :: l, 0 => by simp [vT]
  | b :: l, k + 1 => by
    rw [vT_cons, List.take_succ_cons, vT_cons, show (k + 1) * 3 = 3 + k * 3 by omega]
    show (([.int .i64 b.a, .int .i64 b.b, .int .i64 b.c] : List Value) ++ vT l).take (([.int .i64 b.a, .int .i64 b.b, .int .i64 b.c] : List Value).length + k * 3) = _
    rw [List.take_length_add_append, vT_take l k]
theorem own_del {w : World} {base g n cap k : Nat} {e : TypeId} {l : List Fo.T3} (z : List Value) (h : w.ownsRow base e 3 (.slice (some ⟨g, 0, none⟩) (n + 1) cap) (n + 1) (vT l)) (hk : k ≤ n) :
    ((w.drew.setCells g (k * 3) (vT (l.drop (k + 1)))).setCells g (n * 3) z).ownsRow base e 3 (.slice (some ⟨g, 0, none⟩) n cap) n (vT (l.eraseIdx k)) := by
  have hl : l.length = n + 1 := by have := h.1; rw [vT_length] at this; omega
  refine ⟨by rw [vT_length, List.length_eraseIdx, if_pos (by omega)]; omega, ?_⟩
  rcases h.2 with ⟨e1, _⟩ | ⟨g2, cap2, cur, e1, h1, h2, h3, h4, h5, h6⟩
  · cases e1
  · cases e1
    have hlen : (vT (l.drop (k + 1))).length = (n - k) * 3 := by rw [vT_length, List.length_drop]; congr 1; omega
    refine .inr ⟨g, cap, ovr (ovr cur (k * 3) (vT (l.drop (k + 1)))) (n * 3) z, rfl, h1, heap_setCells_own g e _ _ _ _ (heap_setCells_own g e _ _ _ _ h2), by omega, h4, by rw [ovr_size, ovr_size]; exact h5, ?_⟩
    rw [ovr_low _ _ _ _ (Nat.le_refl _)]
    have h7 := ovr_take (vT (l.drop (k + 1))) cur (k * 3) (by rw [hlen, h5]; omega)
    rw [hlen, show k * 3 + (n - k) * 3 = n * 3 by omega] at h7
    rw [h7, List.eraseIdx_eq_take_drop_succ, vT_app, ← vT_take, ← h6, List.take_take, show min (k * 3) ((n + 1) * 3) = k * 3 by omega]
end Go.Proofs.Ytakbpgljbbkmkaa

/- The walk of slices.Delete at the cuts, one element taken out. -/
namespace Go.Proofs.Ytakbpgljbbkmkaa
open Go.RowKit

theorem vT_drop (l : List Fo.T3) (k : Nat) : vT (l.drop k) = (vT l).drop (k * 3) := by
  rw [show vT l = vT (l.take k) ++ vT (l.drop k) by rw [← vT_app, List.take_append_drop]]
  by_cases hk : k ≤ l.length
  · rw [List.drop_left' (by rw [vT_length, List.length_take]; congr 1; omega)]
  · rw [List.drop_of_length_le (by omega : l.length ≤ k), List.drop_of_length_le (by rw [List.length_append, vT_length, List.length_take, show vT ([] : List Fo.T3) = [] from rfl]; simp; omega)]
    rfl
theorem own_row {w : World} {base g n cap : Nat} {e : TypeId} {s : Nat} {xs : List Value} (h : w.ownsRow base e s (.slice (some ⟨g, 0, none⟩) n cap) n xs) : ∃ cur, w.heap[g]? = some (.cells cur e (0, 0)) ∧ n ≤ cap ∧ cap ≤ maxLen ∧ cur.size = cap * s := by
  rcases h.2 with ⟨e1, _⟩ | ⟨g2, cap2, cur, e1, h1, h2, h3, h4, h5, h6⟩
  · cases e1
  · cases e1
    exact ⟨cur, h2, h3, h4, h5⟩
theorem cell_some {w : World} {g j : Nat} {cur : Array Value} {e : TypeId} (h : w.heap[g]? = some (.cells cur e (0, 0))) (hj : j < cur.size) : (w.cell? ⟨g, j, none⟩).isSome = true := by
  simp [World.cell?, h, hj]
/-- The classes of the append: as it begins, behind it. -/
def dlC (w : World) (g k n cap : Nat) (news : List Value) : List Value → World → Prop
  | [], x => x = w.drew
  | [v], x => v = .slice (some ⟨g, 0, none⟩) n cap ∧ x = w.drew.setCells g (k * 3) news
  | _, _ => False
set_option maxRecDepth 100000 in
set_option maxHeartbeats 6400000 in
theorem wdelete_is (l : List Fo.T3) (k n cap g base : Nat) (hk : k ≤ n) (hn : n ≤ 1000) (w : World) (hO : w.ownsRow base 32 3 (.slice (some ⟨g, 0, none⟩) (n + 1) cap) (n + 1) (vT l)) :
    Calls Try.prog 51 #[.slice (some ⟨g, 0, none⟩) (n + 1) cap, .int .i64 (k : Int), .int .i64 ((k : Int) + 1)] w fun e w' => e = .returned (.slice (some ⟨g, 0, none⟩) n cap) ∧ w' = (w.drew.setCells g (k * 3) (vT (l.drop (k + 1)))).setCells g (n * 3) [.int .i64 0, .int .i64 0, .int .i64 0] := by
  obtain ⟨ic, hi0, hz0, hz1, hz2⟩ := info_parts infoCut
  obtain ⟨cur, hc1, hc2, hc3, hc4⟩ := own_row hO
  have hl : l.length = n + 1 := by have := hO.1; rw [vT_length] at this; omega
  have hlen : (vT (l.drop (k + 1))).length = (n - k) * 3 := by rw [vT_length, List.length_drop]; congr 1; omega
  have hcap : n + 1 ≤ cap := hc2
  have hcapm : cap ≤ 9223372036854775807 := hc3
  have HAP : Hid (∀ (ty : TypeId) (A : Addr) (m c : Nat), m = n - k → (∀ j u, (vT (l.drop (k + 1)))[j]? = some u → w.drew.cell? (A.add j) = some u) → (Builtin.append_ #[26, 26] ty #[.slice (some ⟨g, 0, none⟩) k cap, .slice (some A) m c]).run Try.prog w.drew = .ok (.slice (some ⟨g, 0, none⟩) n cap) (w.drew.setCells g (k * 3) (vT (l.drop (k + 1))))) := Lib.hid (fun ty A m c hm hnew => by
    have := run_append_room_cells (P := Try.prog) w.drew 26 ty 32 ic Try.underlying26 hi0 g 0 k cap A m c (vT (l.drop (k + 1))) (by rw [hz1, hm]; exact hlen) hnew (vT_cells _) (by omega) (fun j hj => cell_some (w := w.drew) hc1 (by rw [hz1]; omega)) (fun j hj => frozen_of_row w.drew g _ cur 32 hc1)
    rwa [hz1, Nat.zero_add, show k + m = n by omega] at this)
  have hW1 : (w.drew.setCells g (k * 3) (vT (l.drop (k + 1)))).heap[g]? = some (.cells (ovr cur (k * 3) (vT (l.drop (k + 1)))) 32 (0, 0)) := heap_setCells_own g 32 _ _ _ _ hc1
  have HCL : Hid (∀ ty, (Builtin.clear_ #[26] ty #[.slice (some ⟨g, n * 3, none⟩) 1 (cap - n)]).run Try.prog (w.drew.setCells g (k * 3) (vT (l.drop (k + 1)))) = .ok (.tuple #[]) ((w.drew.setCells g (k * 3) (vT (l.drop (k + 1)))).setCells g (n * 3) [.int .i64 0, .int .i64 0, .int .i64 0])) := Lib.hid (fun ty => by
    have hst := run_storeCells_cells (P := Try.prog) g (n * 3) [.int .i64 0, .int .i64 0, .int .i64 0] 0 (w.drew.setCells g (k * 3) (vT (l.drop (k + 1)))) (fun j hj => cell_some hW1 (by rw [ovr_size, hc4]; simp at hj; omega)) (fun j hj => frozen_of_row _ g _ _ 32 hW1) (by intro v hv; simp at hv; rcases hv with rfl | rfl | rfl <;> rfl)
    simp only [Nat.add_zero] at hst
    have hzc : (Builtin.zeroCells (Value.agg #[.int .i64 0, .int .i64 0, .int .i64 0]).cells 1).toList = [.int .i64 0, .int .i64 0, .int .i64 0] := by first | kernel_rfl | (simp [Builtin.zeroCells, Value.cells]; rfl) | decide
    simp [Builtin.clear_, run_underlying Try.underlying26, Try.zeroValue32, hzc, hst])
  have HSN : Hid (∀ j u, (vT l)[j]? = some u → w.drew.cell? ((⟨g, 0, none⟩ : Addr).add j) = some u) := Lib.hid (by
    obtain ⟨-, _, _, e1, s1, -⟩ := own_T hO
    cases e1
    obtain ⟨b9, o9, e9, _, h9⟩ := s1 (by omega)
    cases e9
    exact fun j u hj => show w.cell? _ = _ from SlT.news h9 j u hj)
  clear hi0 hz0 hz1 hz2 hc1 hc2 hc3 hc4 hO hW1
  have hne : Nonempty (PvW (dlC w g k n cap (vT (l.drop (k + 1))))) := PvW.there (w := w.drew) rfl
  have hk1 : k + 1 ≤ cap := by omega
  have hkc : k ≤ cap := by omega
  go_enter Try.func51, Try.ntmps51
  by_cases hcj : cap = k + 1
  case pos =>
    obtain rfl : n = k := by omega
    subst hcj
    have HNW : Hid (∀ j u, (vT (l.drop (n + 1)))[j]? = some u → w.drew.cell? ((⟨g, 0, none⟩ : Addr).add j) = some u) := Lib.hid (fun j u hj => by
      rw [List.eq_nil_of_length_eq_zero (show (vT (l.drop (n + 1))).length = 0 by rw [hlen]; omega)] at hj
      simp at hj)
    go_wp2_with fail
    refine region_pv (V := fun _ _ => undef) (cs := [6]) (Cv := dlC w g n n (n + 1) (vT (l.drop (n + 1)))) 7 (by kernel_rfl) (by kernel_rfl) (by kernel_rfl) rfl ?_
    simp only [List.take_succ_cons, List.take_zero, List.drop_succ_cons, List.drop_zero]
    iterate 2 (refine pv_quiet (by decide) rfl rfl ?_; intro K' hK'; go_big_quiet_op; first | go_big_quiet_on | (refine ⟨_, fun _ => rfl, hK' _ ?_⟩))
    (refine pv_quiet (by decide) rfl rfl ?_; intro K' hK'; go_big_quiet_op; first | go_big_quiet_on | (refine ⟨_, fun _ => rfl, hK' _ ?_⟩))
    iterate 2 (refine pv_quiet (by decide) rfl rfl ?_; intro K' hK'; go_big_quiet_op; first | go_big_quiet_on | (refine ⟨_, fun _ => rfl, hK' _ ?_⟩))
    (refine pv_quiet (by decide) rfl rfl ?_; intro K' hK'; go_big_quiet_op; first | go_big_quiet_on | (refine ⟨_, fun _ => rfl, hK' _ ?_⟩))
    refine pv_made rfl rfl (fun w' hw' => ?_) ?_
    · obtain rfl : w' = w.drew := hw'
      exact ⟨.slice (some ⟨g, 0, none⟩) n (n + 1), w.drew.setCells g (n * 3) (vT (l.drop (n + 1))), ap_exec rfl rfl rfl (HAP.out _ ⟨g, 0, none⟩ 0 0 (by omega) HNW.out), rfl, rfl⟩
    rintro v ⟨wq, hq1, -⟩
    subst hq1
    simp only [Act.put, List.setIfInBounds_toArray, List.set_cons_succ, List.set_cons_zero]
    rintro w5 ⟨-, rfl⟩
    clear hne
    have hcl := HCL.out; rw [show n + 1 - n = 1 by omega] at hcl
    obtain ⟨W1, hW1⟩ : ∃ W1, w.drew.setCells g (n * 3) (vT (l.drop (n + 1))) = W1 := ⟨_, rfl⟩
    rw [hW1] at hcl ⊢
    have HW := Lib.hid hW1
    clear hW1
    go_wp2_with fail
    go_ret
    exact ⟨rfl, by rw [HW.out]⟩
  case neg =>
    have HNW : Hid (∀ j u, (vT (l.drop (k + 1)))[j]? = some u → w.drew.cell? ((⟨g, (k + 1) * 3, none⟩ : Addr).add j) = some u) := Lib.hid (fun j u hj => by
      rw [vT_drop, List.getElem?_drop] at hj
      have := HSN.out _ u hj
      rw [addr_off] at this ⊢
      rwa [Nat.zero_add] at this)
    go_wp2_with fail
    refine region_pv (V := fun _ _ => undef) (cs := [6]) (Cv := dlC w g k n cap (vT (l.drop (k + 1)))) 7 (by kernel_rfl) (by kernel_rfl) (by kernel_rfl) rfl ?_
    simp only [List.take_succ_cons, List.take_zero, List.drop_succ_cons, List.drop_zero]
    iterate 2 (refine pv_quiet (by decide) rfl rfl ?_; intro K' hK'; go_big_quiet_op; first | go_big_quiet_on | (refine ⟨_, fun _ => rfl, hK' _ ?_⟩))
    (refine pv_quiet (by decide) rfl rfl ?_; intro K' hK'; go_big_quiet_op; first | go_big_quiet_on | (refine ⟨_, fun _ => rfl, hK' _ ?_⟩))
    iterate 2 (refine pv_quiet (by decide) rfl rfl ?_; intro K' hK'; go_big_quiet_op; first | go_big_quiet_on | (refine ⟨_, fun _ => rfl, hK' _ ?_⟩))
    (refine pv_quiet (by decide) rfl rfl ?_; intro K' hK'; go_big_quiet_op; first | go_big_quiet_on | (refine ⟨_, fun _ => rfl, hK' _ ?_⟩))
    refine pv_made rfl rfl (fun w' hw' => ?_) ?_
    · obtain rfl : w' = w.drew := hw'
      exact ⟨.slice (some ⟨g, 0, none⟩) n cap, w.drew.setCells g (k * 3) (vT (l.drop (k + 1))), ap_exec rfl rfl rfl (HAP.out _ ⟨g, (k + 1) * 3, none⟩ (n - k) (cap - (k + 1)) (by omega) HNW.out), rfl, rfl⟩
    rintro v ⟨wq, hq1, -⟩
    subst hq1
    simp only [Act.put, List.setIfInBounds_toArray, List.set_cons_succ, List.set_cons_zero]
    rintro w5 ⟨-, rfl⟩
    clear hne
    have hcl := HCL.out
    obtain ⟨W1, hW1⟩ : ∃ W1, w.drew.setCells g (k * 3) (vT (l.drop (k + 1))) = W1 := ⟨_, rfl⟩
    rw [hW1] at hcl ⊢
    have HW := Lib.hid hW1
    clear hW1
    go_wp2_with fail
    go_ret
    exact ⟨rfl, by rw [HW.out]⟩
end Go.Proofs.Ytakbpgljbbkmkaa

/- The walk of Open, the good case. -/
namespace Go.Proofs.Ytakbpgljbbkmkaa
open Go.RowKit

theorem setCells_same (g : Nat) : ∀ (vs : List Value) (o : Nat) (w : World), (w.setCells g o vs).os = w.os ∧ (w.setCells g o vs).tape = w.tape ∧ (w.setCells g o vs).output = w.output ∧ (w.setCells g o vs).heap.size = w.heap.size
  | [], _, _ => ⟨rfl, rfl, rfl, rfl⟩
  | v :: r, o, w => by
    unfold World.setCells
    obtain ⟨h1, h2, h3, h4⟩ := setCells_same g r (o + 1) (w.setCell ⟨g, o, none⟩ v)
    exact ⟨h1, h2, h3, h4.trans (by simp)⟩
theorem setCells_other (g : Nat) {k : Nat} (hk : k ≠ g) : ∀ (vs : List Value) (o : Nat) (w : World), (w.setCells g o vs).heap[k]? = w.heap[k]?
  | [], _, _ => rfl
  | v :: r, o, w => by
    unfold World.setCells
    rw [setCells_other g hk r (o + 1), heap_setCell_other w ⟨g, o, none⟩ k v hk]
theorem del_grown (w : World) (g o1 o2 : Nat) (v1 v2 : List Value) : w.grownBy ((w.drew.setCells g o1 v1).setCells g o2 v2) (some g) := by
  obtain ⟨a1, a2, a3, a4⟩ := setCells_same g v2 o2 (w.drew.setCells g o1 v1)
  obtain ⟨b1, b2, b3, b4⟩ := setCells_same g v1 o1 w.drew
  refine ⟨a1.trans b1, a2.trans b2, a3.trans b3, ?_, fun i _ hn => ?_⟩
  · rw [a4, b4]; exact Nat.le_refl _
  · have hk : i ≠ g := fun e => hn (by rw [e])
    rw [setCells_other g hk, setCells_other g hk]
    rfl
theorem wdelete2 (l : List Fo.T3) (k n N cap g base : Nat) (hN : N = n + 1) (hk : k ≤ n) (hn : n ≤ 1000) (w : World) (hO : w.ownsRow base 32 3 (.slice (some ⟨g, 0, none⟩) N cap) N (vT l)) :
    Calls Try.prog 51 #[.slice (some ⟨g, 0, none⟩) N cap, .int .i64 (k : Int), .int .i64 ((k : Int) + 1)] w fun e w' => e = .returned (.slice (some ⟨g, 0, none⟩) n cap) ∧ w.grownBy w' (some g) ∧ w'.ownsRow base 32 3 (.slice (some ⟨g, 0, none⟩) n cap) n (vT (l.eraseIdx k)) := by
  subst hN
  refine (wdelete_is l k n cap g base hk hn w hO).mono ?_
  rintro e w' ⟨rfl, rfl⟩
  exact ⟨rfl, del_grown _ _ _ _ _ _, own_del _ hO hk⟩
set_option maxRecDepth 100000 in
set_option maxHeartbeats 6400000 in
theorem wOpen_ok (h : FH) (f : Fo.Fm) (c : Fo.T3) (k : Nat) (V0 : Fo.Val f) (hk : Fo.cix f.cs c = (k : Int)) (hN : Nils h) (hwf : ∀ c ∈ f.cs, Fo.wf3 c) (w : World) (hS : SlF w h f) :
    Calls Try.prog 21 #[.agg #[.int .i64 h.n, .slice h.R h.rl h.rc, .slice h.E h.el h.ec, .int .i64 h.ja, .int .i64 h.jt, .int .i64 h.jf, .slice h.C h.cl h.cc], .agg #[.int .i64 c.a, .int .i64 c.b, .int .i64 c.c]] w fun y w' => Below w.heap.size w w' ∧ ∃ h' : FH, y = .returned (.tuple #[.agg #[.int .i64 h'.n, .slice h'.R h'.rl h'.rc, .slice h'.E h'.el h'.ec, .int .i64 h'.ja, .int .i64 h'.jt, .int .i64 h'.jf, .slice h'.C h'.cl h'.cc], .int .i64 0]) ∧ FormW {f with cs := f.cs.eraseIdx k} h' w' := by
    have HV := Lib.hid V0; have HWF := Lib.hid hwf; have HSS := Lib.hid hS; have HNN := Lib.hid hN
    have HM := Lib.hid (show h.cl ≤ 100 by have := V0.cl; have := hS.cl; omega)
    have HRL := Lib.hid (show h.rl ≤ 100 by have := V0.rl; have := hS.rl; omega)
    have HEL := Lib.hid (show h.el ≤ 100 by have := V0.el; have := hS.el; omega)
    have hkl : k < h.cl := by have := Fo.cix_lt f.cs c; rw [hk, hS.cl] at this; omega
    obtain ⟨n, hn⟩ : ∃ n, h.cl = n + 1 := ⟨h.cl - 1, by omega⟩
    have HNE := Lib.hid hn
    have HKN : Hid (k ≤ n ∧ n ≤ 100) := Lib.hid (by have := HM.out; omega)
    have hkm : k ≤ 100 := by have := HM.out; omega
    have HR := Lib.hid hk
    clear hS V0 hwf hk hN hn
    go_enter Try.func21, Try.ntmps21
    go_wp2_with fail
    have Q := ((FV.new w h).alloc (.cells #[.int .i64 c.a, .int .i64 c.b, .int .i64 c.c] 32)).alloc (.cells #[.int .i64 0, .slice none 0 0, .slice none 0 0, .int .i64 0, .int .i64 0, .int .i64 0, .slice none 0 0] 28)
    have T := (TB.new (w.alloc (.cells #[.int .i64 h.n, .slice h.R h.rl h.rc, .slice h.E h.el h.ec, .int .i64 h.ja, .int .i64 h.jt, .int .i64 h.jf, .slice h.C h.cl h.cc] 28)) c 32).alloc (.cells #[.int .i64 0, .slice none 0 0, .slice none 0 0, .int .i64 0, .int .i64 0, .int .i64 0, .slice none 0 0] 28)
    have V := FV.zero ((w.alloc (.cells #[.int .i64 h.n, .slice h.R h.rl h.rc, .slice h.E h.el h.ec, .int .i64 h.ja, .int .i64 h.jt, .int .i64 h.jf, .slice h.C h.cl h.cc] 28)).alloc (.cells #[.int .i64 c.a, .int .i64 c.b, .int .i64 c.c] 32))
    have B := (((Below.refl w.heap.size w).alloc (Nat.le_refl _) (.cells #[.int .i64 h.n, .slice h.R h.rl h.rc, .slice h.E h.el h.ec, .int .i64 h.ja, .int .i64 h.jt, .int .i64 h.jf, .slice h.C h.cl h.cc] 28)).alloc (by simp) (.cells #[.int .i64 c.a, .int .i64 c.b, .int .i64 c.c] 32)).alloc (by simp <;> omega) (.cells #[.int .i64 0, .slice none 0 0, .slice none 0 0, .int .i64 0, .int .i64 0, .int .i64 0, .slice none 0 0] 28)
    rw [World.size_alloc] at T
    rw [World.size_alloc, World.size_alloc] at V
    refine (wValid_is h f true ⟨fun _ => HV.out, fun _ => rfl⟩ HWF.out _ (((HSS.out.alloc _).alloc _).alloc _)).mono ?_; rintro e w1 ⟨rfl, hb⟩
    replace V := V.below hb; replace Q := Q.below hb; replace T := T.below hb; replace B := B.trans (hb.mono B.size)
    clear hb
    have Qq := Q.at_; have q0 := Qq.c0; have q1 := Qq.c1; have q2 := Qq.c2; have q3 := Qq.c3; have q4 := Qq.c4; have q5 := Qq.c5; have q6 := Qq.c6; have ql := Qq.lt; have k6 := Q.f 6
    have t0 := T.c0; have t1 := T.c1; have t2 := T.c2; have tl := T.lt
    have Vv := V.at_; have v0 := Vv.c0; have v1 := Vv.c1; have v2 := Vv.c2; have v3 := Vv.c3; have v4 := Vv.c4; have v5 := Vv.c5; have v6 := Vv.c6; have vl := Vv.lt; have g0 := V.f 0; have g1 := V.f 1; have g2 := V.f 2; have g3 := V.f 3; have g4 := V.f 4; have g5 := V.f 5; have g6 := V.f 6
    clear Qq Vv
    go_wp2_with fail
    clear q0 q1 q2 q3 q4 q5 q6 ql k6 t0 t1 t2 tl v0 v1 v2 v3 v4 v5 v6 vl g0 g1 g2 g3 g4 g5 g6
    refine (windex_is f.cs c (k : Int) _ _ _ HR.out HSS.out.cl (Nat.le_trans HM.out (by decide)) _ (HSS.out.sc.below B)).mono ?_; rintro e w2 ⟨rfl, hb⟩
    replace V := V.below hb; replace Q := Q.below hb; replace T := T.below hb; replace B := B.trans (hb.mono B.size)
    clear hb
    have hk0 : ¬ (k : Int) < 0 := by omega
    have Qq := Q.at_; have q0 := Qq.c0; have q1 := Qq.c1; have q2 := Qq.c2; have q3 := Qq.c3; have q4 := Qq.c4; have q5 := Qq.c5; have q6 := Qq.c6; have ql := Qq.lt; have k6 := Q.f 6
    have t0 := T.c0; have t1 := T.c1; have t2 := T.c2; have tl := T.lt
    have Vv := V.at_; have v0 := Vv.c0; have v1 := Vv.c1; have v2 := Vv.c2; have v3 := Vv.c3; have v4 := Vv.c4; have v5 := Vv.c5; have v6 := Vv.c6; have vl := Vv.lt; have g0 := V.f 0; have g1 := V.f 1; have g2 := V.f 2; have g3 := V.f 3; have g4 := V.f 4; have g5 := V.f 5; have g6 := V.f 6
    clear Qq Vv
    go_wp2_with fail
    clear q0 q1 q2 q3 q4 q5 q6 ql k6 t0 t1 t2 tl v0 v1 v2 v3 v4 v5 v6 vl g0 g1 g2 g3 g4 g5 g6
    refine (wclone_is h f HRL.out HEL.out HM.out HNN.out _ (HSS.out.below B)).mono ?_; rintro e w3 ⟨hb, R', E', C', rc', ec', cc', rfl, OF⟩
    have hl3 := V.at_.lt
    have hb4 := hb.size
    replace V := (V.below hb).fw; replace Q := (Q.below hb).fw; replace B := B.trans (hb.mono B.size)
    clear hb T
    obtain ⟨-, OR, OE, OC⟩ := OF
    dsimp only at OR OE OC
    obtain ⟨g, rfl, hg0, hg1⟩ := own_openT OC (by omega)
    have OR7 := own_putF OR (own_far OR (show w.heap.size < w2.heap.size by omega)) {h with R := R', rc := rc', E := E', ec := ec', C := some ⟨g, 0, none⟩, cc := cc'}
    have OE7 := own_putF OE (own_far OE (show w.heap.size < w2.heap.size by omega)) {h with R := R', rc := rc', E := E', ec := ec', C := some ⟨g, 0, none⟩, cc := cc'}
    have OC7 := own_putF OC (own_far OC (show w.heap.size < w2.heap.size by omega)) {h with R := R', rc := rc', E := E', ec := ec', C := some ⟨g, 0, none⟩, cc := cc'}
    have Q7 := Q.put {h with R := R', rc := rc', E := E', ec := ec', C := some ⟨g, 0, none⟩, cc := cc'}
    have V7 := V.putO (c := w.heap.size) (by omega) {h with R := R', rc := rc', E := E', ec := ec', C := some ⟨g, 0, none⟩, cc := cc'}
    have B7 := putF_below B (Nat.le_refl w.heap.size) {h with R := R', rc := rc', E := E', ec := ec', C := some ⟨g, 0, none⟩, cc := cc'}
    clear OR OE OC B
    have q0 := Q.a.c0; have q1 := Q.a.c1; have q2 := Q.a.c2; have q3 := Q.a.c3; have q4 := Q.a.c4; have q5 := Q.a.c5; have q6 := Q.a.c6; have ql := Q.a.lt; have k0 := Q.f 0; have k1 := Q.f 1; have k2 := Q.f 2; have k3 := Q.f 3; have k4 := Q.f 4; have k5 := Q.f 5; have k6 := Q.f 6; (try dsimp only at q0 q1 q2 q3 q4 q5 q6)
    have v0 := V.a.c0; have v1 := V.a.c1; have v2 := V.a.c2; have v3 := V.a.c3; have v4 := V.a.c4; have v5 := V.a.c5; have v6 := V.a.c6; have vl := V.a.lt; have g0 := V.f 0; have g1 := V.f 1; have g2 := V.f 2; have g3 := V.f 3; have g4 := V.f 4; have g5 := V.f 5; have g6 := V.f 6; (try dsimp only at v0 v1 v2 v3 v4 v5 v6)
    go_wp2_with fail
    clear q0 q1 q2 q3 q4 q5 q6 ql k0 k1 k2 k3 k4 k5 k6 v0 v1 v2 v3 v4 v5 v6 vl g0 g1 g2 g3 g4 g5 g6
    clear Q V
    obtain ⟨X, hX⟩ : ∃ X, putF w3 w.heap.size {h with R := R', rc := rc', E := E', ec := ec', C := some ⟨g, 0, none⟩, cc := cc'} = X := ⟨_, rfl⟩
    rw [hX] at OR7 OE7 OC7 Q7 V7 B7
    dsimp only [putF] at hX
    rw [hX]
    clear hX
    refine (wdelete2 f.cs k n h.cl cc' g w2.heap.size HNE.out HKN.out.1 (by have := HKN.out; omega) _ OC7).mono ?_; rintro e w5 ⟨rfl, hgr, ho5⟩
    have Q := Q7.grown hgr (by intro e8; have := Option.some.inj e8; omega)
    have V := V7.grown hgr (by intro e8; have := Option.some.inj e8; omega)
    have hOR := OR7.kept hgr (own_apart OR7 OC7 (by decide))
    have hOE := OE7.kept hgr (own_apart OE7 OC7 (by decide))
    have B := B7.grown hgr B7.size (fun j hj => by have := Option.some.inj hj; omega)
    clear hgr OR7 OE7 OC7 Q7 V7 B7
    have q0 := Q.a.c0; have q1 := Q.a.c1; have q2 := Q.a.c2; have q3 := Q.a.c3; have q4 := Q.a.c4; have q5 := Q.a.c5; have q6 := Q.a.c6; have ql := Q.a.lt; have k0 := Q.f 0; have k1 := Q.f 1; have k2 := Q.f 2; have k3 := Q.f 3; have k4 := Q.f 4; have k5 := Q.f 5; have k6 := Q.f 6; (try dsimp only at q0 q1 q2 q3 q4 q5 q6)
    have v0 := V.a.c0; have v1 := V.a.c1; have v2 := V.a.c2; have v3 := V.a.c3; have v4 := V.a.c4; have v5 := V.a.c5; have v6 := V.a.c6; have vl := V.a.lt; have g0 := V.f 0; have g1 := V.f 1; have g2 := V.f 2; have g3 := V.f 3; have g4 := V.f 4; have g5 := V.f 5; have g6 := V.f 6; (try dsimp only at v0 v1 v2 v3 v4 v5 v6)
    go_wp2_with fail
    have V8 := (V.other (c := w.heap.size) (k := 6) (by omega) (.slice (some ⟨g, 0, none⟩) n cc')).put {h with R := R', rc := rc', E := E', ec := ec', C := some ⟨g, 0, none⟩, cl := n, cc := cc'}
    have hB2 := putF_below (B.setCell (p := ⟨w.heap.size, 6, none⟩) (Nat.le_refl _) (.slice (some ⟨g, 0, none⟩) n cc')) (show w.heap.size ≤ w.heap.size + 1 + 1 by omega) {h with R := R', rc := rc', E := E', ec := ec', C := some ⟨g, 0, none⟩, cl := n, cc := cc'}
    have pO : ∀ {ET : TypeId} {v : Value} {n9 : Nat} {xs : List Value}, w5.ownsRow w2.heap.size ET 3 v n9 xs → (putF (w5.setCell ⟨w.heap.size, 6, none⟩ (.slice (some ⟨g, 0, none⟩) n cc')) (w.heap.size + 1 + 1) {h with R := R', rc := rc', E := E', ec := ec', C := some ⟨g, 0, none⟩, cl := n, cc := cc'}).ownsRow w2.heap.size ET 3 v n9 xs := fun {ET v n9 xs} ho =>
      own_putF (own_setS ho (own_far ho (by omega)) 6 _) (own_far ho (by omega)) {h with R := R', rc := rc', E := E', ec := ec', C := some ⟨g, 0, none⟩, cl := n, cc := cc'}
    have hOR8 := pO hOR; have hOE8 := pO hOE; have hOC8 := pO ho5
    clear hOR hOE ho5 pO
    show bodyPost _ _ _ _ _ (putF (w5.setCell ⟨w.heap.size, 6, none⟩ (.slice (some ⟨g, 0, none⟩) n cc')) (w.heap.size + 1 + 1) {h with R := R', rc := rc', E := E', ec := ec', C := some ⟨g, 0, none⟩, cl := n, cc := cc'})
    obtain ⟨wz, hz⟩ : ∃ wz, putF (w5.setCell ⟨w.heap.size, 6, none⟩ (.slice (some ⟨g, 0, none⟩) n cc')) (w.heap.size + 1 + 1) {h with R := R', rc := rc', E := E', ec := ec', C := some ⟨g, 0, none⟩, cl := n, cc := cc'} = wz := ⟨_, rfl⟩
    rw [hz] at V8 hB2 hOR8 hOE8 hOC8 ⊢
    obtain ⟨-, p0, p1, p2, p3, p4, p5, p6⟩ := V8.a
    dsimp only at p0 p1 p2 p3 p4 p5 p6
    obtain ⟨-, _, _, e1, s1, n1⟩ := own_T hOR8
    cases e1
    obtain ⟨-, _, _, e2, s2, n2⟩ := own_T hOE8
    cases e2
    obtain ⟨hl6, _, _, e3, s3, n3⟩ := own_T hOC8
    cases e3
    obtain ⟨_, _, hn6, _⟩ := own_row hOC8
    refine bodyPost_ret (v := .tuple #[.agg #[.int .i64 h.n, .slice R' h.rl rc', .slice E' h.el ec', .int .i64 h.ja, .int .i64 h.jt, .int .i64 h.jf, .slice (some ⟨g, 0, none⟩) n cc'], .int .i64 0]) (by simp [results, Try.results21, p0, p1, p2, p3, p4, p5, p6, go_sem]) rfl ⟨hB2, {h with R := R', rc := rc', E := E', ec := ec', C := some ⟨g, 0, none⟩, cl := n, cc := cc'}, rfl, ⟨⟨HSS.out.n, HSS.out.ja, HSS.out.jt, HSS.out.jf, HSS.out.rl, HSS.out.el, hl6, s1, s2, s3⟩, hn6, ⟨n1, n2, n3⟩⟩⟩
end Go.Proofs.Ytakbpgljbbkmkaa

/- Where the slices of an answer lie: with the argument's, or in memory of the call's own. -/
namespace Go.Proofs.Ytakbpgljbbkmkaa
open Go.RowKit

def LowA (n0 : Nat) (A : Option Addr) (l : List Fo.T3) : Prop := 0 < l.length → ∀ a, A = some a → a.block < n0
def SepA (n0 n1 : Nat) (A : Option Addr) (l : List Fo.T3) : Prop := 0 < l.length → ∀ a, A = some a → a.block < n0 ∨ n1 ≤ a.block
def LowF (n0 : Nat) (h : FH) (f : Fo.Fm) : Prop := LowA n0 h.R f.rs ∧ LowA n0 h.E f.es ∧ LowA n0 h.C f.cs
def SepF (n0 n1 : Nat) (h : FH) (f : Fo.Fm) : Prop := SepA n0 n1 h.R f.rs ∧ SepA n0 n1 h.E f.es ∧ SepA n0 n1 h.C f.cs
theorem LowA.sep {n0 n1 : Nat} {A : Option Addr} {l : List Fo.T3} (h : LowA n0 A l) : SepA n0 n1 A l := fun h0 a ha => .inl (h h0 a ha)
theorem SlT.low {w : World} {A : Option Addr} {l : List Fo.T3} (h : SlT w A l) : LowA w.heap.size A l := fun h0 a ha => by
  obtain ⟨b, off, e, hb, _⟩ := h h0
  rw [e] at ha
  cases ha
  exact hb
theorem SlF.low {w : World} {h : FH} {f : Fo.Fm} (s : SlF w h f) : LowF w.heap.size h f := ⟨s.sr.low, s.se.low, s.sc.low⟩
theorem own_sep {w : World} {base n0 n1 n s : Nat} {e : TypeId} {A : Option Addr} {c m : Nat} {xs : List Value} {l : List Fo.T3} (h : w.ownsRow base e s (.slice A n c) m xs) (hb : n1 ≤ base) : SepA n0 n1 A l := fun _ a ha => by
  subst ha
  rcases h.2 with ⟨e1, _⟩ | ⟨g, cap, cur, e1, h1, _⟩
  · cases e1
  · injection e1 with e1
    cases e1
    exact .inr (Nat.le_trans hb h1)
theorem sep_zero (n0 n1 : Nat) (f : Fo.Fm) : SepF n0 n1 .zero f := ⟨fun _ _ h => (by cases h), fun _ _ h => (by cases h), fun _ _ h => (by cases h)⟩
theorem putF_other (w : World) (b : Nat) (t : FH) (k : Nat) (h : k ≠ b) : (putF w b t).heap[k]? = w.heap[k]? := by
  unfold putF
  rw [heap_setCell_other _ ⟨b, 6, none⟩ k _ h, heap_setCell_other _ ⟨b, 5, none⟩ k _ h, heap_setCell_other _ ⟨b, 4, none⟩ k _ h, heap_setCell_other _ ⟨b, 3, none⟩ k _ h, heap_setCell_other _ ⟨b, 2, none⟩ k _ h, heap_setCell_other _ ⟨b, 1, none⟩ k _ h, heap_setCell_other _ ⟨b, 0, none⟩ k _ h]
theorem TAt.same {w w' : World} {b o : Nat} {x : Fo.T3} (h : TAt w b o x) (e : w'.heap[b]? = w.heap[b]?) : TAt w' b o x :=
  ⟨(World.cell?_of_block (w := w) (a := ⟨b, _, none⟩) e).trans h.c0, (World.cell?_of_block (w := w) (a := ⟨b, _, none⟩) e).trans h.c1, (World.cell?_of_block (w := w) (a := ⟨b, _, none⟩) e).trans h.c2⟩
theorem SlT.putF {w : World} {A : Option Addr} {l : List Fo.T3} {n0 n1 b : Nat} (h : SlT w A l) (hs : SepA n0 n1 A l) (h0 : n0 ≤ b) (h1 : b < n1) (t : FH) : SlT (putF w b t) A l := fun hl => by
  obtain ⟨g, off, e, hg, hc⟩ := h hl
  have hne : g ≠ b := by
    have := hs hl _ e
    dsimp only at this
    omega
  exact ⟨g, off, e, by rw [putF_size]; exact hg, fun k hk => (hc k hk).same (putF_other _ _ _ _ hne)⟩
theorem SlF.putF {w : World} {h : FH} {f : Fo.Fm} {n0 n1 b : Nat} (s : SlF w h f) (hs : SepF n0 n1 h f) (h0 : n0 ≤ b) (h1 : b < n1) (t : FH) : SlF (putF w b t) h f :=
  ⟨s.n, s.ja, s.jt, s.jf, s.rl, s.el, s.cl, s.sr.putF hs.1 h0 h1 t, s.se.putF hs.2.1 h0 h1 t, s.sc.putF hs.2.2 h0 h1 t⟩
theorem FB.putO {w : World} {b c : Nat} {h : FH} (s : FB w b h) (hn : b ≠ c) (t : FH) : FB (putF w c t) b h := s.sameB (Nat.le_of_eq (putF_size ..).symm) (putF_other _ _ _ _ hn)
end Go.Proofs.Ytakbpgljbbkmkaa
