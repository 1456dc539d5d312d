/- The walk of the laws' head: the chapter's example. -/
import Derived.Test.YtakbpgljbbkmkaaHb
namespace Go.Proofs.Ytakbpgljbbkmkaa
open Go.RowKit

theorem own_Vx {w : World} {base : Nat} {v : Value} {l : List Fo.V2} {n : Nat} (h : w.ownsRow base 30 2 v l.length (vV l)) (hl : l.length = n) (h0 : 0 < n) : ∃ g cap, v = .slice (some ⟨g, 0, none⟩) n cap ∧ w.ownsRow base 30 2 (.slice (some ⟨g, 0, none⟩) n cap) n (vV l) := by
  subst hl
  rcases h.2 with ⟨_, h1⟩ | ⟨g, cap, cur, hv, _⟩
  · omega
  · exact ⟨g, cap, hv, by rw [← hv]; exact h⟩
theorem own_Vs {w : World} {base : Nat} {A : Option Addr} {l : List Fo.V2} {n cap : Nat} (h : w.ownsRow base 30 2 (.slice A n cap) n (vV l)) : SlV w A l := by
  obtain ⟨-, _, _, e, hs, -⟩ := own_V h
  cases e
  exact hs
theorem own_Ks {w : World} {base : Nat} {v : Value} {l : List Int} {n : Nat} (h : w.ownsRow base 3 1 v n (vK .i64 l)) : ∃ A cap, v = .slice A n cap ∧ SlK .i64 w A l := by
  obtain ⟨-, A, c, e, hs⟩ := own_k h
  exact ⟨A, c, e, hs⟩
theorem exCut_ok : Fo.okC 8 exCut := by unfold Fo.okC exCut; decide
theorem SlF.toJ {w : World} {b : Nat} (s : SlF w (⟨8, some ⟨b, 0, none⟩, 1, 1, some ⟨b + 1, 0, none⟩, 2, 2, 0, 0, 0, none, 0, 0⟩ : FH) exF) : SlF w (⟨8, some ⟨b, 0, none⟩, 1, 1, some ⟨b + 1, 0, none⟩, 2, 2, 8, 0, 2, none, 0, 0⟩ : FH) exJ := ⟨rfl, rfl, rfl, rfl, rfl, rfl, rfl, s.sr, s.se, SlT.nil _ _⟩
set_option maxRecDepth 100000 in
set_option maxHeartbeats 25600000 in
theorem head_any (w : World) :
    Calls Try.prog 9 #[] w fun e w' => e = .returned (.bool true) ∧ Below w.heap.size w w' := by
  go_enter Try.func9, Try.ntmps9
  go_wp2_with fail
  refine (lexample_is _).mono ?_; rintro e w1 ⟨hb, b, rfl, S1⟩
  have BW := Lib.hid hb
  have HS1 := Lib.hid S1
  have Q : FW (w1.alloc (.cells #[.int .i64 8, .slice (some ⟨b, 0, none⟩) 1 1, .slice (some ⟨b + 1, 0, none⟩) 2 2, .int .i64 0, .int .i64 0, .int .i64 0, .slice none 0 0] 28)) w1.heap.size (⟨8, some ⟨b, 0, none⟩, 1, 1, some ⟨b + 1, 0, none⟩, 2, 2, 0, 0, 0, none, 0, 0⟩ : FH) := (FV.new w1 (⟨8, some ⟨b, 0, none⟩, 1, 1, some ⟨b + 1, 0, none⟩, 2, 2, 0, 0, 0, none, 0, 0⟩ : FH)).fw
  have BX := (Below.refl w1.heap.size w1).alloc (Nat.le_refl _) (.cells #[.int .i64 8, .slice (some ⟨b, 0, none⟩) 1 1, .slice (some ⟨b + 1, 0, none⟩) 2 2, .int .i64 0, .int .i64 0, .int .i64 0, .slice none 0 0] 28)
  clear hb S1
  go_wp2_with fail
  obtain ⟨X1, hX1⟩ : ∃ X1, w1.alloc (.cells #[.int .i64 8, .slice (some ⟨b, 0, none⟩) 1 1, .slice (some ⟨b + 1, 0, none⟩) 2 2, .int .i64 0, .int .i64 0, .int .i64 0, .slice none 0 0] 28) = X1 := ⟨_, rfl⟩
  rw [hX1] at Q BX
  rw [hX1]
  clear hX1
  refine (wUnfold_is (⟨8, some ⟨b, 0, none⟩, 1, 1, some ⟨b + 1, 0, none⟩, 2, 2, 0, 0, 0, none, 0, 0⟩ : FH) exF exF_val exF_wf _ (HS1.out.below BX)).mono ?_; rintro e w2 ⟨hb, v1, rfl, O1⟩
  rw [exF_unf] at O1
  obtain ⟨ga, ca, rfl, O1⟩ := own_Vx O1 (n := 10) rfl (by omega)
  have hO1 := own_far O1 Q.a.lt
  replace O1 := own_lessK O1 (Nat.le_of_lt Q.a.lt)
  replace Q := Q.below hb
  replace BX := BX.trans (hb.mono BX.size)
  clear hb
  have f3 := Q.f 3; have f4 := Q.f 4; have f5 := Q.f 5
  have q0 := Q.a.c0; have q1 := Q.a.c1; have q2 := Q.a.c2; have q3 := Q.a.c3; have q4 := Q.a.c4; have q5 := Q.a.c5; have q6 := Q.a.c6; have ql := Q.a.lt; (try dsimp only at q0 q1 q2 q3 q4 q5 q6)
  go_wp2_with fail
  clear q0 q1 q2 q3 q4 q5 q6 ql
  clear f3 f4 f5
  replace O1 := own_setS (own_setS (own_setS O1 hO1 3 (.int .i64 8)) hO1 4 (.int .i64 0)) hO1 5 (.int .i64 2)
  replace Q := Q.jump 8 0 2
  replace BX := ((BX.setCell (p := ⟨w1.heap.size, 3, none⟩) (Nat.le_refl _) (.int .i64 8)).setCell (p := ⟨w1.heap.size, 4, none⟩) (Nat.le_refl _) (.int .i64 0)).setCell (p := ⟨w1.heap.size, 5, none⟩) (Nat.le_refl _) (.int .i64 2)
  obtain ⟨X2, hX2⟩ : ∃ X2, ((w2.setCell ⟨w1.heap.size, 3, none⟩ (.int .i64 8)).setCell ⟨w1.heap.size, 4, none⟩ (.int .i64 0)).setCell ⟨w1.heap.size, 5, none⟩ (.int .i64 2) = X2 := ⟨_, rfl⟩
  rw [hX2] at Q BX O1
  rw [hX2]
  clear hX2 hO1
  refine (wUnfold_is (⟨8, some ⟨b, 0, none⟩, 1, 1, some ⟨b + 1, 0, none⟩, 2, 2, 8, 0, 2, none, 0, 0⟩ : FH) exJ exJ_val exJ_wf _ (HS1.out.below BX).toJ).mono ?_; rintro e w3 ⟨hb, v2, rfl, O2⟩
  rw [exJ_unf] at O2
  obtain ⟨gb, cb, rfl, O2⟩ := own_Vx O2 (n := 12) rfl (by omega)
  replace O2 := own_lessK O2 BX.size
  replace Q := Q.below hb
  replace O1 := O1.kept (below_grown hb none) none_ne
  replace BX := BX.trans (hb.mono BX.size)
  clear hb
  have q0 := Q.a.c0; have q1 := Q.a.c1; have q2 := Q.a.c2; have q3 := Q.a.c3; have q4 := Q.a.c4; have q5 := Q.a.c5; have q6 := Q.a.c6; have ql := Q.a.lt; (try dsimp only at q0 q1 q2 q3 q4 q5 q6)
  go_wp2_with fail
  clear q0 q1 q2 q3 q4 q5 q6 ql
  refine (wCut_ok (⟨8, some ⟨b, 0, none⟩, 1, 1, some ⟨b + 1, 0, none⟩, 2, 2, 8, 0, 2, none, 0, 0⟩ : FH) exJ exCut exJ_val exCut_ok (by decide) (by show (0 : Nat) < 100; omega) ⟨fun h => (by cases h), fun h => (by cases h), fun _ => rfl⟩ exJ_wf _ (HS1.out.below BX).toJ).mono ?_; rintro e w4 ⟨hb, h', rfl, FS⟩
  replace Q := Q.below hb
  replace O1 := O1.kept (below_grown hb none) none_ne; replace O2 := O2.kept (below_grown hb none) none_ne
  replace BX := BX.trans (hb.mono BX.size)
  clear hb
  have HFS := Lib.hid FS
  have HN4 : Hid (w1.heap.size ≤ w4.heap.size) := Lib.hid BX.size
  clear FS
  have G : FW (w4.alloc (.cells #[.int .i64 h'.n, .slice h'.R h'.rl h'.rc, .slice h'.E h'.el h'.ec, .int .i64 h'.ja, .int .i64 h'.jt, .int .i64 h'.jf, .slice h'.C h'.cl h'.cc] 28)) w4.heap.size h' := (FV.new w4 h').fw
  have BC := (Below.refl w4.heap.size w4).alloc (Nat.le_refl _) (.cells #[.int .i64 h'.n, .slice h'.R h'.rl h'.rc, .slice h'.E h'.el h'.ec, .int .i64 h'.ja, .int .i64 h'.jt, .int .i64 h'.jf, .slice h'.C h'.cl h'.cc] 28)
  go_wp2_with fail
  obtain ⟨X4, hX4⟩ : ∃ X4, w4.alloc (.cells #[.int .i64 h'.n, .slice h'.R h'.rl h'.rc, .slice h'.E h'.el h'.ec, .int .i64 h'.ja, .int .i64 h'.jt, .int .i64 h'.jf, .slice h'.C h'.cl h'.cc] 28) = X4 := ⟨_, rfl⟩
  have Q4 := Q.alloc (.cells #[.int .i64 h'.n, .slice h'.R h'.rl h'.rc, .slice h'.E h'.el h'.ec, .int .i64 h'.ja, .int .i64 h'.jt, .int .i64 h'.jf, .slice h'.C h'.cl h'.cc] 28)
  have O14 := O1.alloc (.cells #[.int .i64 h'.n, .slice h'.R h'.rl h'.rc, .slice h'.E h'.el h'.ec, .int .i64 h'.ja, .int .i64 h'.jt, .int .i64 h'.jf, .slice h'.C h'.cl h'.cc] 28)
  have O24 := O2.alloc (.cells #[.int .i64 h'.n, .slice h'.R h'.rl h'.rc, .slice h'.E h'.el h'.ec, .int .i64 h'.ja, .int .i64 h'.jt, .int .i64 h'.jf, .slice h'.C h'.cl h'.cc] 28)
  rw [hX4] at G BC Q4 O14 O24
  rw [hX4]
  clear hX4 Q O1 O2
  refine (wUnfold_is h' exC exC_val exC_wf _ (HFS.out.s.below BC)).mono ?_; rintro e w5 ⟨hb, v3, rfl, O3⟩
  rw [exC_unf] at O3
  obtain ⟨gc, cc, rfl, O3⟩ := own_Vx O3 (n := 10) rfl (by omega)
  replace O3 := own_lessK O3 (Nat.le_trans HN4.out BC.size)
  have Q := Q4.below hb; replace G := G.below hb
  have O1 := O14.kept (below_grown hb none) none_ne; have O2 := O24.kept (below_grown hb none) none_ne
  replace BC := BC.trans (hb.mono BC.size)
  clear hb Q4 O14 O24
  have g0 := G.a.c0; have g1 := G.a.c1; have g2 := G.a.c2; have g3 := G.a.c3; have g4 := G.a.c4; have g5 := G.a.c5; have g6 := G.a.c6; have gl := G.a.lt
  go_wp2_with fail
  clear g0 g1 g2 g3 g4 g5 g6 gl
  refine (wFind_is h' exC ⟨1, 2⟩ 9 exC_val exC_f1 exC_wf _ (HFS.out.s.below BC)).mono ?_; rintro e w6 ⟨hb, rfl⟩
  replace Q := Q.below hb; replace G := G.below hb
  replace O1 := O1.kept (below_grown hb none) none_ne; replace O2 := O2.kept (below_grown hb none) none_ne; replace O3 := O3.kept (below_grown hb none) none_ne
  replace BC := BC.trans (hb.mono BC.size)
  clear hb
  have g0 := G.a.c0; have g1 := G.a.c1; have g2 := G.a.c2; have g3 := G.a.c3; have g4 := G.a.c4; have g5 := G.a.c5; have g6 := G.a.c6; have gl := G.a.lt
  go_wp2_with fail
  clear g0 g1 g2 g3 g4 g5 g6 gl
  refine (wFind_is h' exC ⟨3, 2⟩ (-1) exC_val exC_f2 exC_wf _ (HFS.out.s.below BC)).mono ?_; rintro e w7 ⟨hb, rfl⟩
  replace Q := Q.below hb; replace G := G.below hb
  replace O1 := O1.kept (below_grown hb none) none_ne; replace O2 := O2.kept (below_grown hb none) none_ne; replace O3 := O3.kept (below_grown hb none) none_ne
  replace BC := BC.trans (hb.mono BC.size)
  clear hb
  have g0 := G.a.c0; have g1 := G.a.c1; have g2 := G.a.c2; have g3 := G.a.c3; have g4 := G.a.c4; have g5 := G.a.c5; have g6 := G.a.c6; have gl := G.a.lt
  go_wp2_with fail
  clear g0 g1 g2 g3 g4 g5 g6 gl
  refine (wCut_five h' exC exCut exC_val (by rw [← HFS.out.s.n]; exact exCut_ok) (by decide) exC_wf _ (HFS.out.s.below BC)).mono ?_; rintro e w8 ⟨hb, hz, rfl, hR⟩
  obtain rfl := hR.no (by decide)
  replace Q := Q.below hb
  replace O1 := O1.kept (below_grown hb none) none_ne; replace O2 := O2.kept (below_grown hb none) none_ne; replace O3 := O3.kept (below_grown hb none) none_ne
  replace BC := BC.trans (hb.mono BC.size)
  clear hb hR G
  dsimp only [FH.zero]
  have q0 := Q.a.c0; have q1 := Q.a.c1; have q2 := Q.a.c2; have q3 := Q.a.c3; have q4 := Q.a.c4; have q5 := Q.a.c5; have q6 := Q.a.c6; have ql := Q.a.lt; (try dsimp only at q0 q1 q2 q3 q4 q5 q6)
  go_wp2_with fail
  clear q0 q1 q2 q3 q4 q5 q6 ql
  replace Q := Q.alloc (.cells #[.int .i64 0, .slice none 0 0, .slice none 0 0, .int .i64 0, .int .i64 0, .int .i64 0, .slice none 0 0] 28); replace O1 := O1.alloc (.cells #[.int .i64 0, .slice none 0 0, .slice none 0 0, .int .i64 0, .int .i64 0, .int .i64 0, .slice none 0 0] 28); replace O2 := O2.alloc (.cells #[.int .i64 0, .slice none 0 0, .slice none 0 0, .int .i64 0, .int .i64 0, .int .i64 0, .slice none 0 0] 28); replace O3 := O3.alloc (.cells #[.int .i64 0, .slice none 0 0, .slice none 0 0, .int .i64 0, .int .i64 0, .int .i64 0, .slice none 0 0] 28)
  replace BC := BC.alloc BC.size (.cells #[.int .i64 0, .slice none 0 0, .slice none 0 0, .int .i64 0, .int .i64 0, .int .i64 0, .slice none 0 0] 28)
  refine (wOpen_four (⟨8, some ⟨b, 0, none⟩, 1, 1, some ⟨b + 1, 0, none⟩, 2, 2, 8, 0, 2, none, 0, 0⟩ : FH) exJ exCut exJ_val (by decide) exJ_wf _ (HS1.out.below (BX.trans (BC.mono HN4.out))).toJ).mono ?_; rintro e w9 ⟨hb, hz, rfl, hR⟩
  obtain rfl := hR.no (by decide)
  replace Q := Q.below hb
  replace O1 := O1.kept (below_grown hb none) none_ne; replace O2 := O2.kept (below_grown hb none) none_ne; replace O3 := O3.kept (below_grown hb none) none_ne
  replace BC := BC.trans (hb.mono BC.size)
  clear hb hR
  dsimp only [FH.zero]
  have q0 := Q.a.c0; have q1 := Q.a.c1; have q2 := Q.a.c2; have q3 := Q.a.c3; have q4 := Q.a.c4; have q5 := Q.a.c5; have q6 := Q.a.c6; have ql := Q.a.lt; (try dsimp only at q0 q1 q2 q3 q4 q5 q6)
  go_wp2_with fail
  clear q0 q1 q2 q3 q4 q5 q6 ql
  replace Q := Q.alloc (.cells #[.int .i64 0, .slice none 0 0, .slice none 0 0, .int .i64 0, .int .i64 0, .int .i64 0, .slice none 0 0] 28); replace O1 := O1.alloc (.cells #[.int .i64 0, .slice none 0 0, .slice none 0 0, .int .i64 0, .int .i64 0, .int .i64 0, .slice none 0 0] 28); replace O2 := O2.alloc (.cells #[.int .i64 0, .slice none 0 0, .slice none 0 0, .int .i64 0, .int .i64 0, .int .i64 0, .slice none 0 0] 28); replace O3 := O3.alloc (.cells #[.int .i64 0, .slice none 0 0, .slice none 0 0, .int .i64 0, .int .i64 0, .int .i64 0, .slice none 0 0] 28)
  replace BC := BC.alloc BC.size (.cells #[.int .i64 0, .slice none 0 0, .slice none 0 0, .int .i64 0, .int .i64 0, .int .i64 0, .slice none 0 0] 28)
  refine (wTimes_four (⟨8, some ⟨b, 0, none⟩, 1, 1, some ⟨b + 1, 0, none⟩, 2, 2, 8, 0, 2, none, 0, 0⟩ : FH) exJ 1 2 exJ_val (by show ¬ ((0 : Int) ≤ 1 ∧ (1 : Int) ≤ ((1 : Nat) : Int) - 1); omega) exJ_wf _ (HS1.out.below (BX.trans (BC.mono HN4.out))).toJ).mono ?_; rintro e w10 ⟨hb, hz, rfl, hR⟩
  obtain rfl := hR.no (by decide)
  replace Q := Q.below hb
  replace O1 := O1.kept (below_grown hb none) none_ne; replace O2 := O2.kept (below_grown hb none) none_ne; replace O3 := O3.kept (below_grown hb none) none_ne
  replace BC := BC.trans (hb.mono BC.size)
  clear hb hR
  dsimp only [FH.zero]
  go_wp2_with fail
  replace Q := Q.alloc (.cells #[.int .i64 0, .slice none 0 0, .slice none 0 0, .int .i64 0, .int .i64 0, .int .i64 0, .slice none 0 0] 28); replace O1 := O1.alloc (.cells #[.int .i64 0, .slice none 0 0, .slice none 0 0, .int .i64 0, .int .i64 0, .int .i64 0, .slice none 0 0] 28); replace O2 := O2.alloc (.cells #[.int .i64 0, .slice none 0 0, .slice none 0 0, .int .i64 0, .int .i64 0, .int .i64 0, .slice none 0 0] 28); replace O3 := O3.alloc (.cells #[.int .i64 0, .slice none 0 0, .slice none 0 0, .int .i64 0, .int .i64 0, .int .i64 0, .slice none 0 0] 28)
  replace BC := BC.alloc BC.size (.cells #[.int .i64 0, .slice none 0 0, .slice none 0 0, .int .i64 0, .int .i64 0, .int .i64 0, .slice none 0 0] 28)
  refine (wUnfold_no .zero _ exZ_no (fun c hc => by cases hc) _ (SlF.zero _)).mono ?_; rintro e w11 ⟨rfl, hb⟩
  replace Q := Q.below hb
  replace O1 := O1.kept (below_grown hb none) none_ne; replace O2 := O2.kept (below_grown hb none) none_ne; replace O3 := O3.kept (below_grown hb none) none_ne
  replace BC := BC.trans (hb.mono BC.size)
  clear hb
  go_wp2_with fail
  refine (lbars_is exU1 10 ca _ rfl (by omega) _ (own_Vs O1)).mono ?_; rintro e w12 ⟨hb, vb1, rfl, K1⟩
  obtain ⟨A1, k1, rfl, KS1⟩ := own_Ks K1
  replace Q := Q.below hb
  replace O1 := O1.kept (below_grown hb none) none_ne; replace O2 := O2.kept (below_grown hb none) none_ne; replace O3 := O3.kept (below_grown hb none) none_ne
  replace BC := BC.trans (hb.mono BC.size)
  clear hb K1
  have KL1 := slk_lit w12 3 [0, 1, 2, 3, 4, 2, 3, 5, 6, 7]
  replace KS1 := KS1.alloc (.cells #[.int .i64 0, .int .i64 1, .int .i64 2, .int .i64 3, .int .i64 4, .int .i64 2, .int .i64 3, .int .i64 5, .int .i64 6, .int .i64 7] 3)
  go_wp2_with fail
  refine (lsame_is (exU1.map fun x => x.b) [0, 1, 2, 3, 4, 2, 3, 5, 6, 7] true 10 k1 10 10 A1 _ ⟨fun _ => by decide, fun _ => rfl⟩ rfl rfl (by omega) _ KS1 KL1).mono ?_; rintro e w13 ⟨rfl, hb⟩
  replace Q := (Q.alloc (.cells #[.int .i64 0, .int .i64 1, .int .i64 2, .int .i64 3, .int .i64 4, .int .i64 2, .int .i64 3, .int .i64 5, .int .i64 6, .int .i64 7] 3)).below hb
  replace O1 := (O1.alloc (.cells #[.int .i64 0, .int .i64 1, .int .i64 2, .int .i64 3, .int .i64 4, .int .i64 2, .int .i64 3, .int .i64 5, .int .i64 6, .int .i64 7] 3)).kept (below_grown hb none) none_ne; replace O2 := (O2.alloc (.cells #[.int .i64 0, .int .i64 1, .int .i64 2, .int .i64 3, .int .i64 4, .int .i64 2, .int .i64 3, .int .i64 5, .int .i64 6, .int .i64 7] 3)).kept (below_grown hb none) none_ne; replace O3 := (O3.alloc (.cells #[.int .i64 0, .int .i64 1, .int .i64 2, .int .i64 3, .int .i64 4, .int .i64 2, .int .i64 3, .int .i64 5, .int .i64 6, .int .i64 7] 3)).kept (below_grown hb none) none_ne
  replace BC := (BC.alloc BC.size (.cells #[.int .i64 0, .int .i64 1, .int .i64 2, .int .i64 3, .int .i64 4, .int .i64 2, .int .i64 3, .int .i64 5, .int .i64 6, .int .i64 7] 3)).trans (hb.mono (by have := BC.size; simp; omega))
  clear hb KS1 KL1
  go_wp2_with fail
  refine (lbars_is exU2 12 cb _ rfl (by omega) _ (own_Vs O2)).mono ?_; rintro e w14 ⟨hb, vb2, rfl, K1⟩
  obtain ⟨A2, k2, rfl, KS1⟩ := own_Ks K1
  replace Q := Q.below hb
  replace O1 := O1.kept (below_grown hb none) none_ne; replace O2 := O2.kept (below_grown hb none) none_ne; replace O3 := O3.kept (below_grown hb none) none_ne
  replace BC := BC.trans (hb.mono BC.size)
  clear hb K1
  have KL1 := slk_lit w14 3 [0, 1, 2, 3, 4, 2, 3, 5, 6, 7, 0, 1]
  replace KS1 := KS1.alloc (.cells #[.int .i64 0, .int .i64 1, .int .i64 2, .int .i64 3, .int .i64 4, .int .i64 2, .int .i64 3, .int .i64 5, .int .i64 6, .int .i64 7, .int .i64 0, .int .i64 1] 3)
  go_wp2_with fail
  refine (lsame_is (exU2.map fun x => x.b) [0, 1, 2, 3, 4, 2, 3, 5, 6, 7, 0, 1] true 12 k2 12 12 A2 _ ⟨fun _ => by decide, fun _ => rfl⟩ rfl rfl (by omega) _ KS1 KL1).mono ?_; rintro e w15 ⟨rfl, hb⟩
  replace Q := (Q.alloc (.cells #[.int .i64 0, .int .i64 1, .int .i64 2, .int .i64 3, .int .i64 4, .int .i64 2, .int .i64 3, .int .i64 5, .int .i64 6, .int .i64 7, .int .i64 0, .int .i64 1] 3)).below hb
  replace O1 := (O1.alloc (.cells #[.int .i64 0, .int .i64 1, .int .i64 2, .int .i64 3, .int .i64 4, .int .i64 2, .int .i64 3, .int .i64 5, .int .i64 6, .int .i64 7, .int .i64 0, .int .i64 1] 3)).kept (below_grown hb none) none_ne; replace O3 := (O3.alloc (.cells #[.int .i64 0, .int .i64 1, .int .i64 2, .int .i64 3, .int .i64 4, .int .i64 2, .int .i64 3, .int .i64 5, .int .i64 6, .int .i64 7, .int .i64 0, .int .i64 1] 3)).kept (below_grown hb none) none_ne
  replace BC := (BC.alloc BC.size (.cells #[.int .i64 0, .int .i64 1, .int .i64 2, .int .i64 3, .int .i64 4, .int .i64 2, .int .i64 3, .int .i64 5, .int .i64 6, .int .i64 7, .int .i64 0, .int .i64 1] 3)).trans (hb.mono (by have := BC.size; simp; omega))
  clear hb KS1 KL1 O2
  go_wp2_with fail
  refine (lbars_is exU3 10 cc _ rfl (by omega) _ (own_Vs O3)).mono ?_; rintro e w16 ⟨hb, vb3, rfl, K1⟩
  obtain ⟨A3, k3, rfl, KS1⟩ := own_Ks K1
  replace Q := Q.below hb
  replace O1 := O1.kept (below_grown hb none) none_ne
  replace BC := BC.trans (hb.mono BC.size)
  clear hb K1 O3
  have KL1 := slk_lit w16 3 [0, 1, 2, 3, 4, 5, 6, 7, 0, 1]
  replace KS1 := KS1.alloc (.cells #[.int .i64 0, .int .i64 1, .int .i64 2, .int .i64 3, .int .i64 4, .int .i64 5, .int .i64 6, .int .i64 7, .int .i64 0, .int .i64 1] 3)
  go_wp2_with fail
  refine (lsame_is (exU3.map fun x => x.b) [0, 1, 2, 3, 4, 5, 6, 7, 0, 1] true 10 k3 10 10 A3 _ ⟨fun _ => by decide, fun _ => rfl⟩ rfl rfl (by omega) _ KS1 KL1).mono ?_; rintro e w17 ⟨rfl, hb⟩
  replace Q := (Q.alloc (.cells #[.int .i64 0, .int .i64 1, .int .i64 2, .int .i64 3, .int .i64 4, .int .i64 5, .int .i64 6, .int .i64 7, .int .i64 0, .int .i64 1] 3)).below hb
  replace O1 := (O1.alloc (.cells #[.int .i64 0, .int .i64 1, .int .i64 2, .int .i64 3, .int .i64 4, .int .i64 5, .int .i64 6, .int .i64 7, .int .i64 0, .int .i64 1] 3)).kept (below_grown hb none) none_ne
  replace BC := (BC.alloc BC.size (.cells #[.int .i64 0, .int .i64 1, .int .i64 2, .int .i64 3, .int .i64 4, .int .i64 5, .int .i64 6, .int .i64 7, .int .i64 0, .int .i64 1] 3)).trans (hb.mono (by have := BC.size; simp; omega))
  clear hb KS1 KL1
  obtain ⟨bb, off, e1, -, hc⟩ := own_Vs O1 (by decide)
  cases e1
  obtain ⟨c0, c1⟩ := hc 5 (by decide)
  rw [show atV exU1 5 = ⟨2, 2⟩ from rfl] at c0 c1
  have heq := fun W => eqVisit ⟨2, 2⟩ ⟨2, 2⟩ true ⟨fun _ => rfl, fun _ => rfl⟩ W
  dsimp only at heq c0 c1
  have q0 := Q.a.c0; have q1 := Q.a.c1; have q2 := Q.a.c2; have q3 := Q.a.c3; have q4 := Q.a.c4; have q5 := Q.a.c5; have q6 := Q.a.c6; have ql := Q.a.lt; (try dsimp only at q0 q1 q2 q3 q4 q5 q6)
  go_wp2_with (first | (simp only) | fail)
  clear q0 q1 q2 q3 q4 q5 q6 ql
  refine (wValid_is (⟨8, some ⟨b, 0, none⟩, 1, 1, some ⟨b + 1, 0, none⟩, 2, 2, 8, 0, 2, none, 0, 0⟩ : FH) exJ true ⟨fun _ => exJ_val, fun _ => rfl⟩ exJ_wf _ (HS1.out.below (BX.trans (BC.mono HN4.out))).toJ).mono ?_; rintro e w18 ⟨rfl, hb⟩
  replace BC := BC.trans (hb.mono BC.size)
  clear hb
  go_wp2_with fail
  refine (wValid_is (⟨8, none, 0, 0, none, 0, 0, 8, 8, 8, none, 0, 0⟩ : FH) _ false ⟨fun h => (by cases h), fun h => absurd h exB_no⟩ (fun c hc => by cases hc) _ (SlF.bad _)).mono ?_; rintro e w19 ⟨rfl, hb⟩
  replace BC := BC.trans (hb.mono BC.size)
  clear hb
  go_wp2_with fail
  go_ret
  exact ⟨rfl, BW.out.trans ((BX.trans (BC.mono HN4.out)).mono BW.out.size)⟩
end Go.Proofs.Ytakbpgljbbkmkaa
