/-
  To move a pitch by an interval, and then by another one, is to move it by both, joined, as long as all of this exists, and the order of both plays no part for the joined one: the law PitchJoins returns true for every pitch and every two intervals, valid or not, and leaves them as they were.
  Conditions: what the listed package variables hold when the call begins (the card ties it to the program's text).
-/
import Derived.Test.YtgehnciegolkhaaDoorPl
namespace Go.Proofs.YtgehnciegolkhaaDoor
open Go.RowKit

set_option maxHeartbeats 1600000 in
set_option maxRecDepth 100000 in
theorem pitchJoins_walk (s a o i t j u : Int) (w : World) (hG : Glob w) :
    Calls Tryd.prog 7 #[.agg #[.int .i64 s, .int .i64 a, .int .i64 o], .agg #[.int .i64 i, .int .i64 t], .agg #[.int .i64 j, .int .i64 u]] w fun e w' => e = .returned (.bool true) ∧ Below w.heap.size w w' := by
  obtain ⟨⟨M, N, E⟩, h⟩ : ∃ r, Pt.joinR i t j u = r := ⟨_, rfl⟩
  obtain ⟨⟨X, Y, Z, F⟩, g⟩ : ∃ r, Pt.addR s a o i t = r := ⟨_, rfl⟩
  obtain ⟨⟨X2, Y2, Z2, F2⟩, k⟩ : ∃ r, Pt.addR X Y Z j u = r := ⟨_, rfl⟩
  have H := Lib.hid h
  have H' := Lib.hid ((Pt.join_comm j u i t).trans h)
  have H2 := Lib.hid g
  have H3 := Lib.hid k
  have cE : E = 0 ∨ E = 1 ∨ E = 3 := by rcases Pt.join_cases h with h | ⟨_, h | h⟩ <;> simp [h]
  have cF : F = 0 ∨ F = 1 ∨ F = 3 := by rcases Pt.add_cases g with h | ⟨_, h | h⟩ <;> simp [h]
  have cF2 : F2 = 0 ∨ F2 = 1 ∨ F2 = 3 := by rcases Pt.add_cases k with h | ⟨_, h | h⟩ <;> simp [h]
  by_cases hall : E = 0 ∧ F = 0 ∧ F2 = 0
  · obtain ⟨rfl, rfl, rfl⟩ := hall
    have HJ := Lib.hid (Pt.add_join h g k)
    clear h g k cE cF cF2
    go_enter Tryd.func7, Tryd.ntmps7
    go_wp2_with fail
    have B := Below.refl w.heap.size w
    refine (head_any _ (((hG.alloc _).alloc _).alloc _)).mono ?_; rintro e w1 ⟨rfl, hb⟩
    have P := (((At3.new _ (s) (a) (o) _).alloc _).alloc _).below hb
    have I := At2.at (w.heap.size + 1) (((At2.new _ (i) (t) _).alloc _).below hb) (by simp only [World.size_alloc])
    have J := At2.at (w.heap.size + 1 + 1) ((At2.new _ (j) (u) _).below hb) (by simp only [World.size_alloc])
    replace hG := (((hG.alloc _).alloc _).alloc _).below hb
    replace B := (((B.alloc (by have := B.size; simp <;> omega) _).alloc (by have := B.size; simp <;> omega) _).alloc (by have := B.size; simp <;> omega) _).trans (hb.mono (by have := B.size; simp <;> omega))
    clear hb
    have lI := I.lt; have cI0 := I.c0; have cI1 := I.c1
    have lJ := J.lt; have cJ0 := J.c0; have cJ1 := J.c1
    go_wp2_with fail
    refine (join_is _ _ _ _ _ _ _ H.out _).mono ?_; rintro e w2 ⟨rfl, hb⟩
    replace P := P.below hb
    replace I := I.below hb
    replace J := J.below hb
    replace hG := hG.below hb
    replace B := B.trans (hb.mono (by have := B.size; simp <;> omega))
    clear hb lI cI0 cI1 lJ cJ0 cJ1
    have lI := I.lt; have cI0 := I.c0; have cI1 := I.c1
    have lJ := J.lt; have cJ0 := J.c0; have cJ1 := J.c1
    go_wp2_with fail
    refine (join_is _ _ _ _ _ _ _ H'.out _).mono ?_; rintro e w3 ⟨rfl, hb⟩
    replace P := (P.alloc _).below hb
    replace I := (I.alloc _).below hb
    replace J := (J.alloc _).below hb
    have M1 := (At2.new _ (M) (N) _).below hb
    replace hG := (hG.alloc _).below hb
    replace B := (B.alloc (by have := B.size; simp <;> omega) _).trans (hb.mono (by have := B.size; simp <;> omega))
    clear hb lI cI0 cI1 lJ cJ0 cJ1
    have lM1 := M1.lt; have cM10 := M1.c0; have cM11 := M1.c1
    have lP := P.lt; have cP0 := P.c0; have cP1 := P.c1; have cP2 := P.c2
    have lI := I.lt; have cI0 := I.c0; have cI1 := I.c1
    go_wp2_with fail
    refine (add_is _ _ _ _ _ _ _ _ _ H2.out _ (hG.alloc _)).mono ?_; rintro e w4 ⟨rfl, hb⟩
    replace P := (P.alloc _).below hb
    replace I := (I.alloc _).below hb
    replace J := (J.alloc _).below hb
    replace M1 := (M1.alloc _).below hb
    have M2 := (At2.new _ (M) (N) _).below hb
    replace hG := (hG.alloc _).below hb
    replace B := (B.alloc (by have := B.size; simp <;> omega) _).trans (hb.mono (by have := B.size; simp <;> omega))
    clear hb lM1 cM10 cM11 lP cP0 cP1 cP2 lI cI0 cI1
    have lJ := J.lt; have cJ0 := J.c0; have cJ1 := J.c1
    go_wp2_with fail
    refine (add_is _ _ _ _ _ _ _ _ _ H3.out _ (hG.alloc _)).mono ?_; rintro e w5 ⟨rfl, hb⟩
    replace P := (P.alloc _).below hb
    replace I := (I.alloc _).below hb
    replace J := (J.alloc _).below hb
    replace M1 := (M1.alloc _).below hb
    replace M2 := (M2.alloc _).below hb
    have Q := (At3.new _ (X) (Y) (Z) _).below hb
    replace hG := (hG.alloc _).below hb
    replace B := (B.alloc (by have := B.size; simp <;> omega) _).trans (hb.mono (by have := B.size; simp <;> omega))
    clear hb lJ cJ0 cJ1
    have lP := P.lt; have cP0 := P.c0; have cP1 := P.c1; have cP2 := P.c2
    have lM1 := M1.lt; have cM10 := M1.c0; have cM11 := M1.c1
    go_wp2_with fail
    refine (add_is _ _ _ _ _ _ _ _ _ HJ.out _ (hG.alloc _)).mono ?_; rintro e w6 ⟨rfl, hb⟩
    replace P := (P.alloc _).below hb
    replace I := (I.alloc _).below hb
    replace J := (J.alloc _).below hb
    replace M1 := (M1.alloc _).below hb
    replace M2 := (M2.alloc _).below hb
    replace Q := (Q.alloc _).below hb
    have R := (At3.new _ (X2) (Y2) (Z2) _).below hb
    replace hG := (hG.alloc _).below hb
    replace B := (B.alloc (by have := B.size; simp <;> omega) _).trans (hb.mono (by have := B.size; simp <;> omega))
    clear hb lP cP0 cP1 cP2 lM1 cM10 cM11
    have lR := R.lt; have cR0 := R.c0; have cR1 := R.c1; have cR2 := R.c2
    go_wp2_with fail
    go_ret
    exact ⟨rfl, (B.alloc (by have := B.size; simp <;> omega) _)⟩
  · clear h g k
    rcases cE with rfl | rfl | rfl <;> rcases cF with rfl | rfl | rfl <;> rcases cF2 with rfl | rfl | rfl
    case inl.inl.inl => exact absurd ⟨rfl, rfl, rfl⟩ hall
    all_goals
      clear hall
      go_enter Tryd.func7, Tryd.ntmps7
      go_wp2_with fail
      have B := Below.refl w.heap.size w
      refine (head_any _ (((hG.alloc _).alloc _).alloc _)).mono ?_; rintro e w1 ⟨rfl, hb⟩
      have P := (((At3.new _ (s) (a) (o) _).alloc _).alloc _).below hb
      have I := At2.at (w.heap.size + 1) (((At2.new _ (i) (t) _).alloc _).below hb) (by simp only [World.size_alloc])
      have J := At2.at (w.heap.size + 1 + 1) ((At2.new _ (j) (u) _).below hb) (by simp only [World.size_alloc])
      replace hG := (((hG.alloc _).alloc _).alloc _).below hb
      replace B := (((B.alloc (by have := B.size; simp <;> omega) _).alloc (by have := B.size; simp <;> omega) _).alloc (by have := B.size; simp <;> omega) _).trans (hb.mono (by have := B.size; simp <;> omega))
      clear hb
      have lI := I.lt; have cI0 := I.c0; have cI1 := I.c1
      have lJ := J.lt; have cJ0 := J.c0; have cJ1 := J.c1
      go_wp2_with fail
      refine (join_is _ _ _ _ _ _ _ H.out _).mono ?_; rintro e w2 ⟨rfl, hb⟩
      replace P := P.below hb
      replace I := I.below hb
      replace J := J.below hb
      replace hG := hG.below hb
      replace B := B.trans (hb.mono (by have := B.size; simp <;> omega))
      clear hb lI cI0 cI1 lJ cJ0 cJ1
      have lI := I.lt; have cI0 := I.c0; have cI1 := I.c1
      have lJ := J.lt; have cJ0 := J.c0; have cJ1 := J.c1
      go_wp2_with fail
      refine (join_is _ _ _ _ _ _ _ H'.out _).mono ?_; rintro e w3 ⟨rfl, hb⟩
      replace P := (P.alloc _).below hb
      replace I := (I.alloc _).below hb
      replace J := (J.alloc _).below hb
      have M1 := (At2.new _ (M) (N) _).below hb
      replace hG := (hG.alloc _).below hb
      replace B := (B.alloc (by have := B.size; simp <;> omega) _).trans (hb.mono (by have := B.size; simp <;> omega))
      clear hb lI cI0 cI1 lJ cJ0 cJ1
      have lM1 := M1.lt; have cM10 := M1.c0; have cM11 := M1.c1
      have lP := P.lt; have cP0 := P.c0; have cP1 := P.c1; have cP2 := P.c2
      have lI := I.lt; have cI0 := I.c0; have cI1 := I.c1
      go_wp2_with fail
      refine (add_is _ _ _ _ _ _ _ _ _ H2.out _ (hG.alloc _)).mono ?_; rintro e w4 ⟨rfl, hb⟩
      replace P := (P.alloc _).below hb
      replace I := (I.alloc _).below hb
      replace J := (J.alloc _).below hb
      replace M1 := (M1.alloc _).below hb
      have M2 := (At2.new _ (M) (N) _).below hb
      replace hG := (hG.alloc _).below hb
      replace B := (B.alloc (by have := B.size; simp <;> omega) _).trans (hb.mono (by have := B.size; simp <;> omega))
      clear hb lM1 cM10 cM11 lP cP0 cP1 cP2 lI cI0 cI1
      have lJ := J.lt; have cJ0 := J.c0; have cJ1 := J.c1
      go_wp2_with fail
      refine (add_is _ _ _ _ _ _ _ _ _ H3.out _ (hG.alloc _)).mono ?_; rintro e w5 ⟨rfl, hb⟩
      replace P := (P.alloc _).below hb
      replace I := (I.alloc _).below hb
      replace J := (J.alloc _).below hb
      replace M1 := (M1.alloc _).below hb
      replace M2 := (M2.alloc _).below hb
      have Q := (At3.new _ (X) (Y) (Z) _).below hb
      replace hG := (hG.alloc _).below hb
      replace B := (B.alloc (by have := B.size; simp <;> omega) _).trans (hb.mono (by have := B.size; simp <;> omega))
      clear hb lJ cJ0 cJ1
      have lP := P.lt; have cP0 := P.c0; have cP1 := P.c1; have cP2 := P.c2
      have lM1 := M1.lt; have cM10 := M1.c0; have cM11 := M1.c1
      go_wp2_with fail
      go_ret
      exact ⟨rfl, (B.alloc (by have := B.size; simp <;> omega) _)⟩
end Go.Proofs.YtgehnciegolkhaaDoor
