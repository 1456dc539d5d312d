/-
  A pitch is moved by the interval between it and another one to that one; between a pitch and where it was moved is the interval: the law PitchBetween returns true for every two pitches and every interval, valid or not, and leaves them as they were.
  Conditions: what the listed package variables hold when the call begins (the card ties it to the program's text).
-/
import Derived.Test.YtgehnciegolkhaaDoorPl
namespace Go.Proofs.YtgehnciegolkhaaDoor
open Go.RowKit

set_option maxHeartbeats 1600000 in
set_option maxRecDepth 100000 in
theorem pitchBetween_walk (s a o p b q i t : Int) (w : World) (hG : Glob w) :
    Calls Tryd.prog 5 #[.agg #[.int .i64 s, .int .i64 a, .int .i64 o], .agg #[.int .i64 p, .int .i64 b, .int .i64 q], .agg #[.int .i64 i, .int .i64 t]] w fun e w' => e = .returned (.bool true) ∧ Below w.heap.size w w' := by
  obtain ⟨⟨I, T, E⟩, h⟩ : ∃ r, Pt.betR s a o p b q = r := ⟨_, rfl⟩
  obtain ⟨⟨X, Y, Z, F⟩, g⟩ : ∃ r, Pt.addR s a o i t = r := ⟨_, rfl⟩
  have H := Lib.hid h
  have H2 := Lib.hid g
  rcases Pt.bet_cases h with rfl | ⟨⟨rfl, rfl⟩, hE⟩
  · have HA := Lib.hid (Pt.add_between h)
    clear h
    rcases Pt.add_cases g with rfl | ⟨⟨rfl, rfl, rfl⟩, hF⟩
    · have HB := Lib.hid (Pt.between_add g)
      clear g
      go_enter Tryd.func5, Tryd.ntmps5
      go_wp2_with fail
      have B := Below.refl w.heap.size w
      refine (head_any _ (((hG.alloc _).alloc _).alloc _)).mono ?_; rintro e w1 ⟨rfl, hb⟩
      have P := (((At3.new _ (s) (a) (o) _).alloc _).alloc _).below hb
      have Q := At3.at (w.heap.size + 1) (((At3.new _ (p) (b) (q) _).alloc _).below hb) (by simp only [World.size_alloc])
      have J := At2.at (w.heap.size + 1 + 1) ((At2.new _ (i) (t) _).below hb) (by simp only [World.size_alloc])
      replace hG := (((hG.alloc _).alloc _).alloc _).below hb
      replace B := (((B.alloc (by have := B.size; simp <;> omega) _).alloc (by have := B.size; simp <;> omega) _).alloc (by have := B.size; simp <;> omega) _).trans (hb.mono (by have := B.size; simp <;> omega))
      clear hb
      have lP := P.lt; have cP0 := P.c0; have cP1 := P.c1; have cP2 := P.c2
      have lQ := Q.lt; have cQ0 := Q.c0; have cQ1 := Q.c1; have cQ2 := Q.c2
      go_wp2_with fail
      refine (between_is _ _ _ _ _ _ _ _ _ H.out _ hG).mono ?_; rintro e w2 ⟨rfl, hb⟩
      replace P := P.below hb
      replace Q := Q.below hb
      replace J := J.below hb
      replace hG := hG.below hb
      replace B := B.trans (hb.mono (by have := B.size; simp <;> omega))
      clear hb lP cP0 cP1 cP2 lQ cQ0 cQ1 cQ2
      have lP := P.lt; have cP0 := P.c0; have cP1 := P.c1; have cP2 := P.c2
      have lJ := J.lt; have cJ0 := J.c0; have cJ1 := J.c1
      go_wp2_with fail
      refine (add_is _ _ _ _ _ _ _ _ _ HA.out _ (hG.alloc _)).mono ?_; rintro e w3 ⟨rfl, hb⟩
      replace P := (P.alloc _).below hb
      replace Q := (Q.alloc _).below hb
      replace J := (J.alloc _).below hb
      have K := (At2.new _ (I) (T) _).below hb
      replace hG := (hG.alloc _).below hb
      replace B := (B.alloc (by have := B.size; simp <;> omega) _).trans (hb.mono (by have := B.size; simp <;> omega))
      clear hb lP cP0 cP1 cP2 lJ cJ0 cJ1
      have lP := P.lt; have cP0 := P.c0; have cP1 := P.c1; have cP2 := P.c2
      have lQ := Q.lt; have cQ0 := Q.c0; have cQ1 := Q.c1; have cQ2 := Q.c2
      have lJ := J.lt; have cJ0 := J.c0; have cJ1 := J.c1
      go_wp2_with fail
      refine (add_is _ _ _ _ _ _ _ _ _ H2.out _ (hG.alloc _)).mono ?_; rintro e w4 ⟨rfl, hb⟩
      replace P := (P.alloc _).below hb
      replace Q := (Q.alloc _).below hb
      replace J := (J.alloc _).below hb
      replace K := (K.alloc _).below hb
      replace hG := (hG.alloc _).below hb
      replace B := (B.alloc (by have := B.size; simp <;> omega) _).trans (hb.mono (by have := B.size; simp <;> omega))
      clear hb lP cP0 cP1 cP2 lQ cQ0 cQ1 cQ2 lJ cJ0 cJ1
      have lP := P.lt; have cP0 := P.c0; have cP1 := P.c1; have cP2 := P.c2
      go_wp2_with fail
      refine (between_is _ _ _ _ _ _ _ _ _ HB.out _ (hG.alloc _)).mono ?_; rintro e w5 ⟨rfl, hb⟩
      replace P := (P.alloc _).below hb
      replace Q := (Q.alloc _).below hb
      replace J := (J.alloc _).below hb
      replace K := (K.alloc _).below hb
      have R := (At3.new _ (X) (Y) (Z) _).below hb
      replace hG := (hG.alloc _).below hb
      replace B := (B.alloc (by have := B.size; simp <;> omega) _).trans (hb.mono (by have := B.size; simp <;> omega))
      clear hb lP cP0 cP1 cP2
      have lJ := J.lt; have cJ0 := J.c0; have cJ1 := J.c1
      go_wp2_with fail
      go_ret
      exact ⟨rfl, (B.alloc (by have := B.size; simp <;> omega) _)⟩
    · clear g
      rcases hF with rfl | rfl
      all_goals
        go_enter Tryd.func5, Tryd.ntmps5
        go_wp2_with fail
        have B := Below.refl w.heap.size w
        refine (head_any _ (((hG.alloc _).alloc _).alloc _)).mono ?_; rintro e w1 ⟨rfl, hb⟩
        have P := (((At3.new _ (s) (a) (o) _).alloc _).alloc _).below hb
        have Q := At3.at (w.heap.size + 1) (((At3.new _ (p) (b) (q) _).alloc _).below hb) (by simp only [World.size_alloc])
        have J := At2.at (w.heap.size + 1 + 1) ((At2.new _ (i) (t) _).below hb) (by simp only [World.size_alloc])
        replace hG := (((hG.alloc _).alloc _).alloc _).below hb
        replace B := (((B.alloc (by have := B.size; simp <;> omega) _).alloc (by have := B.size; simp <;> omega) _).alloc (by have := B.size; simp <;> omega) _).trans (hb.mono (by have := B.size; simp <;> omega))
        clear hb
        have lP := P.lt; have cP0 := P.c0; have cP1 := P.c1; have cP2 := P.c2
        have lQ := Q.lt; have cQ0 := Q.c0; have cQ1 := Q.c1; have cQ2 := Q.c2
        go_wp2_with fail
        refine (between_is _ _ _ _ _ _ _ _ _ H.out _ hG).mono ?_; rintro e w2 ⟨rfl, hb⟩
        replace P := P.below hb
        replace Q := Q.below hb
        replace J := J.below hb
        replace hG := hG.below hb
        replace B := B.trans (hb.mono (by have := B.size; simp <;> omega))
        clear hb lP cP0 cP1 cP2 lQ cQ0 cQ1 cQ2
        have lP := P.lt; have cP0 := P.c0; have cP1 := P.c1; have cP2 := P.c2
        have lJ := J.lt; have cJ0 := J.c0; have cJ1 := J.c1
        go_wp2_with fail
        refine (add_is _ _ _ _ _ _ _ _ _ HA.out _ (hG.alloc _)).mono ?_; rintro e w3 ⟨rfl, hb⟩
        replace P := (P.alloc _).below hb
        replace Q := (Q.alloc _).below hb
        replace J := (J.alloc _).below hb
        have K := (At2.new _ (I) (T) _).below hb
        replace hG := (hG.alloc _).below hb
        replace B := (B.alloc (by have := B.size; simp <;> omega) _).trans (hb.mono (by have := B.size; simp <;> omega))
        clear hb lP cP0 cP1 cP2 lJ cJ0 cJ1
        have lP := P.lt; have cP0 := P.c0; have cP1 := P.c1; have cP2 := P.c2
        have lQ := Q.lt; have cQ0 := Q.c0; have cQ1 := Q.c1; have cQ2 := Q.c2
        have lJ := J.lt; have cJ0 := J.c0; have cJ1 := J.c1
        go_wp2_with fail
        refine (add_is _ _ _ _ _ _ _ _ _ H2.out _ (hG.alloc _)).mono ?_; rintro e w4 ⟨rfl, hb⟩
        replace P := (P.alloc _).below hb
        replace Q := (Q.alloc _).below hb
        replace J := (J.alloc _).below hb
        replace K := (K.alloc _).below hb
        replace hG := (hG.alloc _).below hb
        replace B := (B.alloc (by have := B.size; simp <;> omega) _).trans (hb.mono (by have := B.size; simp <;> omega))
        clear hb lP cP0 cP1 cP2 lQ cQ0 cQ1 cQ2 lJ cJ0 cJ1
        have lP := P.lt; have cP0 := P.c0; have cP1 := P.c1; have cP2 := P.c2
        go_wp2_with fail
        go_ret
        exact ⟨rfl, (B.alloc (by have := B.size; simp <;> omega) _)⟩
  · clear h
    rcases Pt.add_cases g with rfl | ⟨⟨rfl, rfl, rfl⟩, hF⟩
    · have HB := Lib.hid (Pt.between_add g)
      clear g
      rcases hE with rfl | rfl
      all_goals
        go_enter Tryd.func5, Tryd.ntmps5
        go_wp2_with fail
        have B := Below.refl w.heap.size w
        refine (head_any _ (((hG.alloc _).alloc _).alloc _)).mono ?_; rintro e w1 ⟨rfl, hb⟩
        have P := (((At3.new _ (s) (a) (o) _).alloc _).alloc _).below hb
        have Q := At3.at (w.heap.size + 1) (((At3.new _ (p) (b) (q) _).alloc _).below hb) (by simp only [World.size_alloc])
        have J := At2.at (w.heap.size + 1 + 1) ((At2.new _ (i) (t) _).below hb) (by simp only [World.size_alloc])
        replace hG := (((hG.alloc _).alloc _).alloc _).below hb
        replace B := (((B.alloc (by have := B.size; simp <;> omega) _).alloc (by have := B.size; simp <;> omega) _).alloc (by have := B.size; simp <;> omega) _).trans (hb.mono (by have := B.size; simp <;> omega))
        clear hb
        have lP := P.lt; have cP0 := P.c0; have cP1 := P.c1; have cP2 := P.c2
        have lQ := Q.lt; have cQ0 := Q.c0; have cQ1 := Q.c1; have cQ2 := Q.c2
        go_wp2_with fail
        refine (between_is _ _ _ _ _ _ _ _ _ H.out _ hG).mono ?_; rintro e w2 ⟨rfl, hb⟩
        replace P := P.below hb
        replace Q := Q.below hb
        replace J := J.below hb
        replace hG := hG.below hb
        replace B := B.trans (hb.mono (by have := B.size; simp <;> omega))
        clear hb lP cP0 cP1 cP2 lQ cQ0 cQ1 cQ2
        have lP := P.lt; have cP0 := P.c0; have cP1 := P.c1; have cP2 := P.c2
        have lJ := J.lt; have cJ0 := J.c0; have cJ1 := J.c1
        go_wp2_with fail
        refine (add_is _ _ _ _ _ _ _ _ _ H2.out _ (hG.alloc _)).mono ?_; rintro e w3 ⟨rfl, hb⟩
        replace P := (P.alloc _).below hb
        replace Q := (Q.alloc _).below hb
        replace J := (J.alloc _).below hb
        replace hG := (hG.alloc _).below hb
        replace B := (B.alloc (by have := B.size; simp <;> omega) _).trans (hb.mono (by have := B.size; simp <;> omega))
        clear hb lP cP0 cP1 cP2 lJ cJ0 cJ1
        have lP := P.lt; have cP0 := P.c0; have cP1 := P.c1; have cP2 := P.c2
        go_wp2_with fail
        refine (between_is _ _ _ _ _ _ _ _ _ HB.out _ (hG.alloc _)).mono ?_; rintro e w4 ⟨rfl, hb⟩
        replace P := (P.alloc _).below hb
        replace Q := (Q.alloc _).below hb
        replace J := (J.alloc _).below hb
        have R := (At3.new _ (X) (Y) (Z) _).below hb
        replace hG := (hG.alloc _).below hb
        replace B := (B.alloc (by have := B.size; simp <;> omega) _).trans (hb.mono (by have := B.size; simp <;> omega))
        clear hb lP cP0 cP1 cP2
        have lJ := J.lt; have cJ0 := J.c0; have cJ1 := J.c1
        go_wp2_with fail
        go_ret
        exact ⟨rfl, (B.alloc (by have := B.size; simp <;> omega) _)⟩
    · clear g
      rcases hE with rfl | rfl <;> rcases hF with rfl | rfl
      all_goals
        go_enter Tryd.func5, Tryd.ntmps5
        go_wp2_with fail
        have B := Below.refl w.heap.size w
        refine (head_any _ (((hG.alloc _).alloc _).alloc _)).mono ?_; rintro e w1 ⟨rfl, hb⟩
        have P := (((At3.new _ (s) (a) (o) _).alloc _).alloc _).below hb
        have Q := At3.at (w.heap.size + 1) (((At3.new _ (p) (b) (q) _).alloc _).below hb) (by simp only [World.size_alloc])
        have J := At2.at (w.heap.size + 1 + 1) ((At2.new _ (i) (t) _).below hb) (by simp only [World.size_alloc])
        replace hG := (((hG.alloc _).alloc _).alloc _).below hb
        replace B := (((B.alloc (by have := B.size; simp <;> omega) _).alloc (by have := B.size; simp <;> omega) _).alloc (by have := B.size; simp <;> omega) _).trans (hb.mono (by have := B.size; simp <;> omega))
        clear hb
        have lP := P.lt; have cP0 := P.c0; have cP1 := P.c1; have cP2 := P.c2
        have lQ := Q.lt; have cQ0 := Q.c0; have cQ1 := Q.c1; have cQ2 := Q.c2
        go_wp2_with fail
        refine (between_is _ _ _ _ _ _ _ _ _ H.out _ hG).mono ?_; rintro e w2 ⟨rfl, hb⟩
        replace P := P.below hb
        replace Q := Q.below hb
        replace J := J.below hb
        replace hG := hG.below hb
        replace B := B.trans (hb.mono (by have := B.size; simp <;> omega))
        clear hb lP cP0 cP1 cP2 lQ cQ0 cQ1 cQ2
        have lP := P.lt; have cP0 := P.c0; have cP1 := P.c1; have cP2 := P.c2
        have lJ := J.lt; have cJ0 := J.c0; have cJ1 := J.c1
        go_wp2_with fail
        refine (add_is _ _ _ _ _ _ _ _ _ H2.out _ (hG.alloc _)).mono ?_; rintro e w3 ⟨rfl, hb⟩
        replace P := (P.alloc _).below hb
        replace Q := (Q.alloc _).below hb
        replace J := (J.alloc _).below hb
        replace hG := (hG.alloc _).below hb
        replace B := (B.alloc (by have := B.size; simp <;> omega) _).trans (hb.mono (by have := B.size; simp <;> omega))
        clear hb lP cP0 cP1 cP2 lJ cJ0 cJ1
        have lP := P.lt; have cP0 := P.c0; have cP1 := P.c1; have cP2 := P.c2
        go_wp2_with fail
        go_ret
        exact ⟨rfl, (B.alloc (by have := B.size; simp <;> omega) _)⟩
end Go.Proofs.YtgehnciegolkhaaDoor
