/-
  A pitch that was moved by an interval is moved back by its opposite: the law PitchBack returns true for every pitch and interval, valid or not, and leaves them as they were.
  Conditions: what the listed package variables hold when the call begins (the card ties it to the program's text).
-/
import Derived.Test.YtgehnciegolkhaaDoorPl
namespace Go.Proofs.YtgehnciegolkhaaDoor
open Go.RowKit

set_option maxHeartbeats 1600000 in
set_option maxRecDepth 100000 in
theorem pitchBack_walk (s a o i t : Int) (w : World) (hG : Glob w) :
    Calls Tryd.prog 4 #[.agg #[.int .i64 s, .int .i64 a, .int .i64 o], .agg #[.int .i64 i, .int .i64 t]] w fun e w' => e = .returned (.bool true) ∧ Below w.heap.size w w' := by
  obtain ⟨⟨X, Y, Z, E⟩, h⟩ : ∃ r, Pt.addR s a o i t = r := ⟨_, rfl⟩
  have H := Lib.hid h
  rcases Pt.add_cases h with rfl | ⟨⟨rfl, rfl, rfl⟩, hE⟩
  · have HB := Lib.hid (Pt.back_of (Pt.add_ok h).2.1)
    have HA := Lib.hid (Pt.add_back h)
    have HV := Lib.hid (Pt.add_ok h).2.2.1
    clear h
    go_enter Tryd.func4, Tryd.ntmps4
    go_wp2_with fail
    have B := Below.refl w.heap.size w
    refine (head_any _ ((hG.alloc _).alloc _)).mono ?_; rintro e w1 ⟨rfl, hb⟩
    have P := ((At3.new _ (s) (a) (o) _).alloc _).below hb
    have I := At2.at (w.heap.size + 1) ((At2.new _ (i) (t) _).below hb) (by simp only [World.size_alloc])
    replace hG := ((hG.alloc _).alloc _).below hb
    replace B := ((B.alloc (by have := B.size; simp <;> omega) _).alloc (by have := B.size; simp <;> omega) _).trans (hb.mono (by have := B.size; simp <;> omega))
    clear hb
    have lP := P.lt; have cP0 := P.c0; have cP1 := P.c1; have cP2 := P.c2
    have lI := I.lt; have cI0 := I.c0; have cI1 := I.c1
    go_wp2_with fail
    refine (add_is _ _ _ _ _ _ _ _ _ H.out _ hG).mono ?_; rintro e w2 ⟨rfl, hb⟩
    replace P := P.below hb
    replace I := I.below hb
    replace hG := hG.below hb
    replace B := B.trans (hb.mono (by have := B.size; simp <;> omega))
    clear hb lP cP0 cP1 cP2 lI cI0 cI1
    have lI := I.lt; have cI0 := I.c0; have cI1 := I.c1
    go_wp2_with fail
    refine (back_is _ _ _ _ _ HB.out _).mono ?_; rintro e w3 ⟨rfl, hb⟩
    replace P := (P.alloc _).below hb
    replace I := (I.alloc _).below hb
    have Q := (At3.new _ (X) (Y) (Z) _).below hb
    replace hG := (hG.alloc _).below hb
    replace B := (B.alloc (by have := B.size; simp <;> omega) _).trans (hb.mono (by have := B.size; simp <;> omega))
    clear hb lI cI0 cI1
    have lQ := Q.lt; have cQ0 := Q.c0; have cQ1 := Q.c1; have cQ2 := Q.c2
    go_wp2_with fail
    refine (add_is _ _ _ _ _ _ _ _ _ HA.out _ (hG.alloc _)).mono ?_; rintro e w4 ⟨rfl, hb⟩
    replace P := (P.alloc _).below hb
    replace I := (I.alloc _).below hb
    replace Q := (Q.alloc _).below hb
    have K := (At2.new _ (-i) (-t) _).below hb
    replace hG := (hG.alloc _).below hb
    replace B := (B.alloc (by have := B.size; simp <;> omega) _).trans (hb.mono (by have := B.size; simp <;> omega))
    clear hb lQ cQ0 cQ1 cQ2
    have lP := P.lt; have cP0 := P.c0; have cP1 := P.c1; have cP2 := P.c2
    have lQ := Q.lt; have cQ0 := Q.c0; have cQ1 := Q.c1; have cQ2 := Q.c2
    go_wp2_with fail
    refine (valid_is _ _ _ _ HV.out _).mono ?_; rintro e w5 ⟨rfl, hb⟩
    replace P := (P.alloc _).below hb
    replace I := (I.alloc _).below hb
    replace Q := (Q.alloc _).below hb
    replace K := (K.alloc _).below hb
    have R := (At3.new _ (s) (a) (o) _).below hb
    replace hG := (hG.alloc _).below hb
    replace B := (B.alloc (by have := B.size; simp <;> omega) _).trans (hb.mono (by have := B.size; simp <;> omega))
    clear hb lP cP0 cP1 cP2 lQ cQ0 cQ1 cQ2
    go_wp2_with fail
    go_ret
    exact ⟨rfl, B⟩
  · clear h
    rcases hE with rfl | rfl
    all_goals
      go_enter Tryd.func4, Tryd.ntmps4
      go_wp2_with fail
      have B := Below.refl w.heap.size w
      refine (head_any _ ((hG.alloc _).alloc _)).mono ?_; rintro e w1 ⟨rfl, hb⟩
      have P := ((At3.new _ (s) (a) (o) _).alloc _).below hb
      have I := At2.at (w.heap.size + 1) ((At2.new _ (i) (t) _).below hb) (by simp only [World.size_alloc])
      replace hG := ((hG.alloc _).alloc _).below hb
      replace B := ((B.alloc (by have := B.size; simp <;> omega) _).alloc (by have := B.size; simp <;> omega) _).trans (hb.mono (by have := B.size; simp <;> omega))
      clear hb
      have lP := P.lt; have cP0 := P.c0; have cP1 := P.c1; have cP2 := P.c2
      have lI := I.lt; have cI0 := I.c0; have cI1 := I.c1
      go_wp2_with fail
      refine (add_is _ _ _ _ _ _ _ _ _ H.out _ hG).mono ?_; rintro e w2 ⟨rfl, hb⟩
      replace P := P.below hb
      replace I := I.below hb
      replace hG := hG.below hb
      replace B := B.trans (hb.mono (by have := B.size; simp <;> omega))
      clear hb lP cP0 cP1 cP2 lI cI0 cI1
      go_wp2_with fail
      go_ret
      exact ⟨rfl, (B.alloc (by have := B.size; simp <;> omega) _)⟩
end Go.Proofs.YtgehnciegolkhaaDoor
