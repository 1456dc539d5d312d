/-
  The moved key is a key, the fifths of the exact interval are the difference of both keys, it has as many semitones, and moved by the opposite of the exact interval it is the former key, and this is exact: the law KeyMoves returns true for every integer and interval, valid or not, and leaves them as they were.
  Conditions: what the listed package variables hold when the call begins (the card ties it to the program's text).
-/
import Derived.Test.YtnjacgjcoikngaaDoorKz
namespace Go.Proofs.YtnjacgjcoikngaaDoor
open Go.RowKit

set_option maxHeartbeats 1600000 in
set_option maxRecDepth 100000 in
theorem keyMoves_walk (k i t : Int) (w : World) (hG : GK w) :
    Calls Tryd.prog 5 #[.int .i64 k, .agg #[.int .i64 i, .int .i64 t]] w fun e w' => e = .returned (.bool true) ∧ Below w.heap.size w w' := by
  obtain ⟨⟨K, I, T, E⟩, h1⟩ : ∃ r, Ky.moveR k i t = r := ⟨_, rfl⟩
  obtain ⟨v1, hv1⟩ : ∃ v, Ky.kv k = v := ⟨_, rfl⟩
  obtain ⟨v2, hv2⟩ : ∃ v, Pt.iv i t = v := ⟨_, rfl⟩
  have H1 := Lib.hid h1
  have V1 := Lib.hid hv1
  have V2 := Lib.hid hv2
  cases v1 with
  | false =>
    clear h1 hv1 hv2
    go_enter Tryd.func5, Tryd.ntmps5
    go_wp2_with fail
    have B := Below.refl w.heap.size w
    refine (head_any _ (hG.alloc _)).mono ?_; rintro e w1 ⟨rfl, hb⟩
    have P := (At2.new _ (i) (t) _).below hb
    replace hG := (hG.alloc _).below hb
    replace B := (B.alloc (by have := B.size; simp <;> omega) _).trans (hb.mono (by have := B.size; simp <;> omega))
    clear hb
    have lP := P.lt; have cP0 := P.c0; have cP1 := P.c1
    go_wp2_with fail
    refine (kkey_is _ _ V1.out _).mono ?_; rintro e w9 ⟨rfl, rfl⟩
    go_wp2_with fail
    go_ret
    exact ⟨rfl, B⟩
  | true =>
    cases v2 with
    | false =>
      clear h1 hv1 hv2
      go_enter Tryd.func5, Tryd.ntmps5
      go_wp2_with fail
      have B := Below.refl w.heap.size w
      refine (head_any _ (hG.alloc _)).mono ?_; rintro e w1 ⟨rfl, hb⟩
      have P := (At2.new _ (i) (t) _).below hb
      replace hG := (hG.alloc _).below hb
      replace B := (B.alloc (by have := B.size; simp <;> omega) _).trans (hb.mono (by have := B.size; simp <;> omega))
      clear hb
      have lP := P.lt; have cP0 := P.c0; have cP1 := P.c1
      go_wp2_with fail
      refine (kkey_is _ _ V1.out _).mono ?_; rintro e w9 ⟨rfl, rfl⟩
      go_wp2_with fail
      refine (kinterval_is _ _ _ V2.out _).mono ?_; rintro e w2 ⟨rfl, hb⟩
      replace P := P.below hb
      replace hG := hG.below hb
      replace B := B.trans (hb.mono (by have := B.size; simp <;> omega))
      clear hb lP cP0 cP1
      go_wp2_with fail
      go_ret
      exact ⟨rfl, B⟩
    | true =>
      obtain ⟨K', I', hm⟩ := Ky.move_all hv2 hv1
      rw [hm] at h1
      simp only [Prod.mk.injEq] at h1
      obtain ⟨rfl, rfl, rfl, rfl⟩ := h1
      obtain ⟨q1, q2, q3, q4, -, q6⟩ := Ky.move_ok hm
      have FX : Hid (Ky.fifR I' t = (K' - k, 0)) := Lib.hid (by rw [Ky.fif_of q4, q6])
      have HB := Lib.hid (Ky.move_back hm)
      have V3 := Lib.hid q3
      obtain ⟨a1, a2⟩ := Ky.kv_iff.1 q2
      obtain ⟨b1, b2⟩ := Ky.kv_iff.1 q3
      obtain ⟨l1, l2, l3, l4⟩ := Pt.iv_iff.1 q4
      clear hm hv1 hv2 q1 q2 q3 q4 q6
      go_enter Tryd.func5, Tryd.ntmps5
      go_wp2_with fail
      have B := Below.refl w.heap.size w
      refine (head_any _ (hG.alloc _)).mono ?_; rintro e w1 ⟨rfl, hb⟩
      have P := (At2.new _ (i) (t) _).below hb
      replace hG := (hG.alloc _).below hb
      replace B := (B.alloc (by have := B.size; simp <;> omega) _).trans (hb.mono (by have := B.size; simp <;> omega))
      clear hb
      have lP := P.lt; have cP0 := P.c0; have cP1 := P.c1
      go_wp2_with fail
      refine (kkey_is _ _ V1.out _).mono ?_; rintro e w9 ⟨rfl, rfl⟩
      go_wp2_with fail
      refine (kinterval_is _ _ _ V2.out _).mono ?_; rintro e w2 ⟨rfl, hb⟩
      replace P := P.below hb
      replace hG := hG.below hb
      replace B := B.trans (hb.mono (by have := B.size; simp <;> omega))
      clear hb lP cP0 cP1
      have lP := P.lt; have cP0 := P.c0; have cP1 := P.c1
      go_wp2_with fail
      refine (move_is _ _ _ _ _ _ _ H1.out _).mono ?_; rintro e w3 ⟨rfl, hb⟩
      replace P := P.below hb
      replace hG := hG.below hb
      replace B := B.trans (hb.mono (by have := B.size; simp <;> omega))
      clear hb lP cP0 cP1
      go_wp2_with fail
      refine (fifths_is _ _ _ _ FX.out _).mono ?_; rintro e w4 ⟨rfl, hb⟩
      replace P := (P.alloc _).below hb
      have X := (At2.new _ (I') (t) _).below hb
      replace hG := (hG.alloc _).below hb
      replace B := (B.alloc (by have := B.size; simp <;> omega) _).trans (hb.mono (by have := B.size; simp <;> omega))
      clear hb
      have lX := X.lt; have cX0 := X.c0; have cX1 := X.c1
      go_wp2_with fail
      refine (move_is _ _ _ _ _ _ _ HB.out _).mono ?_; rintro e w5 ⟨rfl, hb⟩
      replace P := P.below hb
      replace X := X.below hb
      replace hG := hG.below hb
      replace B := B.trans (hb.mono (by have := B.size; simp <;> omega))
      clear hb lX cX0 cX1
      have lP := P.lt; have cP0 := P.c0; have cP1 := P.c1
      have lX := X.lt; have cX0 := X.c0; have cX1 := X.c1
      go_wp2_with fail
      refine (kkey_is _ _ V3.out _).mono ?_; rintro e w9 ⟨rfl, rfl⟩
      go_wp2_with fail
      go_ret
      exact ⟨rfl, (B.alloc (by have := B.size; simp <;> omega) _)⟩
end Go.Proofs.YtnjacgjcoikngaaDoor
