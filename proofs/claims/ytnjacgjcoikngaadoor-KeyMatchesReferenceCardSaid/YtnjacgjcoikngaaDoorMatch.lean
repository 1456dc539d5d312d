/-
  All functions of key return what the reference implementation returns: the law KeyMatchesReference returns true for every key, step, interval, list of pitches and list of signs, valid or not, and leaves them as they were.
  Conditions: what the listed package variables hold when the call begins (the card ties it to the program's text).
-/
import Derived.Test.YtnjacgjcoikngaaDoorKz
namespace Go.Proofs.YtnjacgjcoikngaaDoor
open Go.RowKit

namespace Ky
theorem signR_len {k : Int} {l : List P3} {g : List Int} {E : Int} (h : signR k l = (g, E)) : g.length ≤ 1000 := by
  unfold signR at h
  split at h
  · simp only [Prod.mk.injEq] at h; obtain ⟨rfl, _⟩ := h; simp
  · split at h <;> (simp only [Prod.mk.injEq] at h; obtain ⟨rfl, _⟩ := h)
    · rw [sgn_length]; omega
    · simp
theorem readR_len {k : Int} {l m : List P3} {g : List Int} {E : Int} (h : readR k l g = (m, E)) : m.length ≤ 1000 := by
  unfold readR at h
  split at h
  · simp only [Prod.mk.injEq] at h; obtain ⟨rfl, _⟩ := h; simp
  · split at h <;> (simp only [Prod.mk.injEq] at h; obtain ⟨rfl, _⟩ := h)
    · rw [rds_length]; omega
    · simp
end Ky

set_option maxHeartbeats 3200000 in
set_option maxRecDepth 100000 in
theorem keyMatchesReference_walk (k s i t : Int) (A : Option Addr) (len cap : Nat) (l : List Ky.P3) (hl : l.length = len) (hm : len ≤ maxLen) (D : Option Addr) (gl gcap : Nat) (g : List Int) (hg : g.length = gl) (hm2 : gl ≤ maxLen) (hw : ∀ x ∈ g, -9223372036854775808 ≤ x ∧ x ≤ 9223372036854775807) (w : World) (hG : GK w) (hL : SlP w A l) (hD : SlI w D g) :
    Calls Tryd.prog 3 #[.int .i64 k, .int .i64 s, .agg #[.int .i64 i, .int .i64 t], .slice A len cap, .slice D gl gcap] w fun e w' => e = .returned (.bool true) ∧ Below w.heap.size w w' := by
  unfold maxLen at hm hm2
  have hlen : len ≤ 9223372036854775807 := by omega
  have hgl : gl ≤ 9223372036854775807 := by omega
  have HN := Lib.hid hl
  have HM := Lib.hid hg
  have HW := Lib.hid hw
  clear hl hg hw hm hm2
  by_cases h60 : 60 < len ∧ len ≤ 1000
  · obtain ⟨l1, l2⟩ := h60
    go_enter Tryd.func3, Tryd.ntmps3
    go_wp2_with fail
    have B := Below.refl w.heap.size w
    refine (head_any _ (hG.alloc _)).mono ?_; rintro e w1 ⟨rfl, hb⟩
    replace hL := (hL.alloc _).below hb
    replace hD := (hD.alloc _).below hb
    have P := (At2.new _ (i) (t) _).below hb
    replace hG := (hG.alloc _).below hb
    replace B := (B.alloc (by have := B.size; simp <;> omega) _).trans (hb.mono (by have := B.size; simp <;> omega))
    clear hb
    have lP := P.lt; have cP0 := P.c0; have cP1 := P.c1
    go_wp2_with fail
    go_ret
    exact ⟨rfl, B⟩
  · by_cases h2000 : 2000 < gl
    · by_cases l1 : 60 < len
      · have l2 : ¬ len ≤ 1000 := by omega
        go_enter Tryd.func3, Tryd.ntmps3
        go_wp2_with fail
        have B := Below.refl w.heap.size w
        refine (head_any _ (hG.alloc _)).mono ?_; rintro e w1 ⟨rfl, hb⟩
        replace hL := (hL.alloc _).below hb
        replace hD := (hD.alloc _).below hb
        have P := (At2.new _ (i) (t) _).below hb
        replace hG := (hG.alloc _).below hb
        replace B := (B.alloc (by have := B.size; simp <;> omega) _).trans (hb.mono (by have := B.size; simp <;> omega))
        clear hb
        have lP := P.lt; have cP0 := P.c0; have cP1 := P.c1
        go_wp2_with fail
        go_ret
        exact ⟨rfl, B⟩
      · skip
        go_enter Tryd.func3, Tryd.ntmps3
        go_wp2_with fail
        have B := Below.refl w.heap.size w
        refine (head_any _ (hG.alloc _)).mono ?_; rintro e w1 ⟨rfl, hb⟩
        replace hL := (hL.alloc _).below hb
        replace hD := (hD.alloc _).below hb
        have P := (At2.new _ (i) (t) _).below hb
        replace hG := (hG.alloc _).below hb
        replace B := (B.alloc (by have := B.size; simp <;> omega) _).trans (hb.mono (by have := B.size; simp <;> omega))
        clear hb
        have lP := P.lt; have cP0 := P.c0; have cP1 := P.c1
        go_wp2_with fail
        go_ret
        exact ⟨rfl, B⟩
    · obtain ⟨⟨a1, e1⟩, h1⟩ : ∃ r, Ky.altR k s = r := ⟨_, rfl⟩
      obtain ⟨⟨a2, e2⟩, h2⟩ : ∃ r, Ky.fifR i t = r := ⟨_, rfl⟩
      obtain ⟨⟨K, I, T, e3⟩, h3⟩ : ∃ r, Ky.moveR k i t = r := ⟨_, rfl⟩
      obtain ⟨⟨g1, e4⟩, h4⟩ : ∃ r, Ky.signR k l = r := ⟨_, rfl⟩
      obtain ⟨⟨m1, e5⟩, h5⟩ : ∃ r, Ky.readR k l g = r := ⟨_, rfl⟩
      obtain ⟨n1, hn1⟩ : ∃ n, g1.length = n := ⟨_, rfl⟩
      obtain ⟨n2, hn2⟩ : ∃ n, m1.length = n := ⟨_, rfl⟩
      have b1 : n1 ≤ 1000 := hn1 ▸ Ky.signR_len h4
      have b2 : n2 ≤ 1000 := hn2 ▸ Ky.readR_len h5
      have H1 := Lib.hid h1; have H2 := Lib.hid h2; have H3 := Lib.hid h3; have H4 := Lib.hid h4; have H5 := Lib.hid h5
      have HN1 := Lib.hid hn1; have HN2 := Lib.hid hn2
      clear h1 h2 h3 h4 h5 hn1 hn2
      by_cases l1 : 60 < len
      · have l2 : ¬ len ≤ 1000 := by omega
        go_enter Tryd.func3, Tryd.ntmps3
        go_wp2_with fail
        have B := Below.refl w.heap.size w
        refine (head_any _ (hG.alloc _)).mono ?_; rintro e w1 ⟨rfl, hb⟩
        replace hL := (hL.alloc _).below hb
        replace hD := (hD.alloc _).below hb
        have P := (At2.new _ (i) (t) _).below hb
        replace hG := (hG.alloc _).below hb
        replace B := (B.alloc (by have := B.size; simp <;> omega) _).trans (hb.mono (by have := B.size; simp <;> omega))
        clear hb
        have lP := P.lt; have cP0 := P.c0; have cP1 := P.c1
        go_wp2_with fail
        refine (alter_is _ _ _ _ H1.out _ hG).mono ?_; rintro e w2 ⟨rfl, hb⟩
        replace hL := hL.below hb
        replace hD := hD.below hb
        replace P := P.below hb
        replace hG := hG.below hb
        replace B := B.trans (hb.mono (by have := B.size; simp <;> omega))
        clear hb lP cP0 cP1
        go_wp2_with fail
        refine (kAlter_is _ _ _ _ H1.out _).mono ?_; rintro e w3 ⟨rfl, hb⟩
        replace hL := hL.below hb
        replace hD := hD.below hb
        replace P := P.below hb
        replace hG := hG.below hb
        replace B := B.trans (hb.mono (by have := B.size; simp <;> omega))
        clear hb
        have lP := P.lt; have cP0 := P.c0; have cP1 := P.c1
        go_wp2_with fail
        refine (fifths_is _ _ _ _ H2.out _).mono ?_; rintro e w4 ⟨rfl, hb⟩
        replace hL := hL.below hb
        replace hD := hD.below hb
        replace P := P.below hb
        replace hG := hG.below hb
        replace B := B.trans (hb.mono (by have := B.size; simp <;> omega))
        clear hb lP cP0 cP1
        have lP := P.lt; have cP0 := P.c0; have cP1 := P.c1
        go_wp2_with fail
        refine (kfifths_is _ _ _ _ H2.out _).mono ?_; rintro e w5 ⟨rfl, hb⟩
        replace hL := hL.below hb
        replace hD := hD.below hb
        replace P := P.below hb
        replace hG := hG.below hb
        replace B := B.trans (hb.mono (by have := B.size; simp <;> omega))
        clear hb lP cP0 cP1
        have lP := P.lt; have cP0 := P.c0; have cP1 := P.c1
        go_wp2_with fail
        refine (move_is _ _ _ _ _ _ _ H3.out _).mono ?_; rintro e w6 ⟨rfl, hb⟩
        replace hL := hL.below hb
        replace hD := hD.below hb
        replace P := P.below hb
        replace hG := hG.below hb
        replace B := B.trans (hb.mono (by have := B.size; simp <;> omega))
        clear hb lP cP0 cP1
        have lP := P.lt; have cP0 := P.c0; have cP1 := P.c1
        go_wp2_with fail
        refine (kmove_is _ _ _ _ _ _ _ H3.out _).mono ?_; rintro e w7 ⟨rfl, hb⟩
        replace hL := (hL.alloc _).below hb
        replace hD := (hD.alloc _).below hb
        replace P := (P.alloc _).below hb
        have X := (At2.new _ (I) (T) _).below hb
        replace hG := (hG.alloc _).below hb
        replace B := (B.alloc (by have := B.size; simp <;> omega) _).trans (hb.mono (by have := B.size; simp <;> omega))
        clear hb lP cP0 cP1
        have lX := X.lt; have cX0 := X.c0; have cX1 := X.c1
        go_wp2_with fail
        refine (signs_is k l g1 e4 len cap A H4.out HN.out hlen _ (hG.alloc _) (hL.alloc _)).mono ?_; rintro e w8 ⟨D1, c1, rfl, S1, -, hb⟩
        replace hL := (hL.alloc _).below hb
        replace hD := (hD.alloc _).below hb
        replace P := (P.alloc _).below hb
        replace X := (X.alloc _).below hb
        have Y := (At2.new _ (I) (T) _).below hb
        replace hG := (hG.alloc _).below hb
        replace B := (B.alloc (by have := B.size; simp <;> omega) _).trans (hb.mono (by have := B.size; simp <;> omega))
        clear hb lX cX0 cX1
        simp only [HN1.out]
        go_wp2_with fail
        refine (ksigns_is k l g1 e4 len cap A H4.out HN.out hlen _ hL).mono ?_; rintro e w9 ⟨D2, c2, rfl, S2, hb⟩
        replace hL := hL.below hb
        replace hD := hD.below hb
        replace P := P.below hb
        replace X := X.below hb
        replace Y := Y.below hb
        replace S1 := S1.below hb
        replace hG := hG.below hb
        replace B := B.trans (hb.mono (by have := B.size; simp <;> omega))
        clear hb
        simp only [HN1.out]
        go_wp2_with fail
        refine (ksameInts_is g1 n1 c1 c2 D1 D2 HN1.out (by omega) _ S1 S2).mono ?_; rintro e w10 ⟨rfl, hb⟩
        replace hL := hL.below hb
        replace hD := hD.below hb
        replace P := P.below hb
        replace X := X.below hb
        replace Y := Y.below hb
        replace S1 := S1.below hb
        replace S2 := S2.below hb
        replace hG := hG.below hb
        replace B := B.trans (hb.mono (by have := B.size; simp <;> omega))
        clear hb
        go_wp2_with fail
        refine (read_is k l g m1 e5 len cap gl gcap A D H5.out HN.out HM.out hlen hgl HW.out _ hG hL hD).mono ?_; rintro e w11 ⟨D3, c3, rfl, L3, hb⟩
        replace hL := hL.below hb
        replace hD := hD.below hb
        replace P := P.below hb
        replace X := X.below hb
        replace Y := Y.below hb
        replace S1 := S1.below hb
        replace S2 := S2.below hb
        replace hG := hG.below hb
        replace B := B.trans (hb.mono (by have := B.size; simp <;> omega))
        clear hb
        simp only [HN2.out]
        go_wp2_with fail
        refine (kread_is k l g m1 e5 len cap gl gcap A D H5.out HN.out HM.out hlen hgl _ hL hD).mono ?_; rintro e w12 ⟨D4, c4, rfl, L4, hb⟩
        replace hL := hL.below hb
        replace hD := hD.below hb
        replace P := P.below hb
        replace X := X.below hb
        replace Y := Y.below hb
        replace S1 := S1.below hb
        replace S2 := S2.below hb
        replace L3 := L3.below hb
        replace hG := hG.below hb
        replace B := B.trans (hb.mono (by have := B.size; simp <;> omega))
        clear hb
        simp only [HN2.out]
        go_wp2_with fail
        refine (ksame_is m1 n2 c3 c4 D3 D4 HN2.out (by omega) _ L3 L4).mono ?_; rintro e w13 ⟨rfl, hb⟩
        replace hL := hL.below hb
        replace hD := hD.below hb
        replace P := P.below hb
        replace X := X.below hb
        replace Y := Y.below hb
        replace S1 := S1.below hb
        replace S2 := S2.below hb
        replace L3 := L3.below hb
        replace L4 := L4.below hb
        replace hG := hG.below hb
        replace B := B.trans (hb.mono (by have := B.size; simp <;> omega))
        clear hb
        go_wp2_with fail
        go_ret
        exact ⟨rfl, B⟩
      · skip
        go_enter Tryd.func3, Tryd.ntmps3
        go_wp2_with fail
        have B := Below.refl w.heap.size w
        refine (head_any _ (hG.alloc _)).mono ?_; rintro e w1 ⟨rfl, hb⟩
        replace hL := (hL.alloc _).below hb
        replace hD := (hD.alloc _).below hb
        have P := (At2.new _ (i) (t) _).below hb
        replace hG := (hG.alloc _).below hb
        replace B := (B.alloc (by have := B.size; simp <;> omega) _).trans (hb.mono (by have := B.size; simp <;> omega))
        clear hb
        have lP := P.lt; have cP0 := P.c0; have cP1 := P.c1
        go_wp2_with fail
        refine (alter_is _ _ _ _ H1.out _ hG).mono ?_; rintro e w2 ⟨rfl, hb⟩
        replace hL := hL.below hb
        replace hD := hD.below hb
        replace P := P.below hb
        replace hG := hG.below hb
        replace B := B.trans (hb.mono (by have := B.size; simp <;> omega))
        clear hb lP cP0 cP1
        go_wp2_with fail
        refine (kAlter_is _ _ _ _ H1.out _).mono ?_; rintro e w3 ⟨rfl, hb⟩
        replace hL := hL.below hb
        replace hD := hD.below hb
        replace P := P.below hb
        replace hG := hG.below hb
        replace B := B.trans (hb.mono (by have := B.size; simp <;> omega))
        clear hb
        have lP := P.lt; have cP0 := P.c0; have cP1 := P.c1
        go_wp2_with fail
        refine (fifths_is _ _ _ _ H2.out _).mono ?_; rintro e w4 ⟨rfl, hb⟩
        replace hL := hL.below hb
        replace hD := hD.below hb
        replace P := P.below hb
        replace hG := hG.below hb
        replace B := B.trans (hb.mono (by have := B.size; simp <;> omega))
        clear hb lP cP0 cP1
        have lP := P.lt; have cP0 := P.c0; have cP1 := P.c1
        go_wp2_with fail
        refine (kfifths_is _ _ _ _ H2.out _).mono ?_; rintro e w5 ⟨rfl, hb⟩
        replace hL := hL.below hb
        replace hD := hD.below hb
        replace P := P.below hb
        replace hG := hG.below hb
        replace B := B.trans (hb.mono (by have := B.size; simp <;> omega))
        clear hb lP cP0 cP1
        have lP := P.lt; have cP0 := P.c0; have cP1 := P.c1
        go_wp2_with fail
        refine (move_is _ _ _ _ _ _ _ H3.out _).mono ?_; rintro e w6 ⟨rfl, hb⟩
        replace hL := hL.below hb
        replace hD := hD.below hb
        replace P := P.below hb
        replace hG := hG.below hb
        replace B := B.trans (hb.mono (by have := B.size; simp <;> omega))
        clear hb lP cP0 cP1
        have lP := P.lt; have cP0 := P.c0; have cP1 := P.c1
        go_wp2_with fail
        refine (kmove_is _ _ _ _ _ _ _ H3.out _).mono ?_; rintro e w7 ⟨rfl, hb⟩
        replace hL := (hL.alloc _).below hb
        replace hD := (hD.alloc _).below hb
        replace P := (P.alloc _).below hb
        have X := (At2.new _ (I) (T) _).below hb
        replace hG := (hG.alloc _).below hb
        replace B := (B.alloc (by have := B.size; simp <;> omega) _).trans (hb.mono (by have := B.size; simp <;> omega))
        clear hb lP cP0 cP1
        have lX := X.lt; have cX0 := X.c0; have cX1 := X.c1
        go_wp2_with fail
        refine (signs_is k l g1 e4 len cap A H4.out HN.out hlen _ (hG.alloc _) (hL.alloc _)).mono ?_; rintro e w8 ⟨D1, c1, rfl, S1, -, hb⟩
        replace hL := (hL.alloc _).below hb
        replace hD := (hD.alloc _).below hb
        replace P := (P.alloc _).below hb
        replace X := (X.alloc _).below hb
        have Y := (At2.new _ (I) (T) _).below hb
        replace hG := (hG.alloc _).below hb
        replace B := (B.alloc (by have := B.size; simp <;> omega) _).trans (hb.mono (by have := B.size; simp <;> omega))
        clear hb lX cX0 cX1
        simp only [HN1.out]
        go_wp2_with fail
        refine (ksigns_is k l g1 e4 len cap A H4.out HN.out hlen _ hL).mono ?_; rintro e w9 ⟨D2, c2, rfl, S2, hb⟩
        replace hL := hL.below hb
        replace hD := hD.below hb
        replace P := P.below hb
        replace X := X.below hb
        replace Y := Y.below hb
        replace S1 := S1.below hb
        replace hG := hG.below hb
        replace B := B.trans (hb.mono (by have := B.size; simp <;> omega))
        clear hb
        simp only [HN1.out]
        go_wp2_with fail
        refine (ksameInts_is g1 n1 c1 c2 D1 D2 HN1.out (by omega) _ S1 S2).mono ?_; rintro e w10 ⟨rfl, hb⟩
        replace hL := hL.below hb
        replace hD := hD.below hb
        replace P := P.below hb
        replace X := X.below hb
        replace Y := Y.below hb
        replace S1 := S1.below hb
        replace S2 := S2.below hb
        replace hG := hG.below hb
        replace B := B.trans (hb.mono (by have := B.size; simp <;> omega))
        clear hb
        go_wp2_with fail
        refine (read_is k l g m1 e5 len cap gl gcap A D H5.out HN.out HM.out hlen hgl HW.out _ hG hL hD).mono ?_; rintro e w11 ⟨D3, c3, rfl, L3, hb⟩
        replace hL := hL.below hb
        replace hD := hD.below hb
        replace P := P.below hb
        replace X := X.below hb
        replace Y := Y.below hb
        replace S1 := S1.below hb
        replace S2 := S2.below hb
        replace hG := hG.below hb
        replace B := B.trans (hb.mono (by have := B.size; simp <;> omega))
        clear hb
        simp only [HN2.out]
        go_wp2_with fail
        refine (kread_is k l g m1 e5 len cap gl gcap A D H5.out HN.out HM.out hlen hgl _ hL hD).mono ?_; rintro e w12 ⟨D4, c4, rfl, L4, hb⟩
        replace hL := hL.below hb
        replace hD := hD.below hb
        replace P := P.below hb
        replace X := X.below hb
        replace Y := Y.below hb
        replace S1 := S1.below hb
        replace S2 := S2.below hb
        replace L3 := L3.below hb
        replace hG := hG.below hb
        replace B := B.trans (hb.mono (by have := B.size; simp <;> omega))
        clear hb
        simp only [HN2.out]
        go_wp2_with fail
        refine (ksame_is m1 n2 c3 c4 D3 D4 HN2.out (by omega) _ L3 L4).mono ?_; rintro e w13 ⟨rfl, hb⟩
        replace hL := hL.below hb
        replace hD := hD.below hb
        replace P := P.below hb
        replace X := X.below hb
        replace Y := Y.below hb
        replace S1 := S1.below hb
        replace S2 := S2.below hb
        replace L3 := L3.below hb
        replace L4 := L4.below hb
        replace hG := hG.below hb
        replace B := B.trans (hb.mono (by have := B.size; simp <;> omega))
        clear hb
        go_wp2_with fail
        go_ret
        exact ⟨rfl, B⟩
end Go.Proofs.YtnjacgjcoikngaaDoor
