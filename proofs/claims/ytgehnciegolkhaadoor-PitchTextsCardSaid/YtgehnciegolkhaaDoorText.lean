/-
  Each pitch is read from its text, only texts are read, and different pitches have different texts: the law PitchTexts returns true for every two pitches, valid or not, and every string, and leaves them as they were.
  Conditions: what the listed package variables hold when the call begins (the card ties it to the program's text).
-/
import Derived.Test.YtgehnciegolkhaaDoorPl
namespace Go.Proofs.YtgehnciegolkhaaDoor
open Go.RowKit

set_option maxHeartbeats 1600000 in
set_option maxRecDepth 100000 in
theorem pitchTexts_walk (s a o p b q : Int) (S : ByteArray) (w : World) (hG : Glob w) :
    Calls Tryd.prog 8 #[.agg #[.int .i64 s, .int .i64 a, .int .i64 o], .agg #[.int .i64 p, .int .i64 b, .int .i64 q], .string S] w fun e w' => e = .returned (.bool true) ∧ Below w.heap.size w w' := by
  by_cases hl : S.size ≤ 100
  · have hl' : (S.size : Int) ≤ 100 := by omega
    obtain ⟨⟨X, Y, Z, E⟩, h⟩ : ∃ r, Tx.paR S = r := ⟨_, rfl⟩
    obtain ⟨⟨T1, F1⟩, g1⟩ : ∃ r, Tx.txR s a o = r := ⟨_, rfl⟩
    obtain ⟨⟨T2, F2⟩, g2⟩ : ∃ r, Tx.txR p b q = r := ⟨_, rfl⟩
    have H := Lib.hid h
    have H1 := Lib.hid g1
    have H2 := Lib.hid g2
    have cE : (E = 0 ∧ Tx.txR X Y Z = (S, 0)) ∨ E = 7 := by
      by_cases h0 : E = 0
      · subst h0
        obtain ⟨h1, h2⟩ := Tx.paR_ok h
        exact .inl ⟨rfl, by unfold Tx.txR; rw [if_pos h1, h2]⟩
      · refine .inr ?_
        unfold Tx.paR at h
        split at h <;> simp only [Prod.mk.injEq] at h <;> omega
    have c1 : (F1 = 0 ∧ Pt.pv s a o = true ∧ T1 = Tx.txtB s a o) ∨ F1 = 1 := by
      unfold Tx.txR at g1
      split at g1 <;> simp only [Prod.mk.injEq] at g1
      · rename_i h1; exact .inl ⟨g1.2.symm, h1, g1.1.symm⟩
      · exact .inr g1.2.symm
    have c2 : (F2 = 0 ∧ Pt.pv p b q = true ∧ T2 = Tx.txtB p b q) ∨ F2 = 1 := by
      unfold Tx.txR at g2
      split at g2 <;> simp only [Prod.mk.injEq] at g2
      · rename_i h1; exact .inl ⟨g2.2.symm, h1, g2.1.symm⟩
      · exact .inr g2.2.symm
    clear h g1 g2
    rcases cE with ⟨rfl, hT⟩ | rfl
    · have HT := Lib.hid hT
      clear hT
      rcases c1 with ⟨rfl, v1, e1⟩ | rfl
      · rcases c2 with ⟨rfl, v2, e2⟩ | rfl
        · have HP : Hid (Tx.paR T1 = (s, a, o, 0)) := Lib.hid (by rw [e1]; exact Tx.paR_of v1)
          by_cases heq : s = p ∧ a = b ∧ o = q
          · obtain ⟨rfl, rfl, rfl⟩ := heq
            obtain rfl : T1 = T2 := e1.trans e2.symm
            clear v1 v2 e1 e2
            go_enter Tryd.func8, Tryd.ntmps8
            go_wp2_with fail
            have B := Below.refl w.heap.size w
            refine (head_any _ ((hG.alloc _).alloc _)).mono ?_; rintro e w1 ⟨rfl, hb⟩
            have P := ((At3.new _ (s) (a) (o) _).alloc _).below hb
            have Q := At3.at (w.heap.size + 1) ((At3.new _ (s) (a) (o) _).below hb) (by simp only [World.size_alloc])
            replace hG := ((hG.alloc _).alloc _).below hb
            replace B := ((B.alloc (by have := B.size; simp <;> omega) _).alloc (by have := B.size; simp <;> omega) _).trans (hb.mono (by have := B.size; simp <;> omega))
            clear hb
            go_wp2_with fail
            refine (parse_is _ _ _ _ _ H.out _ hG).mono ?_; rintro e w2 ⟨rfl, hb⟩
            replace P := P.below hb
            replace Q := Q.below hb
            replace hG := hG.below hb
            replace B := B.trans (hb.mono (by have := B.size; simp <;> omega))
            clear hb
            have lP := P.lt; have cP0 := P.c0; have cP1 := P.c1; have cP2 := P.c2
            go_wp2_with fail
            refine (text_is _ _ _ _ _ HT.out _ (hG.alloc _)).mono ?_; rintro e w3 ⟨rfl, hb⟩
            replace P := (P.alloc _).below hb
            replace Q := (Q.alloc _).below hb
            have X1 := (At3.new _ (X) (Y) (Z) _).below hb
            replace hG := (hG.alloc _).below hb
            replace B := (B.alloc (by have := B.size; simp <;> omega) _).trans (hb.mono (by have := B.size; simp <;> omega))
            clear hb lP cP0 cP1 cP2
            have lP := P.lt; have cP0 := P.c0; have cP1 := P.c1; have cP2 := P.c2
            go_wp2_with fail
            refine (text_is _ _ _ _ _ H1.out _ hG).mono ?_; rintro e w4 ⟨rfl, hb⟩
            replace P := P.below hb
            replace Q := Q.below hb
            replace X1 := X1.below hb
            replace hG := hG.below hb
            replace B := B.trans (hb.mono (by have := B.size; simp <;> omega))
            clear hb lP cP0 cP1 cP2
            have lQ := Q.lt; have cQ0 := Q.c0; have cQ1 := Q.c1; have cQ2 := Q.c2
            go_wp2_with fail
            refine (text_is _ _ _ _ _ H2.out _ hG).mono ?_; rintro e w5 ⟨rfl, hb⟩
            replace P := P.below hb
            replace Q := Q.below hb
            replace X1 := X1.below hb
            replace hG := hG.below hb
            replace B := B.trans (hb.mono (by have := B.size; simp <;> omega))
            clear hb lQ cQ0 cQ1 cQ2
            go_wp2_with fail
            refine (parse_is _ _ _ _ _ HP.out _ hG).mono ?_; rintro e w6 ⟨rfl, hb⟩
            replace P := P.below hb
            replace Q := Q.below hb
            replace X1 := X1.below hb
            replace hG := hG.below hb
            replace B := B.trans (hb.mono (by have := B.size; simp <;> omega))
            clear hb
            have lP := P.lt; have cP0 := P.c0; have cP1 := P.c1; have cP2 := P.c2
            have lQ := Q.lt; have cQ0 := Q.c0; have cQ1 := Q.c1; have cQ2 := Q.c2
            go_wp2_with fail
            go_ret
            exact ⟨rfl, (B.alloc (by have := B.size; simp <;> omega) _)⟩
          · have hT : T1 ≠ T2 := fun e => heq (Tx.txt_inj v1 v2 (e1.symm.trans (e.trans e2)))
            have hT' := str_ne hT
            have HQ := Lib.hid heq
            clear v1 v2 e1 e2 hT heq
            go_enter Tryd.func8, Tryd.ntmps8
            go_wp2_with fail
            have B := Below.refl w.heap.size w
            refine (head_any _ ((hG.alloc _).alloc _)).mono ?_; rintro e w1 ⟨rfl, hb⟩
            have P := ((At3.new _ (s) (a) (o) _).alloc _).below hb
            have Q := At3.at (w.heap.size + 1) ((At3.new _ (p) (b) (q) _).below hb) (by simp only [World.size_alloc])
            replace hG := ((hG.alloc _).alloc _).below hb
            replace B := ((B.alloc (by have := B.size; simp <;> omega) _).alloc (by have := B.size; simp <;> omega) _).trans (hb.mono (by have := B.size; simp <;> omega))
            clear hb
            go_wp2_with fail
            refine (parse_is _ _ _ _ _ H.out _ hG).mono ?_; rintro e w2 ⟨rfl, hb⟩
            replace P := P.below hb
            replace Q := Q.below hb
            replace hG := hG.below hb
            replace B := B.trans (hb.mono (by have := B.size; simp <;> omega))
            clear hb
            have lP := P.lt; have cP0 := P.c0; have cP1 := P.c1; have cP2 := P.c2
            go_wp2_with fail
            refine (text_is _ _ _ _ _ HT.out _ (hG.alloc _)).mono ?_; rintro e w3 ⟨rfl, hb⟩
            replace P := (P.alloc _).below hb
            replace Q := (Q.alloc _).below hb
            have X1 := (At3.new _ (X) (Y) (Z) _).below hb
            replace hG := (hG.alloc _).below hb
            replace B := (B.alloc (by have := B.size; simp <;> omega) _).trans (hb.mono (by have := B.size; simp <;> omega))
            clear hb lP cP0 cP1 cP2
            have lP := P.lt; have cP0 := P.c0; have cP1 := P.c1; have cP2 := P.c2
            go_wp2_with fail
            refine (text_is _ _ _ _ _ H1.out _ hG).mono ?_; rintro e w4 ⟨rfl, hb⟩
            replace P := P.below hb
            replace Q := Q.below hb
            replace X1 := X1.below hb
            replace hG := hG.below hb
            replace B := B.trans (hb.mono (by have := B.size; simp <;> omega))
            clear hb lP cP0 cP1 cP2
            have lQ := Q.lt; have cQ0 := Q.c0; have cQ1 := Q.c1; have cQ2 := Q.c2
            go_wp2_with fail
            refine (text_is _ _ _ _ _ H2.out _ hG).mono ?_; rintro e w5 ⟨rfl, hb⟩
            replace P := P.below hb
            replace Q := Q.below hb
            replace X1 := X1.below hb
            replace hG := hG.below hb
            replace B := B.trans (hb.mono (by have := B.size; simp <;> omega))
            clear hb lQ cQ0 cQ1 cQ2
            go_wp2_with fail
            refine (parse_is _ _ _ _ _ HP.out _ hG).mono ?_; rintro e w6 ⟨rfl, hb⟩
            replace P := P.below hb
            replace Q := Q.below hb
            replace X1 := X1.below hb
            replace hG := hG.below hb
            replace B := B.trans (hb.mono (by have := B.size; simp <;> omega))
            clear hb
            have lP := P.lt; have cP0 := P.c0; have cP1 := P.c1; have cP2 := P.c2
            have lQ := Q.lt; have cQ0 := Q.c0; have cQ1 := Q.c1; have cQ2 := Q.c2
            go_wp2_with fail
            all_goals first
              | (exact absurd ⟨‹_›, ‹_›, ‹_›⟩ HQ.out)
              | (go_ret; exact ⟨rfl, (B.alloc (by have := B.size; simp <;> omega) _)⟩)
        · clear v1 e1
          go_enter Tryd.func8, Tryd.ntmps8
          go_wp2_with fail
          have B := Below.refl w.heap.size w
          refine (head_any _ ((hG.alloc _).alloc _)).mono ?_; rintro e w1 ⟨rfl, hb⟩
          have P := ((At3.new _ (s) (a) (o) _).alloc _).below hb
          have Q := At3.at (w.heap.size + 1) ((At3.new _ (p) (b) (q) _).below hb) (by simp only [World.size_alloc])
          replace hG := ((hG.alloc _).alloc _).below hb
          replace B := ((B.alloc (by have := B.size; simp <;> omega) _).alloc (by have := B.size; simp <;> omega) _).trans (hb.mono (by have := B.size; simp <;> omega))
          clear hb
          go_wp2_with fail
          refine (parse_is _ _ _ _ _ H.out _ hG).mono ?_; rintro e w2 ⟨rfl, hb⟩
          replace P := P.below hb
          replace Q := Q.below hb
          replace hG := hG.below hb
          replace B := B.trans (hb.mono (by have := B.size; simp <;> omega))
          clear hb
          have lP := P.lt; have cP0 := P.c0; have cP1 := P.c1; have cP2 := P.c2
          go_wp2_with fail
          refine (text_is _ _ _ _ _ HT.out _ (hG.alloc _)).mono ?_; rintro e w3 ⟨rfl, hb⟩
          replace P := (P.alloc _).below hb
          replace Q := (Q.alloc _).below hb
          have X1 := (At3.new _ (X) (Y) (Z) _).below hb
          replace hG := (hG.alloc _).below hb
          replace B := (B.alloc (by have := B.size; simp <;> omega) _).trans (hb.mono (by have := B.size; simp <;> omega))
          clear hb lP cP0 cP1 cP2
          have lP := P.lt; have cP0 := P.c0; have cP1 := P.c1; have cP2 := P.c2
          go_wp2_with fail
          refine (text_is _ _ _ _ _ H1.out _ hG).mono ?_; rintro e w4 ⟨rfl, hb⟩
          replace P := P.below hb
          replace Q := Q.below hb
          replace X1 := X1.below hb
          replace hG := hG.below hb
          replace B := B.trans (hb.mono (by have := B.size; simp <;> omega))
          clear hb lP cP0 cP1 cP2
          have lQ := Q.lt; have cQ0 := Q.c0; have cQ1 := Q.c1; have cQ2 := Q.c2
          go_wp2_with fail
          refine (text_is _ _ _ _ _ H2.out _ hG).mono ?_; rintro e w5 ⟨rfl, hb⟩
          replace P := P.below hb
          replace Q := Q.below hb
          replace X1 := X1.below hb
          replace hG := hG.below hb
          replace B := B.trans (hb.mono (by have := B.size; simp <;> omega))
          clear hb lQ cQ0 cQ1 cQ2
          go_wp2_with fail
          go_ret
          exact ⟨rfl, B⟩
      · have c2 : F2 = 0 ∨ F2 = 1 := by rcases c2 with h | h <;> simp [h]
        rcases c2 with rfl | rfl
        all_goals
          go_enter Tryd.func8, Tryd.ntmps8
          go_wp2_with fail
          have B := Below.refl w.heap.size w
          refine (head_any _ ((hG.alloc _).alloc _)).mono ?_; rintro e w1 ⟨rfl, hb⟩
          have P := ((At3.new _ (s) (a) (o) _).alloc _).below hb
          have Q := At3.at (w.heap.size + 1) ((At3.new _ (p) (b) (q) _).below hb) (by simp only [World.size_alloc])
          replace hG := ((hG.alloc _).alloc _).below hb
          replace B := ((B.alloc (by have := B.size; simp <;> omega) _).alloc (by have := B.size; simp <;> omega) _).trans (hb.mono (by have := B.size; simp <;> omega))
          clear hb
          go_wp2_with fail
          refine (parse_is _ _ _ _ _ H.out _ hG).mono ?_; rintro e w2 ⟨rfl, hb⟩
          replace P := P.below hb
          replace Q := Q.below hb
          replace hG := hG.below hb
          replace B := B.trans (hb.mono (by have := B.size; simp <;> omega))
          clear hb
          have lP := P.lt; have cP0 := P.c0; have cP1 := P.c1; have cP2 := P.c2
          go_wp2_with fail
          refine (text_is _ _ _ _ _ HT.out _ (hG.alloc _)).mono ?_; rintro e w3 ⟨rfl, hb⟩
          replace P := (P.alloc _).below hb
          replace Q := (Q.alloc _).below hb
          have X1 := (At3.new _ (X) (Y) (Z) _).below hb
          replace hG := (hG.alloc _).below hb
          replace B := (B.alloc (by have := B.size; simp <;> omega) _).trans (hb.mono (by have := B.size; simp <;> omega))
          clear hb lP cP0 cP1 cP2
          have lP := P.lt; have cP0 := P.c0; have cP1 := P.c1; have cP2 := P.c2
          go_wp2_with fail
          refine (text_is _ _ _ _ _ H1.out _ hG).mono ?_; rintro e w4 ⟨rfl, hb⟩
          replace P := P.below hb
          replace Q := Q.below hb
          replace X1 := X1.below hb
          replace hG := hG.below hb
          replace B := B.trans (hb.mono (by have := B.size; simp <;> omega))
          clear hb lP cP0 cP1 cP2
          have lQ := Q.lt; have cQ0 := Q.c0; have cQ1 := Q.c1; have cQ2 := Q.c2
          go_wp2_with fail
          refine (text_is _ _ _ _ _ H2.out _ hG).mono ?_; rintro e w5 ⟨rfl, hb⟩
          replace P := P.below hb
          replace Q := Q.below hb
          replace X1 := X1.below hb
          replace hG := hG.below hb
          replace B := B.trans (hb.mono (by have := B.size; simp <;> omega))
          clear hb lQ cQ0 cQ1 cQ2
          go_wp2_with fail
          go_ret
          exact ⟨rfl, B⟩
    · skip
      rcases c1 with ⟨rfl, v1, e1⟩ | rfl
      · rcases c2 with ⟨rfl, v2, e2⟩ | rfl
        · have HP : Hid (Tx.paR T1 = (s, a, o, 0)) := Lib.hid (by rw [e1]; exact Tx.paR_of v1)
          by_cases heq : s = p ∧ a = b ∧ o = q
          · obtain ⟨rfl, rfl, rfl⟩ := heq
            obtain rfl : T1 = T2 := e1.trans e2.symm
            clear v1 v2 e1 e2
            go_enter Tryd.func8, Tryd.ntmps8
            go_wp2_with fail
            have B := Below.refl w.heap.size w
            refine (head_any _ ((hG.alloc _).alloc _)).mono ?_; rintro e w1 ⟨rfl, hb⟩
            have P := ((At3.new _ (s) (a) (o) _).alloc _).below hb
            have Q := At3.at (w.heap.size + 1) ((At3.new _ (s) (a) (o) _).below hb) (by simp only [World.size_alloc])
            replace hG := ((hG.alloc _).alloc _).below hb
            replace B := ((B.alloc (by have := B.size; simp <;> omega) _).alloc (by have := B.size; simp <;> omega) _).trans (hb.mono (by have := B.size; simp <;> omega))
            clear hb
            go_wp2_with fail
            refine (parse_is _ _ _ _ _ H.out _ hG).mono ?_; rintro e w2 ⟨rfl, hb⟩
            replace P := P.below hb
            replace Q := Q.below hb
            replace hG := hG.below hb
            replace B := B.trans (hb.mono (by have := B.size; simp <;> omega))
            clear hb
            have lP := P.lt; have cP0 := P.c0; have cP1 := P.c1; have cP2 := P.c2
            go_wp2_with fail
            refine (text_is _ _ _ _ _ H1.out _ (hG.alloc _)).mono ?_; rintro e w3 ⟨rfl, hb⟩
            replace P := (P.alloc _).below hb
            replace Q := (Q.alloc _).below hb
            have X1 := (At3.new _ (X) (Y) (Z) _).below hb
            replace hG := (hG.alloc _).below hb
            replace B := (B.alloc (by have := B.size; simp <;> omega) _).trans (hb.mono (by have := B.size; simp <;> omega))
            clear hb lP cP0 cP1 cP2
            have lQ := Q.lt; have cQ0 := Q.c0; have cQ1 := Q.c1; have cQ2 := Q.c2
            go_wp2_with fail
            refine (text_is _ _ _ _ _ H2.out _ hG).mono ?_; rintro e w4 ⟨rfl, hb⟩
            replace P := P.below hb
            replace Q := Q.below hb
            replace X1 := X1.below hb
            replace hG := hG.below hb
            replace B := B.trans (hb.mono (by have := B.size; simp <;> omega))
            clear hb lQ cQ0 cQ1 cQ2
            go_wp2_with fail
            refine (parse_is _ _ _ _ _ HP.out _ hG).mono ?_; rintro e w5 ⟨rfl, hb⟩
            replace P := P.below hb
            replace Q := Q.below hb
            replace X1 := X1.below hb
            replace hG := hG.below hb
            replace B := B.trans (hb.mono (by have := B.size; simp <;> omega))
            clear hb
            have lP := P.lt; have cP0 := P.c0; have cP1 := P.c1; have cP2 := P.c2
            have lQ := Q.lt; have cQ0 := Q.c0; have cQ1 := Q.c1; have cQ2 := Q.c2
            go_wp2_with fail
            go_ret
            exact ⟨rfl, (B.alloc (by have := B.size; simp <;> omega) _)⟩
          · have hT : T1 ≠ T2 := fun e => heq (Tx.txt_inj v1 v2 (e1.symm.trans (e.trans e2)))
            have hT' := str_ne hT
            have HQ := Lib.hid heq
            clear v1 v2 e1 e2 hT heq
            go_enter Tryd.func8, Tryd.ntmps8
            go_wp2_with fail
            have B := Below.refl w.heap.size w
            refine (head_any _ ((hG.alloc _).alloc _)).mono ?_; rintro e w1 ⟨rfl, hb⟩
            have P := ((At3.new _ (s) (a) (o) _).alloc _).below hb
            have Q := At3.at (w.heap.size + 1) ((At3.new _ (p) (b) (q) _).below hb) (by simp only [World.size_alloc])
            replace hG := ((hG.alloc _).alloc _).below hb
            replace B := ((B.alloc (by have := B.size; simp <;> omega) _).alloc (by have := B.size; simp <;> omega) _).trans (hb.mono (by have := B.size; simp <;> omega))
            clear hb
            go_wp2_with fail
            refine (parse_is _ _ _ _ _ H.out _ hG).mono ?_; rintro e w2 ⟨rfl, hb⟩
            replace P := P.below hb
            replace Q := Q.below hb
            replace hG := hG.below hb
            replace B := B.trans (hb.mono (by have := B.size; simp <;> omega))
            clear hb
            have lP := P.lt; have cP0 := P.c0; have cP1 := P.c1; have cP2 := P.c2
            go_wp2_with fail
            refine (text_is _ _ _ _ _ H1.out _ (hG.alloc _)).mono ?_; rintro e w3 ⟨rfl, hb⟩
            replace P := (P.alloc _).below hb
            replace Q := (Q.alloc _).below hb
            have X1 := (At3.new _ (X) (Y) (Z) _).below hb
            replace hG := (hG.alloc _).below hb
            replace B := (B.alloc (by have := B.size; simp <;> omega) _).trans (hb.mono (by have := B.size; simp <;> omega))
            clear hb lP cP0 cP1 cP2
            have lQ := Q.lt; have cQ0 := Q.c0; have cQ1 := Q.c1; have cQ2 := Q.c2
            go_wp2_with fail
            refine (text_is _ _ _ _ _ H2.out _ hG).mono ?_; rintro e w4 ⟨rfl, hb⟩
            replace P := P.below hb
            replace Q := Q.below hb
            replace X1 := X1.below hb
            replace hG := hG.below hb
            replace B := B.trans (hb.mono (by have := B.size; simp <;> omega))
            clear hb lQ cQ0 cQ1 cQ2
            go_wp2_with fail
            refine (parse_is _ _ _ _ _ HP.out _ hG).mono ?_; rintro e w5 ⟨rfl, hb⟩
            replace P := P.below hb
            replace Q := Q.below hb
            replace X1 := X1.below hb
            replace hG := hG.below hb
            replace B := B.trans (hb.mono (by have := B.size; simp <;> omega))
            clear hb
            have lP := P.lt; have cP0 := P.c0; have cP1 := P.c1; have cP2 := P.c2
            have lQ := Q.lt; have cQ0 := Q.c0; have cQ1 := Q.c1; have cQ2 := Q.c2
            go_wp2_with fail
            all_goals first
              | (exact absurd ⟨‹_›, ‹_›, ‹_›⟩ HQ.out)
              | (go_ret; exact ⟨rfl, (B.alloc (by have := B.size; simp <;> omega) _)⟩)
        · clear v1 e1
          go_enter Tryd.func8, Tryd.ntmps8
          go_wp2_with fail
          have B := Below.refl w.heap.size w
          refine (head_any _ ((hG.alloc _).alloc _)).mono ?_; rintro e w1 ⟨rfl, hb⟩
          have P := ((At3.new _ (s) (a) (o) _).alloc _).below hb
          have Q := At3.at (w.heap.size + 1) ((At3.new _ (p) (b) (q) _).below hb) (by simp only [World.size_alloc])
          replace hG := ((hG.alloc _).alloc _).below hb
          replace B := ((B.alloc (by have := B.size; simp <;> omega) _).alloc (by have := B.size; simp <;> omega) _).trans (hb.mono (by have := B.size; simp <;> omega))
          clear hb
          go_wp2_with fail
          refine (parse_is _ _ _ _ _ H.out _ hG).mono ?_; rintro e w2 ⟨rfl, hb⟩
          replace P := P.below hb
          replace Q := Q.below hb
          replace hG := hG.below hb
          replace B := B.trans (hb.mono (by have := B.size; simp <;> omega))
          clear hb
          have lP := P.lt; have cP0 := P.c0; have cP1 := P.c1; have cP2 := P.c2
          go_wp2_with fail
          refine (text_is _ _ _ _ _ H1.out _ (hG.alloc _)).mono ?_; rintro e w3 ⟨rfl, hb⟩
          replace P := (P.alloc _).below hb
          replace Q := (Q.alloc _).below hb
          have X1 := (At3.new _ (X) (Y) (Z) _).below hb
          replace hG := (hG.alloc _).below hb
          replace B := (B.alloc (by have := B.size; simp <;> omega) _).trans (hb.mono (by have := B.size; simp <;> omega))
          clear hb lP cP0 cP1 cP2
          have lQ := Q.lt; have cQ0 := Q.c0; have cQ1 := Q.c1; have cQ2 := Q.c2
          go_wp2_with fail
          refine (text_is _ _ _ _ _ H2.out _ hG).mono ?_; rintro e w4 ⟨rfl, hb⟩
          replace P := P.below hb
          replace Q := Q.below hb
          replace X1 := X1.below hb
          replace hG := hG.below hb
          replace B := B.trans (hb.mono (by have := B.size; simp <;> omega))
          clear hb lQ cQ0 cQ1 cQ2
          go_wp2_with fail
          go_ret
          exact ⟨rfl, B⟩
      · have c2 : F2 = 0 ∨ F2 = 1 := by rcases c2 with h | h <;> simp [h]
        rcases c2 with rfl | rfl
        all_goals
          go_enter Tryd.func8, Tryd.ntmps8
          go_wp2_with fail
          have B := Below.refl w.heap.size w
          refine (head_any _ ((hG.alloc _).alloc _)).mono ?_; rintro e w1 ⟨rfl, hb⟩
          have P := ((At3.new _ (s) (a) (o) _).alloc _).below hb
          have Q := At3.at (w.heap.size + 1) ((At3.new _ (p) (b) (q) _).below hb) (by simp only [World.size_alloc])
          replace hG := ((hG.alloc _).alloc _).below hb
          replace B := ((B.alloc (by have := B.size; simp <;> omega) _).alloc (by have := B.size; simp <;> omega) _).trans (hb.mono (by have := B.size; simp <;> omega))
          clear hb
          go_wp2_with fail
          refine (parse_is _ _ _ _ _ H.out _ hG).mono ?_; rintro e w2 ⟨rfl, hb⟩
          replace P := P.below hb
          replace Q := Q.below hb
          replace hG := hG.below hb
          replace B := B.trans (hb.mono (by have := B.size; simp <;> omega))
          clear hb
          have lP := P.lt; have cP0 := P.c0; have cP1 := P.c1; have cP2 := P.c2
          go_wp2_with fail
          refine (text_is _ _ _ _ _ H1.out _ (hG.alloc _)).mono ?_; rintro e w3 ⟨rfl, hb⟩
          replace P := (P.alloc _).below hb
          replace Q := (Q.alloc _).below hb
          have X1 := (At3.new _ (X) (Y) (Z) _).below hb
          replace hG := (hG.alloc _).below hb
          replace B := (B.alloc (by have := B.size; simp <;> omega) _).trans (hb.mono (by have := B.size; simp <;> omega))
          clear hb lP cP0 cP1 cP2
          have lQ := Q.lt; have cQ0 := Q.c0; have cQ1 := Q.c1; have cQ2 := Q.c2
          go_wp2_with fail
          refine (text_is _ _ _ _ _ H2.out _ hG).mono ?_; rintro e w4 ⟨rfl, hb⟩
          replace P := P.below hb
          replace Q := Q.below hb
          replace X1 := X1.below hb
          replace hG := hG.below hb
          replace B := B.trans (hb.mono (by have := B.size; simp <;> omega))
          clear hb lQ cQ0 cQ1 cQ2
          go_wp2_with fail
          go_ret
          exact ⟨rfl, B⟩
  · have hl' : ¬ (S.size : Int) ≤ 100 := by omega
    go_enter Tryd.func8, Tryd.ntmps8
    go_wp2_with fail
    have B := Below.refl w.heap.size w
    refine (head_any _ ((hG.alloc _).alloc _)).mono ?_; rintro e w1 ⟨rfl, hb⟩
    have P := ((At3.new _ (s) (a) (o) _).alloc _).below hb
    have Q := At3.at (w.heap.size + 1) ((At3.new _ (p) (b) (q) _).below hb) (by simp only [World.size_alloc])
    replace hG := ((hG.alloc _).alloc _).below hb
    replace B := ((B.alloc (by have := B.size; simp <;> omega) _).alloc (by have := B.size; simp <;> omega) _).trans (hb.mono (by have := B.size; simp <;> omega))
    clear hb
    go_wp2_with fail
    go_ret
    exact ⟨rfl, B⟩
end Go.Proofs.YtgehnciegolkhaaDoor
