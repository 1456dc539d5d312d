/-
  The number of a pitch that was moved differs by Semitones, its place by Steps, and two pitches with the same place and number are the same: the law PitchNumbers returns true for every two pitches and every interval, valid or not, and leaves them as they were.
  Conditions: what the listed package variables hold when the call begins (the card ties it to the program's text).
-/
import Derived.Test.YtgehnciegolkhaaDoorPl
import Derived.Test.YtgehnciegolkhaaDoorPk
namespace Go.Proofs.YtgehnciegolkhaaDoor
open Go.RowKit

set_option maxHeartbeats 1600000 in
set_option maxRecDepth 100000 in
theorem pitchNumbers_walk (s a o p b q i t : Int) (w : World) (hG : Glob w) :
    Calls Tryd.prog 6 #[.agg #[.int .i64 s, .int .i64 a, .int .i64 o], .agg #[.int .i64 p, .int .i64 b, .int .i64 q], .agg #[.int .i64 i, .int .i64 t]] w fun e w' => e = .returned (.bool true) ∧ Below w.heap.size w w' := by
  obtain ⟨⟨A, E⟩, h1⟩ : ∃ r, Pt.numR s a o = r := ⟨_, rfl⟩
  obtain ⟨⟨M, F⟩, h2⟩ : ∃ r, Pt.numR p b q = r := ⟨_, rfl⟩
  obtain ⟨⟨X, Y, Z, H⟩, h3⟩ : ∃ r, Pt.addR s a o i t = r := ⟨_, rfl⟩
  have H1 := Lib.hid h1
  have H2 := Lib.hid h2
  have H3 := Lib.hid h3
  have cH := Pt.add_cases h3
  -- where the pitch is moved
  have moved : H = 0 → ∃ C, Pt.numR X Y Z = (C, 0) ∧ C - A = t ∧ (7 * Z + X) - (7 * o + s) = i ∧ PGood X Y Z (7 * Z + X) (Pt.snd X Y Z) ∧ PGood s a o (7 * o + s) (Pt.snd s a o) ∧ -1000 ≤ C ∧ C ≤ 1000 ∧ -1000 ≤ A ∧ A ≤ 1000 ∧ E = 0 := by
    rintro rfl
    obtain ⟨g1, g2, g3, g4, g5⟩ := Pt.add_ok h3
    unfold Pt.numR at h1
    rw [if_pos g1] at h1
    simp only [Prod.mk.injEq] at h1
    obtain ⟨l1, l2, l3, l4, l5, l6⟩ := Pt.pv_iff.1 g1
    obtain ⟨m1, m2, m3, m4, m5, m6⟩ := Pt.pv_iff.1 g3
    have n1 := Pt.natI_in l1 l2
    have n2 := Pt.natI_in m1 m2
    have z1 : -1000 ≤ Pt.snd s a o ∧ Pt.snd s a o ≤ 1000 := by unfold Pt.snd; omega
    have z2 : -1000 ≤ Pt.snd X Y Z ∧ Pt.snd X Y Z ≤ 1000 := by unfold Pt.snd; omega
    unfold Pt.place at g4
    refine ⟨Pt.snd X Y Z, ?_, by omega, by omega, ⟨rfl, rfl, by omega, by omega, by omega, by omega, by omega, by omega⟩, ⟨rfl, rfl, by omega, by omega, by omega, by omega, by omega, by omega⟩, z2.1, z2.2, by omega, by omega, h1.2.symm⟩
    unfold Pt.numR
    rw [if_pos g3]
  have apart : E = 0 → F = 0 → (s = p ∧ a = b ∧ o = q) ∨ ¬ (s = p ∧ a = b ∧ o = q) ∧ (A ≠ M ∨ A = M ∧ 7 * o + s ≠ 7 * q + p) := by
    rintro rfl rfl
    rcases Pt.num_cases h1 with ⟨_, v1, e1⟩ | ⟨h, _⟩
    · rcases Pt.num_cases h2 with ⟨_, v2, e2⟩ | ⟨h, _⟩
      · by_cases heq : s = p ∧ a = b ∧ o = q
        · exact .inl heq
        · refine .inr ⟨heq, ?_⟩
          by_cases hn : A = M
          · refine .inr ⟨hn, fun hp => heq (Pt.same v1 v2 hp ?_)⟩
            omega
          · exact .inl hn
      · omega
    · omega
  have QP : E = 0 → PGood s a o (7 * o + s) (Pt.snd s a o) := by
    rintro rfl
    rcases Pt.num_cases h1 with ⟨_, v1, e1⟩ | ⟨h, _⟩
    · obtain ⟨l1, l2, l3, l4, l5, l6⟩ := Pt.pv_iff.1 v1
      exact ⟨rfl, rfl, by omega, by omega, by omega, by omega, by omega, by omega⟩
    · omega
  have QQ : F = 0 → PGood p b q (7 * q + p) (Pt.snd p b q) := by
    rintro rfl
    rcases Pt.num_cases h2 with ⟨_, v1, e1⟩ | ⟨h, _⟩
    · obtain ⟨l1, l2, l3, l4, l5, l6⟩ := Pt.pv_iff.1 v1
      exact ⟨rfl, rfl, by omega, by omega, by omega, by omega, by omega, by omega⟩
    · omega
  have cE : E = 0 ∨ E = 1 := by rcases Pt.num_cases h1 with h | h <;> simp [h]
  have cF : F = 0 ∨ F = 1 := by rcases Pt.num_cases h2 with h | h <;> simp [h]
  clear h1 h2 h3
  rcases cE with rfl | rfl
  · rcases cF with rfl | rfl
    · have QA0 := QP rfl
      have QB0 := QQ rfl
      have AP := Lib.hid (apart rfl rfl)
      clear QP QQ apart
      rcases cH with rfl | ⟨⟨rfl, rfl, rfl⟩, hH⟩
      · obtain ⟨C, h4, hCA, hPI, QC, QA, u1, u2, u3, u4, -⟩ := moved rfl
        have H4 := Lib.hid h4
        clear h4 moved
        go_enter Tryd.func6, Tryd.ntmps6
        go_wp2_with fail
        have B := Below.refl w.heap.size w
        refine (head_any _ (((hG.alloc _).alloc _).alloc _)).mono ?_; rintro e w1 ⟨rfl, hb⟩
        have P := (((At3.new _ (s) (a) (o) _).alloc _).alloc _).below hb
        have Q := At3.at (w.heap.size + 1) (((At3.new _ (p) (b) (q) _).alloc _).below hb) (by simp only [World.size_alloc])
        have J := At2.at (w.heap.size + 1 + 1) ((At2.new _ (i) (t) _).below hb) (by simp only [World.size_alloc])
        replace hG := (((hG.alloc _).alloc _).alloc _).below hb
        replace B := (((B.alloc (by have := B.size; simp <;> omega) _).alloc (by have := B.size; simp <;> omega) _).alloc (by have := B.size; simp <;> omega) _).trans (hb.mono (by have := B.size; simp <;> omega))
        clear hb
        have lP := P.lt; have cP0 := P.c0; have cP1 := P.c1; have cP2 := P.c2
        go_wp2_with fail
        refine (number_is _ _ _ _ _ H1.out _ hG).mono ?_; rintro e w2 ⟨rfl, hb⟩
        replace P := P.below hb
        replace Q := Q.below hb
        replace J := J.below hb
        replace hG := hG.below hb
        replace B := B.trans (hb.mono (by have := B.size; simp <;> omega))
        clear hb lP cP0 cP1 cP2
        have lQ := Q.lt; have cQ0 := Q.c0; have cQ1 := Q.c1; have cQ2 := Q.c2
        go_wp2_with fail
        refine (number_is _ _ _ _ _ H2.out _ hG).mono ?_; rintro e w3 ⟨rfl, hb⟩
        replace P := P.below hb
        replace Q := Q.below hb
        replace J := J.below hb
        replace hG := hG.below hb
        replace B := B.trans (hb.mono (by have := B.size; simp <;> omega))
        clear hb lQ cQ0 cQ1 cQ2
        have lP := P.lt; have cP0 := P.c0; have cP1 := P.c1; have cP2 := P.c2
        have lQ := Q.lt; have cQ0 := Q.c0; have cQ1 := Q.c1; have cQ2 := Q.c2
        go_wp2_with fail
        -- the two pitches, compared
        go_cut [7] (fun s7 wc => s7 = .bool true ∧ Below w3.heap.size w3 wc)
        case first =>
          clear lP cP0 cP1 cP2 lQ cQ0 cQ1 cQ2
          have xa0 := fun x : Ext w3 => x.cell P.c0
          have xa1 := fun x : Ext w3 => x.cell P.c1
          have xa2 := fun x : Ext w3 => x.cell P.c2
          have xb0 := fun x : Ext w3 => x.cell Q.c0
          have xb1 := fun x : Ext w3 => x.cell Q.c1
          have xb2 := fun x : Ext w3 => x.cell Q.c2
          have hne := Ext.there w3
          have QA := QA0
          have QB := QB0
          clear P Q B hG H3 QA0 QB0
          rcases AP.out with ⟨rfl, rfl, rfl⟩ | ⟨hn, hd⟩
          · obtain rfl : A = M := by have e := H1.out.symm.trans H2.out; simp only [Prod.mk.injEq] at e; exact e.1
            refine Ext.region (by kernel_rfl) (by kernel_rfl) ?_
            repeat (go_big_quiet_step ((go_at_call 26; exact Ext.call _ (place_good _ _ _ _ _ QA _))))
            refine wpQuiet_nil ?_
            rintro _ ⟨xw, rfl⟩
            go_wp2_with fail
            go_meet
            exact ⟨rfl, xw.h⟩
          · have hw : (¬ s = p) ∨ (s = p ∧ ¬ a = b) ∨ (s = p ∧ a = b ∧ ¬ o = q) := by
              by_cases e1 : s = p
              · by_cases e2 : a = b
                · exact .inr (.inr ⟨e1, e2, fun e3 => hn ⟨e1, e2, e3⟩⟩)
                · exact .inr (.inl ⟨e1, e2⟩)
              · exact .inl e1
            have z1 : ∃ P1, 7 * o + s = P1 := ⟨_, rfl⟩
            have z2 : ∃ P2, 7 * q + p = P2 := ⟨_, rfl⟩
            obtain ⟨P1, z1⟩ := z1
            obtain ⟨P2, z2⟩ := z2
            rw [z1] at QA
            rw [z2] at QB
            rw [z1, z2] at hd
            clear hn z1 z2 AP
            rcases hd with hA | ⟨hA, hP⟩
            · have hA' : (A == M) = false := by simpa using hA
              rcases hw with d1 | ⟨rfl, d2⟩ | ⟨rfl, rfl, d3⟩
              all_goals
                refine Ext.region (by kernel_rfl) (by kernel_rfl) ?_
                repeat (go_big_quiet_step (fail))
                refine wpQuiet_nil ?_
                rintro _ ⟨xw, rfl⟩
                go_wp2_with fail
                go_meet
                exact ⟨rfl, xw.h⟩
            · subst hA
              have hP' : (P1 == P2) = false := by simpa using hP
              rcases hw with d1 | ⟨rfl, d2⟩ | ⟨rfl, rfl, d3⟩
              all_goals
                refine Ext.region (by kernel_rfl) (by kernel_rfl) ?_
                repeat (go_big_quiet_step ((go_at_call 26; first | (with_reducible exact Ext.call _ (place_good _ _ _ _ _ QA _)) | (with_reducible exact Ext.call _ (place_good _ _ _ _ _ QB _)))))
                refine wpQuiet_nil ?_
                rintro _ ⟨xw, rfl⟩
                go_wp2_with fail
                go_meet
                exact ⟨rfl, xw.h⟩
        obtain ⟨rfl, hc⟩ := hcut
        replace P := P.below hc
        replace Q := Q.below hc
        replace J := J.below hc
        replace hG := hG.below hc
        replace B := B.trans (hc.mono B.size)
        clear hc lP cP0 cP1 cP2 lQ cQ0 cQ1 cQ2 QA0 QB0 AP

        have lP := P.lt; have cP0 := P.c0; have cP1 := P.c1; have cP2 := P.c2
        have lJ := J.lt; have cJ0 := J.c0; have cJ1 := J.c1
        go_wp2_with fail
        refine (add_is _ _ _ _ _ _ _ _ _ H3.out _ hG).mono ?_; rintro e w4 ⟨rfl, hb⟩
        replace P := P.below hb
        replace Q := Q.below hb
        replace J := J.below hb
        replace hG := hG.below hb
        replace B := B.trans (hb.mono (by have := B.size; simp <;> omega))
        clear hb lP cP0 cP1 cP2 lJ cJ0 cJ1
        go_wp2_with fail
        refine (number_is _ _ _ _ _ H4.out _ (hG.alloc _)).mono ?_; rintro e w5 ⟨rfl, hb⟩
        replace P := (P.alloc _).below hb
        replace Q := (Q.alloc _).below hb
        replace J := (J.alloc _).below hb
        have R := (At3.new _ (X) (Y) (Z) _).below hb
        replace hG := (hG.alloc _).below hb
        replace B := (B.alloc (by have := B.size; simp <;> omega) _).trans (hb.mono (by have := B.size; simp <;> omega))
        clear hb
        go_wp2_with fail
        generalize 7 * o + s = P1 at *
        generalize 7 * Z + X = P3 at *
        have bP : -8000 ≤ P1 ∧ P1 ≤ 8000 ∧ -8000 ≤ P3 ∧ P3 ≤ 8000 := by
          obtain ⟨a1, _, a3, a4, a5, a6, _, _⟩ := QA
          obtain ⟨b1, _, b3, b4, b5, b6, _, _⟩ := QC
          omega
        obtain ⟨y1, y2, y3, y4⟩ := bP
        have xa0 := fun x : Ext w5 => x.cell P.c0
        have xa1 := fun x : Ext w5 => x.cell P.c1
        have xa2 := fun x : Ext w5 => x.cell P.c2
        have xr0 := fun x : Ext w5 => x.cell R.c0
        have xr1 := fun x : Ext w5 => x.cell R.c1
        have xr2 := fun x : Ext w5 => x.cell R.c2
        have xj0 := fun x : Ext w5 => x.cell J.c0
        have xj1 := fun x : Ext w5 => x.cell J.c1
        have hne := Ext.there w5
        clear P Q R J hG
        refine Ext.region (by kernel_rfl) (by kernel_rfl) ?_
        repeat (go_big_quiet_step ((go_at_call 26; first | (with_reducible exact Ext.call _ (place_good _ _ _ _ _ QC _)) | (with_reducible exact Ext.call _ (place_good _ _ _ _ _ QA _)))))
        refine wpQuiet_nil ?_
        rintro _ ⟨xw, rfl⟩
        replace B := B.trans (xw.h.mono B.size)
        go_wp2_with fail
        go_ret
        exact ⟨rfl, B⟩

      · clear moved
        rcases hH with rfl | rfl
        all_goals
          go_enter Tryd.func6, Tryd.ntmps6
          go_wp2_with fail
          have B := Below.refl w.heap.size w
          refine (head_any _ (((hG.alloc _).alloc _).alloc _)).mono ?_; rintro e w1 ⟨rfl, hb⟩
          have P := (((At3.new _ (s) (a) (o) _).alloc _).alloc _).below hb
          have Q := At3.at (w.heap.size + 1) (((At3.new _ (p) (b) (q) _).alloc _).below hb) (by simp only [World.size_alloc])
          have J := At2.at (w.heap.size + 1 + 1) ((At2.new _ (i) (t) _).below hb) (by simp only [World.size_alloc])
          replace hG := (((hG.alloc _).alloc _).alloc _).below hb
          replace B := (((B.alloc (by have := B.size; simp <;> omega) _).alloc (by have := B.size; simp <;> omega) _).alloc (by have := B.size; simp <;> omega) _).trans (hb.mono (by have := B.size; simp <;> omega))
          clear hb
          have lP := P.lt; have cP0 := P.c0; have cP1 := P.c1; have cP2 := P.c2
          go_wp2_with fail
          refine (number_is _ _ _ _ _ H1.out _ hG).mono ?_; rintro e w2 ⟨rfl, hb⟩
          replace P := P.below hb
          replace Q := Q.below hb
          replace J := J.below hb
          replace hG := hG.below hb
          replace B := B.trans (hb.mono (by have := B.size; simp <;> omega))
          clear hb lP cP0 cP1 cP2
          have lQ := Q.lt; have cQ0 := Q.c0; have cQ1 := Q.c1; have cQ2 := Q.c2
          go_wp2_with fail
          refine (number_is _ _ _ _ _ H2.out _ hG).mono ?_; rintro e w3 ⟨rfl, hb⟩
          replace P := P.below hb
          replace Q := Q.below hb
          replace J := J.below hb
          replace hG := hG.below hb
          replace B := B.trans (hb.mono (by have := B.size; simp <;> omega))
          clear hb lQ cQ0 cQ1 cQ2
          have lP := P.lt; have cP0 := P.c0; have cP1 := P.c1; have cP2 := P.c2
          have lQ := Q.lt; have cQ0 := Q.c0; have cQ1 := Q.c1; have cQ2 := Q.c2
          go_wp2_with fail
          -- the two pitches, compared
          go_cut [7] (fun s7 wc => s7 = .bool true ∧ Below w3.heap.size w3 wc)
          case first =>
            clear lP cP0 cP1 cP2 lQ cQ0 cQ1 cQ2
            have xa0 := fun x : Ext w3 => x.cell P.c0
            have xa1 := fun x : Ext w3 => x.cell P.c1
            have xa2 := fun x : Ext w3 => x.cell P.c2
            have xb0 := fun x : Ext w3 => x.cell Q.c0
            have xb1 := fun x : Ext w3 => x.cell Q.c1
            have xb2 := fun x : Ext w3 => x.cell Q.c2
            have hne := Ext.there w3
            have QA := QA0
            have QB := QB0
            clear P Q B hG H3 QA0 QB0
            rcases AP.out with ⟨rfl, rfl, rfl⟩ | ⟨hn, hd⟩
            · obtain rfl : A = M := by have e := H1.out.symm.trans H2.out; simp only [Prod.mk.injEq] at e; exact e.1
              refine Ext.region (by kernel_rfl) (by kernel_rfl) ?_
              repeat (go_big_quiet_step ((go_at_call 26; exact Ext.call _ (place_good _ _ _ _ _ QA _))))
              refine wpQuiet_nil ?_
              rintro _ ⟨xw, rfl⟩
              go_wp2_with fail
              go_meet
              exact ⟨rfl, xw.h⟩
            · have hw : (¬ s = p) ∨ (s = p ∧ ¬ a = b) ∨ (s = p ∧ a = b ∧ ¬ o = q) := by
                by_cases e1 : s = p
                · by_cases e2 : a = b
                  · exact .inr (.inr ⟨e1, e2, fun e3 => hn ⟨e1, e2, e3⟩⟩)
                  · exact .inr (.inl ⟨e1, e2⟩)
                · exact .inl e1
              have z1 : ∃ P1, 7 * o + s = P1 := ⟨_, rfl⟩
              have z2 : ∃ P2, 7 * q + p = P2 := ⟨_, rfl⟩
              obtain ⟨P1, z1⟩ := z1
              obtain ⟨P2, z2⟩ := z2
              rw [z1] at QA
              rw [z2] at QB
              rw [z1, z2] at hd
              clear hn z1 z2 AP
              rcases hd with hA | ⟨hA, hP⟩
              · have hA' : (A == M) = false := by simpa using hA
                rcases hw with d1 | ⟨rfl, d2⟩ | ⟨rfl, rfl, d3⟩
                all_goals
                  refine Ext.region (by kernel_rfl) (by kernel_rfl) ?_
                  repeat (go_big_quiet_step (fail))
                  refine wpQuiet_nil ?_
                  rintro _ ⟨xw, rfl⟩
                  go_wp2_with fail
                  go_meet
                  exact ⟨rfl, xw.h⟩
              · subst hA
                have hP' : (P1 == P2) = false := by simpa using hP
                rcases hw with d1 | ⟨rfl, d2⟩ | ⟨rfl, rfl, d3⟩
                all_goals
                  refine Ext.region (by kernel_rfl) (by kernel_rfl) ?_
                  repeat (go_big_quiet_step ((go_at_call 26; first | (with_reducible exact Ext.call _ (place_good _ _ _ _ _ QA _)) | (with_reducible exact Ext.call _ (place_good _ _ _ _ _ QB _)))))
                  refine wpQuiet_nil ?_
                  rintro _ ⟨xw, rfl⟩
                  go_wp2_with fail
                  go_meet
                  exact ⟨rfl, xw.h⟩
          obtain ⟨rfl, hc⟩ := hcut
          replace P := P.below hc
          replace Q := Q.below hc
          replace J := J.below hc
          replace hG := hG.below hc
          replace B := B.trans (hc.mono B.size)
          clear hc lP cP0 cP1 cP2 lQ cQ0 cQ1 cQ2 QA0 QB0 AP

          have lP := P.lt; have cP0 := P.c0; have cP1 := P.c1; have cP2 := P.c2
          have lJ := J.lt; have cJ0 := J.c0; have cJ1 := J.c1
          go_wp2_with fail
          refine (add_is _ _ _ _ _ _ _ _ _ H3.out _ hG).mono ?_; rintro e w4 ⟨rfl, hb⟩
          replace P := P.below hb
          replace Q := Q.below hb
          replace J := J.below hb
          replace hG := hG.below hb
          replace B := B.trans (hb.mono (by have := B.size; simp <;> omega))
          clear hb lP cP0 cP1 cP2 lJ cJ0 cJ1
          go_wp2_with fail
          go_ret
          exact ⟨rfl, (B.alloc (by have := B.size; simp <;> omega) _)⟩
    · clear apart QQ QP
      rcases cH with rfl | ⟨⟨rfl, rfl, rfl⟩, hH⟩
      · obtain ⟨C, h4, hCA, hPI, QC, QA, u1, u2, u3, u4, -⟩ := moved rfl
        have H4 := Lib.hid h4
        clear h4 moved
        go_enter Tryd.func6, Tryd.ntmps6
        go_wp2_with fail
        have B := Below.refl w.heap.size w
        refine (head_any _ (((hG.alloc _).alloc _).alloc _)).mono ?_; rintro e w1 ⟨rfl, hb⟩
        have P := (((At3.new _ (s) (a) (o) _).alloc _).alloc _).below hb
        have Q := At3.at (w.heap.size + 1) (((At3.new _ (p) (b) (q) _).alloc _).below hb) (by simp only [World.size_alloc])
        have J := At2.at (w.heap.size + 1 + 1) ((At2.new _ (i) (t) _).below hb) (by simp only [World.size_alloc])
        replace hG := (((hG.alloc _).alloc _).alloc _).below hb
        replace B := (((B.alloc (by have := B.size; simp <;> omega) _).alloc (by have := B.size; simp <;> omega) _).alloc (by have := B.size; simp <;> omega) _).trans (hb.mono (by have := B.size; simp <;> omega))
        clear hb
        have lP := P.lt; have cP0 := P.c0; have cP1 := P.c1; have cP2 := P.c2
        go_wp2_with fail
        refine (number_is _ _ _ _ _ H1.out _ hG).mono ?_; rintro e w2 ⟨rfl, hb⟩
        replace P := P.below hb
        replace Q := Q.below hb
        replace J := J.below hb
        replace hG := hG.below hb
        replace B := B.trans (hb.mono (by have := B.size; simp <;> omega))
        clear hb lP cP0 cP1 cP2
        have lQ := Q.lt; have cQ0 := Q.c0; have cQ1 := Q.c1; have cQ2 := Q.c2
        go_wp2_with fail
        refine (number_is _ _ _ _ _ H2.out _ hG).mono ?_; rintro e w3 ⟨rfl, hb⟩
        replace P := P.below hb
        replace Q := Q.below hb
        replace J := J.below hb
        replace hG := hG.below hb
        replace B := B.trans (hb.mono (by have := B.size; simp <;> omega))
        clear hb lQ cQ0 cQ1 cQ2
        have lP := P.lt; have cP0 := P.c0; have cP1 := P.c1; have cP2 := P.c2
        have lJ := J.lt; have cJ0 := J.c0; have cJ1 := J.c1
        go_wp2_with fail
        refine (add_is _ _ _ _ _ _ _ _ _ H3.out _ hG).mono ?_; rintro e w4 ⟨rfl, hb⟩
        replace P := P.below hb
        replace Q := Q.below hb
        replace J := J.below hb
        replace hG := hG.below hb
        replace B := B.trans (hb.mono (by have := B.size; simp <;> omega))
        clear hb lP cP0 cP1 cP2 lJ cJ0 cJ1
        go_wp2_with fail
        refine (number_is _ _ _ _ _ H4.out _ (hG.alloc _)).mono ?_; rintro e w5 ⟨rfl, hb⟩
        replace P := (P.alloc _).below hb
        replace Q := (Q.alloc _).below hb
        replace J := (J.alloc _).below hb
        have R := (At3.new _ (X) (Y) (Z) _).below hb
        replace hG := (hG.alloc _).below hb
        replace B := (B.alloc (by have := B.size; simp <;> omega) _).trans (hb.mono (by have := B.size; simp <;> omega))
        clear hb
        go_wp2_with fail
        generalize 7 * o + s = P1 at *
        generalize 7 * Z + X = P3 at *
        have bP : -8000 ≤ P1 ∧ P1 ≤ 8000 ∧ -8000 ≤ P3 ∧ P3 ≤ 8000 := by
          obtain ⟨a1, _, a3, a4, a5, a6, _, _⟩ := QA
          obtain ⟨b1, _, b3, b4, b5, b6, _, _⟩ := QC
          omega
        obtain ⟨y1, y2, y3, y4⟩ := bP
        have xa0 := fun x : Ext w5 => x.cell P.c0
        have xa1 := fun x : Ext w5 => x.cell P.c1
        have xa2 := fun x : Ext w5 => x.cell P.c2
        have xr0 := fun x : Ext w5 => x.cell R.c0
        have xr1 := fun x : Ext w5 => x.cell R.c1
        have xr2 := fun x : Ext w5 => x.cell R.c2
        have xj0 := fun x : Ext w5 => x.cell J.c0
        have xj1 := fun x : Ext w5 => x.cell J.c1
        have hne := Ext.there w5
        clear P Q R J hG
        refine Ext.region (by kernel_rfl) (by kernel_rfl) ?_
        repeat (go_big_quiet_step ((go_at_call 26; first | (with_reducible exact Ext.call _ (place_good _ _ _ _ _ QC _)) | (with_reducible exact Ext.call _ (place_good _ _ _ _ _ QA _)))))
        refine wpQuiet_nil ?_
        rintro _ ⟨xw, rfl⟩
        replace B := B.trans (xw.h.mono B.size)
        go_wp2_with fail
        go_ret
        exact ⟨rfl, B⟩

      · clear moved
        rcases hH with rfl | rfl
        all_goals
          go_enter Tryd.func6, Tryd.ntmps6
          go_wp2_with fail
          have B := Below.refl w.heap.size w
          refine (head_any _ (((hG.alloc _).alloc _).alloc _)).mono ?_; rintro e w1 ⟨rfl, hb⟩
          have P := (((At3.new _ (s) (a) (o) _).alloc _).alloc _).below hb
          have Q := At3.at (w.heap.size + 1) (((At3.new _ (p) (b) (q) _).alloc _).below hb) (by simp only [World.size_alloc])
          have J := At2.at (w.heap.size + 1 + 1) ((At2.new _ (i) (t) _).below hb) (by simp only [World.size_alloc])
          replace hG := (((hG.alloc _).alloc _).alloc _).below hb
          replace B := (((B.alloc (by have := B.size; simp <;> omega) _).alloc (by have := B.size; simp <;> omega) _).alloc (by have := B.size; simp <;> omega) _).trans (hb.mono (by have := B.size; simp <;> omega))
          clear hb
          have lP := P.lt; have cP0 := P.c0; have cP1 := P.c1; have cP2 := P.c2
          go_wp2_with fail
          refine (number_is _ _ _ _ _ H1.out _ hG).mono ?_; rintro e w2 ⟨rfl, hb⟩
          replace P := P.below hb
          replace Q := Q.below hb
          replace J := J.below hb
          replace hG := hG.below hb
          replace B := B.trans (hb.mono (by have := B.size; simp <;> omega))
          clear hb lP cP0 cP1 cP2
          have lQ := Q.lt; have cQ0 := Q.c0; have cQ1 := Q.c1; have cQ2 := Q.c2
          go_wp2_with fail
          refine (number_is _ _ _ _ _ H2.out _ hG).mono ?_; rintro e w3 ⟨rfl, hb⟩
          replace P := P.below hb
          replace Q := Q.below hb
          replace J := J.below hb
          replace hG := hG.below hb
          replace B := B.trans (hb.mono (by have := B.size; simp <;> omega))
          clear hb lQ cQ0 cQ1 cQ2
          have lP := P.lt; have cP0 := P.c0; have cP1 := P.c1; have cP2 := P.c2
          have lJ := J.lt; have cJ0 := J.c0; have cJ1 := J.c1
          go_wp2_with fail
          refine (add_is _ _ _ _ _ _ _ _ _ H3.out _ hG).mono ?_; rintro e w4 ⟨rfl, hb⟩
          replace P := P.below hb
          replace Q := Q.below hb
          replace J := J.below hb
          replace hG := hG.below hb
          replace B := B.trans (hb.mono (by have := B.size; simp <;> omega))
          clear hb lP cP0 cP1 cP2 lJ cJ0 cJ1
          go_wp2_with fail
          go_ret
          exact ⟨rfl, (B.alloc (by have := B.size; simp <;> omega) _)⟩
  · clear apart QP QQ
    rcases cH with rfl | ⟨⟨rfl, rfl, rfl⟩, hH⟩
    · obtain ⟨C, _, _, _, _, _, _, _, _, _, h⟩ := moved rfl
      omega
    · clear moved
      rcases cF with rfl | rfl <;> rcases hH with rfl | rfl
      all_goals
        go_enter Tryd.func6, Tryd.ntmps6
        go_wp2_with fail
        have B := Below.refl w.heap.size w
        refine (head_any _ (((hG.alloc _).alloc _).alloc _)).mono ?_; rintro e w1 ⟨rfl, hb⟩
        have P := (((At3.new _ (s) (a) (o) _).alloc _).alloc _).below hb
        have Q := At3.at (w.heap.size + 1) (((At3.new _ (p) (b) (q) _).alloc _).below hb) (by simp only [World.size_alloc])
        have J := At2.at (w.heap.size + 1 + 1) ((At2.new _ (i) (t) _).below hb) (by simp only [World.size_alloc])
        replace hG := (((hG.alloc _).alloc _).alloc _).below hb
        replace B := (((B.alloc (by have := B.size; simp <;> omega) _).alloc (by have := B.size; simp <;> omega) _).alloc (by have := B.size; simp <;> omega) _).trans (hb.mono (by have := B.size; simp <;> omega))
        clear hb
        have lP := P.lt; have cP0 := P.c0; have cP1 := P.c1; have cP2 := P.c2
        go_wp2_with fail
        refine (number_is _ _ _ _ _ H1.out _ hG).mono ?_; rintro e w2 ⟨rfl, hb⟩
        replace P := P.below hb
        replace Q := Q.below hb
        replace J := J.below hb
        replace hG := hG.below hb
        replace B := B.trans (hb.mono (by have := B.size; simp <;> omega))
        clear hb lP cP0 cP1 cP2
        have lQ := Q.lt; have cQ0 := Q.c0; have cQ1 := Q.c1; have cQ2 := Q.c2
        go_wp2_with fail
        refine (number_is _ _ _ _ _ H2.out _ hG).mono ?_; rintro e w3 ⟨rfl, hb⟩
        replace P := P.below hb
        replace Q := Q.below hb
        replace J := J.below hb
        replace hG := hG.below hb
        replace B := B.trans (hb.mono (by have := B.size; simp <;> omega))
        clear hb lQ cQ0 cQ1 cQ2
        have lP := P.lt; have cP0 := P.c0; have cP1 := P.c1; have cP2 := P.c2
        have lJ := J.lt; have cJ0 := J.c0; have cJ1 := J.c1
        go_wp2_with fail
        refine (add_is _ _ _ _ _ _ _ _ _ H3.out _ hG).mono ?_; rintro e w4 ⟨rfl, hb⟩
        replace P := P.below hb
        replace Q := Q.below hb
        replace J := J.below hb
        replace hG := hG.below hb
        replace B := B.trans (hb.mono (by have := B.size; simp <;> omega))
        clear hb lP cP0 cP1 cP2 lJ cJ0 cJ1
        go_wp2_with fail
        go_ret
        exact ⟨rfl, (B.alloc (by have := B.size; simp <;> omega) _)⟩
end Go.Proofs.YtgehnciegolkhaaDoor
