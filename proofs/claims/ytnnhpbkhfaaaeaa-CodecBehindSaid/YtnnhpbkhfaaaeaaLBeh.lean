/- The walk of the law CodecBehind. -/
import Derived.Test.YtnnhpbkhfaaaeaaCu
namespace Go.Proofs.Ytnnhpbkhfaaaeaa
open Go.RowKit

set_option maxHeartbeats 800000 in
theorem codecBehind_walk (A0 : Option Addr) (n0 c0 : Nat) (l0 : List (List Int)) (hl0 : l0.length = n0) (hw0 : ∀ g ∈ l0, ∀ x ∈ g, -9223372036854775808 ≤ x ∧ x ≤ 9223372036854775807) (_hz0 : A0 = none → c0 = 0) (_hc0 : n0 ≤ c0) (A1 : Option Addr) (n1 c1 : Nat) (l1 : List Nat) (hl1 : l1.length = n1) (hw1 : ∀ x ∈ l1, x < 256) (_hz1 : A1 = none → c1 = 0) (hc1 : n1 ≤ c1) (w : World) (L0 : SlL w A0 l0) (L1 : SlN .u8 w A1 l1) :
    Calls Try.prog 6 #[.slice A0 n0 c0, .slice A1 n1 c1] w fun e w' => e = .returned (.bool true) ∧ Below w.heap.size w w' := by
  cases hsm : Cd.smallB l0 with
  | false =>
    have HSF := Lib.hid hsm
    have HN0 := Lib.hid hl0
    clear hsm hl0 hw0
    go_enter Try.func6, Try.ntmps6
    go_wp2_with (first | (go_at_call 9; refine (head_any _).mono ?_; rintro e w1 ⟨rfl, hb1⟩) | (go_at_call 21; refine (small_is l0 false n0 c0 A0 HSF.out HN0.out _ (L0.below hb1)).mono ?_; rintro e w2 ⟨rfl, rfl⟩) | fail)
    go_ret
    exact ⟨rfl, hb1⟩
  | true =>
    by_cases h1 : 1000 < n1
    · have h1' : (1000 : Int) < (n1 : Int) := by omega
      have HSM := Lib.hid hsm
      have HN0 := Lib.hid hl0
      clear hsm hl0 hw0
      go_enter Try.func6, Try.ntmps6
      go_wp2_with (first | (go_at_call 9; refine (head_any _).mono ?_; rintro e w1 ⟨rfl, hb1⟩) | (go_at_call 21; refine (small_is l0 true n0 c0 A0 HSM.out HN0.out _ (L0.below hb1)).mono ?_; rintro e w2 ⟨rfl, rfl⟩) | fail)
      go_ret
      exact ⟨rfl, hb1⟩
    have h1' : ¬ (1000 : Int) < (n1 : Int) := by omega
    obtain ⟨hs10, hs30⟩ := Cd.smallB_true hsm
    have hoks := Cd.small_oks hs30 hw0
    have hn10 : n0 ≤ 10 := by omega
    obtain ⟨X, hX⟩ : ∃ X, Cd.frs l0 = X := ⟨_, rfl⟩
    obtain ⟨M, hM⟩ : ∃ M, X.length = M := ⟨_, rfl⟩
    have hXb : Cd.by8 X := by rw [← hX]; exact Cd.frs_by8 hoks
    have HXM := Lib.hid (show (Cd.frs l0).length = M by rw [hX, hM])
    have HXX := Lib.hid hX
    have HM := Lib.hid hM
    have HXB := Lib.hid hXb
    have HN0 := Lib.hid hl0
    have H30 := Lib.hid hs30
    have HW0 := Lib.hid hw0
    have HSM := Lib.hid hsm
    have hfr := Cd.fr_frs hoks l1
    rw [hX, hM] at hfr
    obtain ⟨Q, hQ⟩ : ∃ Q, (Cd.fr l1).1 = Q := ⟨_, rfl⟩
    obtain ⟨R, hR⟩ : ∃ R, (Cd.fr l1).2 = R := ⟨_, rfl⟩
    have hQR : Cd.fr l1 = (Q, R) := by rw [← hQ, ← hR]
    rw [hQ, hR] at hfr
    obtain ⟨K, hK⟩ : ∃ K, Q.length = K := ⟨_, rfl⟩
    have hK9 : K ≤ 1000 := by have h5 := Cd.fr_few l1; rw [hQ, hK, hl1] at h5; omega
    have hR9 : R ≤ 1000 := by have h5 := Cd.fr_size l1; rw [hR, hl1] at h5; omega
    have hq := Cd.fr_oks hw1
    rw [hQ] at hq
    have HQK : Hid ((l0 ++ Q).length = n0 + K) := Lib.hid (by rw [List.length_append, hl0, hK])
    have HQT : Hid ((l0 ++ Q).take n0 = l0) := Lib.hid (by rw [← hl0]; exact List.take_left)
    have HQD : Hid ((l0 ++ Q).drop n0 = Q) := Lib.hid (by rw [← hl0]; exact List.drop_left)
    have HXL : Hid ((X ++ l1).length = M + n1) := Lib.hid (by rw [List.length_append, hM, hl1])
    have HFR := Lib.hid hfr
    have HQR := Lib.hid hQR
    have HKK := Lib.hid hK
    have HQ12 : Hid (∀ g ∈ Q, g.length ≤ 1000000000000) := Lib.hid (fun g hg => by have := (hq g hg).1; omega)
    have HN1 := Lib.hid hl1
    have HB1 := Lib.hid hw1
    clear hfr hQ hR hQR hK hq hl1 hw1 hs10 hs30 hoks hX hM hXb hl0 hw0 hsm
    obtain ⟨i0, hi, hz0, hz1, hz2⟩ := info_parts infoByte
    go_enter Try.func6, Try.ntmps6
    go_wp2_with fail
    have B := Below.refl w.heap.size w
    refine (head_any _).mono ?_; rintro e w1 ⟨rfl, hb⟩
    replace L0 := L0.below hb
    replace L1 := L1.below hb
    replace B := B.trans (hb.mono (by have := B.size; simp <;> omega))
    clear hb
    go_wp2_with fail
    refine (small_is l0 true n0 c0 A0 HSM.out HN0.out _ L0).mono ?_; rintro e w2 ⟨rfl, rfl⟩
    go_wp2_with fail
    refine (lframes_is l0 n0 c0 M A0 HXM.out HN0.out hn10 H30.out HW0.out _ L0).mono ?_; rintro e w2 ⟨D, c, E, c2, rfl, S, hD, hc, SE, hE, hc2, hM4, hb⟩
    replace L0 := L0.below hb
    replace L1 := L1.below hb
    replace B := B.trans (hb.mono (by have := B.size; simp <;> omega))
    clear hb
    rw [HXX.out] at S
    clear SE
    go_wp2_with (first | (at_builtin; refine append_sln .u8 rfl _ _ 23 rfl w2.heap.size 5 i0 (.int .u8 0) 1 Try.underlying23 hi hz0 hz1 hz2 rfl (.slice (some ⟨w2.heap.size, 0, none⟩) 0 0) 0 (vN .u8 []) rfl (World.ownsRow_lit (size := 1) w2 #[] 0 (Nat.le_refl _) (by unfold maxLen; omega) rfl) D M c X rfl hD HM.out (S.alloc _) (by unfold maxLen; omega) (by omega) (by simp) ?_; intro v4 w4 hown4 hgrow4; rw [← vN_app, List.nil_append, Nat.zero_add] at hown4; have B4 : Below w2.heap.size w2 w4 := ((Below.refl _ w2).alloc (Nat.le_refl _) _).grown hgrow4 (by simp) (fun j hj => by cases hj; exact Nat.le_refl _); have L4 := L1.below B4) | (at_builtin; refine append_sln .u8 rfl _ _ 23 rfl w2.heap.size 5 i0 (.int .u8 0) 1 Try.underlying23 hi hz0 hz1 hz2 rfl _ M (vN .u8 X) rfl hown4 A1 n1 c1 l1 rfl _hz1 HN1.out L4 (by unfold maxLen; omega) (by omega) B4.size ?_; intro v5 w5 hown5 hgrow5; rw [← vN_app] at hown5; obtain ⟨hl5, D5, c5, rfl, S5, hD5⟩ := own_b hown5; have hc5 := own_cap hown5; have B5 : Below w2.heap.size w2 w5 := B4.grown hgrow5 B4.size (own_ne hown4); clear hown4 hgrow4 hown5 hgrow5 hD5) | fail)
    replace L0 := L0.below B5
    replace L1 := L1.below B5
    replace B := B.trans (B5.mono B.size)
    clear B4 B5 L4 S hi hz0 hz1 hz2 i0
    refine (frames_is (X ++ l1) (l0 ++ Q) (M + R) (n0 + K) (M + n1) c5 D5 HFR.out HQK.out HXL.out hc5 (HXB.out.app HB1.out) (by omega) _ S5).mono ?_; rintro e w6 ⟨D6, c6, rfl, S6, hD6, hc6, hb⟩
    replace L0 := L0.below hb
    replace L1 := L1.below hb
    replace B := B.trans (hb.mono (by have := B.size; simp <;> omega))
    clear hb
    go_wp2_with fail
    clear S5
    refine (frames_is l1 Q R K n1 c1 A1 HQR.out HKK.out HN1.out hc1 HB1.out (by omega) _ L1).mono ?_; rintro e w7 ⟨D7, c7, rfl, S7, hD7, hc7, hb⟩
    replace L0 := L0.below hb
    replace L1 := L1.below hb
    replace S6 := S6.below hb
    replace B := B.trans (hb.mono (by have := B.size; simp <;> omega))
    clear hb
    clear L1
    have T6 := S6.take n0
    rw [HQT.out] at T6
    have U6 := S6.drop n0
    rw [HQD.out] at U6
    have k6 : n0 ≤ c6 := by omega
    clear S6
    go_wp2_with fail
    refine (ksameLists_is l0 l0 true n0 c6 n0 c0 D6 A0 (by simp) HN0.out HN0.out (by omega) (fun g hg => by have := H30.out g hg; omega) _ T6 L0).mono ?_; rintro e w8 ⟨rfl, hb⟩
    replace L0 := L0.below hb
    replace S7 := S7.below hb
    replace T6 := T6.below hb
    replace U6 := U6.below hb
    replace B := B.trans (hb.mono (by have := B.size; simp <;> omega))
    clear hb
    clear T6 L0
    by_cases hk6 : c6 = n0
    · have hK0 : K = 0 := by omega
      have HQ0 : Hid (Q = []) := Lib.hid (List.eq_nil_of_length_eq_zero (by rw [HKK.out, hK0]))
      clear hK0 U6
      go_wp2_with fail
      (with_reducible refine (ksameLists_is Q Q true _ _ _ _ D6 D7 (by simp) HKK.out HKK.out (by omega) HQ12.out _ (by rw [HQ0.out]; exact SlL.nil _ _) S7).mono ?_); rintro e w9 ⟨rfl, hb⟩
      replace B := B.trans (hb.mono B.size)
      go_wp2_with fail
      go_ret
      exact ⟨rfl, B⟩
    · go_wp2_with fail
      (with_reducible refine (ksameLists_is Q Q true _ _ _ _ (Option.map (fun x => x.add n0) D6) D7 (by simp) HKK.out HKK.out (by omega) HQ12.out _ U6 S7).mono ?_); rintro e w9 ⟨rfl, hb⟩
      replace B := B.trans (hb.mono B.size)
      go_wp2_with fail
      go_ret
      exact ⟨rfl, B⟩
end Go.Proofs.Ytnnhpbkhfaaaeaa
