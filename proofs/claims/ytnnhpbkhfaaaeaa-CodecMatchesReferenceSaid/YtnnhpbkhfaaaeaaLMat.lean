/- The walk of the law CodecMatchesReference. -/
import Derived.Test.YtnnhpbkhfaaaeaaCu
namespace Go.Proofs.Ytnnhpbkhfaaaeaa
open Go.RowKit

set_option maxHeartbeats 800000 in
theorem codecMatchesReference_walk (A0 : Option Addr) (n0 c0 : Nat) (l0 : List Int) (hl0 : l0.length = n0) (hw0 : ∀ x ∈ l0, -9223372036854775808 ≤ x ∧ x ≤ 9223372036854775807) (_hz0 : A0 = none → c0 = 0) (_hc0 : n0 ≤ c0) (A1 : Option Addr) (n1 c1 : Nat) (l1 : List Nat) (hl1 : l1.length = n1) (hw1 : ∀ x ∈ l1, x < 256) (_hz1 : A1 = none → c1 = 0) (hc1 : n1 ≤ c1) (w : World) (L0 : SlK .i64 w A0 l0) (L1 : SlN .u8 w A1 l1) :
    Calls Try.prog 3 #[.slice A0 n0 c0, .slice A1 n1 c1] w fun e w' => e = .returned (.bool true) ∧ Below w.heap.size w w' := by
  by_cases h1 : 300 < n0 ∧ n0 ≤ 4000
  · obtain ⟨h1a, h1b⟩ := h1
    have h1' : (300 : Int) < (n0 : Int) := by omega
    have h1'' : (n0 : Int) ≤ 4000 := by omega
    go_enter Try.func3, Try.ntmps3
    go_wp2_with (first | (go_at_call 9; refine (head_any _).mono ?_; rintro e w1 ⟨rfl, hb1⟩) | fail)
    go_ret
    exact ⟨rfl, hb1⟩
  by_cases h2 : 3000 < n1 ∧ n1 ≤ 200000
  · obtain ⟨h2a, h2b⟩ := h2
    have h2' : (3000 : Int) < (n1 : Int) := by omega
    have h2'' : (n1 : Int) ≤ 200000 := by omega
    by_cases h3 : 300 < n0
    · have h3' : (300 : Int) < (n0 : Int) := by omega
      have h3'' : ¬ (n0 : Int) ≤ 4000 := by omega
      clear h1
      go_enter Try.func3, Try.ntmps3
      go_wp2_with (first | (go_at_call 9; refine (head_any _).mono ?_; rintro e w1 ⟨rfl, hb1⟩) | fail)
      go_ret
      exact ⟨rfl, hb1⟩
    · have h3' : ¬ (300 : Int) < (n0 : Int) := by omega
      clear h1
      go_enter Try.func3, Try.ntmps3
      go_wp2_with (first | (go_at_call 9; refine (head_any _).mono ?_; rintro e w1 ⟨rfl, hb1⟩) | fail)
      go_ret
      exact ⟨rfl, hb1⟩
  have HN0 := Lib.hid hl0
  have HN1 := Lib.hid hl1
  have HK := Lib.hid hw0
  have HB1 := Lib.hid hw1
  have c3 : 200000 < n1 ∨ n1 ≤ 3000 := by omega
  have c4 : 4000 < n0 ∨ n0 ≤ 300 := by omega
  clear h1 h2
  rcases c4 with h4 | h4
  · have a1 : (300 : Int) < (n0 : Int) := by omega
    have a2 : ¬ (n0 : Int) ≤ 4000 := by omega
    rcases c3 with h3 | h3
    · have b1 : (3000 : Int) < (n1 : Int) := by omega
      have b2 : ¬ (n1 : Int) ≤ 200000 := by omega
      have b3 : ¬ (n1 : Int) ≤ 3000 := by omega
      clear hl0 hl1 hw0 hw1
      go_enter Try.func3, Try.ntmps3
      go_wp2_with fail
      have B := Below.refl w.heap.size w
      refine (head_any _).mono ?_; rintro e w1 ⟨rfl, hb⟩
      replace L0 := L0.below hb
      replace L1 := L1.below hb
      replace B := B.trans (hb.mono (by have := B.size; simp <;> omega))
      clear hb
      go_wp2_with fail
      refine (put_limit n0 c0 A0 (by omega) _).mono ?_; rintro e w2 ⟨rfl, hb⟩
      replace L0 := L0.below hb
      replace L1 := L1.below hb
      replace B := B.trans (hb.mono (by have := B.size; simp <;> omega))
      clear hb
      go_wp2_with fail
      refine (kput_limit n0 c0 A0 (by omega) _).mono ?_; rintro e w3 ⟨rfl, hb⟩
      replace L0 := L0.below hb
      replace L1 := L1.below hb
      replace B := B.trans (hb.mono (by have := B.size; simp <;> omega))
      clear hb
      go_wp2_with fail
      refine (ksameBytes_is [] [] true 0 0 0 0 none none (by simp) rfl rfl (by simp) (by simp) _ (SlN.nil _ _ _) (SlN.nil _ _ _)).mono ?_; rintro e w4 ⟨rfl, hb⟩
      replace L0 := L0.below hb
      replace L1 := L1.below hb
      replace B := B.trans (hb.mono (by have := B.size; simp <;> omega))
      clear hb
      go_wp2_with fail
      refine (frame_limit n0 c0 A0 (by omega) _).mono ?_; rintro e w5 ⟨rfl, hb⟩
      replace L0 := L0.below hb
      replace L1 := L1.below hb
      replace B := B.trans (hb.mono (by have := B.size; simp <;> omega))
      clear hb
      go_wp2_with fail
      refine (kframe_limit n0 c0 A0 (by omega) _).mono ?_; rintro e w6 ⟨rfl, hb⟩
      replace L0 := L0.below hb
      replace L1 := L1.below hb
      replace B := B.trans (hb.mono (by have := B.size; simp <;> omega))
      clear hb
      go_wp2_with fail
      refine (ksameBytes_is [] [] true 0 0 0 0 none none (by simp) rfl rfl (by simp) (by simp) _ (SlN.nil _ _ _) (SlN.nil _ _ _)).mono ?_; rintro e w7 ⟨rfl, hb⟩
      replace L0 := L0.below hb
      replace L1 := L1.below hb
      replace B := B.trans (hb.mono (by have := B.size; simp <;> omega))
      clear hb
      go_wp2_with fail
      clear L0
      refine (frames_limit n1 c1 A1 (by omega) _).mono ?_; rintro e w8 ⟨rfl, hb⟩
      replace L1 := L1.below hb
      replace B := B.trans (hb.mono (by have := B.size; simp <;> omega))
      clear hb
      go_wp2_with fail
      refine (kframes_limit n1 c1 A1 (by omega) _).mono ?_; rintro e w9 ⟨rfl, hb⟩
      replace L1 := L1.below hb
      replace B := B.trans (hb.mono (by have := B.size; simp <;> omega))
      clear hb
      go_wp2_with fail
      refine (ksameLists_is [] [] true 0 0 0 0 none none (by simp) rfl rfl (by omega) (by simp) _ (SlL.nil _ _) (SlL.nil _ _)).mono ?_; rintro e w10 ⟨rfl, hb⟩
      replace L1 := L1.below hb
      replace B := B.trans (hb.mono (by have := B.size; simp <;> omega))
      clear hb
      go_wp2_with fail
      go_ret
      exact ⟨rfl, B⟩
    · have b1 : ¬ (3000 : Int) < (n1 : Int) := by omega
      have b3 : (n1 : Int) ≤ 3000 := by omega
      obtain ⟨Q, hQ⟩ : ∃ Q, (Cd.fr l1).1 = Q := ⟨_, rfl⟩
      obtain ⟨R, hR⟩ : ∃ R, (Cd.fr l1).2 = R := ⟨_, rfl⟩
      have hQR : Cd.fr l1 = (Q, R) := by rw [← hQ, ← hR]
      obtain ⟨K, hK⟩ : ∃ K, Q.length = K := ⟨_, rfl⟩
      have hoks := Cd.fr_oks hw1
      rw [hQ] at hoks
      have HQR := Lib.hid hQR
      have HKK := Lib.hid hK
      have HOKS := Lib.hid hoks
      have hK9 : K ≤ 3000 := by have h5 := Cd.fr_few l1; rw [hQ, hK, hl1] at h5; omega
      clear hQ hR hQR hK hoks
      cases hg : Cd.get l1 with
      | none =>
        have HG := Lib.hid hg
        clear hg hl0 hl1 hw0 hw1
        go_enter Try.func3, Try.ntmps3
        go_wp2_with fail
        have B := Below.refl w.heap.size w
        refine (head_any _).mono ?_; rintro e w1 ⟨rfl, hb⟩
        replace L0 := L0.below hb
        replace L1 := L1.below hb
        replace B := B.trans (hb.mono (by have := B.size; simp <;> omega))
        clear hb
        go_wp2_with fail
        refine (put_limit n0 c0 A0 (by omega) _).mono ?_; rintro e w2 ⟨rfl, hb⟩
        replace L0 := L0.below hb
        replace L1 := L1.below hb
        replace B := B.trans (hb.mono (by have := B.size; simp <;> omega))
        clear hb
        go_wp2_with fail
        refine (kput_limit n0 c0 A0 (by omega) _).mono ?_; rintro e w3 ⟨rfl, hb⟩
        replace L0 := L0.below hb
        replace L1 := L1.below hb
        replace B := B.trans (hb.mono (by have := B.size; simp <;> omega))
        clear hb
        go_wp2_with fail
        refine (ksameBytes_is [] [] true 0 0 0 0 none none (by simp) rfl rfl (by simp) (by simp) _ (SlN.nil _ _ _) (SlN.nil _ _ _)).mono ?_; rintro e w4 ⟨rfl, hb⟩
        replace L0 := L0.below hb
        replace L1 := L1.below hb
        replace B := B.trans (hb.mono (by have := B.size; simp <;> omega))
        clear hb
        go_wp2_with fail
        refine (frame_limit n0 c0 A0 (by omega) _).mono ?_; rintro e w5 ⟨rfl, hb⟩
        replace L0 := L0.below hb
        replace L1 := L1.below hb
        replace B := B.trans (hb.mono (by have := B.size; simp <;> omega))
        clear hb
        go_wp2_with fail
        refine (kframe_limit n0 c0 A0 (by omega) _).mono ?_; rintro e w6 ⟨rfl, hb⟩
        replace L0 := L0.below hb
        replace L1 := L1.below hb
        replace B := B.trans (hb.mono (by have := B.size; simp <;> omega))
        clear hb
        go_wp2_with fail
        refine (ksameBytes_is [] [] true 0 0 0 0 none none (by simp) rfl rfl (by simp) (by simp) _ (SlN.nil _ _ _) (SlN.nil _ _ _)).mono ?_; rintro e w7 ⟨rfl, hb⟩
        replace L0 := L0.below hb
        replace L1 := L1.below hb
        replace B := B.trans (hb.mono (by have := B.size; simp <;> omega))
        clear hb
        go_wp2_with fail
        clear L0
        refine (get_is l1 none n1 c1 A1 HG.out HN1.out HB1.out (by omega) _ L1).mono ?_; rintro e w8 ⟨rfl, hb⟩
        replace L1 := L1.below hb
        replace B := B.trans (hb.mono (by have := B.size; simp <;> omega))
        clear hb
        go_wp2_with fail
        refine (kget_is l1 none n1 c1 A1 HG.out HN1.out hc1 HB1.out (by omega) _ L1).mono ?_; rintro e w9 ⟨rfl, hb⟩
        replace L1 := L1.below hb
        replace B := B.trans (hb.mono (by have := B.size; simp <;> omega))
        clear hb
        go_wp2_with fail
        refine (ksameInts_is [] [] true 0 0 0 0 none none (by simp) rfl rfl (by omega) _ (SlK.nil _ _ _) (SlK.nil _ _ _)).mono ?_; rintro e w10 ⟨rfl, hb⟩
        replace L1 := L1.below hb
        replace B := B.trans (hb.mono (by have := B.size; simp <;> omega))
        clear hb
        go_wp2_with fail
        refine (frames_is l1 Q R K n1 c1 A1 HQR.out HKK.out HN1.out hc1 HB1.out (by omega) _ L1).mono ?_; rintro e w11 ⟨D7, c7, rfl, S7, hD7, hc7, hb⟩
        replace L1 := L1.below hb
        replace B := B.trans (hb.mono (by have := B.size; simp <;> omega))
        clear hb
        go_wp2_with fail
        refine (kframes_is l1 Q R K n1 c1 A1 HQR.out HKK.out HN1.out hc1 HB1.out (by omega) _ L1).mono ?_; rintro e w12 ⟨D8, c8, rfl, S8, hD8, hb⟩
        replace L1 := L1.below hb
        replace S7 := S7.below hb
        replace B := B.trans (hb.mono (by have := B.size; simp <;> omega))
        clear hb
        go_wp2_with fail
        refine (ksameLists_is Q Q true K c7 K c8 D7 D8 (by simp) HKK.out HKK.out (by omega) (fun g hg => by have := (HOKS.out g hg).1; omega) _ S7 S8).mono ?_; rintro e w13 ⟨rfl, hb⟩
        replace L1 := L1.below hb
        replace S7 := S7.below hb
        replace S8 := S8.below hb
        replace B := B.trans (hb.mono (by have := B.size; simp <;> omega))
        clear hb
        go_wp2_with fail
        go_ret
        exact ⟨rfl, B⟩
      | some k =>
        obtain ⟨m, hm⟩ : ∃ m, k.length = m := ⟨_, rfl⟩
        have hm4 : m ≤ 4000 := by rw [← hm]; exact (Cd.put_get hg hw1).2.1
        have HMM := Lib.hid hm
        clear hm
        have HG := Lib.hid hg
        clear hg hl0 hl1 hw0 hw1
        go_enter Try.func3, Try.ntmps3
        go_wp2_with fail
        have B := Below.refl w.heap.size w
        refine (head_any _).mono ?_; rintro e w1 ⟨rfl, hb⟩
        replace L0 := L0.below hb
        replace L1 := L1.below hb
        replace B := B.trans (hb.mono (by have := B.size; simp <;> omega))
        clear hb
        go_wp2_with fail
        refine (put_limit n0 c0 A0 (by omega) _).mono ?_; rintro e w2 ⟨rfl, hb⟩
        replace L0 := L0.below hb
        replace L1 := L1.below hb
        replace B := B.trans (hb.mono (by have := B.size; simp <;> omega))
        clear hb
        go_wp2_with fail
        refine (kput_limit n0 c0 A0 (by omega) _).mono ?_; rintro e w3 ⟨rfl, hb⟩
        replace L0 := L0.below hb
        replace L1 := L1.below hb
        replace B := B.trans (hb.mono (by have := B.size; simp <;> omega))
        clear hb
        go_wp2_with fail
        refine (ksameBytes_is [] [] true 0 0 0 0 none none (by simp) rfl rfl (by simp) (by simp) _ (SlN.nil _ _ _) (SlN.nil _ _ _)).mono ?_; rintro e w4 ⟨rfl, hb⟩
        replace L0 := L0.below hb
        replace L1 := L1.below hb
        replace B := B.trans (hb.mono (by have := B.size; simp <;> omega))
        clear hb
        go_wp2_with fail
        refine (frame_limit n0 c0 A0 (by omega) _).mono ?_; rintro e w5 ⟨rfl, hb⟩
        replace L0 := L0.below hb
        replace L1 := L1.below hb
        replace B := B.trans (hb.mono (by have := B.size; simp <;> omega))
        clear hb
        go_wp2_with fail
        refine (kframe_limit n0 c0 A0 (by omega) _).mono ?_; rintro e w6 ⟨rfl, hb⟩
        replace L0 := L0.below hb
        replace L1 := L1.below hb
        replace B := B.trans (hb.mono (by have := B.size; simp <;> omega))
        clear hb
        go_wp2_with fail
        refine (ksameBytes_is [] [] true 0 0 0 0 none none (by simp) rfl rfl (by simp) (by simp) _ (SlN.nil _ _ _) (SlN.nil _ _ _)).mono ?_; rintro e w7 ⟨rfl, hb⟩
        replace L0 := L0.below hb
        replace L1 := L1.below hb
        replace B := B.trans (hb.mono (by have := B.size; simp <;> omega))
        clear hb
        go_wp2_with fail
        clear L0
        refine (get_is l1 (some k) n1 c1 A1 HG.out HN1.out HB1.out (by omega) _ L1).mono ?_; rintro e w8 ⟨⟨D5, c5, rfl, S5, hD5, T5⟩, hb⟩
        replace L1 := L1.below hb
        replace B := B.trans (hb.mono (by have := B.size; simp <;> omega))
        clear hb
        clear T5
        simp only [HMM.out]
        go_wp2_with fail
        refine (kget_is l1 (some k) n1 c1 A1 HG.out HN1.out hc1 HB1.out (by omega) _ L1).mono ?_; rintro e w9 ⟨⟨D6, c6, rfl, S6, hD6, T6⟩, hb⟩
        replace L1 := L1.below hb
        replace S5 := S5.below hb
        replace B := B.trans (hb.mono (by have := B.size; simp <;> omega))
        clear hb
        clear T6
        simp only [HMM.out]
        go_wp2_with fail
        refine (ksameInts_is k k true m c5 m c6 D5 D6 (by simp) HMM.out HMM.out (by omega) _ S5 S6).mono ?_; rintro e w10 ⟨rfl, hb⟩
        replace L1 := L1.below hb
        replace S5 := S5.below hb
        replace S6 := S6.below hb
        replace B := B.trans (hb.mono (by have := B.size; simp <;> omega))
        clear hb
        go_wp2_with fail
        clear S5 S6
        refine (frames_is l1 Q R K n1 c1 A1 HQR.out HKK.out HN1.out hc1 HB1.out (by omega) _ L1).mono ?_; rintro e w11 ⟨D7, c7, rfl, S7, hD7, hc7, hb⟩
        replace L1 := L1.below hb
        replace B := B.trans (hb.mono (by have := B.size; simp <;> omega))
        clear hb
        go_wp2_with fail
        refine (kframes_is l1 Q R K n1 c1 A1 HQR.out HKK.out HN1.out hc1 HB1.out (by omega) _ L1).mono ?_; rintro e w12 ⟨D8, c8, rfl, S8, hD8, hb⟩
        replace L1 := L1.below hb
        replace S7 := S7.below hb
        replace B := B.trans (hb.mono (by have := B.size; simp <;> omega))
        clear hb
        go_wp2_with fail
        refine (ksameLists_is Q Q true K c7 K c8 D7 D8 (by simp) HKK.out HKK.out (by omega) (fun g hg => by have := (HOKS.out g hg).1; omega) _ S7 S8).mono ?_; rintro e w13 ⟨rfl, hb⟩
        replace L1 := L1.below hb
        replace S7 := S7.below hb
        replace S8 := S8.below hb
        replace B := B.trans (hb.mono (by have := B.size; simp <;> omega))
        clear hb
        go_wp2_with fail
        go_ret
        exact ⟨rfl, B⟩
  · have a1 : ¬ (300 : Int) < (n0 : Int) := by omega
    obtain ⟨P, hP⟩ : ∃ P, Cd.put l0 = P := ⟨_, rfl⟩
    obtain ⟨N, hN⟩ : ∃ N, P.length = N := ⟨_, rfl⟩
    have hok : Cd.ok l0 := ⟨by omega, hw0⟩
    have hPb : Cd.by8 P := by rw [← hP]; exact Cd.put_by8 _
    obtain ⟨F, hF⟩ : ∃ F, Cd.frame l0 = F := ⟨_, rfl⟩
    obtain ⟨M, hM⟩ : ∃ M, F.length = M := ⟨_, rfl⟩
    have hFb : Cd.by8 F := by rw [← hF]; exact Cd.frame_by8 hok
    have HP := Lib.hid hP
    have HN := Lib.hid hN
    have HPB := Lib.hid hPb
    have HF := Lib.hid hF
    have HM := Lib.hid hM
    have HFB := Lib.hid hFb
    have HOK := Lib.hid hok
    clear hP hN hPb hF hM hFb hok
    rcases c3 with h3 | h3
    · have b1 : (3000 : Int) < (n1 : Int) := by omega
      have b2 : ¬ (n1 : Int) ≤ 200000 := by omega
      have b3 : ¬ (n1 : Int) ≤ 3000 := by omega
      clear hl0 hl1 hw0 hw1
      go_enter Try.func3, Try.ntmps3
      go_wp2_with fail
      have B := Below.refl w.heap.size w
      refine (head_any _).mono ?_; rintro e w1 ⟨rfl, hb⟩
      replace L0 := L0.below hb
      replace L1 := L1.below hb
      replace B := B.trans (hb.mono (by have := B.size; simp <;> omega))
      clear hb
      go_wp2_with fail
      refine (put_is l0 P N n0 c0 A0 HP.out HN.out HN0.out (by omega) HK.out _ L0).mono ?_; rintro e w2 ⟨D, c, rfl, S, hD, hc, hb⟩
      replace L0 := L0.below hb
      replace L1 := L1.below hb
      replace B := B.trans (hb.mono (by have := B.size; simp <;> omega))
      clear hb
      go_wp2_with fail
      refine (kput_is l0 P N n0 c0 A0 HP.out HN.out HN0.out (by omega) HK.out _ L0).mono ?_; rintro e w3 ⟨D2, c2, rfl, S2, hD2, hb⟩
      replace L0 := L0.below hb
      replace L1 := L1.below hb
      replace S := S.below hb
      replace B := B.trans (hb.mono (by have := B.size; simp <;> omega))
      clear hb
      go_wp2_with fail
      refine (ksameBytes_is P P true N c N c2 D D2 (by simp) HN.out HN.out HPB.out HPB.out _ S S2).mono ?_; rintro e w4 ⟨rfl, hb⟩
      replace L0 := L0.below hb
      replace L1 := L1.below hb
      replace S := S.below hb
      replace S2 := S2.below hb
      replace B := B.trans (hb.mono (by have := B.size; simp <;> omega))
      clear hb
      go_wp2_with fail
      clear S S2
      refine (frame_is l0 F M n0 c0 A0 HF.out HM.out HN0.out HOK.out _ L0).mono ?_; rintro e w5 ⟨D3, c3, rfl, S3, hD3, hc3, hb⟩
      replace L0 := L0.below hb
      replace L1 := L1.below hb
      replace B := B.trans (hb.mono (by have := B.size; simp <;> omega))
      clear hb
      go_wp2_with fail
      refine (kframe_is l0 F M n0 c0 A0 HF.out HM.out HN0.out HOK.out _ L0).mono ?_; rintro e w6 ⟨D4, c4, rfl, S4, hD4, hb⟩
      replace L0 := L0.below hb
      replace L1 := L1.below hb
      replace S3 := S3.below hb
      replace B := B.trans (hb.mono (by have := B.size; simp <;> omega))
      clear hb
      go_wp2_with fail
      refine (ksameBytes_is F F true M c3 M c4 D3 D4 (by simp) HM.out HM.out HFB.out HFB.out _ S3 S4).mono ?_; rintro e w7 ⟨rfl, hb⟩
      replace L0 := L0.below hb
      replace L1 := L1.below hb
      replace S3 := S3.below hb
      replace S4 := S4.below hb
      replace B := B.trans (hb.mono (by have := B.size; simp <;> omega))
      clear hb
      go_wp2_with fail
      clear S3 S4
      clear L0
      refine (frames_limit n1 c1 A1 (by omega) _).mono ?_; rintro e w8 ⟨rfl, hb⟩
      replace L1 := L1.below hb
      replace B := B.trans (hb.mono (by have := B.size; simp <;> omega))
      clear hb
      go_wp2_with fail
      refine (kframes_limit n1 c1 A1 (by omega) _).mono ?_; rintro e w9 ⟨rfl, hb⟩
      replace L1 := L1.below hb
      replace B := B.trans (hb.mono (by have := B.size; simp <;> omega))
      clear hb
      go_wp2_with fail
      refine (ksameLists_is [] [] true 0 0 0 0 none none (by simp) rfl rfl (by omega) (by simp) _ (SlL.nil _ _) (SlL.nil _ _)).mono ?_; rintro e w10 ⟨rfl, hb⟩
      replace L1 := L1.below hb
      replace B := B.trans (hb.mono (by have := B.size; simp <;> omega))
      clear hb
      go_wp2_with fail
      go_ret
      exact ⟨rfl, B⟩
    · have b1 : ¬ (3000 : Int) < (n1 : Int) := by omega
      have b3 : (n1 : Int) ≤ 3000 := by omega
      obtain ⟨Q, hQ⟩ : ∃ Q, (Cd.fr l1).1 = Q := ⟨_, rfl⟩
      obtain ⟨R, hR⟩ : ∃ R, (Cd.fr l1).2 = R := ⟨_, rfl⟩
      have hQR : Cd.fr l1 = (Q, R) := by rw [← hQ, ← hR]
      obtain ⟨K, hK⟩ : ∃ K, Q.length = K := ⟨_, rfl⟩
      have hoks := Cd.fr_oks hw1
      rw [hQ] at hoks
      have HQR := Lib.hid hQR
      have HKK := Lib.hid hK
      have HOKS := Lib.hid hoks
      have hK9 : K ≤ 3000 := by have h5 := Cd.fr_few l1; rw [hQ, hK, hl1] at h5; omega
      clear hQ hR hQR hK hoks
      cases hg : Cd.get l1 with
      | none =>
        have HG := Lib.hid hg
        clear hg hl0 hl1 hw0 hw1
        go_enter Try.func3, Try.ntmps3
        go_wp2_with fail
        have B := Below.refl w.heap.size w
        refine (head_any _).mono ?_; rintro e w1 ⟨rfl, hb⟩
        replace L0 := L0.below hb
        replace L1 := L1.below hb
        replace B := B.trans (hb.mono (by have := B.size; simp <;> omega))
        clear hb
        go_wp2_with fail
        refine (put_is l0 P N n0 c0 A0 HP.out HN.out HN0.out (by omega) HK.out _ L0).mono ?_; rintro e w2 ⟨D, c, rfl, S, hD, hc, hb⟩
        replace L0 := L0.below hb
        replace L1 := L1.below hb
        replace B := B.trans (hb.mono (by have := B.size; simp <;> omega))
        clear hb
        go_wp2_with fail
        refine (kput_is l0 P N n0 c0 A0 HP.out HN.out HN0.out (by omega) HK.out _ L0).mono ?_; rintro e w3 ⟨D2, c2, rfl, S2, hD2, hb⟩
        replace L0 := L0.below hb
        replace L1 := L1.below hb
        replace S := S.below hb
        replace B := B.trans (hb.mono (by have := B.size; simp <;> omega))
        clear hb
        go_wp2_with fail
        refine (ksameBytes_is P P true N c N c2 D D2 (by simp) HN.out HN.out HPB.out HPB.out _ S S2).mono ?_; rintro e w4 ⟨rfl, hb⟩
        replace L0 := L0.below hb
        replace L1 := L1.below hb
        replace S := S.below hb
        replace S2 := S2.below hb
        replace B := B.trans (hb.mono (by have := B.size; simp <;> omega))
        clear hb
        go_wp2_with fail
        clear S S2
        refine (frame_is l0 F M n0 c0 A0 HF.out HM.out HN0.out HOK.out _ L0).mono ?_; rintro e w5 ⟨D3, c3, rfl, S3, hD3, hc3, hb⟩
        replace L0 := L0.below hb
        replace L1 := L1.below hb
        replace B := B.trans (hb.mono (by have := B.size; simp <;> omega))
        clear hb
        go_wp2_with fail
        refine (kframe_is l0 F M n0 c0 A0 HF.out HM.out HN0.out HOK.out _ L0).mono ?_; rintro e w6 ⟨D4, c4, rfl, S4, hD4, hb⟩
        replace L0 := L0.below hb
        replace L1 := L1.below hb
        replace S3 := S3.below hb
        replace B := B.trans (hb.mono (by have := B.size; simp <;> omega))
        clear hb
        go_wp2_with fail
        refine (ksameBytes_is F F true M c3 M c4 D3 D4 (by simp) HM.out HM.out HFB.out HFB.out _ S3 S4).mono ?_; rintro e w7 ⟨rfl, hb⟩
        replace L0 := L0.below hb
        replace L1 := L1.below hb
        replace S3 := S3.below hb
        replace S4 := S4.below hb
        replace B := B.trans (hb.mono (by have := B.size; simp <;> omega))
        clear hb
        go_wp2_with fail
        clear S3 S4
        clear L0
        refine (get_is l1 none n1 c1 A1 HG.out HN1.out HB1.out (by omega) _ L1).mono ?_; rintro e w8 ⟨rfl, hb⟩
        replace L1 := L1.below hb
        replace B := B.trans (hb.mono (by have := B.size; simp <;> omega))
        clear hb
        go_wp2_with fail
        refine (kget_is l1 none n1 c1 A1 HG.out HN1.out hc1 HB1.out (by omega) _ L1).mono ?_; rintro e w9 ⟨rfl, hb⟩
        replace L1 := L1.below hb
        replace B := B.trans (hb.mono (by have := B.size; simp <;> omega))
        clear hb
        go_wp2_with fail
        refine (ksameInts_is [] [] true 0 0 0 0 none none (by simp) rfl rfl (by omega) _ (SlK.nil _ _ _) (SlK.nil _ _ _)).mono ?_; rintro e w10 ⟨rfl, hb⟩
        replace L1 := L1.below hb
        replace B := B.trans (hb.mono (by have := B.size; simp <;> omega))
        clear hb
        go_wp2_with fail
        refine (frames_is l1 Q R K n1 c1 A1 HQR.out HKK.out HN1.out hc1 HB1.out (by omega) _ L1).mono ?_; rintro e w11 ⟨D7, c7, rfl, S7, hD7, hc7, hb⟩
        replace L1 := L1.below hb
        replace B := B.trans (hb.mono (by have := B.size; simp <;> omega))
        clear hb
        go_wp2_with fail
        refine (kframes_is l1 Q R K n1 c1 A1 HQR.out HKK.out HN1.out hc1 HB1.out (by omega) _ L1).mono ?_; rintro e w12 ⟨D8, c8, rfl, S8, hD8, hb⟩
        replace L1 := L1.below hb
        replace S7 := S7.below hb
        replace B := B.trans (hb.mono (by have := B.size; simp <;> omega))
        clear hb
        go_wp2_with fail
        refine (ksameLists_is Q Q true K c7 K c8 D7 D8 (by simp) HKK.out HKK.out (by omega) (fun g hg => by have := (HOKS.out g hg).1; omega) _ S7 S8).mono ?_; rintro e w13 ⟨rfl, hb⟩
        replace L1 := L1.below hb
        replace S7 := S7.below hb
        replace S8 := S8.below hb
        replace B := B.trans (hb.mono (by have := B.size; simp <;> omega))
        clear hb
        go_wp2_with fail
        go_ret
        exact ⟨rfl, B⟩
      | some k =>
        obtain ⟨m, hm⟩ : ∃ m, k.length = m := ⟨_, rfl⟩
        have hm4 : m ≤ 4000 := by rw [← hm]; exact (Cd.put_get hg hw1).2.1
        have HMM := Lib.hid hm
        clear hm
        have HG := Lib.hid hg
        clear hg hl0 hl1 hw0 hw1
        go_enter Try.func3, Try.ntmps3
        go_wp2_with fail
        have B := Below.refl w.heap.size w
        refine (head_any _).mono ?_; rintro e w1 ⟨rfl, hb⟩
        replace L0 := L0.below hb
        replace L1 := L1.below hb
        replace B := B.trans (hb.mono (by have := B.size; simp <;> omega))
        clear hb
        go_wp2_with fail
        refine (put_is l0 P N n0 c0 A0 HP.out HN.out HN0.out (by omega) HK.out _ L0).mono ?_; rintro e w2 ⟨D, c, rfl, S, hD, hc, hb⟩
        replace L0 := L0.below hb
        replace L1 := L1.below hb
        replace B := B.trans (hb.mono (by have := B.size; simp <;> omega))
        clear hb
        go_wp2_with fail
        refine (kput_is l0 P N n0 c0 A0 HP.out HN.out HN0.out (by omega) HK.out _ L0).mono ?_; rintro e w3 ⟨D2, c2, rfl, S2, hD2, hb⟩
        replace L0 := L0.below hb
        replace L1 := L1.below hb
        replace S := S.below hb
        replace B := B.trans (hb.mono (by have := B.size; simp <;> omega))
        clear hb
        go_wp2_with fail
        refine (ksameBytes_is P P true N c N c2 D D2 (by simp) HN.out HN.out HPB.out HPB.out _ S S2).mono ?_; rintro e w4 ⟨rfl, hb⟩
        replace L0 := L0.below hb
        replace L1 := L1.below hb
        replace S := S.below hb
        replace S2 := S2.below hb
        replace B := B.trans (hb.mono (by have := B.size; simp <;> omega))
        clear hb
        go_wp2_with fail
        clear S S2
        refine (frame_is l0 F M n0 c0 A0 HF.out HM.out HN0.out HOK.out _ L0).mono ?_; rintro e w5 ⟨D3, c3, rfl, S3, hD3, hc3, hb⟩
        replace L0 := L0.below hb
        replace L1 := L1.below hb
        replace B := B.trans (hb.mono (by have := B.size; simp <;> omega))
        clear hb
        go_wp2_with fail
        refine (kframe_is l0 F M n0 c0 A0 HF.out HM.out HN0.out HOK.out _ L0).mono ?_; rintro e w6 ⟨D4, c4, rfl, S4, hD4, hb⟩
        replace L0 := L0.below hb
        replace L1 := L1.below hb
        replace S3 := S3.below hb
        replace B := B.trans (hb.mono (by have := B.size; simp <;> omega))
        clear hb
        go_wp2_with fail
        refine (ksameBytes_is F F true M c3 M c4 D3 D4 (by simp) HM.out HM.out HFB.out HFB.out _ S3 S4).mono ?_; rintro e w7 ⟨rfl, hb⟩
        replace L0 := L0.below hb
        replace L1 := L1.below hb
        replace S3 := S3.below hb
        replace S4 := S4.below hb
        replace B := B.trans (hb.mono (by have := B.size; simp <;> omega))
        clear hb
        go_wp2_with fail
        clear S3 S4
        clear L0
        refine (get_is l1 (some k) n1 c1 A1 HG.out HN1.out HB1.out (by omega) _ L1).mono ?_; rintro e w8 ⟨⟨D5, c5, rfl, S5, hD5, T5⟩, hb⟩
        replace L1 := L1.below hb
        replace B := B.trans (hb.mono (by have := B.size; simp <;> omega))
        clear hb
        clear T5
        simp only [HMM.out]
        go_wp2_with fail
        refine (kget_is l1 (some k) n1 c1 A1 HG.out HN1.out hc1 HB1.out (by omega) _ L1).mono ?_; rintro e w9 ⟨⟨D6, c6, rfl, S6, hD6, T6⟩, hb⟩
        replace L1 := L1.below hb
        replace S5 := S5.below hb
        replace B := B.trans (hb.mono (by have := B.size; simp <;> omega))
        clear hb
        clear T6
        simp only [HMM.out]
        go_wp2_with fail
        refine (ksameInts_is k k true m c5 m c6 D5 D6 (by simp) HMM.out HMM.out (by omega) _ S5 S6).mono ?_; rintro e w10 ⟨rfl, hb⟩
        replace L1 := L1.below hb
        replace S5 := S5.below hb
        replace S6 := S6.below hb
        replace B := B.trans (hb.mono (by have := B.size; simp <;> omega))
        clear hb
        go_wp2_with fail
        clear S5 S6
        refine (frames_is l1 Q R K n1 c1 A1 HQR.out HKK.out HN1.out hc1 HB1.out (by omega) _ L1).mono ?_; rintro e w11 ⟨D7, c7, rfl, S7, hD7, hc7, hb⟩
        replace L1 := L1.below hb
        replace B := B.trans (hb.mono (by have := B.size; simp <;> omega))
        clear hb
        go_wp2_with fail
        refine (kframes_is l1 Q R K n1 c1 A1 HQR.out HKK.out HN1.out hc1 HB1.out (by omega) _ L1).mono ?_; rintro e w12 ⟨D8, c8, rfl, S8, hD8, hb⟩
        replace L1 := L1.below hb
        replace S7 := S7.below hb
        replace B := B.trans (hb.mono (by have := B.size; simp <;> omega))
        clear hb
        go_wp2_with fail
        refine (ksameLists_is Q Q true K c7 K c8 D7 D8 (by simp) HKK.out HKK.out (by omega) (fun g hg => by have := (HOKS.out g hg).1; omega) _ S7 S8).mono ?_; rintro e w13 ⟨rfl, hb⟩
        replace L1 := L1.below hb
        replace S7 := S7.below hb
        replace S8 := S8.below hb
        replace B := B.trans (hb.mono (by have := B.size; simp <;> omega))
        clear hb
        go_wp2_with fail
        go_ret
        exact ⟨rfl, B⟩
end Go.Proofs.Ytnnhpbkhfaaaeaa
