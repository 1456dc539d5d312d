/- The walk of the law CodecBack. -/
import Derived.Test.YtnnhpbkhfaaaeaaSm
namespace Go.Proofs.Ytnnhpbkhfaaaeaa
open Go.RowKit

set_option maxHeartbeats 800000 in
theorem codecBack_walk (A0 : Option Addr) (n0 c0 : Nat) (l0 : List Int) (hl0 : l0.length = n0) (hw0 : ∀ x ∈ l0, -9223372036854775808 ≤ x ∧ x ≤ 9223372036854775807) (_hz0 : A0 = none → c0 = 0) (_hc0 : n0 ≤ c0) (A1 : Option Addr) (n1 c1 : Nat) (l1 : List Nat) (hl1 : l1.length = n1) (hw1 : ∀ x ∈ l1, x < 256) (_hz1 : A1 = none → c1 = 0) (_hc1 : n1 ≤ c1) (w : World) (L0 : SlK .i64 w A0 l0) (L1 : SlN .u8 w A1 l1) :
    Calls Try.prog 4 #[.slice A0 n0 c0, .slice A1 n1 c1] w fun e w' => e = .returned (.bool true) ∧ Below w.heap.size w w' := by
  by_cases h1 : 300 < n0
  · have h1' : (300 : Int) < (n0 : Int) := by omega
    go_enter Try.func4, Try.ntmps4
    go_wp2_with (first | (go_at_call 9; refine (head_any _).mono ?_; rintro e w1 ⟨rfl, hb1⟩) | fail)
    go_ret
    exact ⟨rfl, hb1⟩
  have h1' : ¬ (300 : Int) < (n0 : Int) := by omega
  by_cases h2 : 3000 < n1
  · have h2' : (3000 : Int) < (n1 : Int) := by omega
    go_enter Try.func4, Try.ntmps4
    go_wp2_with (first | (go_at_call 9; refine (head_any _).mono ?_; rintro e w1 ⟨rfl, hb1⟩) | fail)
    go_ret
    exact ⟨rfl, hb1⟩
  have h2' : ¬ (3000 : Int) < (n1 : Int) := by omega
  obtain ⟨P, hP⟩ : ∃ P, Cd.put l0 = P := ⟨_, rfl⟩
  obtain ⟨N, hN⟩ : ∃ N, P.length = N := ⟨_, rfl⟩
  have hN1 : N ≤ 3010 := by
    have := Cd.put_len hw0 (by omega)
    rw [hP, hN] at this
    omega
  have hok : Cd.ok l0 := ⟨by omega, hw0⟩
  have hPb : Cd.by8 P := by rw [← hP]; exact Cd.put_by8 _
  have hbk : Cd.get P = some l0 := by rw [← hP]; exact Cd.get_put hok
  have HP := Lib.hid hP
  have HN := Lib.hid hN
  have HPB := Lib.hid hPb
  have HBK := Lib.hid hbk
  have HN0 := Lib.hid hl0
  have HN1 := Lib.hid hl1
  have HK := Lib.hid hw0
  have HB1 := Lib.hid hw1
  cases hg : Cd.get l1 with
  | none =>
    have HG := Lib.hid hg
    clear hg hP hN hPb hok hbk hl0 hl1 hw0 hw1
    go_enter Try.func4, Try.ntmps4
    go_wp2_with fail
    have B := Below.refl w.heap.size w
    refine (head_any _).mono ?_; rintro e w1 ⟨rfl, hb⟩
    replace L0 := L0.below hb
    replace L1 := L1.below hb
    replace B := B.trans (hb.mono (by have := B.size; simp <;> omega))
    clear hb
    go_wp2_with fail
    refine (put_is l0 P N n0 c0 A0 HP.out HN.out HN0.out (by omega) HK.out _ L0).mono ?_; rintro e w2 ⟨D, c, rfl, S, hD, hc, hb⟩
    replace L0 := L0.below hb
    replace L1 := L1.below hb
    replace B := B.trans (hb.mono (by have := B.size; simp <;> omega))
    clear hb
    go_wp2_with fail
    refine (get_is P (some l0) N c D HBK.out HN.out HPB.out (by omega) _ S).mono ?_; rintro e w3 ⟨⟨D2, c2, rfl, S2, hD2, T2⟩, hb⟩
    replace L0 := L0.below hb
    replace L1 := L1.below hb
    replace S := S.below hb
    replace B := B.trans (hb.mono (by have := B.size; simp <;> omega))
    clear hb
    clear T2
    simp only [HN0.out]
    go_wp2_with fail
    clear S
    refine (ksameInts_is l0 l0 true n0 c0 n0 c2 A0 D2 (by simp) HN0.out HN0.out (by omega) _ L0 S2).mono ?_; rintro e w4 ⟨rfl, hb⟩
    replace L0 := L0.below hb
    replace L1 := L1.below hb
    replace S2 := S2.below hb
    replace B := B.trans (hb.mono (by have := B.size; simp <;> omega))
    clear hb
    go_wp2_with fail
    clear L0 S2
    refine (get_is l1 none n1 c1 A1 HG.out HN1.out HB1.out (by omega) _ L1).mono ?_; rintro e w5 ⟨rfl, hb⟩
    replace L1 := L1.below hb
    replace B := B.trans (hb.mono (by have := B.size; simp <;> omega))
    clear hb
    go_wp2_with fail
    go_ret
    exact ⟨rfl, B⟩
  | some k =>
    obtain ⟨hpk, hokk⟩ := Cd.put_get hg hw1
    obtain ⟨m, hm⟩ : ∃ m, k.length = m := ⟨_, rfl⟩
    have hm4 : m ≤ 4000 := by rw [← hm]; exact hokk.1
    have HPK := Lib.hid hpk
    have HKK := Lib.hid hokk.2
    have HMM := Lib.hid hm
    clear hpk hokk hm
    have HG := Lib.hid hg
    clear hg hP hN hPb hok hbk hl0 hl1 hw0 hw1
    go_enter Try.func4, Try.ntmps4
    go_wp2_with fail
    have B := Below.refl w.heap.size w
    refine (head_any _).mono ?_; rintro e w1 ⟨rfl, hb⟩
    replace L0 := L0.below hb
    replace L1 := L1.below hb
    replace B := B.trans (hb.mono (by have := B.size; simp <;> omega))
    clear hb
    go_wp2_with fail
    refine (put_is l0 P N n0 c0 A0 HP.out HN.out HN0.out (by omega) HK.out _ L0).mono ?_; rintro e w2 ⟨D, c, rfl, S, hD, hc, hb⟩
    replace L0 := L0.below hb
    replace L1 := L1.below hb
    replace B := B.trans (hb.mono (by have := B.size; simp <;> omega))
    clear hb
    go_wp2_with fail
    refine (get_is P (some l0) N c D HBK.out HN.out HPB.out (by omega) _ S).mono ?_; rintro e w3 ⟨⟨D2, c2, rfl, S2, hD2, T2⟩, hb⟩
    replace L0 := L0.below hb
    replace L1 := L1.below hb
    replace S := S.below hb
    replace B := B.trans (hb.mono (by have := B.size; simp <;> omega))
    clear hb
    clear T2
    simp only [HN0.out]
    go_wp2_with fail
    clear S
    refine (ksameInts_is l0 l0 true n0 c0 n0 c2 A0 D2 (by simp) HN0.out HN0.out (by omega) _ L0 S2).mono ?_; rintro e w4 ⟨rfl, hb⟩
    replace L0 := L0.below hb
    replace L1 := L1.below hb
    replace S2 := S2.below hb
    replace B := B.trans (hb.mono (by have := B.size; simp <;> omega))
    clear hb
    go_wp2_with fail
    clear L0 S2
    refine (get_is l1 (some k) n1 c1 A1 HG.out HN1.out HB1.out (by omega) _ L1).mono ?_; rintro e w5 ⟨⟨D3, c3, rfl, S3, hD3, T3⟩, hb⟩
    replace L1 := L1.below hb
    replace B := B.trans (hb.mono (by have := B.size; simp <;> omega))
    clear hb
    clear T3
    simp only [HMM.out]
    go_wp2_with fail
    refine (put_is k l1 n1 m c3 D3 HPK.out HN1.out HMM.out hm4 HKK.out _ S3).mono ?_; rintro e w6 ⟨D4, c4, rfl, S4, hD4, hc4, hb⟩
    replace L1 := L1.below hb
    replace S3 := S3.below hb
    replace B := B.trans (hb.mono (by have := B.size; simp <;> omega))
    clear hb
    go_wp2_with fail
    clear S3
    refine (ksameBytes_is l1 l1 true n1 c1 n1 c4 A1 D4 (by simp) HN1.out HN1.out HB1.out HB1.out _ L1 S4).mono ?_; rintro e w7 ⟨rfl, hb⟩
    replace L1 := L1.below hb
    replace S4 := S4.below hb
    replace B := B.trans (hb.mono (by have := B.size; simp <;> omega))
    clear hb
    go_wp2_with fail
    go_ret
    exact ⟨rfl, B⟩
end Go.Proofs.Ytnnhpbkhfaaaeaa
