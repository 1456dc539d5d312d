/- The walk of the law CodecTorn. -/
import Derived.Test.YtnnhpbkhfaaaeaaCu
namespace Go.Proofs.Ytnnhpbkhfaaaeaa
open Go.RowKit

theorem Cd.ends_at {l : List (List Int)} {n i : Nat} (h : i < n) : atI (Cd.ends l n) i = ((Cd.frs (l.take (i + 1))).length : Int) := by
  unfold Cd.ends atI
  rw [List.getElem?_map, List.getElem?_range h]
  rfl

set_option maxHeartbeats 800000 in
theorem codecTorn_walk (A0 : Option Addr) (n0 c0 : Nat) (l0 : List (List Int)) (hl0 : l0.length = n0) (hw0 : ∀ g ∈ l0, ∀ x ∈ g, -9223372036854775808 ≤ x ∧ x ≤ 9223372036854775807) (_hz0 : A0 = none → c0 = 0) (_hc0 : n0 ≤ c0) (a1 : Int) (ha1 : 0 ≤ a1 ∧ a1 < 65536) (w : World) (L0 : SlL w A0 l0) :
    Calls Try.prog 5 #[.slice A0 n0 c0, .int .u16 a1] w fun e w' => e = .returned (.bool true) ∧ Below w.heap.size w w' := by
  cases hsm : Cd.smallB l0 with
  | false =>
    have HSF := Lib.hid hsm
    have HN0 := Lib.hid hl0
    clear hsm hl0 hw0
    go_enter Try.func5, Try.ntmps5
    go_wp2_with (first | (go_at_call 9; refine (head_any _).mono ?_; rintro e w1 ⟨rfl, hb1⟩) | (go_at_call 21; refine (small_is l0 false _ _ A0 HSF.out HN0.out _ (L0.below hb1)).mono ?_; rintro e w2 ⟨rfl, rfl⟩) | fail)
    go_ret
    exact ⟨rfl, hb1⟩
  | true =>
    obtain ⟨hs10, hs30⟩ := Cd.smallB_true hsm
    have hoks := Cd.small_oks hs30 hw0
    have hn10 : n0 ≤ 10 := by omega
    obtain ⟨X, hX⟩ : ∃ X, Cd.frs l0 = X := ⟨_, rfl⟩
    obtain ⟨M, hM⟩ : ∃ M, X.length = M := ⟨_, rfl⟩
    have hXb : Cd.by8 X := by rw [← hX]; exact Cd.frs_by8 hoks
    have HXM := Lib.hid (show (Cd.frs l0).length = M by rw [hX, hM])
    have HXX := Lib.hid hX
    have HM := Lib.hid hM
    have HXB := Lib.hid hXb
    have HN0 := Lib.hid hl0
    have H30 := Lib.hid hs30
    have HW0 := Lib.hid hw0
    have HSM := Lib.hid hsm
    obtain ⟨M1, hM1⟩ : ∃ M1, M1 = M + 1 := ⟨_, rfl⟩
    obtain ⟨j, hj⟩ : ∃ j, j = a1.toNat % M1 := ⟨_, rfl⟩
    have hjM : j ≤ M := by have := Nat.mod_lt a1.toNat (show 0 < M1 by omega); omega
    have hjv : a1 % (M1 : Int) = (j : Int) := by rw [hj, Int.natCast_emod, Int.toNat_of_nonneg ha1.1]
    have hjt : a1.tmod (M1 : Int) = (j : Int) := by rw [Int.tmod_eq_emod_of_nonneg ha1.1]; exact hjv
    obtain ⟨v, hv1, hv2, hv3, hv4⟩ := Cd.fr_torn hoks j (by rw [hX, hM]; exact hjM)
    rw [hX] at hv4
    obtain ⟨V, hV⟩ : ∃ V, l0.take v = V := ⟨_, rfl⟩
    obtain ⟨R, hR⟩ : ∃ R, (Cd.frs V).length = R := ⟨_, rfl⟩
    rw [hV, hR] at hv4
    have hiff : ∀ i, i < n0 → ((Cd.frs (l0.take (i + 1))).length ≤ j ↔ i + 1 ≤ v) := fun i hi =>
      ⟨fun h => hv3 (i + 1) (by omega) h, fun h => Nat.le_trans (Cd.frs_mono h) hv2⟩
    have hVl : V.length = v := by rw [← hV, List.length_take]; omega
    have hVo : ∀ g ∈ V, g.length ≤ 1000000000000 := fun g hg => by
      have := (hoks g (by rw [← hV] at hg; exact List.mem_of_mem_take hg)).1
      omega
    have HV := Lib.hid hV
    have HR : Hid ((Cd.frs (l0.take v)).length = R) := Lib.hid (by rw [hV, hR])
    have HFR := Lib.hid hv4
    have HIF := Lib.hid hiff
    have HVL := Lib.hid hVl
    have HVO := Lib.hid hVo
    have HXJ : Hid ((X.take j).length = j) := Lib.hid (by rw [List.length_take, hM]; omega)
    have HXJB := Lib.hid (hXb.take j)
    have f1 : (M : Int) + 1 = (M1 : Int) := by omega
    have f2 : ¬ (M1 : Int) = 0 := by omega
    have f3 : ((M1 : Int) == 0) = false := by simp; omega
    have f4 : v ≤ c0 := by omega
    have f5 : v ≤ n0 := by omega
    obtain ⟨ha10, ha11⟩ := ha1
    clear hM1 hj hv1 hv2 hv3 hv4 hV hR hiff hVl hVo hs10 hs30 hoks hX hM hXb hl0 hw0 hsm
    go_enter Try.func5, Try.ntmps5
    go_wp2_with fail
    have B := Below.refl w.heap.size w
    refine (head_any _).mono ?_; rintro e w1 ⟨rfl, hb⟩
    replace L0 := L0.below hb
    replace B := B.trans (hb.mono (by have := B.size; simp <;> omega))
    clear hb
    go_wp2_with fail
    refine (small_is l0 true n0 c0 A0 HSM.out HN0.out _ L0).mono ?_; rintro e w2 ⟨rfl, rfl⟩
    go_wp2_with fail
    refine (lframes_is l0 n0 c0 M A0 HXM.out HN0.out hn10 H30.out HW0.out _ L0).mono ?_; rintro e w2 ⟨D, c, E, c2, rfl, S, hD, hc, SE, hE, hc2, hM4, hb⟩
    replace L0 := L0.below hb
    replace B := B.trans (hb.mono (by have := B.size; simp <;> omega))
    clear hb
    rw [HXX.out] at S
    have hjc : j ≤ c := by omega
    have HS := Lib.hid S
    have HSE := Lib.hid SE
    have HL := Lib.hid L0
    clear S SE L0
    go_wp2_with fail
    go_loopw [10, 11, 12] (fun s10 s11 s12 wr => ∃ (i : Nat) (q a z : Int), i ≤ n0 ∧ q = i ∧ s12 = .int .i64 q ∧ s10 = .int .i64 a ∧ s11 = .int .i64 z ∧ Hid (a = ((min i v : Nat) : Int) ∧ z = ((Cd.frs (l0.take (min i v))).length : Int)) ∧ Below w2.heap.size w2 wr) (fun _ _ s12 _ => n0 - (intOf s12).toNat)
    case atStart => exact ⟨0, 0, 0, 0, by omega, rfl, rfl, rfl, rfl, Lib.hid ⟨by rw [Nat.zero_min]; rfl, by rw [Nat.zero_min, List.take_zero]; rfl⟩, Below.refl _ _⟩
    case round =>
      obtain ⟨i, q, a, z, hi, hq, rfl, rfl, rfl, HE, hG⟩ := hrel
      by_cases hlt : i < n0
      · have hil : i < (Cd.ends l0 n0).length := by rw [Cd.ends_len]; exact hlt
        obtain ⟨eb, eo, rfl, heb, hec⟩ := HSE.out (by omega)
        have x0 := (hG.cell (p := ⟨eb, eo + i, none⟩) heb).trans (hec i hil)
        rw [Cd.ends_at hlt] at x0
        have hif := HIF.out i hlt
        obtain ⟨u, hu⟩ : ∃ u, (Cd.frs (l0.take (i + 1))).length = u := ⟨_, rfl⟩
        rw [hu] at x0 hif
        have hq1 : q < (n0 : Int) := by omega
        have hq3 : 0 ≤ q := by omega
        have hqn : q.toNat = i := by omega
        have HQ := Lib.hid hq
        have HU := Lib.hid hu
        clear hec hil hu hq
        by_cases huj : u ≤ j
        · have huj' : (u : Int) ≤ (j : Int) := by omega
          have hiv := hif.1 huj
          have HE2 : Hid (q + 1 = ((min (i + 1) v : Nat) : Int) ∧ (u : Int) = ((Cd.frs (l0.take (min (i + 1) v))).length : Int)) := Lib.hid ⟨by rw [Nat.min_eq_left hiv]; have := HQ.out; omega, by rw [Nat.min_eq_left hiv, HU.out]⟩
          have y0 := fun y : Ext wr => y.cell x0
          have hne := Ext.there wr
          clear hif hiv
          go_wp2_with fail
          refine Ext.region (by kernel_rfl) (by kernel_rfl) ?_
          repeat (go_big_quiet_step (fail))
          refine wpQuiet_nil ?_
          rintro _ ⟨xw, rfl⟩
          replace hG := hG.trans (xw.h.mono hG.size)
          clear x0 y0 hne
          generalize xw.w = w5 at *
          clear xw
          go_wp2_with fail
          go_roundw
          case rel => exact ⟨i + 1, q + 1, q + 1, u, by omega, (by have := HQ.out; omega), rfl, rfl, rfl, HE2, hG⟩
          case measure => have := HQ.out; simp [intOf]; omega
        · have huj' : ¬ (u : Int) ≤ (j : Int) := by omega
          have hiv : v ≤ i := by
            rcases Nat.lt_or_ge i v with h | h
            · exact absurd (hif.2 h) huj
            · exact h
          have HE2 : Hid (a = ((min (i + 1) v : Nat) : Int) ∧ z = ((Cd.frs (l0.take (min (i + 1) v))).length : Int)) := Lib.hid (by
            have := HE.out
            rw [Nat.min_eq_right hiv] at this
            rw [Nat.min_eq_right (by omega)]
            exact this)
          clear hif hiv
          go_wp2_with fail
          go_roundw
          case rel => exact ⟨i + 1, q + 1, a, z, by omega, (by have := HQ.out; omega), rfl, rfl, rfl, HE2, hG⟩
          case measure => have := HQ.out; simp [intOf]; omega
      · obtain rfl : i = n0 := by omega
        obtain ⟨ha, hz⟩ := HE.out
        rw [Nat.min_eq_right f5] at ha hz
        rw [HR.out] at hz
        subst ha
        subst hz
        have hq1 : ¬ q < (i : Int) := by omega
        clear HE hq
        have T := (HS.out.below hG).take j
        have T0 := (HL.out.below hG).take v
        rw [HV.out] at T0
        replace B := B.trans (hG.mono B.size)
        go_wp2_with fail
        refine (frames_is (X.take j) V R v j c D HFR.out HVL.out HXJ.out hjc HXJB.out (by omega) _ T).mono ?_; rintro e w6 ⟨D6, c6, rfl, S6, hD6, hc6, hb⟩
        replace T0 := T0.below hb
        replace B := B.trans (hb.mono B.size)
        clear hb T
        go_wp2_with fail
        refine (ksameLists_is V V true v c6 v c0 D6 A0 (by simp) HVL.out HVL.out (by omega) HVO.out _ S6 T0).mono ?_; rintro e w7 ⟨rfl, hb⟩
        replace B := B.trans (hb.mono B.size)
        go_wp2_with fail
        go_ret
        exact ⟨rfl, B⟩
end Go.Proofs.Ytnnhpbkhfaaaeaa
