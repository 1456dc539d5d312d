/- The walk of the law CodecChanged. -/
import Derived.Test.YtnnhpbkhfaaaeaaCv
namespace Go.Proofs.Ytnnhpbkhfaaaeaa
open Go.RowKit

set_option maxHeartbeats 800000 in
theorem codecChanged_walk (A0 : Option Addr) (n0 c0 : Nat) (l0 : List (List Int)) (hl0 : l0.length = n0) (hw0 : ∀ g ∈ l0, ∀ x ∈ g, -9223372036854775808 ≤ x ∧ x ≤ 9223372036854775807) (_hz0 : A0 = none → c0 = 0) (_hc0 : n0 ≤ c0) (a1 : Int) (ha1 : 0 ≤ a1 ∧ a1 < 65536) (a2 : Int) (ha2 : 0 ≤ a2 ∧ a2 < 256) (w : World) (L0 : SlL w A0 l0) :
    Calls Try.prog 7 #[.slice A0 n0 c0, .int .u16 a1, .int .u8 a2] w fun e w' => e = .returned (.bool true) ∧ Below w.heap.size w w' := by
  cases hsm : Cd.smallB l0 with
  | false =>
    have HSF := Lib.hid hsm
    have HN0 := Lib.hid hl0
    clear hsm hl0 hw0
    go_enter Try.func7, Try.ntmps7
    go_wp2_with (first | (go_at_call 9; refine (head_any _).mono ?_; rintro e w1 ⟨rfl, hb1⟩) | (go_at_call 21; refine (small_is l0 false _ _ A0 HSF.out HN0.out _ (L0.below hb1)).mono ?_; rintro e w2 ⟨rfl, rfl⟩) | fail)
    go_ret
    exact ⟨rfl, hb1⟩
  | true =>
    by_cases h1 : n0 = 0
    · subst h1
      have HSM := Lib.hid hsm
      have HN0 := Lib.hid hl0
      clear hsm hl0 hw0
      go_enter Try.func7, Try.ntmps7
      go_wp2_with (first | (go_at_call 9; refine (head_any _).mono ?_; rintro e w1 ⟨rfl, hb1⟩) | (go_at_call 21; refine (small_is l0 true _ _ A0 HSM.out HN0.out _ (L0.below hb1)).mono ?_; rintro e w2 ⟨rfl, rfl⟩) | fail)
      go_ret
      exact ⟨rfl, hb1⟩
    have h1' : ((n0 : Int) == 0) = false := by simp; omega
    by_cases h2 : a2 = 0
    · subst h2
      have HSM := Lib.hid hsm
      have HN0 := Lib.hid hl0
      clear hsm hl0 hw0
      go_enter Try.func7, Try.ntmps7
      go_wp2_with (first | (go_at_call 9; refine (head_any _).mono ?_; rintro e w1 ⟨rfl, hb1⟩) | (go_at_call 21; refine (small_is l0 true _ _ A0 HSM.out HN0.out _ (L0.below hb1)).mono ?_; rintro e w2 ⟨rfl, rfl⟩) | fail)
      go_ret
      exact ⟨rfl, hb1⟩
    have h2' : (a2 == 0) = false := by simpa using h2
    obtain ⟨hs10, hs30⟩ := Cd.smallB_true hsm
    have hoks := Cd.small_oks hs30 hw0
    have hn10 : n0 ≤ 10 := by omega
    obtain ⟨X, hX⟩ : ∃ X, Cd.frs l0 = X := ⟨_, rfl⟩
    obtain ⟨M, hM⟩ : ∃ M, X.length = M := ⟨_, rfl⟩
    have hXb : Cd.by8 X := by rw [← hX]; exact Cd.frs_by8 hoks
    have HXM := Lib.hid (show (Cd.frs l0).length = M by rw [hX, hM])
    have HXX := Lib.hid hX
    have HM := Lib.hid hM
    have HXB := Lib.hid hXb
    have HN0 := Lib.hid hl0
    have H30 := Lib.hid hs30
    have HW0 := Lib.hid hw0
    have HSM := Lib.hid hsm
    obtain ⟨e, he⟩ : ∃ e, e = n0 - 1 := ⟨_, rfl⟩
    obtain ⟨pre, hpre⟩ : ∃ pre, l0.take e = pre := ⟨_, rfl⟩
    have hel : e < l0.length := by omega
    obtain ⟨g, hg⟩ : ∃ g, l0[e] = g := ⟨_, rfl⟩
    have hok := hoks g (by rw [← hg]; exact List.getElem_mem hel)
    have hopre : Cd.oks pre := fun x hx => hoks x (by rw [← hpre] at hx; exact List.mem_of_mem_take hx)
    have hpl : pre.length = e := by rw [← hpre, List.length_take]; omega
    have hall : l0.take (e + 1) = l0 := List.take_of_length_le (by omega)
    have hXs : X = Cd.frs pre ++ Cd.frame g := by
      have := Cd.frs_take hel
      rw [hall, hX, hpre, hg] at this
      exact this
    obtain ⟨F, hF⟩ : ∃ F, (Cd.frs pre).length = F := ⟨_, rfl⟩
    obtain ⟨G, hG⟩ : ∃ G, (Cd.frame g).length = G := ⟨_, rfl⟩
    have hMFG : M = F + G := by rw [← hM, hXs, List.length_append, hF, hG]
    obtain ⟨hG12, hG3⟩ := Cd.frame_small (hs30 g (by rw [← hg]; exact List.getElem_mem hel)) hok.2
    rw [hG] at hG12 hG3
    obtain ⟨H, hH⟩ : ∃ H, H = G - 3 := ⟨_, rfl⟩
    obtain ⟨q, hq⟩ : ∃ q, q = a1.toNat % H := ⟨_, rfl⟩
    have hqH : q < H := by rw [hq]; exact Nat.mod_lt _ (by omega)
    have hqv : a1 % (H : Int) = (q : Int) := by rw [hq, Int.natCast_emod, Int.toNat_of_nonneg ha1.1]
    have hqt : a1.tmod (H : Int) = (q : Int) := by rw [Int.tmod_eq_emod_of_nonneg ha1.1]; exact hqv
    obtain ⟨I, hI⟩ : ∃ I, I = F + 3 + q := ⟨_, rfl⟩
    have hIM : I < M := by omega
    obtain ⟨x, hx⟩ : ∃ x, atN X I = x := ⟨_, rfl⟩
    have hIX : I < X.length := by rw [hM]; exact hIM
    have hx8 : x < 256 := by rw [← hx, atN_eq hIX]; exact hXb _ (List.getElem_mem hIX)
    obtain ⟨T, hT⟩ : ∃ T : Nat, a2 = (T : Int) := ⟨a2.toNat, by omega⟩
    have hT8 : T < 256 := by omega
    have hT0 : T ≠ 0 := by omega
    have hxor := u8_xor_nat x T hx8 hT8
    rw [← hT] at hxor
    obtain ⟨y, hy⟩ : ∃ y, x ^^^ T = y := ⟨_, rfl⟩
    rw [hy] at hxor
    have hy8 : y < 256 := by rw [← hy]; exact Nat.xor_lt_two_pow (n := 8) hx8 hT8
    have hyx : y ≠ x := fun e => hT0 (xor_self0 (by rw [hy]; exact e))
    have hat : atN (Cd.frame g) (3 + q) = x := by
      rw [← hx, hXs]
      unfold atN
      rw [List.getElem?_append_right (by omega), hF, show I - F = 3 + q by omega]
    have hset : X.set I y = Cd.frs pre ++ (Cd.frame g).set (3 + q) y := by
      rw [hXs, List.set_append_right I y (by rw [hF]; omega), hF, show I - F = 3 + q by omega]
    have hfr : Cd.fr (X.set I y) = (pre, F) := by
      rw [hset, ← hF]
      exact Cd.fr_changed hopre hok (by omega) (by omega) hy8 (by rw [hat]; exact hyx)
    have hend : n0 ≠ 1 → atI (Cd.ends l0 n0) (n0 - 2) = (F : Int) := fun h11 => by
      rw [← hF, ← hpre]
      unfold Cd.ends atI
      rw [List.getElem?_map, List.getElem?_range (by omega)]
      show (((Cd.frs (l0.take (n0 - 2 + 1))).length : Nat) : Int) = _
      rw [show n0 - 2 + 1 = e by omega]
    have hXs2 : (X.set I y).length = M := by rw [List.length_set, hM]
    have hXb2 : Cd.by8 (X.set I y) := fun z hz => by
      rcases List.mem_or_eq_of_mem_set hz with h | h
      · exact hXb z h
      · rw [h]; exact hy8
    have hvset : (vN .u8 X).set I (.int .u8 (y : Int)) = vN .u8 (X.set I y) := by unfold vN; rw [List.map_set]
    have hpre12 : ∀ g ∈ pre, g.length ≤ 1000000000000 := fun g hg => by have := (hopre g hg).1; omega
    have HPL := Lib.hid hpl
    have HPRE := Lib.hid hpre
    have HX1 := Lib.hid hx
    have HFR := Lib.hid hfr
    have HEND := Lib.hid hend
    have HXS := Lib.hid hXs2
    have HXB2 := Lib.hid hXb2
    have HVS := Lib.hid hvset
    have HP12 := Lib.hid hpre12
    have HF0 : Hid (n0 = 1 → F = 0) := Lib.hid (fun h => by rw [← hF]; have : pre = [] := List.eq_nil_of_length_eq_zero (by omega); rw [this]; rfl)
    have f1 : (M : Int) - (F : Int) = (G : Int) := by omega
    have f2 : (G : Int) - 3 = (H : Int) := by omega
    have f3 : (F : Int) + 3 + (q : Int) = (I : Int) := by omega
    have f4 : (n0 : Int) - 1 = (e : Int) := by omega
    have f5 : ¬ (H : Int) = 0 := by omega
    have f6 : ((H : Int) == 0) = false := by simp; omega
    have f7 : e ≤ c0 := by omega
    have f10 : e ≤ 10 := by omega
    have f8 : M ≤ 4000 := by
      have h5 : ∀ l : List (List Int), (∀ g ∈ l, g.length ≤ 30) → (∀ g ∈ l, Cd.wds g) → (Cd.frs l).length ≤ 321 * l.length := fun l => by
        induction l with
        | nil => intro _ _; simp [Cd.frs]
        | cons g r ih =>
          intro h6 h7
          have h8 := ih (fun x hx => h6 x (by simp [hx])) (fun x hx => h7 x (by simp [hx]))
          have h9 := (Cd.frame_small (h6 g (by simp)) (h7 g (by simp))).2
          rw [Cd.frs_cons, List.length_append, List.length_cons]
          omega
      have h6 := h5 l0 hs30 hw0
      rw [hX, hM] at h6
      omega
    obtain ⟨ha10, ha11⟩ := ha1
    have f9 : (a1 : Int) < 65536 := ha11
    clear hpre hel hg hok hopre hpl hall hXs hF hG hq hx hIX hT hT8 hT0 hy hat hset hfr hend hXs2 hXb2 hvset hpre12 hx8 hyx h2 ha2 hs10 hs30 hoks hX hM hXb hl0 hw0 hsm
    obtain ⟨i0, hi, hz0, hz1, hz2⟩ := info_parts infoByte
    by_cases h11 : n0 = 1
    · have hF0 := HF0.out h11
      have t1 : ¬ (1 : Int) < (n0 : Int) := by omega
      have g1 : (M : Int) - 3 = (H : Int) := by omega
      have g3 : (3 : Int) + (q : Int) = (I : Int) := by omega
      subst hF0
      clear h11 f1 f2 f3 hMFG hH hI he
      go_enter Try.func7, Try.ntmps7
      go_wp2_with fail
      have B := Below.refl w.heap.size w
      refine (head_any _).mono ?_; rintro e w1 ⟨rfl, hb⟩
      replace L0 := L0.below hb
      replace B := B.trans (hb.mono (by have := B.size; simp <;> omega))
      clear hb
      go_wp2_with fail
      refine (small_is l0 true n0 c0 A0 HSM.out HN0.out _ L0).mono ?_; rintro e w2 ⟨rfl, rfl⟩
      go_wp2_with fail
      refine (lframes_is l0 n0 c0 M A0 HXM.out HN0.out hn10 H30.out HW0.out _ L0).mono ?_; rintro e w2 ⟨D, c, E, c2, rfl, S, hD, hc, SE, hE, hc2, hM4, hb⟩
      replace L0 := L0.below hb
      replace B := B.trans (hb.mono (by have := B.size; simp <;> omega))
      clear hb
      rw [HXX.out] at S
      go_wp2_with (first | (at_builtin; refine append_sln .u8 rfl _ _ 23 rfl w2.heap.size 5 i0 (.int .u8 0) 1 Try.underlying23 hi hz0 hz1 hz2 rfl (.slice (some ⟨w2.heap.size, 0, none⟩) 0 0) 0 (vN .u8 []) rfl (World.ownsRow_lit (size := 1) w2 #[] 0 (Nat.le_refl _) (by unfold maxLen; omega) rfl) D M c X rfl hD HM.out (S.alloc _) (by unfold maxLen; omega) (by omega) (by simp) ?_; intro v4 w4 hown4 hgrow4; rw [← vN_app, List.nil_append, Nat.zero_add] at hown4; have B4 : Below w2.heap.size w2 w4 := ((Below.refl _ w2).alloc (Nat.le_refl _) _).grown hgrow4 (by simp) (fun j hj => by cases hj; exact Nat.le_refl _); obtain ⟨S4, c4, rfl, hS4⟩ := own_slice hown4 (by omega); have hc4 := own_cap hown4; have hcell := hown4.cells (g := S4) rfl I _ (vN_at (by rw [HM.out]; exact hIM)); rw [addr_add, HX1.out] at hcell; have hfz := hown4.frozenAt I; have hst := (hown4.stored I (.int .u8 (y : Int))).1; rw [HVS.out] at hst; obtain ⟨_, D5, c5, e5, S5, _⟩ := own_b hst; cases e5; have B5 := B4.setCell (p := ⟨S4, I, none⟩) hS4 (.int .u8 (y : Int)); clear hown4 hgrow4 hst) | fail)
      replace L0 := L0.below B5
      replace B := B.trans (B5.mono B.size)
      clear B4 B5 S SE hi hz0 hz1 hz2 i0
      generalize w4.setCell ⟨S4, I, none⟩ (.int .u8 (y : Int)) = w5 at *
      refine (frames_is (X.set I y) pre 0 e M c4 (some ⟨S4, 0, none⟩) HFR.out HPL.out HXS.out hc4 HXB2.out (by omega) _ S5).mono ?_; rintro e w6 ⟨D6, c6, rfl, S6, hD6, hc6, hb⟩
      replace L0 := L0.below hb
      replace B := B.trans (hb.mono (by have := B.size; simp <;> omega))
      clear hb
      clear S5
      have T0 := L0.take e
      rw [HPRE.out] at T0
      clear L0
      go_wp2_with fail
      refine (ksameLists_is pre pre true e c6 e c0 D6 A0 (by simp) HPL.out HPL.out (by omega) HP12.out _ S6 T0).mono ?_; rintro e w7 ⟨rfl, hb⟩
      replace S6 := S6.below hb
      replace T0 := T0.below hb
      replace B := B.trans (hb.mono (by have := B.size; simp <;> omega))
      clear hb
      go_wp2_with fail
      go_ret
      exact ⟨rfl, B⟩
    · have t1 : (1 : Int) < (n0 : Int) := by omega
      have h2n : n0 - 2 < (Cd.ends l0 n0).length := by rw [Cd.ends_len]; omega
      have t3 : (n0 : Int) - 2 = ((n0 - 2 : Nat) : Int) := by omega
      have HEF : Hid (atI (Cd.ends l0 n0) (n0 - 2) = (F : Int)) := Lib.hid (HEND.out h11)
      obtain ⟨z2, hz2n⟩ : ∃ z2, n0 - 2 = z2 := ⟨_, rfl⟩
      rw [hz2n] at t3 HEF h2n
      clear h11 hz2n hMFG hH hI he
      go_enter Try.func7, Try.ntmps7
      go_wp2_with fail
      have B := Below.refl w.heap.size w
      refine (head_any _).mono ?_; rintro e w1 ⟨rfl, hb⟩
      replace L0 := L0.below hb
      replace B := B.trans (hb.mono (by have := B.size; simp <;> omega))
      clear hb
      go_wp2_with fail
      refine (small_is l0 true n0 c0 A0 HSM.out HN0.out _ L0).mono ?_; rintro e w2 ⟨rfl, rfl⟩
      go_wp2_with fail
      refine (lframes_is l0 n0 c0 M A0 HXM.out HN0.out hn10 H30.out HW0.out _ L0).mono ?_; rintro e w2 ⟨D, c, E, c2, rfl, S, hD, hc, SE, hE, hc2, hM4, hb⟩
      replace L0 := L0.below hb
      replace B := B.trans (hb.mono (by have := B.size; simp <;> omega))
      clear hb
      rw [HXX.out] at S
      obtain ⟨eb, eo, rfl, heb, hec⟩ := SE (by rw [Cd.ends_len]; omega)
      have x0 := hec z2 h2n
      rw [HEF.out] at x0
      clear hec
      go_wp2_with (first | (at_builtin; refine append_sln .u8 rfl _ _ 23 rfl w2.heap.size 5 i0 (.int .u8 0) 1 Try.underlying23 hi hz0 hz1 hz2 rfl (.slice (some ⟨w2.heap.size, 0, none⟩) 0 0) 0 (vN .u8 []) rfl (World.ownsRow_lit (size := 1) w2 #[] 0 (Nat.le_refl _) (by unfold maxLen; omega) rfl) D M c X rfl hD HM.out (S.alloc _) (by unfold maxLen; omega) (by omega) (by simp) ?_; intro v4 w4 hown4 hgrow4; rw [← vN_app, List.nil_append, Nat.zero_add] at hown4; have B4 : Below w2.heap.size w2 w4 := ((Below.refl _ w2).alloc (Nat.le_refl _) _).grown hgrow4 (by simp) (fun j hj => by cases hj; exact Nat.le_refl _); obtain ⟨S4, c4, rfl, hS4⟩ := own_slice hown4 (by omega); have hc4 := own_cap hown4; have hcell := hown4.cells (g := S4) rfl I _ (vN_at (by rw [HM.out]; exact hIM)); rw [addr_add, HX1.out] at hcell; have hfz := hown4.frozenAt I; have hst := (hown4.stored I (.int .u8 (y : Int))).1; rw [HVS.out] at hst; obtain ⟨_, D5, c5, e5, S5, _⟩ := own_b hst; cases e5; have B5 := B4.setCell (p := ⟨S4, I, none⟩) hS4 (.int .u8 (y : Int)); clear hown4 hgrow4 hst) | fail)
      replace L0 := L0.below B5
      replace B := B.trans (B5.mono B.size)
      clear B4 B5 S SE hi hz0 hz1 hz2 i0
      generalize w4.setCell ⟨S4, I, none⟩ (.int .u8 (y : Int)) = w5 at *
      refine (frames_is (X.set I y) pre F e M c4 (some ⟨S4, 0, none⟩) HFR.out HPL.out HXS.out hc4 HXB2.out (by omega) _ S5).mono ?_; rintro e w6 ⟨D6, c6, rfl, S6, hD6, hc6, hb⟩
      replace L0 := L0.below hb
      replace B := B.trans (hb.mono (by have := B.size; simp <;> omega))
      clear hb
      clear S5
      have T0 := L0.take e
      rw [HPRE.out] at T0
      clear L0
      go_wp2_with fail
      refine (ksameLists_is pre pre true e c6 e c0 D6 A0 (by simp) HPL.out HPL.out (by omega) HP12.out _ S6 T0).mono ?_; rintro e w7 ⟨rfl, hb⟩
      replace S6 := S6.below hb
      replace T0 := T0.below hb
      replace B := B.trans (hb.mono (by have := B.size; simp <;> omega))
      clear hb
      go_wp2_with fail
      go_ret
      exact ⟨rfl, B⟩
end Go.Proofs.Ytnnhpbkhfaaaeaa
