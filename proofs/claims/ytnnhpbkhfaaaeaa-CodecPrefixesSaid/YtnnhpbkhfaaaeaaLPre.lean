/- The walk of the law CodecPrefixes. -/
import Derived.Test.YtnnhpbkhfaaaeaaSm
namespace Go.Proofs.Ytnnhpbkhfaaaeaa
open Go.RowKit

set_option maxHeartbeats 800000 in
theorem codecPrefixes_walk (A0 : Option Addr) (n0 c0 : Nat) (l0 : List Int) (hl0 : l0.length = n0) (hw0 : ∀ x ∈ l0, -9223372036854775808 ≤ x ∧ x ≤ 9223372036854775807) (_hz0 : A0 = none → c0 = 0) (_hc0 : n0 ≤ c0) (A1 : Option Addr) (n1 c1 : Nat) (l1 : List Nat) (hl1 : l1.length = n1) (hw1 : ∀ x ∈ l1, x < 256) (_hz1 : A1 = none → c1 = 0) (_hc1 : n1 ≤ c1) (a2 : Int) (ha2 : 0 ≤ a2 ∧ a2 < 65536) (w : World) (L0 : SlK .i64 w A0 l0) (L1 : SlN .u8 w A1 l1) :
    Calls Try.prog 8 #[.slice A0 n0 c0, .slice A1 n1 c1, .int .u16 a2] w fun e w' => e = .returned (.bool true) ∧ Below w.heap.size w w' := by
  by_cases h1 : 300 < n0
  · have h1' : (300 : Int) < (n0 : Int) := by omega
    go_enter Try.func8, Try.ntmps8
    go_wp2_with (first | (go_at_call 9; refine (head_any _).mono ?_; rintro e w1 ⟨rfl, hb1⟩) | fail)
    go_ret
    exact ⟨rfl, hb1⟩
  have h1' : ¬ (300 : Int) < (n0 : Int) := by omega
  by_cases h2 : n1 = 0
  · subst h2
    go_enter Try.func8, Try.ntmps8
    go_wp2_with (first | (go_at_call 9; refine (head_any _).mono ?_; rintro e w1 ⟨rfl, hb1⟩) | fail)
    go_ret
    exact ⟨rfl, hb1⟩
  have h2' : ((n1 : Int) == 0) = false := by simp; omega
  by_cases h3 : 300 < n1
  · have h3' : (300 : Int) < (n1 : Int) := by omega
    go_enter Try.func8, Try.ntmps8
    go_wp2_with (first | (go_at_call 9; refine (head_any _).mono ?_; rintro e w1 ⟨rfl, hb1⟩) | fail)
    go_ret
    exact ⟨rfl, hb1⟩
  have h3' : ¬ (300 : Int) < (n1 : Int) := by omega
  obtain ⟨P, hP⟩ : ∃ P, Cd.put l0 = P := ⟨_, rfl⟩
  obtain ⟨N, hN⟩ : ∃ N, P.length = N := ⟨_, rfl⟩
  have hN0 : 0 < N := by rw [← hN, ← hP]; exact Cd.put_pos _
  have hN1 : N ≤ 3010 := by
    have := Cd.put_len hw0 (by omega)
    rw [hP, hN] at this
    omega
  have hok : Cd.ok l0 := ⟨by omega, hw0⟩
  have hPb : Cd.by8 P := by rw [← hP]; exact Cd.put_by8 _
  have hne1 : l1 ≠ [] := by
    intro e
    rw [e] at hl1
    exact h2 hl1.symm
  have hmore : Cd.get (P ++ l1) = none := by rw [← hP]; exact Cd.get_more hok hne1
  obtain ⟨j, hj⟩ : ∃ j, j = a2.toNat % N := ⟨_, rfl⟩
  have hjN : j < N := by rw [hj]; exact Nat.mod_lt _ hN0
  have hless : Cd.get (P.take j) = none := by rw [← hP]; exact Cd.get_less hok (by rw [hP, hN]; exact hjN)
  have hjv : a2 % (N : Int) = (j : Int) := by rw [hj, Int.natCast_emod, Int.toNat_of_nonneg ha2.1]
  have hjt : a2.tmod (N : Int) = (j : Int) := by rw [Int.tmod_eq_emod_of_nonneg ha2.1]; exact hjv
  have hNz : ¬ (N : Int) = 0 := by omega
  have hNe : ((N : Int) == 0) = false := by simp; omega
  have hjl : (P.take j).length = j := by rw [List.length_take, hN]; omega
  have hjc : ∀ c : Nat, N ≤ c → j ≤ c := fun c h => by omega
  have ha20 := ha2.1
  have ha21 := ha2.2
  have HP := Lib.hid hP
  have HN := Lib.hid hN
  have HPB := Lib.hid hPb
  have HM := Lib.hid hmore
  have HJ := Lib.hid hless
  have HJL := Lib.hid hjl
  have HJB := Lib.hid (hPb.take j)
  have HN0 := Lib.hid hl0
  have HN1 := Lib.hid hl1
  have HK := Lib.hid hw0
  have HB1 := Lib.hid hw1
  have hfin : (P ++ l1).length = N + n1 := by rw [List.length_append, hN, hl1]
  have HFN := Lib.hid hfin
  clear hP hN hPb hne1 hmore hj hless hok hjl hl0 hl1 hw0 hw1 ha2 hfin
  obtain ⟨i0, hi, hz0, hz1, hz2⟩ := info_parts infoByte
  go_enter Try.func8, Try.ntmps8
  go_wp2_with fail
  have B := Below.refl w.heap.size w
  refine (head_any _).mono ?_; rintro e w1 ⟨rfl, hb⟩
  replace L0 := L0.below hb
  replace L1 := L1.below hb
  replace B := B.trans (hb.mono (by have := B.size; simp <;> omega))
  clear hb
  go_wp2_with fail
  refine (put_is l0 P N n0 c0 A0 HP.out HN.out HN0.out (by omega) HK.out _ L0).mono ?_; rintro e w2 ⟨D, c, rfl, S, hD, hc, hb⟩
  replace L0 := L0.below hb
  replace L1 := L1.below hb
  replace B := B.trans (hb.mono (by have := B.size; simp <;> omega))
  clear hb
  clear L0
  obtain ⟨cb, co, rfl, _⟩ := S (by rw [HN.out]; omega)
  have hjc2 := hjc c hc
  go_wp2_with (first | (at_builtin; refine append_sln .u8 rfl _ _ 23 rfl w2.heap.size 5 i0 (.int .u8 0) 1 Try.underlying23 hi hz0 hz1 hz2 rfl (.slice (some ⟨w2.heap.size, 0, none⟩) 0 0) 0 (vN .u8 []) rfl (World.ownsRow_lit (size := 1) w2 #[] 0 (Nat.le_refl _) (by unfold maxLen; omega) rfl) (some ⟨cb, co, none⟩) N c P rfl hD HN.out (S.alloc _) (by unfold maxLen; omega) (by omega) (by simp) ?_; intro v4 w4 hown4 hgrow4; rw [← vN_app, List.nil_append, Nat.zero_add] at hown4; have B4 : Below w2.heap.size w2 w4 := ((Below.refl _ w2).alloc (Nat.le_refl _) _).grown hgrow4 (by simp) (fun j hj => by cases hj; exact Nat.le_refl _); have L4 := L1.below B4) | (at_builtin; refine append_sln .u8 rfl _ _ 23 rfl w2.heap.size 5 i0 (.int .u8 0) 1 Try.underlying23 hi hz0 hz1 hz2 rfl _ N (vN .u8 P) rfl hown4 A1 n1 c1 l1 rfl _hz1 HN1.out L4 (by unfold maxLen; omega) (by omega) B4.size ?_; intro v5 w5 hown5 hgrow5; rw [← vN_app] at hown5; obtain ⟨hl5, D5, c5, rfl, S5, hD5⟩ := own_b hown5; have B5 : Below w2.heap.size w2 w5 := B4.grown hgrow5 B4.size (own_ne hown4); clear hown4 hgrow4 hown5 hgrow5 hD5) | fail)
  replace S := S.below B5
  replace B := B.trans (B5.mono B.size)
  clear B4 B5 L4 hi hz0 hz1 hz2 i0
  refine (get_is (P ++ l1) none (N + n1) c5 D5 HM.out HFN.out (HPB.out.app HB1.out) (by omega) _ S5).mono ?_; rintro e w6 ⟨rfl, hb⟩
  replace S := S.below hb
  replace B := B.trans (hb.mono (by have := B.size; simp <;> omega))
  clear hb
  clear S5 L1
  go_wp2_with fail
  have S6 := S.take j
  refine (get_is (P.take j) none j c (some ⟨cb, co, none⟩) HJ.out HJL.out HJB.out (by omega) _ S6).mono ?_; rintro e w7 ⟨rfl, hb⟩
  replace S := S.below hb
  replace S6 := S6.below hb
  replace B := B.trans (hb.mono (by have := B.size; simp <;> omega))
  clear hb
  go_wp2_with fail
  go_ret
  exact ⟨rfl, B⟩
end Go.Proofs.Ytnnhpbkhfaaaeaa
