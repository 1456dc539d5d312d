/-
  The floor of a ratio is at most the ratio, and more than it less 1: the law RatioFloors returns true for every ratio, valid or not, and leaves it as it was.
  Conditions: none.
-/
import Derived.Test.YtmcjgplinacdaaaHead
import Derived.Test.YtmcjgplinacdaaaRops
import Derived.Test.YtmcjgplinacdaaaOpen
namespace Go.Proofs.Ytmcjgplinacdaaa
open Go.ChangeShapes Go.WideShapes Go.ChangeAt Go.RowKit

set_option maxHeartbeats 800000 in
theorem ratioFloors_walk (a b : Int) (w : World) :
    Calls Try.prog 8 #[.agg #[.int .i64 a, .int .i64 b]] w fun e w' => e = .returned (.bool true) ∧ Below w.heap.size w w' := by
  by_cases hv : Rt.vld a b = true
  · obtain ⟨h1, h2, h3, h4⟩ := Rt.vld_lim hv
    have hF : Rt.flR a b = (a / b, 0) := by unfold Rt.flR Rt.flV Rt.cmpE; rw [hv]; rfl
    have e1 : a - a / b * b = a % b := by have := Int.mul_ediv_add_emod a b; rw [Int.mul_comm] at this; omega
    have g1 := Int.emod_nonneg a (show b ≠ 0 by omega)
    have g2 := Int.emod_lt_of_pos a (show 0 < b by omega)
    have g3 : -1001000000 ≤ a / b * b ∧ a / b * b ≤ 1001000000 := by omega
    obtain ⟨g3, g4⟩ := g3
    have g5 : 0 ≤ a - a / b * b := by omega
    have g6 : a - a / b * b < b := by omega
    clear e1 g1 g2
    have HV := Lib.hid hv
    have HF := Lib.hid hF
    clear hv hF
    go_enter Try.func8, Try.ntmps8
    go_wp2_with fail
    refine (head_any _).mono ?_; rintro e w1 ⟨rfl, hb1⟩
    have A1 := (At2.new w a b _).below hb1
    have a0 := A1.c0; have a1 := A1.c1
    go_wp2_with fail
    refine (floor_is _ _ _ _ HF.out _).mono ?_; rintro e w2 ⟨rfl, hb2⟩
    have A2 := A1.below hb2
    clear a0 a1 A1
    have a0 := A2.c0; have a1 := A2.c1
    go_wp2_with fail
    go_ret
    exact ⟨rfl, (((Below.refl _ _).alloc (Nat.le_refl _) _).trans (hb1.mono (by simp))).trans (hb2.mono (by have := hb1.size; simp at this; omega))⟩
  · have hv' : Rt.vld a b = false := by simpa using hv
    have hF : Rt.flR a b = (0, 1) := by unfold Rt.flR Rt.flV Rt.cmpE; rw [hv']; rfl
    have HV := Lib.hid hv'
    have HF := Lib.hid hF
    clear hv hv' hF
    go_enter Try.func8, Try.ntmps8
    go_wp2_with fail
    refine (head_any _).mono ?_; rintro e w1 ⟨rfl, hb1⟩
    have A1 := (At2.new w a b _).below hb1
    have a0 := A1.c0; have a1 := A1.c1
    go_wp2_with fail
    refine (floor_is _ _ _ _ HF.out _).mono ?_; rintro e w2 ⟨rfl, hb2⟩
    have A2 := A1.below hb2
    clear a0 a1 A1
    have a0 := A2.c0; have a1 := A2.c1
    go_wp2_with fail
    refine (rvalid_is _ _ _ HV.out _).mono ?_; rintro e w3 ⟨rfl, hb3⟩
    go_wp2_with fail
    go_ret
    exact ⟨rfl, ((((Below.refl _ _).alloc (Nat.le_refl _) _).trans (hb1.mono (by simp))).trans (hb2.mono (by have := hb1.size; simp at this; omega))).trans (hb3.mono (by have := hb1.size; have := hb2.size; simp at *; omega))⟩

set_option maxRecDepth 100000 in
theorem ratioFloors_lifted (os : Os) (started : os.Started) (H : Type) (enc : TypeId × Value → H) :
    ReturnsInHanded {} Try.checked os 8 .any (Rows.ratioFloorsSpec.pre6 enc Try.prog Try.f8 Rows.ratioFloorsRow.domain false) (Rows.ratioFloorsSpec.post enc Try.prog Try.f8 false true false false) := by
  refine returnsInHanded_of_change (C := Try.checked) own started (by kernel_rfl) Try.func8
    (ChangeSpec.witness6 (enc := enc) (C := Try.checked) false ⟨#[], #[.agg #[.int .i64 0, .int .i64 0]], []⟩ 8 (by kernel_rfl) (by kernel_rfl) (by kernel_rfl) (by kernel_rfl)) ?_
  intro W base args ds gs before hval0 hW _ _
  have hval : ∀ (j : Nat) t v, Try.f8.params[j]? = some t → args[j]? = some v → Value.okWide Try.prog W .any base t v := hval0
  have hW' := hW
  obtain ⟨p, q, hA0, hV, rfl, _, _⟩ := hW
  have hA : DataW.TrodAll enc Try.prog W 0 (fun _ => true) true Try.f8.params.toList args.toList ds p := hA0
  rw [Try.params8] at hA hval
  obtain ⟨v0, vs0, d0, ds0, p0, q0, hargs, rfl, rfl, h0, r0⟩ := trodAll_cons hA
  obtain ⟨rfl, rfl, rfl⟩ := trodAll_nil r0
  obtain rfl : args = #[v0] := by cases args; simp_all
  obtain ⟨rfl, rfl⟩ := trodVars_none hV
  have k0 := h0
  have lt0 : ∀ x ∈ p0, x.block < W.heap.size := by obtain ⟨m, hm⟩ := k0; exact DataW.trod_lt m _ _ _ hm
  obtain ⟨a0, b0, rfl⟩ := open_rat (hval 0 23 v0 rfl rfl) h0
  clear hA0 hval0
  refine (ratioFloors_walk a0 b0 W).mono fun e W' ⟨he, bel⟩ => ?_
  subst he
  exact ⟨_, rfl, _, _, _, [], _, [], hW', trodAll_mk1 (shut_bool Try.underlying4 _), (trodAll_cons_mk (Below.trod laidOut (by kernel_rfl) (of_decide_eq_true (by kernel_rfl)) k0 bel lt0) trodAll_mk0), rfl, bel.frame _, fun h => by cases h⟩

/-- THE STATEMENT. -/
theorem ratioFloors_holds : Rows.RatioFloorsSaid :=
  OpenClaim.holds_of_wide 8 Try.f8 rfl rfl rfl rfl rfl rfl rfl ⟨rfl, rfl, rfl, rfl, rfl⟩ rfl rfl rfl rfl rfl (by kernel_rfl) Try.func8 (by kernel_rfl)
    (of_decide_eq_true (by kernel_rfl)) (by unfold Func.isWrapper; first | (rw [if_pos (by decide +kernel)]; kernel_rfl) | (rw [if_neg (by decide +kernel)]; exact ⟨rfl, rfl⟩))
    (fun os started H enc _ => ratioFloors_lifted os started H enc)

end Go.Proofs.Ytmcjgplinacdaaa
