/- The walk of pitch's Parse. -/
import Derived.Test.YtgehnciegolkhaaDoorFr
import Derived.Test.YtgehnciegolkhaaDoorFt
namespace Go.Proofs.YtgehnciegolkhaaDoor
open Go.RowKit

set_option maxHeartbeats 1600000 in
theorem parse_is (s : ByteArray) (X Y Z E : Int) (h : Tx.paR s = (X, Y, Z, E)) (w : World) (hG : Glob w) :
    Calls Tryd.prog 24 #[.string s] w fun e w' => e = .returned (.tuple #[.agg #[.int .i64 X, .int .i64 Y, .int .i64 Z], .int .i64 E]) ∧ Below w.heap.size w w' := by
  unfold Tx.paR at h
  obtain ⟨⟨S, A, O⟩, hR⟩ : ∃ q, Tx.rd s = q := ⟨_, rfl⟩
  rw [hR] at h
  simp only [] at h
  obtain ⟨⟨T, F⟩, hT⟩ : ∃ q, Tx.txR S A O = q := ⟨_, rfl⟩
  have HR := Lib.hid hR
  have HT := Lib.hid hT
  have fork : (F = 0 ∧ T = s ∧ (S, A, O, (0 : Int)) = (X, Y, Z, E)) ∨ (F = 0 ∧ T ≠ s ∧ ((0 : Int), (0 : Int), (0 : Int), (7 : Int)) = (X, Y, Z, E)) ∨ (F = 1 ∧ ((0 : Int), (0 : Int), (0 : Int), (7 : Int)) = (X, Y, Z, E)) := by
    unfold Tx.txR at hT
    by_cases hv : Pt.pv S A O = true
    · rw [if_pos hv] at hT
      simp only [Prod.mk.injEq] at hT
      obtain ⟨rfl, rfl⟩ := hT
      by_cases he : Tx.txtB S A O = s
      · rw [if_pos ⟨hv, he⟩] at h; exact .inl ⟨rfl, he, h⟩
      · rw [if_neg (fun h => he h.2)] at h; exact .inr (.inl ⟨rfl, he, h⟩)
    · rw [if_neg hv] at hT
      simp only [Prod.mk.injEq] at hT
      obtain ⟨rfl, rfl⟩ := hT
      rw [if_neg (fun h => hv h.1)] at h
      exact .inr (.inr ⟨rfl, h⟩)
  clear h hR hT
  go_enter Tryd.func24, Tryd.ntmps24
  go_wp2_with fail
  refine (read_is _ _ _ _ HR.out _).mono ?_; rintro e w1 ⟨rfl, hb1⟩
  have V := (Var3.new w 0 0 0 _).below hb1
  have G : Below w.heap.size w w1 := ((Below.refl _ _).alloc (Nat.le_refl _) _).trans (hb1.mono (by simp))
  have S1 : w.heap.size + 1 ≤ w1.heap.size := by have := hb1.size; simp at this; omega
  replace hG := (hG.alloc _).below hb1
  clear hb1
  go_wp2_with fail
  refine (text_is _ _ _ _ _ HT.out _ (hG.alloc _)).mono ?_; rintro e w2 ⟨rfl, hb2⟩
  have P := (Var3.new w1 S A O _).below hb2
  replace V := (V.alloc _).below hb2
  have S2 : w1.heap.size + 1 ≤ w2.heap.size := by have := hb2.size; simp at this; omega
  replace G := (G.alloc (by omega) _).trans (hb2.mono (by simp; omega))
  clear hb2 hG
  obtain ⟨v0, v1, v2⟩ := And.intro V.at3.c0 (And.intro V.at3.c1 V.at3.c2)
  obtain ⟨f0, f1, f2⟩ := And.intro V.f0 (And.intro V.f1 V.f2)
  obtain ⟨p0, p1, p2⟩ := And.intro P.at3.c0 (And.intro P.at3.c1 P.at3.c2)
  rcases fork with ⟨rfl, rfl, h⟩ | ⟨rfl, hne, h⟩ | ⟨rfl, h⟩
  · simp only [Prod.mk.injEq] at h
    obtain ⟨rfl, rfl, rfl, rfl⟩ := h
    go_wp2
    refine bodyPost_ret (v := .tuple #[.agg #[.int .i64 S, .int .i64 A, .int .i64 O], .int .i64 0]) (by simp [results, Tryd.results24, go_sem, v0, v1, v2]) rfl ⟨rfl, ?_⟩
    exact ((G.setCell (by simp <;> omega) _).setCell (by simp <;> omega) _).setCell (by simp <;> omega) _
  · simp only [Prod.mk.injEq] at h
    obtain ⟨rfl, rfl, rfl, rfl⟩ := h
    have hne' := str_ne hne
    go_wp2
    refine bodyPost_ret (v := .tuple #[.agg #[.int .i64 0, .int .i64 0, .int .i64 0], .int .i64 7]) (by simp [results, Tryd.results24, go_sem, v0, v1, v2]) rfl ⟨rfl, ?_⟩
    exact ((G.setCell (by simp <;> omega) _).setCell (by simp <;> omega) _).setCell (by simp <;> omega) _
  · simp only [Prod.mk.injEq] at h
    obtain ⟨rfl, rfl, rfl, rfl⟩ := h
    go_wp2
    refine bodyPost_ret (v := .tuple #[.agg #[.int .i64 0, .int .i64 0, .int .i64 0], .int .i64 7]) (by simp [results, Tryd.results24, go_sem, v0, v1, v2]) rfl ⟨rfl, ?_⟩
    exact ((G.setCell (by simp <;> omega) _).setCell (by simp <;> omega) _).setCell (by simp <;> omega) _
end Go.Proofs.YtgehnciegolkhaaDoor
