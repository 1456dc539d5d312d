/- The walk of the reference's Move. -/
import Derived.Test.YtnjacgjcoikngaaDoorKv
namespace Go.Proofs.YtnjacgjcoikngaaDoor
open Go.RowKit

set_option maxHeartbeats 3200000 in
theorem kmove_is (k i t K I T E : Int) (h : Ky.moveR k i t = (K, I, T, E)) (w : World) :
    Calls Tryd.prog 15 #[.int .i64 k, .agg #[.int .i64 i, .int .i64 t]] w fun e w' => e = .returned (.tuple #[.int .i64 K, .agg #[.int .i64 I, .int .i64 T], .int .i64 E]) ∧ Below w.heap.size w w' := by
  unfold Ky.moveR at h
  obtain ⟨⟨V, F⟩, hF⟩ : ∃ r, Ky.fifR i t = r := ⟨_, rfl⟩
  have HF := Lib.hid hF
  unfold Ky.fifR at hF
  by_cases hv : Pt.iv i t = true
  · rw [if_pos hv] at hF
    simp only [Prod.mk.injEq] at hF
    obtain ⟨rfl, rfl⟩ := hF
    obtain ⟨l1, l2, l3, l4⟩ := Pt.iv_iff.1 hv
    by_cases hk : Ky.kv k = true
    · rw [if_pos (by rw [hv, hk]; rfl)] at h
      have HK := Lib.hid hk
      obtain ⟨k0, k1⟩ := Ky.kv_iff.1 hk
      have HR := Lib.hid h
      clear h hv hk
      obtain ⟨v0, hv0⟩ : ∃ v0, k + (7 * t - 12 * i) = v0 := ⟨_, rfl⟩
      have HV := Lib.hid hv0
      have b0 : -1687 ≤ v0 := by omega
      have b1 : v0 ≤ 1687 := by omega
      go_enter Tryd.func15, Tryd.ntmps15
      go_wp2_with fail
      refine (kfifths_is _ _ _ _ HF.out _).mono ?_; rintro e w1 ⟨rfl, hb1⟩
      have X := ((Var2.new w i t _).alloc _).below hb1
      have R := (Var2.new (w.alloc _) 0 0 _).below hb1
      have G : Below w.heap.size w w1 := (((Below.refl _ _).alloc (Nat.le_refl _) _).alloc (by simp) _).trans (hb1.mono (by simp; omega))
      simp only [World.size_alloc] at R
      clear hb1
      go_wp2_with fail
      refine (kkey_is _ _ HK.out _).mono ?_; rintro e w2 ⟨rfl, rfl⟩
      go_wp2_with fail
      go_loopg [9] 200 (fun g s9 wr => ∃ d : Int, s9 = .int .i64 (v0 - 12 * d) ∧ 0 ≤ d ∧ (0 < d → -4 ≤ v0 - 12 * d) ∧ v0 - 12 * d ≤ 7 + 12 * g ∧ d ≤ 1000 ∧ Var2 wr w.heap.size (i + d) t ∧ Var2 wr (w.heap.size + 1) 0 0 ∧ Below w.heap.size w wr)
      case atStart => exact ⟨0, by simp, by omega, by omega, by omega, by omega, by simpa using X, R, G⟩
      case round =>
        obtain ⟨d, rfl, d0, d1, d2, d3, X, R, G⟩ := hrel
        by_cases hgt : 7 < v0 - 12 * d
        · have X' := X.set0 (i + d + 1)
          have R' := R.ne w.heap.size 0 (.int .i64 (i + d + 1)) (by omega)
          have G' := G.setCell (p := ⟨w.heap.size, 0, none⟩) (by simp) (.int .i64 (i + d + 1))
          obtain ⟨⟨lx, x0, x1⟩, fx0, fx1⟩ := X
          clear R G
          go_wp2_with fail
          go_roundg (gk - 1)
          case measure => omega
          case rel => exact ⟨d + 1, by congr 1; omega, by omega, by omega, by omega, by omega, by simpa [Int.add_assoc] using X', R', G'⟩
        · go_wp2_with fail
          go_loopg [9] 200 (fun g s9 wr => ∃ d : Int, s9 = .int .i64 (v0 - 12 * d) ∧ (0 < d → -4 ≤ v0 - 12 * d) ∧ (d < 0 → v0 - 12 * d ≤ 4) ∧ v0 - 12 * d ≤ 7 ∧ -7 - 12 * (g : Int) ≤ v0 - 12 * d ∧ -1000 ≤ d ∧ d ≤ 1000 ∧ Var2 wr w.heap.size (i + d) t ∧ Var2 wr (w.heap.size + 1) 0 0 ∧ Below w.heap.size w wr)
          case atStart => exact ⟨d, rfl, by omega, by omega, by omega, by omega, by omega, by omega, X, R, G⟩
          case round =>
            clear X R G hgt d0 d1 d2 d3
            obtain ⟨d, rfl, d1, d2, d3, d4, d5, d6, X, R, G⟩ := hrel
            by_cases hlt : v0 - 12 * d < -7
            · have X' := X.set0 (i + d - 1)
              have R' := R.ne w.heap.size 0 (.int .i64 (i + d - 1)) (by omega)
              have G' := G.setCell (p := ⟨w.heap.size, 0, none⟩) (by simp) (.int .i64 (i + d - 1))
              obtain ⟨⟨lx, x0, x1⟩, fx0, fx1⟩ := X
              clear R G
              go_wp2_with fail
              go_roundg (gk - 1)
              case measure => omega
              case rel => exact ⟨d - 1, by congr 1; omega, by omega, by omega, by omega, by omega, by omega, by omega, by rwa [show i + (d - 1) = i + d - 1 by omega], R', G'⟩
            · have hc := Ky.cnt_of (v := v0) (d := d) (by omega) (by omega) d1 d2
              have e := HR.out
              unfold Ky.mK Ky.mI at e
              rw [HV.out, hc] at e
              simp only [Prod.mk.injEq] at e
              obtain ⟨rfl, rfl, rfl, rfl⟩ := e
              clear hc
              obtain ⟨x0, x1⟩ := And.intro X.at2.c0 X.at2.c1
              obtain ⟨r0, r1, f0, f1⟩ := And.intro R.at2.c0 (And.intro R.at2.c1 (And.intro R.f0 R.f1))
              go_wp2_with fail
              go_region
              all_goals go_wp2_with fail
              all_goals refine bodyPost_ret (v := .tuple #[.int .i64 (v0 - 12 * d), .agg #[.int .i64 (i + d), .int .i64 t], .int .i64 0]) (by simp [results, Tryd.results15, go_sem, r0, r1]) rfl ⟨rfl, ?_⟩
              all_goals exact ((G.drew.setCell (by simp) _).setCell (by simp) _)
    · have hk' : Ky.kv k = false := by simpa using hk
      rw [if_neg (by rw [hv, hk']; simp)] at h
      simp only [Prod.mk.injEq] at h
      obtain ⟨rfl, rfl, rfl, rfl⟩ := h
      have HK := Lib.hid hk'
      clear hv hk hk'
      go_enter Tryd.func15, Tryd.ntmps15
      go_wp2_with fail
      refine (kfifths_is _ _ _ _ HF.out _).mono ?_; rintro e w1 ⟨rfl, hb1⟩
      have R := (Var2.new (w.alloc _) 0 0 _).below hb1
      have G : Below w.heap.size w w1 := (((Below.refl _ _).alloc (Nat.le_refl _) _).alloc (by simp) _).trans (hb1.mono (by simp; omega))
      have S1 : w.heap.size + 2 ≤ w1.heap.size := by have := hb1.size; simp at this; omega
      simp only [World.size_alloc] at R
      clear hb1
      go_wp2_with fail
      refine (kkey_is _ _ HK.out _).mono ?_; rintro e w2 ⟨rfl, rfl⟩
      obtain ⟨r0, r1, f0, f1⟩ := And.intro R.at2.c0 (And.intro R.at2.c1 (And.intro R.f0 R.f1))
      go_wp2_with fail
      refine bodyPost_ret (v := .tuple #[.int .i64 0, .agg #[.int .i64 0, .int .i64 0], .int .i64 1]) (by simp [results, Tryd.results15, go_sem, r0, r1]) rfl ⟨rfl, ?_⟩
      exact (G.setCell (by simp) _).setCell (by simp) _
  · have hv' : Pt.iv i t = false := by simpa using hv
    rw [if_neg hv] at hF
    rw [if_neg (by rw [hv']; simp)] at h
    simp only [Prod.mk.injEq] at h hF
    obtain ⟨rfl, rfl, rfl, rfl⟩ := h
    obtain ⟨rfl, rfl⟩ := hF
    clear hv hv'
    go_enter Tryd.func15, Tryd.ntmps15
    go_wp2_with fail
    refine (kfifths_is _ _ _ _ HF.out _).mono ?_; rintro e w1 ⟨rfl, hb1⟩
    have R := (Var2.new (w.alloc _) 0 0 _).below hb1
    have G : Below w.heap.size w w1 := (((Below.refl _ _).alloc (Nat.le_refl _) _).alloc (by simp) _).trans (hb1.mono (by simp; omega))
    have S1 : w.heap.size + 2 ≤ w1.heap.size := by have := hb1.size; simp at this; omega
    simp only [World.size_alloc] at R
    clear hb1
    obtain ⟨r0, r1, f0, f1⟩ := And.intro R.at2.c0 (And.intro R.at2.c1 (And.intro R.f0 R.f1))
    go_wp2_with fail
    refine bodyPost_ret (v := .tuple #[.int .i64 0, .agg #[.int .i64 0, .int .i64 0], .int .i64 1]) (by simp [results, Tryd.results15, go_sem, r0, r1]) rfl ⟨rfl, ?_⟩
    exact (G.setCell (by simp) _).setCell (by simp) _
end Go.Proofs.YtnjacgjcoikngaaDoor
