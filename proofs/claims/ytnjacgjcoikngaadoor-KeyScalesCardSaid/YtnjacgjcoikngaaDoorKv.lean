/- The walk of key's Move: two loops that call a closure. -/
import Derived.Test.YtnjacgjcoikngaaDoorKa
import Derived.RegionTactic
import Derived.Deep.LoopGhost
namespace Go.Proofs.YtnjacgjcoikngaaDoor
open Go.RowKit

/-- A variable of one cell. -/
structure Var1 (w : World) (b : Nat) (x : Int) : Prop where
  lt : b < w.heap.size
  c0 : w.cell? ⟨b, 0, none⟩ = some (.int .i64 x)
  f0 : w.frozen? ⟨b, 0, none⟩ = false
theorem Var1.below {w w' : World} {b : Nat} {x : Int} (h : Var1 w b x) (hb : Below w.heap.size w w') : Var1 w' b x :=
  ⟨Nat.lt_of_lt_of_le h.lt hb.size, (hb.cell (p := ⟨b, 0, none⟩) h.lt).trans h.c0, (hb.frozen (p := ⟨b, 0, none⟩) h.lt).trans h.f0⟩
theorem Var1.at {w : World} {b : Nat} {x : Int} (b' : Nat) (h : Var1 w b x) (e : b = b') : Var1 w b' x := e ▸ h
theorem Var1.new (w : World) (x : Int) (t : TypeId) : Var1 (w.alloc (.cells #[.int .i64 x] t)) w.heap.size x :=
  ⟨by simp, by go_simp, by go_simp⟩
theorem Var1.put {w : World} {b : Nat} {x : Int} (h : Var1 w b x) (y : Int) : Var1 (w.setCell ⟨b, 0, none⟩ (.int .i64 y)) b y := by
  obtain ⟨l, c0, f0⟩ := h
  refine ⟨by simpa using l, ?_, ?_⟩
  all_goals go_simp
theorem set_cell_ne (w : World) (b c k j : Nat) (v : Value) (h : b ≠ c) : (w.setCell ⟨c, k, none⟩ v).cell? ⟨b, j, none⟩ = w.cell? ⟨b, j, none⟩ :=
  World.cell?_of_block (w := w) (a := ⟨b, j, none⟩) (Below.heap_setCell w ⟨c, k, none⟩ v b h)
theorem set_frozen_ne (w : World) (b c k j : Nat) (v : Value) (h : b ≠ c) : (w.setCell ⟨c, k, none⟩ v).frozen? ⟨b, j, none⟩ = w.frozen? ⟨b, j, none⟩ :=
  World.frozen?_of_block (w := w) (a := ⟨b, j, none⟩) (Below.heap_setCell w ⟨c, k, none⟩ v b h)
theorem Var1.ne {w : World} {b : Nat} {x : Int} (h : Var1 w b x) (c k : Nat) (v : Value) (hn : b ≠ c) : Var1 (w.setCell ⟨c, k, none⟩ v) b x :=
  ⟨by simpa using h.lt, (set_cell_ne _ _ _ _ _ _ hn).trans h.c0, (set_frozen_ne _ _ _ _ _ _ hn).trans h.f0⟩
theorem At2.ne {w : World} {b : Nat} {x y : Int} (h : At2 w b x y) (c k : Nat) (v : Value) (hn : b ≠ c) : At2 (w.setCell ⟨c, k, none⟩ v) b x y :=
  ⟨by simpa using h.lt, (set_cell_ne _ _ _ _ _ _ hn).trans h.c0, (set_cell_ne _ _ _ _ _ _ hn).trans h.c1⟩
theorem Var2.ne {w : World} {b : Nat} {x y : Int} (h : Var2 w b x y) (c k : Nat) (v : Value) (hn : b ≠ c) : Var2 (w.setCell ⟨c, k, none⟩ v) b x y :=
  ⟨h.at2.ne c k v hn, (set_frozen_ne _ _ _ _ _ _ hn).trans h.f0, (set_frozen_ne _ _ _ _ _ _ hn).trans h.f1⟩
theorem Var2.set0 {w : World} {b : Nat} {x y : Int} (h : Var2 w b x y) (p : Int) : Var2 (w.setCell ⟨b, 0, none⟩ (.int .i64 p)) b p y := by
  obtain ⟨⟨l, c0, c1⟩, f0, f1⟩ := h
  refine ⟨⟨?_, ?_, ?_⟩, ?_, ?_⟩
  · simpa using l
  all_goals go_simp

set_option maxHeartbeats 800000 in
theorem respell_is (n I T v : Int) (x m : Nat) (w : World) (hX : Var2 w x I T) (hM : Var1 w m v) (hne : x ≠ m) (n0 : -1 ≤ n) (n1 : n ≤ 1) (i0 : -100000 ≤ I) (i1 : I ≤ 100000) (v0 : -100000 ≤ v) (v1 : v ≤ 100000) :
    Calls Tryd.prog 32 #[.int .i64 n, .pointer (some ⟨x, 0, none⟩), .pointer (some ⟨m, 0, none⟩)] w fun e w' => e = .returned (.tuple #[]) ∧ Var2 w' x (I + n) T ∧ Var1 w' m (v - 12 * n) ∧ w' = (w.setCell ⟨x, 0, none⟩ (.int .i64 (I + n))).setCell ⟨m, 0, none⟩ (.int .i64 (v - 12 * n)) := by
  have X1 := (hX.set0 (I + n)).ne m 0 (.int .i64 (v - 12 * n)) hne
  have M0 := hM.ne x 0 (.int .i64 (I + n)) (Ne.symm hne)
  have M1 := M0.put (v - 12 * n)
  obtain ⟨⟨lx, x0, x1⟩, fx0, fx1⟩ := hX
  obtain ⟨lm, m0, fm⟩ := M0
  go_enter Tryd.func32, Tryd.ntmps32
  go_wp2
  go_end0
  exact ⟨rfl, X1, M1, rfl⟩

set_option maxHeartbeats 3200000 in
theorem move_is (k i t K I T E : Int) (h : Ky.moveR k i t = (K, I, T, E)) (w : World) :
    Calls Tryd.prog 14 #[.int .i64 k, .agg #[.int .i64 i, .int .i64 t]] w fun e w' => e = .returned (.tuple #[.int .i64 K, .agg #[.int .i64 I, .int .i64 T], .int .i64 E]) ∧ Below w.heap.size w w' := by
  unfold Ky.moveR at h
  obtain ⟨⟨V, F⟩, hF⟩ : ∃ r, Ky.fifR i t = r := ⟨_, rfl⟩
  have HF := Lib.hid hF
  unfold Ky.fifR at hF
  by_cases hv : Pt.iv i t = true
  · rw [if_pos hv] at hF
    simp only [Prod.mk.injEq] at hF
    obtain ⟨rfl, rfl⟩ := hF
    obtain ⟨l1, l2, l3, l4⟩ := Pt.iv_iff.1 hv
    by_cases hk : Ky.kv k = true
    · rw [if_pos (by rw [hv, hk]; rfl)] at h
      have HK := Lib.hid hk
      obtain ⟨k0, k1⟩ := Ky.kv_iff.1 hk
      have HR := Lib.hid h
      clear h hv hk
      obtain ⟨v0, hv0⟩ : ∃ v0, k + (7 * t - 12 * i) = v0 := ⟨_, rfl⟩
      have HV := Lib.hid hv0
      have b0 : -1687 ≤ v0 := by omega
      have b1 : v0 ≤ 1687 := by omega
      go_enter Tryd.func14, Tryd.ntmps14
      go_wp2_with fail
      refine (fifths_is _ _ _ _ HF.out _).mono ?_; rintro e w1 ⟨rfl, hb1⟩
      have A := ((At2.new w i t _).alloc _).below hb1
      have R := (Var2.new (w.alloc _) 0 0 _).below hb1
      have G : Below w.heap.size w w1 := (((Below.refl _ _).alloc (Nat.le_refl _) _).alloc (by simp) _).trans (hb1.mono (by simp; omega))
      have S1 : w.heap.size + 2 ≤ w1.heap.size := by have := hb1.size; simp at this; omega
      simp only [World.size_alloc] at R
      clear hb1
      go_wp2_with fail
      refine (iskey_is _ _ HK.out _).mono ?_; rintro e w2 ⟨rfl, rfl⟩
      obtain ⟨a0, a1⟩ := And.intro A.c0 A.c1
      go_wp2_with fail
      have al := A.lt
      go_cut [9, 10] (fun s9 s10 wc => ∃ x m, s9 = .pointer (some ⟨m, 0, none⟩) ∧ s10 = .pointer (some ⟨x, 0, none⟩) ∧ w1.heap.size ≤ x ∧ w1.heap.size ≤ m ∧ x ≠ m ∧ Var2 wc x i t ∧ Var1 wc m v0 ∧ Below w1.heap.size w1 wc)
      case first =>
        go_region
        all_goals (go_wp2_with fail; go_meet)
        · exact ⟨w1.heap.size + 1, w1.heap.size, rfl, rfl, by omega, by omega, by omega, Var2.at _ ((Var2.new (w1.alloc _) i t _).below (Below.refl _ _).drew) (by simp), ((Var1.new w1 v0 _).below ((Below.refl _ _).alloc (Nat.le_refl _) _)).below (Below.refl _ _).drew, (((Below.refl _ _).alloc (Nat.le_refl _) _).alloc (by simp) _).drew⟩
        · exact ⟨w1.heap.size, w1.heap.size + 1, rfl, rfl, by omega, by omega, by omega, ((Var2.new w1 i t _).alloc _).below (Below.refl _ _).drew, Var1.at _ ((Var1.new (w1.alloc _) v0 _).below (Below.refl _ _).drew) (by simp), (((Below.refl _ _).alloc (Nat.le_refl _) _).alloc (by simp) _).drew⟩
      obtain ⟨x, m, rfl, rfl, hx, hm, hxm, X, M, hc⟩ := hcut
      replace R := R.below hc
      replace G := G.trans (hc.mono (by omega))
      clear hc A al a0 a1
      go_wp2_with fail
      go_loopg [30] 200 (fun g s30 wr => ∃ d : Int, 0 ≤ d ∧ (0 < d → -4 ≤ v0 - 12 * d) ∧ v0 - 12 * d ≤ 7 + 12 * g ∧ d ≤ 1000 ∧ Var2 wr x (i + d) t ∧ Var1 wr m (v0 - 12 * d) ∧ Var2 wr (w.heap.size + 1) 0 0 ∧ Below w.heap.size w wr)
      case atStart => exact ⟨0, by omega, by omega, by omega, by omega, by simpa using X, by simpa using M, R, G⟩
      case round =>
        obtain ⟨d, d0, d1, d2, d3, X, M, R, G⟩ := hrel
        have m0 := M.c0
        by_cases hgt : 7 < v0 - 12 * d
        · go_wp2_with fail
          refine (respell_is 1 (i + d) t (v0 - 12 * d) x m _ X M hxm (by omega) (by omega) (by omega) (by omega) (by omega) (by omega)).mono ?_; rintro e w3 ⟨rfl, X', M', hw3⟩
          have R' : Var2 w3 (w.heap.size + 1) 0 0 := by rw [hw3]; exact (R.ne _ _ _ (by omega)).ne _ _ _ (by omega)
          have G' : Below w.heap.size w w3 := by rw [hw3]; exact (G.setCell (by simp; omega) _).setCell (by simp; omega) _
          clear X M R G m0 hw3
          go_wp2
          go_roundg (gk - 1)
          case measure => omega
          case rel => exact ⟨d + 1, by omega, by omega, by omega, by omega, by simpa [Int.add_assoc] using X', by rwa [show v0 - 12 * (d + 1) = v0 - 12 * d - 12 * 1 by omega], R', G'⟩
        · go_wp2_with fail
          go_loopg [34] 200 (fun g s34 wr => ∃ d : Int, (0 < d → -4 ≤ v0 - 12 * d) ∧ (d < 0 → v0 - 12 * d ≤ 4) ∧ v0 - 12 * d ≤ 7 ∧ -7 - 12 * (g : Int) ≤ v0 - 12 * d ∧ -1000 ≤ d ∧ d ≤ 1000 ∧ Var2 wr x (i + d) t ∧ Var1 wr m (v0 - 12 * d) ∧ Var2 wr (w.heap.size + 1) 0 0 ∧ Below w.heap.size w wr)
          case atStart => exact ⟨d, by omega, by omega, by omega, by omega, by omega, by omega, X, M, R, G⟩
          case round =>
            clear X M R G m0 hgt d0 d1 d2 d3
            obtain ⟨d, d1, d2, d3, d4, d5, d6, X, M, R, G⟩ := hrel
            have m0 := M.c0
            by_cases hlt : v0 - 12 * d < -7
            · go_wp2_with fail
              refine (respell_is (-1) (i + d) t (v0 - 12 * d) x m _ X M hxm (by omega) (by omega) (by omega) (by omega) (by omega) (by omega)).mono ?_; rintro e w3 ⟨rfl, X', M', hw3⟩
              have R' : Var2 w3 (w.heap.size + 1) 0 0 := by rw [hw3]; exact (R.ne _ _ _ (by omega)).ne _ _ _ (by omega)
              have G' : Below w.heap.size w w3 := by rw [hw3]; exact (G.setCell (by simp; omega) _).setCell (by simp; omega) _
              clear X M R G m0 hw3
              go_wp2
              go_roundg (gk - 1)
              case measure => omega
              case rel => exact ⟨d - 1, by omega, by omega, by omega, by omega, by omega, by omega, by rwa [show i + (d - 1) = i + d + -1 by omega], by rwa [show v0 - 12 * (d - 1) = v0 - 12 * d - 12 * -1 by omega], R', G'⟩
            · have hc := Ky.cnt_of (v := v0) (d := d) (by omega) (by omega) d1 d2
              have e := HR.out
              unfold Ky.mK Ky.mI at e
              rw [HV.out, hc] at e
              simp only [Prod.mk.injEq] at e
              obtain ⟨rfl, rfl, rfl, rfl⟩ := e
              clear hc
              obtain ⟨x0, x1⟩ := And.intro X.at2.c0 X.at2.c1
              obtain ⟨r0, r1, f0, f1⟩ := And.intro R.at2.c0 (And.intro R.at2.c1 (And.intro R.f0 R.f1))
              go_wp2_with fail
              go_region
              all_goals go_wp2_with fail
              all_goals refine bodyPost_ret (v := .tuple #[.int .i64 (v0 - 12 * d), .agg #[.int .i64 (i + d), .int .i64 t], .int .i64 0]) (by simp [results, Tryd.results14, go_sem, r0, r1]) rfl ⟨rfl, ?_⟩
              all_goals exact ((G.drew.setCell (by simp) _).setCell (by simp) _)
    · have hk' : Ky.kv k = false := by simpa using hk
      rw [if_neg (by rw [hv, hk']; simp)] at h
      simp only [Prod.mk.injEq] at h
      obtain ⟨rfl, rfl, rfl, rfl⟩ := h
      have HK := Lib.hid hk'
      clear hv hk hk'
      go_enter Tryd.func14, Tryd.ntmps14
      go_wp2_with fail
      refine (fifths_is _ _ _ _ HF.out _).mono ?_; rintro e w1 ⟨rfl, hb1⟩
      have R := (Var2.new (w.alloc _) 0 0 _).below hb1
      have G : Below w.heap.size w w1 := (((Below.refl _ _).alloc (Nat.le_refl _) _).alloc (by simp) _).trans (hb1.mono (by simp; omega))
      have S1 : w.heap.size + 2 ≤ w1.heap.size := by have := hb1.size; simp at this; omega
      simp only [World.size_alloc] at R
      clear hb1
      go_wp2_with fail
      refine (iskey_is _ _ HK.out _).mono ?_; rintro e w2 ⟨rfl, rfl⟩
      obtain ⟨r0, r1, f0, f1⟩ := And.intro R.at2.c0 (And.intro R.at2.c1 (And.intro R.f0 R.f1))
      go_wp2_with fail
      refine bodyPost_ret (v := .tuple #[.int .i64 0, .agg #[.int .i64 0, .int .i64 0], .int .i64 1]) (by simp [results, Tryd.results14, go_sem, r0, r1]) rfl ⟨rfl, ?_⟩
      exact (G.setCell (by simp) _).setCell (by simp) _
  · have hv' : Pt.iv i t = false := by simpa using hv
    rw [if_neg hv] at hF
    rw [if_neg (by rw [hv']; simp)] at h
    simp only [Prod.mk.injEq] at h hF
    obtain ⟨rfl, rfl, rfl, rfl⟩ := h
    obtain ⟨rfl, rfl⟩ := hF
    clear hv hv'
    go_enter Tryd.func14, Tryd.ntmps14
    go_wp2_with fail
    refine (fifths_is _ _ _ _ HF.out _).mono ?_; rintro e w1 ⟨rfl, hb1⟩
    have R := (Var2.new (w.alloc _) 0 0 _).below hb1
    have G : Below w.heap.size w w1 := (((Below.refl _ _).alloc (Nat.le_refl _) _).alloc (by simp) _).trans (hb1.mono (by simp; omega))
    have S1 : w.heap.size + 2 ≤ w1.heap.size := by have := hb1.size; simp at this; omega
    simp only [World.size_alloc] at R
    clear hb1
    obtain ⟨r0, r1, f0, f1⟩ := And.intro R.at2.c0 (And.intro R.at2.c1 (And.intro R.f0 R.f1))
    go_wp2_with fail
    refine bodyPost_ret (v := .tuple #[.int .i64 0, .agg #[.int .i64 0, .int .i64 0], .int .i64 1]) (by simp [results, Tryd.results14, go_sem, r0, r1]) rfl ⟨rfl, ?_⟩
    exact (G.setCell (by simp) _).setCell (by simp) _
end Go.Proofs.YtnjacgjcoikngaaDoor
