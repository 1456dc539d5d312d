/- The walk of the laws' head: the chapter's examples. -/
import Derived.Test.YtmcjgplinacdaaaSum
import Derived.Test.YtmcjgplinacdaaaCmp
namespace Go.Proofs.Ytmcjgplinacdaaa
open Go.RowKit

set_option maxHeartbeats 400000 in
theorem rat_any (n d : Int) (w : World) :
    Calls Try.prog 29 #[.int .i64 n, .int .i64 d] w fun e w' => e = .returned (.agg #[.int .i64 n, .int .i64 d]) ∧ Below w.heap.size w w' := by
  go_enter Try.func29, Try.ntmps29
  go_wp2_with fail
  refine bodyPost_ret (v := .agg #[.int .i64 n, .int .i64 d]) (by simp [results, Try.results29, go_sem]) rfl ⟨rfl, by go_grown⟩

theorem SliceIs.new3 (w : World) (n : Nat) (hn : n = w.heap.size) (a b c d e f : Int) (t : TypeId) :
    SliceIs (w.alloc (.cells #[.int .i64 a, .int .i64 b, .int .i64 c, .int .i64 d, .int .i64 e, .int .i64 f] t)) (.slice (some ⟨n, 0, none⟩) 3 3) [(a, b), (c, d), (e, f)] := by
  subst hn
  refine Or.inr ⟨w.heap.size, 0, 3, rfl, by simp, fun k hk => ?_⟩
  match k, hk with
  | 0, _ => exact ⟨by go_simp, by go_simp⟩
  | 1, _ => exact ⟨by go_simp, by go_simp⟩
  | 2, _ => exact ⟨by go_simp, by go_simp⟩

theorem h_make : Rt.makeR 6 (-4) = (-3, 2, 0) := by decide +kernel
theorem h_add : Rt.addR 1 2 1 3 = (5, 6, 0) := by decide +kernel
theorem h_div : Rt.divR 1 2 (-3) 4 = (-2, 3, 0) := by decide +kernel
theorem h_mul : Rt.mulR 1 1000000 1 2 = (0, 0, 3) := by decide +kernel
theorem h_sum : Rt.sumR [(1, 2), (1, 3), (1, 6)] = (1, 1, 0) := by decide +kernel
theorem h_floor : Rt.flR (-5) 2 = (-3, 0) := by decide +kernel
theorem h_div0 : Rt.divR 1 2 0 1 = (0, 0, 1) := by decide +kernel
theorem h_v1 : Rt.vld (-3) 2 = true := by decide +kernel
theorem h_v2 : Rt.vld 2 4 = false := by decide +kernel
theorem h_v3 : Rt.vld 0 0 = false := by decide +kernel

set_option maxHeartbeats 1600000 in
theorem head_any (w : World) :
    Calls Try.prog 10 #[] w fun e w' => e = .returned (.bool true) ∧ Below w.heap.size w w' := by
  go_enter Try.func10, Try.ntmps10
  go_wp2_with fail
  refine (make_is _ _ _ _ _ h_make _).mono ?_; rintro e w1 ⟨rfl, hb1⟩
  have B1 := hb1
  go_wp2_with fail
  refine (rat_any _ _ _).mono ?_; rintro e w2 ⟨rfl, hb2⟩
  have a_2 := (At2.new _ (-3) (2) _).below hb2
  have B2 := (B1.alloc (by have := B1.size; simp <;> omega) _).trans (hb2.mono (by have := B1.size; simp <;> omega))
  clear hb2 B1
  go_wp2_with fail
  refine (rat_any _ _ _).mono ?_; rintro e w3 ⟨rfl, hb3⟩
  have a_3 := a_2.below hb3
  have B3 := B2.trans (hb3.mono B2.size)
  clear a_2 hb3 B2
  go_wp2_with fail
  refine (add_is _ _ _ _ _ _ _ h_add _).mono ?_; rintro e w4 ⟨rfl, hb4⟩
  have a_4 := a_3.below hb4
  have B4 := B3.trans (hb4.mono B3.size)
  clear a_3 hb4 B3
  go_wp2_with fail
  refine (rat_any _ _ _).mono ?_; rintro e w5 ⟨rfl, hb5⟩
  have a_5 := (a_4.alloc _).below hb5
  have b_5 := (At2.new _ (5) (6) _).below hb5
  have B5 := (B4.alloc (by have := B4.size; simp <;> omega) _).trans (hb5.mono (by have := B4.size; simp <;> omega))
  clear a_4 hb5 B4
  go_wp2_with fail
  refine (rat_any _ _ _).mono ?_; rintro e w6 ⟨rfl, hb6⟩
  have a_6 := a_5.below hb6
  have b_6 := b_5.below hb6
  have B6 := B5.trans (hb6.mono B5.size)
  clear a_5 b_5 hb6 B5
  go_wp2_with fail
  refine (div_is _ _ _ _ _ _ _ h_div _).mono ?_; rintro e w7 ⟨rfl, hb7⟩
  have a_7 := a_6.below hb7
  have b_7 := b_6.below hb7
  have B7 := B6.trans (hb7.mono B6.size)
  clear a_6 b_6 hb7 B6
  go_wp2_with fail
  refine (rat_any _ _ _).mono ?_; rintro e w8 ⟨rfl, hb8⟩
  have a_8 := (a_7.alloc _).below hb8
  have b_8 := (b_7.alloc _).below hb8
  have c_8 := (At2.new _ (-2) (3) _).below hb8
  have B8 := (B7.alloc (by have := B7.size; simp <;> omega) _).trans (hb8.mono (by have := B7.size; simp <;> omega))
  clear a_7 b_7 hb8 B7
  go_wp2_with fail
  refine (rat_any _ _ _).mono ?_; rintro e w9 ⟨rfl, hb9⟩
  have a_9 := a_8.below hb9
  have b_9 := b_8.below hb9
  have c_9 := c_8.below hb9
  have B9 := B8.trans (hb9.mono B8.size)
  clear a_8 b_8 c_8 hb9 B8
  go_wp2_with fail
  refine (mul_is _ _ _ _ _ _ _ h_mul _).mono ?_; rintro e w10 ⟨rfl, hb10⟩
  have a_10 := a_9.below hb10
  have b_10 := b_9.below hb10
  have c_10 := c_9.below hb10
  have B10 := B9.trans (hb10.mono B9.size)
  clear a_9 b_9 c_9 hb10 B9
  go_wp2_with fail
  refine (rat_any _ _ _).mono ?_; rintro e w11 ⟨rfl, hb11⟩
  have a_11 := (a_10.alloc _).below hb11
  have b_11 := (b_10.alloc _).below hb11
  have c_11 := (c_10.alloc _).below hb11
  have m_11 := (At2.new _ (0) (0) _).below hb11
  have B11 := (B10.alloc (by have := B10.size; simp <;> omega) _).trans (hb11.mono (by have := B10.size; simp <;> omega))
  clear a_10 b_10 c_10 hb11 B10
  go_wp2_with fail
  refine (rat_any _ _ _).mono ?_; rintro e w12 ⟨rfl, hb12⟩
  have a_12 := a_11.below hb12
  have b_12 := b_11.below hb12
  have c_12 := c_11.below hb12
  have m_12 := m_11.below hb12
  have B12 := B11.trans (hb12.mono B11.size)
  clear a_11 b_11 c_11 m_11 hb12 B11
  go_wp2_with fail
  refine (rat_any _ _ _).mono ?_; rintro e w13 ⟨rfl, hb13⟩
  have a_13 := a_12.below hb13
  have b_13 := b_12.below hb13
  have c_13 := c_12.below hb13
  have m_13 := m_12.below hb13
  have B13 := B12.trans (hb13.mono B12.size)
  clear a_12 b_12 c_12 m_12 hb13 B12
  go_wp2_with fail
  refine (sum_is _ _ _ _ _ h_sum (by unfold maxLen; simp) _ (SliceIs.new3 _ _ (by simp) _ _ _ _ _ _ _)).mono ?_; rintro e w14 ⟨rfl, hb14⟩
  have a_14 := (a_13.alloc _).below hb14
  have b_14 := (b_13.alloc _).below hb14
  have c_14 := (c_13.alloc _).below hb14
  have m_14 := (m_13.alloc _).below hb14
  have B14 := (B13.alloc (by have := B13.size; simp <;> omega) _).trans (hb14.mono (by have := B13.size; simp <;> omega))
  clear a_13 b_13 c_13 m_13 hb14 B13
  go_wp2_with fail
  refine (rat_any _ _ _).mono ?_; rintro e w15 ⟨rfl, hb15⟩
  have a_15 := (a_14.alloc _).below hb15
  have b_15 := (b_14.alloc _).below hb15
  have c_15 := (c_14.alloc _).below hb15
  have m_15 := (m_14.alloc _).below hb15
  have s_15 := (At2.new _ (1) (1) _).below hb15
  have B15 := (B14.alloc (by have := B14.size; simp <;> omega) _).trans (hb15.mono (by have := B14.size; simp <;> omega))
  clear a_14 b_14 c_14 m_14 hb15 B14
  go_wp2_with fail
  refine (floor_is _ _ _ _ h_floor _).mono ?_; rintro e w16 ⟨rfl, hb16⟩
  have a_16 := a_15.below hb16
  have b_16 := b_15.below hb16
  have c_16 := c_15.below hb16
  have m_16 := m_15.below hb16
  have s_16 := s_15.below hb16
  have B16 := B15.trans (hb16.mono B15.size)
  clear a_15 b_15 c_15 m_15 s_15 hb16 B15
  go_wp2_with fail
  refine (rat_any _ _ _).mono ?_; rintro e w17 ⟨rfl, hb17⟩
  have a_17 := a_16.below hb17
  have b_17 := b_16.below hb17
  have c_17 := c_16.below hb17
  have m_17 := m_16.below hb17
  have s_17 := s_16.below hb17
  have B17 := B16.trans (hb17.mono B16.size)
  clear a_16 b_16 c_16 m_16 s_16 hb17 B16
  go_wp2_with fail
  refine (rat_any _ _ _).mono ?_; rintro e w18 ⟨rfl, hb18⟩
  have a_18 := a_17.below hb18
  have b_18 := b_17.below hb18
  have c_18 := c_17.below hb18
  have m_18 := m_17.below hb18
  have s_18 := s_17.below hb18
  have B18 := B17.trans (hb18.mono B17.size)
  clear a_17 b_17 c_17 m_17 s_17 hb18 B17
  go_wp2_with fail
  refine (div_is _ _ _ _ _ _ _ h_div0 _).mono ?_; rintro e w19 ⟨rfl, hb19⟩
  have a_19 := a_18.below hb19
  have b_19 := b_18.below hb19
  have c_19 := c_18.below hb19
  have m_19 := m_18.below hb19
  have s_19 := s_18.below hb19
  have B19 := B18.trans (hb19.mono B18.size)
  clear a_18 b_18 c_18 m_18 s_18 hb19 B18
  go_wp2_with fail
  have ax := a_19.alloc (.cells #[.int .i64 0, .int .i64 0] 23)
  have bx := b_19.alloc (.cells #[.int .i64 0, .int .i64 0] 23)
  have cx := c_19.alloc (.cells #[.int .i64 0, .int .i64 0] 23)
  have sx := s_19.alloc (.cells #[.int .i64 0, .int .i64 0] 23)
  have hB := B19.alloc B19.size (.cells #[.int .i64 0, .int .i64 0] 23)
  generalize w19.alloc (.cells #[.int .i64 0, .int .i64 0] 23) = wz at *
  have a0 := fun x : Ext wz => x.cell ax.c0
  have a1 := fun x : Ext wz => x.cell ax.c1
  have b0 := fun x : Ext wz => x.cell bx.c0
  have b1 := fun x : Ext wz => x.cell bx.c1
  have c0 := fun x : Ext wz => x.cell cx.c0
  have c1 := fun x : Ext wz => x.cell cx.c1
  have s0 := fun x : Ext wz => x.cell sx.c0
  have s1 := fun x : Ext wz => x.cell sx.c1
  have hne := Ext.there wz
  refine Ext.region (by kernel_rfl) (by kernel_rfl) ?_
  repeat (go_big_quiet_step ((go_at_call 29; exact Ext.call _ (rat_any _ _ _))))
  refine wpQuiet_nil ?_
  rintro _ ⟨x, rfl⟩
  have aw := ax.below x.h
  have hB2 := hB.trans (x.h.mono hB.size)
  generalize x.w = wy at *
  clear a0 a1 b0 b1 c0 c1 s0 s1 ax bx cx sx hne hB x
  have a0 := aw.c0
  have a1 := aw.c1
  go_wp2_with fail
  refine (valid_is _ _ _ h_v1 _).mono ?_; rintro e v1 ⟨rfl, hc1⟩
  go_wp2_with fail
  refine (rat_any _ _ _).mono ?_; rintro e v2 ⟨rfl, hc2⟩
  go_wp2_with fail
  refine (valid_is _ _ _ h_v2 _).mono ?_; rintro e v3 ⟨rfl, hc3⟩
  go_wp2_with fail
  refine (valid_is _ _ _ h_v3 _).mono ?_; rintro e v4 ⟨rfl, hc4⟩
  go_wp2_with fail
  go_ret
  exact ⟨rfl, (((hB2.trans (hc1.mono hB2.size)).trans (hc2.mono (by have := hB2.size; have := hc1.size; omega))).trans (hc3.mono (by have := hB2.size; have := hc1.size; have := hc2.size; omega))).trans (hc4.mono (by have := hB2.size; have := hc1.size; have := hc2.size; have := hc3.size; omega))⟩
end Go.Proofs.Ytmcjgplinacdaaa
