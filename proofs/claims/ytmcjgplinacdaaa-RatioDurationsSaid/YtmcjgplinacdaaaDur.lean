/-
  Durations can be added as long as their sum is at most 480000, in either order, and the sum is a duration: the law RatioDurations returns true for every list of ratios, durations or not, and leaves the list as it was.
  Conditions: none.
-/
import Derived.Test.YtmcjgplinacdaaaHead
import Derived.Test.YtmcjgplinacdaaaOpen
import Derived.Test.YtmcjgplinacdaaaRats
import Derived.Test.YtmcjgplinacdaaaDurp
import Derived.Deep.LoopGhost
namespace Go.Proofs.Ytmcjgplinacdaaa
open Go.ChangeShapes Go.WideShapes Go.ChangeAt Go.RowKit

theorem infoRat : (Try.prog.info? 23).map (fun i => (i.zero, i.size, i.bytes)) = some (some (.agg #[.int .i64 0, .int .i64 0]), 2, 16) := by kernel_rfl

set_option maxHeartbeats 400000 in
theorem durations_long (a : Option Addr) (len cap : Nat) (w : World) (h : 40 < len) (h' : len ≤ maxLen) :
    Calls Try.prog 9 #[.slice a len cap] w fun e w' => e = .returned (.bool true) ∧ Below w.heap.size w w' := by
  unfold maxLen at h'
  go_enter Try.func9, Try.ntmps9
  go_wp2_with fail
  refine (head_any _).mono ?_; rintro e w1 ⟨rfl, hb1⟩
  go_wp2_with fail
  go_ret
  exact ⟨rfl, hb1⟩

set_option maxRecDepth 100000 in
set_option maxHeartbeats 1600000 in
theorem durations_some (b off cap : Nat) (xs : List (Int × Int)) (w : World) (hb : b < w.heap.size) (hx : RatsAt w b off xs) (hlen : xs.length ≤ 40) :
    Calls Try.prog 9 #[.slice (some ⟨b, off, none⟩) xs.length cap] w fun e w' => e = .returned (.bool true) ∧ Below w.heap.size w w' := by
  obtain ⟨i0, hi, hz0, hz1, hz2⟩ := info_parts infoRat
  have HX := Lib.hid hx
  have HI := Lib.hid hi
  have HZ0 := Lib.hid hz0
  have HZ1 := Lib.hid hz1
  have HZ2 := Lib.hid hz2
  clear hx hi hz0 hz1 hz2
  generalize hl : xs.length = len at *
  have HL := Lib.hid hl
  clear hl
  go_enter Try.func9, Try.ntmps9
  go_wp2_with fail
  refine (head_any _).mono ?_; rintro e w1 ⟨rfl, hb1⟩
  have HB1 := Lib.hid hb1
  clear hb1
  go_wp2_with fail
  go_loopw [4, 5, 6, 7, 19] (fun s4 s5 s6 s7 i wr => ∃ k : Nat, ∃ U : Int, k ≤ len ∧ s4 = .int .i64 U ∧ i = .int .i64 k ∧ 0 ≤ U ∧ U ≤ 1680000000000 * k ∧ Hid (U = Rt.units (xs.take k)) ∧ Hid (wr.ownsRow w.heap.size 23 2 s5 k (Rt.cells (xs.reverse.take k))) ∧ Hid (Below w.heap.size w wr) ∧
      Hid (∀ j (hj : j < xs.length), j < k → Rt.dur xs[j].1 xs[j].2 = true)) (fun _ _ _ _ i _ => len - (intOf i).toNat)
  case atStart => exact ⟨0, 0, by omega, rfl, rfl, by omega, by omega, Lib.hid (by simp [Rt.units]), Lib.hid (World.ownsRow_nil _ _ _ _), HB1, Lib.hid (fun j _ h => by omega)⟩
  case round =>
    obtain ⟨k, U, hk, rfl, rfl, hU0, hU1, HU, HOWN, HB, HD⟩ := hrel
    by_cases hlt : k < len
    · have hk' : k < xs.length := by have := HL.out; omega
      have hk2 : len - 1 - k < xs.length := by have := HL.out; omega
      have hbw := HB.out
      have e0 : wr.cell? ⟨b, off + k * 2, none⟩ = some (.int .i64 xs[k].1) := (hbw.cell (p := ⟨b, off + k * 2, none⟩) hb).trans (HX.out k hk').1
      have e1 : wr.cell? ⟨b, off + k * 2 + 1, none⟩ = some (.int .i64 xs[k].2) := (hbw.cell (p := ⟨b, off + k * 2 + 1, none⟩) hb).trans (HX.out k hk').2
      have hbl : b < wr.heap.size := Nat.lt_of_lt_of_le hb hbw.size
      clear hbw
      by_cases hv : Rt.dur xs[k].1 xs[k].2 = true
      · have HV := Lib.hid hv
        obtain ⟨u1, u2, u3, u4⟩ := Rt.unit_in hv
        have l := Rt.vld_lim (Rt.dur_parts hv).1
        obtain ⟨l1, l2, l3, l4⟩ := l
        have l0 := (Rt.dur_parts hv).2.1
        have HUK : Hid (U + xs[k].1 * (1680 / xs[k].2) = Rt.units (xs.take (k + 1))) := Lib.hid (by rw [Rt.units_take_succ hk', ← HU.out]; rfl)
        have u5 : Rt.unit (xs[k].1, xs[k].2) = xs[k].1 * (1680 / xs[k].2) := rfl
        rw [u5] at u3 u4
        clear u5
        have HDK : Hid (∀ j (hj : j < xs.length), j < k + 1 → Rt.dur xs[j].1 xs[j].2 = true) := Lib.hid (fun j hj h => by
          by_cases e : j = k
          · subst e; exact hv
          · exact HD.out j hj (by omega))
        have HREV : Hid (Rt.cells (xs.reverse.take (k + 1)) = Rt.cells (xs.reverse.take k) ++ [.int .i64 xs[len - 1 - k].1, .int .i64 xs[len - 1 - k].2]) := Lib.hid (by
          rw [Rt.cells_snoc (by simpa using hk'), List.getElem_reverse]
          have e : xs.length - 1 - k = len - 1 - k := by have := HL.out; omega
          simp only [e])
        have f0 : wr.cell? ⟨b, off + (len - 1 - k) * 2, none⟩ = some (.int .i64 xs[len - 1 - k].1) := (HB.out.cell (p := ⟨b, off + (len - 1 - k) * 2, none⟩) hb).trans (HX.out _ hk2).1
        have f1 : wr.cell? ⟨b, off + (len - 1 - k) * 2 + 1, none⟩ = some (.int .i64 xs[len - 1 - k].2) := (HB.out.cell (p := ⟨b, off + (len - 1 - k) * 2 + 1, none⟩) hb).trans (HX.out _ hk2).2
        clear hv HD
        generalize xs[k].1 = xn at *
        generalize xs[k].2 = xd at *
        generalize xs[len - 1 - k].1 = yn at *
        generalize xs[len - 1 - k].2 = yd at *
        have hdn : ¬ xd = 0 := by omega
        have hdb : (xd == 0) = false := by simpa using hdn
        go_wp2_with fail
        refine (duration_is _ _ _ HV.out _).mono ?_; rintro e w2 ⟨rfl, hb2⟩
        have A2 := (At2.new wr xn xd _).below hb2
        have a0 := A2.c0; have a1 := A2.c1
        have hB0 : Below wr.heap.size wr w2 := ((Below.refl _ _).alloc (Nat.le_refl _) _).trans (hb2.mono (by simp))
        have g0 := (hB0.cell (p := ⟨b, off + (len - 1 - k) * 2, none⟩) hbl).trans f0
        have g1 := (hB0.cell (p := ⟨b, off + (len - 1 - k) * 2 + 1, none⟩) hbl).trans f1
        have HOWN2 := Lib.hid (owns_below HOWN.out hB0)
        have HB2 := Lib.hid (HB.out.trans (hB0.mono HB.out.size))
        clear hB0 hb2 e0 e1 f0 f1 A2 HOWN HB
        go_wp2_with fail
        go_quiet (fail)
        have HOWN3 := Lib.hid (World.ownsRow.alloc (show (w2.drewN nq).ownsRow w.heap.size 23 2 u5 k (Rt.cells (xs.reverse.take k)) from HOWN2.out) (.cells #[.int .i64 yn, .int .i64 yd] 23))
        have HLTR := Lib.hid (HOWN2.out.lt)
        clear HOWN2
        go_wp2_with (at_builtin; refine wpList_append_own _ rfl _ _ 24 rfl w.heap.size 23 i0 (.agg #[.int .i64 0, .int .i64 0]) 2 16 Try.underlying24 HI.out HZ0.out HZ1.out HZ2.out rfl (by decide) _ _ _ rfl HOWN3.out ⟨w2.heap.size, 0, none⟩ 1 1 [.int .i64 yn, .int .i64 yd] rfl rfl ?c1 ?c2 ?c3 ?c4 ?c5 ?_)
        case c1 => exact cell_two_new (w2.drewN nq) _ _ _
        case c2 => simp [Value.oneCell']
        case c3 => unfold maxLen; omega
        case c4 => omega
        case c5 => have := HB2.out.size; simp; omega
        intro v' w3 hown4 hgrow _
        have HOWN5 : Hid (w3.ownsRow w.heap.size 23 2 v' (k + 1) (Rt.cells (xs.reverse.take (k + 1)))) := Lib.hid (by rw [HREV.out]; exact hown4)
        have HB3 := Lib.hid (((below_drewN HB2.out nq).alloc HB2.out.size _).grown hgrow (by have := HB2.out.size; simp; omega) (fun j hj => (HLTR.out j hj).1))
        clear hown4 hgrow HB2 HOWN3 HLTR a0 a1 g0 g1
        go_wp2_with fail
        go_roundw
        case rel => exact ⟨k + 1, U + xn * (1680 / xd), by omega, rfl, by go_num, by omega, by omega, HUK, HOWN5, HB3, HDK⟩
        case measure => simp [intOf]; omega
      · have hv' : Rt.dur xs[k].1 xs[k].2 = false := by simpa using hv
        have HV := Lib.hid hv'
        clear hv hv' HU HOWN HD
        generalize xs[k].1 = xn at *
        generalize xs[k].2 = xd at *
        go_wp2_with fail
        refine (duration_is _ _ _ HV.out _).mono ?_; rintro e w2 ⟨rfl, hb2⟩
        have HB2 := Lib.hid (HB.out.trans ((((Below.refl _ _).alloc (Nat.le_refl _) _).trans (hb2.mono (by simp))).mono HB.out.size))
        go_wp2_with fail
        go_ret
        exact ⟨rfl, HB2.out⟩
    · have hkl : k = len := by omega
      have HSB : Hid (SliceIs wr u5 xs.reverse) := Lib.hid (owns_slice (by rw [← (List.take_of_length_le (show xs.reverse.length ≤ k by have := HL.out; simp; omega) : xs.reverse.take k = xs.reverse)]; exact HOWN.out) (by have := HL.out; simp; omega))
      have HALL : Hid (∀ x ∈ xs, Rt.dur x.1 x.2 = true) := Lib.hid (fun x hx => by
        obtain ⟨j, hj, rfl⟩ := List.getElem_of_mem hx
        exact HD.out j hj (by have := HL.out; omega))
      have HUA : Hid (U = Rt.units xs) := Lib.hid (by rw [HU.out, List.take_of_length_le (by have := HL.out; omega)])
      have HSUM : Hid (U ≤ 806400000 → Rt.sumR xs = (Rt.redN U 1680, Rt.redD U 1680, 0)) := Lib.hid (fun h => by
        rw [HUA.out] at h ⊢; exact Rt.sum_units (by have := HL.out; omega) HALL.out h)
      have HSUMR : Hid (U ≤ 806400000 → Rt.sumR xs.reverse = (Rt.redN U 1680, Rt.redD U 1680, 0)) := Lib.hid (fun h => by
        rw [HUA.out, ← Rt.units_reverse] at h ⊢; exact Rt.sum_units (by have := HL.out; simp; omega) (fun x hx => HALL.out x (List.mem_reverse.1 hx)) h)
      have HUNITS : Hid (U ≤ 806400000 → Rt.dur (Rt.redN U 1680) (Rt.redD U 1680) = true ∧ Rt.unit (Rt.redN U 1680, Rt.redD U 1680) = U) := Lib.hid (fun h => (Rt.of_units hU0 h).2)
      have HLEN : Hid (xs.length ≤ maxLen) := Lib.hid (by have := HL.out; unfold maxLen; omega)
      have HLENR : Hid (xs.reverse.length ≤ maxLen) := Lib.hid (by have := HL.out; unfold maxLen; simp; omega)
      have HSL : Hid (∀ w', Below w.heap.size w w' → SliceIs w' (.slice (some ⟨b, off, none⟩) len cap) xs) := Lib.hid (fun w' h => by
        rw [← HL.out]; exact SliceIs.below (Or.inr ⟨b, off, cap, rfl, hb, HX.out⟩) h)
      clear HU HOWN HD HALL HUA hU1 hk hlt
      subst hkl

      by_cases hU : 806400000 < U
      · go_wp2_with fail
        go_ret
        exact ⟨rfl, HB.out⟩
      · have HS1 := Lib.hid (HSUM.out (by omega))
        have HS2 := Lib.hid (HSUMR.out (by omega))
        have HU := HUNITS.out (by omega)
        obtain ⟨hDd, hDu⟩ := HU
        generalize hN : Rt.redN U 1680 = N at *
        generalize hD : Rt.redD U 1680 = D at *
        clear hN hD
        have HDUR := Lib.hid hDd
        obtain ⟨d1, d2, d3, d4⟩ := Rt.unit_in hDd
        have lN := Rt.vld_lim (Rt.dur_parts hDd).1
        have HDU : Hid (N * (1680 / D) = U) := Lib.hid hDu
        clear hDd hDu HSUM HSUMR HUNITS
        go_wp2_with fail
        refine (sum_is _ _ _ _ _ HS1.out HLEN.out _ (HSL.out _ HB.out)).mono ?_; rintro e w2 ⟨rfl, hb2⟩
        have HB2 := Lib.hid (HB.out.trans (hb2.mono HB.out.size))
        have HSB2 := Lib.hid (HSB.out.below hb2)
        clear hb2 HB HSB
        go_wp2_with fail
        refine (sum_is _ _ _ _ _ HS2.out HLENR.out _ (HSB2.out.below ((Below.refl _ _).alloc (Nat.le_refl _) _))).mono ?_; rintro e w3 ⟨rfl, hb3⟩
        have X3 := (At2.new w2 N D _).below hb3
        have Z3 := Lib.hid ((HB2.out.alloc HB2.out.size _).trans (hb3.mono (by have := HB2.out.size; simp; omega)))
        clear hb3 HB2 HSB2
        have d5 : Rt.unit (N, D) = N * (1680 / D) := rfl
        rw [d5] at d3 d4
        clear d5
        obtain ⟨n1, n2, n3, n4⟩ := lN
        have hDn : ¬ D = 0 := by omega
        have hDb : (D == 0) = false := by simpa using hDn
        have hUeq : (N * (1680 / D) == U) = true := by simpa using HDU.out
        have XW := X3.alloc (.cells #[.int .i64 N, .int .i64 D] 23)
        have YW := At2.new w3 N D 23
        have ZW := Lib.hid (Z3.out.alloc Z3.out.size (.cells #[.int .i64 N, .int .i64 D] 23))
        go_wp2_with fail
        generalize w3.alloc (.cells #[.int .i64 N, .int .i64 D] 23) = wz at *
        have x0 := fun x : Ext wz => x.cell XW.c0
        have x1 := fun x : Ext wz => x.cell XW.c1
        have y0 := fun x : Ext wz => x.cell YW.c0
        have y1 := fun x : Ext wz => x.cell YW.c1
        have hne := Ext.there wz
        refine Ext.region (by kernel_rfl) (by kernel_rfl) ?_
        repeat (go_big_quiet_step ((go_at_call 30; exact Ext.call _ (duration_is _ _ _ HDUR.out _))))
        refine wpQuiet_nil ?_
        rintro _ ⟨xw, rfl⟩
        go_wp2_with fail
        go_ret
        exact ⟨rfl, ZW.out.trans (xw.h.mono ZW.out.size)⟩

set_option maxRecDepth 100000 in
set_option maxHeartbeats 1600000 in
theorem durations_nil (oa : Option Addr) (cap : Nat) (w : World) :
    Calls Try.prog 9 #[.slice oa 0 cap] w fun e w' => e = .returned (.bool true) ∧ Below w.heap.size w w' := by
  have HDUR : Hid (Rt.dur 0 1 = true) := Lib.hid (by decide +kernel)
  go_enter Try.func9, Try.ntmps9
  go_wp2_with fail
  refine (head_any _).mono ?_; rintro e w1 ⟨rfl, hb1⟩
  have HB1 := Lib.hid hb1
  clear hb1
  go_wp2_with fail
  refine wp_loop_rounds 1 ?_
  rw [rounds_succ]
  go_wp2_with fail
  refine (sum_zero _ _ _).mono ?_; rintro e w2 ⟨rfl, hb2⟩
  have HB2 := Lib.hid (HB1.out.trans (hb2.mono HB1.out.size))
  clear hb2 HB1
  go_wp2_with fail
  refine (sum_zero _ _ _).mono ?_; rintro e w3 ⟨rfl, hb3⟩
  have X3 := (At2.new w2 0 1 _).below hb3
  have Z3 := Lib.hid ((HB2.out.alloc HB2.out.size _).trans (hb3.mono (by have := HB2.out.size; simp; omega)))
  clear hb3 HB2
  have XW := X3.alloc (.cells #[.int .i64 0, .int .i64 1] 23)
  have YW := At2.new w3 0 1 23
  have ZW := Lib.hid (Z3.out.alloc Z3.out.size (.cells #[.int .i64 0, .int .i64 1] 23))
  go_wp2_with fail
  generalize w3.alloc (.cells #[.int .i64 0, .int .i64 1] 23) = wz at *
  have x0 := fun x : Ext wz => x.cell XW.c0
  have x1 := fun x : Ext wz => x.cell XW.c1
  have y0 := fun x : Ext wz => x.cell YW.c0
  have y1 := fun x : Ext wz => x.cell YW.c1
  have hne := Ext.there wz
  refine Ext.region (by kernel_rfl) (by kernel_rfl) ?_
  repeat (go_big_quiet_step ((go_at_call 30; exact Ext.call _ (duration_is _ _ _ HDUR.out _))))
  refine wpQuiet_nil ?_
  rintro _ ⟨xw, rfl⟩
  go_wp2_with fail
  go_ret
  exact ⟨rfl, ZW.out.trans (xw.h.mono ZW.out.size)⟩

theorem ratioDurations_walk (v : Value) (w : World) (hv : (∃ a cap, v = .slice a 0 cap) ∨ ∃ xs : List (Int × Int), xs.length ≤ maxLen ∧ SliceIs w v xs) :
    Calls Try.prog 9 #[v] w fun e w' => e = .returned (.bool true) ∧ Below w.heap.size w w' := by
  rcases hv with ⟨a, cap, rfl⟩ | ⟨xs, hm, ⟨rfl, rfl⟩ | ⟨b, off, cap, rfl, hb, hx⟩⟩
  · exact durations_nil _ _ w
  · exact durations_nil _ _ w
  · by_cases hl : 40 < xs.length
    · exact durations_long _ _ _ w hl hm
    · exact durations_some b off cap xs w hb hx (by omega)

set_option maxRecDepth 100000 in
theorem ratioDurations_lifted (os : Os) (started : os.Started) (H : Type) (enc : TypeId × Value → H) :
    ReturnsInHanded {} Try.checked os 9 .any (Rows.ratioDurationsSpec.pre6 enc Try.prog Try.f9 Rows.ratioDurationsRow.domain false) (Rows.ratioDurationsSpec.post enc Try.prog Try.f9 false true false false) := by
  refine returnsInHanded_of_change (C := Try.checked) own started (by kernel_rfl) Try.func9
    (ChangeSpec.witness6 (enc := enc) (C := Try.checked) false ⟨#[], #[.slice none 0 0], []⟩ 8 (by kernel_rfl) (by kernel_rfl) (by kernel_rfl) (by kernel_rfl)) ?_
  intro W base args ds gs before hval0 hW _ _
  have hval : ∀ (j : Nat) t v, Try.f9.params[j]? = some t → args[j]? = some v → Value.okWide Try.prog W .any base t v := hval0
  have hW' := hW
  obtain ⟨p, q, hA0, hV, rfl, _, _⟩ := hW
  have hA : DataW.TrodAll enc Try.prog W 0 (fun _ => true) true Try.f9.params.toList args.toList ds p := hA0
  rw [Try.params9] at hA hval
  obtain ⟨v0, vs0, d0, ds0, p0, q0, hargs, rfl, rfl, h0, r0⟩ := trodAll_cons hA
  obtain ⟨rfl, rfl, rfl⟩ := trodAll_nil r0
  obtain rfl : args = #[v0] := by cases args; simp_all
  obtain ⟨rfl, rfl⟩ := trodVars_none hV
  have k0 := h0
  have lt0 : ∀ x ∈ p0, x.block < W.heap.size := by obtain ⟨m, hm⟩ := k0; exact DataW.trod_lt m _ _ _ hm
  have s0 := open_rats (hval 0 24 v0 rfl rfl) h0
  clear hA0 hval0
  refine (ratioDurations_walk _ W s0).mono fun e W' ⟨he, bel⟩ => ?_
  subst he
  exact ⟨_, rfl, _, _, _, [], _, [], hW', trodAll_mk1 (shut_bool Try.underlying4 _), (trodAll_cons_mk (Below.trod laidOut (by kernel_rfl) (of_decide_eq_true (by kernel_rfl)) k0 bel lt0) trodAll_mk0), rfl, bel.frame _, fun h => by cases h⟩

/-- THE STATEMENT. -/
theorem ratioDurations_holds : Rows.RatioDurationsSaid :=
  OpenClaim.holds_of_wide 9 Try.f9 rfl rfl rfl rfl rfl rfl rfl ⟨rfl, rfl, rfl, rfl, rfl⟩ rfl rfl rfl rfl rfl (by kernel_rfl) Try.func9 (by kernel_rfl)
    (of_decide_eq_true (by kernel_rfl)) (by unfold Func.isWrapper; first | (rw [if_pos (by decide +kernel)]; kernel_rfl) | (rw [if_neg (by decide +kernel)]; exact ⟨rfl, rfl⟩))
    (fun os started H enc _ => ratioDurations_lifted os started H enc)

end Go.Proofs.Ytmcjgplinacdaaa
