/- The walk of the reference's Sum. -/
import Derived.Test.YtmcjgplinacdaaaRops
import Derived.Test.YtmcjgplinacdaaaSum
import Derived.Test.YtmcjgplinacdaaaPure
import Derived.Deep.RegionHeld3
import Derived.Deep.DeepCutAuto
namespace Go.Proofs.Ytmcjgplinacdaaa
open Go.RowKit

set_option maxHeartbeats 400000 in
theorem rsum_zero (a : Option Addr) (cap : Nat) (w : World) :
    Calls Try.prog 24 #[.slice a 0 cap] w fun e w' =>
      e = .returned (.tuple #[.agg #[.int .i64 0, .int .i64 1], .int .i64 0]) ∧ Below w.heap.size w w' := by
  go_enter Try.func24, Try.ntmps24
  go_wp2_with fail
  refine wp_loop_rounds 1 ?_
  rw [rounds_succ]
  go_wp2_with fail
  refine wp_loop_rounds 1 ?_
  rw [rounds_succ]
  go_wp2_with fail
  refine bodyPost_ret (v := .tuple #[.agg #[.int .i64 0, .int .i64 1], .int .i64 0]) (by simp [results, Try.results24, go_sem]) rfl ⟨rfl, by go_grown⟩

set_option maxHeartbeats 400000 in
theorem rsum_long (a : Option Addr) (len cap : Nat) (w : World) (h : 20000 < len) (h' : len ≤ maxLen) :
    Calls Try.prog 24 #[.slice a len cap] w fun e w' =>
      e = .returned (.tuple #[.agg #[.int .i64 0, .int .i64 0], .int .i64 2]) ∧ Below w.heap.size w w' := by
  unfold maxLen at h'
  go_enter Try.func24, Try.ntmps24
  go_wp2_with fail
  refine bodyPost_ret (v := .tuple #[.agg #[.int .i64 0, .int .i64 0], .int .i64 2]) (by simp [results, Try.results24, go_sem]) rfl ⟨rfl, by go_grown⟩

set_option maxRecDepth 100000 in
set_option maxHeartbeats 1600000 in
theorem rsum_some (b off cap : Nat) (xs : List (Int × Int)) (w : World) (hb : b < w.heap.size) (hx : RatsAt w b off xs) (hlen : xs.length ≤ 20000) :
    Calls Try.prog 24 #[.slice (some ⟨b, off, none⟩) xs.length cap] w fun e w' =>
      e = .returned (.tuple #[.agg #[.int .i64 (Rt.sumR xs).1, .int .i64 (Rt.sumR xs).2.1], .int .i64 (Rt.sumR xs).2.2]) ∧ Below w.heap.size w w' := by
  have HX := Lib.hid hx
  clear hx
  generalize hl : xs.length = len at *
  have HL := Lib.hid hl
  clear hl
  go_enter Try.func24, Try.ntmps24
  go_wp2_with fail
  go_loopw [4, 5] (fun i s5 wr => ∃ k : Nat, k ≤ len ∧ i = .int .i64 k ∧ Hid (∀ j (hj : j < xs.length), j < k → Rt.vld xs[j].1 xs[j].2 = true) ∧ Below w.heap.size w wr ∧ w.heap.size < wr.heap.size ∧
      wr.cell? ⟨w.heap.size, 0, none⟩ = some (.int .i64 0) ∧ wr.cell? ⟨w.heap.size, 1, none⟩ = some (.int .i64 0) ∧
      wr.frozen? ⟨w.heap.size, 0, none⟩ = false ∧ wr.frozen? ⟨w.heap.size, 1, none⟩ = false) (fun i _ _ => len - (intOf i).toNat)
  case atStart => exact ⟨0, by omega, rfl, Lib.hid (fun j _ h => by omega), by go_grown, by simp, by go_simp, by go_simp, by go_simp, by go_simp⟩
  case round =>
    obtain ⟨k, hk, rfl, HF, hbw, hz, hc0, hc1, hf0, hf1⟩ := hrel
    by_cases hlt : k < len
    · have hk' : k < xs.length := by have := HL.out; omega
      have e0 : wr.cell? ⟨b, off + k * 2, none⟩ = some (.int .i64 xs[k].1) := (hbw.cell (p := ⟨b, off + k * 2, none⟩) hb).trans (HX.out k hk').1
      have e1 : wr.cell? ⟨b, off + k * 2 + 1, none⟩ = some (.int .i64 xs[k].2) := (hbw.cell (p := ⟨b, off + k * 2 + 1, none⟩) hb).trans (HX.out k hk').2
      by_cases hv : Rt.vld xs[k].1 xs[k].2 = true
      · have HV := Lib.hid hv
        have HG : Hid (∀ j (hj : j < xs.length), j < k + 1 → Rt.vld xs[j].1 xs[j].2 = true) := Lib.hid (fun j hj h => by
          by_cases e : j = k
          · subst e; exact hv
          · exact HF.out j hj (by omega))
        clear HF hv
        generalize xs[k].1 = xn at *
        generalize xs[k].2 = xd at *
        go_wp2_with fail
        refine (rvalid_is _ _ _ HV.out _).mono ?_; rintro e w2 ⟨rfl, hB0⟩
        have hz2 : w.heap.size < w2.heap.size := by have := hB0.size; omega
        have r0 := (hB0.cell (p := ⟨w.heap.size, 0, none⟩) (by simp; omega)).trans hc0
        have r1 := (hB0.cell (p := ⟨w.heap.size, 1, none⟩) (by simp; omega)).trans hc1
        have s0 := (hB0.frozen (p := ⟨w.heap.size, 0, none⟩) (by simp; omega)).trans hf0
        have s1 := (hB0.frozen (p := ⟨w.heap.size, 1, none⟩) (by simp; omega)).trans hf1
        have HB := Lib.hid (hbw.trans (hB0.mono (by omega)))
        clear hB0 hc0 hc1 hf0 hf1 hbw e0 e1
        go_wp2_with fail
        go_roundw
        case rel => exact ⟨k + 1, by omega, by go_num, HG, HB.out, hz2, r0, r1, s0, s1⟩
        case measure => simp [intOf]; omega
      · have hv' : Rt.vld xs[k].1 xs[k].2 = false := by simpa using hv
        have HV := Lib.hid hv'
        have HG : Hid (Rt.sumR xs = (0, 0, 1)) := Lib.hid (by
          unfold Rt.sumR
          rw [if_neg (by have := HL.out; omega), all_not hk' hv']; rfl)
        clear HF hv hv'
        generalize xs[k].1 = xn at *
        generalize xs[k].2 = xd at *
        go_wp2_with fail
        refine (rvalid_is _ _ _ HV.out _).mono ?_; rintro e w2 ⟨rfl, hB0⟩
        have hz2 : w.heap.size < w2.heap.size := by have := hB0.size; omega
        have r0 := (hB0.cell (p := ⟨w.heap.size, 0, none⟩) (by simp; omega)).trans hc0
        have r1 := (hB0.cell (p := ⟨w.heap.size, 1, none⟩) (by simp; omega)).trans hc1
        have s0 := (hB0.frozen (p := ⟨w.heap.size, 0, none⟩) (by simp; omega)).trans hf0
        have s1 := (hB0.frozen (p := ⟨w.heap.size, 1, none⟩) (by simp; omega)).trans hf1
        have HB := Lib.hid (hbw.trans (hB0.mono (by omega)))
        clear hB0 hc0 hc1 hf0 hf1 hbw e0 e1
        go_wp2_with fail
        refine bodyPost_ret (v := .tuple #[.agg #[.int .i64 0, .int .i64 0], .int .i64 1]) (by simp [results, Try.results24, go_sem, r0, r1]) rfl ⟨by rw [HG.out], ?_⟩
        exact (HB.out.setCell (by simp) _).setCell (by simp) _
    · have e : k = len := by omega
      have HG : Hid (Rt.sumR xs = Rt.fold 0 1 xs) := Lib.hid (by
        unfold Rt.sumR
        rw [if_neg (by have := HL.out; omega), all_upto HF.out (by have := HL.out; omega)]; rfl)
      have HB := Lib.hid hbw
      clear HF hbw hk
      subst e
      -- LOOP2
      obtain ⟨wo, rfl⟩ : ∃ wo : World, wo = wr := ⟨_, rfl⟩
      go_wp2_with fail
      go_loopg [7, 8, 9] k (fun gg i s8 s9 wx => ∃ j : Nat, ∃ sn sd : Int, j ≤ k ∧ gg = k - j ∧ i = .int .i64 j ∧ Hid (Rt.fold 0 1 xs = Rt.fold sn sd (xs.drop j)) ∧ Hid (Below w.heap.size w wx) ∧ w.heap.size < wx.heap.size ∧ wo.heap.size < wx.heap.size ∧
        wx.cell? ⟨w.heap.size, 0, none⟩ = some (.int .i64 0) ∧ wx.cell? ⟨w.heap.size, 1, none⟩ = some (.int .i64 0) ∧
        wx.frozen? ⟨w.heap.size, 0, none⟩ = false ∧ wx.frozen? ⟨w.heap.size, 1, none⟩ = false ∧
        wx.cell? ⟨wo.heap.size, 0, none⟩ = some (.int .i64 sn) ∧ wx.cell? ⟨wo.heap.size, 1, none⟩ = some (.int .i64 sd) ∧
        wx.frozen? ⟨wo.heap.size, 0, none⟩ = false ∧ wx.frozen? ⟨wo.heap.size, 1, none⟩ = false)
      case atStart => exact ⟨0, 0, 1, by omega, by omega, rfl, Lib.hid (by simp), Lib.hid (HB.out.alloc (by omega) _), by simp; omega, by simp, by go_simp, by go_simp, by go_simp, by go_simp, by go_simp, by go_simp, by go_simp, by go_simp⟩
      case round =>
        obtain ⟨wx, rfl⟩ : ∃ wx : World, wx = wr := ⟨_, rfl⟩
        obtain ⟨j, sn, sd, hj, hgk, rfl, HF, HB4, hz, hzo, hc0, hc1, hf0, hf1, hs0, hs1, hg0, hg1⟩ := hrel
        have HGK := Lib.hid hgk
        clear hgk
        by_cases hlt : j < k
        · have hj' : j < xs.length := by have := HL.out; omega
          have e0 : wx.cell? ⟨b, off + j * 2, none⟩ = some (.int .i64 xs[j].1) := (HB4.out.cell (p := ⟨b, off + j * 2, none⟩) hb).trans (HX.out j hj').1
          have e1 : wx.cell? ⟨b, off + j * 2 + 1, none⟩ = some (.int .i64 xs[j].2) := (HB4.out.cell (p := ⟨b, off + j * 2 + 1, none⟩) hb).trans (HX.out j hj').2
          have hbl : b < wx.heap.size := Nat.lt_of_lt_of_le hb HB4.out.size
          obtain ⟨N, D, E, hadd⟩ : ∃ N D E, Rt.addR sn sd xs[j].1 xs[j].2 = (N, D, E) := ⟨_, _, _, rfl⟩
          have HF' := Lib.hid (HF.out.trans (Rt.fold_at hj' hadd))
          have HA := Lib.hid hadd
          clear HF hadd
          generalize xs[j].1 = xn at *
          generalize xs[j].2 = xd at *
          have hne : wo.heap.size ≠ w.heap.size := by omega
          go_wp2_with fail
          go_cut [8, 9] (fun sp se wc => se = .int .i64 E ∧ ∃ g : Nat, sp = .pointer (some ⟨g, 0, none⟩) ∧ At2 wc g N D ∧ Below wx.heap.size wx wc)
          case first =>
            go_region_held3 (fun w' => Below wx.heap.size wx w' ∧ w'.cell? ⟨wo.heap.size, 0, none⟩ = some (.int .i64 sn) ∧ w'.cell? ⟨wo.heap.size, 1, none⟩ = some (.int .i64 sd) ∧ w'.cell? ⟨b, off + j * 2, none⟩ = some (.int .i64 xn) ∧ w'.cell? ⟨b, off + j * 2 + 1, none⟩ = some (.int .i64 xd))
              ((go_split_ands; refine ⟨?_, ?_, ?_, ?_, ?_⟩; (first | (with_reducible assumption) | (with_reducible exact Below.drew (Below.refl _ _)) | (with_reducible exact Below.drew (Below.alloc (Below.refl _ _) (Nat.le_refl _) _)) | ((with_reducible refine Below.alloc ?_ ?_ _); assumption; (apply Below.size; assumption)) | ((with_reducible refine Below.setCell (Below.setCell ?_ ?_ _) ?_ _); assumption; (simp <;> omega); (simp <;> omega))); all_goals (first | (with_reducible assumption) | ((with_reducible refine keep_alloc ?_ _); assumption) | (exact keep_alloc hs0 _) | (exact keep_alloc hs1 _) | (exact keep_alloc e0 _) | (exact keep_alloc e1 _) | go_simp)))
              ((first | (go_at_call 16; refine (radd_is _ _ _ _ _ _ _ HA.out _).mono ?_; rintro e wm ⟨rfl, hbm⟩; go_split_ands; have hbcm : Below wx.heap.size wx wm := Below.trans (by first | assumption | exact Below.drew (Below.refl _ _) | exact Below.drew (Below.alloc (Below.refl _ _) (Nat.le_refl _) _)) (hbm.mono (Below.size (by first | assumption | exact Below.drew (Below.refl _ _) | exact Below.drew (Below.alloc (Below.refl _ _) (Nat.le_refl _) _)))); have hk0 := keep_cell (p := ⟨wo.heap.size, 0, none⟩) (v := .int .i64 sn) (by first | assumption | go_simp | exact keep_alloc hs0 _) hbm; have hk1 := keep_cell (p := ⟨wo.heap.size, 1, none⟩) (v := .int .i64 sd) (by first | assumption | go_simp | exact keep_alloc hs1 _) hbm; have hk2 := keep_cell (p := ⟨b, off + j * 2, none⟩) (v := .int .i64 xn) (by first | assumption | go_simp | exact keep_alloc e0 _) hbm; have hk3 := keep_cell (p := ⟨b, off + j * 2 + 1, none⟩) (v := .int .i64 xd) (by first | assumption | go_simp | exact keep_alloc e1 _) hbm; obtain ⟨hcm, hfm⟩ := bcell hbm; have hzm := hbm.size; try simp at hzm; try simp only [Nat.add_one_le_iff] at hzm)))
            all_goals
              go_split_ands
              go_wp2_with fail
              go_meet
              refine ⟨rfl, _, rfl, ⟨?_, ?_, ?_⟩, ?_⟩
              · first | (simp; done) | (simp; omega)
              · go_simp
              · go_simp
              · assumption
          obtain ⟨rfl, g, rfl, hO, hBO⟩ := hcut
          have r0 := (hBO.cell (p := ⟨w.heap.size, 0, none⟩) hz).trans hc0
          have r1 := (hBO.cell (p := ⟨w.heap.size, 1, none⟩) hz).trans hc1
          have s0 := (hBO.frozen (p := ⟨w.heap.size, 0, none⟩) hz).trans hf0
          have s1 := (hBO.frozen (p := ⟨w.heap.size, 1, none⟩) hz).trans hf1
          have r2 := (hBO.cell (p := ⟨wo.heap.size, 0, none⟩) hzo).trans hs0
          have r3 := (hBO.cell (p := ⟨wo.heap.size, 1, none⟩) hzo).trans hs1
          have s2 := (hBO.frozen (p := ⟨wo.heap.size, 0, none⟩) hzo).trans hg0
          have s3 := (hBO.frozen (p := ⟨wo.heap.size, 1, none⟩) hzo).trans hg1
          have HB5 := Lib.hid (HB4.out.trans (hBO.mono HB4.out.size))
          have hzz : w.heap.size < wc.heap.size := Nat.lt_of_lt_of_le hz hBO.size
          have hzzo : wo.heap.size < wc.heap.size := Nat.lt_of_lt_of_le hzo hBO.size
          have o0 := hO.c0
          have o1 := hO.c1
          clear hBO hc0 hc1 hf0 hf1 hs0 hs1 hg0 hg1 e0 e1 hbl HB4 hO
          by_cases hE : E = 0
          · subst hE
            have HG2 := Lib.hid (HF'.out.trans (if_pos rfl))
            clear HF'
            go_wp2_with fail
            go_roundg (k - (j + 1))
            case measure => have := HGK.out; omega
            case rel => exact ⟨j + 1, N, D, by omega, rfl, by go_num, HG2, Lib.hid ((HB5.out.setCell (by simp; omega) _).setCell (by simp; omega) _), by simp; omega, by simp; omega, by go_simp, by go_simp, by go_simp, by go_simp, by go_simp, by go_simp, by go_simp, by go_simp⟩
          · have HG2 := Lib.hid (HF'.out.trans (if_neg hE))
            have hE' : (E != 0) = true := by simpa using hE
            clear HF'
            go_wp2_with fail
            refine bodyPost_ret (v := .tuple #[.agg #[.int .i64 0, .int .i64 0], .int .i64 E]) (by simp [results, Try.results24, go_sem, r0, r1]) rfl ⟨by rw [HG.out, HG2.out], ?_⟩
            exact (HB5.out.setCell (by simp) _).setCell (by simp) _
        · have e : j = k := by omega
          have HG2 : Hid (Rt.fold 0 1 xs = (sn, sd, 0)) := Lib.hid (by rw [HF.out, List.drop_of_length_le (by have := HL.out; omega)]; rfl)
          clear HF hj
          subst e
          go_wp2_with fail
          refine bodyPost_ret (v := .tuple #[.agg #[.int .i64 sn, .int .i64 sd], .int .i64 0]) (by simp [results, Try.results24, go_sem, hc0, hc1]) rfl ⟨by rw [HG.out, HG2.out], ?_⟩
          exact (HB4.out.setCell (by simp) _).setCell (by simp) _

theorem rsum_is (v : Value) (xs : List (Int × Int)) (N D E : Int) (h : Rt.sumR xs = (N, D, E)) (hm : xs.length ≤ maxLen) (w : World) (hv : SliceIs w v xs) :
    Calls Try.prog 24 #[v] w fun e w' =>
      e = .returned (.tuple #[.agg #[.int .i64 N, .int .i64 D], .int .i64 E]) ∧ Below w.heap.size w w' := by
  rcases hv with ⟨rfl, rfl⟩ | ⟨b, off, cap, rfl, hb, hx⟩
  · have e : Rt.sumR [] = (0, 1, 0) := rfl
    rw [e] at h
    simp only [Prod.mk.injEq] at h
    obtain ⟨rfl, rfl, rfl⟩ := h
    exact rsum_zero _ _ w
  · by_cases hl : 20000 < xs.length
    · have e : Rt.sumR xs = (0, 0, 2) := by unfold Rt.sumR; rw [if_pos hl]
      rw [e] at h
      simp only [Prod.mk.injEq] at h
      obtain ⟨rfl, rfl, rfl⟩ := h
      exact rsum_long _ _ _ w hl hm
    · have := rsum_some b off cap xs w hb hx (by omega)
      rw [h] at this
      exact this
end Go.Proofs.Ytmcjgplinacdaaa
