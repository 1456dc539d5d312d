import Derived.Test.YthamkigdpgajaaaDoorUa
import Derived.Test.YthamkigdpgajaaaDoorGL
import Derived.Test.YthamkigdpgajaaaDoorGC
/- The walk of the reference's rats. -/
namespace Go.Proofs.YthamkigdpgajaaaDoor
open Go.RowKit

/-- Spans that can be said in quarters. -/
def BdP (l : List No.Sp) : Prop := ∀ s ∈ l, 0 ≤ s.1 ∧ s.1 ≤ 1000000 ∧ 0 ≤ s.2 ∧ s.2 ≤ 1000000
set_option maxRecDepth 100000 in
set_option maxHeartbeats 4000000 in
theorem rrats_is (l : List No.Sp) (len cap : Nat) (A : Option Addr) (hl : l.length = len) (hmax : len ≤ 1000000) (hbd : BdP l) (w : World) (hL : SlP w A l) :
    Calls Tryd.prog 45 #[.slice A len cap] w fun e w' => Below w.heap.size w w' ∧ ∃ D n c, e = .returned (.slice D n c) ∧ l.length = n ∧ SlR w' D l := by
  have HM := Lib.hid hl
  have HL := Lib.hid hL
  have HB := Lib.hid hbd
  obtain ⟨i0, hi, hz0, hz1, hz2⟩ := info_parts infoPair
  clear hl hL hbd
  go_enter Tryd.func45, Tryd.ntmps45
  go_wp2_with fail
  go_loopw [3, 4] (fun s3 s4 wr => ∃ (k : Nat), k ≤ len ∧ s4 = .int .i64 (k : Int) ∧ Hid (wr.ownsRow w.heap.size 52 4 s3 k (vR (l.take k))) ∧ Below w.heap.size w wr) (fun _ s4 _ => len - (intOf s4).toNat)
  case atStart => exact ⟨0, Nat.zero_le _, rfl, Lib.hid (by rw [List.take_zero]; exact World.ownsRow_nil _ _ _ _), Below.refl _ _⟩
  case round =>
    obtain ⟨k, hk, rfl, HO, hX⟩ := hrel
    by_cases hlt : k < len
    · have hx : k < l.length := by rw [HM.out]; exact hlt
      obtain ⟨bb, off, rfl, hbb, hc⟩ := HL.out (by rw [HM.out]; omega)
      obtain ⟨y0, y1⟩ := hc k hx
      have hbx := HB.out _ (List.getElem_mem hx)
      have hat : l[k]?.getD (0, 0) = l[k] := by rw [List.getElem?_eq_getElem hx]; rfl
      rw [hat] at y0 y1
      obtain ⟨x, hxe⟩ : ∃ x, l[k] = x := ⟨_, rfl⟩
      rw [hxe] at y0 y1 hbx
      obtain ⟨x1, x2⟩ := x
      obtain ⟨b0, b1, b2, b3⟩ := hbx
      simp only at y0 y1 b0 b1 b2 b3
      obtain ⟨a1, rfl⟩ : ∃ a : Nat, x1 = a := ⟨x1.toNat, by omega⟩
      obtain ⟨a2, rfl⟩ : ∃ a : Nat, x2 = a := ⟨x2.toNat, by omega⟩
      have y2 := (hX.cell (p := ⟨bb, off + k * 2, none⟩) hbb).trans y0
      have y3 := (hX.cell (p := ⟨bb, off + k * 2 + 1, none⟩) hbb).trans y1
      obtain ⟨N1, hN1⟩ : ∃ z, Mt.oN a1 = z := ⟨_, rfl⟩
      obtain ⟨D1, hD1⟩ : ∃ z, Mt.oD a1 = z := ⟨_, rfl⟩
      obtain ⟨N2, hN2⟩ : ∃ z, Mt.oN a2 = z := ⟨_, rfl⟩
      obtain ⟨D2, hD2⟩ : ∃ z, Mt.oD a2 = z := ⟨_, rfl⟩
      have HQ1 : Hid (qV #[.int .i64 (a1 : Int)] = .agg #[.int .i64 N1, .int .i64 D1]) := Lib.hid (by rw [← hN1, ← hD1]; simp [qV])
      have HQ2 : Hid (qV #[.int .i64 (a2 : Int)] = .agg #[.int .i64 N2, .int .i64 D2]) := Lib.hid (by rw [← hN2, ← hD2]; simp [qV])
      have HROW : Hid (vR (l.take (k + 1)) = vR (l.take k) ++ [.int .i64 N1, .int .i64 D1, .int .i64 N2, .int .i64 D2]) := Lib.hid (by
        rw [List.take_succ_eq_append_getElem hx, vR_app, vR_one, hxe]
        unfold rowR
        simp [hN1, hD1, hN2, hD2])
      have HC1 := Lib.hid (fun w' => kof_is a1 N1 D1 hN1 hD1 (by omega) w')
      have HC2 := Lib.hid (fun w' => kof_is a2 N2 D2 hN2 hD2 (by omega) w')
      obtain ⟨v, hv⟩ : ∃ v, u3 = v := ⟨_, rfl⟩
      subst hv
      have hgv : ∀ j, u3.ownBlock = some j → w.heap.size ≤ j := oown_ne HO.out
      have hvb : u3.ownBlock ≠ some bb := fun e => by have := hgv _ e; omega
      obtain ⟨Cv, hCv⟩ : ∃ Cv, apC wr u3 w.heap.size 52 k (vR (l.take k)) [.int .i64 N1, .int .i64 D1, .int .i64 N2, .int .i64 D2] = Cv := ⟨_, rfl⟩
      have hx1 : ∀ vs w', Cv vs w' → w'.cell? ⟨bb, off + k * 2, none⟩ = some (.int .i64 (a1 : Int)) := fun vs w' h => by rw [← hCv] at h; exact h.cell hvb y2
      have hx2 : ∀ vs w', Cv vs w' → w'.cell? ⟨bb, off + k * 2 + 1, none⟩ = some (.int .i64 (a2 : Int)) := fun vs w' h => by rw [← hCv] at h; exact h.cell hvb y3
      have x1 := fun y : PvW Cv => hx1 y.vs y.w y.h
      have x2 := fun y : PvW Cv => hx2 y.vs y.w y.h
      have hst : Cv [] wr.drew := by rw [← hCv]; exact (Below.refl _ _).drew
      have hne : Nonempty (PvW Cv) := PvW.there hst
      have HBL : Hid (∀ vs w1 w2, Cv vs w1 → Below w1.heap.size w1 w2 → Cv vs w2) := Lib.hid (fun vs w1 w2 h hb => by rw [← hCv] at h ⊢; exact h.below hb)
      have HCV := Lib.hid hCv
      have hj1 : (k : Int) < (len : Int) := by omega
      have HXS := Lib.hid hX
      clear hN1 hD1 hN2 hD2 hCv hx1 hx2 hxe hat hx hc y0 y1 y2 y3 hvb
      go_wp2_with fail
      refine region_pv (V := fun _ args => qV args) (cs := [14, 15]) (Cv := Cv) 16 (by kernel_rfl) (by kernel_rfl) (by kernel_rfl) hst ?_
      simp only [List.take_succ_cons, List.take_zero, List.drop_succ_cons, List.drop_zero]
      iterate 6 (refine pv_quiet (by decide) rfl rfl ?_; intro K' hK'; go_big_quiet_op; go_big_quiet_on)
      refine pv_kept (f := 71) (args := #[.int .i64 (a1 : Int)]) (by decide) (.agg #[.int .i64 N1, .int .i64 D1]) rfl (fun vs' w' hw' => ?_) HQ1.out (fun vs' w' hw' => ?_) ?_
      · simp [go_sem]
      · refine (HC1.out w').mono ?_
        rintro e w2 ⟨rfl, hb2⟩
        exact ⟨rfl, HBL.out _ _ _ hw' hb2⟩
      simp only [Act.put, List.setIfInBounds_toArray, List.set_cons_succ, List.set_cons_zero]
      iterate 5 (refine pv_quiet (by decide) rfl rfl ?_; intro K' hK'; go_big_quiet_op; go_big_quiet_on)
      refine pv_kept (f := 71) (args := #[.int .i64 (a2 : Int)]) (by decide) (.agg #[.int .i64 N2, .int .i64 D2]) rfl (fun vs' w' hw' => ?_) HQ2.out (fun vs' w' hw' => ?_) ?_
      · simp [go_sem]
      · refine (HC2.out w').mono ?_
        rintro e w2 ⟨rfl, hb2⟩
        exact ⟨rfl, HBL.out _ _ _ hw' hb2⟩
      simp only [Act.put, List.setIfInBounds_toArray, List.set_cons_succ, List.set_cons_zero]
      iterate 1 (refine pv_quiet (by decide) rfl rfl ?_; intro K' hK'; go_big_quiet_op; go_big_quiet_on)
      refine pv_made rfl rfl (fun w' hw' => ⟨.slice (some ⟨w'.heap.size, 0, none⟩) 1 1, w'.alloc (.cells #[.int .i64 N1, .int .i64 D1, .int .i64 N2, .int .i64 D2] 52), ?_, ?_⟩) ?_
      · go_simp
      · rw [← HCV.out] at hw' ⊢
        have hb' : Below wr.heap.size wr w' := hw'
        refine ⟨hb'.alloc hb'.size _, w'.heap.size, rfl, hb'.size, by simp, fun j u hj => ?_⟩
        rw [Addr.add_lit]
        match j, hj with
        | 0, hj => simp at hj; subst hj; go_simp
        | 1, hj => simp at hj; subst hj; go_simp
        | 2, hj => simp at hj; subst hj; go_simp
        | 3, hj => simp at hj; subst hj; go_simp
        | j + 4, hj => simp at hj
      rintro p ⟨wp, hwp⟩
      have hwp2 := hwp
      rw [← HCV.out] at hwp2
      obtain ⟨-, g, rfl, hg1, -, -⟩ := hwp2
      simp only [Act.put, List.setIfInBounds_toArray, List.set_cons_succ, List.set_cons_zero]
      refine pv_made rfl rfl (fun w' hw' => ?_) ?_
      · rw [← HCV.out] at hw' ⊢
        obtain ⟨hbw, g', e', k1, k2, hnews⟩ := hw'
        cases e'
        obtain ⟨v', w2, hr, h2, h3⟩ := run_append_ap (P := Tryd.prog) w' w.heap.size 31 31 52 i0 (.agg #[.int .i64 0, .int .i64 0, .int .i64 0, .int .i64 0]) 4 32 Tryd.underlying31 hi hz0 hz1 hz2 rfl (by decide) u3 k (vR (l.take k)) (.inr (HO.out.kept (obelow_grown hbw none) onone_ne)) ⟨g, 0, none⟩ 1 [.int .i64 N1, .int .i64 D1, .int .i64 N2, .int .i64 D2] rfl hnews (fun u hu => by simp at hu; rcases hu with rfl | rfl | rfl | rfl <;> rfl) (by unfold maxLen; omega) (by omega) (Nat.le_trans HXS.out.size hbw.size)
        refine ⟨v', w2, ?_, ⟨hbw.os ▸ h3.os, hbw.tape ▸ h3.tape, hbw.output ▸ h3.output, Nat.le_trans hbw.size h3.size, fun k hk hn => (h3.block k (Nat.lt_of_lt_of_le hk hbw.size) hn).trans (hbw.block k hk)⟩, h2⟩
        exact ap_exec rfl rfl rfl hr
      · rintro v' ⟨wq, hwq⟩
        have hwq2 := hwq
        rw [← HCV.out] at hwq2
        obtain ⟨-, hownq⟩ := hwq2
        obtain ⟨g', cap', rfl⟩ := ownsRow_succ hownq
        clear hownq hwq
        simp only [Act.put, List.setIfInBounds_toArray, List.set_cons_succ, List.set_cons_zero]
        rintro w5 hw5
        rw [← HCV.out] at hw5
        obtain ⟨hgrow, hown'⟩ := hw5
        have hX5 := hX.grown hgrow hX.size hgv
        rw [← HROW.out] at hown'
        have HO5 := Lib.hid hown'
        clear x1 x2 hne hgrow hown' hgv
        go_wp2_with fail
        go_roundw
        case rel => exact ⟨k + 1, by omega, by simp, HO5, hX5⟩
        case measure => simp [intOf]; omega
    · obtain rfl : k = len := by omega
      have hO := HO.out
      rw [List.take_of_length_le (by rw [HM.out]; exact Nat.le_refl _)] at hO
      obtain ⟨_, D, c, rfl, hP, -⟩ := own_r hO
      have HP := Lib.hid hP
      clear hP hO
      go_wp2_with fail
      go_ret
      exact ⟨hX, D, k, c, rfl, HM.out, HP.out⟩
end Go.Proofs.YthamkigdpgajaaaDoor
