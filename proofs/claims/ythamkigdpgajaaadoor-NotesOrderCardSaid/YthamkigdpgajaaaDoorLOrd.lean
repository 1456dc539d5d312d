import Derived.Test.YthamkigdpgajaaaDoorHt
import Derived.Test.YthamkigdpgajaaaDoorSw
import Derived.Test.YthamkigdpgajaaaDoorMp
import Derived.Test.YthamkigdpgajaaaDoorSk
/- NotesOrder, call by call. -/
namespace Go.Proofs.YthamkigdpgajaaaDoor
open Go.RowKit Go.Maps

theorem run_mkNote (w : World) : (Instr.makeMap 43 none).run Tryd.prog w = .ok (.map (some w.heap.size)) (w.alloc (.map #[] 0)) := by
  simp [Instr.makeMap, Result.andThen]
/-- What is in the map behind the first i notes. -/
def ordF (l : List No.Nt) : Nat → Int → Option Value
  | 0 => fun _ => none
  | i + 1 => fun x => if x = (atO l i).id then some (.agg (rowO (atO l i)).toArray) else ordF l i x
theorem ordF_at {bs : List Mt.B} {l : List No.Nt} (h : No.Val bs l) : ∀ (i : Nat), i ≤ l.length → ∀ k, k < i → ordF l i (atO l k).id = some (.agg (rowO (atO l k)).toArray)
  | 0, _, k, hk => by omega
  | i + 1, hi, k, hk => by
    show (if (atO l k).id = (atO l i).id then _ else ordF l i (atO l k).id) = _
    by_cases e : (atO l k).id = (atO l i).id
    · rw [if_pos e, No.id_one h (atO_mem (by omega)) (atO_mem (by omega)) e]
    · rw [if_neg e]
      exact ordF_at h i (by omega) k (by
        rcases Nat.lt_or_ge k i with h1 | h1
        · exact h1
        · exact absurd (by rw [show k = i by omega]) e)
set_option maxRecDepth 100000 in
set_option maxHeartbeats 1600000 in
theorem notesOrder_walk (Bb : Option Addr) (blen bcap : Nat) (bs : List Mt.B) (hbl : bs.length = blen) (_hwb : Mt.Wf bs) (A : Option Addr) (len cap : Nat) (l : List No.Nt) (hl : l.length = len) (_hc : len ≤ cap) (hA : A = none → cap = 0) (_hwn : No.Wf l) (Y : Option Addr) (ylen ycap : Nat) (y : List Int) (hy : y.length = ylen) (hy8 : ∀ x ∈ y, 0 ≤ x ∧ x < 256) (w : World) (hG : Glob w) (hB : SlB w Bb bs) (hL : SlO w A l) (hY : SlK .u8 w Y y) :
    Calls Tryd.prog 4 #[.slice Bb blen bcap, .slice A len cap, .slice Y ylen ycap] w fun e w' => e = .returned (.bool true) ∧ Below w.heap.size w w' := by
  have HN := Lib.hid hbl
  have HM := Lib.hid hl
  by_cases hu : Usb bs l
  case neg =>
    have HU := Lib.hid hu
    clear hu hbl hl hA hy hy8 hY
    go_enter Tryd.func4, Tryd.ntmps4
    go_wp2_with fail
    have B := Below.refl w.heap.size w
    refine (head_any _ hG).mono ?_; rintro e w1 ⟨rfl, hb⟩
    replace hB := hB.below hb
    replace hL := hL.below hb
    replace hG := hG.below hb
    replace B := B.trans (hb.mono (by have := B.size; simp <;> omega))
    clear hb
    go_wp2_with fail
    refine (lusable_is bs l false _ _ _ _ _ _ ⟨(fun h => by cases h), fun h => absurd h HU.out⟩ HN.out HM.out _ hB hL).mono ?_; rintro e w2 ⟨rfl, hb⟩
    replace hB := hB.below hb
    replace hL := hL.below hb
    replace hG := hG.below hb
    replace B := B.trans (hb.mono (by have := B.size; simp <;> omega))
    clear hb
    go_wp2_with fail
    go_ret
    exact ⟨rfl, B⟩
  have HU := Lib.hid hu
  have HV := Lib.hid hu.2
  by_cases hp : 100 < ylen
  · have hp1 : (100 : Int) < (ylen : Int) := by omega
    clear hu hbl hl hA hy hy8 hY hp
    go_enter Tryd.func4, Tryd.ntmps4
    go_wp2_with fail
    have B := Below.refl w.heap.size w
    refine (head_any _ hG).mono ?_; rintro e w1 ⟨rfl, hb⟩
    replace hB := hB.below hb
    replace hL := hL.below hb
    replace hG := hG.below hb
    replace B := B.trans (hb.mono (by have := B.size; simp <;> omega))
    clear hb
    go_wp2_with fail
    refine (lusable_is bs l true _ _ _ _ _ _ ⟨fun _ => HU.out, fun _ => rfl⟩ HN.out HM.out _ hB hL).mono ?_; rintro e w2 ⟨rfl, hb⟩
    replace hB := hB.below hb
    replace hL := hL.below hb
    replace hG := hG.below hb
    replace B := B.trans (hb.mono (by have := B.size; simp <;> omega))
    clear hb
    go_wp2_with fail
    go_ret
    exact ⟨rfl, B⟩
  have h60 := hu.1
  rw [hbl, hl] at h60
  have hp1 : ¬ (100 : Int) < (ylen : Int) := by omega
  have hp2 : (ylen : Int) ≤ 100 := by omega
  have HY8 := Lib.hid hy8
  have HYL := Lib.hid hy
  have HA := Lib.hid hA
  obtain ⟨i0, hi, hz0, hz1, hz2⟩ := info_parts infoNote
  have HI0 := Lib.hid (And.intro hi (And.intro hz0 (And.intro hz1 hz2)))
  clear hi hz0 hz1 hz2 hu hbl hl hA hy hy8 hp
  go_enter Tryd.func4, Tryd.ntmps4
  go_wp2_with fail
  have B := Below.refl w.heap.size w
  refine (head_any _ hG).mono ?_; rintro e w1 ⟨rfl, hb⟩
  replace hB := hB.below hb
  replace hL := hL.below hb
  replace hY := hY.below hb
  replace hG := hG.below hb
  replace B := B.trans (hb.mono (by have := B.size; simp <;> omega))
  clear hb
  go_wp2_with fail
  refine (lusable_is bs l true _ _ _ _ _ _ ⟨fun _ => HU.out, fun _ => rfl⟩ HN.out HM.out _ hB hL).mono ?_; rintro e w2 ⟨rfl, hb⟩
  replace hB := hB.below hb
  replace hL := hL.below hb
  replace hY := hY.below hb
  replace hG := hG.below hb
  replace B := B.trans (hb.mono (by have := B.size; simp <;> omega))
  clear hb
  have HLB := Lib.hid hB; have HLL := Lib.hid hL; have HGG := Lib.hid hG; have HLY := Lib.hid hY; have HB0 := Lib.hid B
  have hon := own_empty w2 w2.heap.size (Nat.le_refl w2.heap.size)
  have hLn := hL.alloc (.cells #[] 42)
  clear hB hL hG hY B
  go_wp2_with (first | (at_builtin; go_loud (refine append_slo rfl _ _ 23 rfl w2.heap.size 42 i0 _ 96 Tryd.underlying23 HI0.out.1 HI0.out.2.1 HI0.out.2.2.1 HI0.out.2.2.2 rfl _ 0 [] rfl hon A len cap l rfl HA.out HM.out hLn (by unfold maxLen; omega) (by omega) (by simp) ?_; intro v5 w5 hown5 hgrow5)) | fail)
  have hR5 := ((Below.refl w2.heap.size w2).alloc (Nat.le_refl _) (.cells #[] 42)).grown hgrow5 (by simp) (oown_ne hon)
  rw [Nat.zero_add, List.nil_append] at hown5
  clear hgrow5 hon hLn
  obtain ⟨C, c, rfl, hCg⟩ : ∃ C c, v5 = .slice C len c ∧ (0 < len → ∃ g, C = some ⟨g, 0, none⟩) := by
    rcases hown5.2 with ⟨hv, hn⟩ | ⟨g, c, cur, hv, hb, _⟩
    · exact ⟨none, 0, by rw [hv, hn], fun h => by omega⟩
    · exact ⟨_, c, hv, fun _ => ⟨g, rfl⟩⟩
  have HOW0 := Lib.hid hown5
  have HR0 := Lib.hid hR5
  clear hown5 hR5
  go_loopw [9, 10, 11, 12, 42] (fun _ _ _ _ s42 wr => ∃ (i : Nat) (m : List No.Nt), i ≤ ylen ∧ s42 = .int .i64 (i : Int) ∧ Hid (m.Perm l) ∧ Hid (wr.ownsRow w2.heap.size 42 12 (.slice C len c) len (vO m)) ∧ Below w2.heap.size w2 wr) (fun _ _ _ _ s42 _ => ylen - (intOf s42).toNat)
  case atStart => exact ⟨0, l, Nat.zero_le _, rfl, Lib.hid (List.Perm.refl _), HOW0, HR0.out⟩
  case round =>
    obtain ⟨i, m, hi, rfl, HP, HOW, hR⟩ := hrel
    by_cases hlt : i < ylen
    · have hx : i < y.length := by rw [HYL.out]; exact hlt
      obtain ⟨yb, yo, rfl, hyb, hyc⟩ := HLY.out (by omega)
      have y0 := (hR.cell (p := ⟨yb, yo + i, none⟩) hyb).trans (hyc i hx)
      obtain ⟨q, hq⟩ : ∃ q, atI y i = q := ⟨_, rfl⟩
      have hq8 := HY8.out q (by rw [← hq, atI_eq hx]; exact List.getElem_mem hx)
      rw [hq] at y0
      have hj1 : (i : Int) < (ylen : Int) := by omega
      clear hyc hq hx
      by_cases hl0 : 0 < len
      · obtain ⟨g, rfl⟩ := hCg hl0
        have hl0' : (0 : Int) < (len : Int) := by omega
        have hl1' : ¬ (len : Int) = 0 := by omega
        obtain ⟨a, ha⟩ : ∃ a, i % len = a := ⟨_, rfl⟩
        obtain ⟨b, hb⟩ : ∃ b, q.toNat % len = b := ⟨_, rfl⟩
        have hal : a < len := by rw [← ha]; exact Nat.mod_lt _ hl0
        have hbl : b < len := by rw [← hb]; exact Nat.mod_lt _ hl0
        have hat : (i : Int).tmod (len : Int) = (a : Int) := by rw [← ha, Int.natCast_emod, Int.tmod_eq_emod_of_nonneg (by omega)]
        have hbt : q.tmod (len : Int) = (b : Int) := by rw [← hb, Int.natCast_emod, Int.toNat_of_nonneg hq8.1, Int.tmod_eq_emod_of_nonneg hq8.1]
        have hml : m.length = len := HP.out.length_eq.trans HM.out
        have ham : a < m.length := by omega
        have hbm : b < m.length := by omega
        have HAM := Lib.hid ham; have HBM := Lib.hid hbm; have HML := Lib.hid hml
        have hal' : (a : Int) < (len : Int) := by omega
        have hbl' : (b : Int) < (len : Int) := by omega
        have hne := Ext.there wr
        obtain ⟨hq0, hq1⟩ := hq8
        clear ha hb ham hbm hml
        go_wp2_with fail
        refine Ext.region (by kernel_rfl) (by kernel_rfl) ?_
        repeat (go_big_quiet_step (fail))
        refine wpQuiet_nil ?_
        rintro _ ⟨xw, rfl⟩
        have hR1 := hR.trans (xw.h.mono hR.size)
        have HOW1 := Lib.hid (HOW.out.kept (obelow_grown xw.h none) onone_ne)
        clear hR hne HOW y0
        obtain ⟨w6, hw6⟩ : ∃ w6, xw.w = w6 := ⟨_, rfl⟩
        rw [hw6] at hR1 HOW1
        simp only [hw6]
        clear hw6 xw
        go_wp2_with fail
        obtain ⟨M1, hM1⟩ : ∃ M1, m.set a (atO m b) = M1 := ⟨_, rfl⟩
        obtain ⟨M2, hM2⟩ : ∃ M2, M1.set b (atO m a) = M2 := ⟨_, rfl⟩
        refine region_pe (V := fun _ _ => undef) (cs := [13]) (es := [7, 11]) (Cv := swC w2 w2.heap.size 42 (.slice (some ⟨g, 0, none⟩) len c) len m M1) 14 (by kernel_rfl) (by kernel_rfl) (by kernel_rfl) (by kernel_rfl) ⟨hR1.drew, HOW1.out⟩ ?_
        simp only [List.take_succ_cons, List.take_zero, List.drop_succ_cons, List.drop_zero]
        have hne : Nonempty (PvW (swC w2 w2.heap.size 42 (.slice (some ⟨g, 0, none⟩) len c) len m M1)) := ⟨⟨[], w6.drew, hR1.drew, HOW1.out⟩⟩
        iterate 7 (refine pe_quiet (by decide) rfl rfl ?_; intro K' hK'; go_big_quiet_op; go_big_quiet_on)
        refine pe_early (by decide) (by decide) rfl _ (fun w' hw' => exec_load_is 42 _ rfl ⟨g, b * 12, none⟩ rfl _ (own_load hw'.2 HBM.out)) ?_
        simp only [Act.put, List.setIfInBounds_toArray, List.set_cons_succ, List.set_cons_zero]
        iterate 3 (refine pe_quiet (by decide) rfl rfl ?_; intro K' hK'; go_big_quiet_op; go_big_quiet_on)
        refine pe_early (by decide) (by decide) rfl _ (fun w' hw' => exec_load_is 42 _ rfl ⟨g, a * 12, none⟩ rfl _ (own_load hw'.2 HAM.out)) ?_
        simp only [Act.put, List.setIfInBounds_toArray, List.set_cons_succ, List.set_cons_zero]
        refine pe_quiet (by decide) rfl rfl ?_; intro K' hK'; go_big_quiet_op; go_big_quiet_on
        refine pe_stored rfl rfl (fun w' hw' => ?_) ?_
        · obtain ⟨w2', h1, h2, h3⟩ := own_store (atO m b) hw'.2 HAM.out
          rw [hM1] at h2
          exact ⟨w2', exec_store_is 42 _ _ rfl ⟨g, a * 12, none⟩ rfl _ rfl h1, h3 _ _ (Nat.le_refl _) hw'.1, h2⟩
        rintro u1 -
        simp only [Act.put]
        rintro w7 ⟨hR7, hown7⟩
        obtain ⟨w8, hst8, hown8, hb8⟩ := own_store (a := b) (atO m a) hown7 (by rw [← hM1, List.length_set]; exact HBM.out)
        have hR8 := hb8 _ _ (Nat.le_refl _) hR7
        rw [hM2] at hown8
        have HOW8 := Lib.hid hown8
        have HR8 := Lib.hid hR8
        have HP8 : Hid (M2.Perm l) := Lib.hid (by rw [← hM2, ← hM1]; exact (No.swp_perm HAM.out HBM.out).trans HP.out)
        clear hown7 hR7 hb8 hown8 hR8 hM1 hM2
        go_wp2_with (first | ((with_reducible refine wpList_stored rfl _ _ _ rfl ⟨g, b * 12, none⟩ _ hst8 ?_ ?_ ?_); (· rfl); (· rfl)) | fail)
        go_roundw
        case rel => exact ⟨i + 1, M2, by omega, by simp, HP8, HOW8, HR8.out⟩
        case measure => simp [intOf]; omega
      · go_wp2_with fail
        go_roundw
        case rel => exact ⟨i + 1, m, by omega, by simp, HP, HOW, hR⟩
        case measure => simp [intOf]; omega
    · have HS0 : ∃ S, No.srt (No.lt bs) l = S := ⟨_, rfl⟩
      obtain ⟨S, hS⟩ := HS0
      have HSL : Hid (S.length = len) := Lib.hid (by rw [← hS, (No.srt_perm l).length_eq]; exact HM.out)
      have HSV : Hid (No.Val bs S) := Lib.hid (by rw [← hS]; exact No.sort_val HV.out)
      have HSS : Hid (No.srt (No.lt bs) S = S) := Lib.hid (by rw [← hS]; exact No.sort_self HV.out)
      have HMV : Hid (No.Val bs m) := Lib.hid (No.val_perm HV.out HP.out)
      have HMS : Hid (No.srt (No.lt bs) m = S) := Lib.hid (by rw [← hS]; exact No.sort_any HV.out HP.out)
      have HAT : Hid (∀ i, i + 1 < len → No.lt bs (atO S i) (atO S (i + 1)) = true) := Lib.hid (fun i h => by
        have := HSL.out
        rw [← hS] at this ⊢
        exact No.sort_at HV.out (by omega))
      have HIN : Hid (∀ i, i < len → ∃ k, k < len ∧ atO l k = atO S i) := Lib.hid (fun i h => by
        have h1 : atO S i ∈ S := atO_mem (by have := HSL.out; omega)
        rw [← hS] at h1 ⊢
        obtain ⟨k, hk, e⟩ := List.mem_iff_getElem.1 (No.sort_mem.1 h1)
        exact ⟨k, by rw [← HM.out]; exact hk, by rw [atO_eq hk]; exact e⟩)
      have HS := Lib.hid hS
      clear hS
      obtain ⟨_, A3, c3, hCe, L3, hA3⟩ := own_o HOW.out
      cases hCe
      have HL3 := Lib.hid L3
      clear L3 hA3 hCg
      go_wp2_with fail
      refine (tnsort_is bs l true _ _ _ _ _ _ ⟨fun _ => HV.out, fun _ => rfl⟩ HN.out HM.out (Mt.val_wf HV.out.1) (No.val_wf HV.out) _ (HLB.out.below hR) (HLL.out.below hR) (HGG.out.below hR)).mono ?_; rintro e z1 ⟨hb, h⟩
      obtain ⟨-, D1, c1, rfl, hS1, hD1, hc1⟩ := h.resolve_left (by rintro ⟨h, _⟩; cases h)
      rw [HS.out] at hS1
      have HL4 := Lib.hid (HL3.out.below hb)
      have HS1 := Lib.hid hS1
      have hR1 := hR.trans (hb.mono hR.size)
      clear hR hb hS1 h
      go_wp2_with fail
      refine (tnsort_is bs m true _ _ _ _ _ _ ⟨fun _ => HMV.out, fun _ => rfl⟩ HN.out (HP.out.length_eq.trans HM.out) (Mt.val_wf HV.out.1) (No.val_wf HMV.out) _ (HLB.out.below hR1) HL4.out (HGG.out.below hR1)).mono ?_; rintro e z2 ⟨hb, h⟩
      obtain ⟨-, D2, c2, rfl, hS2, hD2, hc2⟩ := h.resolve_left (by rintro ⟨h, _⟩; cases h)
      rw [HMS.out] at hS2
      have HS2 := Lib.hid hS2
      have HT1 := Lib.hid (HS1.out.below hb)
      have hR2 := hR1.trans (hb.mono hR1.size)
      clear hR1 hb hS2 h HL4 HL3
      go_wp2_with fail
      refine (tnsort_is bs S true _ _ _ _ _ _ ⟨fun _ => HSV.out, fun _ => rfl⟩ HN.out HSL.out (Mt.val_wf HV.out.1) (No.val_wf HSV.out) _ (HLB.out.below hR2) HT1.out (HGG.out.below hR2)).mono ?_; rintro e z3 ⟨hb, h⟩
      obtain ⟨-, D3, c3', rfl, hS3, hD3, hc3⟩ := h.resolve_left (by rintro ⟨h, _⟩; cases h)
      rw [HSS.out] at hS3
      have HU3 := Lib.hid hS3
      have HU1 := Lib.hid (HT1.out.below hb)
      have HU2 := Lib.hid (HS2.out.below hb)
      have hR3 := hR2.trans (hb.mono hR2.size)
      clear hR2 hb hS3 h HT1 HS2
      go_wp2_with fail
      refine (rsameo_is S _ _ _ _ _ HSL.out (by omega) _ HU1.out HU2.out).mono ?_; rintro e z4 ⟨rfl, hb⟩
      have HV1 := Lib.hid (HU1.out.below hb)
      have HV3 := Lib.hid (HU3.out.below hb)
      have hR4 := hR3.trans (hb.mono hR3.size)
      clear hR3 hb
      go_wp2_with fail
      refine (rsameo_is S _ _ _ _ _ HSL.out (by omega) _ HV1.out HV3.out).mono ?_; rintro e z5 ⟨rfl, hb⟩
      have HW1 := Lib.hid (HV1.out.below hb)
      have hR5 := hR4.trans (hb.mono hR4.size)
      clear hR4 hb
      have hmm := run_mkNote
      go_wp2_with fail
      clear hmm
      have hR6 := hR5.alloc hR5.size (.map #[] 0)
      have hmo := World.ownsMap_made z5 Tryd.prog 3 rdV
      go_loopw [124] (fun s124 wm => ∃ (k : Nat) (D : DataW Value), k ≤ len ∧ s124 = .int .i64 (k : Int) ∧ Hid (wm.ownsMap Tryd.prog 3 rdV z5.heap.size k D) ∧ Hid (MapIs D (.agg #[.int .i64 0, .int .i64 0, .int .i64 0, .int .i64 0, .int .i64 0, .int .i64 0, .int .i64 0, .int .i64 0, .int .i64 0, .int .i64 0, .int .i64 0, .int .i64 0]) (ordF l k)) ∧ Below z5.heap.size z5 wm) (fun s124 _ => len - (intOf s124).toNat)
      case atStart => exact ⟨0, _, Nat.zero_le _, rfl, Lib.hid hmo, Lib.hid (MapIs.start _), (Below.refl _ _).alloc (Nat.le_refl _) _⟩
      case round =>
        clear hmo
        obtain ⟨k, D, hk, rfl, HO, HD, hQ⟩ := hrel
        by_cases hlt2 : k < len
        · have hx : k < l.length := by rw [HM.out]; exact hlt2
          obtain ⟨bb, of2, rfl, hbb, hc⟩ := HLL.out (by rw [HM.out]; omega)
          obtain ⟨n, hn⟩ : ∃ n, atO l k = n := ⟨_, rfl⟩
          have X := (hc k hx).below (hR5.trans (hQ.mono hR5.size)) hbb
          rw [hn] at X
          have hok := HV.out.2.2.1 n (by rw [← hn]; exact atO_mem hx)
          have hwf : (Lit.int .i64 n.id).wf = true := Mt.wf_id (by have := hok.2.2.1; omega) (by have := hok.2.2.2.1; omega)
          have hkey : keyOf Tryd.prog 3 (.int .i64 n.id) = some (.int .i64 n.id) := keyOf_int_mk Tryd.underlying3 hwf
          have HST : Hid (MapIs (D.put (.int .i64 n.id) (.held (.agg #[.int .i64 n.id, .int .i64 n.pa, .int .i64 n.ba, .int .i64 n.vo, .int .i64 n.os, .int .i64 n.sn, .int .i64 n.sd, .int .i64 n.ln, .int .i64 n.ld, .int .i64 n.st, .int .i64 n.al, .int .i64 n.oc]))) (.agg #[.int .i64 0, .int .i64 0, .int .i64 0, .int .i64 0, .int .i64 0, .int .i64 0, .int .i64 0, .int .i64 0, .int .i64 0, .int .i64 0, .int .i64 0, .int .i64 0]) (ordF l (k + 1))) := Lib.hid (by
            have h := HD.out.put hwf (.agg #[.int .i64 n.id, .int .i64 n.pa, .int .i64 n.ba, .int .i64 n.vo, .int .i64 n.os, .int .i64 n.sn, .int .i64 n.sd, .int .i64 n.ln, .int .i64 n.ld, .int .i64 n.st, .int .i64 n.al, .int .i64 n.oc])
            have e : ordF l (k + 1) = fun x => if x = n.id then some (.agg #[.int .i64 n.id, .int .i64 n.pa, .int .i64 n.ba, .int .i64 n.vo, .int .i64 n.os, .int .i64 n.sn, .int .i64 n.sd, .int .i64 n.ln, .int .i64 n.ld, .int .i64 n.st, .int .i64 n.al, .int .i64 n.oc]) else ordF l k x := by
              show (fun x => if x = (atO l k).id then some (.agg (rowO (atO l k)).toArray) else ordF l k x) = _
              rw [hn]
              rfl
            rw [e]
            exact h)
          have hj1 : (k : Int) < (len : Int) := by omega
          obtain ⟨c0, c1, c2, c3, c4, c5, c6, c7, c8, c9, c10, c11⟩ := X
          rw [Nat.add_zero] at c0
          have hown2 := HO.out.alloc (.cells #[.int .i64 n.id, .int .i64 n.pa, .int .i64 n.ba, .int .i64 n.vo, .int .i64 n.os, .int .i64 n.sn, .int .i64 n.sd, .int .i64 n.ln, .int .i64 n.ld, .int .i64 n.st, .int .i64 n.al, .int .i64 n.oc] 42)
          clear hn hok hx hc hwf
          go_wp2_with (first | (at_mapUpdate; go_loud (refine wpList_mapUpdate_own _ rfl _ _ _ 43 rfl 3 42 mapK Tryd.underlying43 rdV z5.heap.size k D rfl hown2 (by unfold maxLen; omega) _ (.agg #[.int .i64 n.id, .int .i64 n.pa, .int .i64 n.ba, .int .i64 n.vo, .int .i64 n.os, .int .i64 n.sn, .int .i64 n.sd, .int .i64 n.ln, .int .i64 n.ld, .int .i64 n.st, .int .i64 n.al, .int .i64 n.oc]) _ rfl rfl hkey _ [] rfl ?_; intro w3 hown3 hg3)) | fail)
          have HO3 := Lib.hid hown3
          have hQ2 := (hQ.alloc hQ.size (.cells #[.int .i64 n.id, .int .i64 n.pa, .int .i64 n.ba, .int .i64 n.vo, .int .i64 n.os, .int .i64 n.sn, .int .i64 n.sd, .int .i64 n.ln, .int .i64 n.ld, .int .i64 n.st, .int .i64 n.al, .int .i64 n.oc] 42)).grown hg3 (by have := hQ.size; simp; omega) (by intro j hj; cases hj; exact Nat.le_refl _)
          clear hown3 hg3 hown2 c0 c1 c2 c3 c4 c5 c6 c7 c8 c9 c10 c11
          go_roundw
          case rel => exact ⟨k + 1, _, by omega, by simp, HO3, HST, hQ2⟩
          case measure => simp [intOf]; omega
        · obtain rfl : k = len := by omega
          go_wp2_with fail

          have hRk := hR5.trans (hQ.mono hR5.size)
          have HRK := Lib.hid hRk
          have HWK := Lib.hid (HW1.out.below hQ)
          have HBK := Lib.hid (HLB.out.below hRk)
          clear hRk hR5 hR6 HOW HOW0 HR0 HW1
          obtain ⟨wq, rfl⟩ : ∃ wq, wq = wr := ⟨_, rfl⟩
          obtain ⟨mb, hmb⟩ : ∃ mb, z5.heap.size = mb := ⟨_, rfl⟩
          rw [hmb] at HO
          clear hQ
          simp only [hmb]
          clear hmb
          go_loopw [135] (fun s135 wr => ∃ j : Nat, j ≤ k ∧ s135 = .int .i64 (j : Int) ∧ Below wq.heap.size wq wr) (fun s135 _ => k - (intOf s135).toNat)
          case atStart => exact ⟨0, Nat.zero_le _, rfl, Below.refl _ _⟩
          case round =>
            obtain ⟨j, hj, rfl, hX⟩ := hrel
            by_cases hlt3 : j < k
            · have hx : j < S.length := by rw [HSL.out]; exact hlt3
              obtain ⟨bb, of2, rfl, hbb, hc⟩ := HWK.out (by rw [HSL.out]; omega)
              obtain ⟨n, hn⟩ : ∃ n, atO S j = n := ⟨_, rfl⟩
              have X := (hc j hx).below hX hbb
              rw [hn] at X
              have hok := HSV.out.2.2.1 n (by rw [← hn]; exact atO_mem hx)
              have HNI : Hid (No.isN n.st n.al n.oc) := Lib.hid hok.2.1
              have hwf : (Lit.int .i64 n.id).wf = true := Mt.wf_id (by have := hok.2.2.1; omega) (by have := hok.2.2.2.1; omega)
              have hkey : keyOf Tryd.prog 3 (.int .i64 n.id) = some (.int .i64 n.id) := keyOf_int_mk Tryd.underlying3 hwf
              have hat : ordF l k n.id = some (.agg #[.int .i64 n.id, .int .i64 n.pa, .int .i64 n.ba, .int .i64 n.vo, .int .i64 n.os, .int .i64 n.sn, .int .i64 n.sd, .int .i64 n.ln, .int .i64 n.ld, .int .i64 n.st, .int .i64 n.al, .int .i64 n.oc]) := by
                obtain ⟨q, hq, e⟩ := HIN.out j hlt3
                have h := ordF_at HV.out k (by rw [HM.out]; exact Nat.le_refl _) q hq
                rw [e, hn] at h
                exact h
              have HHAS : Hid (Maps.has D (.int .i64 n.id) = true) := Lib.hid (by rw [(HD.out.2 n.id hwf).1, hat]; rfl)
              have HATK : Hid (D.atKey (.int .i64 n.id) (.held (.agg #[.int .i64 0, .int .i64 0, .int .i64 0, .int .i64 0, .int .i64 0, .int .i64 0, .int .i64 0, .int .i64 0, .int .i64 0, .int .i64 0, .int .i64 0, .int .i64 0])) = .held (.agg #[.int .i64 n.id, .int .i64 n.pa, .int .i64 n.ba, .int .i64 n.vo, .int .i64 n.os, .int .i64 n.sn, .int .i64 n.sd, .int .i64 n.ln, .int .i64 n.ld, .int .i64 n.st, .int .i64 n.al, .int .i64 n.oc])) := Lib.hid (by rw [(HD.out.2 n.id hwf).2, hat]; rfl)
              have hj1 : (j : Int) < (k : Int) := by omega
              have HOJ := Lib.hid (HO.out.kept (obelow_grown hX none) (by simp))
              obtain ⟨c0, c1, c2, c3, c4, c5, c6, c7, c8, c9, c10, c11⟩ := X
              rw [Nat.add_zero] at c0
              have HPV : Hid (0 < j → NtAt wr bb (of2 + (j - 1) * 12) (atO S (j - 1)) ∧ No.isN (atO S (j - 1)).st (atO S (j - 1)).al (atO S (j - 1)).oc ∧ No.lt bs (atO S (j - 1)) n = true) := Lib.hid (fun h0 => by
                have hx2 : j - 1 < S.length := by omega
                refine ⟨(hc (j - 1) hx2).below hX hbb, (HSV.out.2.2.1 _ (atO_mem hx2)).2.1, ?_⟩
                have h := HAT.out (j - 1) (by omega)
                rw [show j - 1 + 1 = j by omega, hn] at h
                exact h)
              clear hn hok hx hc hwf hat
              go_wp2_with (first | (at_lookup; go_loud (refine look_v_ok _ rfl _ _ 43 rfl 3 42 mapK Tryd.underlying43 (.agg #[.int .i64 0, .int .i64 0, .int .i64 0, .int .i64 0, .int .i64 0, .int .i64 0, .int .i64 0, .int .i64 0, .int .i64 0, .int .i64 0, .int .i64 0, .int .i64 0]) (Tryd.zeroValue42 _) mb k D rfl (HOJ.out.alloc (.cells #[.int .i64 n.id, .int .i64 n.pa, .int .i64 n.ba, .int .i64 n.vo, .int .i64 n.os, .int .i64 n.sn, .int .i64 n.sd, .int .i64 n.ln, .int .i64 n.ld, .int .i64 n.st, .int .i64 n.al, .int .i64 n.oc] 42)) _ _ rfl hkey (.agg #[.int .i64 n.id, .int .i64 n.pa, .int .i64 n.ba, .int .i64 n.vo, .int .i64 n.os, .int .i64 n.sn, .int .i64 n.sd, .int .i64 n.ln, .int .i64 n.ld, .int .i64 n.st, .int .i64 n.al, .int .i64 n.oc]) HATK.out true HHAS.out ?_)) | fail)
              clear c0 c1 c2 c3 c4 c5 c6 c7 c8 c9 c10 c11
              have BW := ((Below.refl wr.heap.size wr).alloc (Nat.le_refl _) (.cells #[.int .i64 n.id, .int .i64 n.pa, .int .i64 n.ba, .int .i64 n.vo, .int .i64 n.os, .int .i64 n.sn, .int .i64 n.sd, .int .i64 n.ln, .int .i64 n.ld, .int .i64 n.st, .int .i64 n.al, .int .i64 n.oc] 42)).alloc (by simp) (.cells #[.int .i64 n.id, .int .i64 n.pa, .int .i64 n.ba, .int .i64 n.vo, .int .i64 n.os, .int .i64 n.sn, .int .i64 n.sd, .int .i64 n.ln, .int .i64 n.ld, .int .i64 n.st, .int .i64 n.al, .int .i64 n.oc] 42)
              have NV := (NtB.new wr n).alloc (.cells #[.int .i64 n.id, .int .i64 n.pa, .int .i64 n.ba, .int .i64 n.vo, .int .i64 n.os, .int .i64 n.sn, .int .i64 n.sd, .int .i64 n.ln, .int .i64 n.ld, .int .i64 n.st, .int .i64 n.al, .int .i64 n.oc] 42)
              have MV := NtB.new (wr.alloc (.cells #[.int .i64 n.id, .int .i64 n.pa, .int .i64 n.ba, .int .i64 n.vo, .int .i64 n.os, .int .i64 n.sn, .int .i64 n.sd, .int .i64 n.ln, .int .i64 n.ld, .int .i64 n.st, .int .i64 n.al, .int .i64 n.oc] 42)) n
              simp only [World.size_alloc] at MV
              have hXz := hX.trans (BW.mono hX.size)
              obtain ⟨wz, hwz⟩ : ∃ wz, (wr.alloc (.cells #[.int .i64 n.id, .int .i64 n.pa, .int .i64 n.ba, .int .i64 n.vo, .int .i64 n.os, .int .i64 n.sn, .int .i64 n.sd, .int .i64 n.ln, .int .i64 n.ld, .int .i64 n.st, .int .i64 n.al, .int .i64 n.oc] 42)).alloc (.cells #[.int .i64 n.id, .int .i64 n.pa, .int .i64 n.ba, .int .i64 n.vo, .int .i64 n.os, .int .i64 n.sn, .int .i64 n.sd, .int .i64 n.ln, .int .i64 n.ld, .int .i64 n.st, .int .i64 n.al, .int .i64 n.oc] 42) = wz := ⟨_, rfl⟩
              rw [hwz] at BW NV MV hXz
              simp only [hwz]
              have hne := Ext.there wz
              clear hwz HOJ
              have x0 := fun y : Ext wz => y.cell NV.c0; have x1 := fun y : Ext wz => y.cell NV.c1; have x2 := fun y : Ext wz => y.cell NV.c2; have x3 := fun y : Ext wz => y.cell NV.c3; have x4 := fun y : Ext wz => y.cell NV.c4; have x5 := fun y : Ext wz => y.cell NV.c5; have x6 := fun y : Ext wz => y.cell NV.c6; have x7 := fun y : Ext wz => y.cell NV.c7; have x8 := fun y : Ext wz => y.cell NV.c8; have x9 := fun y : Ext wz => y.cell NV.c9; have x10 := fun y : Ext wz => y.cell NV.c10; have x11 := fun y : Ext wz => y.cell NV.c11
              have y0 := fun y : Ext wz => y.cell MV.c0; have y1 := fun y : Ext wz => y.cell MV.c1; have y2 := fun y : Ext wz => y.cell MV.c2; have y3 := fun y : Ext wz => y.cell MV.c3; have y4 := fun y : Ext wz => y.cell MV.c4; have y5 := fun y : Ext wz => y.cell MV.c5; have y6 := fun y : Ext wz => y.cell MV.c6; have y7 := fun y : Ext wz => y.cell MV.c7; have y8 := fun y : Ext wz => y.cell MV.c8; have y9 := fun y : Ext wz => y.cell MV.c9; have y10 := fun y : Ext wz => y.cell MV.c10; have y11 := fun y : Ext wz => y.cell MV.c11
              by_cases h0 : 0 < j
              · obtain ⟨p, hp⟩ : ∃ p, p + 1 = j := ⟨j - 1, by omega⟩
                have HP2 := HPV.out h0
                rw [show j - 1 = p by omega] at HP2
                obtain ⟨hm1, hm2, hm3⟩ := HP2
                obtain ⟨m2, hme⟩ : ∃ m2, atO S p = m2 := ⟨_, rfl⟩
                rw [hme] at hm1 hm2 hm3
                have HM2 := Lib.hid hm2; have HM3 := Lib.hid hm3
                have Z := hm1.below BW (Nat.lt_of_lt_of_le hbb hX.size)
                have z00 : wz.cell? ⟨bb, of2 + p * 12, none⟩ = some (.int .i64 m2.id) := Z.c0
                have q0 := fun y : Ext wz => y.cell z00
                have q1 := fun y : Ext wz => y.cell Z.c1; have q2 := fun y : Ext wz => y.cell Z.c2; have q3 := fun y : Ext wz => y.cell Z.c3; have q4 := fun y : Ext wz => y.cell Z.c4; have q5 := fun y : Ext wz => y.cell Z.c5; have q6 := fun y : Ext wz => y.cell Z.c6; have q7 := fun y : Ext wz => y.cell Z.c7; have q8 := fun y : Ext wz => y.cell Z.c8; have q9 := fun y : Ext wz => y.cell Z.c9; have q10 := fun y : Ext wz => y.cell Z.c10; have q11 := fun y : Ext wz => y.cell Z.c11
                have hk1 : (0 : Int) < (j : Int) := by omega
                have hk2 : (j : Int) - 1 = (p : Int) := by omega
                have hk3 : (p : Int) < (k : Int) := by omega
                have hk4 : ((p : Int)).toNat = p := by omega
                have hk5 : (0 : Int) ≤ (p : Int) := by omega
                have hk6 : p < k := by omega
                have HBZ := Lib.hid (HBK.out.below hXz)
                clear hm1 hm2 hm3 hme Z z00 NV MV hp
                refine Ext.region (by kernel_rfl) (by kernel_rfl) ?_
                repeat (go_big_quiet_step ((go_at_call 24; exact Ext.call _ (rbefore_is bs m2 n true blen bcap Bb HM3.out HM2.out HNI.out HN.out (by omega) _ (HBZ.out.below (Ext.h _))))))
                refine wpQuiet_nil ?_
                rintro _ ⟨xw, rfl⟩
                have hX2 := hXz.trans (xw.h.mono hXz.size)
                clear x0 x1 x2 x3 x4 x5 x6 x7 x8 x9 x10 x11 y0 y1 y2 y3 y4 y5 y6 y7 y8 y9 y10 y11 q0 q1 q2 q3 q4 q5 q6 q7 q8 q9 q10 q11 hne hX hXz BW
                generalize xw.w = w3 at *
                clear xw
                go_wp2_with fail
                go_roundw
                case rel => exact ⟨j + 1, by omega, (by simp), hX2⟩
                case measure => simp [intOf]; omega
              · obtain rfl : j = 0 := by omega
                refine Ext.region (by kernel_rfl) (by kernel_rfl) ?_
                repeat (go_big_quiet_step (fail))
                refine wpQuiet_nil ?_
                rintro _ ⟨xw, rfl⟩
                have hX2 := hXz.trans (xw.h.mono hXz.size)
                clear x0 x1 x2 x3 x4 x5 x6 x7 x8 x9 x10 x11 y0 y1 y2 y3 y4 y5 y6 y7 y8 y9 y10 y11 hne hX hXz BW NV MV
                generalize xw.w = w3 at *
                clear xw
                go_wp2_with fail
                go_roundw
                case rel => exact ⟨0 + 1, by omega, (by simp), hX2⟩
                case measure => simp [intOf]; omega
            · go_wp2_with fail
              go_ret
              exact ⟨rfl, HB0.out.trans ((HRK.out.trans (hX.mono HRK.out.size)).mono HB0.out.size)⟩
end Go.Proofs.YthamkigdpgajaaaDoor
