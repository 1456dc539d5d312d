import Derived.Test.YthamkigdpgajaaaDoorUb
import Derived.Test.YthamkigdpgajaaaDoorHm
/- The walks of the reference's Busy and Rests. -/
namespace Go.Proofs.YthamkigdpgajaaaDoor
open Go.RowKit

/-- What the reference's Busy and Rests answer. -/
def RbP (bs : List Mt.B) (l : List No.Nt) (part bar : Int) (R : List No.Sp) (e : Ending) (w' : World) : Prop :=
  ∃ D n c err, e = .returned (.tuple #[.slice D n c, .int .i64 err]) ∧ ((¬ (No.Val bs l ∧ (1 ≤ part ∧ part ≤ 1000000) ∧ 1 ≤ bar ∧ bar ≤ 1000000) ∧ err = 1 ∧ n = 0) ∨
    ((No.Val bs l ∧ (1 ≤ part ∧ part ≤ 1000000) ∧ 1 ≤ bar ∧ bar ≤ 1000000) ∧ No.bix bs bar < 0 ∧ err = 21 ∧ n = 0) ∨
    ((No.Val bs l ∧ (1 ≤ part ∧ part ≤ 1000000) ∧ 1 ≤ bar ∧ bar ≤ 1000000) ∧ ¬ No.bix bs bar < 0 ∧ err = 0 ∧ R.length = n ∧ SlR w' D R))
theorem busy_bd {bs : List Mt.B} {l : List No.Nt} (h : No.Val bs l) {part bar : Int} (hb : 0 ≤ No.bix bs bar) : BdP (No.busy bs l part bar) := fun s hs => by
  obtain ⟨_, h2⟩ := No.busy_lim h (part := part) hb
  have h4 := No.bix_lt bs bar
  have h5 := (No.bt_in h.1 (r := (No.bix bs bar).toNat) (by omega)).2
  have := h2 s hs
  omega
theorem rests_bd {bs : List Mt.B} {l : List No.Nt} (h : No.Val bs l) {part bar : Int} (hb : 0 ≤ No.bix bs bar) : BdP (No.rests bs l part bar) := fun s hs => by
  obtain ⟨_, h2⟩ := No.rests_lim h (part := part) hb
  have h4 := No.bix_lt bs bar
  have h5 := (No.bt_in h.1 (r := (No.bix bs bar).toNat) (by omega)).2
  have := h2 s hs
  omega
set_option maxHeartbeats 1600000 in
theorem rbusy_is (bs : List Mt.B) (l : List No.Nt) (part bar : Int) (blen bcap len cap : Nat) (B A : Option Addr) (hbl : bs.length = blen) (hl : l.length = len) (w : World) (hB : SlB w B bs) (hL : SlO w A l) :
    Calls Tryd.prog 19 #[.slice B blen bcap, .slice A len cap, .int .i64 part, .int .i64 bar] w fun e w' => RbP bs l part bar (No.busy bs l part bar) e w' ∧ Below w.heap.size w w' := by
  have HB := Lib.hid hB
  have HL := Lib.hid hL
  have HN := Lib.hid hbl
  have HM := Lib.hid hl
  clear hbl hl hB hL
  go_enter Tryd.func19, Tryd.ntmps19
  go_wp2_with fail
  refine (rof_is bs l part bar blen bcap len cap B A HN.out HM.out _ HB.out HL.out).mono ?_
  rintro e w1 ⟨⟨h1, rfl⟩ | ⟨h1, h2, rfl⟩ | ⟨h1, h2, D, n, c, rfl, h3, h4, h5, h6⟩, hb⟩
  · have H1 := Lib.hid h1
    clear h1
    go_wp2_with fail
    refine (rspans_is [] 0 0 none rfl (by omega) (fun n hn => by cases hn) _ (SlO.nil _ _)).mono ?_; rintro e w2 ⟨hb2, D, n, c, rfl, hn, hP⟩
    obtain rfl : n = 0 := by rw [← hn]; rfl
    have hb3 := hb.trans (hb2.mono hb.size)
    have HP := Lib.hid hP
    clear hn hP hb hb2
    go_wp2_with fail
    refine (rrats_is [] 0 _ _ rfl (by omega) (fun s hs => by cases hs) _ HP.out).mono ?_; rintro e w3 ⟨hb4, E, m, c2, rfl, hm, -⟩
    obtain rfl : m = 0 := by rw [← hm]; rfl
    clear hm
    go_wp2_with fail
    go_ret2
    exact ⟨⟨E, 0, c2, 1, rfl, .inl ⟨H1.out, rfl, rfl⟩⟩, hb3.trans (hb4.mono hb3.size)⟩
  · have H1 := Lib.hid h1
    have H2 := Lib.hid h2
    clear h1 h2
    go_wp2_with fail
    refine (rspans_is [] 0 0 none rfl (by omega) (fun n hn => by cases hn) _ (SlO.nil _ _)).mono ?_; rintro e w2 ⟨hb2, D, n, c, rfl, hn, hP⟩
    obtain rfl : n = 0 := by rw [← hn]; rfl
    have hb3 := hb.trans (hb2.mono hb.size)
    have HP := Lib.hid hP
    clear hn hP hb hb2
    go_wp2_with fail
    refine (rrats_is [] 0 _ _ rfl (by omega) (fun s hs => by cases hs) _ HP.out).mono ?_; rintro e w3 ⟨hb4, E, m, c2, rfl, hm, -⟩
    obtain rfl : m = 0 := by rw [← hm]; rfl
    clear hm
    go_wp2_with fail
    go_ret2
    exact ⟨⟨E, 0, c2, 21, rfl, .inr (.inl ⟨H1.out, H2.out, rfl, rfl⟩)⟩, hb3.trans (hb4.mono hb3.size)⟩
  · have H1 := Lib.hid h1
    have H2 := Lib.hid h2
    have H3 := Lib.hid h3
    have H4 := Lib.hid h4
    have hvl := h1.1.2.1
    have hol := own_le bs l part bar
    have hn2 : n ≤ 20000 := by omega
    clear h1 h2 h3 h4 h5 h6 hvl hol
    go_wp2_with fail
    refine (rspans_is (No.own bs l part bar) n c D H3.out hn2 (No.own_ok H1.out.1 part bar) _ H4.out).mono ?_; rintro e w2 ⟨hb2, E, m, c2, rfl, hm, hP⟩
    have hb3 := hb.trans (hb2.mono hb.size)
    have HP := Lib.hid hP
    have HMm := Lib.hid hm
    have hm2 : m ≤ 1000000 := by
      have h := No.join_length ((No.own bs l part bar).map No.spn)
      rw [List.length_map, H3.out] at h
      omega
    clear hm hP hb hb2
    go_wp2_with fail
    refine (rrats_is (No.busy bs l part bar) m _ _ HMm.out hm2 (busy_bd H1.out.1 (by have := H2.out; omega)) _ HP.out).mono ?_; rintro e w3 ⟨hb4, F, m', c3, rfl, hm', hR⟩
    have HR := Lib.hid hR
    have HM' := Lib.hid hm'
    clear hR hm'
    go_wp2_with fail
    go_ret2
    exact ⟨⟨F, m', c3, 0, rfl, .inr (.inr ⟨H1.out, (by have := H2.out; omega), rfl, HM'.out, HR.out⟩)⟩, hb3.trans (hb4.mono hb3.size)⟩
set_option maxRecDepth 100000 in
set_option maxHeartbeats 3200000 in
theorem rrests_is (bs : List Mt.B) (l : List No.Nt) (part bar : Int) (blen bcap len cap : Nat) (B A : Option Addr) (hbl : bs.length = blen) (hl : l.length = len) (w : World) (hB : SlB w B bs) (hL : SlO w A l) :
    Calls Tryd.prog 22 #[.slice B blen bcap, .slice A len cap, .int .i64 part, .int .i64 bar] w fun e w' => RbP bs l part bar (No.rests bs l part bar) e w' ∧ Below w.heap.size w w' := by
  have HB := Lib.hid hB
  have HL := Lib.hid hL
  have HN := Lib.hid hbl
  have HM := Lib.hid hl
  obtain ⟨i0, hi, hz0, hz1, hz2⟩ := info_parts infoSp
  have HI0 := Lib.hid (And.intro hi (And.intro hz0 (And.intro hz1 hz2)))
  clear hbl hl hB hL hi hz0 hz1 hz2
  go_enter Tryd.func22, Tryd.ntmps22
  go_wp2_with fail
  refine (rof_is bs l part bar blen bcap len cap B A HN.out HM.out _ HB.out HL.out).mono ?_
  rintro e w1 ⟨⟨h1, rfl⟩ | ⟨h1, h2, rfl⟩ | ⟨h1, h2, D, n, c, rfl, h3, h4, h5, h6⟩, hb⟩
  · have H1 := Lib.hid h1
    clear h1
    go_wp2_with fail
    go_ret2
    exact ⟨⟨none, 0, 0, 1, rfl, .inl ⟨H1.out, rfl, rfl⟩⟩, hb⟩
  · have H1 := Lib.hid h1
    have H2 := Lib.hid h2
    clear h1 h2
    go_wp2_with fail
    go_ret2
    exact ⟨⟨none, 0, 0, 21, rfl, .inr (.inl ⟨H1.out, H2.out, rfl, rfl⟩)⟩, hb⟩
  · have H1 := Lib.hid h1
    have H2 := Lib.hid h2
    have H3 := Lib.hid h3
    have H4 := Lib.hid h4
    have hvl := h1.1.2.1
    have hol := own_le bs l part bar
    have hn2 : n ≤ 20000 := by omega
    obtain ⟨r, hr⟩ : ∃ r, No.bix bs bar = r := ⟨_, rfl⟩
    have hr0 : 0 ≤ r := by omega
    have hrb := No.bix_lt bs bar
    rw [hr] at hrb
    obtain ⟨q, rfl⟩ : ∃ q : Nat, r = q := ⟨r.toNat, by omega⟩
    have hqb : q < bs.length := by omega
    obtain ⟨bb, off, rfl, hbb, hcb⟩ := HB.out (by omega)
    obtain ⟨E, hE⟩ : ∃ E, Mt.bt (atB bs q) = E := ⟨_, rfl⟩
    have hE2 := No.bt_in h1.1.1 hqb
    rw [hE] at hE2
    obtain ⟨en, hen⟩ : ∃ en, (atB bs q).2.1 = en := ⟨_, rfl⟩
    obtain ⟨ed, hed⟩ : ∃ ed, (atB bs q).2.2.1 = ed := ⟨_, rfl⟩
    have HE := Lib.hid (show Mt.tk en ed = E by rw [← hen, ← hed]; exact hE)
    have X := hcb q hqb
    rw [hen, hed] at X
    obtain ⟨X0, X1, X2, X3⟩ := X
    have HR := Lib.hid hr
    have hqi : (q : Int) < (blen : Int) := by have := HN.out; omega
    have HRS : Hid (No.rests bs l part bar = No.gaps E 0 (No.busy bs l part bar)) := Lib.hid (by unfold No.rests; rw [hr, Int.toNat_natCast, hE])
    have hm4 : blen ≤ 4000000 := by have h := h1.1.1.2.1; rw [HN.out] at h; omega
    clear h1 h2 h3 h4 h5 h6 hvl hol hr hcb hen hed hE hrb
    go_wp2_with fail
    refine (rspans_is (No.own bs l part bar) n c D H3.out hn2 (No.own_ok H1.out.1 part bar) _ H4.out).mono ?_; rintro e w2 ⟨hb2, S, m, c2, rfl, hm, hP⟩
    have hb3 := hb.trans (hb2.mono hb.size)
    have HP := Lib.hid hP
    have HMm := Lib.hid hm
    have hm2 : m ≤ 20000 := by
      have h := No.join_length ((No.own bs l part bar).map No.spn)
      rw [List.length_map, H3.out] at h
      omega
    clear hm hP hb hb2
    go_wp2_with fail
    refine (rbar_b bs bar (q : Int) blen bcap _ HR.out HN.out hm4 _ (HB.out.below hb3)).mono ?_; rintro e w4 ⟨rfl, hb4⟩
    have hb5 := hb3.trans (hb4.mono hb3.size)
    have HP4 := Lib.hid (HP.out.below hb4)
    have x1 := (hb5.cell (p := ⟨bb, off + q * 4 + 1, none⟩) hbb).trans X1
    have x2 := (hb5.cell (p := ⟨bb, off + q * 4 + 2, none⟩) hbb).trans X2
    clear hb3 hb4 HP X0 X1 X2 X3
    go_wp2_with fail
    refine (kticks_is en ed E HE.out _).mono ?_; rintro e w5 ⟨rfl, hb6⟩
    have hb7 := hb5.trans (hb6.mono hb5.size)
    have HP5 := Lib.hid (HP4.out.below hb6)
    have HBU := Lib.hid (busy_bd H1.out.1 (part := part) (bar := bar) (by have := H2.out; omega))
    have HRB := Lib.hid (rests_bd H1.out.1 (part := part) (bar := bar) (by have := H2.out; omega))
    have HJ : Hid ((No.busy bs l part bar).length = m) := HMm
    have HQ5 : Hid (SlP w5 S (No.busy bs l part bar)) := HP5
    obtain ⟨Z, hZ⟩ : ∃ Z, No.busy bs l part bar = Z := ⟨_, rfl⟩
    rw [hZ] at HBU HRS HJ HQ5
    clear hb5 hb6 x1 x2 HP4 HP5 HMm hZ
    go_wp2_with fail
    go_loopw [14, 15, 16] (fun s14 s15 s16 wr => ∃ (k N : Nat) (f : Int), k ≤ m ∧ s16 = .int .i64 (k : Int) ∧ s15 = .int .i64 f ∧ Hid ((No.gs (Z.take k)).1 = f) ∧ 0 ≤ f ∧ f ≤ 1000000 ∧ Hid ((No.gs (Z.take k)).2.length = N ∧ N ≤ k) ∧ Hid (wr.ownsRow w5.heap.size 74 2 s14 N (vP (No.gs (Z.take k)).2)) ∧ Below w5.heap.size w5 wr) (fun _ _ s16 _ => m - (intOf s16).toNat)
    case atStart => exact ⟨0, 0, 0, Nat.zero_le _, rfl, rfl, Lib.hid (by rw [List.take_zero]; rfl), by omega, by omega, Lib.hid ⟨by rw [List.take_zero]; rfl, Nat.le_refl _⟩, Lib.hid (by rw [List.take_zero]; exact World.ownsRow_nil _ _ _ _), Below.refl _ _⟩
    case round =>
      obtain ⟨k, N, f, hk, rfl, rfl, HF, hf0, hf1, HNN, HO, hX⟩ := hrel
      by_cases hlt : k < m
      · have hx : k < Z.length := by rw [HJ.out]; exact hlt
        obtain ⟨b2, of2, rfl, hb2, hc2⟩ := HQ5.out (by rw [HJ.out]; omega)
        obtain ⟨y0, y1⟩ := hc2 k hx
        have hbx := HBU.out _ (List.getElem_mem hx)
        have hat : Z[k]?.getD (0, 0) = Z[k] := by rw [List.getElem?_eq_getElem hx]; rfl
        rw [hat] at y0 y1
        have hgs : No.gs (Z.take (k + 1)) = No.gst (No.gs (Z.take k)) Z[k] := by rw [List.take_succ_eq_append_getElem hx, No.gs_snoc]
        obtain ⟨x, hxe⟩ : ∃ x, Z[k] = x := ⟨_, rfl⟩
        rw [hxe] at y0 y1 hbx hgs
        obtain ⟨p1, p2⟩ := x
        obtain ⟨g1, g2, g3, g4⟩ := hbx
        simp only at y0 y1 g1 g2 g3 g4
        have z0 := (hX.cell (p := ⟨b2, of2 + k * 2, none⟩) hb2).trans y0
        have z1 := (hX.cell (p := ⟨b2, of2 + k * 2 + 1, none⟩) hb2).trans y1
        have HG1 : Hid ((No.gs (Z.take (k + 1))).1 = p2) := Lib.hid (by rw [hgs]; rfl)
        have HG2 : Hid ((No.gs (Z.take (k + 1))).2 = if f < p1 then (No.gs (Z.take k)).2 ++ [(f, p1)] else (No.gs (Z.take k)).2) := Lib.hid (by rw [hgs]; unfold No.gst; rw [HF.out])
        have hj1 : (k : Int) < (m : Int) := by omega
        obtain ⟨hn1, hn3⟩ := HNN.out
        clear hx hc2 hat hgs hxe y0 y1 hn1
        by_cases hlt2 : f < p1
        · have hnew := newP wr f p1
          have hob : b2 < wr.heap.size := World.block_lt_of_cell? _ _ z0
          have HOA := Lib.hid (HO.out.alloc (.cells #[.int .i64 f, .int .i64 p1] 74))
          have hXA := hX.alloc hX.size (.cells #[.int .i64 f, .int .i64 p1] 74)
          have zc := (hXA.cell (p := ⟨b2, of2 + k * 2 + 1, none⟩) hb2).trans ((hX.cell (p := ⟨b2, of2 + k * 2 + 1, none⟩) hb2).symm.trans z1)
          go_wp2_with (first | (at_builtin; go_loud (refine wpList_append_own (World.alloc wr (.cells #[.int .i64 f, .int .i64 p1] 74)) rfl _ _ 84 rfl w5.heap.size 74 i0 (.agg #[.int .i64 0, .int .i64 0]) 2 16 Tryd.underlying84 HI0.out.1 HI0.out.2.1 HI0.out.2.2.1 HI0.out.2.2.2 rfl (by decide) _ N (vP (No.gs (Z.take k)).2) rfl HOA.out ⟨wr.heap.size, 0, none⟩ 1 1 (rowP (f, p1)) rfl rfl hnew (fun v hv => vP_cells [(f, p1)] v (by rw [vP_one]; exact hv)) (by unfold maxLen; omega) (by omega) (by have h2 := hX.size; simp; omega) ?_; intro v5 w6 hown5 hgrow5 hnil5; have z5 := (World.cell?_of_block (w := World.alloc wr (.cells #[.int .i64 f, .int .i64 p1] 74)) (w' := w6) (a := ⟨b2, of2 + k * 2 + 1, none⟩) (hgrow5.block _ (by simp; omega) (fun e => by have h := oown_ne HOA.out _ e.symm; simp only at h; omega))).trans zc)) | fail)
          have hX5 := hXA.grown hgrow5 hXA.size (oown_ne HOA.out)
          have HO5 := Lib.hid hown5
          clear hown5 hgrow5 hnil5 hnew z0 z1 zc
          go_roundw
          case rel => exact ⟨k + 1, N + 1, p2, by omega, by simp, rfl, HG1, g3, g4, Lib.hid ⟨by rw [HG2.out, if_pos hlt2, List.length_append, HNN.out.1]; rfl, by omega⟩, Lib.hid (by rw [HG2.out, if_pos hlt2, vP_app, vP_one]; exact HO5.out), hX5⟩
          case measure => simp [intOf]; omega
        · go_wp2_with fail
          go_roundw
          case rel => exact ⟨k + 1, N, p2, by omega, by simp, rfl, HG1, g3, g4, Lib.hid ⟨by rw [HG2.out, if_neg hlt2]; exact HNN.out.1, by omega⟩, Lib.hid (by rw [HG2.out, if_neg hlt2]; exact HO.out), hX⟩
          case measure => simp [intOf]; omega
      · obtain rfl : k = m := by omega
        have HGG : Hid (No.rests bs l part bar = (No.gs Z).2 ++ (if f < E then [(f, E)] else [])) := Lib.hid (by
          have h1 := HF.out
          rw [List.take_of_length_le (by rw [HJ.out]; exact Nat.le_refl _)] at h1
          rw [HRS.out, No.gs_gaps, h1])
        have HO2 := HO.out
        have HN2 := HNN.out
        rw [List.take_of_length_le (by rw [HJ.out]; exact Nat.le_refl _)] at HO2 HN2
        replace HO2 := Lib.hid HO2
        obtain ⟨hn4, hn5⟩ := HN2
        have HN4 := Lib.hid hn4
        clear hn4
        by_cases hlt2 : f < E
        · have hnew := newP wr f E
          have HOA := Lib.hid (HO2.out.alloc (.cells #[.int .i64 f, .int .i64 E] 74))
          have hXA := hX.alloc hX.size (.cells #[.int .i64 f, .int .i64 E] 74)
          go_wp2_with (first | (at_builtin; go_loud (refine wpList_append_own (World.alloc wr (.cells #[.int .i64 f, .int .i64 E] 74)) rfl _ _ 84 rfl w5.heap.size 74 i0 (.agg #[.int .i64 0, .int .i64 0]) 2 16 Tryd.underlying84 HI0.out.1 HI0.out.2.1 HI0.out.2.2.1 HI0.out.2.2.2 rfl (by decide) _ N (vP (No.gs Z).2) rfl HOA.out ⟨wr.heap.size, 0, none⟩ 1 1 (rowP (f, E)) rfl rfl hnew (fun v hv => vP_cells [(f, E)] v (by rw [vP_one]; exact hv)) (by unfold maxLen; omega) (by omega) (by have h2 := hX.size; simp; omega) ?_; intro v5 w6 hown5 hgrow5 hnil5; have hX5 := hXA.grown hgrow5 hXA.size (oown_ne HOA.out); have hown6 := hown5; rw [← vP_one, ← vP_app] at hown6; obtain ⟨hl6, D6, c6, rfl, hP6, -⟩ := own_p hown6; have HP6 := Lib.hid hP6; have HL6 := Lib.hid hl6; clear hown5 hgrow5 hnil5 hnew hown6 hP6 hl6)) | fail)
          refine (rrats_is (No.rests bs l part bar) (N + 1) _ _ (by rw [HGG.out, if_pos hlt2]; exact HL6.out) (by omega) HRB.out _ (by rw [HGG.out, if_pos hlt2]; exact HP6.out)).mono ?_; rintro e w7 ⟨hb8, F, m', c3, rfl, hm', hR⟩
          have HR7 := Lib.hid hR
          have HM7 := Lib.hid hm'
          clear hR hm'
          go_wp2_with fail
          go_ret2
          exact ⟨⟨F, m', c3, 0, rfl, .inr (.inr ⟨H1.out, (by have := H2.out; omega), rfl, HM7.out, HR7.out⟩)⟩, hb7.trans ((hX5.trans (hb8.mono hX5.size)).mono hb7.size)⟩
        · obtain ⟨hl6, D6, c6, rfl, hP6, -⟩ := own_p HO2.out
          have HP6 := Lib.hid hP6
          have HL6 := Lib.hid hl6
          clear hP6 hl6
          go_wp2_with fail
          refine (rrats_is (No.rests bs l part bar) N _ _ (by rw [HGG.out, if_neg (by omega), List.append_nil]; exact HL6.out) (by omega) HRB.out _ (by rw [HGG.out, if_neg (by omega), List.append_nil]; exact HP6.out)).mono ?_; rintro e w7 ⟨hb8, F, m', c3, rfl, hm', hR⟩
          have HR7 := Lib.hid hR
          have HM7 := Lib.hid hm'
          clear hR hm'
          go_wp2_with fail
          go_ret2
          exact ⟨⟨F, m', c3, 0, rfl, .inr (.inr ⟨H1.out, (by have := H2.out; omega), rfl, HM7.out, HR7.out⟩)⟩, hb7.trans ((hX.trans (hb8.mono hX.size)).mono hb7.size)⟩
end Go.Proofs.YthamkigdpgajaaaDoor
