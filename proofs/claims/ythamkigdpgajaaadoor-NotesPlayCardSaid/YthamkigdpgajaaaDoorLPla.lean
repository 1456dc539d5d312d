import Derived.Test.YthamkigdpgajaaaDoorHr
/- NotesPlay, call by call. -/
namespace Go.Proofs.YthamkigdpgajaaaDoor
open Go.RowKit

set_option maxRecDepth 100000 in
set_option maxHeartbeats 1200000 in
theorem notesPlay_walk (Bb : Option Addr) (blen bcap : Nat) (bs : List Mt.B) (hbl : bs.length = blen) (_hwb : Mt.Wf bs) (A : Option Addr) (len cap : Nat) (l : List No.Nt) (hl : l.length = len) (_hc : len ≤ cap) (_hA : A = none → cap = 0) (_hwn : No.Wf l) (part : Int) (wh : Int) (hwh : 0 ≤ wh ∧ wh < 256) (at_ : Int) (hat : 0 ≤ at_ ∧ at_ < 65536) (w : World) (hG : Glob w) (hB : SlB w Bb bs) (hL : SlO w A l) :
    Calls Tryd.prog 6 #[.slice Bb blen bcap, .slice A len cap, .int .i64 part, .int .u8 wh, .int .u16 at_] w fun e w' => e = .returned (.bool true) ∧ Below w.heap.size w w' := by
  have HN := Lib.hid hbl
  have HM := Lib.hid hl
  by_cases hu : Usb bs l
  case neg =>
    have HU := Lib.hid hu
    clear hu hbl hl hwh hat
    go_enter Tryd.func6, Tryd.ntmps6
    go_wp2_with fail
    have B := Below.refl w.heap.size w
    refine (head_any _ hG).mono ?_; rintro e w1 ⟨rfl, hb⟩
    replace hB := hB.below hb
    replace hL := hL.below hb
    replace hG := hG.below hb
    replace B := B.trans (hb.mono (by have := B.size; simp <;> omega))
    clear hb
    go_wp2_with fail
    refine (lusable_is bs l false _ _ _ _ _ _ ⟨(fun h => by cases h), fun h => absurd h HU.out⟩ HN.out HM.out _ hB hL).mono ?_; rintro e w2 ⟨rfl, hb⟩
    replace hB := hB.below hb
    replace hL := hL.below hb
    replace hG := hG.below hb
    replace B := B.trans (hb.mono (by have := B.size; simp <;> omega))
    clear hb
    go_wp2_with fail
    go_ret
    exact ⟨rfl, B⟩
  have HU := Lib.hid hu
  have HV := Lib.hid hu.2
  by_cases hp0 : part < 1
  · clear hu hbl hl hwh hat
    go_enter Tryd.func6, Tryd.ntmps6
    go_wp2_with fail
    have B := Below.refl w.heap.size w
    refine (head_any _ hG).mono ?_; rintro e w1 ⟨rfl, hb⟩
    replace hB := hB.below hb
    replace hL := hL.below hb
    replace hG := hG.below hb
    replace B := B.trans (hb.mono (by have := B.size; simp <;> omega))
    clear hb
    go_wp2_with fail
    refine (lusable_is bs l true _ _ _ _ _ _ ⟨fun _ => HU.out, fun _ => rfl⟩ HN.out HM.out _ hB hL).mono ?_; rintro e w2 ⟨rfl, hb⟩
    replace hB := hB.below hb
    replace hL := hL.below hb
    replace hG := hG.below hb
    replace B := B.trans (hb.mono (by have := B.size; simp <;> omega))
    clear hb
    go_wp2_with fail
    go_ret
    exact ⟨rfl, B⟩
  have hp1 : ¬ part < 1 := by omega
  by_cases hp2 : 1000000 < part
  · clear hu hbl hl hwh hat
    go_enter Tryd.func6, Tryd.ntmps6
    go_wp2_with fail
    have B := Below.refl w.heap.size w
    refine (head_any _ hG).mono ?_; rintro e w1 ⟨rfl, hb⟩
    replace hB := hB.below hb
    replace hL := hL.below hb
    replace hG := hG.below hb
    replace B := B.trans (hb.mono (by have := B.size; simp <;> omega))
    clear hb
    go_wp2_with fail
    refine (lusable_is bs l true _ _ _ _ _ _ ⟨fun _ => HU.out, fun _ => rfl⟩ HN.out HM.out _ hB hL).mono ?_; rintro e w2 ⟨rfl, hb⟩
    replace hB := hB.below hb
    replace hL := hL.below hb
    replace hG := hG.below hb
    replace B := B.trans (hb.mono (by have := B.size; simp <;> omega))
    clear hb
    go_wp2_with fail
    go_ret
    exact ⟨rfl, B⟩
  have h60 := hu.1
  rw [hbl, hl] at h60
  have hb0 : 0 < blen := by have := hu.2.1.1; omega
  obtain ⟨k, hk⟩ : ∃ k, wh.toNat % blen = k := ⟨_, rfl⟩
  have hkl : k < blen := by rw [← hk]; exact Nat.mod_lt _ (by omega)
  have hkv : wh % (blen : Int) = (k : Int) := by rw [← hk, Int.natCast_emod, Int.toNat_of_nonneg hwh.1]
  have hkt : wh.tmod (blen : Int) = (k : Int) := by rw [Int.tmod_eq_emod_of_nonneg hwh.1]; exact hkv
  have hkl' : (k : Int) < (blen : Int) := by omega
  have hb0' : ¬ (blen : Int) = 0 := by omega
  have hkb : k < bs.length := by rw [hbl]; exact hkl
  have hix := No.bix_of hu.2.1 hkb
  have hbi := No.bt_in hu.2.1 hkb
  obtain ⟨bar, hbar⟩ : ∃ bar, (atB bs k).1 = bar := ⟨_, rfl⟩
  rw [hbar] at hix
  have HBX := Lib.hid (show 0 ≤ No.bix bs bar by omega)
  have HPA := Lib.hid (show 1 ≤ part ∧ part ≤ 1000000 by omega)
  obtain ⟨E, hE⟩ : ∃ E, Mt.bt (atB bs k) = E := ⟨_, rfl⟩
  have hE2 : Mt.bt (atB bs (No.bix bs bar).toNat) = E := by rw [hix]; exact hE
  have HF := Lib.hid (No.play hu.2 part HBX.out hE2)
  have HNX := Lib.hid (No.busy_nn hu.2 (part := part) HBX.out)
  have HNY := Lib.hid (No.rests_nn hu.2 (part := part) HBX.out)
  obtain ⟨Xs, hXs⟩ : ∃ Xs, No.busy bs l part bar = Xs := ⟨_, rfl⟩
  obtain ⟨Ys, hYs⟩ : ∃ Ys, No.rests bs l part bar = Ys := ⟨_, rfl⟩
  rw [hXs] at HNX
  rw [hYs] at HNY
  rw [hXs, hYs] at HF
  rw [hE] at hbi
  obtain ⟨he1, he2⟩ := hbi
  obtain ⟨en, hen⟩ : ∃ en, (atB bs k).2.1 = en := ⟨_, rfl⟩
  obtain ⟨ed, hed⟩ : ∃ ed, (atB bs k).2.2.1 = ed := ⟨_, rfl⟩
  obtain ⟨eb, heb⟩ : ∃ eb, (atB bs k).2.2.2 = eb := ⟨_, rfl⟩
  have HE := Lib.hid (show Mt.tk en ed = E by rw [← hen, ← hed]; exact hE)
  obtain ⟨t, ht⟩ : ∃ t, at_.tmod E = t := ⟨_, rfl⟩
  have ht0 : 0 ≤ t ∧ t < E := by
    rw [← ht, Int.tmod_eq_emod_of_nonneg hat.1]
    exact ⟨Int.emod_nonneg _ (by omega), Int.emod_lt_of_pos _ (by omega)⟩
  have hE0 : ¬ E = 0 := by omega
  have HXS := Lib.hid hXs
  have HYS := Lib.hid hYs
  obtain ⟨b, off, rfl, hbB, hcB⟩ := hB (by omega)
  have X := hcB k hkb
  rw [hbar, hen, hed, heb] at X
  clear hu hbl hk hkv hkl hkb hix hbar hE hE2 hXs hYs hen hed heb hcB hl
  go_enter Tryd.func6, Tryd.ntmps6
  go_wp2_with fail
  have B := Below.refl w.heap.size w
  refine (head_any _ hG).mono ?_; rintro e w1 ⟨rfl, hb⟩
  replace hB := hB.below hb
  replace hL := hL.below hb
  replace hG := hG.below hb
  replace B := B.trans (hb.mono (by have := B.size; simp <;> omega))
  clear hb
  go_wp2_with fail
  refine (lusable_is bs l true _ _ _ _ _ _ ⟨fun _ => HU.out, fun _ => rfl⟩ HN.out HM.out _ hB hL).mono ?_; rintro e w2 ⟨rfl, hb⟩
  replace hB := hB.below hb
  replace hL := hL.below hb
  replace hG := hG.below hb
  replace B := B.trans (hb.mono (by have := B.size; simp <;> omega))
  clear hb
  obtain ⟨X0, X1, X2, X3⟩ := X
  have c0 := (B.cell (p := ⟨b, off + k * 4, none⟩) hbB).trans X0
  have c1 := (B.cell (p := ⟨b, off + k * 4 + 1, none⟩) hbB).trans X1
  have c2 := (B.cell (p := ⟨b, off + k * 4 + 2, none⟩) hbB).trans X2
  have c3 := (B.cell (p := ⟨b, off + k * 4 + 3, none⟩) hbB).trans X3
  clear X0 X1 X2 X3
  go_wp2_with fail
  clear c0 c1 c2 c3
  refine (tbusy_is bs l part bar _ _ _ _ _ _ HN.out HM.out (Mt.val_wf HV.out.1) (No.val_wf HV.out) _ (hB.alloc _) (hL.alloc _) (hG.alloc _)).mono ?_; rintro e w3 ⟨hP, hb⟩
  replace hB := (hB.alloc _).below hb
  replace hL := (hL.alloc _).below hb
  have BV := (At4.new _ bar en ed eb _).below hb
  replace hG := (hG.alloc _).below hb
  replace B := (B.alloc (by have := B.size; simp <;> omega) _).trans (hb.mono (by have := B.size; simp <;> omega))
  clear hb
  rw [HXS.out] at hP
  obtain ⟨D3, m3, c3, rfl, hm3, X⟩ := hP.ok HV.out HPA.out HBX.out
  have HM3 := Lib.hid hm3
  clear hP hm3
  have lBV := BV.lt; have cBV0 := BV.c0; have cBV1 := BV.c1; have cBV2 := BV.c2; have cBV3 := BV.c3
  go_wp2_with fail
  refine (trests_is bs l part bar _ _ _ _ _ _ HN.out HM.out (Mt.val_wf HV.out.1) (No.val_wf HV.out) _ hB hL hG).mono ?_; rintro e w4 ⟨hP, hb⟩
  replace hB := hB.below hb
  replace hL := hL.below hb
  replace BV := BV.below hb
  replace X := X.below hb
  replace hG := hG.below hb
  replace B := B.trans (hb.mono (by have := B.size; simp <;> omega))
  clear hb lBV cBV0 cBV1 cBV2 cBV3
  rw [HYS.out] at hP
  obtain ⟨D4, m4, c4, rfl, hm4, Y⟩ := hP.ok HV.out HPA.out HBX.out
  have HM4 := Lib.hid hm4
  clear hP hm4
  have lBV := BV.lt; have cBV0 := BV.c0; have cBV1 := BV.c1; have cBV2 := BV.c2; have cBV3 := BV.c3
  go_wp2_with fail
  refine (kticks_is en ed E HE.out _).mono ?_; rintro e w5 ⟨rfl, hb⟩
  replace hB := hB.below hb
  replace hL := hL.below hb
  replace BV := BV.below hb
  replace X := X.below hb
  replace Y := Y.below hb
  replace hG := hG.below hb
  replace B := B.trans (hb.mono (by have := B.size; simp <;> omega))
  clear hb lBV cBV0 cBV1 cBV2 cBV3
  clear hB
  clear hG
  have lBV := BV.lt; have cBV0 := BV.c0; have cBV1 := BV.c1; have cBV2 := BV.c2; have cBV3 := BV.c3
  go_wp2_with fail
  have q0 : (World.alloc w5 (.cells #[.slice D3 m3 c3, .slice D4 m4 c4] 31)).cell? ⟨w5.heap.size, 0, none⟩ = some (.slice D3 m3 c3) := by go_simp
  have q1 : (World.alloc w5 (.cells #[.slice D3 m3 c3, .slice D4 m4 c4] 31)).cell? ⟨w5.heap.size, 1, none⟩ = some (.slice D4 m4 c4) := by go_simp
  have q2 : w5.heap.size < (World.alloc w5 (.cells #[.slice D3 m3 c3, .slice D4 m4 c4] 31)).heap.size := by simp
  replace hL := hL.alloc (.cells #[.slice D3 m3 c3, .slice D4 m4 c4] 31); replace BV := BV.alloc (.cells #[.slice D3 m3 c3, .slice D4 m4 c4] 31); replace X := X.alloc (.cells #[.slice D3 m3 c3, .slice D4 m4 c4] 31); replace Y := Y.alloc (.cells #[.slice D3 m3 c3, .slice D4 m4 c4] 31)
  replace B := B.alloc B.size (.cells #[.slice D3 m3 c3, .slice D4 m4 c4] 31)
  obtain ⟨wq, hwq⟩ : ∃ wq, World.alloc w5 (.cells #[.slice D3 m3 c3, .slice D4 m4 c4] 31) = wq := ⟨_, rfl⟩
  rw [hwq] at q0 q1 q2 hL BV X Y B
  simp only [hwq]
  clear hwq
  obtain ⟨vq, hvq⟩ : ∃ vq, w5.heap.size = vq := ⟨_, rfl⟩
  rw [hvq] at q0 q1 q2
  simp only [hvq]
  clear hvq
  obtain ⟨vb, hvb⟩ : ∃ vb, w2.heap.size = vb := ⟨_, rfl⟩
  rw [hvb] at BV
  simp only [hvb]
  clear hvb
  have HLX := Lib.hid X; have HLY := Lib.hid Y; have HLL := Lib.hid hL; have HBV := Lib.hid BV; have HB0 := Lib.hid B; have HQ0 := Lib.hid q0; have HQ1 := Lib.hid q1
  clear X Y hL BV B q0 q1
  obtain ⟨PX, hPX⟩ : ∃ PX, No.psum Xs Xs.length = PX := ⟨_, rfl⟩
  have HPX := Lib.hid hPX
  have HSUM := Lib.hid HF.out.2.2.1
  rw [hPX] at HSUM
  clear hPX
  go_loopw [18, 84] (fun s18 s84 wr => ∃ jj S : Int, s84 = .int .i64 jj ∧ s18 = .int .i64 S ∧ ((jj = 0 ∧ S = 0) ∨ (jj = 1 ∧ S = PX) ∨ (jj = 2 ∧ S = E)) ∧ Below wq.heap.size wq wr) (fun _ s84 _ => (2 - intOf s84).toNat)
  case atStart => exact ⟨0, 0, rfl, rfl, .inl ⟨rfl, rfl⟩, Below.refl _ _⟩
  case round =>
    obtain ⟨jj, S, rfl, rfl, hj, hR⟩ := hrel
    rcases hj with ⟨rfl, rfl⟩ | ⟨rfl, rfl⟩ | ⟨rfl, rfl⟩
    · have d0 := (hR.cell (p := ⟨vq, 0, none⟩) q2).trans HQ0.out
      go_wp2_with fail
      clear d0
      go_loopw [18, 21, 90] (fun s18 s21 s90 wi => ∃ (i : Nat) (z la : Int), i ≤ m3 ∧ s90 = .int .i64 (i : Int) ∧ s18 = .int .i64 z ∧ s21 = .int .i64 la ∧ z = 0 + No.psum Xs i ∧ la = No.lastOf Xs i ∧ Below wq.heap.size wq wi) (fun _ _ s90 _ => m3 - (intOf s90).toNat)
      case atStart => exact ⟨0, 0, -1, Nat.zero_le _, rfl, rfl, rfl, (by rw [No.psum_zero]; omega), rfl, hR⟩
      case round =>
        clear hR
        obtain ⟨i, z, la, hi, rfl, rfl, rfl, hz, hla, hR⟩ := hrel
        have HZ := Lib.hid hz; have HLA := Lib.hid hla
        have hzb : 0 ≤ z ∧ z ≤ 40320 := by
          have h1 := No.psum_in HF.out.1.1 i
          have h2 := No.psum_in HF.out.1.1 Xs.length
          have h3 := HSUM.out
          have h4 := HPX.out
          have h5 := No.psum_in HF.out.2.1.1 Ys.length
          omega
        obtain ⟨hz0, hz1⟩ := hzb
        clear hz hla
        by_cases hlt : i < m3
        · have hx : i < Xs.length := by rw [HM3.out]; exact hlt
          obtain ⟨bb, off, rfl, hbb, c0, c1, c2, c3⟩ := SlR.cells (HLX.out) hx
          have t1 := tk_sp (HNX.out.1.at hx).1 (HNX.out.2.1.at hx).1
          have t2 := tk_sp (HNX.out.1.at hx).2 (HNX.out.2.1.at hx).2
          replace c0 := (hR.cell (p := ⟨bb, off + i * 4, none⟩) hbb).trans c0
          replace c1 := (hR.cell (p := ⟨bb, off + i * 4 + 1, none⟩) hbb).trans c1
          replace c2 := (hR.cell (p := ⟨bb, off + i * 4 + 2, none⟩) hbb).trans c2
          replace c3 := (hR.cell (p := ⟨bb, off + i * 4 + 3, none⟩) hbb).trans c3
          have hj1 : (i : Int) < (m3 : Int) := by omega
          have hj2 : (m3 : Int) ≤ 20001 := by have := HNX.out.2.2; rw [HM3.out] at this; omega
          have g1 := No.atS_ok HF.out.1.1 hx
          have g2 := No.last_lt HF.out.1.1 HNX.out.1 hx
          have g3 := (HNX.out.1.at hx).1
          have g4 : (atS Xs i).2 ≤ E := by
            unfold atS
            rw [List.getElem?_eq_getElem hx]
            exact HF.out.1.2 _ (List.getElem_mem hx)
          rw [← HLA.out] at g2
          have HSC := Lib.hid (No.psum_succ hx)
          have HLS := Lib.hid (show No.lastOf Xs (i + 1) = (atS Xs i).2 from rfl)
          obtain ⟨x, hxx⟩ : ∃ x, (atS Xs i).1 = x := ⟨_, rfl⟩
          obtain ⟨y, hyy⟩ : ∃ y, (atS Xs i).2 = y := ⟨_, rfl⟩
          rw [hxx] at t1 c0 c1 g1 g2 g3 HSC
          rw [hyy] at t2 c2 c3 g1 g4 HSC HLS
          obtain ⟨d1, e1⟩ : ∃ d, Mt.oN x.toNat = d := ⟨_, rfl⟩
          obtain ⟨d2, e2⟩ : ∃ d, Mt.oD x.toNat = d := ⟨_, rfl⟩
          obtain ⟨d3, e3⟩ : ∃ d, Mt.oN y.toNat = d := ⟨_, rfl⟩
          obtain ⟨d4, e4⟩ : ∃ d, Mt.oD y.toNat = d := ⟨_, rfl⟩
          rw [e1] at t1 c0; rw [e2] at t1 c1; rw [e3] at t2 c2; rw [e4] at t2 c3
          have T1 := Lib.hid t1
          have T2 := Lib.hid t2
          have k1 : ¬ x ≤ la := by omega
          have k2 : ¬ y ≤ x := by omega
          have k3 : ¬ E < y := by omega
          clear hxx hyy t1 t2 e1 e2 e3 e4 hx
          go_wp2_with fail
          have Z := At4.new wr d1 d2 d3 d4 52
          replace hR := hR.alloc hR.size (.cells #[.int .i64 d1, .int .i64 d2, .int .i64 d3, .int .i64 d4] 52)
          obtain ⟨w8, hw8⟩ : ∃ w8, World.alloc wr (.cells #[.int .i64 d1, .int .i64 d2, .int .i64 d3, .int .i64 d4] 52) = w8 := ⟨_, rfl⟩
          rw [hw8] at Z hR
          simp only [hw8]
          clear hw8 c0 c1 c2 c3
          have z0 := fun y : Ext w8 => y.cell Z.c0
          have z1 := fun y : Ext w8 => y.cell Z.c1
          have z2 := fun y : Ext w8 => y.cell Z.c2
          have z3 := fun y : Ext w8 => y.cell Z.c3
          have hne := Ext.there w8
          refine Ext.region (by kernel_rfl) (by kernel_rfl) ?_
          iterate 3 (go_big_quiet_step ((go_at_call 25; exact Ext.call _ (kticks_is d1 d2 x T1.out _))))
          iterate 3 (go_big_quiet_step ((go_at_call 25; exact Ext.call _ (kticks_is d3 d4 y T2.out _))))
          repeat (go_big_quiet_step (fail))
          refine wpQuiet_nil ?_
          rintro _ ⟨xw, rfl⟩
          replace hR := hR.trans (xw.h.mono hR.size)
          clear z0 z1 z2 z3 hne Z
          generalize xw.w = w9 at *
          clear xw
          go_wp2_with fail
          go_roundw
          case rel =>
            exact ⟨i + 1, z + y - x, y, by omega, by simp, rfl, rfl, by have h1 := HSC.out; have h2 := HZ.out; omega, HLS.out.symm, hR⟩
          case measure => simp [intOf]; omega
        · obtain rfl : i = m3 := by omega
          go_wp2_with fail
          go_roundw
          case rel => exact ⟨1, z, rfl, rfl, .inr (.inl ⟨rfl, by rw [HZ.out, ← HPX.out, HM3.out]; omega⟩), hR⟩
          case measure => simp [intOf]
    · have d0 := (hR.cell (p := ⟨vq, 1, none⟩) q2).trans HQ1.out
      go_wp2_with fail
      clear d0
      go_loopw [18, 21, 90] (fun s18 s21 s90 wi => ∃ (i : Nat) (z la : Int), i ≤ m4 ∧ s90 = .int .i64 (i : Int) ∧ s18 = .int .i64 z ∧ s21 = .int .i64 la ∧ z = S + No.psum Ys i ∧ la = No.lastOf Ys i ∧ Below wq.heap.size wq wi) (fun _ _ s90 _ => m4 - (intOf s90).toNat)
      case atStart => exact ⟨0, S, -1, Nat.zero_le _, rfl, rfl, rfl, (by rw [No.psum_zero]; omega), rfl, hR⟩
      case round =>
        clear hR
        obtain ⟨i, z, la, hi, rfl, rfl, rfl, hz, hla, hR⟩ := hrel
        have HZ := Lib.hid hz; have HLA := Lib.hid hla
        have hzb : 0 ≤ z ∧ z ≤ 40320 := by
          have h1 := No.psum_in HF.out.2.1.1 i
          have h2 := No.psum_in HF.out.1.1 Xs.length
          have h3 := HSUM.out
          have h4 := HPX.out
          have h5 := No.psum_in HF.out.2.1.1 Ys.length
          omega
        obtain ⟨hz0, hz1⟩ := hzb
        clear hz hla
        by_cases hlt : i < m4
        · have hx : i < Ys.length := by rw [HM4.out]; exact hlt
          obtain ⟨bb, off, rfl, hbb, c0, c1, c2, c3⟩ := SlR.cells (HLY.out) hx
          have t1 := tk_sp (HNY.out.1.at hx).1 (HNY.out.2.1.at hx).1
          have t2 := tk_sp (HNY.out.1.at hx).2 (HNY.out.2.1.at hx).2
          replace c0 := (hR.cell (p := ⟨bb, off + i * 4, none⟩) hbb).trans c0
          replace c1 := (hR.cell (p := ⟨bb, off + i * 4 + 1, none⟩) hbb).trans c1
          replace c2 := (hR.cell (p := ⟨bb, off + i * 4 + 2, none⟩) hbb).trans c2
          replace c3 := (hR.cell (p := ⟨bb, off + i * 4 + 3, none⟩) hbb).trans c3
          have hj1 : (i : Int) < (m4 : Int) := by omega
          have hj2 : (m4 : Int) ≤ 20001 := by have := HNY.out.2.2; rw [HM4.out] at this; omega
          have g1 := No.atS_ok HF.out.2.1.1 hx
          have g2 := No.last_lt HF.out.2.1.1 HNY.out.1 hx
          have g3 := (HNY.out.1.at hx).1
          have g4 : (atS Ys i).2 ≤ E := by
            unfold atS
            rw [List.getElem?_eq_getElem hx]
            exact HF.out.2.1.2 _ (List.getElem_mem hx)
          rw [← HLA.out] at g2
          have HSC := Lib.hid (No.psum_succ hx)
          have HLS := Lib.hid (show No.lastOf Ys (i + 1) = (atS Ys i).2 from rfl)
          obtain ⟨x, hxx⟩ : ∃ x, (atS Ys i).1 = x := ⟨_, rfl⟩
          obtain ⟨y, hyy⟩ : ∃ y, (atS Ys i).2 = y := ⟨_, rfl⟩
          rw [hxx] at t1 c0 c1 g1 g2 g3 HSC
          rw [hyy] at t2 c2 c3 g1 g4 HSC HLS
          obtain ⟨d1, e1⟩ : ∃ d, Mt.oN x.toNat = d := ⟨_, rfl⟩
          obtain ⟨d2, e2⟩ : ∃ d, Mt.oD x.toNat = d := ⟨_, rfl⟩
          obtain ⟨d3, e3⟩ : ∃ d, Mt.oN y.toNat = d := ⟨_, rfl⟩
          obtain ⟨d4, e4⟩ : ∃ d, Mt.oD y.toNat = d := ⟨_, rfl⟩
          rw [e1] at t1 c0; rw [e2] at t1 c1; rw [e3] at t2 c2; rw [e4] at t2 c3
          have T1 := Lib.hid t1
          have T2 := Lib.hid t2
          have k1 : ¬ x ≤ la := by omega
          have k2 : ¬ y ≤ x := by omega
          have k3 : ¬ E < y := by omega
          clear hxx hyy t1 t2 e1 e2 e3 e4 hx
          go_wp2_with fail
          have Z := At4.new wr d1 d2 d3 d4 52
          replace hR := hR.alloc hR.size (.cells #[.int .i64 d1, .int .i64 d2, .int .i64 d3, .int .i64 d4] 52)
          obtain ⟨w8, hw8⟩ : ∃ w8, World.alloc wr (.cells #[.int .i64 d1, .int .i64 d2, .int .i64 d3, .int .i64 d4] 52) = w8 := ⟨_, rfl⟩
          rw [hw8] at Z hR
          simp only [hw8]
          clear hw8 c0 c1 c2 c3
          have z0 := fun y : Ext w8 => y.cell Z.c0
          have z1 := fun y : Ext w8 => y.cell Z.c1
          have z2 := fun y : Ext w8 => y.cell Z.c2
          have z3 := fun y : Ext w8 => y.cell Z.c3
          have hne := Ext.there w8
          refine Ext.region (by kernel_rfl) (by kernel_rfl) ?_
          iterate 3 (go_big_quiet_step ((go_at_call 25; exact Ext.call _ (kticks_is d1 d2 x T1.out _))))
          iterate 3 (go_big_quiet_step ((go_at_call 25; exact Ext.call _ (kticks_is d3 d4 y T2.out _))))
          repeat (go_big_quiet_step (fail))
          refine wpQuiet_nil ?_
          rintro _ ⟨xw, rfl⟩
          replace hR := hR.trans (xw.h.mono hR.size)
          clear z0 z1 z2 z3 hne Z
          generalize xw.w = w9 at *
          clear xw
          go_wp2_with fail
          go_roundw
          case rel =>
            exact ⟨i + 1, z + y - x, y, by omega, by simp, rfl, rfl, by have h1 := HSC.out; have h2 := HZ.out; omega, HLS.out.symm, hR⟩
          case measure => simp [intOf]; omega
        · obtain rfl : i = m4 := by omega
          go_wp2_with fail
          go_roundw
          case rel => exact ⟨2, z, rfl, rfl, .inr (.inr ⟨rfl, by have h1 := HSUM.out; rw [HZ.out]; rw [HM4.out] at h1; omega⟩), hR⟩
          case measure => simp [intOf]
    · go_wp2_with fail
      go_loopw [27, 127] (fun s27 s127 wi => ∃ (i : Nat) (Bv : Bool), i ≤ len ∧ s127 = .int .i64 (i : Int) ∧ s27 = .bool Bv ∧ Hid (Bv = true ↔ ∃ q, q < i ∧ No.sndP part bar t (atO l q)) ∧ Below wq.heap.size wq wi) (fun _ s127 _ => len - (intOf s127).toNat)
      case atStart => exact ⟨0, false, Nat.zero_le _, rfl, rfl, Lib.hid ⟨(fun h => by cases h), fun ⟨q, h, _⟩ => absurd h (Nat.not_lt_zero q)⟩, hR⟩
      case round =>
        clear hR
        obtain ⟨i, Bv, hi, rfl, rfl, HI, hR⟩ := hrel
        by_cases hlt : i < len
        · have hx : i < l.length := by rw [HM.out]; exact hlt
          obtain ⟨bb, off, rfl, hbb, hc⟩ := HLL.out (by rw [HM.out]; omega)
          obtain ⟨n, hn⟩ : ∃ n, atO l i = n := ⟨_, rfl⟩
          have X := (hc i hx).below hR hbb
          rw [hn] at X
          have hok := HV.out.2.2.1 n (by rw [← hn]; exact atO_mem hx)
          obtain ⟨S, hS⟩ : ∃ S, No.start n = S := ⟨_, rfl⟩
          obtain ⟨Q, hQ⟩ : ∃ Q, No.leng n = Q := ⟨_, rfl⟩
          have hq0 : 0 ≤ S ∧ 0 < Q ∧ S + Q ≤ 40320 := by
            obtain ⟨g0, _, _, _, _, _, _, _, _, _, g1, g2, g3⟩ := hok
            have g4 := No.bix_lt bs n.ba
            have g5 := (No.bt_in HV.out.1 (r := (No.bix bs n.ba).toNat) (by omega)).2
            rw [hS] at g1 g3
            rw [hQ] at g2 g3
            omega
          obtain ⟨hq1, hq2, hq3⟩ := hq0
          have HS := Lib.hid (show Mt.tk n.sn n.sd = S from hS)
          have HQ := Lib.hid (show Mt.tk n.ln n.ld = Q from hQ)
          have HAT := Lib.hid hn
          have hj1 : (i : Int) < (len : Int) := by omega
          have hj2 : (len : Int) ≤ 60 := by omega
          obtain ⟨c0, c1, c2, c3, c4, c5, c6, c7, c8, c9, c10, c11⟩ := X
          rw [Nat.add_zero] at c0
          have BV := HBV.out.below hR
          clear hn hok hS hQ hx hc
          go_wp2_with fail
          have NV := NtB.new wr n
          replace BV := BV.alloc (.cells #[.int .i64 n.id, .int .i64 n.pa, .int .i64 n.ba, .int .i64 n.vo, .int .i64 n.os, .int .i64 n.sn, .int .i64 n.sd, .int .i64 n.ln, .int .i64 n.ld, .int .i64 n.st, .int .i64 n.al, .int .i64 n.oc] 42)
          replace hR := hR.alloc hR.size (.cells #[.int .i64 n.id, .int .i64 n.pa, .int .i64 n.ba, .int .i64 n.vo, .int .i64 n.os, .int .i64 n.sn, .int .i64 n.sd, .int .i64 n.ln, .int .i64 n.ld, .int .i64 n.st, .int .i64 n.al, .int .i64 n.oc] 42)
          clear c0 c1 c2 c3 c4 c5 c6 c7 c8 c9 c10 c11
          refine (kticks_is n.sn n.sd S HS.out _).mono ?_; rintro e z1 ⟨rfl, hb⟩
          replace NV := NV.below hb; replace BV := BV.below hb; replace hR := hR.trans (hb.mono hR.size)
          clear hb
          have n0 := NV.c0; have n1 := NV.c1; have n2 := NV.c2; have n3 := NV.c3; have n4 := NV.c4; have n5 := NV.c5; have n6 := NV.c6; have n7 := NV.c7; have n8 := NV.c8; have n9 := NV.c9; have n10 := NV.c10; have n11 := NV.c11
          have v0 := BV.c0; have v1 := BV.c1; have v2 := BV.c2; have v3 := BV.c3
          cases Bv with
          | true =>
            go_wp2_with fail
            go_roundw
            case rel => exact ⟨i + 1, true, by omega, by simp, (by first | rfl | (simp; omega)), Lib.hid ⟨fun _ => No.snd_succ.2 (.inl (HI.out.1 (by first | rfl | trivial))), fun _ => rfl⟩, hR⟩
            case measure => simp [intOf]; omega
          | false =>
            by_cases h1 : n.pa = part
            · by_cases h2 : n.ba = bar
              · by_cases h3 : S ≤ t
                · go_wp2_with fail
                  refine (kticks_is n.ln n.ld Q HQ.out _).mono ?_; rintro e z2 ⟨rfl, hb⟩
                  replace hR := hR.trans (hb.mono hR.size)
                  clear hb
                  by_cases h4 : t < S + Q
                  · have HT : Hid (No.sndP part bar t (atO l i)) := Lib.hid (by rw [HAT.out]; exact ⟨h1, h2, by rw [show No.start n = S from HS.out]; exact h3, by rw [show No.start n = S from HS.out, show No.leng n = Q from HQ.out]; exact h4⟩)
                    go_wp2_with fail
                    go_roundw
                    case rel => exact ⟨i + 1, true, by omega, by simp, (by first | rfl | (simp; omega)), Lib.hid ⟨fun _ => No.snd_succ.2 (.inr HT.out), fun _ => rfl⟩, hR⟩
                    case measure => simp [intOf]; omega
                  · have HT : Hid (¬ No.sndP part bar t n) := Lib.hid (fun h => h4 (by have := h.2.2.2; rw [show No.start n = S from HS.out, show No.leng n = Q from HQ.out] at this; exact this))
                    go_wp2_with fail
                    go_roundw
                    case rel => exact ⟨i + 1, false, by omega, by simp, (by first | rfl | (simp; omega)), Lib.hid ⟨(fun h => by cases h), fun h => (No.snd_succ.1 h).elim (fun h => HI.out.2 h) (fun h => by rw [HAT.out] at h; exact absurd h HT.out)⟩, hR⟩
                    case measure => simp [intOf]; omega
                · have HT : Hid (¬ No.sndP part bar t n) := Lib.hid (fun h => h3 (by have := h.2.2.1; rw [show No.start n = S from HS.out] at this; exact this))
                  go_wp2_with fail
                  go_roundw
                  case rel => exact ⟨i + 1, false, by omega, by simp, (by first | rfl | (simp; omega)), Lib.hid ⟨(fun h => by cases h), fun h => (No.snd_succ.1 h).elim (fun h => HI.out.2 h) (fun h => by rw [HAT.out] at h; exact absurd h HT.out)⟩, hR⟩
                  case measure => simp [intOf]; omega
              · have HT : Hid (¬ No.sndP part bar t n) := Lib.hid (fun h => h2 h.2.1)
                go_wp2_with fail
                go_roundw
                case rel => exact ⟨i + 1, false, by omega, by simp, (by first | rfl | (simp; omega)), Lib.hid ⟨(fun h => by cases h), fun h => (No.snd_succ.1 h).elim (fun h => HI.out.2 h) (fun h => by rw [HAT.out] at h; exact absurd h HT.out)⟩, hR⟩
                case measure => simp [intOf]; omega
            · have HT : Hid (¬ No.sndP part bar t n) := Lib.hid (fun h => h1 h.1)
              go_wp2_with fail
              go_roundw
              case rel => exact ⟨i + 1, false, by omega, by simp, (by first | rfl | (simp; omega)), Lib.hid ⟨(fun h => by cases h), fun h => (No.snd_succ.1 h).elim (fun h => HI.out.2 h) (fun h => by rw [HAT.out] at h; exact absurd h HT.out)⟩, hR⟩
              case measure => simp [intOf]; omega
        · obtain rfl : i = len := by omega
          have HSD : Hid (Bv = true ↔ No.sounds l part bar t) := Lib.hid (by rw [HI.out, ← HM.out]; exact No.snd_all)
          cases Bv with
          | true =>
            have HT := Lib.hid (HSD.out.1 rfl)
            clear HI HSD
            go_wp2_with fail
            refine (lcovers_is Xs t true ⟨fun _ => (HF.out.2.2.2.1 t).2 HT.out, fun _ => rfl⟩ _ _ _ HM3.out (by have := HNX.out.2.2; rw [HM3.out] at this; omega) HNX.out.1 HNX.out.2.1 _ (HLX.out.below hR)).mono ?_; rintro e z1 ⟨rfl, hb⟩
            replace hR := hR.trans (hb.mono hR.size)
            clear hb
            go_wp2_with fail
            refine (lcovers_is Ys t false ⟨(fun h => by cases h), fun h => absurd HT.out ((HF.out.2.2.2.2 t ht0.1 ht0.2).1 h)⟩ _ _ _ HM4.out (by have := HNY.out.2.2; rw [HM4.out] at this; omega) HNY.out.1 HNY.out.2.1 _ (HLY.out.below hR)).mono ?_; rintro e z2 ⟨rfl, hb⟩
            replace hR := hR.trans (hb.mono hR.size)
            clear hb
            go_wp2_with fail
            go_ret
            exact ⟨rfl, HB0.out.trans (hR.mono HB0.out.size)⟩
          | false =>
            have HT : Hid (¬ No.sounds l part bar t) := Lib.hid (fun h => by have := HSD.out.2 h; cases this)
            clear HI HSD
            go_wp2_with fail
            refine (lcovers_is Xs t false ⟨(fun h => by cases h), fun h => absurd ((HF.out.2.2.2.1 t).1 h) HT.out⟩ _ _ _ HM3.out (by have := HNX.out.2.2; rw [HM3.out] at this; omega) HNX.out.1 HNX.out.2.1 _ (HLX.out.below hR)).mono ?_; rintro e z1 ⟨rfl, hb⟩
            replace hR := hR.trans (hb.mono hR.size)
            clear hb
            go_wp2_with fail
            refine (lcovers_is Ys t true ⟨fun _ => (HF.out.2.2.2.2 t ht0.1 ht0.2).2 HT.out, fun _ => rfl⟩ _ _ _ HM4.out (by have := HNY.out.2.2; rw [HM4.out] at this; omega) HNY.out.1 HNY.out.2.1 _ (HLY.out.below hR)).mono ?_; rintro e z2 ⟨rfl, hb⟩
            replace hR := hR.trans (hb.mono hR.size)
            clear hb
            go_wp2_with fail
            go_ret
            exact ⟨rfl, HB0.out.trans (hR.mono HB0.out.size)⟩

end Go.Proofs.YthamkigdpgajaaaDoor
