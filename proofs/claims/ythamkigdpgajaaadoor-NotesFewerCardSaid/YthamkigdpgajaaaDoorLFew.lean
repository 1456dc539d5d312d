import Derived.Test.YthamkigdpgajaaaDoorHm
/- NotesFewer, call by call. -/
namespace Go.Proofs.YthamkigdpgajaaaDoor
open Go.RowKit

set_option maxRecDepth 100000 in
set_option maxHeartbeats 3200000 in
theorem notesFewer_walk (Bb : Option Addr) (blen bcap : Nat) (bs : List Mt.B) (hbl : bs.length = blen) (_hwb : Mt.Wf bs) (A : Option Addr) (len cap : Nat) (l : List No.Nt) (hl : l.length = len) (hc : len ≤ cap) (hA : A = none → cap = 0) (_hwn : No.Wf l) (wh : Int) (hwh : 0 ≤ wh ∧ wh < 256) (at_ : Int) (hat : 0 ≤ at_ ∧ at_ < 65536) (w : World) (hG : Glob w) (hB : SlB w Bb bs) (hL : SlO w A l) :
    Calls Tryd.prog 7 #[.slice Bb blen bcap, .slice A len cap, .int .u8 wh, .int .u16 at_] w fun e w' => e = .returned (.bool true) ∧ Below w.heap.size w w' := by
  have HN := Lib.hid hbl
  have HM := Lib.hid hl
  by_cases hu : Usb bs l
  case neg =>
    have HU := Lib.hid hu
    clear hu hbl hl hwh hat
    go_enter Tryd.func7, Tryd.ntmps7
    go_wp2_with fail
    have B := Below.refl w.heap.size w
    refine (head_any _ hG).mono ?_; rintro e w1 ⟨rfl, hb⟩
    replace hB := hB.below hb
    replace hL := hL.below hb
    replace hG := hG.below hb
    replace B := B.trans (hb.mono (by have := B.size; simp <;> omega))
    clear hb
    go_wp2_with fail
    refine (lusable_is bs l false _ _ _ _ _ _ ⟨(fun h => by cases h), fun h => absurd h HU.out⟩ HN.out HM.out _ hB hL).mono ?_; rintro e w2 ⟨rfl, hb⟩
    replace hB := hB.below hb
    replace hL := hL.below hb
    replace hG := hG.below hb
    replace B := B.trans (hb.mono (by have := B.size; simp <;> omega))
    clear hb
    go_wp2_with fail
    go_ret
    exact ⟨rfl, B⟩
  have HU := Lib.hid hu
  have HV := Lib.hid hu.2
  have h60 := hu.1
  rw [hbl, hl] at h60
  by_cases hl0 : len = 0
  · subst hl0
    clear hu hbl hl hwh hat
    go_enter Tryd.func7, Tryd.ntmps7
    go_wp2_with fail
    have B := Below.refl w.heap.size w
    refine (head_any _ hG).mono ?_; rintro e w1 ⟨rfl, hb⟩
    replace hB := hB.below hb
    replace hL := hL.below hb
    replace hG := hG.below hb
    replace B := B.trans (hb.mono (by have := B.size; simp <;> omega))
    clear hb
    go_wp2_with fail
    refine (lusable_is bs l true _ _ _ _ _ _ ⟨fun _ => HU.out, fun _ => rfl⟩ HN.out HM.out _ hB hL).mono ?_; rintro e w2 ⟨rfl, hb⟩
    replace hB := hB.below hb
    replace hL := hL.below hb
    replace hG := hG.below hb
    replace B := B.trans (hb.mono (by have := B.size; simp <;> omega))
    clear hb
    go_wp2_with fail
    go_ret
    exact ⟨rfl, B⟩
  have hl0' : ¬ (len : Int) = 0 := by omega
  obtain ⟨k, hk⟩ : ∃ k, wh.toNat % len = k := ⟨_, rfl⟩
  have hkl : k < len := by rw [← hk]; exact Nat.mod_lt _ (by omega)
  have hkv : wh % (len : Int) = (k : Int) := by rw [← hk, Int.natCast_emod, Int.toNat_of_nonneg hwh.1]
  have hkt : wh.tmod (len : Int) = (k : Int) := by rw [Int.tmod_eq_emod_of_nonneg hwh.1]; exact hkv
  have hkl' : (k : Int) < (len : Int) := by omega
  obtain ⟨n, hn⟩ : ∃ n, atO l k = n := ⟨_, rfl⟩
  have HK := Lib.hid hkl
  have HNN := Lib.hid hn
  have HF := Lib.hid (No.fewer hu.2 (by rw [hl]; exact hkl) hn)
  have hkn := hu.2.2.2.1 n (by rw [← hn]; exact atO_mem (by rw [hl]; exact hkl))
  have HPA := Lib.hid (show 1 ≤ n.pa ∧ n.pa ≤ 1000000 from ⟨hkn.2.2.2.2.1, hkn.2.2.2.2.2.1⟩)
  have HBA := Lib.hid hkn.1
  have HVL := Lib.hid (No.val_sub hu.2 (No.less_sub l k))
  obtain ⟨Xs, hXs⟩ : ∃ Xs, No.busy bs l n.pa n.ba = Xs := ⟨_, rfl⟩
  obtain ⟨Ys, hYs⟩ : ∃ Ys, No.busy bs (No.less l k) n.pa n.ba = Ys := ⟨_, rfl⟩
  have HNX := Lib.hid (No.busy_nn hu.2 (part := n.pa) hkn.1)
  have HNY := Lib.hid (No.busy_nn (No.val_sub hu.2 (No.less_sub l k)) (part := n.pa) hkn.1)
  rw [hXs] at HNX
  rw [hYs] at HNY
  rw [hXs, hYs] at HF
  obtain ⟨S, hS⟩ : ∃ S, No.start n = S := ⟨_, rfl⟩
  obtain ⟨Q, hQ⟩ : ∃ Q, No.leng n = Q := ⟨_, rfl⟩
  have HS := Lib.hid (show Mt.tk n.sn n.sd = S from hS)
  have HQ := Lib.hid (show Mt.tk n.ln n.ld = Q from hQ)
  rw [hS, hQ] at HF
  have hq0 : 0 ≤ S ∧ 0 < Q ∧ S + Q ≤ 40320 := by
    obtain ⟨_, _, _, _, _, _, _, _, _, _, g1, g2, g3⟩ := hkn
    have g4 := No.bix_lt bs n.ba
    have g5 := (No.bt_in hu.2.1 (r := (No.bix bs n.ba).toNat) (by have := HBA.out; omega)).2
    rw [hS] at g1 g3
    rw [hQ] at g2 g3
    omega
  obtain ⟨hq1, hq2, hq3⟩ := hq0
  obtain ⟨t, ht⟩ : ∃ t, at_.tmod 40320 = t := ⟨_, rfl⟩
  have HXS := Lib.hid hXs
  have HYS := Lib.hid hYs
  clear hu hbl hk hkv hkl hkn hXs hYs hS hQ
  obtain ⟨b, off, rfl, hbA, hcA⟩ := hL (by omega)
  have X := hcA k (by omega)
  rw [hn] at X
  clear hn hcA hl
  go_enter Tryd.func7, Tryd.ntmps7
  go_wp2_with fail
  have B := Below.refl w.heap.size w
  refine (head_any _ hG).mono ?_; rintro e w1 ⟨rfl, hb⟩
  replace hB := hB.below hb
  replace hL := hL.below hb
  replace hG := hG.below hb
  replace B := B.trans (hb.mono (by have := B.size; simp <;> omega))
  clear hb
  go_wp2_with fail
  refine (lusable_is bs l true _ _ _ _ _ _ ⟨fun _ => HU.out, fun _ => rfl⟩ HN.out HM.out _ hB hL).mono ?_; rintro e w2 ⟨rfl, hb⟩
  replace hB := hB.below hb
  replace hL := hL.below hb
  replace hG := hG.below hb
  replace B := B.trans (hb.mono (by have := B.size; simp <;> omega))
  clear hb
  have Y := X.below B hbA
  obtain ⟨c0, c1, c2, c3, c4, c5, c6, c7, c8, c9, c10, c11⟩ := And.intro Y.c0 (And.intro Y.c1 (And.intro Y.c2 (And.intro Y.c3 (And.intro Y.c4 (And.intro Y.c5 (And.intro Y.c6 (And.intro Y.c7 (And.intro Y.c8 (And.intro Y.c9 (And.intro Y.c10 Y.c11))))))))))
  rw [Nat.add_zero] at c0
  clear X Y
  go_wp2_with fail
  clear c0 c1 c2 c3 c4 c5 c6 c7 c8 c9 c10 c11
  have NV := NtB.new w2 n
  replace hB := hB.alloc (.cells #[.int .i64 n.id, .int .i64 n.pa, .int .i64 n.ba, .int .i64 n.vo, .int .i64 n.os, .int .i64 n.sn, .int .i64 n.sd, .int .i64 n.ln, .int .i64 n.ld, .int .i64 n.st, .int .i64 n.al, .int .i64 n.oc] 42); replace hL := hL.alloc (.cells #[.int .i64 n.id, .int .i64 n.pa, .int .i64 n.ba, .int .i64 n.vo, .int .i64 n.os, .int .i64 n.sn, .int .i64 n.sd, .int .i64 n.ln, .int .i64 n.ld, .int .i64 n.st, .int .i64 n.al, .int .i64 n.oc] 42); replace hG := hG.alloc (.cells #[.int .i64 n.id, .int .i64 n.pa, .int .i64 n.ba, .int .i64 n.vo, .int .i64 n.os, .int .i64 n.sn, .int .i64 n.sd, .int .i64 n.ln, .int .i64 n.ld, .int .i64 n.st, .int .i64 n.al, .int .i64 n.oc] 42); replace B := B.alloc B.size (.cells #[.int .i64 n.id, .int .i64 n.pa, .int .i64 n.ba, .int .i64 n.vo, .int .i64 n.os, .int .i64 n.sn, .int .i64 n.sd, .int .i64 n.ln, .int .i64 n.ld, .int .i64 n.st, .int .i64 n.al, .int .i64 n.oc] 42)
  obtain ⟨v0, hv0⟩ : ∃ v0, w2.heap.size = v0 := ⟨_, rfl⟩
  rw [hv0] at NV
  simp only [hv0]
  obtain ⟨w3, e3⟩ : ∃ w3, w2.alloc (.cells #[.int .i64 n.id, .int .i64 n.pa, .int .i64 n.ba, .int .i64 n.vo, .int .i64 n.os, .int .i64 n.sn, .int .i64 n.sd, .int .i64 n.ln, .int .i64 n.ld, .int .i64 n.st, .int .i64 n.al, .int .i64 n.oc] 42) = w3 := ⟨_, rfl⟩
  rw [e3] at NV hB hL hG B
  simp only [e3]
  clear e3 hv0
  have HL := Lib.hid hL
  obtain ⟨i0, hi, hz0, hz1, hz2⟩ := info_parts infoNote
  obtain ⟨D2, hD2⟩ : ∃ D2 : Nat, (if k + 1 = cap then off else off + (k + 1) * 12) = D2 := ⟨_, rfl⟩
  have hne : Nonempty (PvW (fwC w3 l k)) := PvW.there (w := w3.drew) ⟨(Below.refl _ _).drew, trivial⟩
  refine region_pv (V := fun _ _ => undef) (cs := [0, 4, 9]) (Cv := fwC w3 l k) 10 (by kernel_rfl) (by kernel_rfl) (by kernel_rfl) ⟨(Below.refl _ _).drew, trivial⟩ ?_
  simp only [List.take_succ_cons, List.take_zero, List.drop_succ_cons, List.drop_zero]
  refine pv_made rfl rfl (fun w' hw' => ⟨.slice (some ⟨w'.heap.size, 0, none⟩) 0 0, w'.alloc (.cells #[] 42), ?_, hw'.1.alloc hw'.1.size _, own_empty w' _ hw'.1.size⟩) ?_
  · go_simp
  rintro u1 -
  simp only [Act.put, List.setIfInBounds_toArray, List.set_cons_succ, List.set_cons_zero]
  iterate 3 (refine pv_quiet (by decide) rfl rfl ?_; intro K' hK'; go_big_quiet_op; go_big_quiet_on)
  refine pv_made rfl rfl (fun w' hw' => ?_) ?_
  · obtain ⟨hb', hown⟩ := hw'
    have hkl := HK.out
    refine exec_slo2 (.tmp 42) (.tmp 45) 23 rfl w3.heap.size 42 i0 _ 96 Tryd.underlying23 hi hz0 hz1 hz2 rfl u1 0 [] rfl hown (some ⟨b, off, none⟩) k cap (l.take k) rfl (fun h => by cases h) (by rw [List.length_take, HM.out]; omega) ((HL.out.below hb').take k) (by unfold maxLen; omega) (by omega) hb'.size (fun v' w'' h2 h3 => ?_)
    refine ⟨hb'.grown h3 hb'.size (oown_ne hown), ?_⟩
    rw [Nat.zero_add, List.nil_append] at h2
    exact h2
  rintro u2 -
  simp only [Act.put, List.setIfInBounds_toArray, List.set_cons_succ, List.set_cons_zero]
  iterate 3 (refine pv_quiet (by decide) rfl rfl ?_; intro K' hK'; go_big_quiet_op; go_big_quiet_on)
  refine pv_value (by decide) (.slice (some ⟨b, D2, none⟩) (len - (k + 1)) (cap - (k + 1))) rfl (fun vs' w' _ => ?_) ?_
  · have hkl := HK.out
    rw [← hD2]
    by_cases hkc : k + 1 = cap
    · rw [if_pos hkc]
      have e1 : len = cap := by omega
      subst e1
      subst hkc
      go_simp
      intro h
      omega
    · rw [if_neg hkc]
      have e2 : (k : Int) + 1 < (cap : Int) := by omega
      have e3 : (k : Int) + 1 ≤ (len : Int) := by omega
      go_simp
      rw [if_pos (by omega), if_neg (by omega)]
  simp only [Act.put, List.setIfInBounds_toArray, List.set_cons_succ, List.set_cons_zero]
  refine pv_made rfl rfl (fun w' hw' => ?_) ?_
  · obtain ⟨hb', hown⟩ := hw'
    have hkl := HK.out
    refine exec_slo2 (.tmp 46) (.tmp 50) 23 rfl w3.heap.size 42 i0 _ 96 Tryd.underlying23 hi hz0 hz1 hz2 rfl u2 k (vO (l.take k)) rfl hown (some ⟨b, D2, none⟩) (len - (k + 1)) (cap - (k + 1)) (l.drop (k + 1)) rfl (fun h => by cases h) (by rw [List.length_drop, HM.out]) ?_ (by unfold maxLen; omega) (by omega) hb'.size (fun v' w'' h2 h3 => ?_)
    · by_cases hkc : k + 1 = cap
      · rw [List.drop_eq_nil_of_le (by rw [HM.out]; omega)]
        exact SlO.nil _ _
      · rw [if_neg hkc] at hD2
        rw [← hD2]
        exact (HL.out.below hb').drop (k + 1)
    · refine ⟨hb'.grown h3 hb'.size (oown_ne hown), ?_⟩
      rw [← vO_app, ← HM.out] at h2
      exact h2
  rintro u3 -
  simp only [Act.put, List.setIfInBounds_toArray, List.set_cons_succ, List.set_cons_zero]
  rintro w4 ⟨hb, hown⟩
  obtain ⟨hln, A2, c2, rfl, L2, hA2⟩ := own_o hown
  rw [HM.out]
  clear hown hne hA2 hD2 hi hz0 hz1 hz2 HL
  replace hB := hB.below hb; replace hL := hL.below hb; replace hG := hG.below hb; replace NV := NV.below hb
  replace B := B.trans (hb.mono B.size)
  clear hb
  have HLN : Hid ((No.less l k).length = k + (len - (k + 1))) := Lib.hid (by rw [hln, HM.out])
  clear hln
  have lNV := NV.lt; have cNV0 := NV.c0; have cNV1 := NV.c1; have cNV2 := NV.c2; have cNV3 := NV.c3; have cNV4 := NV.c4; have cNV5 := NV.c5; have cNV6 := NV.c6; have cNV7 := NV.c7; have cNV8 := NV.c8; have cNV9 := NV.c9; have cNV10 := NV.c10; have cNV11 := NV.c11
  go_wp2_with fail
  refine (tbusy_is bs l n.pa n.ba _ _ _ _ _ _ HN.out HM.out (Mt.val_wf HV.out.1) (No.val_wf HV.out) _ hB hL hG).mono ?_; rintro e w5 ⟨hP, hb⟩
  replace hB := hB.below hb
  replace hL := hL.below hb
  replace NV := NV.below hb
  replace L2 := L2.below hb
  replace hG := hG.below hb
  replace B := B.trans (hb.mono (by have := B.size; simp <;> omega))
  clear hb lNV cNV0 cNV1 cNV2 cNV3 cNV4 cNV5 cNV6 cNV7 cNV8 cNV9 cNV10 cNV11
  rw [HXS.out] at hP
  obtain ⟨D3, m3, c3, rfl, hm3, X⟩ := hP.ok HV.out HPA.out HBA.out
  have HM3 := Lib.hid hm3
  clear hP hm3
  have lNV := NV.lt; have cNV0 := NV.c0; have cNV1 := NV.c1; have cNV2 := NV.c2; have cNV3 := NV.c3; have cNV4 := NV.c4; have cNV5 := NV.c5; have cNV6 := NV.c6; have cNV7 := NV.c7; have cNV8 := NV.c8; have cNV9 := NV.c9; have cNV10 := NV.c10; have cNV11 := NV.c11
  go_wp2_with fail
  refine (tbusy_is bs (No.less l k) n.pa n.ba _ _ _ _ _ _ HN.out HLN.out (Mt.val_wf HV.out.1) (No.val_wf HVL.out) _ hB L2 hG).mono ?_; rintro e w6 ⟨hP, hb⟩
  replace hB := hB.below hb
  replace hL := hL.below hb
  replace NV := NV.below hb
  replace L2 := L2.below hb
  replace X := X.below hb
  replace hG := hG.below hb
  replace B := B.trans (hb.mono (by have := B.size; simp <;> omega))
  clear hb lNV cNV0 cNV1 cNV2 cNV3 cNV4 cNV5 cNV6 cNV7 cNV8 cNV9 cNV10 cNV11
  rw [HYS.out] at hP
  obtain ⟨D4, m4, c4, rfl, hm4, Y⟩ := hP.ok HVL.out HPA.out HBA.out
  have HM4 := Lib.hid hm4
  clear hP hm4
  have lNV := NV.lt; have cNV0 := NV.c0; have cNV1 := NV.c1; have cNV2 := NV.c2; have cNV3 := NV.c3; have cNV4 := NV.c4; have cNV5 := NV.c5; have cNV6 := NV.c6; have cNV7 := NV.c7; have cNV8 := NV.c8; have cNV9 := NV.c9; have cNV10 := NV.c10; have cNV11 := NV.c11
  go_wp2_with fail
  refine (kticks_is n.sn n.sd S HS.out _).mono ?_; rintro e w7 ⟨rfl, hb⟩
  replace hB := hB.below hb
  replace hL := hL.below hb
  replace NV := NV.below hb
  replace L2 := L2.below hb
  replace X := X.below hb
  replace Y := Y.below hb
  replace hG := hG.below hb
  replace B := B.trans (hb.mono (by have := B.size; simp <;> omega))
  clear hb lNV cNV0 cNV1 cNV2 cNV3 cNV4 cNV5 cNV6 cNV7 cNV8 cNV9 cNV10 cNV11
  have lNV := NV.lt; have cNV0 := NV.c0; have cNV1 := NV.c1; have cNV2 := NV.c2; have cNV3 := NV.c3; have cNV4 := NV.c4; have cNV5 := NV.c5; have cNV6 := NV.c6; have cNV7 := NV.c7; have cNV8 := NV.c8; have cNV9 := NV.c9; have cNV10 := NV.c10; have cNV11 := NV.c11
  go_wp2_with fail
  refine (kticks_is n.ln n.ld Q HQ.out _).mono ?_; rintro e w8 ⟨rfl, hb⟩
  replace hB := hB.below hb
  replace hL := hL.below hb
  replace NV := NV.below hb
  replace L2 := L2.below hb
  replace X := X.below hb
  replace Y := Y.below hb
  replace hG := hG.below hb
  replace B := B.trans (hb.mono (by have := B.size; simp <;> omega))
  clear hb lNV cNV0 cNV1 cNV2 cNV3 cNV4 cNV5 cNV6 cNV7 cNV8 cNV9 cNV10 cNV11
  go_wp2_with fail
  refine (kticks_is 24 1 40320 (by decide +kernel) _).mono ?_; rintro e w9 ⟨rfl, hb⟩
  replace hB := hB.below hb
  replace hL := hL.below hb
  replace NV := NV.below hb
  replace L2 := L2.below hb
  replace X := X.below hb
  replace Y := Y.below hb
  replace hG := hG.below hb
  replace B := B.trans (hb.mono (by have := B.size; simp <;> omega))
  clear hb
  go_wp2_with fail
  clear hB hL NV L2
  clear hG
  by_cases hcy : No.cov Ys t
  · have HCY := Lib.hid hcy
    have HCX := Lib.hid (HF.out.1 t hcy)
    clear hcy
    refine (lcovers_is Ys t true ⟨fun _ => HCY.out, fun _ => rfl⟩ _ _ _ HM4.out (by have := HNY.out.2.2; rw [HM4.out] at this; omega) HNY.out.1 HNY.out.2.1 _ Y).mono ?_; rintro e w10 ⟨rfl, hb⟩
    replace X := X.below hb
    replace Y := Y.below hb
    replace B := B.trans (hb.mono (by have := B.size; simp <;> omega))
    clear hb
    go_wp2_with fail
    refine (lcovers_is Xs t true ⟨fun _ => HCX.out, fun _ => rfl⟩ _ _ _ HM3.out (by have := HNX.out.2.2; rw [HM3.out] at this; omega) HNX.out.1 HNX.out.2.1 _ X).mono ?_; rintro e w11 ⟨rfl, hb⟩
    replace X := X.below hb
    replace Y := Y.below hb
    replace B := B.trans (hb.mono (by have := B.size; simp <;> omega))
    clear hb
    go_wp2_with fail
    refine (lcovers_is Xs t true ⟨fun _ => HCX.out, fun _ => rfl⟩ _ _ _ HM3.out (by have := HNX.out.2.2; rw [HM3.out] at this; omega) HNX.out.1 HNX.out.2.1 _ X).mono ?_; rintro e w12 ⟨rfl, hb⟩
    replace X := X.below hb
    replace Y := Y.below hb
    replace B := B.trans (hb.mono (by have := B.size; simp <;> omega))
    clear hb
    go_wp2_with fail
    refine (lcovers_is Ys t true ⟨fun _ => HCY.out, fun _ => rfl⟩ _ _ _ HM4.out (by have := HNY.out.2.2; rw [HM4.out] at this; omega) HNY.out.1 HNY.out.2.1 _ Y).mono ?_; rintro e w13 ⟨rfl, hb⟩
    replace X := X.below hb
    replace Y := Y.below hb
    replace B := B.trans (hb.mono (by have := B.size; simp <;> omega))
    clear hb
    go_wp2_with fail
    obtain ⟨ww, hww⟩ : ∃ ww, w13 = ww := ⟨_, rfl⟩
    rw [hww] at X Y B
    simp only [hww]
    clear hww
    have HLX := Lib.hid X
    have HLY := Lib.hid Y
    have HB0 := Lib.hid B
    clear X Y B
    go_loopw [123] (fun s wr => ∃ i : Nat, i ≤ m4 ∧ s = .int .i64 (i : Int) ∧ (∀ j, j < i → ¬ ((atS Ys j).1 ≤ S ∧ S + Q ≤ (atS Ys j).2)) ∧ Below ww.heap.size ww wr) (fun s _ => m4 - (intOf s).toNat)
    case atStart => exact ⟨0, Nat.zero_le _, rfl, (fun j h => absurd h (Nat.not_lt_zero j)), Below.refl _ _⟩
    case round =>
      obtain ⟨i, hi, rfl, hJ, hR⟩ := hrel
      have HJ := Lib.hid hJ
      clear hJ
      by_cases hlt : i < m4
      · have hx : i < Ys.length := by rw [HM4.out]; exact hlt
        obtain ⟨bb, off, rfl, hbb, c0, c1, c2, c3⟩ := SlR.cells (HLY.out) hx
        have t1 := tk_sp (HNY.out.1.at hx).1 (HNY.out.2.1.at hx).1
        have t2 := tk_sp (HNY.out.1.at hx).2 (HNY.out.2.1.at hx).2
        replace c0 := (hR.cell (p := ⟨bb, off + i * 4, none⟩) hbb).trans c0
        replace c1 := (hR.cell (p := ⟨bb, off + i * 4 + 1, none⟩) hbb).trans c1
        replace c2 := (hR.cell (p := ⟨bb, off + i * 4 + 2, none⟩) hbb).trans c2
        replace c3 := (hR.cell (p := ⟨bb, off + i * 4 + 3, none⟩) hbb).trans c3
        have hj1 : (i : Int) < (m4 : Int) := by omega
        have hj2 : (m4 : Int) ≤ 20000 := by have := HNY.out.2.2; rw [HM4.out] at this; omega
        obtain ⟨x, hxx⟩ : ∃ x, (atS Ys i).1 = x := ⟨_, rfl⟩
        obtain ⟨y, hyy⟩ : ∃ y, (atS Ys i).2 = y := ⟨_, rfl⟩
        rw [hxx] at t1 c0 c1
        rw [hyy] at t2 c2 c3
        obtain ⟨d1, e1⟩ : ∃ d, Mt.oN x.toNat = d := ⟨_, rfl⟩
        obtain ⟨d2, e2⟩ : ∃ d, Mt.oD x.toNat = d := ⟨_, rfl⟩
        obtain ⟨d3, e3⟩ : ∃ d, Mt.oN y.toNat = d := ⟨_, rfl⟩
        obtain ⟨d4, e4⟩ : ∃ d, Mt.oD y.toNat = d := ⟨_, rfl⟩
        rw [e1] at t1 c0; rw [e2] at t1 c1; rw [e3] at t2 c2; rw [e4] at t2 c3
        have HXX := Lib.hid (And.intro hxx hyy)
        have T1 := Lib.hid t1
        have T2 := Lib.hid t2
        have HX0 := Lib.hid hx
        clear hxx hyy t1 t2 e1 e2 e3 e4 hx
        go_wp2_with fail
        have Z := At4.new wr d1 d2 d3 d4 52
        replace hR := hR.alloc hR.size (.cells #[.int .i64 d1, .int .i64 d2, .int .i64 d3, .int .i64 d4] 52)
        refine (kticks_is d1 d2 x T1.out _).mono ?_; rintro e z1 ⟨rfl, hb⟩
        replace Z := Z.below hb
        replace hR := hR.trans (hb.mono hR.size)
        clear hb c0 c1 c2 c3
        obtain ⟨f0, f1, f2, f3⟩ := And.intro Z.c0 (And.intro Z.c1 (And.intro Z.c2 Z.c3))
        by_cases h1 : x ≤ S
        · go_wp2_with fail
          refine (kticks_is d3 d4 y T2.out _).mono ?_; rintro e z2 ⟨rfl, hb⟩
          replace hR := hR.trans (hb.mono hR.size)
          clear hb f0 f1 f2 f3 Z
          by_cases h2 : S + Q ≤ y
          · have hsame : Xs = Ys := HF.out.2.2.1 ⟨Ys[i]'HX0.out, List.getElem_mem _, by
              have e := HXX.out
              unfold atS at e
              rw [List.getElem?_eq_getElem HX0.out] at e
              rw [show (Ys[i]'HX0.out).1 = x from e.1, show (Ys[i]'HX0.out).2 = y from e.2]
              exact ⟨h1, h2⟩⟩
            have HSM := Lib.hid (decide_eq_true hsame)
            clear hsame
            go_wp2_with fail
            refine (rsames_is Xs Ys _ _ _ _ _ _ HM3.out HM4.out (by have := HNX.out.2.2; rw [HM3.out] at this; omega) (by have := HNY.out.2.2; rw [HM4.out] at this; omega) HNX.out.1 HNY.out.1 true HSM.out _ (HLX.out.below hR) (HLY.out.below hR)).mono ?_; rintro e z3 ⟨rfl, hb⟩
            replace hR := hR.trans (hb.mono hR.size)
            clear hb
            go_wp2_with fail
            go_ret
            exact ⟨rfl, HB0.out.trans (hR.mono HB0.out.size)⟩
          · go_wp2_with fail
            go_roundw
            case rel =>
              refine ⟨i + 1, by omega, (by simp), fun j hj => ?_, hR⟩
              rcases Nat.lt_or_ge j i with h | h
              · exact HJ.out j h
              · obtain rfl : j = i := by omega
                rw [HXX.out.1, HXX.out.2]
                omega
            case measure => simp [intOf]; omega
        · go_wp2_with fail
          go_roundw
          case rel =>
            refine ⟨i + 1, by omega, (by simp), fun j hj => ?_, hR⟩
            rcases Nat.lt_or_ge j i with h | h
            · exact HJ.out j h
            · obtain rfl : j = i := by omega
              rw [HXX.out.1, HXX.out.2]
              omega
          case measure => simp [intOf]; omega
      · obtain rfl : i = m4 := by omega
        have HSM := Lib.hid (decide_eq_false (p := Xs = Ys) (fun hsame => by
          obtain ⟨z, hz, h⟩ := HF.out.2.2.2 hsame
          obtain ⟨j, hj, rfl⟩ := List.mem_iff_getElem.1 hz
          refine HJ.out j (by rw [← HM4.out]; exact hj) ?_
          unfold atS
          rw [List.getElem?_eq_getElem hj]
          exact h))
        go_wp2_with fail
        refine (rsames_is Xs Ys _ _ _ _ _ _ HM3.out HM4.out (by have := HNX.out.2.2; rw [HM3.out] at this; omega) (by have := HNY.out.2.2; rw [HM4.out] at this; omega) HNX.out.1 HNY.out.1 false HSM.out _ (HLX.out.below hR) (HLY.out.below hR)).mono ?_; rintro e z3 ⟨rfl, hb⟩
        replace hR := hR.trans (hb.mono hR.size)
        clear hb
        go_wp2_with fail
        go_ret
        exact ⟨rfl, HB0.out.trans (hR.mono HB0.out.size)⟩
  by_cases hcx : No.cov Xs t
  · have HCY := Lib.hid hcy
    have HCX := Lib.hid hcx
    have hr1 : ¬ t < S := by have := HF.out.2.1 t hcx hcy; omega
    have hr2 : ¬ S + Q ≤ t := by have := HF.out.2.1 t hcx hcy; omega
    clear hcy hcx
    refine (lcovers_is Ys t false ⟨(fun h => by cases h), fun h => absurd h HCY.out⟩ _ _ _ HM4.out (by have := HNY.out.2.2; rw [HM4.out] at this; omega) HNY.out.1 HNY.out.2.1 _ Y).mono ?_; rintro e w10 ⟨rfl, hb⟩
    replace X := X.below hb
    replace Y := Y.below hb
    replace B := B.trans (hb.mono (by have := B.size; simp <;> omega))
    clear hb
    go_wp2_with fail
    refine (lcovers_is Xs t true ⟨fun _ => HCX.out, fun _ => rfl⟩ _ _ _ HM3.out (by have := HNX.out.2.2; rw [HM3.out] at this; omega) HNX.out.1 HNX.out.2.1 _ X).mono ?_; rintro e w11 ⟨rfl, hb⟩
    replace X := X.below hb
    replace Y := Y.below hb
    replace B := B.trans (hb.mono (by have := B.size; simp <;> omega))
    clear hb
    go_wp2_with fail
    refine (lcovers_is Ys t false ⟨(fun h => by cases h), fun h => absurd h HCY.out⟩ _ _ _ HM4.out (by have := HNY.out.2.2; rw [HM4.out] at this; omega) HNY.out.1 HNY.out.2.1 _ Y).mono ?_; rintro e w12 ⟨rfl, hb⟩
    replace X := X.below hb
    replace Y := Y.below hb
    replace B := B.trans (hb.mono (by have := B.size; simp <;> omega))
    clear hb
    go_wp2_with fail
    obtain ⟨ww, hww⟩ : ∃ ww, w12 = ww := ⟨_, rfl⟩
    rw [hww] at X Y B
    simp only [hww]
    clear hww
    have HLX := Lib.hid X
    have HLY := Lib.hid Y
    have HB0 := Lib.hid B
    clear X Y B
    go_loopw [123] (fun s wr => ∃ i : Nat, i ≤ m4 ∧ s = .int .i64 (i : Int) ∧ (∀ j, j < i → ¬ ((atS Ys j).1 ≤ S ∧ S + Q ≤ (atS Ys j).2)) ∧ Below ww.heap.size ww wr) (fun s _ => m4 - (intOf s).toNat)
    case atStart => exact ⟨0, Nat.zero_le _, rfl, (fun j h => absurd h (Nat.not_lt_zero j)), Below.refl _ _⟩
    case round =>
      obtain ⟨i, hi, rfl, hJ, hR⟩ := hrel
      have HJ := Lib.hid hJ
      clear hJ
      by_cases hlt : i < m4
      · have hx : i < Ys.length := by rw [HM4.out]; exact hlt
        obtain ⟨bb, off, rfl, hbb, c0, c1, c2, c3⟩ := SlR.cells (HLY.out) hx
        have t1 := tk_sp (HNY.out.1.at hx).1 (HNY.out.2.1.at hx).1
        have t2 := tk_sp (HNY.out.1.at hx).2 (HNY.out.2.1.at hx).2
        replace c0 := (hR.cell (p := ⟨bb, off + i * 4, none⟩) hbb).trans c0
        replace c1 := (hR.cell (p := ⟨bb, off + i * 4 + 1, none⟩) hbb).trans c1
        replace c2 := (hR.cell (p := ⟨bb, off + i * 4 + 2, none⟩) hbb).trans c2
        replace c3 := (hR.cell (p := ⟨bb, off + i * 4 + 3, none⟩) hbb).trans c3
        have hj1 : (i : Int) < (m4 : Int) := by omega
        have hj2 : (m4 : Int) ≤ 20000 := by have := HNY.out.2.2; rw [HM4.out] at this; omega
        obtain ⟨x, hxx⟩ : ∃ x, (atS Ys i).1 = x := ⟨_, rfl⟩
        obtain ⟨y, hyy⟩ : ∃ y, (atS Ys i).2 = y := ⟨_, rfl⟩
        rw [hxx] at t1 c0 c1
        rw [hyy] at t2 c2 c3
        obtain ⟨d1, e1⟩ : ∃ d, Mt.oN x.toNat = d := ⟨_, rfl⟩
        obtain ⟨d2, e2⟩ : ∃ d, Mt.oD x.toNat = d := ⟨_, rfl⟩
        obtain ⟨d3, e3⟩ : ∃ d, Mt.oN y.toNat = d := ⟨_, rfl⟩
        obtain ⟨d4, e4⟩ : ∃ d, Mt.oD y.toNat = d := ⟨_, rfl⟩
        rw [e1] at t1 c0; rw [e2] at t1 c1; rw [e3] at t2 c2; rw [e4] at t2 c3
        have HXX := Lib.hid (And.intro hxx hyy)
        have T1 := Lib.hid t1
        have T2 := Lib.hid t2
        have HX0 := Lib.hid hx
        clear hxx hyy t1 t2 e1 e2 e3 e4 hx
        go_wp2_with fail
        have Z := At4.new wr d1 d2 d3 d4 52
        replace hR := hR.alloc hR.size (.cells #[.int .i64 d1, .int .i64 d2, .int .i64 d3, .int .i64 d4] 52)
        refine (kticks_is d1 d2 x T1.out _).mono ?_; rintro e z1 ⟨rfl, hb⟩
        replace Z := Z.below hb
        replace hR := hR.trans (hb.mono hR.size)
        clear hb c0 c1 c2 c3
        obtain ⟨f0, f1, f2, f3⟩ := And.intro Z.c0 (And.intro Z.c1 (And.intro Z.c2 Z.c3))
        by_cases h1 : x ≤ S
        · go_wp2_with fail
          refine (kticks_is d3 d4 y T2.out _).mono ?_; rintro e z2 ⟨rfl, hb⟩
          replace hR := hR.trans (hb.mono hR.size)
          clear hb f0 f1 f2 f3 Z
          by_cases h2 : S + Q ≤ y
          · have hsame : Xs = Ys := HF.out.2.2.1 ⟨Ys[i]'HX0.out, List.getElem_mem _, by
              have e := HXX.out
              unfold atS at e
              rw [List.getElem?_eq_getElem HX0.out] at e
              rw [show (Ys[i]'HX0.out).1 = x from e.1, show (Ys[i]'HX0.out).2 = y from e.2]
              exact ⟨h1, h2⟩⟩
            have HSM := Lib.hid (decide_eq_true hsame)
            clear hsame
            go_wp2_with fail
            refine (rsames_is Xs Ys _ _ _ _ _ _ HM3.out HM4.out (by have := HNX.out.2.2; rw [HM3.out] at this; omega) (by have := HNY.out.2.2; rw [HM4.out] at this; omega) HNX.out.1 HNY.out.1 true HSM.out _ (HLX.out.below hR) (HLY.out.below hR)).mono ?_; rintro e z3 ⟨rfl, hb⟩
            replace hR := hR.trans (hb.mono hR.size)
            clear hb
            go_wp2_with fail
            go_ret
            exact ⟨rfl, HB0.out.trans (hR.mono HB0.out.size)⟩
          · go_wp2_with fail
            go_roundw
            case rel =>
              refine ⟨i + 1, by omega, (by simp), fun j hj => ?_, hR⟩
              rcases Nat.lt_or_ge j i with h | h
              · exact HJ.out j h
              · obtain rfl : j = i := by omega
                rw [HXX.out.1, HXX.out.2]
                omega
            case measure => simp [intOf]; omega
        · go_wp2_with fail
          go_roundw
          case rel =>
            refine ⟨i + 1, by omega, (by simp), fun j hj => ?_, hR⟩
            rcases Nat.lt_or_ge j i with h | h
            · exact HJ.out j h
            · obtain rfl : j = i := by omega
              rw [HXX.out.1, HXX.out.2]
              omega
          case measure => simp [intOf]; omega
      · obtain rfl : i = m4 := by omega
        have HSM := Lib.hid (decide_eq_false (p := Xs = Ys) (fun hsame => by
          obtain ⟨z, hz, h⟩ := HF.out.2.2.2 hsame
          obtain ⟨j, hj, rfl⟩ := List.mem_iff_getElem.1 hz
          refine HJ.out j (by rw [← HM4.out]; exact hj) ?_
          unfold atS
          rw [List.getElem?_eq_getElem hj]
          exact h))
        go_wp2_with fail
        refine (rsames_is Xs Ys _ _ _ _ _ _ HM3.out HM4.out (by have := HNX.out.2.2; rw [HM3.out] at this; omega) (by have := HNY.out.2.2; rw [HM4.out] at this; omega) HNX.out.1 HNY.out.1 false HSM.out _ (HLX.out.below hR) (HLY.out.below hR)).mono ?_; rintro e z3 ⟨rfl, hb⟩
        replace hR := hR.trans (hb.mono hR.size)
        clear hb
        go_wp2_with fail
        go_ret
        exact ⟨rfl, HB0.out.trans (hR.mono HB0.out.size)⟩
  · have HCY := Lib.hid hcy
    have HCX := Lib.hid hcx
    clear hcy hcx
    refine (lcovers_is Ys t false ⟨(fun h => by cases h), fun h => absurd h HCY.out⟩ _ _ _ HM4.out (by have := HNY.out.2.2; rw [HM4.out] at this; omega) HNY.out.1 HNY.out.2.1 _ Y).mono ?_; rintro e w10 ⟨rfl, hb⟩
    replace X := X.below hb
    replace Y := Y.below hb
    replace B := B.trans (hb.mono (by have := B.size; simp <;> omega))
    clear hb
    go_wp2_with fail
    refine (lcovers_is Xs t false ⟨(fun h => by cases h), fun h => absurd h HCX.out⟩ _ _ _ HM3.out (by have := HNX.out.2.2; rw [HM3.out] at this; omega) HNX.out.1 HNX.out.2.1 _ X).mono ?_; rintro e w11 ⟨rfl, hb⟩
    replace X := X.below hb
    replace Y := Y.below hb
    replace B := B.trans (hb.mono (by have := B.size; simp <;> omega))
    clear hb
    go_wp2_with fail
    obtain ⟨ww, hww⟩ : ∃ ww, w11 = ww := ⟨_, rfl⟩
    rw [hww] at X Y B
    simp only [hww]
    clear hww
    have HLX := Lib.hid X
    have HLY := Lib.hid Y
    have HB0 := Lib.hid B
    clear X Y B
    go_loopw [123] (fun s wr => ∃ i : Nat, i ≤ m4 ∧ s = .int .i64 (i : Int) ∧ (∀ j, j < i → ¬ ((atS Ys j).1 ≤ S ∧ S + Q ≤ (atS Ys j).2)) ∧ Below ww.heap.size ww wr) (fun s _ => m4 - (intOf s).toNat)
    case atStart => exact ⟨0, Nat.zero_le _, rfl, (fun j h => absurd h (Nat.not_lt_zero j)), Below.refl _ _⟩
    case round =>
      obtain ⟨i, hi, rfl, hJ, hR⟩ := hrel
      have HJ := Lib.hid hJ
      clear hJ
      by_cases hlt : i < m4
      · have hx : i < Ys.length := by rw [HM4.out]; exact hlt
        obtain ⟨bb, off, rfl, hbb, c0, c1, c2, c3⟩ := SlR.cells (HLY.out) hx
        have t1 := tk_sp (HNY.out.1.at hx).1 (HNY.out.2.1.at hx).1
        have t2 := tk_sp (HNY.out.1.at hx).2 (HNY.out.2.1.at hx).2
        replace c0 := (hR.cell (p := ⟨bb, off + i * 4, none⟩) hbb).trans c0
        replace c1 := (hR.cell (p := ⟨bb, off + i * 4 + 1, none⟩) hbb).trans c1
        replace c2 := (hR.cell (p := ⟨bb, off + i * 4 + 2, none⟩) hbb).trans c2
        replace c3 := (hR.cell (p := ⟨bb, off + i * 4 + 3, none⟩) hbb).trans c3
        have hj1 : (i : Int) < (m4 : Int) := by omega
        have hj2 : (m4 : Int) ≤ 20000 := by have := HNY.out.2.2; rw [HM4.out] at this; omega
        obtain ⟨x, hxx⟩ : ∃ x, (atS Ys i).1 = x := ⟨_, rfl⟩
        obtain ⟨y, hyy⟩ : ∃ y, (atS Ys i).2 = y := ⟨_, rfl⟩
        rw [hxx] at t1 c0 c1
        rw [hyy] at t2 c2 c3
        obtain ⟨d1, e1⟩ : ∃ d, Mt.oN x.toNat = d := ⟨_, rfl⟩
        obtain ⟨d2, e2⟩ : ∃ d, Mt.oD x.toNat = d := ⟨_, rfl⟩
        obtain ⟨d3, e3⟩ : ∃ d, Mt.oN y.toNat = d := ⟨_, rfl⟩
        obtain ⟨d4, e4⟩ : ∃ d, Mt.oD y.toNat = d := ⟨_, rfl⟩
        rw [e1] at t1 c0; rw [e2] at t1 c1; rw [e3] at t2 c2; rw [e4] at t2 c3
        have HXX := Lib.hid (And.intro hxx hyy)
        have T1 := Lib.hid t1
        have T2 := Lib.hid t2
        have HX0 := Lib.hid hx
        clear hxx hyy t1 t2 e1 e2 e3 e4 hx
        go_wp2_with fail
        have Z := At4.new wr d1 d2 d3 d4 52
        replace hR := hR.alloc hR.size (.cells #[.int .i64 d1, .int .i64 d2, .int .i64 d3, .int .i64 d4] 52)
        refine (kticks_is d1 d2 x T1.out _).mono ?_; rintro e z1 ⟨rfl, hb⟩
        replace Z := Z.below hb
        replace hR := hR.trans (hb.mono hR.size)
        clear hb c0 c1 c2 c3
        obtain ⟨f0, f1, f2, f3⟩ := And.intro Z.c0 (And.intro Z.c1 (And.intro Z.c2 Z.c3))
        by_cases h1 : x ≤ S
        · go_wp2_with fail
          refine (kticks_is d3 d4 y T2.out _).mono ?_; rintro e z2 ⟨rfl, hb⟩
          replace hR := hR.trans (hb.mono hR.size)
          clear hb f0 f1 f2 f3 Z
          by_cases h2 : S + Q ≤ y
          · have hsame : Xs = Ys := HF.out.2.2.1 ⟨Ys[i]'HX0.out, List.getElem_mem _, by
              have e := HXX.out
              unfold atS at e
              rw [List.getElem?_eq_getElem HX0.out] at e
              rw [show (Ys[i]'HX0.out).1 = x from e.1, show (Ys[i]'HX0.out).2 = y from e.2]
              exact ⟨h1, h2⟩⟩
            have HSM := Lib.hid (decide_eq_true hsame)
            clear hsame
            go_wp2_with fail
            refine (rsames_is Xs Ys _ _ _ _ _ _ HM3.out HM4.out (by have := HNX.out.2.2; rw [HM3.out] at this; omega) (by have := HNY.out.2.2; rw [HM4.out] at this; omega) HNX.out.1 HNY.out.1 true HSM.out _ (HLX.out.below hR) (HLY.out.below hR)).mono ?_; rintro e z3 ⟨rfl, hb⟩
            replace hR := hR.trans (hb.mono hR.size)
            clear hb
            go_wp2_with fail
            go_ret
            exact ⟨rfl, HB0.out.trans (hR.mono HB0.out.size)⟩
          · go_wp2_with fail
            go_roundw
            case rel =>
              refine ⟨i + 1, by omega, (by simp), fun j hj => ?_, hR⟩
              rcases Nat.lt_or_ge j i with h | h
              · exact HJ.out j h
              · obtain rfl : j = i := by omega
                rw [HXX.out.1, HXX.out.2]
                omega
            case measure => simp [intOf]; omega
        · go_wp2_with fail
          go_roundw
          case rel =>
            refine ⟨i + 1, by omega, (by simp), fun j hj => ?_, hR⟩
            rcases Nat.lt_or_ge j i with h | h
            · exact HJ.out j h
            · obtain rfl : j = i := by omega
              rw [HXX.out.1, HXX.out.2]
              omega
          case measure => simp [intOf]; omega
      · obtain rfl : i = m4 := by omega
        have HSM := Lib.hid (decide_eq_false (p := Xs = Ys) (fun hsame => by
          obtain ⟨z, hz, h⟩ := HF.out.2.2.2 hsame
          obtain ⟨j, hj, rfl⟩ := List.mem_iff_getElem.1 hz
          refine HJ.out j (by rw [← HM4.out]; exact hj) ?_
          unfold atS
          rw [List.getElem?_eq_getElem hj]
          exact h))
        go_wp2_with fail
        refine (rsames_is Xs Ys _ _ _ _ _ _ HM3.out HM4.out (by have := HNX.out.2.2; rw [HM3.out] at this; omega) (by have := HNY.out.2.2; rw [HM4.out] at this; omega) HNX.out.1 HNY.out.1 false HSM.out _ (HLX.out.below hR) (HLY.out.below hR)).mono ?_; rintro e z3 ⟨rfl, hb⟩
        replace hR := hR.trans (hb.mono hR.size)
        clear hb
        go_wp2_with fail
        go_ret
        exact ⟨rfl, HB0.out.trans (hR.mono HB0.out.size)⟩
end Go.Proofs.YthamkigdpgajaaaDoor
