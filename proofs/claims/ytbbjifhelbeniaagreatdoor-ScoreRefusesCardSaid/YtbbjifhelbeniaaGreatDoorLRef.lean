import Derived.Test.YtbbjifhelbeniaaGreatDoorGV
/- ScoreRefuses, call by call. -/
namespace Go.Proofs.YtbbjifhelbeniaaGreatDoor
open Go.RowKit

set_option maxRecDepth 100000 in
set_option maxHeartbeats 2000000 in
theorem scoreRefuses_walk (s : SH) (bs : List Mt.B) (ps : List Sc.Pt) (ns : List No.Nt) (hwf : WfS bs ps ns) (A : Option Addr) (len cap : Nat) (l : List No.Nt) (hl : l.length = len) (hwn : No.Wf l) (w : World) (hG : Glob w) (hS : SlS w s bs ps ns) (hA : SlO w A l) :
    Calls Tryz.prog 8 #[.agg #[.int .i64 s.v, .slice s.B s.bl s.bc, .slice s.P s.pl s.pc, .slice s.N s.nl s.nc], .slice A len cap] w fun e w' => e = .returned (.bool true) ∧ Below w.heap.size w w' := by
  have HW := Lib.hid hwf
  have HWN := Lib.hid hwn
  have HN := Lib.hid hl
  have HL := Lib.hid (And.intro hS.bl (And.intro hS.pl hS.nl))
  clear hwf hwn hl
  by_cases q1 : s.bl ≤ 60 ∧ s.pl ≤ 61 ∧ s.nl ≤ 60
  case neg =>
    have HF := Lib.hid q1
    clear q1
    go_enter Tryz.func8, Tryz.ntmps8
    go_wp2_with fail
    have B := Below.refl w.heap.size w
    refine (head_any _ (hG.alloc _)).mono ?_; rintro e w1 ⟨rfl, hb⟩
    replace hS := (hS.alloc _).below hb
    replace hA := (hA.alloc _).below hb
    have Q := (ScB.new _ s).below hb
    replace hG := (hG.alloc _).below hb
    replace B := (B.alloc (by have := B.size; simp <;> omega) _).trans (hb.mono (by have := B.size; simp <;> omega))
    clear hb
    have lQ := Q.lt; have cQ0 := Q.c0; have cQ1 := Q.c1; have cQ2 := Q.c2; have cQ3 := Q.c3
    go_wp2_with fail
    refine (rfew_is s false ⟨(fun h => by cases h), fun h => absurd h HF.out⟩ _).mono ?_; rintro e w2 ⟨rfl, hb⟩
    replace hS := hS.below hb
    replace hA := hA.below hb
    replace Q := Q.below hb
    replace hG := hG.below hb
    replace B := B.trans (hb.mono (by have := B.size; simp <;> omega))
    clear hb lQ cQ0 cQ1 cQ2 cQ3
    have lQ := Q.lt; have cQ0 := Q.c0; have cQ1 := Q.c1; have cQ2 := Q.c2; have cQ3 := Q.c3
    go_wp2_with fail
    go_ret
    exact ⟨rfl, B⟩
  have HF := Lib.hid q1
  by_cases q2 : len ≤ 60
  case neg =>
    have h60 : (len : Int) > 60 := by omega
    clear q1 q2
    go_enter Tryz.func8, Tryz.ntmps8
    go_wp2_with fail
    have B := Below.refl w.heap.size w
    refine (head_any _ (hG.alloc _)).mono ?_; rintro e w1 ⟨rfl, hb⟩
    replace hS := (hS.alloc _).below hb
    replace hA := (hA.alloc _).below hb
    have Q := (ScB.new _ s).below hb
    replace hG := (hG.alloc _).below hb
    replace B := (B.alloc (by have := B.size; simp <;> omega) _).trans (hb.mono (by have := B.size; simp <;> omega))
    clear hb
    have lQ := Q.lt; have cQ0 := Q.c0; have cQ1 := Q.c1; have cQ2 := Q.c2; have cQ3 := Q.c3
    go_wp2_with fail
    refine (rfew_is s true ⟨fun _ => HF.out, fun _ => rfl⟩ _).mono ?_; rintro e w2 ⟨rfl, hb⟩
    replace hS := hS.below hb
    replace hA := hA.below hb
    replace Q := Q.below hb
    replace hG := hG.below hb
    replace B := B.trans (hb.mono (by have := B.size; simp <;> omega))
    clear hb lQ cQ0 cQ1 cQ2 cQ3
    have lQ := Q.lt; have cQ0 := Q.c0; have cQ1 := Q.c1; have cQ2 := Q.c2; have cQ3 := Q.c3
    go_wp2_with fail
    go_ret
    exact ⟨rfl, B⟩
  have h60 : ¬ (len : Int) > 60 := by omega
  by_cases q3 : Sc.Val s.v bs ps ns
  case neg =>
    have HV := Lib.hid q3
    clear q1 q2 q3
    go_enter Tryz.func8, Tryz.ntmps8
    go_wp2_with fail
    have B := Below.refl w.heap.size w
    refine (head_any _ (hG.alloc _)).mono ?_; rintro e w1 ⟨rfl, hb⟩
    replace hS := (hS.alloc _).below hb
    replace hA := (hA.alloc _).below hb
    have Q := (ScB.new _ s).below hb
    replace hG := (hG.alloc _).below hb
    replace B := (B.alloc (by have := B.size; simp <;> omega) _).trans (hb.mono (by have := B.size; simp <;> omega))
    clear hb
    have lQ := Q.lt; have cQ0 := Q.c0; have cQ1 := Q.c1; have cQ2 := Q.c2; have cQ3 := Q.c3
    go_wp2_with fail
    refine (rfew_is s true ⟨fun _ => HF.out, fun _ => rfl⟩ _).mono ?_; rintro e w2 ⟨rfl, hb⟩
    replace hS := hS.below hb
    replace hA := hA.below hb
    replace Q := Q.below hb
    replace hG := hG.below hb
    replace B := B.trans (hb.mono (by have := B.size; simp <;> omega))
    clear hb lQ cQ0 cQ1 cQ2 cQ3
    have lQ := Q.lt; have cQ0 := Q.c0; have cQ1 := Q.c1; have cQ2 := Q.c2; have cQ3 := Q.c3
    go_wp2_with fail
    refine (rval_is s bs ps ns false ⟨(fun h => by cases h), fun h => absurd h HV.out⟩ _ hS).mono ?_; rintro e w3 ⟨rfl, hb⟩
    replace hS := hS.below hb
    replace hA := hA.below hb
    replace Q := Q.below hb
    replace hG := hG.below hb
    replace B := B.trans (hb.mono (by have := B.size; simp <;> omega))
    clear hb lQ cQ0 cQ1 cQ2 cQ3
    have lQ := Q.lt; have cQ0 := Q.c0; have cQ1 := Q.c1; have cQ2 := Q.c2; have cQ3 := Q.c3
    go_wp2_with fail
    go_ret
    exact ⟨rfl, B⟩
  have HV := Lib.hid q3
  by_cases q4 : No.Val bs l
  case neg =>
    have HQ := Lib.hid q4
    clear q1 q2 q3 q4
    go_enter Tryz.func8, Tryz.ntmps8
    go_wp2_with fail
    have B := Below.refl w.heap.size w
    refine (head_any _ (hG.alloc _)).mono ?_; rintro e w1 ⟨rfl, hb⟩
    replace hS := (hS.alloc _).below hb
    replace hA := (hA.alloc _).below hb
    have Q := (ScB.new _ s).below hb
    replace hG := (hG.alloc _).below hb
    replace B := (B.alloc (by have := B.size; simp <;> omega) _).trans (hb.mono (by have := B.size; simp <;> omega))
    clear hb
    have lQ := Q.lt; have cQ0 := Q.c0; have cQ1 := Q.c1; have cQ2 := Q.c2; have cQ3 := Q.c3
    go_wp2_with fail
    refine (rfew_is s true ⟨fun _ => HF.out, fun _ => rfl⟩ _).mono ?_; rintro e w2 ⟨rfl, hb⟩
    replace hS := hS.below hb
    replace hA := hA.below hb
    replace Q := Q.below hb
    replace hG := hG.below hb
    replace B := B.trans (hb.mono (by have := B.size; simp <;> omega))
    clear hb lQ cQ0 cQ1 cQ2 cQ3
    have lQ := Q.lt; have cQ0 := Q.c0; have cQ1 := Q.c1; have cQ2 := Q.c2; have cQ3 := Q.c3
    go_wp2_with fail
    refine (rval_is s bs ps ns true ⟨fun _ => HV.out, fun _ => rfl⟩ _ hS).mono ?_; rintro e w3 ⟨rfl, hb⟩
    replace hS := hS.below hb
    replace hA := hA.below hb
    replace Q := Q.below hb
    replace hG := hG.below hb
    replace B := B.trans (hb.mono (by have := B.size; simp <;> omega))
    clear hb lQ cQ0 cQ1 cQ2 cQ3
    have lQ := Q.lt; have cQ0 := Q.c0; have cQ1 := Q.c1; have cQ2 := Q.c2; have cQ3 := Q.c3
    go_wp2_with fail
    refine (rnvalid_is bs l false _ _ _ _ _ _ ⟨(fun h => by cases h), fun h => absurd h HQ.out⟩ HL.out.1 HN.out _ hS.sb hA).mono ?_; rintro e w4 ⟨rfl, hb⟩
    replace hS := hS.below hb
    replace hA := hA.below hb
    replace Q := Q.below hb
    replace hG := hG.below hb
    replace B := B.trans (hb.mono (by have := B.size; simp <;> omega))
    clear hb lQ cQ0 cQ1 cQ2 cQ3
    have lQ := Q.lt; have cQ0 := Q.c0; have cQ1 := Q.c1; have cQ2 := Q.c2; have cQ3 := Q.c3
    go_wp2_with fail
    go_ret
    exact ⟨rfl, B⟩
  have HQ := Lib.hid q4
  have HPD := Lib.hid q3.parts.2.2.1
  have HPM : Hid (∀ p ∈ ps, Sc.okP p) := Lib.hid q3.parts.2.1
  have HSL : Hid (s.pl ≤ 61) := Lib.hid q1.2.1
  obtain ⟨we, hwe⟩ : ∃ we, Sc.wrong ps l = we := ⟨_, rfl⟩
  have HWE := Lib.hid hwe
  have HEI : Hid (WithI (Sc.Val s.v bs ps ns ∧ (1 ≤ s.v ∧ s.v ≤ 1000000) ∧ No.Val bs l) (Sc.wrong ps l) we) := Lib.hid (.inr ⟨⟨q3, q3.ver, q4⟩, hwe.symm⟩)
  obtain ⟨cS, hcS⟩ : ∃ c : Nat → Bool, ∀ i, c i = true ↔ Sc.stray ps (l.take i) := by classical exact ⟨fun i => decide (Sc.stray ps (l.take i)), fun i => by simp⟩
  obtain ⟨cF, hcF⟩ : ∃ c : Nat → Bool, ∀ i, c i = true ↔ Sc.far ps (l.take i) := by classical exact ⟨fun i => decide (Sc.far ps (l.take i)), fun i => by simp⟩
  have HCS := Lib.hid hcS
  have HCF := Lib.hid hcF
  clear q1 q3 q4 hwe hcS hcF
  go_enter Tryz.func8, Tryz.ntmps8
  go_wp2_with fail
  have B := Below.refl w.heap.size w
  refine (head_any _ (hG.alloc _)).mono ?_; rintro e w1 ⟨rfl, hb⟩
  replace hS := (hS.alloc _).below hb
  replace hA := (hA.alloc _).below hb
  have Q := (ScB.new _ s).below hb
  replace hG := (hG.alloc _).below hb
  replace B := (B.alloc (by have := B.size; simp <;> omega) _).trans (hb.mono (by have := B.size; simp <;> omega))
  clear hb
  have lQ := Q.lt; have cQ0 := Q.c0; have cQ1 := Q.c1; have cQ2 := Q.c2; have cQ3 := Q.c3
  go_wp2_with fail
  refine (rfew_is s true ⟨fun _ => HF.out, fun _ => rfl⟩ _).mono ?_; rintro e w2 ⟨rfl, hb⟩
  replace hS := hS.below hb
  replace hA := hA.below hb
  replace Q := Q.below hb
  replace hG := hG.below hb
  replace B := B.trans (hb.mono (by have := B.size; simp <;> omega))
  clear hb lQ cQ0 cQ1 cQ2 cQ3
  have lQ := Q.lt; have cQ0 := Q.c0; have cQ1 := Q.c1; have cQ2 := Q.c2; have cQ3 := Q.c3
  go_wp2_with fail
  refine (rval_is s bs ps ns true ⟨fun _ => HV.out, fun _ => rfl⟩ _ hS).mono ?_; rintro e w3 ⟨rfl, hb⟩
  replace hS := hS.below hb
  replace hA := hA.below hb
  replace Q := Q.below hb
  replace hG := hG.below hb
  replace B := B.trans (hb.mono (by have := B.size; simp <;> omega))
  clear hb lQ cQ0 cQ1 cQ2 cQ3
  have lQ := Q.lt; have cQ0 := Q.c0; have cQ1 := Q.c1; have cQ2 := Q.c2; have cQ3 := Q.c3
  go_wp2_with fail
  refine (rnvalid_is bs l true _ _ _ _ _ _ ⟨fun _ => HQ.out, fun _ => rfl⟩ HL.out.1 HN.out _ hS.sb hA).mono ?_; rintro e w4 ⟨rfl, hb⟩
  replace hS := hS.below hb
  replace hA := hA.below hb
  replace Q := Q.below hb
  replace hG := hG.below hb
  replace B := B.trans (hb.mono (by have := B.size; simp <;> omega))
  clear hb lQ cQ0 cQ1 cQ2 cQ3
  have lQ := Q.lt; have cQ0 := Q.c0; have cQ1 := Q.c1; have cQ2 := Q.c2; have cQ3 := Q.c3
  go_wp2_with fail
  clear lQ cQ0 cQ1 cQ2 cQ3
  have HSS := Lib.hid hS; have HAA := Lib.hid hA; have HGG := Lib.hid hG; have HQB := Lib.hid Q; have HB0 := Lib.hid B
  clear hS hA hG Q B
  go_loopw [6, 7, 8] (fun s6 s7 s8 wr => ∃ (i : Nat), i ≤ len ∧ s6 = .bool (cS i) ∧ s7 = .bool (cF i) ∧ s8 = .int .i64 (i : Int) ∧ Below w4.heap.size w4 wr) (fun _ _ s8 _ => len - (intOf s8).toNat)
  case atStart =>
    refine ⟨0, Nat.zero_le _, ?_, ?_, rfl, Below.refl _ _⟩
    · have e : cS 0 = false := by
        cases h : cS 0 with
        | false => rfl
        | true => obtain ⟨n, hn, _⟩ := (HCS.out 0).1 h; simp at hn
      rw [e]
    · have e : cF 0 = false := by
        cases h : cF 0 with
        | false => rfl
        | true => obtain ⟨n, hn, _⟩ := (HCF.out 0).1 h; simp at hn
      rw [e]
  case round =>
    obtain ⟨i, hi, rfl, rfl, rfl, hR⟩ := hrel
    by_cases hlt : i < len
    · have hx : i < l.length := by rw [HN.out]; exact hlt
      obtain ⟨bb, off, rfl, hbb, hc⟩ := HAA.out (by rw [HN.out]; omega)
      obtain ⟨n, hn⟩ : ∃ n, atO l i = n := ⟨_, rfl⟩
      have X := (hc i hx).below hR hbb
      rw [hn] at X
      have hok := HQ.out.2.2.1 n (by rw [← hn]; exact atO_mem hx)
      have hi1 : (i : Int) < (len : Int) := by omega
      have hi2 : (len : Int) ≤ 60 := by omega
      have QR := HQB.out.below hR
      have hst := Sc.stray_step (ps := ps) hx
      have hfa := Sc.far_step (ps := ps) hx
      rw [hn] at hst hfa
      obtain ⟨k, hk⟩ : ∃ k, Sc.oix ps n.pa = k := ⟨_, rfl⟩
      have HK := Lib.hid hk
      have HBL := Lib.hid hbb
      have HX := Lib.hid X
      have z0 : wr.cell? ⟨bb, off + i * 12, none⟩ = some (.int .i64 n.id) := X.c0
      have x0 := fun y : Ext wr => y.cell z0
      have x1 := fun y : Ext wr => y.cell X.c1
      have x2 := fun y : Ext wr => y.cell X.c2
      have x3 := fun y : Ext wr => y.cell X.c3
      have x4 := fun y : Ext wr => y.cell X.c4
      have x5 := fun y : Ext wr => y.cell X.c5
      have x6 := fun y : Ext wr => y.cell X.c6
      have x7 := fun y : Ext wr => y.cell X.c7
      have x8 := fun y : Ext wr => y.cell X.c8
      have x9 := fun y : Ext wr => y.cell X.c9
      have x10 := fun y : Ext wr => y.cell X.c10
      have x11 := fun y : Ext wr => y.cell X.c11
      have x12 := fun y : Ext wr => y.cell QR.c2
      have hne := Ext.there wr
      have HPV : Hid (Sc.pv n.st n.al n.oc) := Lib.hid (by have h := hok.2.1; unfold No.isN at h; unfold Sc.pv; omega)
      clear hn hok hc hk hx z0 X
      go_wp2_with fail
      refine Ext.region (by kernel_rfl) (by kernel_rfl) ?_
      repeat (go_big_quiet_step ((go_at_call 31; exact Ext.call _ (rown_is ps n k _ _ _ HK.out HL.out.2.1 (by have := HSL.out; omega) _ ((HSS.out.below (hR.trans ((Ext.h _).mono hR.size))).sp)))))
      refine wpQuiet_nil ?_
      rintro _ ⟨xw, rfl⟩
      have hb := xw.h
      replace QR := QR.below hb
      have hR2 := hR.trans (hb.mono hR.size)
      have X := HX.out.below hb (Nat.lt_of_lt_of_le HBL.out hR.size)
      clear hb x0 x1 x2 x3 x4 x5 x6 x7 x8 x9 x10 x11 x12 hne
      generalize xw.w = z3 at *
      clear xw
      by_cases hk0 : k < 0
      · have hno := Sc.oix_none HPD.out (x := n.pa) (by rw [HK.out]; exact hk0)
        have e1 : cS (i + 1) = true := (HCS.out _).2 (hst.2 (.inr hno))
        have e2 : cF (i + 1) = cF i := by
          rw [Bool.eq_iff_iff, HCF.out, HCF.out, hfa]
          exact ⟨fun h => h.elim id (fun ⟨p, hp, _⟩ => by rw [hno] at hp; cases hp), .inl⟩
        clear hst hfa hno X QR
        go_wp2_with fail
        go_roundw
        case rel => exact ⟨i + 1, by omega, by rw [e1], by rw [e2], by simp, hR2⟩
        case measure => simp [intOf]; omega
      · obtain ⟨kn, rfl⟩ : ∃ kn : Nat, k = kn := ⟨k.toNat, by omega⟩
        obtain ⟨hkl, hown⟩ := Sc.oix_some HPD.out (x := n.pa) HK.out
        have e1 : cS (i + 1) = cS i := by
          rw [Bool.eq_iff_iff, HCS.out, HCS.out, hst]
          exact ⟨fun h => h.elim id (fun h => by rw [hown] at h; cases h), .inl⟩
        have e2 : cF (i + 1) = true ↔ cF i = true ∨ ¬ Sc.rng (atQ ps kn) n := by
          rw [HCF.out, HCF.out, hfa]
          exact or_congr Iff.rfl ⟨fun ⟨p, hp, h⟩ => by rw [hown] at hp; cases hp; exact h, fun h => ⟨_, hown, h⟩⟩
        have hpp := HPM.out _ (atQ_mem hkl)
        obtain ⟨p, hp⟩ : ∃ p, atQ ps kn = p := ⟨_, rfl⟩
        rw [hp] at e2 hpp
        have HR1 := Lib.hid hpp.2.2.2.2.2
        have hkl' : kn < s.pl := by rw [← HL.out.2.1]; exact hkl
        have hkl2 : (kn : Int) < (s.pl : Int) := by omega
        obtain ⟨bq, ofq, hPe, hbq, hcq⟩ := HSS.out.sp (by omega)
        have Y := (hcq kn hkl).below hR2 hbq
        rw [hp] at Y
        have HY := Lib.hid Y; have HBQ := Lib.hid hbq
        obtain ⟨N, hN⟩ : ∃ N, Sc.num n.st n.al n.oc = N := ⟨_, rfl⟩
        obtain ⟨Lo, hLo⟩ : ∃ Lo, Sc.num p.ls p.la p.lo = Lo := ⟨_, rfl⟩
        obtain ⟨Hi, hHi⟩ : ∃ Hi, Sc.num p.hs p.ha p.ho = Hi := ⟨_, rfl⟩
        have hrg : Sc.rng p n ↔ Lo ≤ N ∧ N ≤ Hi := by unfold Sc.rng; rw [hLo, hHi, ← hN]; exact Iff.rfl
        rw [hrg] at e2
        have HE1 := Lib.hid e1
        have HE2 := Lib.hid e2
        have HNN := Lib.hid hN; have HLO := Lib.hid hLo; have HHI := Lib.hid hHi
        have HPE := Lib.hid hPe
        have c9 := X.c9; have c10 := X.c10; have c11 := X.c11
        clear hst hfa hown hcq hpp hp e1 e2 hN hLo hHi hkl Y hrg hbq hPe
        go_wp2_with fail
        refine (rsoundN_is n.st n.al n.oc N HNN.out HPV.out _).mono ?_; rintro e z4 ⟨rfl, hb⟩
        clear c9 c10 c11
        replace QR := QR.below hb
        have Y := HY.out.below hb (Nat.lt_of_lt_of_le HBQ.out hR2.size)
        replace hR2 := hR2.trans (hb.mono hR2.size)
        clear hb X
        cases hcf : cF i with
        | true =>
          skip
          go_wp2_with fail
          have e2 : cF (i + 1) = true := HE2.out.2 (.inl hcf)
          go_roundw
          case rel => exact ⟨i + 1, by omega, by rw [HE1.out], by rw [e2], by simp, hR2⟩
          case measure => simp [intOf]; omega
        | false =>
          by_cases h1 : N < Lo
          · have q2 := QR.c2; rw [HPE.out] at q2; have y7 := Y.c7; have y8 := Y.c8; have y9 := Y.c9
            go_wp2_with fail
            clear q2 y7 y8 y9
            refine (rsoundN_is p.ls p.la p.lo Lo HLO.out HR1.out.1 _).mono ?_; rintro e z5 ⟨rfl, hb⟩
            replace QR := QR.below hb
            replace Y := Y.below hb (Nat.lt_of_lt_of_le HBQ.out hR2.size)
            replace hR2 := hR2.trans (hb.mono hR2.size)
            clear hb
            go_wp2_with fail
            have e2 : cF (i + 1) = true := HE2.out.2 (.inr (by omega))
            go_roundw
            case rel => exact ⟨i + 1, by omega, by rw [HE1.out], by rw [e2], by simp, hR2⟩
            case measure => simp [intOf]; omega
          · have q2 := QR.c2; rw [HPE.out] at q2; have y7 := Y.c7; have y8 := Y.c8; have y9 := Y.c9
            go_wp2_with fail
            clear q2 y7 y8 y9
            refine (rsoundN_is p.ls p.la p.lo Lo HLO.out HR1.out.1 _).mono ?_; rintro e z5 ⟨rfl, hb⟩
            replace QR := QR.below hb
            replace Y := Y.below hb (Nat.lt_of_lt_of_le HBQ.out hR2.size)
            replace hR2 := hR2.trans (hb.mono hR2.size)
            clear hb
            have q2 := QR.c2; rw [HPE.out] at q2; have y10 := Y.c10; have y11 := Y.c11; have y12 := Y.c12
            go_wp2_with fail
            clear q2 y10 y11 y12
            refine (rsoundN_is p.hs p.ha p.ho Hi HHI.out HR1.out.2.1 _).mono ?_; rintro e z6 ⟨rfl, hb⟩
            replace QR := QR.below hb
            replace Y := Y.below hb (Nat.lt_of_lt_of_le HBQ.out hR2.size)
            replace hR2 := hR2.trans (hb.mono hR2.size)
            clear hb
            by_cases h2 : Hi < N
            · go_wp2_with fail
              have e2 : cF (i + 1) = true := HE2.out.2 (.inr (by omega))
              go_roundw
              case rel => exact ⟨i + 1, by omega, by rw [HE1.out], by rw [e2], by simp, hR2⟩
              case measure => simp [intOf]; omega
            · go_wp2_with fail
              have e2 : cF (i + 1) = false := by
                cases h : cF (i + 1) with
                | false => rfl
                | true => exact (HE2.out.1 h).elim (fun h3 => by rw [hcf] at h3; cases h3) (fun h3 => absurd ⟨by omega, by omega⟩ h3)
              go_roundw
              case rel => exact ⟨i + 1, by omega, by rw [HE1.out], by rw [e2, decide_eq_false (show ¬ N < Lo by omega), decide_eq_false (show ¬ Hi < N by omega)]; rfl, by simp, hR2⟩
              case measure => simp [intOf]; omega
    · obtain rfl : i = len := by omega
      have hS1 := HSS.out.below hR; have hA1 := HAA.out.below hR; have hG1 := HGG.out.below hR; have QR := HQB.out.below hR
      have hlen : l.take i = l := by rw [← HN.out]; exact List.take_length
      have kS := HCS.out i; have kF := HCF.out i
      rw [hlen] at kS kF
      have hB1 := HB0.out.trans (hR.mono HB0.out.size)
      have q0 := QR.c0; have q1 := QR.c1; have q2 := QR.c2; have q3 := QR.c3; have ql := QR.lt
      have HKS := Lib.hid kS; have HKF := Lib.hid kF
      clear hlen kS kF
      go_wp2_with fail
      clear q0 q1 q2 q3 ql
      refine (swith_is s bs ps ns s.v l we _ _ _ HEI.out HN.out HW.out HWN.out _ hG1 hS1 hA1).mono ?_; rintro e z3 ⟨hb, s1, rfl, -⟩
      replace hB1 := hB1.trans (hb.mono hB1.size)
      clear hb QR hS1 hA1 hG1
      cases hcs : cS i with
      | true =>
        obtain rfl : we = 22 := HWE.out.symm.trans (Sc.wrong_stray (HKS.out.1 hcs))
        go_wp2_with fail
        go_ret
        exact ⟨rfl, hB1.alloc hB1.size _⟩
      | false =>
        have hns : ¬ Sc.stray ps l := fun h => by have := HKS.out.2 h; rw [hcs] at this; cases this
        cases hcf : cF i with
        | true =>
          obtain rfl : we = 20 := HWE.out.symm.trans (Sc.wrong_far hns (HKF.out.1 hcf))
          go_wp2_with fail
          go_ret
          exact ⟨rfl, hB1.alloc hB1.size _⟩
        | false =>
          obtain rfl : we = 0 := HWE.out.symm.trans (Sc.wrong_none hns (fun h => by have := HKF.out.2 h; rw [hcf] at this; cases this))
          go_wp2_with fail
          go_ret
          exact ⟨rfl, hB1.alloc hB1.size _⟩
end Go.Proofs.YtbbjifhelbeniaaGreatDoor
