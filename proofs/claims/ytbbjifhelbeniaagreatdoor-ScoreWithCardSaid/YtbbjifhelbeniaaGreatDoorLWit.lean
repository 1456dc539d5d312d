import Derived.Test.YtbbjifhelbeniaaGreatDoorGV
/- ScoreWith, call by call. -/
namespace Go.Proofs.YtbbjifhelbeniaaGreatDoor
open Go.RowKit

set_option maxRecDepth 100000 in
set_option maxHeartbeats 3200000 in
theorem scoreWith_walk (s : SH) (bs : List Mt.B) (ps : List Sc.Pt) (ns : List No.Nt) (hwf : WfS bs ps ns) (nv : Int) (A : Option Addr) (len cap : Nat) (l : List No.Nt) (hl : l.length = len) (hwn : No.Wf l) (w : World) (hG : Glob w) (hS : SlS w s bs ps ns) (hA : SlO w A l) :
    Calls Tryz.prog 6 #[.agg #[.int .i64 s.v, .slice s.B s.bl s.bc, .slice s.P s.pl s.pc, .slice s.N s.nl s.nc], .int .i64 nv, .slice A len cap] w fun e w' => e = .returned (.bool true) ∧ Below w.heap.size w w' := by
  have HW := Lib.hid hwf
  have HWN := Lib.hid hwn
  have HN := Lib.hid hl
  clear hwf hwn
  by_cases q1 : s.bl ≤ 60 ∧ s.pl ≤ 61 ∧ s.nl ≤ 60
  case neg =>
    have HF := Lib.hid q1
    clear q1 hl
    go_enter Tryz.func6, Tryz.ntmps6
    go_wp2_with fail
    have B := Below.refl w.heap.size w
    refine (head_any _ (hG.alloc _)).mono ?_; rintro e w1 ⟨rfl, hb⟩
    replace hS := (hS.alloc _).below hb
    replace hA := (hA.alloc _).below hb
    have Q := (ScB.new _ s).below hb
    replace hG := (hG.alloc _).below hb
    replace B := (B.alloc (by have := B.size; simp <;> omega) _).trans (hb.mono (by have := B.size; simp <;> omega))
    clear hb
    have lQ := Q.lt; have cQ0 := Q.c0; have cQ1 := Q.c1; have cQ2 := Q.c2; have cQ3 := Q.c3
    go_wp2_with fail
    refine (rfew_is s false ⟨(fun h => by cases h), fun h => absurd h HF.out⟩ _).mono ?_; rintro e w2 ⟨rfl, hb⟩
    replace hS := hS.below hb
    replace hA := hA.below hb
    replace Q := Q.below hb
    replace hG := hG.below hb
    replace B := B.trans (hb.mono (by have := B.size; simp <;> omega))
    clear hb lQ cQ0 cQ1 cQ2 cQ3
    have lQ := Q.lt; have cQ0 := Q.c0; have cQ1 := Q.c1; have cQ2 := Q.c2; have cQ3 := Q.c3
    go_wp2_with fail
    go_ret
    exact ⟨rfl, B⟩
  have HF := Lib.hid q1
  by_cases q2 : len ≤ 60
  case neg =>
    have h60 : (len : Int) > 60 := by omega
    clear q1 q2 hl
    go_enter Tryz.func6, Tryz.ntmps6
    go_wp2_with fail
    have B := Below.refl w.heap.size w
    refine (head_any _ (hG.alloc _)).mono ?_; rintro e w1 ⟨rfl, hb⟩
    replace hS := (hS.alloc _).below hb
    replace hA := (hA.alloc _).below hb
    have Q := (ScB.new _ s).below hb
    replace hG := (hG.alloc _).below hb
    replace B := (B.alloc (by have := B.size; simp <;> omega) _).trans (hb.mono (by have := B.size; simp <;> omega))
    clear hb
    have lQ := Q.lt; have cQ0 := Q.c0; have cQ1 := Q.c1; have cQ2 := Q.c2; have cQ3 := Q.c3
    go_wp2_with fail
    refine (rfew_is s true ⟨fun _ => HF.out, fun _ => rfl⟩ _).mono ?_; rintro e w2 ⟨rfl, hb⟩
    replace hS := hS.below hb
    replace hA := hA.below hb
    replace Q := Q.below hb
    replace hG := hG.below hb
    replace B := B.trans (hb.mono (by have := B.size; simp <;> omega))
    clear hb lQ cQ0 cQ1 cQ2 cQ3
    have lQ := Q.lt; have cQ0 := Q.c0; have cQ1 := Q.c1; have cQ2 := Q.c2; have cQ3 := Q.c3
    go_wp2_with fail
    go_ret
    exact ⟨rfl, B⟩
  have h60 : ¬ (len : Int) > 60 := by omega
  by_cases q3 : Sc.Val s.v bs ps ns
  case neg =>
    have HV := Lib.hid q3
    clear q1 q2 q3 hl
    go_enter Tryz.func6, Tryz.ntmps6
    go_wp2_with fail
    have B := Below.refl w.heap.size w
    refine (head_any _ (hG.alloc _)).mono ?_; rintro e w1 ⟨rfl, hb⟩
    replace hS := (hS.alloc _).below hb
    replace hA := (hA.alloc _).below hb
    have Q := (ScB.new _ s).below hb
    replace hG := (hG.alloc _).below hb
    replace B := (B.alloc (by have := B.size; simp <;> omega) _).trans (hb.mono (by have := B.size; simp <;> omega))
    clear hb
    have lQ := Q.lt; have cQ0 := Q.c0; have cQ1 := Q.c1; have cQ2 := Q.c2; have cQ3 := Q.c3
    go_wp2_with fail
    refine (rfew_is s true ⟨fun _ => HF.out, fun _ => rfl⟩ _).mono ?_; rintro e w2 ⟨rfl, hb⟩
    replace hS := hS.below hb
    replace hA := hA.below hb
    replace Q := Q.below hb
    replace hG := hG.below hb
    replace B := B.trans (hb.mono (by have := B.size; simp <;> omega))
    clear hb lQ cQ0 cQ1 cQ2 cQ3
    have lQ := Q.lt; have cQ0 := Q.c0; have cQ1 := Q.c1; have cQ2 := Q.c2; have cQ3 := Q.c3
    go_wp2_with fail
    refine (rval_is s bs ps ns false ⟨(fun h => by cases h), fun h => absurd h HV.out⟩ _ hS).mono ?_; rintro e w3 ⟨rfl, hb⟩
    replace hS := hS.below hb
    replace hA := hA.below hb
    replace Q := Q.below hb
    replace hG := hG.below hb
    replace B := B.trans (hb.mono (by have := B.size; simp <;> omega))
    clear hb lQ cQ0 cQ1 cQ2 cQ3
    have lQ := Q.lt; have cQ0 := Q.c0; have cQ1 := Q.c1; have cQ2 := Q.c2; have cQ3 := Q.c3
    go_wp2_with fail
    go_ret
    exact ⟨rfl, B⟩
  have HV := Lib.hid q3
  by_cases q4 : nv < 1
  case pos =>
    clear q1 q2 q3 hl
    go_enter Tryz.func6, Tryz.ntmps6
    go_wp2_with fail
    have B := Below.refl w.heap.size w
    refine (head_any _ (hG.alloc _)).mono ?_; rintro e w1 ⟨rfl, hb⟩
    replace hS := (hS.alloc _).below hb
    replace hA := (hA.alloc _).below hb
    have Q := (ScB.new _ s).below hb
    replace hG := (hG.alloc _).below hb
    replace B := (B.alloc (by have := B.size; simp <;> omega) _).trans (hb.mono (by have := B.size; simp <;> omega))
    clear hb
    have lQ := Q.lt; have cQ0 := Q.c0; have cQ1 := Q.c1; have cQ2 := Q.c2; have cQ3 := Q.c3
    go_wp2_with fail
    refine (rfew_is s true ⟨fun _ => HF.out, fun _ => rfl⟩ _).mono ?_; rintro e w2 ⟨rfl, hb⟩
    replace hS := hS.below hb
    replace hA := hA.below hb
    replace Q := Q.below hb
    replace hG := hG.below hb
    replace B := B.trans (hb.mono (by have := B.size; simp <;> omega))
    clear hb lQ cQ0 cQ1 cQ2 cQ3
    have lQ := Q.lt; have cQ0 := Q.c0; have cQ1 := Q.c1; have cQ2 := Q.c2; have cQ3 := Q.c3
    go_wp2_with fail
    refine (rval_is s bs ps ns true ⟨fun _ => HV.out, fun _ => rfl⟩ _ hS).mono ?_; rintro e w3 ⟨rfl, hb⟩
    replace hS := hS.below hb
    replace hA := hA.below hb
    replace Q := Q.below hb
    replace hG := hG.below hb
    replace B := B.trans (hb.mono (by have := B.size; simp <;> omega))
    clear hb lQ cQ0 cQ1 cQ2 cQ3
    have lQ := Q.lt; have cQ0 := Q.c0; have cQ1 := Q.c1; have cQ2 := Q.c2; have cQ3 := Q.c3
    go_wp2_with fail
    go_ret
    exact ⟨rfl, B⟩
  by_cases q5 : 1000000 < nv
  case pos =>
    clear q1 q2 q3 hl
    go_enter Tryz.func6, Tryz.ntmps6
    go_wp2_with fail
    have B := Below.refl w.heap.size w
    refine (head_any _ (hG.alloc _)).mono ?_; rintro e w1 ⟨rfl, hb⟩
    replace hS := (hS.alloc _).below hb
    replace hA := (hA.alloc _).below hb
    have Q := (ScB.new _ s).below hb
    replace hG := (hG.alloc _).below hb
    replace B := (B.alloc (by have := B.size; simp <;> omega) _).trans (hb.mono (by have := B.size; simp <;> omega))
    clear hb
    have lQ := Q.lt; have cQ0 := Q.c0; have cQ1 := Q.c1; have cQ2 := Q.c2; have cQ3 := Q.c3
    go_wp2_with fail
    refine (rfew_is s true ⟨fun _ => HF.out, fun _ => rfl⟩ _).mono ?_; rintro e w2 ⟨rfl, hb⟩
    replace hS := hS.below hb
    replace hA := hA.below hb
    replace Q := Q.below hb
    replace hG := hG.below hb
    replace B := B.trans (hb.mono (by have := B.size; simp <;> omega))
    clear hb lQ cQ0 cQ1 cQ2 cQ3
    have lQ := Q.lt; have cQ0 := Q.c0; have cQ1 := Q.c1; have cQ2 := Q.c2; have cQ3 := Q.c3
    go_wp2_with fail
    refine (rval_is s bs ps ns true ⟨fun _ => HV.out, fun _ => rfl⟩ _ hS).mono ?_; rintro e w3 ⟨rfl, hb⟩
    replace hS := hS.below hb
    replace hA := hA.below hb
    replace Q := Q.below hb
    replace hG := hG.below hb
    replace B := B.trans (hb.mono (by have := B.size; simp <;> omega))
    clear hb lQ cQ0 cQ1 cQ2 cQ3
    have lQ := Q.lt; have cQ0 := Q.c0; have cQ1 := Q.c1; have cQ2 := Q.c2; have cQ3 := Q.c3
    go_wp2_with fail
    go_ret
    exact ⟨rfl, B⟩
  have hbl := hS.bl; have hpl := hS.pl; have hnl := hS.nl
  have HNV := Lib.hid (show 1 ≤ nv ∧ nv ≤ 1000000 by omega)
  obtain ⟨sv, sB, bl, bc, sP, pl, pc, sN, nl, nc⟩ := s
  dsimp only at hbl hpl hnl HF HV q1 q3 ⊢
  have HLEN := Lib.hid (And.intro hbl (And.intro hpl hnl))
  have hn60 : (nl : Int) ≤ 60 := by omega
  have HMX := Lib.hid (show bl ≤ 1000000 ∧ pl ≤ 1000000 ∧ nl ≤ 1000000 by omega)
  have HRV := Lib.hid (Sc.srt_rev q3)
  have HRW : Hid (WithI (Sc.Val sv bs ps ns ∧ (1 ≤ nv ∧ nv ≤ 1000000) ∧ No.Val bs ns.reverse) (Sc.wrong ps ns.reverse) 0) := Lib.hid (.inr ⟨⟨q3, HNV.out, No.vperm q3.notes (List.reverse_perm ns)⟩, by rw [Sc.wrong_perm (List.reverse_perm ns), q3.wrong]⟩)
  obtain ⟨eW, hWI⟩ := withi_ex (Sc.Val sv bs ps ns ∧ (1 ≤ nv ∧ nv ≤ 1000000) ∧ No.Val bs l) (Sc.wrong ps l)
  obtain ⟨v', bs', ps', ns', hWL⟩ := wil_ex eW nv bs ps (No.srt (No.lt bs) l)
  have HWI := Lib.hid hWI; have HWL := Lib.hid hWL
  obtain ⟨i0, hi0, hz0, hz1, hz2⟩ := info_parts infoNote
  have HI0 := Lib.hid (And.intro hi0 (And.intro hz0 (And.intro hz1 hz2)))
  clear hi0 hz0 hz1 hz2 hWI hWL hbl hpl hnl q1 q3 hl
  go_enter Tryz.func6, Tryz.ntmps6
  go_wp2_with fail
  have B := Below.refl w.heap.size w
  refine (head_any _ (hG.alloc _)).mono ?_; rintro e w1 ⟨rfl, hb⟩
  replace hS := (hS.alloc _).below hb
  replace hA := (hA.alloc _).below hb
  have Q := (ScB.new _ (⟨sv, sB, bl, bc, sP, pl, pc, sN, nl, nc⟩ : SH)).below hb
  replace hG := (hG.alloc _).below hb
  replace B := (B.alloc (by have := B.size; simp <;> omega) _).trans (hb.mono (by have := B.size; simp <;> omega))
  clear hb
  have lQ := Q.lt; have cQ0 := Q.c0; have cQ1 := Q.c1; have cQ2 := Q.c2; have cQ3 := Q.c3
  dsimp only at cQ0 cQ1 cQ2 cQ3
  go_wp2_with fail
  refine (rfew_is (⟨sv, sB, bl, bc, sP, pl, pc, sN, nl, nc⟩ : SH) true ⟨fun _ => HF.out, fun _ => rfl⟩ _).mono ?_; rintro e w2 ⟨rfl, hb⟩
  replace hS := hS.below hb
  replace hA := hA.below hb
  replace Q := Q.below hb
  replace hG := hG.below hb
  replace B := B.trans (hb.mono (by have := B.size; simp <;> omega))
  clear hb lQ cQ0 cQ1 cQ2 cQ3
  have lQ := Q.lt; have cQ0 := Q.c0; have cQ1 := Q.c1; have cQ2 := Q.c2; have cQ3 := Q.c3
  dsimp only at cQ0 cQ1 cQ2 cQ3
  go_wp2_with fail
  refine (rval_is (⟨sv, sB, bl, bc, sP, pl, pc, sN, nl, nc⟩ : SH) bs ps ns true ⟨fun _ => HV.out, fun _ => rfl⟩ _ hS).mono ?_; rintro e w3 ⟨rfl, hb⟩
  replace hS := hS.below hb
  replace hA := hA.below hb
  replace Q := Q.below hb
  replace hG := hG.below hb
  replace B := B.trans (hb.mono (by have := B.size; simp <;> omega))
  clear hb lQ cQ0 cQ1 cQ2 cQ3
  have lQ := Q.lt; have cQ0 := Q.c0; have cQ1 := Q.c1; have cQ2 := Q.c2; have cQ3 := Q.c3
  dsimp only at cQ0 cQ1 cQ2 cQ3
  go_wp2_with fail
  clear lQ cQ0 cQ1 cQ2 cQ3
  have HSS := Lib.hid hS; have HGG := Lib.hid hG; have HQB := Lib.hid Q; have HB0 := Lib.hid B; have HAA := Lib.hid hA
  have q0 := Q.c0; have q1 := Q.c1; have q2 := Q.c2; have q3 := Q.c3; have ql := Q.lt; dsimp only at q0 q1 q2 q3
  go_wp2_with fail
  clear q0 q1 q2 q3 ql
  clear hS hG Q B hA
  go_loopw [8, 9] (fun s8 s9 wr => ∃ (k : Nat), k ≤ nl ∧ s9 = .int .i64 ((nl : Int) - 1 - (k : Int)) ∧ Hid (wr.ownsRow w3.heap.size 51 12 s8 k (vO (ns.reverse.take k))) ∧ Below w3.heap.size w3 wr) (fun _ s9 _ => (intOf s9 + 1).toNat)
  case atStart => exact ⟨0, Nat.zero_le _, by simp, Lib.hid (World.ownsRow_nil _ _ _ _), Below.refl _ _⟩
  case round =>
    obtain ⟨k, hk, rfl, HOW, hR⟩ := hrel
    have QR := HQB.out.below hR
    have q0 := QR.c0; have q1 := QR.c1; have q2 := QR.c2; have q3 := QR.c3; have ql := QR.lt; dsimp only at q0 q1 q2 q3
    by_cases hlt : k < nl
    · have hx : nl - 1 - k < ns.length := by have := HLEN.out.2.2; omega
      obtain ⟨bn, ofn, hNe, hbn, hcN⟩ := HSS.out.sn (by omega)
      have hNe : sN = some ⟨bn, ofn, none⟩ := hNe
      subst hNe
      have X := (hcN (nl - 1 - k) hx).below hR hbn
      obtain ⟨n, hn⟩ : ∃ n, atO ns (nl - 1 - k) = n := ⟨_, rfl⟩
      have hst := No.rev_step (l := ns) (k := k) (by have := HLEN.out.2.2; omega)
      rw [HLEN.out.2.2, hn] at hst
      rw [hn] at X
      have HST := Lib.hid hst
      obtain ⟨j, hj⟩ : ∃ j, nl - 1 - k = j := ⟨_, rfl⟩
      rw [hj] at X
      have hjk : (nl : Int) - 1 - (k : Int) = (j : Int) := by omega
      have hj1 : (j : Int) < (nl : Int) := by omega
      have hj0 : (0 : Int) ≤ (j : Int) := by omega
      obtain ⟨c0, c1, c2, c3, c4, c5, c6, c7, c8, c9, c10, c11⟩ := X
      rw [Nat.add_zero] at c0
      have hnew := newO wr n
      have hkeep := HOW.out.kept (obelow_grown ((Below.refl wr.heap.size wr).alloc (Nat.le_refl _) (.cells #[.int .i64 n.id, .int .i64 n.pa, .int .i64 n.ba, .int .i64 n.vo, .int .i64 n.os, .int .i64 n.sn, .int .i64 n.sd, .int .i64 n.ln, .int .i64 n.ld, .int .i64 n.st, .int .i64 n.al, .int .i64 n.oc] 51)) none) onone_ne
      have HJK := Lib.hid hjk
      rw [hjk]
      clear hcN hx hn hst hj hjk
      go_wp2_with (first | (at_builtin; go_loud (refine wpList_append_own (World.alloc wr (.cells #[.int .i64 n.id, .int .i64 n.pa, .int .i64 n.ba, .int .i64 n.vo, .int .i64 n.os, .int .i64 n.sn, .int .i64 n.sd, .int .i64 n.ln, .int .i64 n.ld, .int .i64 n.st, .int .i64 n.al, .int .i64 n.oc] 51)) rfl _ _ 24 rfl w3.heap.size 51 i0 (.agg #[.int .i64 0, .int .i64 0, .int .i64 0, .int .i64 0, .int .i64 0, .int .i64 0, .int .i64 0, .int .i64 0, .int .i64 0, .int .i64 0, .int .i64 0, .int .i64 0]) 12 96 Tryz.underlying24 HI0.out.1 HI0.out.2.1 HI0.out.2.2.1 HI0.out.2.2.2 rfl (by decide) _ k (vO (ns.reverse.take k)) rfl hkeep ⟨wr.heap.size, 0, none⟩ 1 1 (rowO n) rfl rfl hnew (rowO_cells n) (by unfold maxLen; omega) (by omega) (by have h1 := hR.size; simp; omega) ?_; intro v5 w5 hown5 hgrow5 hnil5)) | fail)
      clear c0 c1 c2 c3 c4 c5 c6 c7 c8 c9 c10 c11 q0 q1 q2 q3 ql
      have hR5 := (hR.alloc hR.size (.cells #[.int .i64 n.id, .int .i64 n.pa, .int .i64 n.ba, .int .i64 n.vo, .int .i64 n.os, .int .i64 n.sn, .int .i64 n.sd, .int .i64 n.ln, .int .i64 n.ld, .int .i64 n.st, .int .i64 n.al, .int .i64 n.oc] 51)).grown hgrow5 (by have h1 := hR.size; simp; omega) (oown_ne hkeep)
      have HOW5 := Lib.hid hown5
      have HR5 := Lib.hid hR5
      clear hown5 hgrow5 hnil5 hR5 hnew hkeep
      go_roundw
      case rel => exact ⟨k + 1, by omega, by have h := HJK.out; simp <;> omega, Lib.hid (by rw [HST.out, vO_app, vO_one]; exact HOW5.out), HR5.out⟩
      case measure => have h := HJK.out; simp [intOf] <;> omega
    · obtain rfl : k = nl := by omega
      have hT : ns.reverse.take k = ns.reverse := by rw [List.take_of_length_le (by rw [List.length_reverse, HLEN.out.2.2]; exact Nat.le_refl _)]
      have hO := HOW.out
      rw [hT] at hO
      obtain ⟨D, dc, rfl, hD⟩ := own_so hO
      have hS := HSS.out.below hR; have hG := HGG.out.below hR; have hA := HAA.out.below hR; have B := HB0.out.trans (hR.mono HB0.out.size)
      have hneg : ¬ (k : Int) - 1 - (k : Int) ≥ 0 := by omega
      have HHD := Lib.hid hD
      clear hT hO HOW hD
      go_wp2_with fail
      clear q0 q1 q2 q3 ql
      have R := hR
      clear hS hG hA B QR hR
      refine (swith_is (⟨sv, sB, bl, bc, sP, pl, pc, sN, k, nc⟩ : SH) bs ps ns nv ns.reverse 0 k dc D HRW.out (by rw [List.length_reverse]; exact HLEN.out.2.2) HW.out (No.wf_perm HW.out.n (List.reverse_perm ns)) _ (HGG.out.below R) (HSS.out.below R) HHD.out).mono ?_; rintro e z1 ⟨hb, s1, rfl, hr1⟩
      obtain ⟨hv1, S1, -⟩ := hr1.ok rfl
      rw [HRV.out] at S1
      have HV1 := Lib.hid hv1
      replace R := R.trans (hb.mono R.size)
      clear hb hr1 hv1
      have hx1b := R.size
      have Q1 := ScV.new z1 s1
      replace S1 := S1.alloc (.cells #[.int .i64 s1.v, .slice s1.B s1.bl s1.bc, .slice s1.P s1.pl s1.pc, .slice s1.N s1.nl s1.nc] 26); replace R := R.alloc R.size (.cells #[.int .i64 s1.v, .slice s1.B s1.bl s1.bc, .slice s1.P s1.pl s1.pc, .slice s1.N s1.nl s1.nc] 26)
      obtain ⟨y1, hy1⟩ : ∃ y1, z1.alloc (.cells #[.int .i64 s1.v, .slice s1.B s1.bl s1.bc, .slice s1.P s1.pl s1.pc, .slice s1.N s1.nl s1.nc] 26) = y1 := ⟨_, rfl⟩
      rw [hy1] at Q1 S1 R
      have QR := HQB.out.below R; have q0 := QR.c0; have q1 := QR.c1; have q2 := QR.c2; have q3 := QR.c3; have ql := QR.lt; dsimp only at q0 q1 q2 q3
      go_wp2_with fail
      clear q0 q1 q2 q3 ql QR
      obtain ⟨x1, hx1⟩ : ∃ x1, z1.heap.size = x1 := ⟨_, rfl⟩
      rw [hx1] at Q1 hx1b
      simp only [hx1]
      have HX1B := Lib.hid hx1b
      clear hx1 hy1 hx1b
      refine (swithL_is (⟨sv, sB, bl, bc, sP, pl, pc, sN, k, nc⟩ : SH) bs ps ns nv l eW len cap A v' bs' ps' ns' HWI.out HWL.out HN.out HW.out HWN.out _ (HGG.out.below R) (HSS.out.below R) (HAA.out.below R)).mono ?_; rintro e z2 ⟨s2, rfl, hv2, S2, hb⟩
      replace Q1 := Q1.below hb; replace S1 := S1.below hb; replace R := R.trans (hb.mono R.size)
      clear hb
      have HV2 := Lib.hid hv2
      clear hv2
      have hx2 : x1 < z2.heap.size := Q1.at_.lt
      have Q2 := ScV.new z2 s2
      replace Q1 := Q1.alloc (.cells #[.int .i64 s2.v, .slice s2.B s2.bl s2.bc, .slice s2.P s2.pl s2.pc, .slice s2.N s2.nl s2.nc] 26); replace S1 := S1.alloc (.cells #[.int .i64 s2.v, .slice s2.B s2.bl s2.bc, .slice s2.P s2.pl s2.pc, .slice s2.N s2.nl s2.nc] 26); replace S2 := S2.alloc (.cells #[.int .i64 s2.v, .slice s2.B s2.bl s2.bc, .slice s2.P s2.pl s2.pc, .slice s2.N s2.nl s2.nc] 26); replace R := R.alloc R.size (.cells #[.int .i64 s2.v, .slice s2.B s2.bl s2.bc, .slice s2.P s2.pl s2.pc, .slice s2.N s2.nl s2.nc] 26)
      obtain ⟨y2, hy2⟩ : ∃ y2, z2.alloc (.cells #[.int .i64 s2.v, .slice s2.B s2.bl s2.bc, .slice s2.P s2.pl s2.pc, .slice s2.N s2.nl s2.nc] 26) = y2 := ⟨_, rfl⟩
      rw [hy2] at Q2 Q1 S1 S2 R
      have QR := HQB.out.below R; have q0 := QR.c0; have q1 := QR.c1; have q2 := QR.c2; have q3 := QR.c3; have ql := QR.lt; dsimp only at q0 q1 q2 q3
      have hx3 : z2.heap.size < y2.heap.size := Q2.at_.lt
      have Q3 := ScV.new y2 (⟨sv, sB, bl, bc, sP, pl, pc, sN, k, nc⟩ : SH)
      dsimp only at Q3
      replace Q1 := Q1.alloc (.cells #[.int .i64 sv, .slice sB bl bc, .slice sP pl pc, .slice sN k nc] 26); replace Q2 := Q2.alloc (.cells #[.int .i64 sv, .slice sB bl bc, .slice sP pl pc, .slice sN k nc] 26); replace S1 := S1.alloc (.cells #[.int .i64 sv, .slice sB bl bc, .slice sP pl pc, .slice sN k nc] 26); replace S2 := S2.alloc (.cells #[.int .i64 sv, .slice sB bl bc, .slice sP pl pc, .slice sN k nc] 26); replace R := R.alloc R.size (.cells #[.int .i64 sv, .slice sB bl bc, .slice sP pl pc, .slice sN k nc] 26)
      obtain ⟨y3, hy3⟩ : ∃ y3, y2.alloc (.cells #[.int .i64 sv, .slice sB bl bc, .slice sP pl pc, .slice sN k nc] 26) = y3 := ⟨_, rfl⟩
      rw [hy3] at Q3 Q1 Q2 S1 S2 R
      have l3 := Q3.at_.lt; have g3 := Q3.f 0; have v3 := Q3.at_.c0; dsimp only at v3
      have n13 : x1 ≠ y2.heap.size := by omega
      have n23 : z2.heap.size ≠ y2.heap.size := by omega
      have S3 := (HSS.out.below R).set1 Q3 0 (.int .i64 nv)
      replace S1 := S1.set1 Q3 0 (.int .i64 nv); replace S2 := S2.set1 Q3 0 (.int .i64 nv)
      replace Q1 := Q1.ne n13 0 (.int .i64 nv); replace Q2 := Q2.ne n23 0 (.int .i64 nv); replace Q3 := Q3.vn nv
      replace R := R.setCell (p := ⟨y2.heap.size, 0, none⟩) (by have := HX1B.out; show w3.heap.size ≤ y2.heap.size; omega) (.int .i64 nv)
      obtain ⟨y4, hy4⟩ : ∃ y4, y3.setCell ⟨y2.heap.size, 0, none⟩ (.int .i64 nv) = y4 := ⟨_, rfl⟩
      rw [hy4] at Q3 Q1 Q2 S1 S2 S3 R
      dsimp only at Q3
      have u0 := Q1.at_.c0; have u1 := Q1.at_.c1; have u2 := Q1.at_.c2; have u3 := Q1.at_.c3
      have t0 := Q3.at_.c0; have t1 := Q3.at_.c1; have t2 := Q3.at_.c2; have t3 := Q3.at_.c3; dsimp only at t0 t1 t2 t3
      go_wp2_with fail
      clear q0 q1 q2 q3 ql QR l3 g3 v3 u0 u1 u2 u3 t0 t1 t2 t3
      clear hx2 hx3 n13 n23
      have S4 : SlS y4 (⟨nv, sB, bl, bc, sP, pl, pc, sN, k, nc⟩ : SH) bs ps ns := ⟨S3.bl, S3.pl, S3.nl, S3.sb, S3.sp, S3.sn⟩
      refine (rsameS_is s1 (⟨nv, sB, bl, bc, sP, pl, pc, sN, k, nc⟩ : SH) bs ps ns HV1.out ⟨by rw [← S1.bl, HLEN.out.1]; exact HMX.out.1, by rw [← S1.pl, HLEN.out.2.1]; exact HMX.out.2.1, by rw [← S1.nl, HLEN.out.2.2]; exact HMX.out.2.2⟩ _ S1 S4).mono ?_; rintro e z3 ⟨rfl, hb⟩
      clear S1 S3 S4 Q1 Q3
      replace Q2 := Q2.below hb; replace S2 := S2.below hb; replace R := R.trans (hb.mono R.size)
      clear hb
      clear hy2 hy3 hy4
      obtain ⟨vy, hvy⟩ : ∃ vy, z2.heap.size = vy := ⟨_, rfl⟩
      rw [hvy] at Q2
      simp only [hvy]
      clear hvy
      by_cases he : eW = 0
      case neg =>
        have hee : (eW != 0) = true := by simpa using he
        obtain ⟨e1, e2, e3, e4⟩ := HWL.out.no he
        rw [e2, e3, e4] at S2
        have HV3 : Hid (s2.v = SH.zero.v) := Lib.hid (HV2.out.trans e1)
        have u0 := Q2.at_.c0; have u1 := Q2.at_.c1; have u2 := Q2.at_.c2; have u3 := Q2.at_.c3
        clear he e1 e2 e3 e4
        go_wp2_with fail
        refine (rsameS_is s2 SH.zero [] [] [] HV3.out ⟨by rw [← S2.bl]; decide, by rw [← S2.pl]; decide, by rw [← S2.nl]; decide⟩ _ S2 (sls_nil _)).mono ?_; rintro e z4 ⟨rfl, hb⟩
        replace R := R.trans (hb.mono R.size)
        clear hb u0 u1 u2 u3
        go_wp2_with fail
        refine (svalid_is SH.zero [] [] [] false ⟨(fun h => by cases h), fun h => absurd h h_no⟩ wfs_nil _ (HGG.out.below R) (sls_nil _)).mono ?_; rintro e z5 ⟨rfl, hb⟩
        replace R := R.trans (hb.mono R.size)
        clear hb
        go_wp2_with fail
        go_ret
        exact ⟨rfl, HB0.out.trans (R.mono HB0.out.size)⟩
      subst he
      obtain ⟨e1, e2, e3, e4⟩ := HWL.out.ok rfl
      rw [e2, e3, e4] at S2
      have e5 := HV2.out.trans e1
      have hWE : No.Val bs l ∧ Sc.wrong ps l = 0 := by
        rcases HWI.out with ⟨_, h⟩ | ⟨h1, h2⟩
        · cases h
        · exact ⟨h1.2.2, h2.symm⟩
      have HLV := Lib.hid hWE.1
      have HSV := Lib.hid (HV.out.sorted HNV.out hWE.1 hWE.2)
      have hbl2 := S2.bl; have hpl2 := S2.pl; have hnl2 := S2.nl
      rw [HLEN.out.1] at hbl2; rw [HLEN.out.2.1] at hpl2; rw [(No.srt_perm l).length_eq, HN.out] at hnl2
      obtain ⟨v2, B2, bl2, bc2, P2, pl2, pc2, N2, nl2, nc2⟩ := s2
      dsimp only at hbl2 hpl2 hnl2 e5 Q2
      subst hbl2 hpl2 hnl2 e5
      have S2 : SlS z3 (⟨v2, B2, bl, bc2, P2, pl, pc2, N2, len, nc2⟩ : SH) bs ps (No.srt (No.lt bs) l) := S2
      have HS2 := Lib.hid S2; have HQ2 := Lib.hid Q2; have HRR := Lib.hid R
      have HSL : Hid ((No.srt (No.lt bs) l).length = len) := Lib.hid S2.nl
      clear e1 e2 e3 e4 hWE S2 Q2 R HWL HWI HV2
      go_wp2_with fail
      go_loopw [15] (fun s15 wr => ∃ (i : Nat), i ≤ len ∧ s15 = .int .i64 (i : Int) ∧ Below z3.heap.size z3 wr) (fun s15 _ => len - (intOf s15).toNat)
      case atStart => exact ⟨0, Nat.zero_le _, rfl, Below.refl _ _⟩
      case round =>
        obtain ⟨i, hi, rfl, hT⟩ := hrel
        by_cases hlt : i < len
        · have hx : i < l.length := by rw [HN.out]; exact hlt
          obtain ⟨ba, ofa, rfl, hba, hcA⟩ := HAA.out (by omega)
          obtain ⟨b2, of2, hNe, hb2, hc2⟩ := HS2.out.sn (by rw [HSL.out]; omega)
          have hNe : N2 = some ⟨b2, of2, none⟩ := hNe
          subst hNe
          have hR2 := HRR.out.trans (hT.mono HRR.out.size)
          obtain ⟨n, hn⟩ : ∃ n, atO l i = n := ⟨_, rfl⟩
          have X := (hcA i hx).below hR2 hba
          have hni := Sc.nix_in HSV.out.notes.2.2.2 (No.srt_perm (lt := No.lt bs) l) hx
          rw [hn] at X hni
          obtain ⟨r, hr⟩ : ∃ r, Sc.nix (No.srt (No.lt bs) l) n.id = r := ⟨_, rfl⟩
          rw [hr] at hni
          obtain ⟨h1, h2, h3⟩ := hni
          obtain ⟨j, rfl⟩ : ∃ j : Nat, r = j := ⟨r.toNat, by omega⟩
          rw [show ((j : Int)).toNat = j from rfl] at h3
          rw [HSL.out] at h2
          have hj1 : (j : Int) < (len : Int) := h2
          have hj0 : decide ((j : Int) < 0) = false := decide_eq_false (by omega)
          have hi1 : (i : Int) < (len : Int) := by omega
          have hi2 : (len : Int) ≤ 60 := by omega
          have Y := (hc2 j (by rw [HSL.out]; omega)).below hT hb2
          rw [h3] at Y
          have QY := HQ2.out.below hT
          have HRJ := Lib.hid hr; have HX := Lib.hid X; have HY := Lib.hid Y
          have HBA := Lib.hid hba; have HB2 := Lib.hid hb2
          have z0 : wr.cell? ⟨ba, ofa + i * 12, none⟩ = some (.int .i64 n.id) := X.c0
          have x0 := fun y : Ext wr => y.cell z0
          have x1 := fun y : Ext wr => y.cell QY.at_.c3
          dsimp only at x1
          have hne := Ext.there wr
          clear hcA hc2 hx hn hr h1 h2 h3 z0 X Y
          go_wp2_with fail
          refine Ext.region (by kernel_rfl) (by kernel_rfl) ?_
          repeat (go_big_quiet_step ((go_at_call 27; exact Ext.call _ (rnoteat_is (No.srt (No.lt bs) l) n.id (j : Int) _ _ _ HRJ.out HSL.out (by omega) _ ((HS2.out.below (hT.trans ((Ext.h _).mono hT.size))).sn)))))
          refine wpQuiet_nil ?_
          rintro _ ⟨xw, rfl⟩
          have hb := xw.h
          replace QY := QY.below hb
          have hT2 := hT.trans (hb.mono hT.size)
          have X := HX.out.below hb (Nat.lt_of_lt_of_le HBA.out hR2.size)
          have Y := HY.out.below hb (Nat.lt_of_lt_of_le HB2.out hT.size)
          clear hb x0 x1 hne hR2
          generalize xw.w = z6 at *
          clear xw
          have z0 : z6.cell? ⟨ba, ofa + i * 12, none⟩ = some (.int .i64 n.id) := X.c0
          have z1' : z6.cell? ⟨b2, of2 + j * 12, none⟩ = some (.int .i64 n.id) := Y.c0
          have x0 := fun y : Ext z6 => y.cell z0
          have y0 := fun y : Ext z6 => y.cell z1'
          have x1 := fun y : Ext z6 => y.cell X.c1; have y1 := fun y : Ext z6 => y.cell Y.c1
          have x2 := fun y : Ext z6 => y.cell X.c2; have y2 := fun y : Ext z6 => y.cell Y.c2
          have x3 := fun y : Ext z6 => y.cell X.c3; have y3 := fun y : Ext z6 => y.cell Y.c3
          have x4 := fun y : Ext z6 => y.cell X.c4; have y4 := fun y : Ext z6 => y.cell Y.c4
          have x5 := fun y : Ext z6 => y.cell X.c5; have y5 := fun y : Ext z6 => y.cell Y.c5
          have x6 := fun y : Ext z6 => y.cell X.c6; have y6 := fun y : Ext z6 => y.cell Y.c6
          have x7 := fun y : Ext z6 => y.cell X.c7; have y7 := fun y : Ext z6 => y.cell Y.c7
          have x8 := fun y : Ext z6 => y.cell X.c8; have y8 := fun y : Ext z6 => y.cell Y.c8
          have x9 := fun y : Ext z6 => y.cell X.c9; have y9 := fun y : Ext z6 => y.cell Y.c9
          have x10 := fun y : Ext z6 => y.cell X.c10; have y10 := fun y : Ext z6 => y.cell Y.c10
          have x11 := fun y : Ext z6 => y.cell X.c11; have y11 := fun y : Ext z6 => y.cell Y.c11
          have x12 := fun y : Ext z6 => y.cell QY.at_.c3
          dsimp only at x12
          have hne := Ext.there z6
          clear X Y z0 z1'
          go_wp2_with fail
          have heq := fun W => eqNote n n true ⟨fun _ => rfl, fun _ => rfl⟩ W
          refine Ext.region (by kernel_rfl) (by kernel_rfl) ?_
          repeat (go_big_quiet_step (simp only [heq]))
          refine wpQuiet_nil ?_
          rintro _ ⟨xw, rfl⟩
          have hb := xw.h
          replace hT2 := hT2.trans (hb.mono hT2.size)
          clear hb x0 y0 x1 y1 x2 y2 x3 y3 x4 y4 x5 y5 x6 y6 x7 y7 x8 y8 x9 y9 x10 y10 x11 y11 x12 hne heq QY
          generalize xw.w = z7 at *
          clear xw
          go_wp2_with fail
          go_roundw
          case rel => exact ⟨i + 1, by omega, by simp, hT2⟩
          case measure => simp [intOf]; omega
        · obtain rfl : i = len := by omega
          have R := HRR.out.trans (hT.mono HRR.out.size)
          have S2 := HS2.out.below hT; have QY := HQ2.out.below hT
          have QR := HQB.out.below R; have q0 := QR.c0; have q1 := QR.c1; have q2 := QR.c2; have q3 := QR.c3; have ql := QR.lt; dsimp only at q0 q1 q2 q3
          have u0 := QY.at_.c0; have u1 := QY.at_.c1; have u2 := QY.at_.c2; have u3 := QY.at_.c3; dsimp only at u0 u1 u2 u3
          go_wp2_with fail
          refine (svalid_is (⟨v2, B2, bl, bc2, P2, pl, pc2, N2, i, nc2⟩ : SH) bs ps (No.srt (No.lt bs) l) true ⟨fun _ => HSV.out, fun _ => rfl⟩ ⟨HW.out.b, HW.out.p, No.wf_perm HWN.out (No.srt_perm l)⟩ _ (HGG.out.below R) S2).mono ?_; rintro e z8 ⟨rfl, hb⟩
          clear q0 q1 q2 q3 ql QR u0 u1 u2 u3
          replace QY := QY.below hb; replace S2 := S2.below hb; replace R := R.trans (hb.mono R.size)
          clear hb
          have QR := HQB.out.below R; have q0 := QR.c0; have q1 := QR.c1; have q2 := QR.c2; have q3 := QR.c3; have ql := QR.lt; dsimp only at q0 q1 q2 q3
          have u0 := QY.at_.c0; have u1 := QY.at_.c1; have u2 := QY.at_.c2; have u3 := QY.at_.c3; dsimp only at u0 u1 u2 u3
          go_wp2_with fail
          refine (rsameB_is bs _ _ _ _ _ HLEN.out.1 HMX.out.1 _ S2.sb (HSS.out.below R).sb).mono ?_; rintro e z9 ⟨rfl, hb⟩
          clear q0 q1 q2 q3 ql QR u0 u1 u2 u3
          replace QY := QY.below hb; replace S2 := S2.below hb; replace R := R.trans (hb.mono R.size)
          clear hb
          have QR := HQB.out.below R; have q0 := QR.c0; have q1 := QR.c1; have q2 := QR.c2; have q3 := QR.c3; have ql := QR.lt; dsimp only at q0 q1 q2 q3
          have u0 := QY.at_.c0; have u1 := QY.at_.c1; have u2 := QY.at_.c2; have u3 := QY.at_.c3; dsimp only at u0 u1 u2 u3
          go_wp2_with fail
          refine (rsameQ_is ps _ _ _ _ _ HLEN.out.2.1 HMX.out.2.1 _ S2.sp (HSS.out.below R).sp).mono ?_; rintro e z10 ⟨rfl, hb⟩
          clear q0 q1 q2 q3 ql QR u0 u1 u2 u3
          replace QY := QY.below hb; replace S2 := S2.below hb; replace R := R.trans (hb.mono R.size)
          clear hb
          have u0 := QY.at_.c0; have u1 := QY.at_.c1; have u2 := QY.at_.c2; have u3 := QY.at_.c3; dsimp only at u0 u1 u2 u3
          go_wp2_with fail
          go_ret
          exact ⟨rfl, HB0.out.trans (R.mono HB0.out.size)⟩
end Go.Proofs.YtbbjifhelbeniaaGreatDoor
