import Derived.Test.YthamkigdpgajaaaDoorHs
import Derived.Laws.CopyOwn
/- NotesOthers, call by call. -/
namespace Go.Proofs.YthamkigdpgajaaaDoor
open Go.RowKit

theorem wpList_store_is {P : Program} {w w' : World} {ops : Array Oper} {rest : List Oper} {o : Oper} {a : Act} {Q : Exit → Act → World → Prop} (hgd : o.guard = none) (t : TypeId) (x y : Operand) (ho : o.op = .store t x y) (p : Addr) (v : Value) (hr : (storeVar t p v).run P w = .ok () w') (hx : a.eval x = .pointer (some p)) (hy : a.eval y = v) (h : wpList P ops Q rest (a.put o.dst undef) w') : wpList P ops Q (o :: rest) a w := by
  refine wpList_plain hgd fun K hK => ?_
  unfold Oper.wp
  simp [execOp, ho, hx, hy, Instr.storeAt, Instr.sureAddr, hr, Result.andThen]
  exact hK _ _ h

set_option maxRecDepth 100000 in
set_option maxHeartbeats 1200000 in
theorem notesOthers_walk (Bb : Option Addr) (blen bcap : Nat) (bs : List Mt.B) (hbl : bs.length = blen) (_hwb : Mt.Wf bs) (A : Option Addr) (len cap : Nat) (l : List No.Nt) (hl : l.length = len) (_hc : len ≤ cap) (_hA : A = none → cap = 0) (_hwn : No.Wf l) (part : Int) (wh : Int) (hwh : 0 ≤ wh ∧ wh < 256) (pa pb pc : Int) (w : World) (hG : Glob w) (hB : SlB w Bb bs) (hL : SlO w A l) :
    Calls Tryd.prog 8 #[.slice Bb blen bcap, .slice A len cap, .int .i64 part, .int .u8 wh, .agg #[.int .i64 pa, .int .i64 pb, .int .i64 pc]] w fun e w' => e = .returned (.bool true) ∧ Below w.heap.size w w' := by
  have HN := Lib.hid hbl
  have HM := Lib.hid hl
  by_cases hu : Usb bs l
  case neg =>
    have HU := Lib.hid hu
    clear hu hbl hl hwh
    go_enter Tryd.func8, Tryd.ntmps8
    go_wp2_with fail
    have B := Below.refl w.heap.size w
    refine (head_any _ (hG.alloc _)).mono ?_; rintro e w1 ⟨rfl, hb⟩
    replace hB := (hB.alloc _).below hb
    replace hL := (hL.alloc _).below hb
    have PV := (At3.new _ pa pb pc _).below hb
    replace hG := (hG.alloc _).below hb
    replace B := (B.alloc (by have := B.size; simp <;> omega) _).trans (hb.mono (by have := B.size; simp <;> omega))
    clear hb
    go_wp2_with fail
    refine (lusable_is bs l false _ _ _ _ _ _ ⟨(fun h => by cases h), fun h => absurd h HU.out⟩ HN.out HM.out _ hB hL).mono ?_; rintro e w2 ⟨rfl, hb⟩
    replace hB := hB.below hb
    replace hL := hL.below hb
    replace PV := PV.below hb
    replace hG := hG.below hb
    replace B := B.trans (hb.mono (by have := B.size; simp <;> omega))
    clear hb
    go_wp2_with fail
    go_ret
    exact ⟨rfl, B⟩
  have HU := Lib.hid hu
  have HV := Lib.hid hu.2
  by_cases hp0 : part < 1
  · clear hu hbl hl hwh
    go_enter Tryd.func8, Tryd.ntmps8
    go_wp2_with fail
    have B := Below.refl w.heap.size w
    refine (head_any _ (hG.alloc _)).mono ?_; rintro e w1 ⟨rfl, hb⟩
    replace hB := (hB.alloc _).below hb
    replace hL := (hL.alloc _).below hb
    have PV := (At3.new _ pa pb pc _).below hb
    replace hG := (hG.alloc _).below hb
    replace B := (B.alloc (by have := B.size; simp <;> omega) _).trans (hb.mono (by have := B.size; simp <;> omega))
    clear hb
    go_wp2_with fail
    refine (lusable_is bs l true _ _ _ _ _ _ ⟨fun _ => HU.out, fun _ => rfl⟩ HN.out HM.out _ hB hL).mono ?_; rintro e w2 ⟨rfl, hb⟩
    replace hB := hB.below hb
    replace hL := hL.below hb
    replace PV := PV.below hb
    replace hG := hG.below hb
    replace B := B.trans (hb.mono (by have := B.size; simp <;> omega))
    clear hb
    go_wp2_with fail
    go_ret
    exact ⟨rfl, B⟩
  have hp1 : ¬ part < 1 := by omega
  by_cases hp2 : 1000000 < part
  · clear hu hbl hl hwh
    go_enter Tryd.func8, Tryd.ntmps8
    go_wp2_with fail
    have B := Below.refl w.heap.size w
    refine (head_any _ (hG.alloc _)).mono ?_; rintro e w1 ⟨rfl, hb⟩
    replace hB := (hB.alloc _).below hb
    replace hL := (hL.alloc _).below hb
    have PV := (At3.new _ pa pb pc _).below hb
    replace hG := (hG.alloc _).below hb
    replace B := (B.alloc (by have := B.size; simp <;> omega) _).trans (hb.mono (by have := B.size; simp <;> omega))
    clear hb
    go_wp2_with fail
    refine (lusable_is bs l true _ _ _ _ _ _ ⟨fun _ => HU.out, fun _ => rfl⟩ HN.out HM.out _ hB hL).mono ?_; rintro e w2 ⟨rfl, hb⟩
    replace hB := hB.below hb
    replace hL := hL.below hb
    replace PV := PV.below hb
    replace hG := hG.below hb
    replace B := B.trans (hb.mono (by have := B.size; simp <;> omega))
    clear hb
    go_wp2_with fail
    go_ret
    exact ⟨rfl, B⟩
  have h60 := hu.1
  rw [hbl, hl] at h60
  have hb0 : 0 < blen := by have := hu.2.1.1; omega
  obtain ⟨k, hk⟩ : ∃ k, wh.toNat % blen = k := ⟨_, rfl⟩
  have hkl : k < blen := by rw [← hk]; exact Nat.mod_lt _ (by omega)
  have hkv : wh % (blen : Int) = (k : Int) := by rw [← hk, Int.natCast_emod, Int.toNat_of_nonneg hwh.1]
  have hkt : wh.tmod (blen : Int) = (k : Int) := by rw [Int.tmod_eq_emod_of_nonneg hwh.1]; exact hkv
  have hkl' : (k : Int) < (blen : Int) := by omega
  have hb0' : ¬ (blen : Int) = 0 := by omega
  have hkb : k < bs.length := by rw [hbl]; exact hkl
  have hix := No.bix_of hu.2.1 hkb
  have hbi := No.bt_in hu.2.1 hkb
  obtain ⟨bar, hbar⟩ : ∃ bar, (atB bs k).1 = bar := ⟨_, rfl⟩
  rw [hbar] at hix
  have HBX := Lib.hid (show 0 ≤ No.bix bs bar by omega)
  have HPA := Lib.hid (show 1 ≤ part ∧ part ≤ 1000000 by omega)
  obtain ⟨E, hE⟩ : ∃ E, Mt.bt (atB bs k) = E := ⟨_, rfl⟩
  have hE2 : Mt.bt (atB bs (No.bix bs bar).toNat) = E := by rw [hix]; exact hE
  have HF := Lib.hid (No.others hu.2 pa pb pc part bar)
  have HNX := Lib.hid (No.rests_nn hu.2 (part := part) HBX.out)
  obtain ⟨Xs, hXs⟩ : ∃ Xs, No.rests bs l part bar = Xs := ⟨_, rfl⟩
  rw [hXs] at HNX
  rw [hXs] at HF
  rw [hE] at hbi
  obtain ⟨he1, he2⟩ := hbi
  obtain ⟨en, hen⟩ : ∃ en, (atB bs k).2.1 = en := ⟨_, rfl⟩
  obtain ⟨ed, hed⟩ : ∃ ed, (atB bs k).2.2.1 = ed := ⟨_, rfl⟩
  obtain ⟨eb, heb⟩ : ∃ eb, (atB bs k).2.2.2 = eb := ⟨_, rfl⟩
  have HE := Lib.hid (show Mt.tk en ed = E by rw [← hen, ← hed]; exact hE)
  have HXS := Lib.hid hXs
  obtain ⟨b, off, rfl, hbB, hcB⟩ := hB (by omega)
  have X := hcB k hkb
  rw [hbar, hen, hed, heb] at X
  clear hu hbl hk hkv hkl hkb hix hbar hE hE2 hXs hen hed heb hcB hl
  go_enter Tryd.func8, Tryd.ntmps8
  go_wp2_with fail
  have B := Below.refl w.heap.size w
  refine (head_any _ (hG.alloc _)).mono ?_; rintro e w1 ⟨rfl, hb⟩
  replace hB := (hB.alloc _).below hb
  replace hL := (hL.alloc _).below hb
  have PV := (At3.new _ pa pb pc _).below hb
  replace hG := (hG.alloc _).below hb
  replace B := (B.alloc (by have := B.size; simp <;> omega) _).trans (hb.mono (by have := B.size; simp <;> omega))
  clear hb
  go_wp2_with fail
  refine (lusable_is bs l true _ _ _ _ _ _ ⟨fun _ => HU.out, fun _ => rfl⟩ HN.out HM.out _ hB hL).mono ?_; rintro e w2 ⟨rfl, hb⟩
  replace hB := hB.below hb
  replace hL := hL.below hb
  replace PV := PV.below hb
  replace hG := hG.below hb
  replace B := B.trans (hb.mono (by have := B.size; simp <;> omega))
  clear hb
  obtain ⟨X0, X1, X2, X3⟩ := X
  have c0 := (B.cell (p := ⟨b, off + k * 4, none⟩) hbB).trans X0
  have c1 := (B.cell (p := ⟨b, off + k * 4 + 1, none⟩) hbB).trans X1
  have c2 := (B.cell (p := ⟨b, off + k * 4 + 2, none⟩) hbB).trans X2
  have c3 := (B.cell (p := ⟨b, off + k * 4 + 3, none⟩) hbB).trans X3
  clear X0 X1 X2 X3
  go_wp2_with fail
  clear c0 c1 c2 c3
  have BV := At4.new w2 bar en ed eb 48
  replace hB := hB.alloc (.cells #[.int .i64 bar, .int .i64 en, .int .i64 ed, .int .i64 eb] 48); replace hL := hL.alloc (.cells #[.int .i64 bar, .int .i64 en, .int .i64 ed, .int .i64 eb] 48); replace hG := hG.alloc (.cells #[.int .i64 bar, .int .i64 en, .int .i64 ed, .int .i64 eb] 48); replace PV := PV.alloc (.cells #[.int .i64 bar, .int .i64 en, .int .i64 ed, .int .i64 eb] 48); replace B := B.alloc B.size (.cells #[.int .i64 bar, .int .i64 en, .int .i64 ed, .int .i64 eb] 48)
  obtain ⟨wq, hwq⟩ : ∃ wq, World.alloc w2 (.cells #[.int .i64 bar, .int .i64 en, .int .i64 ed, .int .i64 eb] 48) = wq := ⟨_, rfl⟩
  rw [hwq] at BV hB hL hG PV B
  simp only [hwq]
  clear hwq
  obtain ⟨vb, hvb⟩ : ∃ vb, w2.heap.size = vb := ⟨_, rfl⟩
  rw [hvb] at BV
  simp only [hvb]
  clear hvb
  have HLB := Lib.hid hB; have HLL := Lib.hid hL; have HGG := Lib.hid hG; have HPV := Lib.hid PV; have HBV := Lib.hid BV; have HB0 := Lib.hid B
  clear hB hL hG PV BV B
  obtain ⟨OL, hOL⟩ : ∃ OL : Nat → List No.Nt, No.othL bs pa pb pc part bar l = OL := ⟨_, rfl⟩
  have HOL := Lib.hid hOL
  rw [hOL] at HF
  clear hOL
  obtain ⟨i0, hi0, hz0, hz1, hz2⟩ := info_parts infoNote
  have HI0 := Lib.hid (And.intro hi0 (And.intro hz0 (And.intro hz1 hz2)))
  clear hi0 hz0 hz1 hz2
  go_loopw [13, 45] (fun s13 s45 wr => ∃ (i N : Nat), i ≤ len ∧ s45 = .int .i64 (i : Int) ∧ (OL i).length = N ∧ N ≤ i ∧ wr.ownsRow wq.heap.size 42 12 s13 N (vO (OL i)) ∧ Below wq.heap.size wq wr) (fun _ s45 _ => len - (intOf s45).toNat)
  case atStart => exact ⟨0, 0, Nat.zero_le _, rfl, by rw [← HOL.out]; rfl, Nat.le_refl _, by rw [← HOL.out]; exact World.ownsRow_nil _ _ _ _, Below.refl _ _⟩
  case round =>
    obtain ⟨i, N, hi, rfl, hN, hNi, hown, hR⟩ := hrel
    have HNN := Lib.hid hN; have HOW := Lib.hid hown
    clear hN hown
    by_cases hlt : i < len
    · have hx : i < l.length := by rw [HM.out]; exact hlt
      obtain ⟨bb, of2, rfl, hbb, hc⟩ := HLL.out (by rw [HM.out]; omega)
      obtain ⟨n, hn⟩ : ∃ n, atO l i = n := ⟨_, rfl⟩
      have X := (hc i hx).below hR hbb
      rw [hn] at X
      have hok := HV.out.2.2.1 n (by rw [← hn]; exact atO_mem hx)
      have HAT := Lib.hid hn
      have hj1 : (i : Int) < (len : Int) := by omega
      have hj2 : (len : Int) ≤ 60 := by omega
      have hm10 : (i : Int).tmod 10 = (i : Int) % 10 := Int.tmod_eq_emod_of_nonneg (by omega)
      have hm21 : (i : Int).tmod 21 = (i : Int) % 21 := Int.tmod_eq_emod_of_nonneg (by omega)
      obtain ⟨c0, c1, c2, c3, c4, c5, c6, c7, c8, c9, c10, c11⟩ := X
      rw [Nat.add_zero] at c0
      have HOK := Lib.hid hok
      have BV := HBV.out.below hR; have PV := HPV.out.below hR
      have v0 := BV.c0; have p0 := PV.c0; have p1 := PV.c1; have p2 := PV.c2; have lv := BV.lt; have lp := PV.lt
      clear hn hok hx hc
      have HSK : Hid (¬ (n.pa = part ∧ n.ba = bar) → OL (i + 1) = OL i) := Lib.hid (fun h => by
        rw [← HOL.out]
        show No.othL bs pa pb pc part bar l i ++ (if (atO l i).pa = part ∧ (atO l i).ba = bar then _ else []) = _
        rw [HAT.out, if_neg h, List.append_nil])
      have HTK : Hid ((n.pa = part ∧ n.ba = bar) → OL (i + 1) = OL i ++ [No.oth bs pa pb pc i n]) := Lib.hid (fun h => by
        rw [← HOL.out]
        show No.othL bs pa pb pc part bar l i ++ (if (atO l i).pa = part ∧ (atO l i).ba = bar then _ else []) = _
        rw [HAT.out, if_pos h])
      by_cases h1 : n.pa = part
      · by_cases h2 : n.ba = bar
        · have HTK2 := Lib.hid (HTK.out ⟨h1, h2⟩)
          have HW1 : Hid (No.withV n i = (⟨n.id, part, bar, ((i : Int) % 10), ((i : Int) % 21), n.sn, n.sd, n.ln, n.ld, n.st, n.al, n.oc⟩ : No.Nt)) := Lib.hid (by rw [← h1, ← h2]; rfl)
          have HFT : ∃ f : Bool, Hid (f = true ↔ No.okN bs ⟨n.id, part, bar, ((i : Int) % 10), ((i : Int) % 21), n.sn, n.sd, n.ln, n.ld, pa, pb, pc⟩) := by classical exact ⟨decide (No.okN bs ⟨n.id, part, bar, ((i : Int) % 10), ((i : Int) % 21), n.sn, n.sd, n.ln, n.ld, pa, pb, pc⟩), Lib.hid (by simp)⟩
          obtain ⟨f, HFM⟩ := HFT
          have HOB : Hid (∀ b ∈ bs, Mt.okB b) := Lib.hid (fun b hb => by
            obtain ⟨j, hj, rfl⟩ := List.mem_iff_getElem.1 hb
            have := HV.out.1.2.2.1 j hj
            rwa [atB_eq hj] at this)
          have HQ : Hid (No.oth bs pa pb pc i n = if f = true then (⟨n.id, part, bar, ((i : Int) % 10), ((i : Int) % 21), n.sn, n.sd, n.ln, n.ld, pa, pb, pc⟩ : No.Nt) else ⟨n.id, part, bar, ((i : Int) % 10), ((i : Int) % 21), n.sn, n.sd, n.ln, n.ld, n.st, n.al, n.oc⟩) := Lib.hid (by
            unfold No.oth
            rw [HW1.out]
            by_cases hf : f = true
            · rw [if_pos hf]; exact if_pos (HFM.out.1 hf)
            · rw [if_neg hf]; exact if_neg (fun h => hf (HFM.out.2 h)))
          go_wp2_with fail
          have BW := ((Below.refl wr.heap.size wr).alloc (Nat.le_refl _) (.cells #[.int .i64 n.id, .int .i64 part, .int .i64 bar, .int .i64 ((i : Int) % 10), .int .i64 ((i : Int) % 21), .int .i64 n.sn, .int .i64 n.sd, .int .i64 n.ln, .int .i64 n.ld, .int .i64 n.st, .int .i64 n.al, .int .i64 n.oc] 42)).alloc (by simp) (.cells #[.int .i64 n.id, .int .i64 part, .int .i64 bar, .int .i64 ((i : Int) % 10), .int .i64 ((i : Int) % 21), .int .i64 n.sn, .int .i64 n.sd, .int .i64 n.ln, .int .i64 n.ld, .int .i64 pa, .int .i64 pb, .int .i64 pc] 42)
          have NV := (NtB.new wr ⟨n.id, part, bar, ((i : Int) % 10), ((i : Int) % 21), n.sn, n.sd, n.ln, n.ld, n.st, n.al, n.oc⟩).alloc (.cells #[.int .i64 n.id, .int .i64 part, .int .i64 bar, .int .i64 ((i : Int) % 10), .int .i64 ((i : Int) % 21), .int .i64 n.sn, .int .i64 n.sd, .int .i64 n.ln, .int .i64 n.ld, .int .i64 pa, .int .i64 pb, .int .i64 pc] 42)
          have MV := NtB.new (wr.alloc (.cells #[.int .i64 n.id, .int .i64 part, .int .i64 bar, .int .i64 ((i : Int) % 10), .int .i64 ((i : Int) % 21), .int .i64 n.sn, .int .i64 n.sd, .int .i64 n.ln, .int .i64 n.ld, .int .i64 n.st, .int .i64 n.al, .int .i64 n.oc] 42)) ⟨n.id, part, bar, ((i : Int) % 10), ((i : Int) % 21), n.sn, n.sd, n.ln, n.ld, pa, pb, pc⟩
          have hk0 : (wr.alloc (.cells #[.int .i64 n.id, .int .i64 part, .int .i64 bar, .int .i64 ((i : Int) % 10), .int .i64 ((i : Int) % 21), .int .i64 n.sn, .int .i64 n.sd, .int .i64 n.ln, .int .i64 n.ld, .int .i64 n.st, .int .i64 n.al, .int .i64 n.oc] 42)).heap[wr.heap.size]? = some (.cells #[.int .i64 n.id, .int .i64 part, .int .i64 bar, .int .i64 ((i : Int) % 10), .int .i64 ((i : Int) % 21), .int .i64 n.sn, .int .i64 n.sd, .int .i64 n.ln, .int .i64 n.ld, .int .i64 n.st, .int .i64 n.al, .int .i64 n.oc] 42) := heap_alloc_new wr _
          have BK := (Below.refl (wr.alloc (.cells #[.int .i64 n.id, .int .i64 part, .int .i64 bar, .int .i64 ((i : Int) % 10), .int .i64 ((i : Int) % 21), .int .i64 n.sn, .int .i64 n.sd, .int .i64 n.ln, .int .i64 n.ld, .int .i64 n.st, .int .i64 n.al, .int .i64 n.oc] 42)).heap.size (wr.alloc (.cells #[.int .i64 n.id, .int .i64 part, .int .i64 bar, .int .i64 ((i : Int) % 10), .int .i64 ((i : Int) % 21), .int .i64 n.sn, .int .i64 n.sd, .int .i64 n.ln, .int .i64 n.ld, .int .i64 n.st, .int .i64 n.al, .int .i64 n.oc] 42))).alloc (Nat.le_refl _) (.cells #[.int .i64 n.id, .int .i64 part, .int .i64 bar, .int .i64 ((i : Int) % 10), .int .i64 ((i : Int) % 21), .int .i64 n.sn, .int .i64 n.sd, .int .i64 n.ln, .int .i64 n.ld, .int .i64 pa, .int .i64 pb, .int .i64 pc] 42)
          refine (rnote_is bs ⟨n.id, part, bar, ((i : Int) % 10), ((i : Int) % 21), n.sn, n.sd, n.ln, n.ld, pa, pb, pc⟩ f _ _ _ HFM.out HN.out HOB.out (by omega) _ ((HLB.out.below hR).below BW)).mono ?_; rintro e z1 ⟨rfl, hb⟩
          replace NV := NV.below hb; replace MV := MV.below hb; replace BW := BW.trans (hb.mono BW.size)
          replace BK := BK.trans (hb.mono BK.size)
          have hblk := (BK.block wr.heap.size (by simp)).trans hk0
          clear hb c0 c1 c2 c3 c4 c5 c6 c7 c8 c9 c10 c11 v0 p0 p1 p2 lv lp BV PV BK hk0
          simp only [World.size_alloc] at MV
          obtain ⟨vr, hvr⟩ : ∃ vr, wr.heap.size = vr := ⟨_, rfl⟩
          have HVR := Lib.hid hvr
          rw [hvr] at NV MV hblk
          simp only [hvr]
          clear hvr
          cases f with
          | true =>
            have HQQ : Hid (No.oth bs pa pb pc i n = ⟨n.id, part, bar, ((i : Int) % 10), ((i : Int) % 21), n.sn, n.sd, n.ln, n.ld, pa, pb, pc⟩) := Lib.hid (HQ.out.trans (if_pos rfl))
            have hst := run_storeVar_row (P := Tryd.prog) z1 vr 42 42 _ #[.int .i64 n.id, .int .i64 part, .int .i64 bar, .int .i64 ((i : Int) % 10), .int .i64 ((i : Int) % 21), .int .i64 n.sn, .int .i64 n.sd, .int .i64 n.ln, .int .i64 n.ld, .int .i64 pa, .int .i64 pb, .int .i64 pc] hblk (by kernel_rfl) rfl (by simp [Value.oneCell'])
            have BW2 := below_setRow BW (Nat.le_of_eq HVR.out) #[.int .i64 n.id, .int .i64 part, .int .i64 bar, .int .i64 ((i : Int) % 10), .int .i64 ((i : Int) % 21), .int .i64 n.sn, .int .i64 n.sd, .int .i64 n.ln, .int .i64 n.ld, .int .i64 pa, .int .i64 pb, .int .i64 pc]
            obtain ⟨z2, hz2⟩ : ∃ z2, z1.setRow vr #[.int .i64 n.id, .int .i64 part, .int .i64 bar, .int .i64 ((i : Int) % 10), .int .i64 ((i : Int) % 21), .int .i64 n.sn, .int .i64 n.sd, .int .i64 n.ln, .int .i64 n.ld, .int .i64 pa, .int .i64 pb, .int .i64 pc] = z2 := ⟨_, rfl⟩
            have k := fun j => cell_setRow_same z1 vr j _ #[.int .i64 n.id, .int .i64 part, .int .i64 bar, .int .i64 ((i : Int) % 10), .int .i64 ((i : Int) % 21), .int .i64 n.sn, .int .i64 n.sd, .int .i64 n.ln, .int .i64 n.ld, .int .i64 pa, .int .i64 pb, .int .i64 pc] 42 (0, 0) hblk
            rw [hz2] at hst BW2
            simp only [hz2] at k
            have k0 : z2.cell? ⟨vr, 0, none⟩ = some (.int .i64 n.id) := k 0; have k1 : z2.cell? ⟨vr, 1, none⟩ = some (.int .i64 part) := k 1; have k2 : z2.cell? ⟨vr, 2, none⟩ = some (.int .i64 bar) := k 2; have k3 : z2.cell? ⟨vr, 3, none⟩ = some (.int .i64 ((i : Int) % 10)) := k 3; have k4 : z2.cell? ⟨vr, 4, none⟩ = some (.int .i64 ((i : Int) % 21)) := k 4; have k5 : z2.cell? ⟨vr, 5, none⟩ = some (.int .i64 n.sn) := k 5; have k6 : z2.cell? ⟨vr, 6, none⟩ = some (.int .i64 n.sd) := k 6; have k7 : z2.cell? ⟨vr, 7, none⟩ = some (.int .i64 n.ln) := k 7; have k8 : z2.cell? ⟨vr, 8, none⟩ = some (.int .i64 n.ld) := k 8; have k9 : z2.cell? ⟨vr, 9, none⟩ = some (.int .i64 pa) := k 9; have k10 : z2.cell? ⟨vr, 10, none⟩ = some (.int .i64 pb) := k 10; have k11 : z2.cell? ⟨vr, 11, none⟩ = some (.int .i64 pc) := k 11
            clear k hz2 NV hblk
            have d0 := MV.c0; have d1 := MV.c1; have d2 := MV.c2; have d3 := MV.c3; have d4 := MV.c4; have d5 := MV.c5; have d6 := MV.c6; have d7 := MV.c7; have d8 := MV.c8; have d9 := MV.c9; have d10 := MV.c10; have d11 := MV.c11
            have hnew : ∀ j u, (rowO ⟨n.id, part, bar, ((i : Int) % 10), ((i : Int) % 21), n.sn, n.sd, n.ln, n.ld, pa, pb, pc⟩)[j]? = some u → (World.alloc z2 (.cells #[.int .i64 n.id, .int .i64 part, .int .i64 bar, .int .i64 ((i : Int) % 10), .int .i64 ((i : Int) % 21), .int .i64 n.sn, .int .i64 n.sd, .int .i64 n.ln, .int .i64 n.ld, .int .i64 pa, .int .i64 pb, .int .i64 pc] 42)).cell? ((⟨z2.heap.size, 0, none⟩ : Addr).add j) = some u := newO z2 ⟨n.id, part, bar, ((i : Int) % 10), ((i : Int) % 21), n.sn, n.sd, n.ln, n.ld, pa, pb, pc⟩
            have hkeep := HOW.out.kept (obelow_grown (BW2.alloc BW2.size (.cells #[.int .i64 n.id, .int .i64 part, .int .i64 bar, .int .i64 ((i : Int) % 10), .int .i64 ((i : Int) % 21), .int .i64 n.sn, .int .i64 n.sd, .int .i64 n.ln, .int .i64 n.ld, .int .i64 pa, .int .i64 pb, .int .i64 pc] 42)) none) onone_ne
            go_wp2_with (first | ((with_reducible refine wpList_store_is rfl _ _ _ rfl ⟨vr, 0, none⟩ _ hst ?_ ?_ ?_); (· rfl); (· rfl)) | (at_builtin; go_loud (refine wpList_append_own (World.alloc z2 (.cells #[.int .i64 n.id, .int .i64 part, .int .i64 bar, .int .i64 ((i : Int) % 10), .int .i64 ((i : Int) % 21), .int .i64 n.sn, .int .i64 n.sd, .int .i64 n.ln, .int .i64 n.ld, .int .i64 pa, .int .i64 pb, .int .i64 pc] 42)) rfl _ _ 23 rfl wq.heap.size 42 i0 (.agg #[.int .i64 0, .int .i64 0, .int .i64 0, .int .i64 0, .int .i64 0, .int .i64 0, .int .i64 0, .int .i64 0, .int .i64 0, .int .i64 0, .int .i64 0, .int .i64 0]) 12 96 Tryd.underlying23 HI0.out.1 HI0.out.2.1 HI0.out.2.2.1 HI0.out.2.2.2 rfl (by decide) _ N (vO (OL i)) rfl hkeep ⟨z2.heap.size, 0, none⟩ 1 1 (rowO ⟨n.id, part, bar, ((i : Int) % 10), ((i : Int) % 21), n.sn, n.sd, n.ln, n.ld, pa, pb, pc⟩) rfl rfl hnew (rowO_cells ⟨n.id, part, bar, ((i : Int) % 10), ((i : Int) % 21), n.sn, n.sd, n.ln, n.ld, pa, pb, pc⟩) (by unfold maxLen; omega) (by omega) (by have h1 := hR.size; have h2 := BW2.size; simp; omega) ?_; intro v5 w5 hown5 hgrow5 hnil5)) | fail)
            clear k0 k1 k2 k3 k4 k5 k6 k7 k8 k9 k10 k11 d0 d1 d2 d3 d4 d5 d6 d7 d8 d9 d10 d11 hst
            have hR5 := (hR.trans ((BW2.alloc BW2.size (.cells #[.int .i64 n.id, .int .i64 part, .int .i64 bar, .int .i64 ((i : Int) % 10), .int .i64 ((i : Int) % 21), .int .i64 n.sn, .int .i64 n.sd, .int .i64 n.ln, .int .i64 n.ld, .int .i64 pa, .int .i64 pb, .int .i64 pc] 42)).mono hR.size)).grown hgrow5 (by have h1 := hR.size; have h2 := BW2.size; simp; omega) (oown_ne hkeep)
            have HOW5 := Lib.hid hown5
            have HR5 := Lib.hid hR5
            clear hown5 hgrow5 hnil5 hR5 hnew hkeep
            go_roundw
            case rel => exact ⟨i + 1, N + 1, by omega, by simp, by rw [HTK2.out, List.length_append, HNN.out, HQQ.out]; rfl, by omega, by rw [HTK2.out, vO_app, HQQ.out, vO_one]; exact HOW5.out, HR5.out⟩
            case measure => simp [intOf]; omega
          | false =>
            have HQQ : Hid (No.oth bs pa pb pc i n = ⟨n.id, part, bar, ((i : Int) % 10), ((i : Int) % 21), n.sn, n.sd, n.ln, n.ld, n.st, n.al, n.oc⟩) := Lib.hid (HQ.out.trans (if_neg (by decide)))
            have d0 := NV.c0; have d1 := NV.c1; have d2 := NV.c2; have d3 := NV.c3; have d4 := NV.c4; have d5 := NV.c5; have d6 := NV.c6; have d7 := NV.c7; have d8 := NV.c8; have d9 := NV.c9; have d10 := NV.c10; have d11 := NV.c11
            clear hblk MV
            have hnew : ∀ j u, (rowO ⟨n.id, part, bar, ((i : Int) % 10), ((i : Int) % 21), n.sn, n.sd, n.ln, n.ld, n.st, n.al, n.oc⟩)[j]? = some u → (World.alloc z1 (.cells #[.int .i64 n.id, .int .i64 part, .int .i64 bar, .int .i64 ((i : Int) % 10), .int .i64 ((i : Int) % 21), .int .i64 n.sn, .int .i64 n.sd, .int .i64 n.ln, .int .i64 n.ld, .int .i64 n.st, .int .i64 n.al, .int .i64 n.oc] 42)).cell? ((⟨z1.heap.size, 0, none⟩ : Addr).add j) = some u := newO z1 ⟨n.id, part, bar, ((i : Int) % 10), ((i : Int) % 21), n.sn, n.sd, n.ln, n.ld, n.st, n.al, n.oc⟩
            have hkeep := HOW.out.kept (obelow_grown (BW.alloc BW.size (.cells #[.int .i64 n.id, .int .i64 part, .int .i64 bar, .int .i64 ((i : Int) % 10), .int .i64 ((i : Int) % 21), .int .i64 n.sn, .int .i64 n.sd, .int .i64 n.ln, .int .i64 n.ld, .int .i64 n.st, .int .i64 n.al, .int .i64 n.oc] 42)) none) onone_ne
            go_wp2_with (first | (at_builtin; go_loud (refine wpList_append_own (World.alloc z1 (.cells #[.int .i64 n.id, .int .i64 part, .int .i64 bar, .int .i64 ((i : Int) % 10), .int .i64 ((i : Int) % 21), .int .i64 n.sn, .int .i64 n.sd, .int .i64 n.ln, .int .i64 n.ld, .int .i64 n.st, .int .i64 n.al, .int .i64 n.oc] 42)) rfl _ _ 23 rfl wq.heap.size 42 i0 (.agg #[.int .i64 0, .int .i64 0, .int .i64 0, .int .i64 0, .int .i64 0, .int .i64 0, .int .i64 0, .int .i64 0, .int .i64 0, .int .i64 0, .int .i64 0, .int .i64 0]) 12 96 Tryd.underlying23 HI0.out.1 HI0.out.2.1 HI0.out.2.2.1 HI0.out.2.2.2 rfl (by decide) _ N (vO (OL i)) rfl hkeep ⟨z1.heap.size, 0, none⟩ 1 1 (rowO ⟨n.id, part, bar, ((i : Int) % 10), ((i : Int) % 21), n.sn, n.sd, n.ln, n.ld, n.st, n.al, n.oc⟩) rfl rfl hnew (rowO_cells ⟨n.id, part, bar, ((i : Int) % 10), ((i : Int) % 21), n.sn, n.sd, n.ln, n.ld, n.st, n.al, n.oc⟩) (by unfold maxLen; omega) (by omega) (by have h1 := hR.size; have h2 := BW.size; simp; omega) ?_; intro v5 w5 hown5 hgrow5 hnil5)) | fail)
            clear d0 d1 d2 d3 d4 d5 d6 d7 d8 d9 d10 d11
            have hR5 := (hR.trans ((BW.alloc BW.size (.cells #[.int .i64 n.id, .int .i64 part, .int .i64 bar, .int .i64 ((i : Int) % 10), .int .i64 ((i : Int) % 21), .int .i64 n.sn, .int .i64 n.sd, .int .i64 n.ln, .int .i64 n.ld, .int .i64 n.st, .int .i64 n.al, .int .i64 n.oc] 42)).mono hR.size)).grown hgrow5 (by have h1 := hR.size; have h2 := BW.size; simp; omega) (oown_ne hkeep)
            have HOW5 := Lib.hid hown5
            have HR5 := Lib.hid hR5
            clear hown5 hgrow5 hnil5 hR5 hnew hkeep
            go_roundw
            case rel => exact ⟨i + 1, N + 1, by omega, by simp, by rw [HTK2.out, List.length_append, HNN.out, HQQ.out]; rfl, by omega, by rw [HTK2.out, vO_app, HQQ.out, vO_one]; exact HOW5.out, HR5.out⟩
            case measure => simp [intOf]; omega
        · go_wp2_with fail
          go_roundw
          case rel =>
            have e := HSK.out (fun h => h2 h.2)
            exact ⟨i + 1, N, by omega, by simp, by rw [e]; exact HNN.out, by omega, by rw [e]; exact HOW.out.alloc _, hR.alloc hR.size _⟩
          case measure => simp [intOf]; omega
      · go_wp2_with fail
        go_roundw
        case rel =>
          have e := HSK.out (fun h => h1 h.1)
          exact ⟨i + 1, N, by omega, by simp, by rw [e]; exact HNN.out, by omega, by rw [e]; exact HOW.out.alloc _, hR.alloc hR.size _⟩
        case measure => simp [intOf]; omega
    · obtain rfl : i = len := by omega
      obtain ⟨hln, A3, c3, rfl, L3, _⟩ := own_o HOW.out
      have HL3 := Lib.hid L3
      have BV := HBV.out.below hR
      have b0 := BV.c0
      have HVO : Hid (No.Val bs (OL i)) := Lib.hid (by
        have h := No.othL_val HV.out pa pb pc part bar
        rw [HOL.out, HM.out] at h
        exact h)
      clear L3 hln
      go_wp2_with fail
      clear b0
      refine (trests_is bs l part bar _ _ _ _ _ _ HN.out HM.out (Mt.val_wf HV.out.1) (No.val_wf HV.out) _ (HLB.out.below hR) (HLL.out.below hR) (HGG.out.below hR)).mono ?_; rintro e z1 ⟨hP, hb⟩
      have BW := hb
      replace BV := BV.below hb
      clear hb
      rw [HXS.out] at hP
      obtain ⟨D4, m4, c4, rfl, hm4, X⟩ := hP.ok HV.out HPA.out HBX.out
      have HM4 := Lib.hid hm4
      have HX4 := Lib.hid X
      clear hP hm4 X
      have b0 := BV.c0
      go_wp2_with fail
      clear b0
      have hR2 := hR.trans (BW.mono hR.size)
      refine (trests_is bs (OL i) part bar _ _ _ _ _ _ HN.out HNN.out (Mt.val_wf HV.out.1) (No.val_wf HVO.out) _ (HLB.out.below hR2) (HL3.out.below BW) (HGG.out.below hR2)).mono ?_; rintro e z2 ⟨hP, hb⟩
      have hR3 := hR2.trans (hb.mono hR2.size)
      have HX5 := Lib.hid (HX4.out.below hb)
      clear hb BV
      rw [show No.rests bs (OL i) part bar = Xs by have h := HF.out; rw [HM.out] at h; exact h.symm] at hP
      obtain ⟨D5, m5, c5, rfl, hm5, Y⟩ := hP.ok HVO.out HPA.out HBX.out
      have HM5 := Lib.hid hm5
      have HY5 := Lib.hid Y
      clear hP hm5 Y
      go_wp2_with fail
      refine (rsames_is Xs Xs _ _ _ _ _ _ HM4.out HM5.out (by have := HNX.out.2.2; rw [HM4.out] at this; omega) (by have := HNX.out.2.2; rw [HM5.out] at this; omega) HNX.out.1 HNX.out.1 true (decide_eq_true rfl) _ HX5.out HY5.out).mono ?_; rintro e z3 ⟨rfl, hb⟩
      have hR4 := hR3.trans (hb.mono hR3.size)
      clear hb
      go_wp2_with fail
      go_ret
      exact ⟨rfl, HB0.out.trans (hR4.mono HB0.out.size)⟩
end Go.Proofs.YthamkigdpgajaaaDoor
