import Derived.Test.YtbbjifhelbeniaaGreatDoorGQ
import Derived.Lib.SliceRun
/- What a part plays: the walks of the reference's Source, Played, Plays. -/
namespace Go.Proofs.YtbbjifhelbeniaaGreatDoor
open Go.RowKit Go.Shelf

set_option maxHeartbeats 400000 in
theorem rsource_is (p : Sc.Pt) (w : World) :
    Calls Tryz.prog 25 #[.agg #[.int .i64 p.id, .int .i64 p.se, .int .i64 p.f, .int .i64 p.oc, .int .i64 p.de, .int .i64 p.ss, .int .i64 p.sm, .int .i64 p.ls, .int .i64 p.la, .int .i64 p.lo, .int .i64 p.hs, .int .i64 p.ha, .int .i64 p.ho]] w fun e w' => e = .returned (.int .i64 (Sc.src p)) ∧ Below w.heap.size w w' := by
  have G := (Below.refl w.heap.size w).alloc (Nat.le_refl _) (.cells #[.int .i64 p.id, .int .i64 p.se, .int .i64 p.f, .int .i64 p.oc, .int .i64 p.de, .int .i64 p.ss, .int .i64 p.sm, .int .i64 p.ls, .int .i64 p.la, .int .i64 p.lo, .int .i64 p.hs, .int .i64 p.ha, .int .i64 p.ho] 49)
  by_cases h : p.f = 0
  · have hs : Sc.src p = p.id := by unfold Sc.src; rw [if_pos h]
    have hbe : (p.f == 0) = true := by simpa using h
    rw [hs]
    clear h hs
    go_enter Tryz.func25, Tryz.ntmps25
    go_wp2_with fail
    go_ret
    exact ⟨rfl, G⟩
  · have hs : Sc.src p = p.f := by unfold Sc.src; rw [if_neg h]
    have hbe : (p.f == 0) = false := by simpa using h
    rw [hs]
    clear h hs
    go_enter Tryz.func25, Tryz.ntmps25
    go_wp2_with fail
    go_ret
    exact ⟨rfl, G⟩

set_option maxRecDepth 100000 in
set_option maxHeartbeats 2400000 in
theorem rplayed_is (s : SH) (bs : List Mt.B) (ps : List Sc.Pt) (ns : List No.Nt) (p : Sc.Pt) (hpc : -2 ≤ p.oc ∧ p.oc ≤ 2) (hoc : ∀ n ∈ ns, 0 ≤ n.oc ∧ n.oc ≤ 9) (hnm : s.nl ≤ 20000) (w : World) (hS : SlS w s bs ps ns) :
    Calls Tryz.prog 55 #[.agg #[.int .i64 s.v, .slice s.B s.bl s.bc, .slice s.P s.pl s.pc, .slice s.N s.nl s.nc], .agg #[.int .i64 p.id, .int .i64 p.se, .int .i64 p.f, .int .i64 p.oc, .int .i64 p.de, .int .i64 p.ss, .int .i64 p.sm, .int .i64 p.ls, .int .i64 p.la, .int .i64 p.lo, .int .i64 p.hs, .int .i64 p.ha, .int .i64 p.ho]] w fun y w' => Below w.heap.size w w' ∧ ∃ v, y = .returned v ∧ w'.ownsRow w.heap.size 51 12 v (Sc.play p ns).length (vO (Sc.play p ns)) := by
  have HL := Lib.hid (And.intro hS.bl (And.intro hS.pl hS.nl))
  have HOC := Lib.hid hoc
  obtain ⟨i0, hi, hz0, hz1, hz2⟩ := info_parts infoNote
  have HI0 := Lib.hid (And.intro hi (And.intro hz0 (And.intro hz1 hz2)))
  obtain ⟨hp1, hp2⟩ := hpc
  clear hi hz0 hz1 hz2 hoc
  go_enter Tryz.func55, Tryz.ntmps55
  go_wp2_with fail
  have A0 := (ScB.new w s).alloc (.cells #[.int .i64 p.id, .int .i64 p.se, .int .i64 p.f, .int .i64 p.oc, .int .i64 p.de, .int .i64 p.ss, .int .i64 p.sm, .int .i64 p.ls, .int .i64 p.la, .int .i64 p.lo, .int .i64 p.hs, .int .i64 p.ha, .int .i64 p.ho] 49)
  have P0 := PtB.new (w.alloc (.cells #[.int .i64 s.v, .slice s.B s.bl s.bc, .slice s.P s.pl s.pc, .slice s.N s.nl s.nc] 26)) p
  rw [World.size_alloc] at P0
  have G0 := ((Below.refl w.heap.size w).alloc (Nat.le_refl _) (.cells #[.int .i64 s.v, .slice s.B s.bl s.bc, .slice s.P s.pl s.pc, .slice s.N s.nl s.nc] 26)).alloc (by simp) (.cells #[.int .i64 p.id, .int .i64 p.se, .int .i64 p.f, .int .i64 p.oc, .int .i64 p.de, .int .i64 p.ss, .int .i64 p.sm, .int .i64 p.ls, .int .i64 p.la, .int .i64 p.lo, .int .i64 p.hs, .int .i64 p.ha, .int .i64 p.ho] 49)
  have hS0 := (hS.alloc (.cells #[.int .i64 s.v, .slice s.B s.bl s.bc, .slice s.P s.pl s.pc, .slice s.N s.nl s.nc] 26)).alloc (.cells #[.int .i64 p.id, .int .i64 p.se, .int .i64 p.f, .int .i64 p.oc, .int .i64 p.de, .int .i64 p.ss, .int .i64 p.sm, .int .i64 p.ls, .int .i64 p.la, .int .i64 p.lo, .int .i64 p.hs, .int .i64 p.ha, .int .i64 p.ho] 49)
  have z0 : ((w.alloc (.cells #[.int .i64 s.v, .slice s.B s.bl s.bc, .slice s.P s.pl s.pc, .slice s.N s.nl s.nc] 26)).alloc (.cells #[.int .i64 p.id, .int .i64 p.se, .int .i64 p.f, .int .i64 p.oc, .int .i64 p.de, .int .i64 p.ss, .int .i64 p.sm, .int .i64 p.ls, .int .i64 p.la, .int .i64 p.lo, .int .i64 p.hs, .int .i64 p.ha, .int .i64 p.ho] 49)).heap.size = w.heap.size + 2 := by simp
  obtain ⟨w0, hw0⟩ : ∃ w0, (w.alloc (.cells #[.int .i64 s.v, .slice s.B s.bl s.bc, .slice s.P s.pl s.pc, .slice s.N s.nl s.nc] 26)).alloc (.cells #[.int .i64 p.id, .int .i64 p.se, .int .i64 p.f, .int .i64 p.oc, .int .i64 p.de, .int .i64 p.ss, .int .i64 p.sm, .int .i64 p.ls, .int .i64 p.la, .int .i64 p.lo, .int .i64 p.hs, .int .i64 p.ha, .int .i64 p.ho] 49) = w0 := ⟨_, rfl⟩
  rw [hw0] at A0 P0 G0 hS0 z0 ⊢
  clear hw0 hS
  have HNO := Lib.hid hS0.sn
  have HA0 := Lib.hid A0
  have HP0 := Lib.hid P0
  clear A0 P0 hS0
  go_loopw [5, 6] (fun s5 s6 wr => ∃ (k N : Nat), k ≤ s.nl ∧ s6 = .int .i64 (k : Int) ∧ (Sc.play p (ns.take k)).length = N ∧ N ≤ k ∧ Hid (wr.ownsRow w0.heap.size 51 12 s5 N (vO (Sc.play p (ns.take k)))) ∧ Below w0.heap.size w0 wr) (fun _ s6 _ => s.nl - (intOf s6).toNat)
  case atStart => exact ⟨0, 0, Nat.zero_le _, rfl, rfl, Nat.le_refl _, Lib.hid (World.ownsRow_nil _ _ _ _), Below.refl _ _⟩
  case round =>
    obtain ⟨k, N, hk, rfl, hN, hNk, HOW, hR⟩ := hrel
    have A1 := HA0.out.below hR
    have a3 := A1.c3
    by_cases hlt : k < s.nl
    · have hil : k < ns.length := by rw [HL.out.2.2]; exact hlt
      obtain ⟨bb, off, hAe, hbb, hcc⟩ := HNO.out (by omega)
      have X := (hcc k hil).below hR hbb
      have ho := HOC.out _ (atO_mem hil)
      have hpt := Sc.play_take (p := p) hil
      obtain ⟨x, hx⟩ : ∃ x, atO ns k = x := ⟨_, rfl⟩
      rw [hx] at X ho hpt
      obtain ⟨ho1, ho2⟩ := ho
      obtain ⟨c0, c1, c2, c3, c4, c5, c6, c7, c8, c9, c10, c11⟩ := X
      rw [Nat.add_zero] at c0
      rw [hAe] at a3
      have hk1 : (k : Int) < (s.nl : Int) := by omega
      have NV := NtB.new wr x
      have F1 : (wr.alloc (.cells #[.int .i64 x.id, .int .i64 x.pa, .int .i64 x.ba, .int .i64 x.vo, .int .i64 x.os, .int .i64 x.sn, .int .i64 x.sd, .int .i64 x.ln, .int .i64 x.ld, .int .i64 x.st, .int .i64 x.al, .int .i64 x.oc] 51)).frozen? ⟨wr.heap.size, 1, none⟩ = false := by go_simp
      have F11 : (wr.alloc (.cells #[.int .i64 x.id, .int .i64 x.pa, .int .i64 x.ba, .int .i64 x.vo, .int .i64 x.os, .int .i64 x.sn, .int .i64 x.sd, .int .i64 x.ln, .int .i64 x.ld, .int .i64 x.st, .int .i64 x.al, .int .i64 x.oc] 51)).frozen? ⟨wr.heap.size, 11, none⟩ = false := by go_simp
      have BW := (Below.refl wr.heap.size wr).alloc (Nat.le_refl _) (.cells #[.int .i64 x.id, .int .i64 x.pa, .int .i64 x.ba, .int .i64 x.vo, .int .i64 x.os, .int .i64 x.sn, .int .i64 x.sd, .int .i64 x.ln, .int .i64 x.ld, .int .i64 x.st, .int .i64 x.al, .int .i64 x.oc] 51)
      have P1 := (HP0.out.below hR).alloc (.cells #[.int .i64 x.id, .int .i64 x.pa, .int .i64 x.ba, .int .i64 x.vo, .int .i64 x.os, .int .i64 x.sn, .int .i64 x.sd, .int .i64 x.ln, .int .i64 x.ld, .int .i64 x.st, .int .i64 x.al, .int .i64 x.oc] 51)
      have n1 := NV.c1
      have xn1 := fun y : Ext (wr.alloc (.cells #[.int .i64 x.id, .int .i64 x.pa, .int .i64 x.ba, .int .i64 x.vo, .int .i64 x.os, .int .i64 x.sn, .int .i64 x.sd, .int .i64 x.ln, .int .i64 x.ld, .int .i64 x.st, .int .i64 x.al, .int .i64 x.oc] 51)) => y.cell n1
      have p0 := P1.c0; have xp0 := fun y : Ext (wr.alloc (.cells #[.int .i64 x.id, .int .i64 x.pa, .int .i64 x.ba, .int .i64 x.vo, .int .i64 x.os, .int .i64 x.sn, .int .i64 x.sd, .int .i64 x.ln, .int .i64 x.ld, .int .i64 x.st, .int .i64 x.al, .int .i64 x.oc] 51)) => y.cell p0; have p1 := P1.c1; have xp1 := fun y : Ext (wr.alloc (.cells #[.int .i64 x.id, .int .i64 x.pa, .int .i64 x.ba, .int .i64 x.vo, .int .i64 x.os, .int .i64 x.sn, .int .i64 x.sd, .int .i64 x.ln, .int .i64 x.ld, .int .i64 x.st, .int .i64 x.al, .int .i64 x.oc] 51)) => y.cell p1; have p2 := P1.c2; have xp2 := fun y : Ext (wr.alloc (.cells #[.int .i64 x.id, .int .i64 x.pa, .int .i64 x.ba, .int .i64 x.vo, .int .i64 x.os, .int .i64 x.sn, .int .i64 x.sd, .int .i64 x.ln, .int .i64 x.ld, .int .i64 x.st, .int .i64 x.al, .int .i64 x.oc] 51)) => y.cell p2; have p3 := P1.c3; have xp3 := fun y : Ext (wr.alloc (.cells #[.int .i64 x.id, .int .i64 x.pa, .int .i64 x.ba, .int .i64 x.vo, .int .i64 x.os, .int .i64 x.sn, .int .i64 x.sd, .int .i64 x.ln, .int .i64 x.ld, .int .i64 x.st, .int .i64 x.al, .int .i64 x.oc] 51)) => y.cell p3; have p4 := P1.c4; have xp4 := fun y : Ext (wr.alloc (.cells #[.int .i64 x.id, .int .i64 x.pa, .int .i64 x.ba, .int .i64 x.vo, .int .i64 x.os, .int .i64 x.sn, .int .i64 x.sd, .int .i64 x.ln, .int .i64 x.ld, .int .i64 x.st, .int .i64 x.al, .int .i64 x.oc] 51)) => y.cell p4; have p5 := P1.c5; have xp5 := fun y : Ext (wr.alloc (.cells #[.int .i64 x.id, .int .i64 x.pa, .int .i64 x.ba, .int .i64 x.vo, .int .i64 x.os, .int .i64 x.sn, .int .i64 x.sd, .int .i64 x.ln, .int .i64 x.ld, .int .i64 x.st, .int .i64 x.al, .int .i64 x.oc] 51)) => y.cell p5; have p6 := P1.c6; have xp6 := fun y : Ext (wr.alloc (.cells #[.int .i64 x.id, .int .i64 x.pa, .int .i64 x.ba, .int .i64 x.vo, .int .i64 x.os, .int .i64 x.sn, .int .i64 x.sd, .int .i64 x.ln, .int .i64 x.ld, .int .i64 x.st, .int .i64 x.al, .int .i64 x.oc] 51)) => y.cell p6; have p7 := P1.c7; have xp7 := fun y : Ext (wr.alloc (.cells #[.int .i64 x.id, .int .i64 x.pa, .int .i64 x.ba, .int .i64 x.vo, .int .i64 x.os, .int .i64 x.sn, .int .i64 x.sd, .int .i64 x.ln, .int .i64 x.ld, .int .i64 x.st, .int .i64 x.al, .int .i64 x.oc] 51)) => y.cell p7; have p8 := P1.c8; have xp8 := fun y : Ext (wr.alloc (.cells #[.int .i64 x.id, .int .i64 x.pa, .int .i64 x.ba, .int .i64 x.vo, .int .i64 x.os, .int .i64 x.sn, .int .i64 x.sd, .int .i64 x.ln, .int .i64 x.ld, .int .i64 x.st, .int .i64 x.al, .int .i64 x.oc] 51)) => y.cell p8; have p9 := P1.c9; have xp9 := fun y : Ext (wr.alloc (.cells #[.int .i64 x.id, .int .i64 x.pa, .int .i64 x.ba, .int .i64 x.vo, .int .i64 x.os, .int .i64 x.sn, .int .i64 x.sd, .int .i64 x.ln, .int .i64 x.ld, .int .i64 x.st, .int .i64 x.al, .int .i64 x.oc] 51)) => y.cell p9; have p10 := P1.c10; have xp10 := fun y : Ext (wr.alloc (.cells #[.int .i64 x.id, .int .i64 x.pa, .int .i64 x.ba, .int .i64 x.vo, .int .i64 x.os, .int .i64 x.sn, .int .i64 x.sd, .int .i64 x.ln, .int .i64 x.ld, .int .i64 x.st, .int .i64 x.al, .int .i64 x.oc] 51)) => y.cell p10; have p11 := P1.c11; have xp11 := fun y : Ext (wr.alloc (.cells #[.int .i64 x.id, .int .i64 x.pa, .int .i64 x.ba, .int .i64 x.vo, .int .i64 x.os, .int .i64 x.sn, .int .i64 x.sd, .int .i64 x.ln, .int .i64 x.ld, .int .i64 x.st, .int .i64 x.al, .int .i64 x.oc] 51)) => y.cell p11; have p12 := P1.c12; have xp12 := fun y : Ext (wr.alloc (.cells #[.int .i64 x.id, .int .i64 x.pa, .int .i64 x.ba, .int .i64 x.vo, .int .i64 x.os, .int .i64 x.sn, .int .i64 x.sd, .int .i64 x.ln, .int .i64 x.ld, .int .i64 x.st, .int .i64 x.al, .int .i64 x.oc] 51)) => y.cell p12
      have hne := Ext.there (wr.alloc (.cells #[.int .i64 x.id, .int .i64 x.pa, .int .i64 x.ba, .int .i64 x.vo, .int .i64 x.os, .int .i64 x.sn, .int .i64 x.sd, .int .i64 x.ln, .int .i64 x.ld, .int .i64 x.st, .int .i64 x.al, .int .i64 x.oc] 51))
      have HN := Lib.hid hN
      clear hcc hil hx hAe hN n1 p0 p1 p2 p3 p4 p5 p6 p7 p8 p9 p10 p11 p12
      go_wp2_with fail
      refine Ext.region (by kernel_rfl) (by kernel_rfl) ?_
      repeat (go_big_quiet_step ((go_at_call 25; exact Ext.call _ (rsource_is p _))))
      refine wpQuiet_nil ?_
      rintro _ ⟨xw, rfl⟩
      have hb := xw.h
      replace NV := NV.below hb
      replace P1 := P1.below hb
      replace BW := BW.trans (hb.mono BW.size)
      replace F1 := (hb.frozen (p := ⟨wr.heap.size, 1, none⟩) (by simp)).trans F1
      replace F11 := (hb.frozen (p := ⟨wr.heap.size, 11, none⟩) (by simp)).trans F11
      clear hb xn1 xp0 xp1 xp2 xp3 xp4 xp5 xp6 xp7 xp8 xp9 xp10 xp11 xp12 hne a3 A1 c0 c1 c2 c3 c4 c5 c6 c7 c8 c9 c10 c11
      generalize xw.w = z at *
      clear xw
      by_cases he : x.pa = Sc.src p
      · rw [if_pos he] at hpt
        have HPT := Lib.hid hpt
        have hbe : (x.pa != Sc.src p) = false := by simpa using he
        obtain ⟨vr, hvr⟩ : ∃ vr, wr.heap.size = vr := ⟨_, rfl⟩
        have HVR := Lib.hid hvr
        have HVP : Hid (¬ w.heap.size + 1 = vr) := Lib.hid (by have := hR.size; omega)
        have hvp := HVP.out
        rw [hvr] at NV F1 F11
        simp only [hvr]
        clear hvr hpt he
        have q0 := P1.c0; have q3 := P1.c3
        obtain ⟨lv, d0, d1, d2, d3, d4, d5, d6, d7, d8, d9, d10, d11⟩ := And.intro NV.lt (And.intro NV.c0 (And.intro NV.c1 (And.intro NV.c2 (And.intro NV.c3 (And.intro NV.c4 (And.intro NV.c5 (And.intro NV.c6 (And.intro NV.c7 (And.intro NV.c8 (And.intro NV.c9 (And.intro NV.c10 NV.c11)))))))))))
        have BW2 := (BW.setCell (p := ⟨vr, 1, none⟩) (Nat.le_of_eq HVR.out) (.int .i64 p.id)).setCell (p := ⟨vr, 11, none⟩) (Nat.le_of_eq HVR.out) (.int .i64 (x.oc + p.oc))
        have eZ : ((z.setCell ⟨vr, 1, none⟩ (.int .i64 p.id)).setCell ⟨vr, 11, none⟩ (.int .i64 (x.oc + p.oc))).heap.size = z.heap.size := by simp
        have hnew := newO ((z.setCell ⟨vr, 1, none⟩ (.int .i64 p.id)).setCell ⟨vr, 11, none⟩ (.int .i64 (x.oc + p.oc))) ⟨x.id, p.id, x.ba, x.vo, x.os, x.sn, x.sd, x.ln, x.ld, x.st, x.al, x.oc + p.oc⟩
        rw [eZ] at hnew
        clear eZ
        have hkeep := HOW.out.kept (obelow_grown (BW2.alloc BW2.size (.cells #[.int .i64 x.id, .int .i64 p.id, .int .i64 x.ba, .int .i64 x.vo, .int .i64 x.os, .int .i64 x.sn, .int .i64 x.sd, .int .i64 x.ln, .int .i64 x.ld, .int .i64 x.st, .int .i64 x.al, .int .i64 (x.oc + p.oc)] 51)) none) onone_ne
        clear P1 NV
        go_wp2_with (first | (at_builtin; go_loud (refine wpList_append_own (World.alloc ((z.setCell ⟨vr, 1, none⟩ (.int .i64 p.id)).setCell ⟨vr, 11, none⟩ (.int .i64 (x.oc + p.oc))) (.cells #[.int .i64 x.id, .int .i64 p.id, .int .i64 x.ba, .int .i64 x.vo, .int .i64 x.os, .int .i64 x.sn, .int .i64 x.sd, .int .i64 x.ln, .int .i64 x.ld, .int .i64 x.st, .int .i64 x.al, .int .i64 (x.oc + p.oc)] 51)) rfl _ _ 24 rfl w0.heap.size 51 i0 (.agg #[.int .i64 0, .int .i64 0, .int .i64 0, .int .i64 0, .int .i64 0, .int .i64 0, .int .i64 0, .int .i64 0, .int .i64 0, .int .i64 0, .int .i64 0, .int .i64 0]) 12 96 Tryz.underlying24 HI0.out.1 HI0.out.2.1 HI0.out.2.2.1 HI0.out.2.2.2 rfl (by decide) _ N (vO (Sc.play p (ns.take k))) rfl hkeep ⟨z.heap.size, 0, none⟩ 1 1 (rowO ⟨x.id, p.id, x.ba, x.vo, x.os, x.sn, x.sd, x.ln, x.ld, x.st, x.al, x.oc + p.oc⟩) rfl rfl hnew (rowO_cells ⟨x.id, p.id, x.ba, x.vo, x.os, x.sn, x.sd, x.ln, x.ld, x.st, x.al, x.oc + p.oc⟩) (by unfold maxLen; omega) (by omega) (by have h1 := hR.size; have h2 := BW2.size; simp at h2 ⊢; omega) ?_; intro v5 w5 hown5 hgrow5 hnil5)) | fail)
        clear d0 d1 d2 d3 d4 d5 d6 d7 d8 d9 d10 d11 q0 q3
        have hR5 := (hR.trans ((BW2.alloc BW2.size (.cells #[.int .i64 x.id, .int .i64 p.id, .int .i64 x.ba, .int .i64 x.vo, .int .i64 x.os, .int .i64 x.sn, .int .i64 x.sd, .int .i64 x.ln, .int .i64 x.ld, .int .i64 x.st, .int .i64 x.al, .int .i64 (x.oc + p.oc)] 51)).mono hR.size)).grown hgrow5 (by have h1 := hR.size; have h2 := BW2.size; simp at h2 ⊢; omega) (oown_ne hkeep)
        have HOW5 := Lib.hid hown5
        have HR5 := Lib.hid hR5
        clear hown5 hgrow5 hnil5 hR5 hnew hkeep
        go_roundw
        case rel => exact ⟨k + 1, N + 1, by omega, by simp, by rw [HPT.out, List.length_append, HN.out]; rfl, by omega, by rw [HPT.out, vO_app, vO_one]; exact HOW5, HR5.out⟩
        case measure => simp [intOf]; omega
      · rw [if_neg he, List.append_nil] at hpt
        have hbe : (x.pa != Sc.src p) = true := by simpa using he
        have hR2 := hR.trans (BW.mono hR.size)
        have HOW2 := Lib.hid (HOW.out.kept (obelow_grown BW none) onone_ne)
        have HPT := Lib.hid hpt
        clear hpt he NV P1 BW F1 F11
        go_wp2_with fail
        go_roundw
        case rel => exact ⟨k + 1, N, by omega, by simp, by rw [HPT.out, HN.out], by omega, by rw [HPT.out]; exact HOW2, hR2⟩
        case measure => simp [intOf]; omega
    · obtain rfl : k = s.nl := by omega
      have HT : Hid (ns.take s.nl = ns) := Lib.hid (by rw [← HL.out.2.2, List.take_length])
      go_wp2_with fail
      go_ret
      have hO := HOW.out
      rw [HT.out] at hO hN
      rw [hN]
      exact ⟨G0.trans (hR.mono G0.size), _, rfl, own_less hO (by omega)⟩
set_option maxRecDepth 100000 in
set_option maxHeartbeats 2400000 in
theorem rplaysAll_is (s : SH) (bs : List Mt.B) (ps : List Sc.Pt) (ns : List No.Nt) (id r : Int) (h : Sc.pix ps id = r) (w : World) (hS : SlS w s bs ps ns) :
    Calls Tryz.prog 20 #[.agg #[.int .i64 s.v, .slice s.B s.bl s.bc, .slice s.P s.pl s.pc, .slice s.N s.nl s.nc], .int .i64 id] w fun y w' => Below w.heap.size w w' ∧ ((¬ Sc.Val s.v bs ps ns ∧ y = .returned (.tuple #[.slice none 0 0, .int .i64 1])) ∨ (Sc.Val s.v bs ps ns ∧ r < 0 ∧ y = .returned (.tuple #[.slice none 0 0, .int .i64 22])) ∨ (Sc.Val s.v bs ps ns ∧ 0 ≤ r ∧ ∃ v, y = .returned (.tuple #[v, .int .i64 0]) ∧ w'.ownsRow w.heap.size 51 12 v (Sc.play (atQ ps r.toNat) ns).length (vO (Sc.play (atQ ps r.toNat) ns)))) := by
  have HR := Lib.hid h
  have HL := Lib.hid (And.intro hS.bl (And.intro hS.pl hS.nl))
  clear h
  by_cases q1 : Sc.Val s.v bs ps ns
  case neg =>
    have HV := Lib.hid q1
    clear q1
    go_enter Tryz.func20, Tryz.ntmps20
    go_wp2_with fail
    have B := Below.refl w.heap.size w
    refine (rval_is s bs ps ns false ⟨(fun h => by cases h), fun h => absurd h HV.out⟩ _ (hS.alloc _)).mono ?_; rintro e w1 ⟨rfl, hb⟩
    replace hS := (hS.alloc _).below hb
    have A := (ScB.new _ s).below hb
    replace B := (B.alloc (by have := B.size; simp <;> omega) _).trans (hb.mono (by have := B.size; simp <;> omega))
    clear hb
    have lA := A.lt; have cA0 := A.c0; have cA1 := A.c1; have cA2 := A.c2; have cA3 := A.c3
    go_wp2_with fail
    refine bodyPost_ret (v := .tuple #[.slice none 0 0, .int .i64 1]) (by simp [results, Tryz.results20, go_sem]) rfl ⟨B, .inl ⟨HV.out, rfl⟩⟩
  have HV := Lib.hid q1
  have hpm : s.pl ≤ 60 := by have h1 := q1.parts.1.2; have h2 := hS.pl; omega
  have hnm : s.nl ≤ 20000 := by have h1 := q1.notes.2.1; have h2 := hS.nl; omega
  by_cases q2 : 0 ≤ r
  case neg =>
    clear q1
    have hr1 : r < 0 := by omega
    go_enter Tryz.func20, Tryz.ntmps20
    go_wp2_with fail
    have B := Below.refl w.heap.size w
    refine (rval_is s bs ps ns true ⟨fun _ => HV.out, fun _ => rfl⟩ _ (hS.alloc _)).mono ?_; rintro e w1 ⟨rfl, hb⟩
    replace hS := (hS.alloc _).below hb
    have A := (ScB.new _ s).below hb
    replace B := (B.alloc (by have := B.size; simp <;> omega) _).trans (hb.mono (by have := B.size; simp <;> omega))
    clear hb
    have lA := A.lt; have cA0 := A.c0; have cA1 := A.c1; have cA2 := A.c2; have cA3 := A.c3
    go_wp2_with fail
    refine (rpartat_is ps id r _ _ _ HR.out HL.out.2.1 (by omega) _ hS.sp).mono ?_; rintro e w2 ⟨rfl, hb⟩
    replace hS := hS.below hb
    replace A := A.below hb
    replace B := B.trans (hb.mono (by have := B.size; simp <;> omega))
    clear hb lA cA0 cA1 cA2 cA3
    have lA := A.lt; have cA0 := A.c0; have cA1 := A.c1; have cA2 := A.c2; have cA3 := A.c3
    go_wp2_with fail
    refine bodyPost_ret (v := .tuple #[.slice none 0 0, .int .i64 22]) (by simp [results, Tryz.results20, go_sem]) rfl ⟨B, .inr (.inl ⟨HV.out, hr1, rfl⟩)⟩
  case pos =>
    obtain ⟨i, rfl⟩ : ∃ i : Nat, r = i := ⟨r.toNat, by omega⟩
    have hil : i < ps.length := by have := Sc.pix_lt ps id; have := HR.out; omega
    have his : i < s.pl := by have := hS.pl; omega
    have HOC : Hid (∀ n ∈ ns, 0 ≤ n.oc ∧ n.oc ≤ 9) := Lib.hid (fun n hn => (q1.notes.2.2.1 n hn).2.1.2.2.2.2)
    have hok := q1.parts.2.1 _ (atQ_mem hil)
    have HPC : Hid (-2 ≤ (atQ ps i).oc ∧ (atQ ps i).oc ≤ 2) := Lib.hid (by
      have h1 := hok.2.2.2.1
      unfold Sc.dbl at h1
      split at h1
      · omega
      · exact h1.2.2)
    rw [Int.toNat_natCast]
    obtain ⟨p, hp⟩ : ∃ p, atQ ps i = p := ⟨_, rfl⟩
    rw [hp] at HPC
    rw [hp]
    have HP := Lib.hid hp
    have HIL := Lib.hid hil
    have hi1 : (i : Int) < (s.pl : Int) := by omega
    have hi0 : ¬ (i : Int) < 0 := by omega
    clear q1 hok hp hil q2
    go_enter Tryz.func20, Tryz.ntmps20
    go_wp2_with fail
    have B := Below.refl w.heap.size w
    refine (rval_is s bs ps ns true ⟨fun _ => HV.out, fun _ => rfl⟩ _ (hS.alloc _)).mono ?_; rintro e w1 ⟨rfl, hb⟩
    replace hS := (hS.alloc _).below hb
    have A := (ScB.new _ s).below hb
    replace B := (B.alloc (by have := B.size; simp <;> omega) _).trans (hb.mono (by have := B.size; simp <;> omega))
    clear hb
    have lA := A.lt; have cA0 := A.c0; have cA1 := A.c1; have cA2 := A.c2; have cA3 := A.c3
    go_wp2_with fail
    refine (rpartat_is ps id i _ _ _ HR.out HL.out.2.1 (by omega) _ hS.sp).mono ?_; rintro e w2 ⟨rfl, hb⟩
    replace hS := hS.below hb
    replace A := A.below hb
    replace B := B.trans (hb.mono (by have := B.size; simp <;> omega))
    clear hb lA cA0 cA1 cA2 cA3
    have lA := A.lt; have cA0 := A.c0; have cA1 := A.c1; have cA2 := A.c2; have cA3 := A.c3
    go_wp2_with fail
    obtain ⟨pb, po, hPe, hpb, hpc⟩ := hS.sp (by have := HIL.out; omega)
    have X := hpc i HIL.out
    rw [HP.out] at X
    obtain ⟨d0, d1, d2, d3, d4, d5, d6, d7, d8, d9, d10, d11, d12⟩ := X
    rw [Nat.add_zero] at d0
    have k2 := A.c2
    have k2' := A.c2
    rw [hPe] at k2
    have x0 := fun x : Ext w2 => x.cell A.c0
    have x1 := fun x : Ext w2 => x.cell A.c1
    have x2 := fun x : Ext w2 => x.cell k2
    have x3 := fun x : Ext w2 => x.cell A.c3
    have y0 := fun x : Ext w2 => x.cell d0; have y1 := fun x : Ext w2 => x.cell d1; have y2 := fun x : Ext w2 => x.cell d2; have y3 := fun x : Ext w2 => x.cell d3; have y4 := fun x : Ext w2 => x.cell d4; have y5 := fun x : Ext w2 => x.cell d5; have y6 := fun x : Ext w2 => x.cell d6; have y7 := fun x : Ext w2 => x.cell d7; have y8 := fun x : Ext w2 => x.cell d8; have y9 := fun x : Ext w2 => x.cell d9; have y10 := fun x : Ext w2 => x.cell d10; have y11 := fun x : Ext w2 => x.cell d11; have y12 := fun x : Ext w2 => x.cell d12
    have hne := Ext.there w2
    have HS3 := Lib.hid hS
    have GB3 := B
    clear d0 d1 d2 d3 d4 d5 d6 d7 d8 d9 d10 d11 d12 k2 k2' hpc hS B A cA0 cA1 cA2 cA3 lA
    refine Ext.tail 6 (by kernel_rfl) (by kernel_rfl) ?_
    simp only [List.take_succ_cons, List.take_zero, List.drop_succ_cons, List.drop_zero]
    repeat (go_big_quiet_step (fail))
    refine wpQuiet_nil ?_
    rintro _ ⟨xw, rfl⟩
    obtain ⟨w4, hb4⟩ := xw
    clear y0 y1 y2 y3 y4 y5 y6 y7 y8 y9 y10 y11 y12 x0 x1 x2 x3 hne
    dsimp only
    have HS4 : SlS w4 ⟨s.v, s.B, s.bl, s.bc, some ⟨pb, po, none⟩, s.pl, s.pc, s.N, s.nl, s.nc⟩ bs ps ns := by
      have h := HS3.out.below hb4
      exact ⟨h.bl, h.pl, h.nl, h.sb, hPe ▸ h.sp, h.sn⟩
    have hC := fun W (h : Below w4.heap.size w4 W) => rplayed_is ⟨s.v, s.B, s.bl, s.bc, some ⟨pb, po, none⟩, s.pl, s.pc, s.N, s.nl, s.nc⟩ bs ps ns p HPC.out HOC.out hnm W (HS4.below h)
    dsimp only at hC
    have HC := Lib.hid hC
    clear hC HS4 hPe
    go_wp2_with fail
    refine (HC.out _ (Below.refl _ _)).mono ?_; rintro e w5 ⟨hb5, v, rfl, ho⟩
    have HOW := Lib.hid ho
    clear ho
    go_wp2_with fail
    refine bodyPost_ret (v := .tuple #[v, .int .i64 0]) (by simp [results, Tryz.results20, go_sem]) rfl ⟨GB3.trans ((hb4.trans (hb5.mono hb4.size)).mono GB3.size), .inr (.inr ⟨HV.out, by omega, v, rfl, own_less HOW.out (Nat.le_trans GB3.size hb4.size)⟩)⟩
end Go.Proofs.YtbbjifhelbeniaaGreatDoor

/- Slices of bars as rows; the walks of slices.Clone of bars and of parts. -/
namespace Go.Proofs.YtbbjifhelbeniaaGreatDoor
open Go.RowKit

def rowB (b : Mt.B) : List Value := [.int .i64 b.1, .int .i64 b.2.1, .int .i64 b.2.2.1, .int .i64 b.2.2.2]
def vB (l : List Mt.B) : List Value := l.flatMap rowB
theorem rowB_length (b : Mt.B) : (rowB b).length = 4 := rfl
theorem vB_length : ∀ l : List Mt.B, (vB l).length = l.length * 4
  | [] => rfl
  | b :: l => by
    unfold vB
    rw [List.flatMap_cons, List.length_append, rowB_length, show (l.flatMap rowB).length = l.length * 4 from vB_length l, List.length_cons]
    omega
theorem vB_at : ∀ {l : List Mt.B} {k j : Nat}, k < l.length → j < 4 → (vB l)[k * 4 + j]? = (rowB (atB l k))[j]?
  | [], _, _, h, _ => by simp at h
  | b :: l, 0, j, _, hj => by
    unfold vB
    rw [List.flatMap_cons, Nat.zero_mul, Nat.zero_add, List.getElem?_append_left (by rw [rowB_length]; exact hj)]
    rfl
  | b :: l, k + 1, j, hk, hj => by
    have := vB_at (l := l) (k := k) (j := j) (by simpa using hk) hj
    unfold vB at this ⊢
    rw [List.flatMap_cons, List.getElem?_append_right (by rw [rowB_length]; omega), rowB_length, show (k + 1) * 4 + j - 4 = k * 4 + j by omega, this]
    unfold atB
    rw [List.getElem?_cons_succ]
theorem vB_cells (l : List Mt.B) : ∀ u ∈ vB l, u.oneCell' = true := fun u hu => by
  obtain ⟨b, _, hb⟩ := List.mem_flatMap.1 hu
  unfold rowB at hb
  simp only [List.mem_cons, List.not_mem_nil, or_false] at hb
  rcases hb with rfl | rfl | rfl | rfl <;> rfl
theorem SlB.news {w : World} {A : Option Addr} {l : List Mt.B} (h : SlB w A l) {b o : Nat} (hA : A = some ⟨b, o, none⟩) : ∀ j u, (vB l)[j]? = some u → w.cell? ((⟨b, o, none⟩ : Addr).add j) = some u := fun j u hj => by
  have hjl : j < l.length * 4 := by have := (List.getElem?_eq_some_iff.1 hj).1; rwa [vB_length] at this
  obtain ⟨b', o', e, _, hc⟩ := h (by omega)
  rw [hA] at e
  cases e
  have hk : j / 4 < l.length := by omega
  have hm : j % 4 < 4 := Nat.mod_lt _ (by decide)
  obtain ⟨c0, c1, c2, c3⟩ := hc (j / 4) hk
  have e : j = j / 4 * 4 + j % 4 := by omega
  rw [e, vB_at hk hm] at hj
  rw [baddr_off, e, ← Nat.add_assoc]
  generalize j % 4 = m at hm hj
  match m, hm, hj with
  | 0, _, hj => exact c0.trans hj
  | 1, _, hj => exact c1.trans hj
  | 2, _, hj => exact c2.trans hj
  | 3, _, hj => exact c3.trans hj
theorem SlQ.newsA {w : World} {A : Option Addr} {l : List Sc.Pt} (h : SlQ w A l) {b o : Nat} (hA : A = some ⟨b, o, none⟩) : ∀ j u, (vQ l)[j]? = some u → w.cell? ((⟨b, o, none⟩ : Addr).add j) = some u := fun j u hj => by
  have hjl : j < l.length * 13 := by have := (List.getElem?_eq_some_iff.1 hj).1; rwa [vQ_length] at this
  obtain ⟨b', o', e, _, hc⟩ := h (by omega)
  rw [hA] at e
  cases e
  exact SlQ.news hc j u hj
/-- What a call's own slice of bars holds. -/
theorem own_b4 {w : World} {base : Nat} {e : TypeId} {v : Value} {m : Nat} {l : List Mt.B} (h : w.ownsRow base e 4 v m (vB l)) : l.length = m ∧ ∃ A cap, v = .slice A m cap ∧ SlB w A l ∧ (A = none → cap = 0) := by
  have hl : l.length = m := by have := h.1; rw [vB_length] at this; omega
  refine ⟨hl, ?_⟩
  rcases h.2 with ⟨hv, hn⟩ | ⟨b, cap, cur, hv, hb, hg, _⟩
  · subst hn
    exact ⟨none, 0, hv, fun h0 => by omega, fun _ => rfl⟩
  · refine ⟨some ⟨b, 0, none⟩, cap, hv, fun h0 => ⟨b, 0, rfl, (Array.getElem?_eq_some_iff.1 hg).1, fun k hk => ?_⟩, fun h => by cases h⟩
    have f := fun (j : Nat) (hj : j < 4) (u : Value) (hu : (rowB (atB l k))[j]? = some u) => by
      have := h.cells (g := b) (by rw [hv]; rfl) (k * 4 + j) u (by rw [vB_at hk hj]; exact hu)
      rw [baddr_off] at this
      exact this
    have f0 := f 0 (by omega) _ rfl
    have f1 := f 1 (by omega) _ rfl
    have f2 := f 2 (by omega) _ rfl
    have f3 := f 3 (by omega) _ rfl
    rw [← Nat.add_assoc] at f0 f1 f2 f3
    exact ⟨f0, f1, f2, f3⟩
theorem infoBar : (Tryz.prog.info? 43).map (fun i => (i.zero, i.size, i.bytes)) = some (some (.agg #[.int .i64 0, .int .i64 0, .int .i64 0, .int .i64 0]), 4, 32)
 := by kernel_rfl

theorem own_emptyCB (w : World) (base : Nat) (h : base ≤ w.heap.size) : (w.alloc (.cells #[] 43)).ownsRow base 43 4 (.slice (some ⟨w.heap.size, 0, none⟩) 0 0) 0 [] :=
  ⟨rfl, .inr ⟨w.heap.size, 0, #[], rfl, h, heap_alloc_new w _, Nat.le_refl _, by unfold maxLen; omega, rfl, rfl⟩⟩
set_option maxRecDepth 100000 in
set_option maxHeartbeats 1600000 in
theorem scloneB_is (l : List Mt.B) (len cap : Nat) (A : Option Addr) (h0 : 0 < l.length) (hl : l.length = len) (hmax : len ≤ 1000000) (w : World) (hL : SlB w A l) :
    Calls Tryz.prog 57 #[.slice A len cap] w fun y w' => Below w.heap.size w w' ∧ ∃ D c, y = .returned (.slice D len c) ∧ SlB w' D l ∧ (D = none → c = 0) := by
  obtain ⟨i0, hi, hz0, hz1, hz2⟩ := info_parts infoBar
  obtain ⟨b, o, hA, hb, -⟩ := hL h0
  subst hA
  have hon := own_emptyCB w w.heap.size (Nat.le_refl w.heap.size)
  have hnew := SlB.news (hL.alloc (.cells #[] 43)) rfl
  have hlen : (vB l).length = len * 4 := by rw [vB_length, hl]
  have heq := fun X => Lib.run_eql_slice_nil (P := Tryz.prog) X 22 43 (some ⟨b, o, none⟩) len cap 0 0 Tryz.underlying22
  rw [show (some (⟨b, o, none⟩ : Addr)).isNone = false from rfl] at heq
  have HL := Lib.hid hl
  clear hL h0 hl hb
  go_enter Tryz.func57, Tryz.ntmps57
  go_wp2_with (first | (at_builtin; go_loud (refine wpList_append_own (World.alloc w (.cells #[] 43)) rfl _ _ 22 rfl w.heap.size 43 i0 (.agg #[.int .i64 0, .int .i64 0, .int .i64 0, .int .i64 0]) 4 32 Tryz.underlying22 hi hz0 hz1 hz2 rfl (by decide) _ 0 [] rfl hon ⟨b, o, none⟩ len cap (vB l) rfl hlen hnew (vB_cells l) (by unfold maxLen; omega) (by omega) (by simp) ?_; intro v5 w5 hown5 hgrow5 _)) | fail)
  have G := ((Below.refl w.heap.size w).alloc (Nat.le_refl _) (.cells #[] 43)).grown hgrow5 (by simp) (fun j hj => by cases hj; exact Nat.le_refl _)
  rw [Nat.zero_add, List.nil_append] at hown5
  obtain ⟨-, D, c, rfl, hD, hDn⟩ := own_b4 hown5
  go_ret
  exact ⟨G, D, c, rfl, hD, hDn⟩

theorem own_emptyCQ (w : World) (base : Nat) (h : base ≤ w.heap.size) : (w.alloc (.cells #[] 49)).ownsRow base 49 13 (.slice (some ⟨w.heap.size, 0, none⟩) 0 0) 0 [] :=
  ⟨rfl, .inr ⟨w.heap.size, 0, #[], rfl, h, heap_alloc_new w _, Nat.le_refl _, by unfold maxLen; omega, rfl, rfl⟩⟩
set_option maxRecDepth 100000 in
set_option maxHeartbeats 1600000 in
theorem scloneQ_is (l : List Sc.Pt) (len cap : Nat) (A : Option Addr) (h0 : 0 < l.length) (hl : l.length = len) (hmax : len ≤ 1000000) (w : World) (hL : SlQ w A l) :
    Calls Tryz.prog 58 #[.slice A len cap] w fun y w' => Below w.heap.size w w' ∧ ∃ D c, y = .returned (.slice D len c) ∧ SlQ w' D l ∧ (D = none → c = 0) := by
  obtain ⟨i0, hi, hz0, hz1, hz2⟩ := info_parts infoPart
  obtain ⟨b, o, hA, hb, -⟩ := hL h0
  subst hA
  have hon := own_emptyCQ w w.heap.size (Nat.le_refl w.heap.size)
  have hnew := SlQ.newsA (hL.alloc (.cells #[] 49)) rfl
  have hlen : (vQ l).length = len * 13 := by rw [vQ_length, hl]
  have heq := fun X => Lib.run_eql_slice_nil (P := Tryz.prog) X 23 49 (some ⟨b, o, none⟩) len cap 0 0 Tryz.underlying23
  rw [show (some (⟨b, o, none⟩ : Addr)).isNone = false from rfl] at heq
  have HL := Lib.hid hl
  clear hL h0 hl hb
  go_enter Tryz.func58, Tryz.ntmps58
  go_wp2_with (first | (at_builtin; go_loud (refine wpList_append_own (World.alloc w (.cells #[] 49)) rfl _ _ 23 rfl w.heap.size 49 i0 (.agg #[.int .i64 0, .int .i64 0, .int .i64 0, .int .i64 0, .int .i64 0, .int .i64 0, .int .i64 0, .int .i64 0, .int .i64 0, .int .i64 0, .int .i64 0, .int .i64 0, .int .i64 0]) 13 104 Tryz.underlying23 hi hz0 hz1 hz2 rfl (by decide) _ 0 [] rfl hon ⟨b, o, none⟩ len cap (vQ l) rfl hlen hnew (vQ_cells l) (by unfold maxLen; omega) (by omega) (by simp) ?_; intro v5 w5 hown5 hgrow5 _)) | fail)
  have G := ((Below.refl w.heap.size w).alloc (Nat.le_refl _) (.cells #[] 49)).grown hgrow5 (by simp) (fun j hj => by cases hj; exact Nat.le_refl _)
  rw [Nat.zero_add, List.nil_append] at hown5
  obtain ⟨-, D, c, rfl, hD, hDn⟩ := own_q hown5
  go_ret
  exact ⟨G, D, c, rfl, hD, hDn⟩
end Go.Proofs.YtbbjifhelbeniaaGreatDoor
