import Derived.Test.YtbbjifhelbeniaaGreatDoorGS
import Derived.Test.YtbbjifhelbeniaaGreatDoorGL
import Derived.Laws.CopyOwn
/- The walks of the reference's SameBars, SameParts, Same (of what is equal), Few. -/
namespace Go.Proofs.YtbbjifhelbeniaaGreatDoor
open Go.RowKit

structure At4' (w : World) (b o : Nat) (x y z u : Int) : Prop where
  c0 : w.cell? ⟨b, o, none⟩ = some (.int .i64 x)
  c1 : w.cell? ⟨b, o + 1, none⟩ = some (.int .i64 y)
  c2 : w.cell? ⟨b, o + 2, none⟩ = some (.int .i64 z)
  c3 : w.cell? ⟨b, o + 3, none⟩ = some (.int .i64 u)
set_option maxRecDepth 100000 in
set_option maxHeartbeats 1600000 in
theorem rsameB_is (l : List Mt.B) (len cap cap2 : Nat) (A C : Option Addr) (hl : l.length = len) (hmax : len ≤ 1000000) (w : World) (hL : SlB w A l) (hL2 : SlB w C l) :
    Calls Tryz.prog 28 #[.slice A len cap, .slice C len cap2] w fun e w' => e = .returned (.bool true) ∧ Below w.heap.size w w' := by
  have HL := Lib.hid hL
  have HK := Lib.hid hL2
  have HM := Lib.hid hl
  clear hl hL hL2
  go_enter Tryz.func28, Tryz.ntmps28
  go_wp2_with fail
  go_loopw [5] (fun s5 wr => ∃ (i : Nat), i ≤ len ∧ s5 = .int .i64 (i : Int) ∧ Below w.heap.size w wr) (fun s5 _ => len - (intOf s5).toNat)
  case atStart => exact ⟨0, Nat.zero_le _, rfl, Below.refl _ _⟩
  case round =>
    obtain ⟨i, hi, rfl, hX⟩ := hrel
    by_cases hlt : i < len
    · have hil : i < l.length := by rw [HM.out]; exact hlt
      obtain ⟨bb, off, rfl, hbb, hc⟩ := HL.out (by omega)
      obtain ⟨bd, ofd, rfl, hbd, hd⟩ := HK.out (by omega)
      obtain ⟨m, hm⟩ : ∃ m, atB l i = m := ⟨_, rfl⟩
      obtain ⟨m0, m1, m2, m3⟩ := m
      obtain ⟨a0, a1, a2, a3⟩ := hc i hil
      obtain ⟨b0, b1, b2, b3⟩ := hd i hil
      rw [hm] at a0 a1 a2 a3 b0 b1 b2 b3
      have X : At4' wr bb (off + i * 4) m0 m1 m2 m3 := ⟨(hX.cell (p := ⟨bb, off + i * 4, none⟩) hbb).trans a0, (hX.cell (p := ⟨bb, off + i * 4 + 1, none⟩) hbb).trans a1, (hX.cell (p := ⟨bb, off + i * 4 + 2, none⟩) hbb).trans a2, (hX.cell (p := ⟨bb, off + i * 4 + 3, none⟩) hbb).trans a3⟩
      have Y : At4' wr bd (ofd + i * 4) m0 m1 m2 m3 := ⟨(hX.cell (p := ⟨bd, ofd + i * 4, none⟩) hbd).trans b0, (hX.cell (p := ⟨bd, ofd + i * 4 + 1, none⟩) hbd).trans b1, (hX.cell (p := ⟨bd, ofd + i * 4 + 2, none⟩) hbd).trans b2, (hX.cell (p := ⟨bd, ofd + i * 4 + 3, none⟩) hbd).trans b3⟩
      clear a0 a1 a2 a3 b0 b1 b2 b3
      have z0 : wr.cell? ⟨bb, off + i * 4, none⟩ = some (.int .i64 m0) := X.c0
      have z1 : wr.cell? ⟨bd, ofd + i * 4, none⟩ = some (.int .i64 m0) := Y.c0
      have x0 := fun y : Ext wr => y.cell z0
      have y0 := fun y : Ext wr => y.cell z1
      have x1 := fun y : Ext wr => y.cell X.c1; have x2 := fun y : Ext wr => y.cell X.c2; have x3 := fun y : Ext wr => y.cell X.c3
      have y1 := fun y : Ext wr => y.cell Y.c1; have y2 := fun y : Ext wr => y.cell Y.c2; have y3 := fun y : Ext wr => y.cell Y.c3
      have hne := Ext.there wr
      have hq1 : (i : Int) < (len : Int) := by omega
      clear X Y z0 z1 hc hd hm hil
      go_wp2_with fail
      refine Ext.region (by kernel_rfl) (by kernel_rfl) ?_
      repeat (go_big_quiet_step (fail))
      refine wpQuiet_nil ?_
      rintro _ ⟨xw, rfl⟩
      replace hX := hX.trans (xw.h.mono hX.size)
      clear x0 x1 x2 x3 y0 y1 y2 y3 hne
      generalize xw.w = w3 at *
      clear xw
      go_wp2_with fail
      go_roundw
      case rel => exact ⟨i + 1, by omega, (by simp), hX⟩
      case measure => simp [intOf]; omega
    · obtain rfl : i = len := by omega
      go_wp2_with fail
      go_ret
      exact ⟨rfl, hX⟩
set_option maxRecDepth 100000 in
set_option maxHeartbeats 1600000 in
theorem rsameQ_is (l : List Sc.Pt) (len cap cap2 : Nat) (A C : Option Addr) (hl : l.length = len) (hmax : len ≤ 1000000) (w : World) (hL : SlQ w A l) (hL2 : SlQ w C l) :
    Calls Tryz.prog 29 #[.slice A len cap, .slice C len cap2] w fun e w' => e = .returned (.bool true) ∧ Below w.heap.size w w' := by
  have HL := Lib.hid hL
  have HK := Lib.hid hL2
  have HM := Lib.hid hl
  clear hl hL hL2
  go_enter Tryz.func29, Tryz.ntmps29
  go_wp2_with fail
  go_loopw [5] (fun s5 wr => ∃ (i : Nat), i ≤ len ∧ s5 = .int .i64 (i : Int) ∧ Below w.heap.size w wr) (fun s5 _ => len - (intOf s5).toNat)
  case atStart => exact ⟨0, Nat.zero_le _, rfl, Below.refl _ _⟩
  case round =>
    obtain ⟨i, hi, rfl, hX⟩ := hrel
    by_cases hlt : i < len
    · have hil : i < l.length := by rw [HM.out]; exact hlt
      obtain ⟨bb, off, rfl, hbb, hc⟩ := HL.out (by omega)
      obtain ⟨bd, ofd, rfl, hbd, hd⟩ := HK.out (by omega)
      obtain ⟨m, hm⟩ : ∃ m, atQ l i = m := ⟨_, rfl⟩
      have X := (hc i hil).below hX hbb
      have Y := (hd i hil).below hX hbd
      rw [hm] at X Y
      have z0 : wr.cell? ⟨bb, off + i * 13, none⟩ = some (.int .i64 m.id) := X.c0
      have z1 : wr.cell? ⟨bd, ofd + i * 13, none⟩ = some (.int .i64 m.id) := Y.c0
      have x0 := fun y : Ext wr => y.cell z0
      have y0 := fun y : Ext wr => y.cell z1
      have x1 := fun y : Ext wr => y.cell X.c1; have x2 := fun y : Ext wr => y.cell X.c2; have x3 := fun y : Ext wr => y.cell X.c3; have x4 := fun y : Ext wr => y.cell X.c4; have x5 := fun y : Ext wr => y.cell X.c5; have x6 := fun y : Ext wr => y.cell X.c6; have x7 := fun y : Ext wr => y.cell X.c7; have x8 := fun y : Ext wr => y.cell X.c8; have x9 := fun y : Ext wr => y.cell X.c9; have x10 := fun y : Ext wr => y.cell X.c10; have x11 := fun y : Ext wr => y.cell X.c11; have x12 := fun y : Ext wr => y.cell X.c12
      have y1 := fun y : Ext wr => y.cell Y.c1; have y2 := fun y : Ext wr => y.cell Y.c2; have y3 := fun y : Ext wr => y.cell Y.c3; have y4 := fun y : Ext wr => y.cell Y.c4; have y5 := fun y : Ext wr => y.cell Y.c5; have y6 := fun y : Ext wr => y.cell Y.c6; have y7 := fun y : Ext wr => y.cell Y.c7; have y8 := fun y : Ext wr => y.cell Y.c8; have y9 := fun y : Ext wr => y.cell Y.c9; have y10 := fun y : Ext wr => y.cell Y.c10; have y11 := fun y : Ext wr => y.cell Y.c11; have y12 := fun y : Ext wr => y.cell Y.c12
      have hne := Ext.there wr
      have hq1 : (i : Int) < (len : Int) := by omega
      clear X Y z0 z1 hc hd hm hil
      go_wp2_with fail
      refine Ext.region (by kernel_rfl) (by kernel_rfl) ?_
      repeat (go_big_quiet_step (fail))
      refine wpQuiet_nil ?_
      rintro _ ⟨xw, rfl⟩
      replace hX := hX.trans (xw.h.mono hX.size)
      clear x0 x1 x2 x3 x4 x5 x6 x7 x8 x9 x10 x11 x12 y0 y1 y2 y3 y4 y5 y6 y7 y8 y9 y10 y11 y12 hne
      generalize xw.w = w3 at *
      clear xw
      go_wp2_with fail
      go_roundw
      case rel => exact ⟨i + 1, by omega, (by simp), hX⟩
      case measure => simp [intOf]; omega
    · obtain rfl : i = len := by omega
      go_wp2_with fail
      go_ret
      exact ⟨rfl, hX⟩

set_option maxHeartbeats 1600000 in
theorem rsameS_is (s t : SH) (bs : List Mt.B) (ps : List Sc.Pt) (ns : List No.Nt) (hv : s.v = t.v) (hmax : s.bl ≤ 1000000 ∧ s.pl ≤ 1000000 ∧ s.nl ≤ 1000000) (w : World) (hS : SlS w s bs ps ns) (hT : SlS w t bs ps ns) :
    Calls Tryz.prog 24 #[.agg #[.int .i64 s.v, .slice s.B s.bl s.bc, .slice s.P s.pl s.pc, .slice s.N s.nl s.nc], .agg #[.int .i64 t.v, .slice t.B t.bl t.bc, .slice t.P t.pl t.pc, .slice t.N t.nl t.nc]] w fun e w' => e = .returned (.bool true) ∧ Below w.heap.size w w' := by
  have HS := Lib.hid hS
  have HT := Lib.hid hT
  obtain ⟨hm1, hm2, hm3⟩ := hmax
  have e1 : t.bl = s.bl := hT.bl.symm.trans hS.bl
  have e2 : t.pl = s.pl := hT.pl.symm.trans hS.pl
  have e3 : t.nl = s.nl := hT.nl.symm.trans hS.nl
  rw [← hv, e1, e2, e3]
  clear hS hT
  have A := (ScB.new w s).alloc (.cells #[.int .i64 s.v, .slice t.B s.bl t.bc, .slice t.P s.pl t.pc, .slice t.N s.nl t.nc] 26)
  have T : ScB ((w.alloc (.cells #[.int .i64 s.v, .slice s.B s.bl s.bc, .slice s.P s.pl s.pc, .slice s.N s.nl s.nc] 26)).alloc (.cells #[.int .i64 s.v, .slice t.B s.bl t.bc, .slice t.P s.pl t.pc, .slice t.N s.nl t.nc] 26)) (w.heap.size + 1) ⟨s.v, t.B, s.bl, t.bc, t.P, s.pl, t.pc, t.N, s.nl, t.nc⟩ := by
    have h := ScB.new (w.alloc (.cells #[.int .i64 s.v, .slice s.B s.bl s.bc, .slice s.P s.pl s.pc, .slice s.N s.nl s.nc] 26)) ⟨s.v, t.B, s.bl, t.bc, t.P, s.pl, t.pc, t.N, s.nl, t.nc⟩
    rwa [World.size_alloc] at h
  have B := ((Below.refl w.heap.size w).alloc (Nat.le_refl _) (.cells #[.int .i64 s.v, .slice s.B s.bl s.bc, .slice s.P s.pl s.pc, .slice s.N s.nl s.nc] 26)).alloc (by simp) (.cells #[.int .i64 s.v, .slice t.B s.bl t.bc, .slice t.P s.pl t.pc, .slice t.N s.nl t.nc] 26)
  clear e1 e2 e3 hv
  go_enter Tryz.func24, Tryz.ntmps24
  go_wp2_with fail
  refine (rsameB_is bs _ _ _ _ _ HS.out.bl hm1 _ (HS.out.below B).sb (HT.out.below B).sb).mono ?_; rintro e w1 ⟨rfl, hb⟩
  replace A := A.below hb
  replace T := T.below hb
  replace B := B.trans (hb.mono B.size)
  clear hb
  have a0 := A.c0; have a1 := A.c1; have a2 := A.c2; have a3 := A.c3; have t0 := T.c0; have t1 := T.c1; have t2 := T.c2; have t3 := T.c3; dsimp only at t0 t1 t2 t3
  go_wp2_with fail
  clear a0 a1 a2 a3 t0 t1 t2 t3
  refine (rsameQ_is ps _ _ _ _ _ HS.out.pl hm2 _ (HS.out.below B).sp (HT.out.below B).sp).mono ?_; rintro e w2 ⟨rfl, hb⟩
  replace A := A.below hb
  replace T := T.below hb
  replace B := B.trans (hb.mono B.size)
  clear hb
  have a0 := A.c0; have a1 := A.c1; have a2 := A.c2; have a3 := A.c3; have t0 := T.c0; have t1 := T.c1; have t2 := T.c2; have t3 := T.c3; dsimp only at t0 t1 t2 t3
  go_wp2_with fail
  clear a0 a1 a2 a3 t0 t1 t2 t3
  refine (rsameo_is ns _ _ _ _ _ HS.out.nl hm3 _ (HS.out.below B).sn (HT.out.below B).sn).mono ?_; rintro e w3 ⟨rfl, hb⟩
  replace A := A.below hb
  replace T := T.below hb
  replace B := B.trans (hb.mono B.size)
  clear hb
  have a0 := A.c0; have a1 := A.c1; have a2 := A.c2; have a3 := A.c3; have t0 := T.c0; have t1 := T.c1; have t2 := T.c2; have t3 := T.c3; dsimp only at t0 t1 t2 t3
  go_wp2_with fail
  go_ret
  exact ⟨rfl, B⟩

set_option maxHeartbeats 800000 in
theorem rfew_is (s : SH) (f : Bool) (h : f = true ↔ (s.bl ≤ 60 ∧ s.pl ≤ 61 ∧ s.nl ≤ 60)) (w : World) :
    Calls Tryz.prog 10 #[.agg #[.int .i64 s.v, .slice s.B s.bl s.bc, .slice s.P s.pl s.pc, .slice s.N s.nl s.nc]] w fun e w' => e = .returned (.bool f) ∧ Below w.heap.size w w' := by
  have B := (Below.refl w.heap.size w).alloc (Nat.le_refl _) (.cells #[.int .i64 s.v, .slice s.B s.bl s.bc, .slice s.P s.pl s.pc, .slice s.N s.nl s.nc] 26)
  have hf : f = (decide (s.bl ≤ 60) && (decide (s.pl ≤ 61) && decide (s.nl ≤ 60))) := by
    rw [Bool.eq_iff_iff, h]; simp
  clear h
  by_cases h1 : s.bl ≤ 60
  · by_cases h2 : s.pl ≤ 61
    · by_cases h3 : s.nl ≤ 60
      · have k1 : (s.bl : Int) ≤ 60 := by omega
        have k2 : (s.pl : Int) ≤ 61 := by omega
        have k3 : (s.nl : Int) ≤ 60 := by omega
        obtain rfl : f = true := by rw [hf]; simp [h1, h2, h3]
        clear hf h1 h2 h3
        go_enter Tryz.func10, Tryz.ntmps10
        go_wp2_with fail
        go_ret
        exact ⟨rfl, B⟩
      · have k1 : (s.bl : Int) ≤ 60 := by omega
        have k2 : (s.pl : Int) ≤ 61 := by omega
        have k3 : ¬ (s.nl : Int) ≤ 60 := by omega
        obtain rfl : f = false := by rw [hf]; simp [h3]
        clear hf h1 h2 h3
        go_enter Tryz.func10, Tryz.ntmps10
        go_wp2_with fail
        go_ret
        exact ⟨rfl, B⟩
    · have k1 : (s.bl : Int) ≤ 60 := by omega
      have k2 : ¬ (s.pl : Int) ≤ 61 := by omega
      obtain rfl : f = false := by rw [hf]; simp [h2]
      clear hf h1 h2
      go_enter Tryz.func10, Tryz.ntmps10
      go_wp2_with fail
      go_ret
      exact ⟨rfl, B⟩
  · have k1 : ¬ (s.bl : Int) ≤ 60 := by omega
    obtain rfl : f = false := by rw [hf]; simp [h1]
    clear hf h1
    go_enter Tryz.func10, Tryz.ntmps10
    go_wp2_with fail
    go_ret
    exact ⟨rfl, B⟩
end Go.Proofs.YtbbjifhelbeniaaGreatDoor

/- What the laws' head uses: at, note, example; the example's values. -/
namespace Go.Proofs.YtbbjifhelbeniaaGreatDoor
open Go.RowKit

theorem lat_is (a b : Int) (w : World) :
    Calls Tryz.prog 62 #[.int .i64 a, .int .i64 b] w fun e w' => e = .returned (.agg #[.int .i64 a, .int .i64 0, .int .i64 b]) ∧ Below w.heap.size w w' := by
  have G := (Below.refl w.heap.size w).alloc (Nat.le_refl _) (.cells #[.int .i64 a, .int .i64 0, .int .i64 b] 47)
  go_enter Tryz.func62, Tryz.ntmps62
  go_wp2_with fail
  exact bodyPost_ret (v := .agg #[.int .i64 a, .int .i64 0, .int .i64 b]) (by simp [results, Tryz.results62, go_sem]) rfl ⟨rfl, G⟩
theorem wpList_store_is {P : Program} {w w' : World} {ops : Array Oper} {rest : List Oper} {o : Oper} {a : Act} {Q : Exit → Act → World → Prop} (hgd : o.guard = none) (t : TypeId) (x y : Operand) (ho : o.op = .store t x y) (p : Addr) (v : Value) (hr : (storeVar t p v).run P w = .ok () w') (hx : a.eval x = .pointer (some p)) (hy : a.eval y = v) (h : wpList P ops Q rest (a.put o.dst undef) w') : wpList P ops Q (o :: rest) a w := by
  refine wpList_plain hgd fun K hK => ?_
  unfold Oper.wp
  simp [execOp, ho, hx, hy, Instr.storeAt, Instr.sureAddr, hr, Result.andThen]
  exact hK _ _ h
/-- A note in a variable of its own. -/
structure NtV (w : World) (b : Nat) (n : No.Nt) : Prop where
  at_ : NtB w b n
  blk : ∃ arr, w.heap[b]? = some (.cells arr 51 (0, 0))
theorem NtV.below {w w' : World} {b : Nat} {n : No.Nt} (h : NtV w b n) (hb : Below w.heap.size w w') : NtV w' b n :=
  ⟨h.at_.below hb, by obtain ⟨arr, h1⟩ := h.blk; exact ⟨arr, (hb.block b h.at_.lt).trans h1⟩⟩
set_option maxRecDepth 100000 in
set_option maxHeartbeats 1600000 in
theorem lnote_is (i p s st oc : Int) (w : World) :
    Calls Tryz.prog 33 #[.int .i64 i, .int .i64 p, .int .i64 s, .int .i64 st, .int .i64 oc] w fun e w' => e = .returned (.agg #[.int .i64 i, .int .i64 p, .int .i64 5, .int .i64 0, .int .i64 0, .int .i64 s, .int .i64 1, .int .i64 1, .int .i64 1, .int .i64 st, .int .i64 0, .int .i64 oc]) ∧ Below w.heap.size w w' := by
  have hk0 : (w.alloc (.cells #[.int .i64 0, .int .i64 0, .int .i64 0, .int .i64 0, .int .i64 0, .int .i64 0, .int .i64 0, .int .i64 0, .int .i64 0, .int .i64 0, .int .i64 0, .int .i64 0] 51)).heap[w.heap.size]? = some (.cells #[.int .i64 0, .int .i64 0, .int .i64 0, .int .i64 0, .int .i64 0, .int .i64 0, .int .i64 0, .int .i64 0, .int .i64 0, .int .i64 0, .int .i64 0, .int .i64 0] 51) := heap_alloc_new w _
  have B := (Below.refl w.heap.size w).alloc (Nat.le_refl _) (.cells #[.int .i64 0, .int .i64 0, .int .i64 0, .int .i64 0, .int .i64 0, .int .i64 0, .int .i64 0, .int .i64 0, .int .i64 0, .int .i64 0, .int .i64 0, .int .i64 0] 51)
  go_enter Tryz.func33, Tryz.ntmps33
  go_wp2_with fail
  refine (lat_is st oc _).mono ?_; rintro e z ⟨rfl, hb⟩
  have hblk := (hb.block w.heap.size (by simp)).trans hk0
  have BW := B.trans (hb.mono B.size)
  clear hb hk0 B
  have hst := run_storeVar_row (P := Tryz.prog) z w.heap.size 51 51 _ #[.int .i64 i, .int .i64 p, .int .i64 5, .int .i64 0, .int .i64 0, .int .i64 s, .int .i64 1, .int .i64 1, .int .i64 1, .int .i64 st, .int .i64 0, .int .i64 oc] hblk (by kernel_rfl) rfl (by simp [Value.oneCell'])
  have BW2 := below_setRow BW (Nat.le_refl _) #[.int .i64 i, .int .i64 p, .int .i64 5, .int .i64 0, .int .i64 0, .int .i64 s, .int .i64 1, .int .i64 1, .int .i64 1, .int .i64 st, .int .i64 0, .int .i64 oc]
  have k := fun j => cell_setRow_same z w.heap.size j _ #[.int .i64 i, .int .i64 p, .int .i64 5, .int .i64 0, .int .i64 0, .int .i64 s, .int .i64 1, .int .i64 1, .int .i64 1, .int .i64 st, .int .i64 0, .int .i64 oc] 51 (0, 0) hblk
  obtain ⟨z2, hz2⟩ : ∃ z2, z.setRow w.heap.size #[.int .i64 i, .int .i64 p, .int .i64 5, .int .i64 0, .int .i64 0, .int .i64 s, .int .i64 1, .int .i64 1, .int .i64 1, .int .i64 st, .int .i64 0, .int .i64 oc] = z2 := ⟨_, rfl⟩
  rw [hz2] at hst BW2
  simp only [hz2] at k
  have k0 : z2.cell? ⟨w.heap.size, 0, none⟩ = some (.int .i64 i) := k 0
  have k1 : z2.cell? ⟨w.heap.size, 1, none⟩ = some (.int .i64 p) := k 1
  have k2 : z2.cell? ⟨w.heap.size, 2, none⟩ = some (.int .i64 5) := k 2
  have k3 : z2.cell? ⟨w.heap.size, 3, none⟩ = some (.int .i64 0) := k 3
  have k4 : z2.cell? ⟨w.heap.size, 4, none⟩ = some (.int .i64 0) := k 4
  have k5 : z2.cell? ⟨w.heap.size, 5, none⟩ = some (.int .i64 s) := k 5
  have k6 : z2.cell? ⟨w.heap.size, 6, none⟩ = some (.int .i64 1) := k 6
  have k7 : z2.cell? ⟨w.heap.size, 7, none⟩ = some (.int .i64 1) := k 7
  have k8 : z2.cell? ⟨w.heap.size, 8, none⟩ = some (.int .i64 1) := k 8
  have k9 : z2.cell? ⟨w.heap.size, 9, none⟩ = some (.int .i64 st) := k 9
  have k10 : z2.cell? ⟨w.heap.size, 10, none⟩ = some (.int .i64 0) := k 10
  have k11 : z2.cell? ⟨w.heap.size, 11, none⟩ = some (.int .i64 oc) := k 11
  clear k hz2 hblk
  go_wp2_with (first | ((with_reducible refine wpList_store_is rfl _ _ _ rfl ⟨w.heap.size, 0, none⟩ _ hst ?_ ?_ ?_); (· rfl); (· rfl)) | fail)
  go_wp2_with fail
  exact bodyPost_ret (v := .agg #[.int .i64 i, .int .i64 p, .int .i64 5, .int .i64 0, .int .i64 0, .int .i64 s, .int .i64 1, .int .i64 1, .int .i64 1, .int .i64 st, .int .i64 0, .int .i64 oc]) (by simp [results, Tryz.results33, k0, k1, k2, k3, k4, k5, k6, k7, k8, k9, k10, k11, go_sem]) rfl ⟨rfl, BW2⟩

deriving instance DecidableEq for No.Nt
def hB : List Mt.B := [(5, 4, 1, 0)]
def pA : Sc.Pt := ⟨1, 0, 0, 0, 1, 0, 0, 0, 0, 3, 0, 0, 6⟩
def pB : Sc.Pt := ⟨2, 0, 1, -1, 1, 0, 0, 0, 0, 2, 0, 0, 5⟩
def hP : List Sc.Pt := [pA, pB]
def n8 : No.Nt := ⟨8, 1, 5, 0, 0, 0, 1, 1, 1, 0, 0, 4⟩
def n7 : No.Nt := ⟨7, 1, 5, 0, 0, 1, 1, 1, 1, 2, 0, 4⟩
def nX : No.Nt := ⟨9, 2, 5, 0, 0, 2, 1, 1, 1, 6, 0, 2⟩
def nY : No.Nt := ⟨9, 1, 5, 0, 0, 2, 1, 1, 1, 6, 0, 2⟩
def hN : List No.Nt := [n8, n7]
theorem hB_mval : Mt.Val hB := by
  refine ⟨by decide, by decide, fun j hj => ?_, fun j k hj hk => ?_⟩
  · obtain rfl : j = 0 := by have : j < 1 := hj; omega
    decide +kernel
  · have : j < 1 := hj
    omega
theorem hN_ok : No.okN hB n8 ∧ No.okN hB n7 ∧ No.okN hB nX ∧ No.okN hB nY := by
  refine ⟨?_, ?_, ?_, ?_⟩ <;> (unfold No.okN No.isN No.start No.leng; refine ⟨?_, ?_, ?_, ?_, ?_, ?_, ?_, ?_, ?_, ?_, ?_, ?_, ?_⟩ <;> decide +kernel)
theorem hN_val (l : List No.Nt) (h1 : l.length ≤ 20000) (h2 : ∀ n ∈ l, n = n8 ∨ n = n7 ∨ n = nX ∨ n = nY) (h3 : l.Pairwise fun a b => a.id ≠ b.id) : No.Val hB l := ⟨hB_mval, h1, fun n hn => by
  rcases h2 n hn with rfl | rfl | rfl | rfl
  · exact hN_ok.1
  · exact hN_ok.2.1
  · exact hN_ok.2.2.1
  · exact hN_ok.2.2.2, h3⟩
theorem hP_ok : Sc.okP pA ∧ Sc.okP pB := by
  refine ⟨⟨by decide, by decide, by decide, ?_, ?_, ?_⟩, ⟨by decide, by decide, by decide, ?_, ?_, ?_⟩⟩
  · unfold Sc.dbl; decide
  · unfold Sc.okSh; decide
  · unfold Sc.okR Sc.pv Sc.num No.nat7; decide
  · unfold Sc.dbl; decide
  · unfold Sc.okSh; decide
  · unfold Sc.okR Sc.pv Sc.num No.nat7; decide
theorem hP_parts : Sc.Parts hP := by
  refine ⟨by decide, fun p hp => ?_, by unfold hP; decide, fun p hp hf => ?_⟩
  · simp only [hP, List.mem_cons, List.not_mem_nil, or_false] at hp
    rcases hp with rfl | rfl
    · exact hP_ok.1
    · exact hP_ok.2
  · simp only [hP, List.mem_cons, List.not_mem_nil, or_false] at hp
    rcases hp with rfl | rfl
    · exact absurd rfl hf
    · rfl
theorem own_1 : Sc.ownF hP 1 = some pA := rfl
theorem own_2 : Sc.ownF hP 2 = none := rfl
theorem rng_8 : Sc.rng pA n8 := by unfold Sc.rng Sc.num No.snd No.nat7; decide
theorem rng_7 : Sc.rng pA n7 := by unfold Sc.rng Sc.num No.snd No.nat7; decide
theorem rng_Y : ¬ Sc.rng pA nY := by unfold Sc.rng Sc.num No.snd No.nat7; decide
theorem wr_0 (l : List No.Nt) (h : ∀ n ∈ l, n = n8 ∨ n = n7) : Sc.wrong hP l = 0 := Sc.wrong_zero.2 fun n hn => by
  rcases h n hn with rfl | rfl
  · exact ⟨pA, own_1, rng_8⟩
  · exact ⟨pA, own_1, rng_7⟩
theorem wr_22 : Sc.wrong hP [n8, n7, nX] = 22 := by
  unfold Sc.wrong
  rw [if_pos ⟨nX, by simp, own_2⟩]
theorem wr_20 : Sc.wrong hP [n8, n7, nY] = 20 := by
  unfold Sc.wrong
  rw [if_neg, if_pos ⟨nY, by simp, pA, own_1, rng_Y⟩]
  rintro ⟨n, hn, e⟩
  simp only [List.mem_cons, List.not_mem_nil, or_false] at hn
  rcases hn with rfl | rfl | rfl
  · exact absurd (own_1.symm.trans e) (by simp)
  · exact absurd (own_1.symm.trans e) (by simp)
  · exact absurd (own_1.symm.trans e) (by simp)
theorem h_val (v : Int) (h : 1 ≤ v ∧ v ≤ 1000000) : Sc.Val v hB hP hN := ⟨h, hP_parts, hN_val _ (by decide) (by simp [hN]) (by decide), by decide +kernel, wr_0 _ (by simp [hN])⟩
theorem h_no : ¬ Sc.Val 0 [] [] [] := fun h => absurd h.ver (by decide)
theorem h_srt : No.srt (No.lt hB) [n7, n8] = hN := by decide +kernel
theorem h_wfs : WfS hB hP hN := ⟨fun j hj => by
  obtain rfl : j = 0 := by have : j < 1 := hj; omega
  decide, fun p hp => by
  simp only [hP, List.mem_cons, List.not_mem_nil, or_false] at hp
  rcases hp with rfl | rfl <;> decide, fun j hj => by
  have : j = 0 ∨ j = 1 := by have : j < 2 := hj; omega
  rcases this with rfl | rfl <;> decide⟩
theorem h_play : Sc.play pB hN = [⟨8, 2, 5, 0, 0, 0, 1, 1, 1, 0, 0, 3⟩, ⟨7, 2, 5, 0, 0, 1, 1, 1, 1, 2, 0, 3⟩] := by decide +kernel

/-- Rows that a block holds. -/
theorem slo_blk {w : World} {S : Nat} {l : List No.Nt} (h : w.heap[S]? = some (.cells (vO l).toArray 51 (0, 0))) : SlO w (some ⟨S, 0, none⟩) l := fun _ =>
  ⟨S, 0, rfl, (Array.getElem?_eq_some_iff.1 h).1, fun k hk => NtAt.of fun j u hj => by
    have hj12 : j < 12 := by have := (List.getElem?_eq_some_iff.1 hj).1; simpa [rowO] using this
    have c := cell_of_row w S (k * 12 + j) (vO l).toArray 51 (0, 0) h
    rw [Nat.zero_add]
    rw [c, List.getElem?_toArray, vO_at hk hj12]
    exact hj⟩
theorem slq_blk {w : World} {S : Nat} {l : List Sc.Pt} (h : w.heap[S]? = some (.cells (vQ l).toArray 49 (0, 0))) : SlQ w (some ⟨S, 0, none⟩) l := fun _ =>
  ⟨S, 0, rfl, (Array.getElem?_eq_some_iff.1 h).1, fun k hk => PtAt.of fun j u hj => by
    have hj13 : j < 13 := by have := (List.getElem?_eq_some_iff.1 hj).1; simpa [rowQ] using this
    have c := cell_of_row w S (k * 13 + j) (vQ l).toArray 49 (0, 0) h
    rw [Nat.zero_add]
    rw [c, List.getElem?_toArray, vQ_at hk hj13]
    exact hj⟩
theorem slb_blk {w : World} {S : Nat} {l : List Mt.B} (h : w.heap[S]? = some (.cells (vB l).toArray 43 (0, 0))) : SlB w (some ⟨S, 0, none⟩) l := fun _ =>
  ⟨S, 0, rfl, (Array.getElem?_eq_some_iff.1 h).1, fun k hk => by
    have c := fun (j : Nat) (hj : j < 4) => (cell_of_row w S (k * 4 + j) (vB l).toArray 43 (0, 0) h).trans (by rw [List.getElem?_toArray, vB_at hk hj])
    have c0 := c 0 (by omega)
    have c1 := c 1 (by omega)
    have c2 := c 2 (by omega)
    have c3 := c 3 (by omega)
    simp only [Nat.zero_add]
    exact ⟨c0, c1, c2, c3⟩⟩
set_option maxRecDepth 100000 in
set_option maxHeartbeats 2400000 in
theorem lexample_is (w : World) :
    Calls Tryz.prog 32 #[] w fun e w' => Below w.heap.size w w' ∧ ∃ b1 b2 b3, e = .returned (.agg #[.int .i64 1, .slice (some ⟨b1, 0, none⟩) 1 1, .slice (some ⟨b2, 0, none⟩) 2 2, .slice (some ⟨b3, 0, none⟩) 2 2]) ∧ SlS w' ⟨1, some ⟨b1, 0, none⟩, 1, 1, some ⟨b2, 0, none⟩, 2, 2, some ⟨b3, 0, none⟩, 2, 2⟩ hB hP hN := by
  go_enter Tryz.func32, Tryz.ntmps32
  go_wp2_with fail
  have V := ScV.zero w
  have B := (Below.refl w.heap.size w).alloc (Nat.le_refl _) (.cells #[.int .i64 0, .slice none 0 0, .slice none 0 0, .slice none 0 0] 26)
  refine (lat_is 0 3 _).mono ?_; rintro e w1 ⟨rfl, hb⟩
  replace V := V.below hb
  replace B := B.trans (hb.mono B.size)
  clear hb
  go_wp2_with fail
  refine (lat_is 0 6 _).mono ?_; rintro e w2 ⟨rfl, hb⟩
  replace V := V.below hb
  replace B := B.trans (hb.mono B.size)
  clear hb
  go_wp2_with fail
  refine (lat_is 0 2 _).mono ?_; rintro e w3 ⟨rfl, hb⟩
  replace V := V.below hb
  replace B := B.trans (hb.mono B.size)
  clear hb
  go_wp2_with fail
  refine (lat_is 0 5 _).mono ?_; rintro e w4 ⟨rfl, hb⟩
  replace V := V.below hb
  replace B := B.trans (hb.mono B.size)
  clear hb
  go_wp2_with fail
  have Q := slq_blk (l := hP) (heap_alloc_new w4 (.cells #[.int .i64 1, .int .i64 0, .int .i64 0, .int .i64 0, .int .i64 1, .int .i64 0, .int .i64 0, .int .i64 0, .int .i64 0, .int .i64 3, .int .i64 0, .int .i64 0, .int .i64 6, .int .i64 2, .int .i64 0, .int .i64 1, .int .i64 (-1), .int .i64 1, .int .i64 0, .int .i64 0, .int .i64 0, .int .i64 0, .int .i64 2, .int .i64 0, .int .i64 0, .int .i64 5] 49))
  have D := (slb_blk (l := hB) (heap_alloc_new (w4.alloc (.cells #[.int .i64 1, .int .i64 0, .int .i64 0, .int .i64 0, .int .i64 1, .int .i64 0, .int .i64 0, .int .i64 0, .int .i64 0, .int .i64 3, .int .i64 0, .int .i64 0, .int .i64 6, .int .i64 2, .int .i64 0, .int .i64 1, .int .i64 (-1), .int .i64 1, .int .i64 0, .int .i64 0, .int .i64 0, .int .i64 0, .int .i64 2, .int .i64 0, .int .i64 0, .int .i64 5] 49)) (.cells #[.int .i64 5, .int .i64 4, .int .i64 1, .int .i64 0] 43)))
  replace Q := Q.alloc (.cells #[.int .i64 5, .int .i64 4, .int .i64 1, .int .i64 0] 43)
  replace V := (V.alloc (.cells #[.int .i64 1, .int .i64 0, .int .i64 0, .int .i64 0, .int .i64 1, .int .i64 0, .int .i64 0, .int .i64 0, .int .i64 0, .int .i64 3, .int .i64 0, .int .i64 0, .int .i64 6, .int .i64 2, .int .i64 0, .int .i64 1, .int .i64 (-1), .int .i64 1, .int .i64 0, .int .i64 0, .int .i64 0, .int .i64 0, .int .i64 2, .int .i64 0, .int .i64 0, .int .i64 5] 49)).alloc (.cells #[.int .i64 5, .int .i64 4, .int .i64 1, .int .i64 0] 43)
  replace B := (B.alloc B.size (.cells #[.int .i64 1, .int .i64 0, .int .i64 0, .int .i64 0, .int .i64 1, .int .i64 0, .int .i64 0, .int .i64 0, .int .i64 0, .int .i64 3, .int .i64 0, .int .i64 0, .int .i64 6, .int .i64 2, .int .i64 0, .int .i64 1, .int .i64 (-1), .int .i64 1, .int .i64 0, .int .i64 0, .int .i64 0, .int .i64 0, .int .i64 2, .int .i64 0, .int .i64 0, .int .i64 5] 49)).alloc (by have := B.size; simp at this ⊢; omega) (.cells #[.int .i64 5, .int .i64 4, .int .i64 1, .int .i64 0] 43)
  rw [World.size_alloc] at D
  refine (lnote_is 8 1 0 0 4 _).mono ?_; rintro e w5 ⟨rfl, hb⟩
  replace V := V.below hb
  replace B := B.trans (hb.mono B.size)
  replace Q := Q.below hb
  replace D := D.below hb
  clear hb
  go_wp2_with fail
  refine (lnote_is 7 1 1 2 4 _).mono ?_; rintro e w6 ⟨rfl, hb⟩
  replace V := V.below hb
  replace B := B.trans (hb.mono B.size)
  replace Q := Q.below hb
  replace D := D.below hb
  clear hb
  have N := slo_blk (l := hN) (heap_alloc_new w6 (.cells #[.int .i64 8, .int .i64 1, .int .i64 5, .int .i64 0, .int .i64 0, .int .i64 0, .int .i64 1, .int .i64 1, .int .i64 1, .int .i64 0, .int .i64 0, .int .i64 4, .int .i64 7, .int .i64 1, .int .i64 5, .int .i64 0, .int .i64 0, .int .i64 1, .int .i64 1, .int .i64 1, .int .i64 1, .int .i64 2, .int .i64 0, .int .i64 4] 51))
  replace Q := Q.alloc (.cells #[.int .i64 8, .int .i64 1, .int .i64 5, .int .i64 0, .int .i64 0, .int .i64 0, .int .i64 1, .int .i64 1, .int .i64 1, .int .i64 0, .int .i64 0, .int .i64 4, .int .i64 7, .int .i64 1, .int .i64 5, .int .i64 0, .int .i64 0, .int .i64 1, .int .i64 1, .int .i64 1, .int .i64 1, .int .i64 2, .int .i64 0, .int .i64 4] 51)
  replace D := D.alloc (.cells #[.int .i64 8, .int .i64 1, .int .i64 5, .int .i64 0, .int .i64 0, .int .i64 0, .int .i64 1, .int .i64 1, .int .i64 1, .int .i64 0, .int .i64 0, .int .i64 4, .int .i64 7, .int .i64 1, .int .i64 5, .int .i64 0, .int .i64 0, .int .i64 1, .int .i64 1, .int .i64 1, .int .i64 1, .int .i64 2, .int .i64 0, .int .i64 4] 51)
  replace V := V.alloc (.cells #[.int .i64 8, .int .i64 1, .int .i64 5, .int .i64 0, .int .i64 0, .int .i64 0, .int .i64 1, .int .i64 1, .int .i64 1, .int .i64 0, .int .i64 0, .int .i64 4, .int .i64 7, .int .i64 1, .int .i64 5, .int .i64 0, .int .i64 0, .int .i64 1, .int .i64 1, .int .i64 1, .int .i64 1, .int .i64 2, .int .i64 0, .int .i64 4] 51)
  replace B := B.alloc B.size (.cells #[.int .i64 8, .int .i64 1, .int .i64 5, .int .i64 0, .int .i64 0, .int .i64 0, .int .i64 1, .int .i64 1, .int .i64 1, .int .i64 0, .int .i64 0, .int .i64 4, .int .i64 7, .int .i64 1, .int .i64 5, .int .i64 0, .int .i64 0, .int .i64 1, .int .i64 1, .int .i64 1, .int .i64 1, .int .i64 2, .int .i64 0, .int .i64 4] 51)
  have lV := V.at_.lt; have v0 := V.at_.c0; have v1 := V.at_.c1; have v2 := V.at_.c2; have v3 := V.at_.c3; have g0 := V.f 0; have g1 := V.f 1; have g2 := V.f 2; have g3 := V.f 3
  go_wp2_with fail
  have hB2 := putS_below B (Nat.le_refl _) ⟨1, some ⟨w4.heap.size + 1, 0, none⟩, 1, 1, some ⟨w4.heap.size, 0, none⟩, 2, 2, some ⟨w6.heap.size, 0, none⟩, 2, 2⟩
  have P := V.put ⟨1, some ⟨w4.heap.size + 1, 0, none⟩, 1, 1, some ⟨w4.heap.size, 0, none⟩, 2, 2, some ⟨w6.heap.size, 0, none⟩, 2, 2⟩
  have S1 := D.putS V ⟨1, some ⟨w4.heap.size + 1, 0, none⟩, 1, 1, some ⟨w4.heap.size, 0, none⟩, 2, 2, some ⟨w6.heap.size, 0, none⟩, 2, 2⟩
  have S2 := Q.putS V ⟨1, some ⟨w4.heap.size + 1, 0, none⟩, 1, 1, some ⟨w4.heap.size, 0, none⟩, 2, 2, some ⟨w6.heap.size, 0, none⟩, 2, 2⟩
  have S3 := N.putS V ⟨1, some ⟨w4.heap.size + 1, 0, none⟩, 1, 1, some ⟨w4.heap.size, 0, none⟩, 2, 2, some ⟨w6.heap.size, 0, none⟩, 2, 2⟩
  show bodyPost _ _ _ _ _ (putS _ w.heap.size ⟨1, some ⟨w4.heap.size + 1, 0, none⟩, 1, 1, some ⟨w4.heap.size, 0, none⟩, 2, 2, some ⟨w6.heap.size, 0, none⟩, 2, 2⟩)
  generalize putS _ w.heap.size ⟨1, some ⟨w4.heap.size + 1, 0, none⟩, 1, 1, some ⟨w4.heap.size, 0, none⟩, 2, 2, some ⟨w6.heap.size, 0, none⟩, 2, 2⟩ = wz at *
  obtain ⟨-, p0, p1, p2, p3⟩ := P
  dsimp only at p0 p1 p2 p3
  refine bodyPost_ret (v := .agg #[.int .i64 1, .slice (some ⟨w4.heap.size + 1, 0, none⟩) 1 1, .slice (some ⟨w4.heap.size, 0, none⟩) 2 2, .slice (some ⟨w6.heap.size, 0, none⟩) 2 2]) (by simp [results, Tryz.results32, p0, p1, p2, p3, go_sem]) rfl ⟨hB2, _, _, _, rfl, rfl, rfl, rfl, S1, S2, S3⟩
end Go.Proofs.YtbbjifhelbeniaaGreatDoor
