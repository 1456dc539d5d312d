import Derived.Test.YtbbjifhelbeniaaGreatDoorGO
import Derived.ChangeKeysEq
import Derived.Test.YtbbjifhelbeniaaGreatDoorGK
/- The walk of slices.Equal over notes. -/
namespace Go.Proofs.YtbbjifhelbeniaaGreatDoor
open Go.RowKit

theorem eqF {P : Program} {w : World} {d : Nat} {xs ys : Array Value} {f : Field} {fs : List Field} {u v : Value} {b r : Bool} (hn : f.name ≠ "_") (px : (part f.type xs f.offset).run P w = .ok u w) (py : (part f.type ys f.offset).run P w = .ok v w)
    (q : (Op.equalIn d f.type u v).run P w = .ok b w) (hr : (Op.eqFields d xs ys fs).run P w = .ok r w) : (Op.eqFields d xs ys (f :: fs)).run P w = .ok (b && r) w := by
  unfold Op.eqFields
  rw [if_pos hn]
  simp only [Sem.run_bind, px, py, q, Result.andThen_ok]
  cases b <;> simp [hr]
set_option maxRecDepth 100000 in
theorem eqRat (a b c d : Int) (w : World) : (Go.Op.equalIn 9999 41 (.agg #[.int .i64 a, .int .i64 b]) (.agg #[.int .i64 c, .int .i64 d])).run Tryz.prog w = .ok (a == c && b == d) w := by
  rw [run_equalIn_struct w 9998 41 _ _ (by kernel_rfl) (by kernel_rfl)]
  have p1 : (part 3 #[.int .i64 a, .int .i64 b] 0).run Tryz.prog w = .ok (.int .i64 a) w := run_part_plain w (by kernel_rfl) rfl
  have p2 : (part 3 #[.int .i64 c, .int .i64 d] 0).run Tryz.prog w = .ok (.int .i64 c) w := run_part_plain w (by kernel_rfl) rfl
  have p3 : (part 3 #[.int .i64 a, .int .i64 b] 1).run Tryz.prog w = .ok (.int .i64 b) w := run_part_plain w (by kernel_rfl) rfl
  have p4 : (part 3 #[.int .i64 c, .int .i64 d] 1).run Tryz.prog w = .ok (.int .i64 d) w := run_part_plain w (by kernel_rfl) rfl
  have q1 := run_equalIn_int w 9997 3 .i64 .i64 a c Tryz.underlying3
  have q2 := run_equalIn_int w 9997 3 .i64 .i64 b d Tryz.underlying3
  have hm : (Tryz.prog.fieldsOf 41).toList.map (fun f => (f.name, f.type, f.offset)) = [("N", 3, 0), ("D", 3, 1)] := by kernel_rfl
  generalize (Tryz.prog.fieldsOf 41).toList = L at hm ⊢
  rcases L with _ | ⟨f1, _ | ⟨f2, _ | ⟨f3, L⟩⟩⟩ <;> simp only [List.map_cons, List.map_nil, List.cons.injEq, Prod.mk.injEq, and_true, reduceCtorEq, and_false] at hm
  obtain ⟨⟨n1, t1, o1⟩, n2, t2, o2⟩ := hm
  replace n1 : f1.name ≠ "_" := by rw [n1]; decide
  replace n2 : f2.name ≠ "_" := by rw [n2]; decide
  unfold Op.eqFields
  rw [if_pos n1, t1, o1]
  simp only [Sem.run_bind, p1, p2, q1, Result.andThen_ok]
  cases (a == c)
  · simp
  · simp only [Bool.not_true, Bool.false_eq_true, if_false, Bool.true_and]
    unfold Op.eqFields
    rw [if_pos n2, t2, o2]
    simp only [Sem.run_bind, p3, p4, q2, Result.andThen_ok]
    cases (b == d) <;> simp [Op.eqFields]
theorem part_row (t : TypeId) (l m : Array Value) (off n : Nat) (w : World) (ha : (isAgg t).run Tryz.prog w = .ok true w) (hs : (sizeOf t).run Tryz.prog w = .ok n w) (h : l.extract off (off + n) = m) : (part t l off).run Tryz.prog w = .ok (.agg m) w := by
  unfold part
  simp [Sem.run_bind, ha, hs, h]
set_option maxRecDepth 100000 in
theorem eqPitch (a b c d e f : Int) (w : World) : (Go.Op.equalIn 9999 47 (.agg #[.int .i64 a, .int .i64 b, .int .i64 c]) (.agg #[.int .i64 d, .int .i64 e, .int .i64 f])).run Tryz.prog w = .ok ((a == d) && ((b == e) && ((c == f) && true))) w := by
  rw [run_equalIn_struct w 9998 47 _ _ (by kernel_rfl) (by kernel_rfl)]
  have hm : (Tryz.prog.fieldsOf 47).toList.map (fun f => (f.name, f.type, f.offset)) = [("Step", 3, 0), ("Alter", 3, 1), ("Octave", 3, 2)] := by kernel_rfl
  generalize (Tryz.prog.fieldsOf 47).toList = L at hm ⊢
  rcases L with _ | ⟨f1, _ | ⟨f2, _ | ⟨f3, _ | ⟨f4, L⟩⟩⟩⟩ <;> simp only [List.map_cons, List.map_nil, List.cons.injEq, Prod.mk.injEq, and_true, reduceCtorEq, and_false] at hm
  obtain ⟨⟨n1, t1, o1⟩, ⟨n2, t2, o2⟩, n3, t3, o3⟩ := hm
  refine eqF (by rw [n1]; decide) (u := .int .i64 a) (v := .int .i64 d) (by rw [t1, o1]; exact run_part_plain w (by kernel_rfl) rfl) (by rw [t1, o1]; exact run_part_plain w (by kernel_rfl) rfl) (by rw [t1]; exact run_equalIn_int w 9997 3 .i64 .i64 a d Tryz.underlying3) ?_
  refine eqF (by rw [n2]; decide) (u := .int .i64 b) (v := .int .i64 e) (by rw [t2, o2]; exact run_part_plain w (by kernel_rfl) rfl) (by rw [t2, o2]; exact run_part_plain w (by kernel_rfl) rfl) (by rw [t2]; exact run_equalIn_int w 9997 3 .i64 .i64 b e Tryz.underlying3) ?_
  refine eqF (by rw [n3]; decide) (u := .int .i64 c) (v := .int .i64 f) (by rw [t3, o3]; exact run_part_plain w (by kernel_rfl) rfl) (by rw [t3, o3]; exact run_part_plain w (by kernel_rfl) rfl) (by rw [t3]; exact run_equalIn_int w 9997 3 .i64 .i64 c f Tryz.underlying3) ?_
  rfl
set_option maxRecDepth 100000 in
set_option maxHeartbeats 1600000 in
theorem eqNote (a b : No.Nt) (g : Bool) (h : g = true ↔ a = b) (w : World) : (Go.Op.equalIn 10000 51 (.agg #[.int .i64 a.id, .int .i64 a.pa, .int .i64 a.ba, .int .i64 a.vo, .int .i64 a.os, .int .i64 a.sn, .int .i64 a.sd, .int .i64 a.ln, .int .i64 a.ld, .int .i64 a.st, .int .i64 a.al, .int .i64 a.oc]) (.agg #[.int .i64 b.id, .int .i64 b.pa, .int .i64 b.ba, .int .i64 b.vo, .int .i64 b.os, .int .i64 b.sn, .int .i64 b.sd, .int .i64 b.ln, .int .i64 b.ld, .int .i64 b.st, .int .i64 b.al, .int .i64 b.oc])).run Tryz.prog w = .ok g w := by
  rw [run_equalIn_struct w 9999 51 _ _ (by kernel_rfl) (by kernel_rfl)]
  have hm : (Tryz.prog.fieldsOf 51).toList.map (fun f => (f.name, f.type, f.offset)) = [("ID", 3, 0), ("Part", 3, 1), ("Bar", 3, 2), ("Voice", 3, 3), ("Ossia", 3, 4), ("Start", 41, 5), ("Length", 41, 7), ("Pitch", 47, 9)] := by kernel_rfl
  generalize (Tryz.prog.fieldsOf 51).toList = L at hm ⊢
  rcases L with _ | ⟨f1, _ | ⟨f2, _ | ⟨f3, _ | ⟨f4, _ | ⟨f5, _ | ⟨f6, _ | ⟨f7, _ | ⟨f8, _ | ⟨f9, L⟩⟩⟩⟩⟩⟩⟩⟩⟩ <;> simp only [List.map_cons, List.map_nil, List.cons.injEq, Prod.mk.injEq, and_true, reduceCtorEq, and_false] at hm
  obtain ⟨⟨n1, t1, o1⟩, ⟨n2, t2, o2⟩, ⟨n3, t3, o3⟩, ⟨n4, t4, o4⟩, ⟨n5, t5, o5⟩, ⟨n6, t6, o6⟩, ⟨n7, t7, o7⟩, n8, t8, o8⟩ := hm
  have hg : g = ((a.id == b.id) && ((a.pa == b.pa) && ((a.ba == b.ba) && ((a.vo == b.vo) && ((a.os == b.os) && ((a.sn == b.sn && a.sd == b.sd) && ((a.ln == b.ln && a.ld == b.ld) && (((a.st == b.st) && ((a.al == b.al) && ((a.oc == b.oc) && true))) && true)))))))) := by
    rw [Bool.eq_iff_iff, h]
    cases a; cases b
    simp only [No.Nt.mk.injEq, Bool.and_eq_true, beq_iff_eq, and_true, and_assoc]
  rw [hg]
  refine eqF (by rw [n1]; decide) (u := .int .i64 a.id) (v := .int .i64 b.id) (by rw [t1, o1]; exact run_part_plain w (by kernel_rfl) rfl) (by rw [t1, o1]; exact run_part_plain w (by kernel_rfl) rfl) (by rw [t1]; exact run_equalIn_int w 9998 3 .i64 .i64 a.id b.id Tryz.underlying3) ?_
  refine eqF (by rw [n2]; decide) (u := .int .i64 a.pa) (v := .int .i64 b.pa) (by rw [t2, o2]; exact run_part_plain w (by kernel_rfl) rfl) (by rw [t2, o2]; exact run_part_plain w (by kernel_rfl) rfl) (by rw [t2]; exact run_equalIn_int w 9998 3 .i64 .i64 a.pa b.pa Tryz.underlying3) ?_
  refine eqF (by rw [n3]; decide) (u := .int .i64 a.ba) (v := .int .i64 b.ba) (by rw [t3, o3]; exact run_part_plain w (by kernel_rfl) rfl) (by rw [t3, o3]; exact run_part_plain w (by kernel_rfl) rfl) (by rw [t3]; exact run_equalIn_int w 9998 3 .i64 .i64 a.ba b.ba Tryz.underlying3) ?_
  refine eqF (by rw [n4]; decide) (u := .int .i64 a.vo) (v := .int .i64 b.vo) (by rw [t4, o4]; exact run_part_plain w (by kernel_rfl) rfl) (by rw [t4, o4]; exact run_part_plain w (by kernel_rfl) rfl) (by rw [t4]; exact run_equalIn_int w 9998 3 .i64 .i64 a.vo b.vo Tryz.underlying3) ?_
  refine eqF (by rw [n5]; decide) (u := .int .i64 a.os) (v := .int .i64 b.os) (by rw [t5, o5]; exact run_part_plain w (by kernel_rfl) rfl) (by rw [t5, o5]; exact run_part_plain w (by kernel_rfl) rfl) (by rw [t5]; exact run_equalIn_int w 9998 3 .i64 .i64 a.os b.os Tryz.underlying3) ?_
  refine eqF (by rw [n6]; decide) (u := .agg #[.int .i64 a.sn, .int .i64 a.sd]) (v := .agg #[.int .i64 b.sn, .int .i64 b.sd]) (by rw [t6, o6]; exact part_row _ _ _ _ 2 w (Tryz.isAgg41 w) (Tryz.sizeOf41 w) rfl) (by rw [t6, o6]; exact part_row _ _ _ _ 2 w (Tryz.isAgg41 w) (Tryz.sizeOf41 w) rfl) (by rw [t6]; exact eqRat a.sn a.sd b.sn b.sd w) ?_
  refine eqF (by rw [n7]; decide) (u := .agg #[.int .i64 a.ln, .int .i64 a.ld]) (v := .agg #[.int .i64 b.ln, .int .i64 b.ld]) (by rw [t7, o7]; exact part_row _ _ _ _ 2 w (Tryz.isAgg41 w) (Tryz.sizeOf41 w) rfl) (by rw [t7, o7]; exact part_row _ _ _ _ 2 w (Tryz.isAgg41 w) (Tryz.sizeOf41 w) rfl) (by rw [t7]; exact eqRat a.ln a.ld b.ln b.ld w) ?_
  refine eqF (by rw [n8]; decide) (u := .agg #[.int .i64 a.st, .int .i64 a.al, .int .i64 a.oc]) (v := .agg #[.int .i64 b.st, .int .i64 b.al, .int .i64 b.oc]) (by rw [t8, o8]; exact part_row _ _ _ _ 3 w (Tryz.isAgg47 w) (Tryz.sizeOf47 w) rfl) (by rw [t8, o8]; exact part_row _ _ _ _ 3 w (Tryz.isAgg47 w) (Tryz.sizeOf47 w) rfl) (by rw [t8]; exact eqPitch a.st a.al a.oc b.st b.al b.oc w) ?_
  rfl

set_option maxRecDepth 100000 in
set_option maxHeartbeats 1600000 in
theorem sequal_is (X Y : List No.Nt) (f : Bool) (n m cap cap2 : Nat) (A C : Option Addr) (h : f = true ↔ X = Y) (hX : X.length = n) (hY : Y.length = m) (hmax : n ≤ 1000000) (w : World) (hL : SlO w A X) (hL2 : SlO w C Y) :
    Calls Tryz.prog 66 #[.slice A n cap, .slice C m cap2] w fun e w' => e = .returned (.bool f) ∧ Below w.heap.size w w' := by
  have HF := Lib.hid h
  have HL := Lib.hid hL
  have HK := Lib.hid hL2
  have HN := Lib.hid hX
  have HM := Lib.hid hY
  by_cases hnm : n = m
  case neg =>
    obtain rfl : f = false := by cases f with
      | false => rfl
      | true => exact absurd (by rw [← hX, ← hY, h.1 rfl]) hnm
    have hb : ((n : Int) != (m : Int)) = true := by simp; omega
    clear h hX hY hL hL2 hnm
    go_enter Tryz.func66, Tryz.ntmps66
    go_wp2_with fail
    go_ret
    exact ⟨rfl, Below.refl _ _⟩
  subst hnm
  clear h hX hY hL hL2
  go_enter Tryz.func66, Tryz.ntmps66
  go_wp2_with fail
  go_loopw [13] (fun s13 wr => ∃ (k : Nat), k ≤ n ∧ s13 = .int .i64 (k : Int) ∧ Hid (∀ j, j < k → atO X j = atO Y j) ∧ Below w.heap.size w wr) (fun s13 _ => n - (intOf s13).toNat)
  case atStart => exact ⟨0, Nat.zero_le _, rfl, Lib.hid (fun j hj => by omega), Below.refl _ _⟩
  case round =>
    obtain ⟨k, hk, rfl, HJ, hX⟩ := hrel
    by_cases hlt : k < n
    · have hil : k < X.length := by rw [HN.out]; exact hlt
      have hil2 : k < Y.length := by rw [HM.out]; exact hlt
      obtain ⟨bb, off, rfl, hbb, hc⟩ := HL.out (by omega)
      obtain ⟨bd, ofd, rfl, hbd, hd⟩ := HK.out (by omega)
      obtain ⟨a, ha⟩ : ∃ a, atO X k = a := ⟨_, rfl⟩
      obtain ⟨b, hb⟩ : ∃ b, atO Y k = b := ⟨_, rfl⟩
      have P := (hc k hil).below hX hbb
      have Q := (hd k hil2).below hX hbd
      rw [ha] at P
      rw [hb] at Q
      have HA := Lib.hid ha; have HB := Lib.hid hb; have HI := Lib.hid hil; have HI2 := Lib.hid hil2
      have z0 : wr.cell? ⟨bb, off + k * 12, none⟩ = some (.int .i64 a.id) := P.c0
      have z1 : wr.cell? ⟨bd, ofd + k * 12, none⟩ = some (.int .i64 b.id) := Q.c0
      have x0 := fun y : Ext wr => y.cell z0
      have y0 := fun y : Ext wr => y.cell z1
      have x1 := fun y : Ext wr => y.cell P.c1; have x2 := fun y : Ext wr => y.cell P.c2; have x3 := fun y : Ext wr => y.cell P.c3; have x4 := fun y : Ext wr => y.cell P.c4; have x5 := fun y : Ext wr => y.cell P.c5; have x6 := fun y : Ext wr => y.cell P.c6; have x7 := fun y : Ext wr => y.cell P.c7; have x8 := fun y : Ext wr => y.cell P.c8; have x9 := fun y : Ext wr => y.cell P.c9; have x10 := fun y : Ext wr => y.cell P.c10; have x11 := fun y : Ext wr => y.cell P.c11
      have y1 := fun y : Ext wr => y.cell Q.c1; have y2 := fun y : Ext wr => y.cell Q.c2; have y3 := fun y : Ext wr => y.cell Q.c3; have y4 := fun y : Ext wr => y.cell Q.c4; have y5 := fun y : Ext wr => y.cell Q.c5; have y6 := fun y : Ext wr => y.cell Q.c6; have y7 := fun y : Ext wr => y.cell Q.c7; have y8 := fun y : Ext wr => y.cell Q.c8; have y9 := fun y : Ext wr => y.cell Q.c9; have y10 := fun y : Ext wr => y.cell Q.c10; have y11 := fun y : Ext wr => y.cell Q.c11
      have hne := Ext.there wr
      have hq1 : (k : Int) < (n : Int) := by omega
      clear P Q z0 z1 hc hd ha hb hil hil2
      go_wp2_with fail
      obtain ⟨g, hg⟩ := ex_bool (a = b)
      have heq := fun W => eqNote a b g hg W
      have HGE := Lib.hid hg
      clear hg
      refine Ext.region (by kernel_rfl) (by kernel_rfl) ?_
      repeat (go_big_quiet_step (simp only [heq]))
      refine wpQuiet_nil ?_
      rintro _ ⟨xw, rfl⟩
      replace hX := hX.trans (xw.h.mono hX.size)
      clear x0 x1 x2 x3 x4 x5 x6 x7 x8 x9 x10 x11 y0 y1 y2 y3 y4 y5 y6 y7 y8 y9 y10 y11 hne heq
      generalize xw.w = w3 at *
      clear xw
      cases g with
      | true =>
        have HJ2 : Hid (∀ j, j < k + 1 → atO X j = atO Y j) := Lib.hid (fun j hj => by
          rcases Nat.lt_or_ge j k with h | h
          · exact HJ.out j h
          · rw [show j = k by omega, HA.out, HB.out]
            exact HGE.out.1 rfl)
        go_wp2_with fail
        go_roundw
        case rel => exact ⟨k + 1, by omega, by simp, HJ2, hX⟩
        case measure => simp [intOf]; omega
      | false =>
        obtain rfl : f = false := by cases f with
          | false => rfl
          | true =>
            have h := HF.out.1 rfl
            have h2 : a = b := by rw [← HA.out, ← HB.out, h]
            have := HGE.out.2 h2
            cases this
        go_wp2_with fail
        go_ret
        exact ⟨rfl, hX⟩
    · obtain rfl : k = n := by omega
      obtain rfl : f = true := HF.out.2 (List.ext_getElem (by rw [HN.out, HM.out]) (fun i h1 h2 => by
        have h := HJ.out i (by rw [← HN.out]; exact h1)
        rwa [atO_eq h1, atO_eq h2] at h))
      go_wp2_with fail
      go_ret
      exact ⟨rfl, hX⟩
end Go.Proofs.YtbbjifhelbeniaaGreatDoor

/- Scores in memory; the walks of score's inOrder and Valid. -/
namespace Go.Proofs.YtbbjifhelbeniaaGreatDoor
open Go.RowKit

/-- A score as a value: its version, and where its bars, parts and notes lie. -/
structure SH where
  v : Int
  B : Option Addr
  bl : Nat
  bc : Nat
  P : Option Addr
  pl : Nat
  pc : Nat
  N : Option Addr
  nl : Nat
  nc : Nat
/-- What lies there. -/
structure SlS (w : World) (s : SH) (bs : List Mt.B) (ps : List Sc.Pt) (ns : List No.Nt) : Prop where
  bl : bs.length = s.bl
  pl : ps.length = s.pl
  nl : ns.length = s.nl
  sb : SlB w s.B bs
  sp : SlQ w s.P ps
  sn : SlO w s.N ns
theorem SlS.below {w w' : World} {s : SH} {bs : List Mt.B} {ps : List Sc.Pt} {ns : List No.Nt} (h : SlS w s bs ps ns) (hb : Below w.heap.size w w') : SlS w' s bs ps ns := ⟨h.bl, h.pl, h.nl, h.sb.below hb, h.sp.below hb, h.sn.below hb⟩
theorem SlS.alloc {w : World} {s : SH} {bs : List Mt.B} {ps : List Sc.Pt} {ns : List No.Nt} (h : SlS w s bs ps ns) (o : Obj) : SlS (w.alloc o) s bs ps ns := h.below ((Below.refl _ _).alloc (Nat.le_refl _) _)
/-- IDs are 64 bit integers. -/
structure WfS (bs : List Mt.B) (ps : List Sc.Pt) (ns : List No.Nt) : Prop where
  b : Mt.Wf bs
  p : Sc.Wf ps
  n : No.Wf ns
/-- A score's value in a block of its own. -/
structure ScB (w : World) (b : Nat) (s : SH) : Prop where
  lt : b < w.heap.size
  c0 : w.cell? ⟨b, 0, none⟩ = some (.int .i64 s.v)
  c1 : w.cell? ⟨b, 1, none⟩ = some (.slice s.B s.bl s.bc)
  c2 : w.cell? ⟨b, 2, none⟩ = some (.slice s.P s.pl s.pc)
  c3 : w.cell? ⟨b, 3, none⟩ = some (.slice s.N s.nl s.nc)
theorem ScB.below {w w' : World} {b : Nat} {s : SH} (h : ScB w b s) (hb : Below w.heap.size w w') : ScB w' b s :=
  ⟨Nat.lt_of_lt_of_le h.lt hb.size, (hb.cell (p := ⟨b, 0, none⟩) h.lt).trans h.c0, (hb.cell (p := ⟨b, 1, none⟩) h.lt).trans h.c1, (hb.cell (p := ⟨b, 2, none⟩) h.lt).trans h.c2, (hb.cell (p := ⟨b, 3, none⟩) h.lt).trans h.c3⟩
theorem ScB.alloc {w : World} {b : Nat} {s : SH} (h : ScB w b s) (o : Obj) : ScB (w.alloc o) b s := h.below ((Below.refl _ _).alloc (Nat.le_refl _) _)
theorem ScB.new (w : World) (s : SH) : ScB (w.alloc (.cells #[.int .i64 s.v, .slice s.B s.bl s.bc, .slice s.P s.pl s.pc, .slice s.N s.nl s.nc] 26)) w.heap.size s := ⟨by simp, by go_simp, by go_simp, by go_simp, by go_simp⟩

set_option maxHeartbeats 1600000 in
theorem sorder_is (bs : List Mt.B) (ns : List No.Nt) (f : Bool) (h : f = true ↔ (No.Val bs ns ∧ No.srt (No.lt bs) ns = ns)) (blen bcap len cap : Nat) (B A : Option Addr) (hbl : bs.length = blen) (hl : ns.length = len) (hwb : Mt.Wf bs) (hwn : No.Wf ns) (w : World) (hG : Glob w) (hB : SlB w B bs) (hL : SlO w A ns) :
    Calls Tryz.prog 36 #[.slice B blen bcap, .slice A len cap] w fun e w' => e = .returned (.bool f) ∧ Below w.heap.size w w' := by
  have HF := Lib.hid h
  have HN := Lib.hid hbl
  have HM := Lib.hid hl
  have HWB := Lib.hid hwb
  have HWN := Lib.hid hwn
  have HB := Lib.hid hB
  have HL := Lib.hid hL
  have HG := Lib.hid hG
  by_cases hv : No.Val bs ns
  case neg =>
    obtain rfl : f = false := by cases f with
      | false => rfl
      | true => exact absurd (h.1 rfl).1 hv
    have HV := Lib.hid hv
    clear h hbl hl hwb hwn hG hB hL hv
    go_enter Tryz.func36, Tryz.ntmps36
    go_wp2_with fail
    refine (tnsort_is bs ns false _ _ _ _ _ _ ⟨(fun h => by cases h), fun h => absurd h HV.out⟩ HN.out HM.out HWB.out HWN.out _ HB.out HL.out HG.out).mono ?_; rintro e w1 ⟨hb, h⟩
    obtain ⟨-, rfl⟩ := h.resolve_right (by rintro ⟨h, _⟩; cases h)
    clear h
    go_wp2_with fail
    go_ret
    exact ⟨rfl, hb⟩
  case pos =>
    have HV := Lib.hid hv
    have hmax : len ≤ 1000000 := by have := hv.2.1; omega
    have HS : Hid ((No.srt (No.lt bs) ns).length = len) := Lib.hid (by rw [(No.srt_perm ns).length_eq]; exact hl)
    clear h hbl hl hwb hwn hG hB hL hv
    go_enter Tryz.func36, Tryz.ntmps36
    go_wp2_with fail
    refine (tnsort_is bs ns true _ _ _ _ _ _ ⟨fun _ => HV.out, fun _ => rfl⟩ HN.out HM.out HWB.out HWN.out _ HB.out HL.out HG.out).mono ?_; rintro e w1 ⟨hb, h⟩
    obtain ⟨-, D, c, rfl, S, -, -⟩ := h.resolve_left (by rintro ⟨h, _⟩; cases h)
    have HSS := Lib.hid S
    clear h S
    go_wp2_with fail
    refine (sequal_is (No.srt (No.lt bs) ns) ns f len len _ _ _ _ (HF.out.trans ⟨fun x => x.2, fun x => ⟨HV.out, x⟩⟩) HS.out HM.out hmax _ HSS.out (HL.out.below hb)).mono ?_; rintro e w2 ⟨rfl, hb2⟩
    go_wp2_with fail
    go_ret
    exact ⟨rfl, hb.trans (hb2.mono hb.size)⟩
set_option maxHeartbeats 1600000 in
theorem svalid_is (s : SH) (bs : List Mt.B) (ps : List Sc.Pt) (ns : List No.Nt) (f : Bool) (h : f = true ↔ Sc.Val s.v bs ps ns) (hwf : WfS bs ps ns) (w : World) (hG : Glob w) (hS : SlS w s bs ps ns) :
    Calls Tryz.prog 11 #[.agg #[.int .i64 s.v, .slice s.B s.bl s.bc, .slice s.P s.pl s.pc, .slice s.N s.nl s.nc]] w fun e w' => e = .returned (.bool f) ∧ Below w.heap.size w w' := by
  have HF := Lib.hid h
  have HW := Lib.hid hwf
  have HL := Lib.hid (And.intro hS.bl (And.intro hS.pl hS.nl))
  clear hwf
  by_cases q1 : 1 ≤ s.v ∧ s.v ≤ 1000000
  case neg =>
    obtain rfl : f = false := by cases f with
      | false => rfl
      | true => exact absurd (h.1 rfl).ver q1
    have H1 := Lib.hid (decide_eq_false q1)
    clear h HF q1
    go_enter Tryz.func11, Tryz.ntmps11
    go_wp2_with fail
    have B := Below.refl w.heap.size w
    refine (tisid_is s.v false H1.out _).mono ?_; rintro e w1 ⟨rfl, hb⟩
    replace hS := (hS.alloc _).below hb
    have A := (ScB.new _ s).below hb
    replace hG := (hG.alloc _).below hb
    replace B := (B.alloc (by have := B.size; simp <;> omega) _).trans (hb.mono (by have := B.size; simp <;> omega))
    clear hb
    have lA := A.lt; have cA0 := A.c0; have cA1 := A.c1; have cA2 := A.c2; have cA3 := A.c3
    go_wp2_with fail
    go_ret
    exact ⟨rfl, B⟩
  have H1 := Lib.hid (decide_eq_true q1)
  by_cases q2 : Sc.Parts ps
  case neg =>
    obtain rfl : f = false := by cases f with
      | false => rfl
      | true => exact absurd (h.1 rfl).parts q2
    have H2 := Lib.hid q2
    clear h HF q1 q2
    go_enter Tryz.func11, Tryz.ntmps11
    go_wp2_with fail
    have B := Below.refl w.heap.size w
    refine (tisid_is s.v true H1.out _).mono ?_; rintro e w1 ⟨rfl, hb⟩
    replace hS := (hS.alloc _).below hb
    have A := (ScB.new _ s).below hb
    replace hG := (hG.alloc _).below hb
    replace B := (B.alloc (by have := B.size; simp <;> omega) _).trans (hb.mono (by have := B.size; simp <;> omega))
    clear hb
    have lA := A.lt; have cA0 := A.c0; have cA1 := A.c1; have cA2 := A.c2; have cA3 := A.c3
    go_wp2_with fail
    refine (sparts_is ps false _ _ _ ⟨(fun h => by cases h), fun h => absurd h H2.out⟩ HL.out.2.1 HW.out.p _ hG (hS).sp).mono ?_; rintro e w2 ⟨rfl, hb⟩
    replace hS := hS.below hb
    replace A := A.below hb
    replace hG := hG.below hb
    replace B := B.trans (hb.mono (by have := B.size; simp <;> omega))
    clear hb lA cA0 cA1 cA2 cA3
    have lA := A.lt; have cA0 := A.c0; have cA1 := A.c1; have cA2 := A.c2; have cA3 := A.c3
    go_wp2_with fail
    go_ret
    exact ⟨rfl, B⟩
  have H2 := Lib.hid q2
  by_cases q3 : No.Val bs ns ∧ No.srt (No.lt bs) ns = ns
  case neg =>
    obtain rfl : f = false := by cases f with
      | false => rfl
      | true => exact absurd (And.intro (h.1 rfl).notes (h.1 rfl).order) q3
    have H3 := Lib.hid q3
    clear h HF q1 q2 q3
    go_enter Tryz.func11, Tryz.ntmps11
    go_wp2_with fail
    have B := Below.refl w.heap.size w
    refine (tisid_is s.v true H1.out _).mono ?_; rintro e w1 ⟨rfl, hb⟩
    replace hS := (hS.alloc _).below hb
    have A := (ScB.new _ s).below hb
    replace hG := (hG.alloc _).below hb
    replace B := (B.alloc (by have := B.size; simp <;> omega) _).trans (hb.mono (by have := B.size; simp <;> omega))
    clear hb
    have lA := A.lt; have cA0 := A.c0; have cA1 := A.c1; have cA2 := A.c2; have cA3 := A.c3
    go_wp2_with fail
    refine (sparts_is ps true _ _ _ ⟨fun _ => H2.out, fun _ => rfl⟩ HL.out.2.1 HW.out.p _ hG (hS).sp).mono ?_; rintro e w2 ⟨rfl, hb⟩
    replace hS := hS.below hb
    replace A := A.below hb
    replace hG := hG.below hb
    replace B := B.trans (hb.mono (by have := B.size; simp <;> omega))
    clear hb lA cA0 cA1 cA2 cA3
    have lA := A.lt; have cA0 := A.c0; have cA1 := A.c1; have cA2 := A.c2; have cA3 := A.c3
    go_wp2_with fail
    refine (sorder_is bs ns false ⟨(fun h => by cases h), fun h => absurd h H3.out⟩ _ _ _ _ _ _ HL.out.1 HL.out.2.2 HW.out.b HW.out.n _ hG (hS).sb (hS).sn).mono ?_; rintro e w3 ⟨rfl, hb⟩
    replace hS := hS.below hb
    replace A := A.below hb
    replace hG := hG.below hb
    replace B := B.trans (hb.mono (by have := B.size; simp <;> omega))
    clear hb lA cA0 cA1 cA2 cA3
    have lA := A.lt; have cA0 := A.c0; have cA1 := A.c1; have cA2 := A.c2; have cA3 := A.c3
    go_wp2_with fail
    go_ret
    exact ⟨rfl, B⟩
  have H3 := Lib.hid q3
  obtain ⟨e, he⟩ : ∃ e, Sc.wrong ps ns = e := ⟨_, rfl⟩
  obtain rfl : f = (e == 0) := by
    rw [Bool.eq_iff_iff, h, beq_iff_eq, ← he]
    exact ⟨fun x => x.wrong, fun x => ⟨q1, q2, q3.1, q3.2, x⟩⟩
  have HE := Lib.hid he
  clear h HF q1 q2 q3 he
  go_enter Tryz.func11, Tryz.ntmps11
  go_wp2_with fail
  have B := Below.refl w.heap.size w
  refine (tisid_is s.v true H1.out _).mono ?_; rintro e w1 ⟨rfl, hb⟩
  replace hS := (hS.alloc _).below hb
  have A := (ScB.new _ s).below hb
  replace hG := (hG.alloc _).below hb
  replace B := (B.alloc (by have := B.size; simp <;> omega) _).trans (hb.mono (by have := B.size; simp <;> omega))
  clear hb
  have lA := A.lt; have cA0 := A.c0; have cA1 := A.c1; have cA2 := A.c2; have cA3 := A.c3
  go_wp2_with fail
  refine (sparts_is ps true _ _ _ ⟨fun _ => H2.out, fun _ => rfl⟩ HL.out.2.1 HW.out.p _ hG (hS).sp).mono ?_; rintro e w2 ⟨rfl, hb⟩
  replace hS := hS.below hb
  replace A := A.below hb
  replace hG := hG.below hb
  replace B := B.trans (hb.mono (by have := B.size; simp <;> omega))
  clear hb lA cA0 cA1 cA2 cA3
  have lA := A.lt; have cA0 := A.c0; have cA1 := A.c1; have cA2 := A.c2; have cA3 := A.c3
  go_wp2_with fail
  refine (sorder_is bs ns true ⟨fun _ => H3.out, fun _ => rfl⟩ _ _ _ _ _ _ HL.out.1 HL.out.2.2 HW.out.b HW.out.n _ hG (hS).sb (hS).sn).mono ?_; rintro e w3 ⟨rfl, hb⟩
  replace hS := hS.below hb
  replace A := A.below hb
  replace hG := hG.below hb
  replace B := B.trans (hb.mono (by have := B.size; simp <;> omega))
  clear hb lA cA0 cA1 cA2 cA3
  have lA := A.lt; have cA0 := A.c0; have cA1 := A.c1; have cA2 := A.c2; have cA3 := A.c3
  go_wp2_with fail
  refine (srefusal_is bs ps ns e _ _ _ _ _ _ HE.out H2.out H3.out.1 HL.out.2.1 HW.out.p HL.out.2.2 _ hG (hS).sp (hS).sn).mono ?_; rintro e w4 ⟨rfl, hb⟩
  replace hS := hS.below hb
  replace A := A.below hb
  replace hG := hG.below hb
  replace B := B.trans (hb.mono (by have := B.size; simp <;> omega))
  clear hb lA cA0 cA1 cA2 cA3
  have lA := A.lt; have cA0 := A.c0; have cA1 := A.c1; have cA2 := A.c2; have cA3 := A.c3
  go_wp2_with fail
  go_ret
  exact ⟨rfl, B⟩
end Go.Proofs.YtbbjifhelbeniaaGreatDoor

/- The walks of the reference's Valid, asked, found. -/
namespace Go.Proofs.YtbbjifhelbeniaaGreatDoor
open Go.RowKit

namespace Sc
theorem chain_pair {bs : List Mt.B} {l : List No.Nt} (h : ∀ i, i + 1 < l.length → No.lt bs (atO l i) (atO l (i + 1)) = true) : l.Pairwise fun a b => No.lt bs a b = true := by
  have key : ∀ d i, i + d + 1 < l.length → No.lt bs (atO l i) (atO l (i + d + 1)) = true := by
    intro d
    induction d with
    | zero => exact fun i hi => h i hi
    | succ d ih =>
      intro i hi
      exact No.lt_trans bs _ _ _ (ih i (by omega)) (h (i + d + 1) hi)
  refine List.pairwise_iff_getElem.2 fun i j hi hj hij => ?_
  have h2 := key (j - i - 1) i (by omega)
  rw [show i + (j - i - 1) + 1 = j by omega, atO_eq hi, atO_eq hj] at h2
  exact h2
theorem pair_chain {bs : List Mt.B} {l : List No.Nt} (h : l.Pairwise fun a b => No.lt bs a b = true) {i : Nat} (hi : i + 1 < l.length) : No.lt bs (atO l i) (atO l (i + 1)) = true := by
  rw [atO_eq (by omega), atO_eq hi]
  exact List.pairwise_iff_getElem.1 h i (i + 1) (by omega) hi (by omega)
end Sc
set_option maxRecDepth 100000 in
set_option maxHeartbeats 3200000 in
theorem rval_is (s : SH) (bs : List Mt.B) (ps : List Sc.Pt) (ns : List No.Nt) (f : Bool) (h : f = true ↔ Sc.Val s.v bs ps ns) (w : World) (hS : SlS w s bs ps ns) :
    Calls Tryz.prog 12 #[.agg #[.int .i64 s.v, .slice s.B s.bl s.bc, .slice s.P s.pl s.pc, .slice s.N s.nl s.nc]] w fun e w' => e = .returned (.bool f) ∧ Below w.heap.size w w' := by
  have HF := Lib.hid h
  have HL := Lib.hid (And.intro hS.bl (And.intro hS.pl hS.nl))
  obtain ⟨g1, hg1⟩ := ex_bool (Mt.Val bs)
  obtain ⟨g2, hg2⟩ := ex_bool (Sc.Parts ps)
  have G1 := Lib.hid hg1
  have G2 := Lib.hid hg2
  clear hg1 hg2
  by_cases qver : 1 ≤ s.v ∧ s.v ≤ 1000000
  case neg =>
    obtain rfl : f = false := by cases f with
      | false => rfl
      | true => exact absurd (h.1 rfl).ver qver
    have HV := Lib.hid (decide_eq_false qver)
    clear h HF qver
    go_enter Tryz.func12, Tryz.ntmps12
    go_wp2_with fail
    have B := Below.refl w.heap.size w
    refine (kvalid_is bs g1 _ _ _ G1.out HL.out.1 _ ((hS.alloc _)).sb).mono ?_; rintro e w1 ⟨rfl, hb⟩
    replace hS := (hS.alloc _).below hb
    have A := (ScB.new _ s).below hb
    replace B := (B.alloc (by have := B.size; simp <;> omega) _).trans (hb.mono (by have := B.size; simp <;> omega))
    clear hb
    have lA := A.lt; have cA0 := A.c0; have cA1 := A.c1; have cA2 := A.c2; have cA3 := A.c3
    go_wp2_with fail
    refine (rparts_is ps g2 _ _ _ G2.out HL.out.2.1 _ (hS).sp).mono ?_; rintro e w2 ⟨rfl, hb⟩
    replace hS := hS.below hb
    replace A := A.below hb
    replace B := B.trans (hb.mono (by have := B.size; simp <;> omega))
    clear hb lA cA0 cA1 cA2 cA3
    have lA := A.lt; have cA0 := A.c0; have cA1 := A.c1; have cA2 := A.c2; have cA3 := A.c3
    go_wp2_with fail
    refine (sind_is s.v 1 1000000 false HV.out _).mono ?_; rintro e w3 ⟨rfl, hb⟩
    replace hS := hS.below hb
    replace A := A.below hb
    replace B := B.trans (hb.mono (by have := B.size; simp <;> omega))
    clear hb lA cA0 cA1 cA2 cA3
    have lA := A.lt; have cA0 := A.c0; have cA1 := A.c1; have cA2 := A.c2; have cA3 := A.c3
    go_wp2_with fail
    go_ret
    exact ⟨rfl, B⟩
  have HV := Lib.hid (decide_eq_true qver)
  by_cases qbars : Mt.Val bs
  case neg =>
    obtain rfl : f = false := by cases f with
      | false => rfl
      | true => exact absurd (h.1 rfl).notes.1 qbars
    have HB := Lib.hid qbars
    clear h HF qver qbars
    go_enter Tryz.func12, Tryz.ntmps12
    go_wp2_with fail
    have B := Below.refl w.heap.size w
    refine (kvalid_is bs false _ _ _ ⟨(fun h => by cases h), fun h => absurd h HB.out⟩ HL.out.1 _ ((hS.alloc _)).sb).mono ?_; rintro e w1 ⟨rfl, hb⟩
    replace hS := (hS.alloc _).below hb
    have A := (ScB.new _ s).below hb
    replace B := (B.alloc (by have := B.size; simp <;> omega) _).trans (hb.mono (by have := B.size; simp <;> omega))
    clear hb
    have lA := A.lt; have cA0 := A.c0; have cA1 := A.c1; have cA2 := A.c2; have cA3 := A.c3
    go_wp2_with fail
    refine (rparts_is ps g2 _ _ _ G2.out HL.out.2.1 _ (hS).sp).mono ?_; rintro e w2 ⟨rfl, hb⟩
    replace hS := hS.below hb
    replace A := A.below hb
    replace B := B.trans (hb.mono (by have := B.size; simp <;> omega))
    clear hb lA cA0 cA1 cA2 cA3
    have lA := A.lt; have cA0 := A.c0; have cA1 := A.c1; have cA2 := A.c2; have cA3 := A.c3
    go_wp2_with fail
    refine (sind_is s.v 1 1000000 true HV.out _).mono ?_; rintro e w3 ⟨rfl, hb⟩
    replace hS := hS.below hb
    replace A := A.below hb
    replace B := B.trans (hb.mono (by have := B.size; simp <;> omega))
    clear hb lA cA0 cA1 cA2 cA3
    have lA := A.lt; have cA0 := A.c0; have cA1 := A.c1; have cA2 := A.c2; have cA3 := A.c3
    go_wp2_with fail
    go_ret
    exact ⟨rfl, B⟩
  have HB := Lib.hid qbars
  by_cases qparts : Sc.Parts ps
  case neg =>
    obtain rfl : f = false := by cases f with
      | false => rfl
      | true => exact absurd (h.1 rfl).parts qparts
    have HP := Lib.hid qparts
    clear h HF qver qbars qparts
    go_enter Tryz.func12, Tryz.ntmps12
    go_wp2_with fail
    have B := Below.refl w.heap.size w
    refine (kvalid_is bs true _ _ _ ⟨fun _ => HB.out, fun _ => rfl⟩ HL.out.1 _ ((hS.alloc _)).sb).mono ?_; rintro e w1 ⟨rfl, hb⟩
    replace hS := (hS.alloc _).below hb
    have A := (ScB.new _ s).below hb
    replace B := (B.alloc (by have := B.size; simp <;> omega) _).trans (hb.mono (by have := B.size; simp <;> omega))
    clear hb
    have lA := A.lt; have cA0 := A.c0; have cA1 := A.c1; have cA2 := A.c2; have cA3 := A.c3
    go_wp2_with fail
    refine (rparts_is ps false _ _ _ ⟨(fun h => by cases h), fun h => absurd h HP.out⟩ HL.out.2.1 _ (hS).sp).mono ?_; rintro e w2 ⟨rfl, hb⟩
    replace hS := hS.below hb
    replace A := A.below hb
    replace B := B.trans (hb.mono (by have := B.size; simp <;> omega))
    clear hb lA cA0 cA1 cA2 cA3
    have lA := A.lt; have cA0 := A.c0; have cA1 := A.c1; have cA2 := A.c2; have cA3 := A.c3
    go_wp2_with fail
    refine (sind_is s.v 1 1000000 true HV.out _).mono ?_; rintro e w3 ⟨rfl, hb⟩
    replace hS := hS.below hb
    replace A := A.below hb
    replace B := B.trans (hb.mono (by have := B.size; simp <;> omega))
    clear hb lA cA0 cA1 cA2 cA3
    have lA := A.lt; have cA0 := A.c0; have cA1 := A.c1; have cA2 := A.c2; have cA3 := A.c3
    go_wp2_with fail
    go_ret
    exact ⟨rfl, B⟩
  have HP := Lib.hid qparts
  by_cases qnotes : No.Val bs ns
  case neg =>
    obtain rfl : f = false := by cases f with
      | false => rfl
      | true => exact absurd (h.1 rfl).notes qnotes
    have HO := Lib.hid qnotes
    clear h HF qver qbars qparts qnotes
    go_enter Tryz.func12, Tryz.ntmps12
    go_wp2_with fail
    have B := Below.refl w.heap.size w
    refine (kvalid_is bs true _ _ _ ⟨fun _ => HB.out, fun _ => rfl⟩ HL.out.1 _ ((hS.alloc _)).sb).mono ?_; rintro e w1 ⟨rfl, hb⟩
    replace hS := (hS.alloc _).below hb
    have A := (ScB.new _ s).below hb
    replace B := (B.alloc (by have := B.size; simp <;> omega) _).trans (hb.mono (by have := B.size; simp <;> omega))
    clear hb
    have lA := A.lt; have cA0 := A.c0; have cA1 := A.c1; have cA2 := A.c2; have cA3 := A.c3
    go_wp2_with fail
    refine (rparts_is ps true _ _ _ ⟨fun _ => HP.out, fun _ => rfl⟩ HL.out.2.1 _ (hS).sp).mono ?_; rintro e w2 ⟨rfl, hb⟩
    replace hS := hS.below hb
    replace A := A.below hb
    replace B := B.trans (hb.mono (by have := B.size; simp <;> omega))
    clear hb lA cA0 cA1 cA2 cA3
    have lA := A.lt; have cA0 := A.c0; have cA1 := A.c1; have cA2 := A.c2; have cA3 := A.c3
    go_wp2_with fail
    refine (sind_is s.v 1 1000000 true HV.out _).mono ?_; rintro e w3 ⟨rfl, hb⟩
    replace hS := hS.below hb
    replace A := A.below hb
    replace B := B.trans (hb.mono (by have := B.size; simp <;> omega))
    clear hb lA cA0 cA1 cA2 cA3
    have lA := A.lt; have cA0 := A.c0; have cA1 := A.c1; have cA2 := A.c2; have cA3 := A.c3
    go_wp2_with fail
    refine (rnvalid_is bs ns false _ _ _ _ _ _ ⟨(fun h => by cases h), fun h => absurd h HO.out⟩ HL.out.1 HL.out.2.2 _ (hS).sb (hS).sn).mono ?_; rintro e w4 ⟨rfl, hb⟩
    replace hS := hS.below hb
    replace A := A.below hb
    replace B := B.trans (hb.mono (by have := B.size; simp <;> omega))
    clear hb lA cA0 cA1 cA2 cA3
    have lA := A.lt; have cA0 := A.c0; have cA1 := A.c1; have cA2 := A.c2; have cA3 := A.c3
    go_wp2_with fail
    go_ret
    exact ⟨rfl, B⟩
  have HO := Lib.hid qnotes
  obtain ⟨e, he⟩ : ∃ e, Sc.wrong ps ns = e := ⟨_, rfl⟩
  have HE := Lib.hid he
  by_cases qe : e = 0
  case neg =>
    obtain rfl : f = false := by cases f with
      | false => rfl
      | true => exact absurd ((he.symm.trans (h.1 rfl).wrong)) qe
    have be : (e != 0) = true := by simpa using qe
    clear h HF qver qbars qparts qnotes he qe
    go_enter Tryz.func12, Tryz.ntmps12
    go_wp2_with fail
    have B := Below.refl w.heap.size w
    refine (kvalid_is bs true _ _ _ ⟨fun _ => HB.out, fun _ => rfl⟩ HL.out.1 _ ((hS.alloc _)).sb).mono ?_; rintro e w1 ⟨rfl, hb⟩
    replace hS := (hS.alloc _).below hb
    have A := (ScB.new _ s).below hb
    replace B := (B.alloc (by have := B.size; simp <;> omega) _).trans (hb.mono (by have := B.size; simp <;> omega))
    clear hb
    have lA := A.lt; have cA0 := A.c0; have cA1 := A.c1; have cA2 := A.c2; have cA3 := A.c3
    go_wp2_with fail
    refine (rparts_is ps true _ _ _ ⟨fun _ => HP.out, fun _ => rfl⟩ HL.out.2.1 _ (hS).sp).mono ?_; rintro e w2 ⟨rfl, hb⟩
    replace hS := hS.below hb
    replace A := A.below hb
    replace B := B.trans (hb.mono (by have := B.size; simp <;> omega))
    clear hb lA cA0 cA1 cA2 cA3
    have lA := A.lt; have cA0 := A.c0; have cA1 := A.c1; have cA2 := A.c2; have cA3 := A.c3
    go_wp2_with fail
    refine (sind_is s.v 1 1000000 true HV.out _).mono ?_; rintro e w3 ⟨rfl, hb⟩
    replace hS := hS.below hb
    replace A := A.below hb
    replace B := B.trans (hb.mono (by have := B.size; simp <;> omega))
    clear hb lA cA0 cA1 cA2 cA3
    have lA := A.lt; have cA0 := A.c0; have cA1 := A.c1; have cA2 := A.c2; have cA3 := A.c3
    go_wp2_with fail
    refine (rnvalid_is bs ns true _ _ _ _ _ _ ⟨fun _ => HO.out, fun _ => rfl⟩ HL.out.1 HL.out.2.2 _ (hS).sb (hS).sn).mono ?_; rintro e w4 ⟨rfl, hb⟩
    replace hS := hS.below hb
    replace A := A.below hb
    replace B := B.trans (hb.mono (by have := B.size; simp <;> omega))
    clear hb lA cA0 cA1 cA2 cA3
    have lA := A.lt; have cA0 := A.c0; have cA1 := A.c1; have cA2 := A.c2; have cA3 := A.c3
    go_wp2_with fail
    refine (rwrong_is bs ps ns e _ _ _ _ _ _ HE.out HP.out HO.out HL.out.2.1 HL.out.2.2 _ (hS).sp (hS).sn).mono ?_; rintro e w5 ⟨rfl, hb⟩
    replace hS := hS.below hb
    replace A := A.below hb
    replace B := B.trans (hb.mono (by have := B.size; simp <;> omega))
    clear hb lA cA0 cA1 cA2 cA3
    have lA := A.lt; have cA0 := A.c0; have cA1 := A.c1; have cA2 := A.c2; have cA3 := A.c3
    go_wp2_with fail
    go_ret
    exact ⟨rfl, B⟩
  have be : (e != 0) = false := by simpa using qe
  have HPW : Hid (f = true ↔ ns.Pairwise fun a b => No.lt bs a b = true) := Lib.hid (by
    rw [h, ← Sc.order_iff qnotes]
    exact ⟨fun x => x.order, fun x => ⟨qver, qparts, qnotes, x, he.trans qe⟩⟩)
  have hnb : s.nl ≤ 20000 := by have := qnotes.2.1; have := hS.nl; omega
  have hbb : s.bl ≤ 4000000 := by have := qbars.2.1; have := hS.bl; omega
  have HAL : Hid (∀ i, i < s.nl → No.isN (atO ns i).st (atO ns i).al (atO ns i).oc) := Lib.hid (fun i hi => (qnotes.2.2.1 _ (atO_mem (by rw [hS.nl]; exact hi))).2.1)
  clear h HF qver qbars qparts qnotes he qe
  go_enter Tryz.func12, Tryz.ntmps12
  go_wp2_with fail
  have B := Below.refl w.heap.size w
  refine (kvalid_is bs true _ _ _ ⟨fun _ => HB.out, fun _ => rfl⟩ HL.out.1 _ ((hS.alloc _)).sb).mono ?_; rintro e w1 ⟨rfl, hb⟩
  replace hS := (hS.alloc _).below hb
  have A := (ScB.new _ s).below hb
  replace B := (B.alloc (by have := B.size; simp <;> omega) _).trans (hb.mono (by have := B.size; simp <;> omega))
  clear hb
  have lA := A.lt; have cA0 := A.c0; have cA1 := A.c1; have cA2 := A.c2; have cA3 := A.c3
  go_wp2_with fail
  refine (rparts_is ps true _ _ _ ⟨fun _ => HP.out, fun _ => rfl⟩ HL.out.2.1 _ (hS).sp).mono ?_; rintro e w2 ⟨rfl, hb⟩
  replace hS := hS.below hb
  replace A := A.below hb
  replace B := B.trans (hb.mono (by have := B.size; simp <;> omega))
  clear hb lA cA0 cA1 cA2 cA3
  have lA := A.lt; have cA0 := A.c0; have cA1 := A.c1; have cA2 := A.c2; have cA3 := A.c3
  go_wp2_with fail
  refine (sind_is s.v 1 1000000 true HV.out _).mono ?_; rintro e w3 ⟨rfl, hb⟩
  replace hS := hS.below hb
  replace A := A.below hb
  replace B := B.trans (hb.mono (by have := B.size; simp <;> omega))
  clear hb lA cA0 cA1 cA2 cA3
  have lA := A.lt; have cA0 := A.c0; have cA1 := A.c1; have cA2 := A.c2; have cA3 := A.c3
  go_wp2_with fail
  refine (rnvalid_is bs ns true _ _ _ _ _ _ ⟨fun _ => HO.out, fun _ => rfl⟩ HL.out.1 HL.out.2.2 _ (hS).sb (hS).sn).mono ?_; rintro e w4 ⟨rfl, hb⟩
  replace hS := hS.below hb
  replace A := A.below hb
  replace B := B.trans (hb.mono (by have := B.size; simp <;> omega))
  clear hb lA cA0 cA1 cA2 cA3
  have lA := A.lt; have cA0 := A.c0; have cA1 := A.c1; have cA2 := A.c2; have cA3 := A.c3
  go_wp2_with fail
  refine (rwrong_is bs ps ns e _ _ _ _ _ _ HE.out HP.out HO.out HL.out.2.1 HL.out.2.2 _ (hS).sp (hS).sn).mono ?_; rintro e w5 ⟨rfl, hb⟩
  replace hS := hS.below hb
  replace A := A.below hb
  replace B := B.trans (hb.mono (by have := B.size; simp <;> omega))
  clear hb lA cA0 cA1 cA2 cA3
  have lA := A.lt; have cA0 := A.c0; have cA1 := A.c1; have cA2 := A.c2; have cA3 := A.c3
  go_wp2_with fail
  clear lA cA0 cA1 cA2 cA3
  obtain ⟨vb, hvb⟩ : ∃ vb, w.heap.size = vb := ⟨_, rfl⟩
  rw [hvb] at A
  try simp only [hvb]
  clear hvb
  have HA := Lib.hid A; have HS := Lib.hid hS; have HBB := Lib.hid B
  clear A hS B
  go_loopw [6] (fun s6 wr => ∃ (k : Nat), 1 ≤ k ∧ (k ≤ s.nl ∨ k = 1) ∧ s6 = .int .i64 (k : Int) ∧ Hid (∀ i, i + 1 < k → No.lt bs (atO ns i) (atO ns (i + 1)) = true) ∧ Below w5.heap.size w5 wr) (fun s6 _ => s.nl - (intOf s6).toNat)
  case atStart => exact ⟨1, Nat.le_refl _, .inr rfl, rfl, Lib.hid (fun i hi => by omega), Below.refl _ _⟩
  case round =>
    obtain ⟨k, hk1, hk2, rfl, HJ, hX⟩ := hrel
    have A1 := HA.out.below hX
    have l1 := A1.lt
    have a1 := A1.c1
    have a3 := A1.c3
    by_cases hlt : k < s.nl
    · obtain ⟨p, rfl⟩ : ∃ p, k = p + 1 := ⟨k - 1, by omega⟩
      have hp1 : p < ns.length := by have := HL.out.2.2; omega
      have hp2 : p + 1 < ns.length := by have := HL.out.2.2; omega
      obtain ⟨bb, off, hN, hnbb, hc⟩ := HS.out.sn (by omega)
      have HNN := Lib.hid hN
      obtain ⟨a, ha⟩ : ∃ a, atO ns p = a := ⟨_, rfl⟩
      obtain ⟨b, hb⟩ : ∃ b, atO ns (p + 1) = b := ⟨_, rfl⟩
      have P := (hc p hp1).below hX hnbb
      have Q := (hc (p + 1) hp2).below hX hnbb
      rw [ha] at P
      rw [hb] at Q
      have HIA := Lib.hid (HAL.out p (by omega))
      have HIB := Lib.hid (HAL.out (p + 1) (by omega))
      rw [ha] at HIA
      rw [hb] at HIB
      obtain ⟨g, hg⟩ : ∃ g, No.lt bs a b = g := ⟨_, rfl⟩
      have HG := Lib.hid hg
      have HAE := Lib.hid ha; have HBE := Lib.hid hb
      have z0 : wr.cell? ⟨bb, off + p * 12, none⟩ = some (.int .i64 a.id) := P.c0
      have z1 : wr.cell? ⟨bb, off + (p + 1) * 12, none⟩ = some (.int .i64 b.id) := Q.c0
      rw [hN] at a3
      have x0 := fun y : Ext wr => y.cell z0
      have y0 := fun y : Ext wr => y.cell z1
      have x1 := fun y : Ext wr => y.cell P.c1; have x2 := fun y : Ext wr => y.cell P.c2; have x3 := fun y : Ext wr => y.cell P.c3; have x4 := fun y : Ext wr => y.cell P.c4; have x5 := fun y : Ext wr => y.cell P.c5; have x6 := fun y : Ext wr => y.cell P.c6; have x7 := fun y : Ext wr => y.cell P.c7; have x8 := fun y : Ext wr => y.cell P.c8; have x9 := fun y : Ext wr => y.cell P.c9; have x10 := fun y : Ext wr => y.cell P.c10; have x11 := fun y : Ext wr => y.cell P.c11
      have y1 := fun y : Ext wr => y.cell Q.c1; have y2 := fun y : Ext wr => y.cell Q.c2; have y3 := fun y : Ext wr => y.cell Q.c3; have y4 := fun y : Ext wr => y.cell Q.c4; have y5 := fun y : Ext wr => y.cell Q.c5; have y6 := fun y : Ext wr => y.cell Q.c6; have y7 := fun y : Ext wr => y.cell Q.c7; have y8 := fun y : Ext wr => y.cell Q.c8; have y9 := fun y : Ext wr => y.cell Q.c9; have y10 := fun y : Ext wr => y.cell Q.c10; have y11 := fun y : Ext wr => y.cell Q.c11
      have v1 := fun y : Ext wr => y.cell a1
      have v3 := fun y : Ext wr => y.cell a3
      have hne := Ext.there wr
      have HSB := Lib.hid (HS.out.sb.below hX)
      have hq1 : ((p : Int) + 1) < (s.nl : Int) := by omega
      have hq2 : (p : Int) + 1 - 1 = (p : Int) := by omega
      have hq3 : (p : Int) < (s.nl : Int) := by omega
      clear P Q z0 z1 hc ha hb hp1 hp2 hg hN hk1 hk2 A1
      go_wp2_with fail
      clear a1 a3 l1
      refine Ext.region (by kernel_rfl) (by kernel_rfl) ?_
      repeat (go_big_quiet_step ((go_at_call 42; exact Ext.call _ (rbefore_is bs a b g s.bl s.bc s.B HG.out HIA.out HIB.out HL.out.1 hbb _ (HSB.out.below (Ext.h _))))))
      refine wpQuiet_nil ?_
      rintro _ ⟨xw, rfl⟩
      replace hX := hX.trans (xw.h.mono hX.size)
      clear x0 x1 x2 x3 x4 x5 x6 x7 x8 x9 x10 x11 y0 y1 y2 y3 y4 y5 y6 y7 y8 y9 y10 y11 v1 v3 hne HSB
      generalize xw.w = w9 at *
      clear xw
      cases g with
      | true =>
        have HJ2 : Hid (∀ i, i + 1 < p + 1 + 1 → No.lt bs (atO ns i) (atO ns (i + 1)) = true) := Lib.hid (fun i hi => by
          rcases Nat.lt_or_ge (i + 1) (p + 1) with h | h
          · exact HJ.out i h
          · rw [show i = p by omega, HAE.out, HBE.out]; exact HG.out)
        go_wp2_with fail
        go_roundw
        case rel => exact ⟨p + 1 + 1, by omega, .inl (by omega), by simp, HJ2, hX⟩
        case measure => simp [intOf]; omega
      | false =>
        obtain rfl : f = false := by cases f with
          | false => rfl
          | true =>
            have h := Sc.pair_chain (HPW.out.1 rfl) (i := p) (by have := HL.out.2.2; omega)
            rw [HAE.out, HBE.out, HG.out] at h
            cases h
        go_wp2_with fail
        go_ret
        exact ⟨rfl, HBB.out.trans (hX.mono HBB.out.size)⟩
    · obtain rfl : f = true := HPW.out.2 (Sc.chain_pair (fun i hi => HJ.out i (by have := HL.out.2.2; omega)))
      have hq1 : ¬ (k : Int) < (s.nl : Int) := by omega
      clear hk2 A1
      go_wp2_with fail
      go_ret
      exact ⟨rfl, HBB.out.trans (hX.mono HBB.out.size)⟩

end Go.Proofs.YtbbjifhelbeniaaGreatDoor
