import Derived.Test.YtbbjifhelbeniaaGreatDoorGR
import Derived.Test.YtbbjifhelbeniaaGreatDoorGL
/- The result of With in its block; the walk of score's With. -/
namespace Go.Proofs.YtbbjifhelbeniaaGreatDoor
open Go.RowKit

def SH.zero : SH := ⟨0, none, 0, 0, none, 0, 0, none, 0, 0⟩
/-- A score's value in a variable of its own. -/
structure ScV (w : World) (b : Nat) (s : SH) : Prop where
  at_ : ScB w b s
  blk : ∃ arr, w.heap[b]? = some (.cells arr 26 (0, 0)) ∧ arr.size = 4
theorem ScV.below {w w' : World} {b : Nat} {s : SH} (h : ScV w b s) (hb : Below w.heap.size w w') : ScV w' b s :=
  ⟨h.at_.below hb, by obtain ⟨arr, h1, h2⟩ := h.blk; exact ⟨arr, (hb.block b h.at_.lt).trans h1, h2⟩⟩
theorem ScV.alloc {w : World} {b : Nat} {s : SH} (h : ScV w b s) (o : Obj) : ScV (w.alloc o) b s := h.below ((Below.refl _ _).alloc (Nat.le_refl _) _)
theorem ScV.f {w : World} {b : Nat} {s : SH} (h : ScV w b s) (j : Nat) : w.frozen? ⟨b, j, none⟩ = false := by
  obtain ⟨arr, h1, _⟩ := h.blk
  simp [World.frozen?, h1]
theorem ScV.zero (w : World) : ScV (w.alloc (.cells #[.int .i64 0, .slice none 0 0, .slice none 0 0, .slice none 0 0] 26)) w.heap.size .zero := ⟨ScB.new w .zero, _, heap_alloc_new w _, rfl⟩
theorem ScV.lt4 {w : World} {b j : Nat} {s : SH} {v : Value} (h : ScV w b s) (hc : w.cell? ⟨b, j, none⟩ = some v) : j < 4 := by
  obtain ⟨arr, h1, h2⟩ := h.blk
  rw [← h2]
  simp only [World.cell?, h1] at hc
  exact (Array.getElem?_eq_some_iff.1 hc).1
theorem SlB.apart {w : World} {b : Nat} {s : SH} {A : Option Addr} {l : List Mt.B} (h : SlB w A l) (v : ScV w b s) (h0 : 0 < l.length) : ∀ b' o, A = some ⟨b', o, none⟩ → b' ≠ b := fun b' o e hb => by
  subst hb
  obtain ⟨b2, o2, e2, _, hc⟩ := h h0
  rw [e] at e2
  cases e2
  obtain ⟨_, c1, _, c3⟩ := hc 0 h0
  have := v.lt4 c3
  obtain rfl : o = 0 := by omega
  have h1 := v.at_.c1
  rw [show (0 : Nat) + 0 * 4 + 1 = 1 from rfl, h1] at c1
  cases c1
theorem SlQ.apart {w : World} {b : Nat} {s : SH} {A : Option Addr} {l : List Sc.Pt} (h : SlQ w A l) (v : ScV w b s) (h0 : 0 < l.length) : ∀ b' o, A = some ⟨b', o, none⟩ → b' ≠ b := fun b' o e hb => by
  subst hb
  obtain ⟨b2, o2, e2, _, hc⟩ := h h0
  rw [e] at e2
  cases e2
  have := v.lt4 (hc 0 h0).c12
  omega
theorem SlO.apart {w : World} {b : Nat} {s : SH} {A : Option Addr} {l : List No.Nt} (h : SlO w A l) (v : ScV w b s) (h0 : 0 < l.length) : ∀ b' o, A = some ⟨b', o, none⟩ → b' ≠ b := fun b' o e hb => by
  subst hb
  obtain ⟨b2, o2, e2, _, hc⟩ := h h0
  rw [e] at e2
  cases e2
  have := v.lt4 (hc 0 h0).c11
  omega
/-- The world behind the four stores. -/
def putS (w : World) (b : Nat) (s : SH) : World := (((w.setCell ⟨b, 0, none⟩ (.int .i64 s.v)).setCell ⟨b, 1, none⟩ (.slice s.B s.bl s.bc)).setCell ⟨b, 2, none⟩ (.slice s.P s.pl s.pc)).setCell ⟨b, 3, none⟩ (.slice s.N s.nl s.nc)
theorem putS_other {w : World} {b k j : Nat} (s : SH) (h : k ≠ b) : (putS w b s).cell? ⟨k, j, none⟩ = w.cell? ⟨k, j, none⟩ := by
  unfold putS
  rw [set_cell_ne, set_cell_ne, set_cell_ne, set_cell_ne]
  all_goals exact h
theorem putS_below {B : Nat} {w0 w : World} {b : Nat} (h : Below B w0 w) (hb : B ≤ b) (s : SH) : Below B w0 (putS w b s) :=
  (((h.setCell (p := ⟨b, 0, none⟩) hb _).setCell (p := ⟨b, 1, none⟩) hb _).setCell (p := ⟨b, 2, none⟩) hb _).setCell (p := ⟨b, 3, none⟩) hb _
theorem putS_size (w : World) (b : Nat) (s : SH) : (putS w b s).heap.size = w.heap.size := by unfold putS; simp
theorem SlB.putS {w : World} {b : Nat} {s : SH} {A : Option Addr} {l : List Mt.B} (h : SlB w A l) (v : ScV w b s) (t : SH) : SlB (putS w b t) A l := fun h0 => by
  obtain ⟨b', o, e, hl, hc⟩ := h h0
  have hne := h.apart v h0 b' o e
  refine ⟨b', o, e, by rw [putS_size]; exact hl, fun k hk => ?_⟩
  simp only [putS_other t hne]
  exact hc k hk
theorem SlQ.putS {w : World} {b : Nat} {s : SH} {A : Option Addr} {l : List Sc.Pt} (h : SlQ w A l) (v : ScV w b s) (t : SH) : SlQ (putS w b t) A l := fun h0 => by
  obtain ⟨b', o, e, hl, hc⟩ := h h0
  have hne := h.apart v h0 b' o e
  exact ⟨b', o, e, by rw [putS_size]; exact hl, fun k hk => PtAt.of fun j u hj => (putS_other t hne).trans ((hc k hk).to j u hj)⟩
theorem SlO.putS {w : World} {b : Nat} {s : SH} {A : Option Addr} {l : List No.Nt} (h : SlO w A l) (v : ScV w b s) (t : SH) : SlO (putS w b t) A l := fun h0 => by
  obtain ⟨b', o, e, hl, hc⟩ := h h0
  have hne := h.apart v h0 b' o e
  exact ⟨b', o, e, by rw [putS_size]; exact hl, fun k hk => NtAt.of fun j u hj => (putS_other t hne).trans ((hc k hk).to j u hj)⟩
set_option maxHeartbeats 1600000 in
theorem ScV.put {w : World} {b : Nat} {s : SH} (h : ScV w b s) (t : SH) : ScB (putS w b t) b t := by
  obtain ⟨l, c0, c1, c2, c3⟩ := h.at_
  have f0 := h.f 0; have f1 := h.f 1; have f2 := h.f 2; have f3 := h.f 3
  unfold putS
  refine ⟨by simpa using l, ?_, ?_, ?_, ?_⟩
  all_goals go_simp
theorem No.vperm {bs : List Mt.B} {l m : List No.Nt} (h : No.Val bs l) (hp : m.Perm l) : No.Val bs m :=
  ⟨h.1, by rw [hp.length_eq]; exact h.2.1, fun n hn => h.2.2.1 n (hp.mem_iff.1 hn), (hp.pairwise_iff (fun h => Ne.symm h)).2 h.2.2.2⟩
/-- Behind the operations of With's last region: the clones. -/
def wiC (W : World) (bs : List Mt.B) (ps : List Sc.Pt) (bl pl : Nat) (vs : List Value) (w : World) : Prop := Below W.heap.size W w ∧ match vs with
  | [] => True
  | [v] => ∃ D c, v = .slice D bl c ∧ SlB w D bs
  | [v, u] => (∃ D c, v = .slice D bl c ∧ SlB w D bs) ∧ ∃ E d, u = .slice E pl d ∧ SlQ w E ps
  | _ => False
/-- What With answers: the error, or the score with the notes in order. -/
def WithI (ok : Prop) (W e : Int) : Prop := (¬ ok ∧ e = 1) ∨ (ok ∧ e = W)
structure WithR (nv : Int) (bs : List Mt.B) (ps : List Sc.Pt) (ns : List No.Nt) (e : Int) (s' : SH) (w' : World) : Prop where
  ok : e = 0 → s'.v = nv ∧ SlS w' s' bs ps ns ∧ s'.nl ≤ s'.nc ∧ (s'.N = none → s'.nc = 0)
  no : e ≠ 0 → s' = .zero
set_option maxRecDepth 100000 in
set_option maxHeartbeats 2400000 in
theorem swith_is (s : SH) (bs : List Mt.B) (ps : List Sc.Pt) (ns : List No.Nt) (nv : Int) (l : List No.Nt) (e : Int) (len cap : Nat) (A : Option Addr) (h : WithI (Sc.Val s.v bs ps ns ∧ (1 ≤ nv ∧ nv ≤ 1000000) ∧ No.Val bs l) (Sc.wrong ps l) e) (hl : l.length = len) (hwf : WfS bs ps ns) (hwn : No.Wf l) (w : World) (hG : Glob w) (hS : SlS w s bs ps ns) (hA : SlO w A l) :
    Calls Tryz.prog 22 #[.agg #[.int .i64 s.v, .slice s.B s.bl s.bc, .slice s.P s.pl s.pc, .slice s.N s.nl s.nc], .int .i64 nv, .slice A len cap] w fun y w' => Below w.heap.size w w' ∧ ∃ s' : SH, y = .returned (.tuple #[.agg #[.int .i64 s'.v, .slice s'.B s'.bl s'.bc, .slice s'.P s'.pl s'.pc, .slice s'.N s'.nl s'.nc], .int .i64 e]) ∧ WithR nv bs ps (No.srt (No.lt bs) l) e s' w' := by
  have HW := Lib.hid hwf
  have HWN := Lib.hid hwn
  have HNL := Lib.hid hl
  have HL := Lib.hid (And.intro hS.bl (And.intro hS.pl hS.nl))
  clear hwf hwn
  by_cases q1 : Sc.Val s.v bs ps ns
  case neg =>
    obtain rfl : e = 1 := h.elim (fun h => h.2) (fun h => absurd h.1.1 q1)
    have HV := Lib.hid q1
    have HE : Hid ((1 : Int) ≠ 0) := Lib.hid (by decide)
    clear q1 h
    go_enter Tryz.func22, Tryz.ntmps22
    go_wp2_with fail
    have V := ScV.zero (w.alloc (.cells #[.int .i64 s.v, .slice s.B s.bl s.bc, .slice s.P s.pl s.pc, .slice s.N s.nl s.nc] 26))
    rw [World.size_alloc] at V
    have Q := (ScB.new w s).alloc (.cells #[.int .i64 0, .slice none 0 0, .slice none 0 0, .slice none 0 0] 26)
    have B := ((Below.refl w.heap.size w).alloc (Nat.le_refl _) (.cells #[.int .i64 s.v, .slice s.B s.bl s.bc, .slice s.P s.pl s.pc, .slice s.N s.nl s.nc] 26)).alloc (by simp) (.cells #[.int .i64 0, .slice none 0 0, .slice none 0 0, .slice none 0 0] 26)
    replace hS := (hS.alloc (.cells #[.int .i64 s.v, .slice s.B s.bl s.bc, .slice s.P s.pl s.pc, .slice s.N s.nl s.nc] 26)).alloc (.cells #[.int .i64 0, .slice none 0 0, .slice none 0 0, .slice none 0 0] 26)
    replace hA := (hA.alloc (.cells #[.int .i64 s.v, .slice s.B s.bl s.bc, .slice s.P s.pl s.pc, .slice s.N s.nl s.nc] 26)).alloc (.cells #[.int .i64 0, .slice none 0 0, .slice none 0 0, .slice none 0 0] 26)
    replace hG := (hG.alloc (.cells #[.int .i64 s.v, .slice s.B s.bl s.bc, .slice s.P s.pl s.pc, .slice s.N s.nl s.nc] 26)).alloc (.cells #[.int .i64 0, .slice none 0 0, .slice none 0 0, .slice none 0 0] 26)
    refine (svalid_is s bs ps ns false ⟨(fun h => by cases h), fun h => absurd h HV.out⟩ HW.out _ hG hS).mono ?_; rintro e w1 ⟨rfl, hb⟩
    replace V := V.below hb
    replace hS := hS.below hb
    replace hA := hA.below hb
    replace hG := hG.below hb
    replace B := B.trans (hb.mono B.size)
    replace Q := Q.below hb
    clear hb
    have lV := V.at_.lt; have v0 := V.at_.c0; have v1 := V.at_.c1; have v2 := V.at_.c2; have v3 := V.at_.c3; have g0 := V.f 0; have g1 := V.f 1; have g2 := V.f 2; have g3 := V.f 3; have q0 := Q.c0; have q1 := Q.c1; have q2 := Q.c2; have q3 := Q.c3; have lQ := Q.lt
    go_wp2_with fail
    have hB2 := putS_below B (Nat.le_succ _) .zero
    have P := V.put .zero
    show bodyPost _ _ _ _ _ (putS w1 (w.heap.size + 1) .zero)
    obtain ⟨wz, hz⟩ : ∃ wz, putS w1 (w.heap.size + 1) .zero = wz := ⟨_, rfl⟩
    rw [hz] at P hB2 ⊢
    obtain ⟨-, p0, p1, p2, p3⟩ := P
    dsimp only [SH.zero] at p0 p1 p2 p3
    refine bodyPost_ret (v := .tuple #[.agg #[.int .i64 0, .slice none 0 0, .slice none 0 0, .slice none 0 0], .int .i64 1]) (by simp [results, Tryz.results22, p0, p1, p2, p3, go_sem]) rfl ⟨hB2, .zero, rfl, fun h => absurd h HE.out, fun _ => rfl⟩
  have HV := Lib.hid q1
  by_cases q2 : 1 ≤ nv ∧ nv ≤ 1000000
  case neg =>
    obtain rfl : e = 1 := h.elim (fun h => h.2) (fun h => absurd h.1.2.1 q2)
    have HI := Lib.hid (decide_eq_false q2)
    have HE : Hid ((1 : Int) ≠ 0) := Lib.hid (by decide)
    clear q1 q2 h
    go_enter Tryz.func22, Tryz.ntmps22
    go_wp2_with fail
    have V := ScV.zero (w.alloc (.cells #[.int .i64 s.v, .slice s.B s.bl s.bc, .slice s.P s.pl s.pc, .slice s.N s.nl s.nc] 26))
    rw [World.size_alloc] at V
    have Q := (ScB.new w s).alloc (.cells #[.int .i64 0, .slice none 0 0, .slice none 0 0, .slice none 0 0] 26)
    have B := ((Below.refl w.heap.size w).alloc (Nat.le_refl _) (.cells #[.int .i64 s.v, .slice s.B s.bl s.bc, .slice s.P s.pl s.pc, .slice s.N s.nl s.nc] 26)).alloc (by simp) (.cells #[.int .i64 0, .slice none 0 0, .slice none 0 0, .slice none 0 0] 26)
    replace hS := (hS.alloc (.cells #[.int .i64 s.v, .slice s.B s.bl s.bc, .slice s.P s.pl s.pc, .slice s.N s.nl s.nc] 26)).alloc (.cells #[.int .i64 0, .slice none 0 0, .slice none 0 0, .slice none 0 0] 26)
    replace hA := (hA.alloc (.cells #[.int .i64 s.v, .slice s.B s.bl s.bc, .slice s.P s.pl s.pc, .slice s.N s.nl s.nc] 26)).alloc (.cells #[.int .i64 0, .slice none 0 0, .slice none 0 0, .slice none 0 0] 26)
    replace hG := (hG.alloc (.cells #[.int .i64 s.v, .slice s.B s.bl s.bc, .slice s.P s.pl s.pc, .slice s.N s.nl s.nc] 26)).alloc (.cells #[.int .i64 0, .slice none 0 0, .slice none 0 0, .slice none 0 0] 26)
    refine (svalid_is s bs ps ns true ⟨fun _ => HV.out, fun _ => rfl⟩ HW.out _ hG hS).mono ?_; rintro e w1 ⟨rfl, hb⟩
    replace V := V.below hb
    replace hS := hS.below hb
    replace hA := hA.below hb
    replace hG := hG.below hb
    replace B := B.trans (hb.mono B.size)
    replace Q := Q.below hb
    clear hb
    have lV := V.at_.lt; have v0 := V.at_.c0; have v1 := V.at_.c1; have v2 := V.at_.c2; have v3 := V.at_.c3; have g0 := V.f 0; have g1 := V.f 1; have g2 := V.f 2; have g3 := V.f 3; have q0 := Q.c0; have q1 := Q.c1; have q2 := Q.c2; have q3 := Q.c3; have lQ := Q.lt
    go_wp2_with fail
    clear lV v0 v1 v2 v3 g0 g1 g2 g3 q0 q1 q2 q3 lQ
    refine (tisid_is nv false HI.out _).mono ?_; rintro e w2 ⟨rfl, hb⟩
    replace V := V.below hb
    replace hS := hS.below hb
    replace hA := hA.below hb
    replace hG := hG.below hb
    replace B := B.trans (hb.mono B.size)
    replace Q := Q.below hb
    clear hb
    have lV := V.at_.lt; have v0 := V.at_.c0; have v1 := V.at_.c1; have v2 := V.at_.c2; have v3 := V.at_.c3; have g0 := V.f 0; have g1 := V.f 1; have g2 := V.f 2; have g3 := V.f 3; have q0 := Q.c0; have q1 := Q.c1; have q2 := Q.c2; have q3 := Q.c3; have lQ := Q.lt
    go_wp2_with fail
    have hB2 := putS_below B (Nat.le_succ _) .zero
    have P := V.put .zero
    show bodyPost _ _ _ _ _ (putS w2 (w.heap.size + 1) .zero)
    obtain ⟨wz, hz⟩ : ∃ wz, putS w2 (w.heap.size + 1) .zero = wz := ⟨_, rfl⟩
    rw [hz] at P hB2 ⊢
    obtain ⟨-, p0, p1, p2, p3⟩ := P
    dsimp only [SH.zero] at p0 p1 p2 p3
    refine bodyPost_ret (v := .tuple #[.agg #[.int .i64 0, .slice none 0 0, .slice none 0 0, .slice none 0 0], .int .i64 1]) (by simp [results, Tryz.results22, p0, p1, p2, p3, go_sem]) rfl ⟨hB2, .zero, rfl, fun h => absurd h HE.out, fun _ => rfl⟩
  have HI := Lib.hid (decide_eq_true q2)
  by_cases q3 : No.Val bs l
  case neg =>
    obtain rfl : e = 1 := h.elim (fun h => h.2) (fun h => absurd h.1.2.2 q3)
    have HQ := Lib.hid q3
    have HE : Hid ((1 : Int) ≠ 0) := Lib.hid (by decide)
    clear q1 q2 q3 h
    go_enter Tryz.func22, Tryz.ntmps22
    go_wp2_with fail
    have V := ScV.zero (w.alloc (.cells #[.int .i64 s.v, .slice s.B s.bl s.bc, .slice s.P s.pl s.pc, .slice s.N s.nl s.nc] 26))
    rw [World.size_alloc] at V
    have Q := (ScB.new w s).alloc (.cells #[.int .i64 0, .slice none 0 0, .slice none 0 0, .slice none 0 0] 26)
    have B := ((Below.refl w.heap.size w).alloc (Nat.le_refl _) (.cells #[.int .i64 s.v, .slice s.B s.bl s.bc, .slice s.P s.pl s.pc, .slice s.N s.nl s.nc] 26)).alloc (by simp) (.cells #[.int .i64 0, .slice none 0 0, .slice none 0 0, .slice none 0 0] 26)
    replace hS := (hS.alloc (.cells #[.int .i64 s.v, .slice s.B s.bl s.bc, .slice s.P s.pl s.pc, .slice s.N s.nl s.nc] 26)).alloc (.cells #[.int .i64 0, .slice none 0 0, .slice none 0 0, .slice none 0 0] 26)
    replace hA := (hA.alloc (.cells #[.int .i64 s.v, .slice s.B s.bl s.bc, .slice s.P s.pl s.pc, .slice s.N s.nl s.nc] 26)).alloc (.cells #[.int .i64 0, .slice none 0 0, .slice none 0 0, .slice none 0 0] 26)
    replace hG := (hG.alloc (.cells #[.int .i64 s.v, .slice s.B s.bl s.bc, .slice s.P s.pl s.pc, .slice s.N s.nl s.nc] 26)).alloc (.cells #[.int .i64 0, .slice none 0 0, .slice none 0 0, .slice none 0 0] 26)
    refine (svalid_is s bs ps ns true ⟨fun _ => HV.out, fun _ => rfl⟩ HW.out _ hG hS).mono ?_; rintro e w1 ⟨rfl, hb⟩
    replace V := V.below hb
    replace hS := hS.below hb
    replace hA := hA.below hb
    replace hG := hG.below hb
    replace B := B.trans (hb.mono B.size)
    replace Q := Q.below hb
    clear hb
    have lV := V.at_.lt; have v0 := V.at_.c0; have v1 := V.at_.c1; have v2 := V.at_.c2; have v3 := V.at_.c3; have g0 := V.f 0; have g1 := V.f 1; have g2 := V.f 2; have g3 := V.f 3; have q0 := Q.c0; have q1 := Q.c1; have q2 := Q.c2; have q3 := Q.c3; have lQ := Q.lt
    go_wp2_with fail
    clear lV v0 v1 v2 v3 g0 g1 g2 g3 q0 q1 q2 q3 lQ
    refine (tisid_is nv true HI.out _).mono ?_; rintro e w2 ⟨rfl, hb⟩
    replace V := V.below hb
    replace hS := hS.below hb
    replace hA := hA.below hb
    replace hG := hG.below hb
    replace B := B.trans (hb.mono B.size)
    replace Q := Q.below hb
    clear hb
    have lV := V.at_.lt; have v0 := V.at_.c0; have v1 := V.at_.c1; have v2 := V.at_.c2; have v3 := V.at_.c3; have g0 := V.f 0; have g1 := V.f 1; have g2 := V.f 2; have g3 := V.f 3; have q0 := Q.c0; have q1 := Q.c1; have q2 := Q.c2; have q3 := Q.c3; have lQ := Q.lt
    go_wp2_with fail
    clear lV v0 v1 v2 v3 g0 g1 g2 g3 q0 q1 q2 q3 lQ
    replace hS := hS
    refine (tnsort_is bs l false _ _ _ _ _ _ ⟨(fun h => by cases h), fun h => absurd h HQ.out⟩ HL.out.1 HNL.out HW.out.b HWN.out _ hS.sb hA hG).mono ?_; rintro e w3 ⟨hb, hr⟩
    replace V := V.below hb
    replace hS := hS.below hb
    replace hA := hA.below hb
    replace hG := hG.below hb
    replace B := B.trans (hb.mono B.size)
    replace Q := Q.below hb
    clear hb
    obtain ⟨-, rfl⟩ := hr.resolve_right (by rintro ⟨h, _⟩; cases h)
    clear hr
    have lV := V.at_.lt; have v0 := V.at_.c0; have v1 := V.at_.c1; have v2 := V.at_.c2; have v3 := V.at_.c3; have g0 := V.f 0; have g1 := V.f 1; have g2 := V.f 2; have g3 := V.f 3; have q0 := Q.c0; have q1 := Q.c1; have q2 := Q.c2; have q3 := Q.c3; have lQ := Q.lt
    go_wp2_with fail
    have hB2 := putS_below B (Nat.le_succ _) .zero
    have P := V.put .zero
    show bodyPost _ _ _ _ _ (putS w3 (w.heap.size + 1) .zero)
    obtain ⟨wz, hz⟩ : ∃ wz, putS w3 (w.heap.size + 1) .zero = wz := ⟨_, rfl⟩
    rw [hz] at P hB2 ⊢
    obtain ⟨-, p0, p1, p2, p3⟩ := P
    dsimp only [SH.zero] at p0 p1 p2 p3
    refine bodyPost_ret (v := .tuple #[.agg #[.int .i64 0, .slice none 0 0, .slice none 0 0, .slice none 0 0], .int .i64 1]) (by simp [results, Tryz.results22, p0, p1, p2, p3, go_sem]) rfl ⟨hB2, .zero, rfl, fun h => absurd h HE.out, fun _ => rfl⟩
  have HQ := Lib.hid q3
  have hwr : Sc.wrong ps (No.srt (No.lt bs) l) = e := by
    rw [Sc.wrong_perm (No.srt_perm l)]
    exact h.elim (fun h => absurd ⟨q1, q2, q3⟩ h.1) (fun h => h.2.symm)
  have HWR := Lib.hid hwr
  have HSV : Hid (No.Val bs (No.srt (No.lt bs) l)) := Lib.hid (No.vperm q3 (No.srt_perm l))
  have HSL : Hid ((No.srt (No.lt bs) l).length = len) := Lib.hid (by rw [(No.srt_perm l).length_eq]; exact hl)
  by_cases q4 : e = 0
  case neg =>
    have HE := Lib.hid q4
    have hee : (e != 0) = true := by simpa using q4
    clear q1 q2 q3 q4 h hwr
    go_enter Tryz.func22, Tryz.ntmps22
    go_wp2_with fail
    have V := ScV.zero (w.alloc (.cells #[.int .i64 s.v, .slice s.B s.bl s.bc, .slice s.P s.pl s.pc, .slice s.N s.nl s.nc] 26))
    rw [World.size_alloc] at V
    have Q := (ScB.new w s).alloc (.cells #[.int .i64 0, .slice none 0 0, .slice none 0 0, .slice none 0 0] 26)
    have B := ((Below.refl w.heap.size w).alloc (Nat.le_refl _) (.cells #[.int .i64 s.v, .slice s.B s.bl s.bc, .slice s.P s.pl s.pc, .slice s.N s.nl s.nc] 26)).alloc (by simp) (.cells #[.int .i64 0, .slice none 0 0, .slice none 0 0, .slice none 0 0] 26)
    replace hS := (hS.alloc (.cells #[.int .i64 s.v, .slice s.B s.bl s.bc, .slice s.P s.pl s.pc, .slice s.N s.nl s.nc] 26)).alloc (.cells #[.int .i64 0, .slice none 0 0, .slice none 0 0, .slice none 0 0] 26)
    replace hA := (hA.alloc (.cells #[.int .i64 s.v, .slice s.B s.bl s.bc, .slice s.P s.pl s.pc, .slice s.N s.nl s.nc] 26)).alloc (.cells #[.int .i64 0, .slice none 0 0, .slice none 0 0, .slice none 0 0] 26)
    replace hG := (hG.alloc (.cells #[.int .i64 s.v, .slice s.B s.bl s.bc, .slice s.P s.pl s.pc, .slice s.N s.nl s.nc] 26)).alloc (.cells #[.int .i64 0, .slice none 0 0, .slice none 0 0, .slice none 0 0] 26)
    refine (svalid_is s bs ps ns true ⟨fun _ => HV.out, fun _ => rfl⟩ HW.out _ hG hS).mono ?_; rintro e w1 ⟨rfl, hb⟩
    replace V := V.below hb
    replace hS := hS.below hb
    replace hA := hA.below hb
    replace hG := hG.below hb
    replace B := B.trans (hb.mono B.size)
    replace Q := Q.below hb
    clear hb
    have lV := V.at_.lt; have v0 := V.at_.c0; have v1 := V.at_.c1; have v2 := V.at_.c2; have v3 := V.at_.c3; have g0 := V.f 0; have g1 := V.f 1; have g2 := V.f 2; have g3 := V.f 3; have q0 := Q.c0; have q1 := Q.c1; have q2 := Q.c2; have q3 := Q.c3; have lQ := Q.lt
    go_wp2_with fail
    clear lV v0 v1 v2 v3 g0 g1 g2 g3 q0 q1 q2 q3 lQ
    refine (tisid_is nv true HI.out _).mono ?_; rintro e w2 ⟨rfl, hb⟩
    replace V := V.below hb
    replace hS := hS.below hb
    replace hA := hA.below hb
    replace hG := hG.below hb
    replace B := B.trans (hb.mono B.size)
    replace Q := Q.below hb
    clear hb
    have lV := V.at_.lt; have v0 := V.at_.c0; have v1 := V.at_.c1; have v2 := V.at_.c2; have v3 := V.at_.c3; have g0 := V.f 0; have g1 := V.f 1; have g2 := V.f 2; have g3 := V.f 3; have q0 := Q.c0; have q1 := Q.c1; have q2 := Q.c2; have q3 := Q.c3; have lQ := Q.lt
    go_wp2_with fail
    clear lV v0 v1 v2 v3 g0 g1 g2 g3 q0 q1 q2 q3 lQ
    refine (tnsort_is bs l true _ _ _ _ _ _ ⟨fun _ => HQ.out, fun _ => rfl⟩ HL.out.1 HNL.out HW.out.b HWN.out _ hS.sb hA hG).mono ?_; rintro e w3 ⟨hb, hr⟩
    replace V := V.below hb
    replace hS := hS.below hb
    replace hA := hA.below hb
    replace hG := hG.below hb
    replace B := B.trans (hb.mono B.size)
    replace Q := Q.below hb
    clear hb
    obtain ⟨-, D, c, rfl, hD, hDn, hDc⟩ := hr.resolve_left (by rintro ⟨h, _⟩; cases h)
    clear hr
    have lV := V.at_.lt; have v0 := V.at_.c0; have v1 := V.at_.c1; have v2 := V.at_.c2; have v3 := V.at_.c3; have g0 := V.f 0; have g1 := V.f 1; have g2 := V.f 2; have g3 := V.f 3; have q0 := Q.c0; have q1 := Q.c1; have q2 := Q.c2; have q3 := Q.c3; have lQ := Q.lt
    go_wp2_with fail
    clear lV v0 v1 v2 v3 g0 g1 g2 g3 q0 q1 q2 q3 lQ
    refine (srefusal_is bs ps (No.srt (No.lt bs) l) e _ _ _ _ _ _ HWR.out HV.out.parts HSV.out HL.out.2.1 HW.out.p HSL.out _ hG hS.sp hD).mono ?_; rintro e w4 ⟨rfl, hb⟩
    replace V := V.below hb
    replace hS := hS.below hb
    replace hA := hA.below hb
    replace hG := hG.below hb
    replace B := B.trans (hb.mono B.size)
    replace Q := Q.below hb
    replace hD := hD.below hb
    clear hb
    have lV := V.at_.lt; have v0 := V.at_.c0; have v1 := V.at_.c1; have v2 := V.at_.c2; have v3 := V.at_.c3; have g0 := V.f 0; have g1 := V.f 1; have g2 := V.f 2; have g3 := V.f 3; have q0 := Q.c0; have q1 := Q.c1; have q2 := Q.c2; have q3 := Q.c3; have lQ := Q.lt
    go_wp2_with fail
    have hB2 := putS_below B (Nat.le_succ _) .zero
    have P := V.put .zero
    show bodyPost _ _ _ _ _ (putS w4 (w.heap.size + 1) .zero)
    obtain ⟨wz, hz⟩ : ∃ wz, putS w4 (w.heap.size + 1) .zero = wz := ⟨_, rfl⟩
    rw [hz] at P hB2 ⊢
    obtain ⟨-, p0, p1, p2, p3⟩ := P
    dsimp only [SH.zero] at p0 p1 p2 p3
    refine bodyPost_ret (v := .tuple #[.agg #[.int .i64 0, .slice none 0 0, .slice none 0 0, .slice none 0 0], .int .i64 e]) (by simp [results, Tryz.results22, p0, p1, p2, p3, go_sem]) rfl ⟨hB2, .zero, rfl, fun h => absurd h HE.out, fun _ => rfl⟩
  subst q4
  have hb0 := q1.notes.1.1
  have hp0 := q1.parts.1.1
  have hbm := q1.notes.1.2.1
  have hpm := q1.parts.1.2
  clear q1 q2 q3 h hwr
  go_enter Tryz.func22, Tryz.ntmps22
  go_wp2_with fail
  have V := ScV.zero (w.alloc (.cells #[.int .i64 s.v, .slice s.B s.bl s.bc, .slice s.P s.pl s.pc, .slice s.N s.nl s.nc] 26))
  rw [World.size_alloc] at V
  have Q := (ScB.new w s).alloc (.cells #[.int .i64 0, .slice none 0 0, .slice none 0 0, .slice none 0 0] 26)
  have B := ((Below.refl w.heap.size w).alloc (Nat.le_refl _) (.cells #[.int .i64 s.v, .slice s.B s.bl s.bc, .slice s.P s.pl s.pc, .slice s.N s.nl s.nc] 26)).alloc (by simp) (.cells #[.int .i64 0, .slice none 0 0, .slice none 0 0, .slice none 0 0] 26)
  replace hS := (hS.alloc (.cells #[.int .i64 s.v, .slice s.B s.bl s.bc, .slice s.P s.pl s.pc, .slice s.N s.nl s.nc] 26)).alloc (.cells #[.int .i64 0, .slice none 0 0, .slice none 0 0, .slice none 0 0] 26)
  replace hA := (hA.alloc (.cells #[.int .i64 s.v, .slice s.B s.bl s.bc, .slice s.P s.pl s.pc, .slice s.N s.nl s.nc] 26)).alloc (.cells #[.int .i64 0, .slice none 0 0, .slice none 0 0, .slice none 0 0] 26)
  replace hG := (hG.alloc (.cells #[.int .i64 s.v, .slice s.B s.bl s.bc, .slice s.P s.pl s.pc, .slice s.N s.nl s.nc] 26)).alloc (.cells #[.int .i64 0, .slice none 0 0, .slice none 0 0, .slice none 0 0] 26)
  refine (svalid_is s bs ps ns true ⟨fun _ => HV.out, fun _ => rfl⟩ HW.out _ hG hS).mono ?_; rintro e w1 ⟨rfl, hb⟩
  replace V := V.below hb
  replace hS := hS.below hb
  replace hA := hA.below hb
  replace hG := hG.below hb
  replace B := B.trans (hb.mono B.size)
  replace Q := Q.below hb
  clear hb
  have lV := V.at_.lt; have v0 := V.at_.c0; have v1 := V.at_.c1; have v2 := V.at_.c2; have v3 := V.at_.c3; have g0 := V.f 0; have g1 := V.f 1; have g2 := V.f 2; have g3 := V.f 3; have q0 := Q.c0; have q1 := Q.c1; have q2 := Q.c2; have q3 := Q.c3; have lQ := Q.lt
  go_wp2_with fail
  clear lV v0 v1 v2 v3 g0 g1 g2 g3 q0 q1 q2 q3 lQ
  refine (tisid_is nv true HI.out _).mono ?_; rintro e w2 ⟨rfl, hb⟩
  replace V := V.below hb
  replace hS := hS.below hb
  replace hA := hA.below hb
  replace hG := hG.below hb
  replace B := B.trans (hb.mono B.size)
  replace Q := Q.below hb
  clear hb
  have lV := V.at_.lt; have v0 := V.at_.c0; have v1 := V.at_.c1; have v2 := V.at_.c2; have v3 := V.at_.c3; have g0 := V.f 0; have g1 := V.f 1; have g2 := V.f 2; have g3 := V.f 3; have q0 := Q.c0; have q1 := Q.c1; have q2 := Q.c2; have q3 := Q.c3; have lQ := Q.lt
  go_wp2_with fail
  clear lV v0 v1 v2 v3 g0 g1 g2 g3 q0 q1 q2 q3 lQ
  refine (tnsort_is bs l true _ _ _ _ _ _ ⟨fun _ => HQ.out, fun _ => rfl⟩ HL.out.1 HNL.out HW.out.b HWN.out _ hS.sb hA hG).mono ?_; rintro e w3 ⟨hb, hr⟩
  replace V := V.below hb
  replace hS := hS.below hb
  replace hA := hA.below hb
  replace hG := hG.below hb
  replace B := B.trans (hb.mono B.size)
  replace Q := Q.below hb
  clear hb
  obtain ⟨-, D, c, rfl, hD, hDn, hDc⟩ := hr.resolve_left (by rintro ⟨h, _⟩; cases h)
  clear hr
  have lV := V.at_.lt; have v0 := V.at_.c0; have v1 := V.at_.c1; have v2 := V.at_.c2; have v3 := V.at_.c3; have g0 := V.f 0; have g1 := V.f 1; have g2 := V.f 2; have g3 := V.f 3; have q0 := Q.c0; have q1 := Q.c1; have q2 := Q.c2; have q3 := Q.c3; have lQ := Q.lt
  go_wp2_with fail
  clear lV v0 v1 v2 v3 g0 g1 g2 g3 q0 q1 q2 q3 lQ
  refine (srefusal_is bs ps (No.srt (No.lt bs) l) 0 _ _ _ _ _ _ HWR.out HV.out.parts HSV.out HL.out.2.1 HW.out.p HSL.out _ hG hS.sp hD).mono ?_; rintro e w4 ⟨rfl, hb⟩
  replace V := V.below hb
  replace hS := hS.below hb
  replace hA := hA.below hb
  replace hG := hG.below hb
  replace B := B.trans (hb.mono B.size)
  replace Q := Q.below hb
  replace hD := hD.below hb
  clear hb
  have lV := V.at_.lt; have v0 := V.at_.c0; have v1 := V.at_.c1; have v2 := V.at_.c2; have v3 := V.at_.c3; have g0 := V.f 0; have g1 := V.f 1; have g2 := V.f 2; have g3 := V.f 3; have q0 := Q.c0; have q1 := Q.c1; have q2 := Q.c2; have q3 := Q.c3; have lQ := Q.lt
  go_wp2_with fail
  clear lV v0 v1 v2 v3 g0 g1 g2 g3 q0 q1 q2 q3 lQ
  have HSS := Lib.hid hS
  have x0 := fun x : PvW (wiC w4 bs ps s.bl s.pl) => (Q.below x.h.1).c0
  have x1 := fun x : PvW (wiC w4 bs ps s.bl s.pl) => (Q.below x.h.1).c1
  have x2 := fun x : PvW (wiC w4 bs ps s.bl s.pl) => (Q.below x.h.1).c2
  have hne : Nonempty (PvW (wiC w4 bs ps s.bl s.pl)) := PvW.there ⟨Below.refl _ _, trivial⟩
  clear hS
  refine region_pv (V := fun _ _ => undef) (cs := [3, 6]) (Cv := wiC w4 bs ps s.bl s.pl) 9 (by kernel_rfl) (by kernel_rfl) (by kernel_rfl) ⟨(Below.refl _ _).drew, trivial⟩ ?_
  simp only [List.take_succ_cons, List.take_zero, List.drop_succ_cons, List.drop_zero]
  iterate 3 (refine pv_quiet (by decide) rfl rfl ?_; intro K' hK'; go_big_quiet_op; go_big_quiet_on)
  refine pv_enter (f := 57) (args := #[.slice s.B s.bl s.bc]) rfl rfl (fun w' hw' => ?_) (fun w' hw' => ?_) ?_
  · simp [go_sem]
  · refine (scloneB_is bs s.bl s.bc s.B (by omega) HL.out.1 (by have := HL.out.1; omega) w' (HSS.out.below hw'.1).sb).mono ?_
    rintro e w5 ⟨hb, D1, c1, rfl, h1, -⟩
    exact ⟨_, rfl, hw'.1.trans (hb.mono hw'.1.size), D1, c1, rfl, h1⟩
  rintro _ ⟨_, _, D1, c1, rfl, _⟩
  simp only [Act.put, List.setIfInBounds_toArray, List.set_cons_succ, List.set_cons_zero]
  iterate 2 (refine pv_quiet (by decide) rfl rfl ?_; intro K' hK'; go_big_quiet_op; go_big_quiet_on)
  refine pv_enter (f := 58) (args := #[.slice s.P s.pl s.pc]) rfl rfl (fun w' hw' => ?_) (fun w' hw' => ?_) ?_
  · simp [go_sem]
  · refine (scloneQ_is ps s.pl s.pc s.P (by omega) HL.out.2.1 (by have := HL.out.2.1; omega) w' (HSS.out.below hw'.1).sp).mono ?_
    rintro e w5 ⟨hb, E1, d1, rfl, h1, -⟩
    obtain ⟨hw0, D2, c2, e1, e2⟩ := hw'
    exact ⟨_, rfl, hw0.trans (hb.mono hw0.size), ⟨D2, c2, e1, e2.below hb⟩, E1, d1, rfl, h1⟩
  rintro _ ⟨_, _, _, E1, d1, rfl, _⟩
  simp only [Act.put, List.setIfInBounds_toArray, List.set_cons_succ, List.set_cons_zero]
  iterate 2 (refine pv_quiet (by decide) rfl rfl ?_; intro K' hK'; go_big_quiet_op; go_big_quiet_on)
  rintro w5 ⟨hb, ⟨_, _, e1, h1⟩, _, _, e2, h2⟩
  cases e1
  cases e2
  replace V := V.below hb
  replace hD := hD.below hb
  replace B := B.trans (hb.mono B.size)
  clear hb x0 x1 x2 hne Q hA hG
  have lV := V.at_.lt; have v0 := V.at_.c0; have v1 := V.at_.c1; have v2 := V.at_.c2; have v3 := V.at_.c3; have g0 := V.f 0; have g1 := V.f 1; have g2 := V.f 2; have g3 := V.f 3
  go_wp2_with fail
  have hB2 := putS_below B (Nat.le_succ _) ⟨nv, D1, s.bl, c1, E1, s.pl, d1, D, len, c⟩
  have P := V.put ⟨nv, D1, s.bl, c1, E1, s.pl, d1, D, len, c⟩
  have S1 := h1.putS V ⟨nv, D1, s.bl, c1, E1, s.pl, d1, D, len, c⟩
  have S2 := h2.putS V ⟨nv, D1, s.bl, c1, E1, s.pl, d1, D, len, c⟩
  have S3 := hD.putS V ⟨nv, D1, s.bl, c1, E1, s.pl, d1, D, len, c⟩
  show bodyPost _ _ _ _ _ (putS w5 (w.heap.size + 1) ⟨nv, D1, s.bl, c1, E1, s.pl, d1, D, len, c⟩)
  obtain ⟨wz, hz⟩ : ∃ wz, putS w5 (w.heap.size + 1) ⟨nv, D1, s.bl, c1, E1, s.pl, d1, D, len, c⟩ = wz := ⟨_, rfl⟩
  rw [hz] at P hB2 S1 S2 S3 ⊢
  obtain ⟨-, p0, p1, p2, p3⟩ := P
  dsimp only at p0 p1 p2 p3
  refine bodyPost_ret (v := .tuple #[.agg #[.int .i64 nv, .slice D1 s.bl c1, .slice E1 s.pl d1, .slice D len c], .int .i64 0]) (by simp [results, Tryz.results22, p0, p1, p2, p3, go_sem]) rfl ⟨hB2, ⟨nv, D1, s.bl, c1, E1, s.pl, d1, D, len, c⟩, rfl, fun _ => ⟨rfl, ⟨HL.out.1, HL.out.2.1, HSL.out, S1, S2, S3⟩, hDc, hDn⟩, fun h => absurd rfl h⟩
end Go.Proofs.YtbbjifhelbeniaaGreatDoor

/- The walk of the reference's With. -/
namespace Go.Proofs.YtbbjifhelbeniaaGreatDoor
open Go.RowKit

/-- The version and the notes are stored into the score's own block. -/
theorem ScV.vn {w : World} {b : Nat} {s : SH} (h : ScV w b s) (nv : Int) : ScV (w.setCell ⟨b, 0, none⟩ (.int .i64 nv)) b ⟨nv, s.B, s.bl, s.bc, s.P, s.pl, s.pc, s.N, s.nl, s.nc⟩ := by
  obtain ⟨l, c0, c1, c2, c3⟩ := h.at_
  obtain ⟨arr, h1, h2⟩ := h.blk
  have f0 := h.f 0
  refine ⟨⟨by simpa using l, ?_, ?_, ?_, ?_⟩, arr.setIfInBounds 0 (.int .i64 nv), ?_, by simpa using h2⟩
  · go_simp
  · go_simp
  · go_simp
  · go_simp
  · simp [World.setCell, h1, Array.getElem?_modify]
theorem ScV.vs {w : World} {b : Nat} {s : SH} (h : ScV w b s) (D : Option Addr) (n c : Nat) : ScV (w.setCell ⟨b, 3, none⟩ (.slice D n c)) b ⟨s.v, s.B, s.bl, s.bc, s.P, s.pl, s.pc, D, n, c⟩ := by
  obtain ⟨l, c0, c1, c2, c3⟩ := h.at_
  obtain ⟨arr, h1, h2⟩ := h.blk
  have f0 := h.f 3
  refine ⟨⟨by simpa using l, ?_, ?_, ?_, ?_⟩, arr.setIfInBounds 3 (.slice D n c), ?_, by simpa using h2⟩
  · go_simp
  · go_simp
  · go_simp
  · go_simp
  · simp [World.setCell, h1, Array.getElem?_modify]
theorem ScV.new (w : World) (s : SH) : ScV (w.alloc (.cells #[.int .i64 s.v, .slice s.B s.bl s.bc, .slice s.P s.pl s.pc, .slice s.N s.nl s.nc] 26)) w.heap.size s := ⟨ScB.new w s, _, heap_alloc_new w _, rfl⟩
theorem ScV.ne {w : World} {b k : Nat} {s : SH} (h : ScV w b s) (hk : b ≠ k) (j : Nat) (v : Value) : ScV (w.setCell ⟨k, j, none⟩ v) b s := by
  obtain ⟨⟨l, c0, c1, c2, c3⟩, arr, h1, h2⟩ := h
  exact ⟨⟨by simpa using l, (set_cell_ne _ _ _ _ _ _ hk).trans c0, (set_cell_ne _ _ _ _ _ _ hk).trans c1, (set_cell_ne _ _ _ _ _ _ hk).trans c2, (set_cell_ne _ _ _ _ _ _ hk).trans c3⟩, arr, (Below.heap_setCell w ⟨k, j, none⟩ v b hk).trans h1, h2⟩
theorem SlO.set1 {w : World} {b : Nat} {s : SH} {A : Option Addr} {l : List No.Nt} (h : SlO w A l) (v : ScV w b s) (j : Nat) (u : Value) : SlO (w.setCell ⟨b, j, none⟩ u) A l := fun h0 => by
  obtain ⟨b', o, e, hl, hc⟩ := h h0
  have hne := h.apart v h0 b' o e
  exact ⟨b', o, e, by simpa using hl, fun k hk => NtAt.of fun i x hx => (set_cell_ne _ _ _ _ _ _ hne).trans ((hc k hk).to i x hx)⟩
set_option maxRecDepth 100000 in
set_option maxHeartbeats 2400000 in
theorem rwith_is (s : SH) (bs : List Mt.B) (ps : List Sc.Pt) (ns : List No.Nt) (nv : Int) (l : List No.Nt) (e : Int) (len cap : Nat) (A : Option Addr) (h : WithI (Sc.Val s.v bs ps ns ∧ (1 ≤ nv ∧ nv ≤ 1000000) ∧ No.Val bs l) (Sc.wrong ps l) e) (hl : l.length = len) (w : World) (hS : SlS w s bs ps ns) (hA : SlO w A l) :
    Calls Tryz.prog 23 #[.agg #[.int .i64 s.v, .slice s.B s.bl s.bc, .slice s.P s.pl s.pc, .slice s.N s.nl s.nc], .int .i64 nv, .slice A len cap] w fun y w' => Below w.heap.size w w' ∧ ∃ s' : SH, y = .returned (.tuple #[.agg #[.int .i64 s'.v, .slice s'.B s'.bl s'.bc, .slice s'.P s'.pl s'.pc, .slice s'.N s'.nl s'.nc], .int .i64 e]) ∧ WithR nv bs ps (No.srt (No.lt bs) l) e s' w' := by
  have HNL := Lib.hid hl
  have HL := Lib.hid (And.intro hS.bl (And.intro hS.pl hS.nl))
  have HS0 := Lib.hid hS
  have HA0 := Lib.hid hA
  clear hS hA
  by_cases q1 : Sc.Val s.v bs ps ns
  case neg =>
    obtain rfl : e = 1 := h.elim (fun h => h.2) (fun h => absurd h.1.1 q1)
    have HV := Lib.hid q1
    have HE : Hid ((1 : Int) ≠ 0) := Lib.hid (by decide)
    clear q1 h
    go_enter Tryz.func23, Tryz.ntmps23
    go_wp2_with fail
    have V := ScV.zero (w.alloc (.cells #[.int .i64 s.v, .slice s.B s.bl s.bc, .slice s.P s.pl s.pc, .slice s.N s.nl s.nc] 26))
    rw [World.size_alloc] at V
    have Q := (ScV.new w s).alloc (.cells #[.int .i64 0, .slice none 0 0, .slice none 0 0, .slice none 0 0] 26)
    have B := ((Below.refl w.heap.size w).alloc (Nat.le_refl _) (.cells #[.int .i64 s.v, .slice s.B s.bl s.bc, .slice s.P s.pl s.pc, .slice s.N s.nl s.nc] 26)).alloc (by simp) (.cells #[.int .i64 0, .slice none 0 0, .slice none 0 0, .slice none 0 0] 26)
    refine (rval_is s bs ps ns false ⟨(fun h => by cases h), fun h => absurd h HV.out⟩ _ (HS0.out.below B)).mono ?_; rintro e w1 ⟨rfl, hb⟩
    replace V := V.below hb
    replace Q := Q.below hb
    replace B := B.trans (hb.mono B.size)
    clear hb
    have lV := V.at_.lt; have v0 := V.at_.c0; have v1 := V.at_.c1; have v2 := V.at_.c2; have v3 := V.at_.c3; have g0 := V.f 0; have g1 := V.f 1; have g2 := V.f 2; have g3 := V.f 3; have q0 := Q.at_.c0; have q1 := Q.at_.c1; have q2 := Q.at_.c2; have q3 := Q.at_.c3; have lQ := Q.at_.lt; have k0 := Q.f 0; have k3 := Q.f 3
    go_wp2_with fail
    have hB2 := putS_below B (Nat.le_succ _) .zero
    have P := V.put .zero
    show bodyPost _ _ _ _ _ (putS w1 (w.heap.size + 1) .zero)
    obtain ⟨wz, hz⟩ : ∃ wz, putS w1 (w.heap.size + 1) .zero = wz := ⟨_, rfl⟩
    rw [hz] at P hB2 ⊢
    obtain ⟨-, p0, p1, p2, p3⟩ := P
    dsimp only [SH.zero] at p0 p1 p2 p3
    refine bodyPost_ret (v := .tuple #[.agg #[.int .i64 0, .slice none 0 0, .slice none 0 0, .slice none 0 0], .int .i64 1]) (by simp [results, Tryz.results23, p0, p1, p2, p3, go_sem]) rfl ⟨hB2, .zero, rfl, fun h => absurd h HE.out, fun _ => rfl⟩
  have HV := Lib.hid q1
  by_cases q2 : 1 ≤ nv ∧ nv ≤ 1000000
  case neg =>
    obtain rfl : e = 1 := h.elim (fun h => h.2) (fun h => absurd h.1.2.1 q2)
    have HI := Lib.hid (decide_eq_false q2)
    have HE : Hid ((1 : Int) ≠ 0) := Lib.hid (by decide)
    clear q1 q2 h
    go_enter Tryz.func23, Tryz.ntmps23
    go_wp2_with fail
    have V := ScV.zero (w.alloc (.cells #[.int .i64 s.v, .slice s.B s.bl s.bc, .slice s.P s.pl s.pc, .slice s.N s.nl s.nc] 26))
    rw [World.size_alloc] at V
    have Q := (ScV.new w s).alloc (.cells #[.int .i64 0, .slice none 0 0, .slice none 0 0, .slice none 0 0] 26)
    have B := ((Below.refl w.heap.size w).alloc (Nat.le_refl _) (.cells #[.int .i64 s.v, .slice s.B s.bl s.bc, .slice s.P s.pl s.pc, .slice s.N s.nl s.nc] 26)).alloc (by simp) (.cells #[.int .i64 0, .slice none 0 0, .slice none 0 0, .slice none 0 0] 26)
    refine (rval_is s bs ps ns true ⟨fun _ => HV.out, fun _ => rfl⟩ _ (HS0.out.below B)).mono ?_; rintro e w1 ⟨rfl, hb⟩
    replace V := V.below hb
    replace Q := Q.below hb
    replace B := B.trans (hb.mono B.size)
    clear hb
    have lV := V.at_.lt; have v0 := V.at_.c0; have v1 := V.at_.c1; have v2 := V.at_.c2; have v3 := V.at_.c3; have g0 := V.f 0; have g1 := V.f 1; have g2 := V.f 2; have g3 := V.f 3; have q0 := Q.at_.c0; have q1 := Q.at_.c1; have q2 := Q.at_.c2; have q3 := Q.at_.c3; have lQ := Q.at_.lt; have k0 := Q.f 0; have k3 := Q.f 3
    go_wp2_with fail
    clear lV v0 v1 v2 v3 g0 g1 g2 g3 q0 q1 q2 q3 lQ k0 k3
    refine (sind_is nv 1 1000000 false HI.out _).mono ?_; rintro e w2 ⟨rfl, hb⟩
    replace V := V.below hb
    replace Q := Q.below hb
    replace B := B.trans (hb.mono B.size)
    clear hb
    have lV := V.at_.lt; have v0 := V.at_.c0; have v1 := V.at_.c1; have v2 := V.at_.c2; have v3 := V.at_.c3; have g0 := V.f 0; have g1 := V.f 1; have g2 := V.f 2; have g3 := V.f 3; have q0 := Q.at_.c0; have q1 := Q.at_.c1; have q2 := Q.at_.c2; have q3 := Q.at_.c3; have lQ := Q.at_.lt; have k0 := Q.f 0; have k3 := Q.f 3
    go_wp2_with fail
    have hB2 := putS_below B (Nat.le_succ _) .zero
    have P := V.put .zero
    show bodyPost _ _ _ _ _ (putS w2 (w.heap.size + 1) .zero)
    obtain ⟨wz, hz⟩ : ∃ wz, putS w2 (w.heap.size + 1) .zero = wz := ⟨_, rfl⟩
    rw [hz] at P hB2 ⊢
    obtain ⟨-, p0, p1, p2, p3⟩ := P
    dsimp only [SH.zero] at p0 p1 p2 p3
    refine bodyPost_ret (v := .tuple #[.agg #[.int .i64 0, .slice none 0 0, .slice none 0 0, .slice none 0 0], .int .i64 1]) (by simp [results, Tryz.results23, p0, p1, p2, p3, go_sem]) rfl ⟨hB2, .zero, rfl, fun h => absurd h HE.out, fun _ => rfl⟩
  have HI := Lib.hid (decide_eq_true q2)
  by_cases q3 : No.Val bs l
  case neg =>
    obtain rfl : e = 1 := h.elim (fun h => h.2) (fun h => absurd h.1.2.2 q3)
    have HQ := Lib.hid q3
    have HE : Hid ((1 : Int) ≠ 0) := Lib.hid (by decide)
    clear q1 q2 q3 h
    go_enter Tryz.func23, Tryz.ntmps23
    go_wp2_with fail
    have V := ScV.zero (w.alloc (.cells #[.int .i64 s.v, .slice s.B s.bl s.bc, .slice s.P s.pl s.pc, .slice s.N s.nl s.nc] 26))
    rw [World.size_alloc] at V
    have Q := (ScV.new w s).alloc (.cells #[.int .i64 0, .slice none 0 0, .slice none 0 0, .slice none 0 0] 26)
    have B := ((Below.refl w.heap.size w).alloc (Nat.le_refl _) (.cells #[.int .i64 s.v, .slice s.B s.bl s.bc, .slice s.P s.pl s.pc, .slice s.N s.nl s.nc] 26)).alloc (by simp) (.cells #[.int .i64 0, .slice none 0 0, .slice none 0 0, .slice none 0 0] 26)
    refine (rval_is s bs ps ns true ⟨fun _ => HV.out, fun _ => rfl⟩ _ (HS0.out.below B)).mono ?_; rintro e w1 ⟨rfl, hb⟩
    replace V := V.below hb
    replace Q := Q.below hb
    replace B := B.trans (hb.mono B.size)
    clear hb
    have lV := V.at_.lt; have v0 := V.at_.c0; have v1 := V.at_.c1; have v2 := V.at_.c2; have v3 := V.at_.c3; have g0 := V.f 0; have g1 := V.f 1; have g2 := V.f 2; have g3 := V.f 3; have q0 := Q.at_.c0; have q1 := Q.at_.c1; have q2 := Q.at_.c2; have q3 := Q.at_.c3; have lQ := Q.at_.lt; have k0 := Q.f 0; have k3 := Q.f 3
    go_wp2_with fail
    clear lV v0 v1 v2 v3 g0 g1 g2 g3 q0 q1 q2 q3 lQ k0 k3
    refine (sind_is nv 1 1000000 true HI.out _).mono ?_; rintro e w2 ⟨rfl, hb⟩
    replace V := V.below hb
    replace Q := Q.below hb
    replace B := B.trans (hb.mono B.size)
    clear hb
    have lV := V.at_.lt; have v0 := V.at_.c0; have v1 := V.at_.c1; have v2 := V.at_.c2; have v3 := V.at_.c3; have g0 := V.f 0; have g1 := V.f 1; have g2 := V.f 2; have g3 := V.f 3; have q0 := Q.at_.c0; have q1 := Q.at_.c1; have q2 := Q.at_.c2; have q3 := Q.at_.c3; have lQ := Q.at_.lt; have k0 := Q.f 0; have k3 := Q.f 3
    go_wp2_with fail
    clear lV v0 v1 v2 v3 g0 g1 g2 g3 q0 q1 q2 q3 lQ k0 k3
    refine (rnvalid_is bs l false _ _ _ _ _ _ ⟨(fun h => by cases h), fun h => absurd h HQ.out⟩ HL.out.1 HNL.out _ (HS0.out.below B).sb (HA0.out.below B)).mono ?_; rintro e w3 ⟨rfl, hb⟩
    replace V := V.below hb
    replace Q := Q.below hb
    replace B := B.trans (hb.mono B.size)
    clear hb
    have lV := V.at_.lt; have v0 := V.at_.c0; have v1 := V.at_.c1; have v2 := V.at_.c2; have v3 := V.at_.c3; have g0 := V.f 0; have g1 := V.f 1; have g2 := V.f 2; have g3 := V.f 3; have q0 := Q.at_.c0; have q1 := Q.at_.c1; have q2 := Q.at_.c2; have q3 := Q.at_.c3; have lQ := Q.at_.lt; have k0 := Q.f 0; have k3 := Q.f 3
    go_wp2_with fail
    have hB2 := putS_below B (Nat.le_succ _) .zero
    have P := V.put .zero
    show bodyPost _ _ _ _ _ (putS w3 (w.heap.size + 1) .zero)
    obtain ⟨wz, hz⟩ : ∃ wz, putS w3 (w.heap.size + 1) .zero = wz := ⟨_, rfl⟩
    rw [hz] at P hB2 ⊢
    obtain ⟨-, p0, p1, p2, p3⟩ := P
    dsimp only [SH.zero] at p0 p1 p2 p3
    refine bodyPost_ret (v := .tuple #[.agg #[.int .i64 0, .slice none 0 0, .slice none 0 0, .slice none 0 0], .int .i64 1]) (by simp [results, Tryz.results23, p0, p1, p2, p3, go_sem]) rfl ⟨hB2, .zero, rfl, fun h => absurd h HE.out, fun _ => rfl⟩
  have HQ := Lib.hid q3
  have hwr : Sc.wrong ps l = e := h.elim (fun h => absurd ⟨q1, q2, q3⟩ h.1) (fun h => h.2.symm)
  have HWR := Lib.hid hwr
  by_cases q4 : e = 0
  case neg =>
    have HE := Lib.hid q4
    have hee : (e != 0) = true := by simpa using q4
    clear q1 q2 q3 q4 h hwr
    go_enter Tryz.func23, Tryz.ntmps23
    go_wp2_with fail
    have V := ScV.zero (w.alloc (.cells #[.int .i64 s.v, .slice s.B s.bl s.bc, .slice s.P s.pl s.pc, .slice s.N s.nl s.nc] 26))
    rw [World.size_alloc] at V
    have Q := (ScV.new w s).alloc (.cells #[.int .i64 0, .slice none 0 0, .slice none 0 0, .slice none 0 0] 26)
    have B := ((Below.refl w.heap.size w).alloc (Nat.le_refl _) (.cells #[.int .i64 s.v, .slice s.B s.bl s.bc, .slice s.P s.pl s.pc, .slice s.N s.nl s.nc] 26)).alloc (by simp) (.cells #[.int .i64 0, .slice none 0 0, .slice none 0 0, .slice none 0 0] 26)
    refine (rval_is s bs ps ns true ⟨fun _ => HV.out, fun _ => rfl⟩ _ (HS0.out.below B)).mono ?_; rintro e w1 ⟨rfl, hb⟩
    replace V := V.below hb
    replace Q := Q.below hb
    replace B := B.trans (hb.mono B.size)
    clear hb
    have lV := V.at_.lt; have v0 := V.at_.c0; have v1 := V.at_.c1; have v2 := V.at_.c2; have v3 := V.at_.c3; have g0 := V.f 0; have g1 := V.f 1; have g2 := V.f 2; have g3 := V.f 3; have q0 := Q.at_.c0; have q1 := Q.at_.c1; have q2 := Q.at_.c2; have q3 := Q.at_.c3; have lQ := Q.at_.lt; have k0 := Q.f 0; have k3 := Q.f 3
    go_wp2_with fail
    clear lV v0 v1 v2 v3 g0 g1 g2 g3 q0 q1 q2 q3 lQ k0 k3
    refine (sind_is nv 1 1000000 true HI.out _).mono ?_; rintro e w2 ⟨rfl, hb⟩
    replace V := V.below hb
    replace Q := Q.below hb
    replace B := B.trans (hb.mono B.size)
    clear hb
    have lV := V.at_.lt; have v0 := V.at_.c0; have v1 := V.at_.c1; have v2 := V.at_.c2; have v3 := V.at_.c3; have g0 := V.f 0; have g1 := V.f 1; have g2 := V.f 2; have g3 := V.f 3; have q0 := Q.at_.c0; have q1 := Q.at_.c1; have q2 := Q.at_.c2; have q3 := Q.at_.c3; have lQ := Q.at_.lt; have k0 := Q.f 0; have k3 := Q.f 3
    go_wp2_with fail
    clear lV v0 v1 v2 v3 g0 g1 g2 g3 q0 q1 q2 q3 lQ k0 k3
    refine (rnvalid_is bs l true _ _ _ _ _ _ ⟨fun _ => HQ.out, fun _ => rfl⟩ HL.out.1 HNL.out _ (HS0.out.below B).sb (HA0.out.below B)).mono ?_; rintro e w3 ⟨rfl, hb⟩
    replace V := V.below hb
    replace Q := Q.below hb
    replace B := B.trans (hb.mono B.size)
    clear hb
    have lV := V.at_.lt; have v0 := V.at_.c0; have v1 := V.at_.c1; have v2 := V.at_.c2; have v3 := V.at_.c3; have g0 := V.f 0; have g1 := V.f 1; have g2 := V.f 2; have g3 := V.f 3; have q0 := Q.at_.c0; have q1 := Q.at_.c1; have q2 := Q.at_.c2; have q3 := Q.at_.c3; have lQ := Q.at_.lt; have k0 := Q.f 0; have k3 := Q.f 3
    go_wp2_with fail
    clear lV v0 v1 v2 v3 g0 g1 g2 g3 q0 q1 q2 q3 lQ k0 k3
    refine (rwrong_is bs ps l e _ _ _ _ _ _ HWR.out HV.out.parts HQ.out HL.out.2.1 HNL.out _ (HS0.out.below B).sp (HA0.out.below B)).mono ?_; rintro e w4 ⟨rfl, hb⟩
    replace V := V.below hb
    replace Q := Q.below hb
    replace B := B.trans (hb.mono B.size)
    clear hb
    have lV := V.at_.lt; have v0 := V.at_.c0; have v1 := V.at_.c1; have v2 := V.at_.c2; have v3 := V.at_.c3; have g0 := V.f 0; have g1 := V.f 1; have g2 := V.f 2; have g3 := V.f 3; have q0 := Q.at_.c0; have q1 := Q.at_.c1; have q2 := Q.at_.c2; have q3 := Q.at_.c3; have lQ := Q.at_.lt; have k0 := Q.f 0; have k3 := Q.f 3
    go_wp2_with fail
    have hB2 := putS_below B (Nat.le_succ _) .zero
    have P := V.put .zero
    show bodyPost _ _ _ _ _ (putS w4 (w.heap.size + 1) .zero)
    obtain ⟨wz, hz⟩ : ∃ wz, putS w4 (w.heap.size + 1) .zero = wz := ⟨_, rfl⟩
    rw [hz] at P hB2 ⊢
    obtain ⟨-, p0, p1, p2, p3⟩ := P
    dsimp only [SH.zero] at p0 p1 p2 p3
    refine bodyPost_ret (v := .tuple #[.agg #[.int .i64 0, .slice none 0 0, .slice none 0 0, .slice none 0 0], .int .i64 e]) (by simp [results, Tryz.results23, p0, p1, p2, p3, go_sem]) rfl ⟨hB2, .zero, rfl, fun h => absurd h HE.out, fun _ => rfl⟩
  subst q4
  have hbm := q1.notes.1.2.1
  have hlm := q3.2.1
  have HALL : Hid (∀ m ∈ l, No.isN m.st m.al m.oc) := Lib.hid (fun m hm => (q3.2.2.1 m hm).2.1)
  have HSL : Hid ((No.srt (No.lt bs) l).length = len) := Lib.hid (by rw [(No.srt_perm l).length_eq]; exact hl)
  clear q1 q2 q3 h hwr
  go_enter Tryz.func23, Tryz.ntmps23
  go_wp2_with fail
  have V := ScV.zero (w.alloc (.cells #[.int .i64 s.v, .slice s.B s.bl s.bc, .slice s.P s.pl s.pc, .slice s.N s.nl s.nc] 26))
  rw [World.size_alloc] at V
  have Q := (ScV.new w s).alloc (.cells #[.int .i64 0, .slice none 0 0, .slice none 0 0, .slice none 0 0] 26)
  have B := ((Below.refl w.heap.size w).alloc (Nat.le_refl _) (.cells #[.int .i64 s.v, .slice s.B s.bl s.bc, .slice s.P s.pl s.pc, .slice s.N s.nl s.nc] 26)).alloc (by simp) (.cells #[.int .i64 0, .slice none 0 0, .slice none 0 0, .slice none 0 0] 26)
  refine (rval_is s bs ps ns true ⟨fun _ => HV.out, fun _ => rfl⟩ _ (HS0.out.below B)).mono ?_; rintro e w1 ⟨rfl, hb⟩
  replace V := V.below hb
  replace Q := Q.below hb
  replace B := B.trans (hb.mono B.size)
  clear hb
  have lV := V.at_.lt; have v0 := V.at_.c0; have v1 := V.at_.c1; have v2 := V.at_.c2; have v3 := V.at_.c3; have g0 := V.f 0; have g1 := V.f 1; have g2 := V.f 2; have g3 := V.f 3; have q0 := Q.at_.c0; have q1 := Q.at_.c1; have q2 := Q.at_.c2; have q3 := Q.at_.c3; have lQ := Q.at_.lt; have k0 := Q.f 0; have k3 := Q.f 3
  go_wp2_with fail
  clear lV v0 v1 v2 v3 g0 g1 g2 g3 q0 q1 q2 q3 lQ k0 k3
  refine (sind_is nv 1 1000000 true HI.out _).mono ?_; rintro e w2 ⟨rfl, hb⟩
  replace V := V.below hb
  replace Q := Q.below hb
  replace B := B.trans (hb.mono B.size)
  clear hb
  have lV := V.at_.lt; have v0 := V.at_.c0; have v1 := V.at_.c1; have v2 := V.at_.c2; have v3 := V.at_.c3; have g0 := V.f 0; have g1 := V.f 1; have g2 := V.f 2; have g3 := V.f 3; have q0 := Q.at_.c0; have q1 := Q.at_.c1; have q2 := Q.at_.c2; have q3 := Q.at_.c3; have lQ := Q.at_.lt; have k0 := Q.f 0; have k3 := Q.f 3
  go_wp2_with fail
  clear lV v0 v1 v2 v3 g0 g1 g2 g3 q0 q1 q2 q3 lQ k0 k3
  refine (rnvalid_is bs l true _ _ _ _ _ _ ⟨fun _ => HQ.out, fun _ => rfl⟩ HL.out.1 HNL.out _ (HS0.out.below B).sb (HA0.out.below B)).mono ?_; rintro e w3 ⟨rfl, hb⟩
  replace V := V.below hb
  replace Q := Q.below hb
  replace B := B.trans (hb.mono B.size)
  clear hb
  have lV := V.at_.lt; have v0 := V.at_.c0; have v1 := V.at_.c1; have v2 := V.at_.c2; have v3 := V.at_.c3; have g0 := V.f 0; have g1 := V.f 1; have g2 := V.f 2; have g3 := V.f 3; have q0 := Q.at_.c0; have q1 := Q.at_.c1; have q2 := Q.at_.c2; have q3 := Q.at_.c3; have lQ := Q.at_.lt; have k0 := Q.f 0; have k3 := Q.f 3
  go_wp2_with fail
  clear lV v0 v1 v2 v3 g0 g1 g2 g3 q0 q1 q2 q3 lQ k0 k3
  refine (rwrong_is bs ps l 0 _ _ _ _ _ _ HWR.out HV.out.parts HQ.out HL.out.2.1 HNL.out _ (HS0.out.below B).sp (HA0.out.below B)).mono ?_; rintro e w4 ⟨rfl, hb⟩
  replace V := V.below hb
  replace Q := Q.below hb
  replace B := B.trans (hb.mono B.size)
  clear hb
  have lV := V.at_.lt; have v0 := V.at_.c0; have v1 := V.at_.c1; have v2 := V.at_.c2; have v3 := V.at_.c3; have g0 := V.f 0; have g1 := V.f 1; have g2 := V.f 2; have g3 := V.f 3; have q0 := Q.at_.c0; have q1 := Q.at_.c1; have q2 := Q.at_.c2; have q3 := Q.at_.c3; have lQ := Q.at_.lt; have k0 := Q.f 0; have k3 := Q.f 3
  go_wp2_with fail
  clear lV v0 v1 v2 v3 g0 g1 g2 g3 q0 q1 q2 q3 lQ k0 k3
  replace V := V.ne (Nat.succ_ne_self _) 0 (.int .i64 nv)
  replace Q := Q.vn nv
  replace B := B.setCell (p := ⟨w.heap.size, 0, none⟩) (Nat.le_refl _) (.int .i64 nv)
  refine (rsorted_is bs l _ _ _ _ _ _ HL.out.1 HNL.out (by have := HL.out.1; omega) (by omega) HALL.out _ (HS0.out.below B).sb (HA0.out.below B)).mono ?_; rintro e w5 ⟨D, c, rfl, hD, hDn, hDc, hb⟩
  replace V := V.below hb
  replace Q := Q.below hb
  replace B := B.trans (hb.mono B.size)
  clear hb
  have lV := V.at_.lt; have v0 := V.at_.c0; have v1 := V.at_.c1; have v2 := V.at_.c2; have v3 := V.at_.c3; have g0 := V.f 0; have g1 := V.f 1; have g2 := V.f 2; have g3 := V.f 3; have q0 := Q.at_.c0; have q1 := Q.at_.c1; have q2 := Q.at_.c2; have q3 := Q.at_.c3; have lQ := Q.at_.lt; have k0 := Q.f 0; have k3 := Q.f 3
  go_wp2_with fail
  have hD2 := hD.set1 Q 3 (.slice D len c)
  have V2 := V.ne (Nat.succ_ne_self _) 3 (.slice D len c)
  have hB1 := B.setCell (p := ⟨w.heap.size, 3, none⟩) (Nat.le_refl _) (.slice D len c)
  have hB2 := putS_below hB1 (Nat.le_succ _) ⟨nv, s.B, s.bl, s.bc, s.P, s.pl, s.pc, D, len, c⟩
  have P := V2.put ⟨nv, s.B, s.bl, s.bc, s.P, s.pl, s.pc, D, len, c⟩
  have S3 := hD2.putS V2 ⟨nv, s.B, s.bl, s.bc, s.P, s.pl, s.pc, D, len, c⟩
  show bodyPost _ _ _ _ _ (putS (w5.setCell ⟨w.heap.size, 3, none⟩ (.slice D len c)) (w.heap.size + 1) ⟨nv, s.B, s.bl, s.bc, s.P, s.pl, s.pc, D, len, c⟩)
  obtain ⟨wz, hz⟩ : ∃ wz, putS (w5.setCell ⟨w.heap.size, 3, none⟩ (.slice D len c)) (w.heap.size + 1) ⟨nv, s.B, s.bl, s.bc, s.P, s.pl, s.pc, D, len, c⟩ = wz := ⟨_, rfl⟩
  rw [hz] at P hB2 S3 ⊢
  have hS2 := HS0.out.below hB2
  obtain ⟨-, p0, p1, p2, p3⟩ := P
  dsimp only at p0 p1 p2 p3
  refine bodyPost_ret (v := .tuple #[.agg #[.int .i64 nv, .slice s.B s.bl s.bc, .slice s.P s.pl s.pc, .slice D len c], .int .i64 0]) (by simp [results, Tryz.results23, p0, p1, p2, p3, go_sem]) rfl ⟨hB2, ⟨nv, s.B, s.bl, s.bc, s.P, s.pl, s.pc, D, len, c⟩, rfl, fun _ => ⟨rfl, ⟨hS2.bl, hS2.pl, HSL.out, hS2.sb, hS2.sp, S3⟩, hDc, hDn⟩, fun h => absurd rfl h⟩
end Go.Proofs.YtbbjifhelbeniaaGreatDoor
