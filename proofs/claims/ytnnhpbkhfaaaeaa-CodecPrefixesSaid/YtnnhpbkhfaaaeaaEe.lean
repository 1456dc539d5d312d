/- The walk of the landed codec's Get: its deferred closure in both modes. -/
import Derived.Test.YtnnhpbkhfaaaeaaEd
import Derived.Defers
import Derived.Recover
import Derived.Laws.Pointers
namespace Go.Proofs.Ytnnhpbkhfaaaeaa
open Go.RowKit

set_option maxHeartbeats 800000 in
theorem catch_panicking (p q : Nat) (hpq : p ≠ q) (x y : Value) (older : List PanicEntry) (w : World) (hc : w.cell? ⟨p, 0, none⟩ = some x) (hz : w.frozen? ⟨p, 0, none⟩ = false) (hc2 : w.cell? ⟨q, 0, none⟩ = some y) (hz2 : w.frozen? ⟨q, 0, none⟩ = false) :
    CallsD Try.prog 28 #[.pointer (some ⟨p, 0, none⟩), .pointer (some ⟨q, 0, none⟩)] (.panicking ({ v := .iface 25 (.int .i64 7), recovered := false } :: older)) w fun e u' w' =>
      e = .returned (.tuple #[]) ∧ u' = .panicking ({ v := .iface 25 (.int .i64 7), recovered := true } :: older) ∧ w' = (w.setCell ⟨p, 0, none⟩ (.slice none 0 0)).setCell ⟨q, 0, none⟩ (.int .i64 7) := by
  have hc3 : (w.setCell ⟨p, 0, none⟩ (.slice none 0 0)).cell? ⟨q, 0, none⟩ = some y := (World.cell?_setCell_other (w := w) (a := ⟨p, 0, none⟩) (b := ⟨q, 0, none⟩) (v := .slice none 0 0) (fun e => hpq (congrArg Addr.block e))).trans hc2
  have hz3 : (w.setCell ⟨p, 0, none⟩ (.slice none 0 0)).frozen? ⟨q, 0, none⟩ = false := (World.frozen?_setCell ..).trans hz2
  refine callsD_of_wpS Try.func28 rfl fun c₀ cs hu => ?_
  apply wpS_seq
  apply wpS_region
  simp [wpOpsS, go_sem, recoverD, hu, Try.ntmps28, Exit.thenS]
  apply wpS_seq
  apply wpS_region
  simp [wpOpsS, go_sem, recoverD, Exit.thenS]
  refine wpS_cond (t := true) (by simp [Act.eval, Array.replicate]) ?_
  simp only [if_true]
  apply wpS_region
  simp [wpOpsS, go_sem, hc, hz, hc3, hz3, bodyPostS, results, Try.results28]

theorem catch_idle (p q : Nat) (w : World) :
    CallsD Try.prog 28 #[.pointer (some ⟨p, 0, none⟩), .pointer (some ⟨q, 0, none⟩)] .returning w fun e u' w' => e = .returned (.tuple #[]) ∧ u' = .returning ∧ w' = w := by
  refine callsD_of_wpS Try.func28 rfl fun c₀ cs hu => ?_
  apply wpS_seq
  apply wpS_region
  simp [wpOpsS, go_sem, recoverD, hu, Try.ntmps28, Exit.thenS]
  apply wpS_seq
  apply wpS_region
  simp [wpOpsS, go_sem, recoverD, Exit.thenS]
  refine wpS_cond (t := false) (by simp [Act.eval, Array.replicate]) ?_
  simp only [Bool.false_eq_true, if_false]
  refine wpS_of_wp (wp_skip ?_)
  cases c₀
  simp_all [bodyPostS, results, Try.results28]

/-- A variable of one cell. -/
structure Cel (w : World) (p : Nat) (v : Value) : Prop where
  lt : p < w.heap.size
  c : w.cell? ⟨p, 0, none⟩ = some v
  f : w.frozen? ⟨p, 0, none⟩ = false
theorem Cel.gro {w w' : World} {p R : Nat} {v : Value} (h : Cel w p v) (hg : Gro R w w') (hp : p ≠ R) : Cel w' p v := by
  have hb := hg.block p h.lt (fun e => hp (Option.some.inj e))
  exact ⟨Nat.lt_of_lt_of_le h.lt hg.size, (World.cell?_of_block (a := ⟨p, 0, none⟩) hb).trans h.c, (World.frozen?_of_block (a := ⟨p, 0, none⟩) hb).trans h.f⟩
theorem Cel.below {w w' : World} {p : Nat} {v : Value} (h : Cel w p v) (hb : Below w.heap.size w w') : Cel w' p v :=
  ⟨Nat.lt_of_lt_of_le h.lt hb.size, (hb.cell (p := ⟨p, 0, none⟩) h.lt).trans h.c, (hb.frozen (p := ⟨p, 0, none⟩) h.lt).trans h.f⟩
theorem Cel.put {w : World} {p : Nat} {v : Value} (h : Cel w p v) (u : Value) : Cel (w.setCell ⟨p, 0, none⟩ u) p u :=
  ⟨by simpa using h.lt, World.cell?_setCell_same w _ _ h.c, (World.frozen?_setCell ..).trans h.f⟩
theorem Cel.other {w : World} {p q : Nat} {v : Value} (h : Cel w p v) (hpq : q ≠ p) (u : Value) : Cel (w.setCell ⟨q, 0, none⟩ u) p v :=
  ⟨by simpa using h.lt, (World.cell?_setCell_other (w := w) (a := ⟨q, 0, none⟩) (b := ⟨p, 0, none⟩) (v := u) (fun e => hpq (congrArg Addr.block e))).trans h.c, (World.frozen?_setCell ..).trans h.f⟩
theorem Below.put {B : Nat} {a w : World} (h : Below B a w) {p : Nat} (hp : B ≤ p) (u : Value) : Below B a (w.setCell ⟨p, 0, none⟩ u) := h.setCell (p := ⟨p, 0, none⟩) hp u
theorem SlK.put {w : World} {S p : Nat} {l : List Int} (h : SlK .i64 w (some ⟨S, 0, none⟩) l) (hp : p ≠ S) (u : Value) : SlK .i64 (w.setCell ⟨p, 0, none⟩ u) (some ⟨S, 0, none⟩) l := fun h0 => by
  obtain ⟨bb, off, e, hb, hc⟩ := h h0
  cases e
  exact ⟨S, 0, rfl, by simpa using hb, fun k hk => (World.cell?_setCell_other (w := w) (a := ⟨p, 0, none⟩) (b := ⟨S, 0 + k, none⟩) (v := u) (fun e => hp (congrArg Addr.block e))).trans (hc k hk)⟩
theorem TyK.put {w : World} {S p : Nat} (h : TyK 3 w (some ⟨S, 0, none⟩)) (hp : p ≠ S) (u : Value) : TyK 3 (w.setCell ⟨p, 0, none⟩ u) (some ⟨S, 0, none⟩) := fun a ha => by
  obtain ⟨cur, hc⟩ := h a ha
  cases ha
  exact ⟨cur, (Below.heap_setCell _ _ _ _ (fun e => hp e.symm)).trans hc⟩

set_option maxHeartbeats 1600000 in
theorem get_is (b : List Nat) (O : Option (List Int)) (len cap : Nat) (A : Option Addr) (h : Cd.get b = O) (hl : b.length = len) (hb : Cd.by8 b) (hmax : len ≤ 1000000000) (w : World) (hL : SlN .u8 w A b) :
    Calls Try.prog 15 #[.slice A len cap] w fun e w' => GetP O e w' ∧ Below w.heap.size w w' := by
  have hmf : ∀ (fn : Fn) (first cap : Array Value) (w : World), (Instr.makeFunc fn first cap).run Try.prog w = .ok (.func fn first cap) w := fun _ _ _ _ => rfl
  obtain ⟨W3, hW3⟩ : ∃ W3, ((w.alloc (.cells #[.slice none 0 0] 22)).alloc (.cells #[.int .i64 0] 25)).alloc (.cells #[.slice A len cap, .int .i64 0] 53) = W3 := ⟨_, rfl⟩
  have B3 : Below w.heap.size w W3 := by rw [← hW3]; exact (((Below.refl _ _).alloc (Nat.le_refl _) _).alloc (by simp) _).alloc (by simp; omega) _
  have hs3 : W3.heap.size = w.heap.size + 1 + 1 + 1 := by rw [← hW3]; simp
  have C2 : Cel W3 w.heap.size (.slice none 0 0) := by subst hW3; exact ⟨by simp; omega, by go_simp, by go_simp⟩
  have C3 : Cel W3 (w.heap.size + 1) (.int .i64 0) := by subst hW3; exact ⟨by simp, by go_simp, by go_simp⟩
  have hab : ∀ a, A = some a → 0 < len → a.block < w.heap.size := fun a ha h0 => by
    obtain ⟨bb, off, e, hlt, _⟩ := hL (by omega)
    rw [ha] at e
    cases e
    exact hlt
  have R3 : Rdr W3 (w.heap.size + 1 + 1) A len cap b 0 := by
    refine ⟨by omega, ?_, ?_, ?_, hL.below B3, fun a ha h0 => by have := hab a ha h0; omega, hl, Nat.zero_le _⟩
    all_goals (subst hW3; go_simp)
  rw [Cd.get_lst] at h
  have HAB := Lib.hid hab
  have HW3 := Lib.hid hW3
  clear hab hL hW3
  cases hr : Cd.lst b with
  | none =>
    rw [hr] at h
    subst h
    have HC := Lib.hid (rlist_is _ A len cap b none hr hb hmax W3 R3)
    clear hr hb hl R3
    go_enter_defers Try.func15, Try.ntmps15
    go_wp2_with (first | (go_at_call 29; rw [HW3.out]; refine HC.out.mono ?_; rintro e w2 ⟨rfl, hg2⟩) | fail)
    have D2 := C2.gro hg2 (by omega)
    have D3 := C3.gro hg2 (by omega)
    have B2 := Below.gro B3 (by omega) (by omega) hg2
    refine leaves_cons (f := 28) (args := #[.pointer (some ⟨w.heap.size, 0, none⟩), .pointer (some ⟨w.heap.size + 1, 0, none⟩)]) (by simp) (by simp [go_sem]) ?_
    refine (catch_panicking _ _ (by omega) _ _ [] _ D2.c D2.f D3.c D3.f).mono ?_
    rintro e u' w'' ⟨rfl, rfl, rfl⟩
    have E2 := ((D2.put (.slice none 0 0)).other (q := w.heap.size + 1) (by omega) (.int .i64 7)).c
    have E3 := ((D3.other (q := w.heap.size) (by omega) (.slice none 0 0)).put (.int .i64 7)).c
    have B5 := Below.put (Below.put B2 (Nat.le_refl _) (.slice none 0 0)) (p := w.heap.size + 1) (by omega) (.int .i64 7)
    simp [Leaves, settle, results, Try.results15, go_sem, E2, E3]
    exact ⟨rfl, B5⟩
  | some p =>
    obtain ⟨l, r⟩ := p
    rw [hr] at h
    have HC := Lib.hid (rlist_is _ A len cap b (some (l, r)) hr hb hmax W3 R3)
    obtain ⟨n, hn⟩ : ∃ n, l.length = n := ⟨_, rfl⟩
    have Hn := Lib.hid hn
    by_cases hend : r = []
    · subst hend
      simp only [if_true] at h
      subst h
      have HPOS : Hid (len - ([] : List Nat).length = len) := Lib.hid (Nat.sub_zero _)
      clear hr hb hl R3 hn
      go_enter_defers Try.func15, Try.ntmps15
      go_wp2_with (first | (go_at_call 29; rw [HW3.out]; refine HC.out.mono ?_; rintro e w2 ⟨S, c, rfl, hS, S2, T2, R2, hg2⟩; rw [Hn.out]; have D2 := C2.gro hg2 (by omega); have D3 := C3.gro hg2 (by omega); have c2 := D2.c; have f2 := D2.f; have B2 := Below.gro B3 (by omega) (by omega) hg2; have E2 := D2.put (.slice (some ⟨S, 0, none⟩) n c); have E3 := D3.other (q := w.heap.size) (by omega) (.slice (some ⟨S, 0, none⟩) n c); have S3 := Lib.hid (S2.put (p := w.heap.size) (by omega) (.slice (some ⟨S, 0, none⟩) n c)); have T3 := Lib.hid (T2.put (p := w.heap.size) (by omega) (.slice (some ⟨S, 0, none⟩) n c)); have Q3 := Lib.hid (R2.other (S := w.heap.size) (j := 0) (v := .slice (some ⟨S, 0, none⟩) n c) (by omega) (fun a ha h0 => by have := HAB.out a ha h0; omega)); have B4 := Below.put B2 (Nat.le_refl _) (.slice (some ⟨S, 0, none⟩) n c); have hS0 : w.heap.size + 1 + 1 + 1 ≤ S := (by omega); clear S2 T2 R2) | (go_at_call 30; refine (end_is _ _ _ _ _ _ HPOS.out _ Q3.out).mono ?_; rintro e w4 ⟨rfl, hb4⟩; have F2 := E2.below hb4; have F3 := E3.below hb4; have g2 := F2.c; have k2 := F2.f; have g3 := (F3.other (q := w.heap.size) (by omega) (.slice (some ⟨S, 0, none⟩) n c)).c; have k3 := (F3.other (q := w.heap.size) (by omega) (.slice (some ⟨S, 0, none⟩) n c)).f) | fail)
      refine leaves_cons (f := 28) (args := #[.pointer (some ⟨w.heap.size, 0, none⟩), .pointer (some ⟨w.heap.size + 1, 0, none⟩)]) (by simp) (by simp [go_sem]) ?_
      refine (catch_idle _ _ _).mono ?_
      rintro e u' w'' ⟨rfl, rfl, rfl⟩
      have G2 := ((F2.put (.slice (some ⟨S, 0, none⟩) n c)).other (q := w.heap.size + 1) (by omega) (.int .i64 0)).c
      have G3 := ((F3.other (q := w.heap.size) (by omega) (.slice (some ⟨S, 0, none⟩) n c)).put (.int .i64 0)).c
      have S5 := ((S3.out.below hb4).put (p := w.heap.size) (by omega) (.slice (some ⟨S, 0, none⟩) n c)).put (p := w.heap.size + 1) (by omega) (.int .i64 0)
      have T5 := ((T3.out.below hb4).put (p := w.heap.size) (by omega) (.slice (some ⟨S, 0, none⟩) n c)).put (p := w.heap.size + 1) (by omega) (.int .i64 0)
      have B5 := Below.put (Below.put (B4.trans (hb4.mono B4.size)) (Nat.le_refl _) (.slice (some ⟨S, 0, none⟩) n c)) (p := w.heap.size + 1) (by omega) (.int .i64 0)
      simp [Leaves, settle, results, Try.results15, go_sem, G2, G3]
      exact ⟨⟨_, _, by rw [Hn.out], S5, (fun e => by cases e), T5⟩, B5⟩
    · simp only [if_neg hend] at h
      subst h
      have HPOS : Hid (len - r.length < len) := Lib.hid (by
        have h0 : 0 < r.length := by
          cases r with
          | nil => exact absurd rfl hend
          | cons _ _ => simp
        have h1 : 0 < len := by
          rw [← hl]
          cases b with
          | nil => cases hr
          | cons _ _ => simp
        omega)
      clear hr hb hl R3 hn hend
      go_enter_defers Try.func15, Try.ntmps15
      go_wp2_with (first | (go_at_call 29; rw [HW3.out]; refine HC.out.mono ?_; rintro e w2 ⟨S, c, rfl, hS, S2, T2, R2, hg2⟩; rw [Hn.out]; have D2 := C2.gro hg2 (by omega); have D3 := C3.gro hg2 (by omega); have c2 := D2.c; have f2 := D2.f; have B2 := Below.gro B3 (by omega) (by omega) hg2; have E2 := D2.put (.slice (some ⟨S, 0, none⟩) n c); have E3 := D3.other (q := w.heap.size) (by omega) (.slice (some ⟨S, 0, none⟩) n c); have S3 := Lib.hid (S2.put (p := w.heap.size) (by omega) (.slice (some ⟨S, 0, none⟩) n c)); have T3 := Lib.hid (T2.put (p := w.heap.size) (by omega) (.slice (some ⟨S, 0, none⟩) n c)); have Q3 := Lib.hid (R2.other (S := w.heap.size) (j := 0) (v := .slice (some ⟨S, 0, none⟩) n c) (by omega) (fun a ha h0 => by have := HAB.out a ha h0; omega)); have B4 := Below.put B2 (Nat.le_refl _) (.slice (some ⟨S, 0, none⟩) n c); have hS0 : w.heap.size + 1 + 1 + 1 ≤ S := (by omega); clear S2 T2 R2) | (go_at_call 30; refine (end_none _ _ _ _ _ _ HPOS.out _ Q3.out).mono ?_; rintro e w4 ⟨rfl, hb4⟩) | fail)
      have F2 := E2.below hb4
      have F3 := E3.below hb4
      refine leaves_cons (f := 28) (args := #[.pointer (some ⟨w.heap.size, 0, none⟩), .pointer (some ⟨w.heap.size + 1, 0, none⟩)]) (by simp) (by simp [go_sem]) ?_
      refine (catch_panicking _ _ (by omega) _ _ [] _ F2.c F2.f F3.c F3.f).mono ?_
      rintro e u' w'' ⟨rfl, rfl, rfl⟩
      have G2 := ((F2.put (.slice none 0 0)).other (q := w.heap.size + 1) (by omega) (.int .i64 7)).c
      have G3 := ((F3.other (q := w.heap.size) (by omega) (.slice none 0 0)).put (.int .i64 7)).c
      have B5 := Below.put (Below.put (B4.trans (hb4.mono B4.size)) (Nat.le_refl _) (.slice none 0 0)) (p := w.heap.size + 1) (by omega) (.int .i64 7)
      simp [Leaves, settle, results, Try.results15, go_sem, G2, G3]
      exact ⟨rfl, B5⟩
end Go.Proofs.Ytnnhpbkhfaaaeaa
