import Derived.Test.YtahdlkdiadlgeaaGreatGAD
import Derived.Test.YtahdlkdiadlgeaaGreatGAE
import Derived.Deep.MidRow
/- Forms in memory: slices of triples (repeats, endings, cuts), of visits; a form's handle and block. -/
namespace Go.Proofs.YtahdlkdiadlgeaaGreat
open Go.RowKit

/-- Three cells, from an address on. -/
structure TAt (w : World) (b o : Nat) (x : Fo.T3) : Prop where
  c0 : w.cell? ⟨b, o, none⟩ = some (.int .i64 x.a)
  c1 : w.cell? ⟨b, o + 1, none⟩ = some (.int .i64 x.b)
  c2 : w.cell? ⟨b, o + 2, none⟩ = some (.int .i64 x.c)
theorem TAt.below {w w' : World} {b o B : Nat} {x : Fo.T3} (h : TAt w b o x) (hb : Below B w w') (hlt : b < B) : TAt w' b o x :=
  ⟨(hb.cell (p := ⟨b, o, none⟩) hlt).trans h.c0, (hb.cell (p := ⟨b, o + 1, none⟩) hlt).trans h.c1, (hb.cell (p := ⟨b, o + 2, none⟩) hlt).trans h.c2⟩
/-- At this address lie these triples (nothing is said where there are none). -/
def SlT (w : World) (A : Option Addr) (l : List Fo.T3) : Prop :=
  0 < l.length → ∃ b off, A = some ⟨b, off, none⟩ ∧ b < w.heap.size ∧ ∀ k, k < l.length → TAt w b (off + k * 3) (Fo.at3 l k)
theorem SlT.below {w w' : World} {A : Option Addr} {l : List Fo.T3} (h : SlT w A l) (hb : Below w.heap.size w w') : SlT w' A l := fun h0 => by
  obtain ⟨b, off, e, hlt, hc⟩ := h h0
  exact ⟨b, off, e, Nat.lt_of_lt_of_le hlt hb.size, fun k hk => (hc k hk).below hb hlt⟩
theorem SlT.alloc {w : World} {A : Option Addr} {l : List Fo.T3} (h : SlT w A l) (o : Obj) : SlT (w.alloc o) A l := h.below ((Below.refl _ _).alloc (Nat.le_refl _) _)
theorem SlT.nil (w : World) (A : Option Addr) : SlT w A [] := fun h => by simp at h
theorem SlT.take {w : World} {A : Option Addr} {l : List Fo.T3} (h : SlT w A l) (j : Nat) : SlT w A (l.take j) := fun h0 => by
  rw [List.length_take] at h0
  obtain ⟨b, off, rfl, hb, hc⟩ := h (by omega)
  refine ⟨b, off, rfl, hb, fun i hi => ?_⟩
  rw [List.length_take] at hi
  have e : Fo.at3 (l.take j) i = Fo.at3 l i := by unfold Fo.at3; rw [List.getElem?_take, if_pos (by omega)]
  rw [e]
  exact hc i (by omega)
/-- A visit. -/
structure VAt (w : World) (b o : Nat) (x : Fo.V2) : Prop where
  c0 : w.cell? ⟨b, o, none⟩ = some (.int .i64 x.b)
  c1 : w.cell? ⟨b, o + 1, none⟩ = some (.int .i64 x.p)
theorem VAt.below {w w' : World} {b o B : Nat} {x : Fo.V2} (h : VAt w b o x) (hb : Below B w w') (hlt : b < B) : VAt w' b o x :=
  ⟨(hb.cell (p := ⟨b, o, none⟩) hlt).trans h.c0, (hb.cell (p := ⟨b, o + 1, none⟩) hlt).trans h.c1⟩
def atV (l : List Fo.V2) (i : Nat) : Fo.V2 := l[i]?.getD ⟨0, 0⟩
theorem atV_eq {l : List Fo.V2} {i : Nat} (h : i < l.length) : atV l i = l[i] := by unfold atV; rw [List.getElem?_eq_getElem h]; rfl
def SlV (w : World) (A : Option Addr) (l : List Fo.V2) : Prop :=
  0 < l.length → ∃ b off, A = some ⟨b, off, none⟩ ∧ b < w.heap.size ∧ ∀ k, k < l.length → VAt w b (off + k * 2) (atV l k)
theorem SlV.below {w w' : World} {A : Option Addr} {l : List Fo.V2} (h : SlV w A l) (hb : Below w.heap.size w w') : SlV w' A l := fun h0 => by
  obtain ⟨b, off, e, hlt, hc⟩ := h h0
  exact ⟨b, off, e, Nat.lt_of_lt_of_le hlt hb.size, fun k hk => (hc k hk).below hb hlt⟩
theorem SlV.alloc {w : World} {A : Option Addr} {l : List Fo.V2} (h : SlV w A l) (o : Obj) : SlV (w.alloc o) A l := h.below ((Below.refl _ _).alloc (Nat.le_refl _) _)
theorem SlV.nil (w : World) (A : Option Addr) : SlV w A [] := fun h => by simp at h
/-- A form's handle. -/
structure FH where
  n : Int
  R : Option Addr
  rl : Nat
  rc : Nat
  E : Option Addr
  el : Nat
  ec : Nat
  ja : Int
  jt : Int
  jf : Int
  C : Option Addr
  cl : Nat
  cc : Nat
/-- The form that a handle stands for. -/
structure SlF (w : World) (h : FH) (f : Fo.Fm) : Prop where
  n : f.n = h.n
  ja : f.ja = h.ja
  jt : f.jt = h.jt
  jf : f.jf = h.jf
  rl : f.rs.length = h.rl
  el : f.es.length = h.el
  cl : f.cs.length = h.cl
  sr : SlT w h.R f.rs
  se : SlT w h.E f.es
  sc : SlT w h.C f.cs
theorem SlF.below {w w' : World} {h : FH} {f : Fo.Fm} (s : SlF w h f) (hb : Below w.heap.size w w') : SlF w' h f := ⟨s.n, s.ja, s.jt, s.jf, s.rl, s.el, s.cl, s.sr.below hb, s.se.below hb, s.sc.below hb⟩
theorem SlF.alloc {w : World} {h : FH} {f : Fo.Fm} (s : SlF w h f) (o : Obj) : SlF (w.alloc o) h f := s.below ((Below.refl _ _).alloc (Nat.le_refl _) _)
/-- A form's value in a block of its own. -/
structure FB (w : World) (b : Nat) (h : FH) : Prop where
  lt : b < w.heap.size
  c0 : w.cell? ⟨b, 0, none⟩ = some (.int .i64 h.n)
  c1 : w.cell? ⟨b, 1, none⟩ = some (.slice h.R h.rl h.rc)
  c2 : w.cell? ⟨b, 2, none⟩ = some (.slice h.E h.el h.ec)
  c3 : w.cell? ⟨b, 3, none⟩ = some (.int .i64 h.ja)
  c4 : w.cell? ⟨b, 4, none⟩ = some (.int .i64 h.jt)
  c5 : w.cell? ⟨b, 5, none⟩ = some (.int .i64 h.jf)
  c6 : w.cell? ⟨b, 6, none⟩ = some (.slice h.C h.cl h.cc)
theorem FB.below {w w' : World} {b : Nat} {h : FH} (s : FB w b h) (hb : Below w.heap.size w w') : FB w' b h :=
  ⟨Nat.lt_of_lt_of_le s.lt hb.size, (hb.cell (p := ⟨b, 0, none⟩) s.lt).trans s.c0, (hb.cell (p := ⟨b, 1, none⟩) s.lt).trans s.c1, (hb.cell (p := ⟨b, 2, none⟩) s.lt).trans s.c2, (hb.cell (p := ⟨b, 3, none⟩) s.lt).trans s.c3, (hb.cell (p := ⟨b, 4, none⟩) s.lt).trans s.c4, (hb.cell (p := ⟨b, 5, none⟩) s.lt).trans s.c5, (hb.cell (p := ⟨b, 6, none⟩) s.lt).trans s.c6⟩
theorem FB.alloc {w : World} {b : Nat} {h : FH} (s : FB w b h) (o : Obj) : FB (w.alloc o) b h := s.below ((Below.refl _ _).alloc (Nat.le_refl _) _)
theorem FB.new (w : World) (h : FH) : FB (w.alloc (.cells #[.int .i64 h.n, .slice h.R h.rl h.rc, .slice h.E h.el h.ec, .int .i64 h.ja, .int .i64 h.jt, .int .i64 h.jf, .slice h.C h.cl h.cc] 34)) w.heap.size h := ⟨by simp, by go_simp, by go_simp, by go_simp, by go_simp, by go_simp, by go_simp, by go_simp⟩
/-- A triple in a block of its own. -/
structure TB (w : World) (b : Nat) (x : Fo.T3) : Prop where
  lt : b < w.heap.size
  c0 : w.cell? ⟨b, 0, none⟩ = some (.int .i64 x.a)
  c1 : w.cell? ⟨b, 1, none⟩ = some (.int .i64 x.b)
  c2 : w.cell? ⟨b, 2, none⟩ = some (.int .i64 x.c)
theorem TB.below {w w' : World} {b : Nat} {x : Fo.T3} (s : TB w b x) (hb : Below w.heap.size w w') : TB w' b x :=
  ⟨Nat.lt_of_lt_of_le s.lt hb.size, (hb.cell (p := ⟨b, 0, none⟩) s.lt).trans s.c0, (hb.cell (p := ⟨b, 1, none⟩) s.lt).trans s.c1, (hb.cell (p := ⟨b, 2, none⟩) s.lt).trans s.c2⟩
theorem TB.alloc {w : World} {b : Nat} {x : Fo.T3} (s : TB w b x) (o : Obj) : TB (w.alloc o) b x := s.below ((Below.refl _ _).alloc (Nat.le_refl _) _)
theorem TB.new (w : World) (x : Fo.T3) (t : TypeId) : TB (w.alloc (.cells #[.int .i64 x.a, .int .i64 x.b, .int .i64 x.c] t)) w.heap.size x := ⟨by simp, by go_simp, by go_simp, by go_simp⟩
end Go.Proofs.YtahdlkdiadlgeaaGreat

/- The walks of the reference's within, inside, starts, played. -/
namespace Go.Proofs.YtahdlkdiadlgeaaGreat
open Go.RowKit

theorem fo_some {l : List Fo.T3} {P : Fo.T3 → Prop} {i : Nat} (h : i < l.length) (hp : P (Fo.at3 l i)) : ∃ x ∈ l, P x := ⟨_, Fo.at3_mem h, hp⟩
theorem fo_none {l : List Fo.T3} {P : Fo.T3 → Prop} (h : ∀ j, j < l.length → ¬ P (Fo.at3 l j)) : ¬ ∃ x ∈ l, P x := fun ⟨x, hx, hp⟩ => by
  obtain ⟨j, hj, rfl⟩ := List.mem_iff_getElem.1 hx
  exact h j hj (by rw [Fo.at3_eq hj]; exact hp)
set_option maxHeartbeats 800000 in
theorem rwithin_is (l : List Fo.T3) (bar : Int) (f : Bool) (len cap : Nat) (A : Option Addr) (hf : f = true ↔ Fo.wi l bar) (hl : l.length = len) (hmax : len ≤ 1000000) (w : World) (hL : SlT w A l) :
    Calls Tryz.prog 93 #[.slice A len cap, .int .i64 bar] w fun e w' => e = .returned (.bool f) ∧ w' = w := by
  have HF := Lib.hid hf; have HN := Lib.hid hl; have HL := Lib.hid hL
  clear hf hl hL
  go_enter Tryz.func93, Tryz.ntmps93
  go_wp2_with fail
  go_loopw [5] (fun s5 wr => ∃ (i : Nat), i ≤ len ∧ s5 = .int .i64 (i : Int) ∧ Hid (∀ j, j < i → ¬ ((Fo.at3 l j).a < bar ∧ bar < (Fo.at3 l j).b)) ∧ wr = w) (fun s5 _ => len - (intOf s5).toNat)
  case atStart => exact ⟨0, Nat.zero_le _, rfl, Lib.hid (fun j hj => by omega), rfl⟩
  case round =>
    obtain ⟨i, hi, rfl, HJ, rfl⟩ := hrel
    by_cases hlt : i < len
    · have hil : i < l.length := by rw [HN.out]; exact hlt
      obtain ⟨b, off, rfl, hb, hc⟩ := HL.out (by omega)
      have X := hc i hil
      obtain ⟨x, hx⟩ : ∃ x, Fo.at3 l i = x := ⟨_, rfl⟩
      rw [hx] at X
      obtain ⟨c0, c1, c2⟩ := X
      have HX := Lib.hid hx; have HIL := Lib.hid hil
      have hi1 : (i : Int) < (len : Int) := by omega
      clear hc hx hil
      by_cases h1 : x.a < bar
      · by_cases h2 : bar < x.b
        · obtain rfl : f = true := HF.out.2 (fo_some HIL.out (by rw [HX.out]; exact ⟨h1, h2⟩))
          go_wp2_with fail
          go_ret
          exact ⟨rfl, rfl⟩
        · have HJ2 : Hid (∀ j, j < i + 1 → ¬ ((Fo.at3 l j).a < bar ∧ bar < (Fo.at3 l j).b)) := Lib.hid (fun j hj => by
            rcases Nat.lt_or_ge j i with h | h
            · exact HJ.out j h
            · rw [show j = i by omega, HX.out]; exact fun h => h2 h.2)
          go_wp2_with fail
          go_roundw
          case rel => exact ⟨i + 1, by omega, by simp, HJ2, (by first | rfl | trivial)⟩
          case measure => simp [intOf]; omega
      · have HJ2 : Hid (∀ j, j < i + 1 → ¬ ((Fo.at3 l j).a < bar ∧ bar < (Fo.at3 l j).b)) := Lib.hid (fun j hj => by
          rcases Nat.lt_or_ge j i with h | h
          · exact HJ.out j h
          · rw [show j = i by omega, HX.out]; exact fun h => h1 h.1)
        go_wp2_with fail
        go_roundw
        case rel => exact ⟨i + 1, by omega, by simp, HJ2, (by first | rfl | trivial)⟩
        case measure => simp [intOf]; omega
    · obtain rfl : i = len := by omega
      obtain rfl : f = false := by
        cases f with
        | false => rfl
        | true => exact absurd (HF.out.1 rfl) (fo_none (fun j hj => HJ.out j (by rw [← HN.out]; exact hj)))
      go_wp2_with fail
      go_ret
      exact ⟨rfl, rfl⟩
set_option maxHeartbeats 800000 in
theorem rinside_is (l : List Fo.T3) (lo ub : Int) (f : Bool) (len cap : Nat) (A : Option Addr) (hf : f = true ↔ Fo.ins l lo ub) (hl : l.length = len) (hmax : len ≤ 1000000) (w : World) (hL : SlT w A l) :
    Calls Tryz.prog 92 #[.slice A len cap, .int .i64 lo, .int .i64 ub] w fun e w' => e = .returned (.bool f) ∧ w' = w := by
  have HF := Lib.hid hf; have HN := Lib.hid hl; have HL := Lib.hid hL
  clear hf hl hL
  go_enter Tryz.func92, Tryz.ntmps92
  go_wp2_with fail
  go_loopw [7] (fun s5 wr => ∃ (i : Nat), i ≤ len ∧ s5 = .int .i64 (i : Int) ∧ Hid (∀ j, j < i → ¬ ((Fo.at3 l j).a ≤ lo ∧ ub ≤ (Fo.at3 l j).b)) ∧ wr = w) (fun s5 _ => len - (intOf s5).toNat)
  case atStart => exact ⟨0, Nat.zero_le _, rfl, Lib.hid (fun j hj => by omega), rfl⟩
  case round =>
    obtain ⟨i, hi, rfl, HJ, rfl⟩ := hrel
    by_cases hlt : i < len
    · have hil : i < l.length := by rw [HN.out]; exact hlt
      obtain ⟨b, off, rfl, hb, hc⟩ := HL.out (by omega)
      have X := hc i hil
      obtain ⟨x, hx⟩ : ∃ x, Fo.at3 l i = x := ⟨_, rfl⟩
      rw [hx] at X
      obtain ⟨c0, c1, c2⟩ := X
      have HX := Lib.hid hx; have HIL := Lib.hid hil
      have hi1 : (i : Int) < (len : Int) := by omega
      clear hc hx hil
      by_cases h1 : x.a ≤ lo
      · by_cases h2 : ub ≤ x.b
        · obtain rfl : f = true := HF.out.2 (fo_some HIL.out (by rw [HX.out]; exact ⟨h1, h2⟩))
          go_wp2_with fail
          go_ret
          exact ⟨rfl, rfl⟩
        · have HJ2 : Hid (∀ j, j < i + 1 → ¬ ((Fo.at3 l j).a ≤ lo ∧ ub ≤ (Fo.at3 l j).b)) := Lib.hid (fun j hj => by
            rcases Nat.lt_or_ge j i with h | h
            · exact HJ.out j h
            · rw [show j = i by omega, HX.out]; exact fun h => h2 h.2)
          go_wp2_with fail
          go_roundw
          case rel => exact ⟨i + 1, by omega, by simp, HJ2, (by first | rfl | trivial)⟩
          case measure => simp [intOf]; omega
      · have HJ2 : Hid (∀ j, j < i + 1 → ¬ ((Fo.at3 l j).a ≤ lo ∧ ub ≤ (Fo.at3 l j).b)) := Lib.hid (fun j hj => by
          rcases Nat.lt_or_ge j i with h | h
          · exact HJ.out j h
          · rw [show j = i by omega, HX.out]; exact fun h => h1 h.1)
        go_wp2_with fail
        go_roundw
        case rel => exact ⟨i + 1, by omega, by simp, HJ2, (by first | rfl | trivial)⟩
        case measure => simp [intOf]; omega
    · obtain rfl : i = len := by omega
      obtain rfl : f = false := by
        cases f with
        | false => rfl
        | true => exact absurd (HF.out.1 rfl) (fo_none (fun j hj => HJ.out j (by rw [← HN.out]; exact hj)))
      go_wp2_with fail
      go_ret
      exact ⟨rfl, rfl⟩
set_option maxHeartbeats 800000 in
theorem rstarts_is (h : FH) (f : Fo.Fm) (bar r : Int) (hr : Fo.six f.rs bar = r) (hmax : h.rl ≤ 1000000) (w : World) (hS : SlF w h f) :
    Calls Tryz.prog 102 #[.agg #[.int .i64 h.n, .slice h.R h.rl h.rc, .slice h.E h.el h.ec, .int .i64 h.ja, .int .i64 h.jt, .int .i64 h.jf, .slice h.C h.cl h.cc], .int .i64 bar] w fun e w' => e = .returned (.int .i64 r) ∧ Below w.heap.size w w' := by
  have HF := Lib.hid hr; have HN := Lib.hid hS.rl; have HL := Lib.hid hS.sr
  have B := (Below.refl w.heap.size w).alloc (Nat.le_refl _) (.cells #[.int .i64 h.n, .slice h.R h.rl h.rc, .slice h.E h.el h.ec, .int .i64 h.ja, .int .i64 h.jt, .int .i64 h.jf, .slice h.C h.cl h.cc] 34)
  have Q := FB.new w h
  clear hr hS
  go_enter Tryz.func102, Tryz.ntmps102
  go_wp2_with fail
  obtain ⟨W1, hW1⟩ : ∃ W1, w.alloc (.cells #[.int .i64 h.n, .slice h.R h.rl h.rc, .slice h.E h.el h.ec, .int .i64 h.ja, .int .i64 h.jt, .int .i64 h.jf, .slice h.C h.cl h.cc] 34) = W1 := ⟨_, rfl⟩
  rw [hW1] at B Q ⊢
  clear hW1
  have q1 := Q.c1; have ql := Q.lt
  go_loopw [5] (fun s5 wr => ∃ (i : Nat), i ≤ h.rl ∧ s5 = .int .i64 (i : Int) ∧ Hid (∀ j, j < i → (Fo.at3 f.rs j).a ≠ bar) ∧ wr = W1) (fun s5 _ => h.rl - (intOf s5).toNat)
  case atStart => exact ⟨0, Nat.zero_le _, rfl, Lib.hid (fun j hj => by omega), rfl⟩
  case round =>
    obtain ⟨i, hi, rfl, HJ, rfl⟩ := hrel
    by_cases hlt : i < h.rl
    · have hil : i < f.rs.length := by rw [HN.out]; exact hlt
      obtain ⟨b, off, hRe, hb, hc⟩ := HL.out (by omega)
      have X := (hc i hil).below B hb
      obtain ⟨x, hx⟩ : ∃ x, Fo.at3 f.rs i = x := ⟨_, rfl⟩
      rw [hx] at X
      obtain ⟨c0, -, -⟩ := X
      have HX := Lib.hid hx; have HIL := Lib.hid hil
      have hi1 : (i : Int) < (h.rl : Int) := by omega
      rw [hRe] at q1
      clear hc hx hil hRe
      by_cases h1 : x.a = bar
      · obtain rfl : (i : Int) = r := by
          rw [← HF.out]
          exact (Fo.six_first HIL.out (by rw [HX.out]; exact h1) HJ.out).symm
        have hbe : (x.a == bar) = true := by simpa using h1
        clear h1
        go_wp2_with fail
        go_ret
        exact ⟨rfl, B⟩
      · have HJ2 : Hid (∀ j, j < i + 1 → (Fo.at3 f.rs j).a ≠ bar) := Lib.hid (fun j hj => by
          rcases Nat.lt_or_ge j i with h | h
          · exact HJ.out j h
          · rw [show j = i by omega, HX.out]; exact h1)
        have hbe : (x.a == bar) = false := by simpa using h1
        clear h1
        go_wp2_with fail
        go_roundw
        case rel => exact ⟨i + 1, by omega, by simp, HJ2, (by first | rfl | trivial)⟩
        case measure => simp [intOf]; omega
    · obtain rfl : i = h.rl := by omega
      obtain rfl : r = -1 := by
        rw [← HF.out]
        by_cases h0 : 0 ≤ Fo.six f.rs bar
        · have h1 := Fo.six_at h0
          have h2 := Fo.six_lt f.rs bar
          exact absurd h1 (HJ.out _ (by rw [← HN.out]; omega))
        · have := Fo.six_ge f.rs bar; omega
      go_wp2_with fail
      go_ret
      exact ⟨rfl, B⟩
set_option maxHeartbeats 1600000 in
theorem rplayed_is (h : FH) (f : Fo.Fm) (bar pass : Int) (r : Bool) (hr : r = true ↔ Fo.pld f.es bar pass) (hmax : h.el ≤ 1000000) (w : World) (hS : SlF w h f) :
    Calls Tryz.prog 103 #[.agg #[.int .i64 h.n, .slice h.R h.rl h.rc, .slice h.E h.el h.ec, .int .i64 h.ja, .int .i64 h.jt, .int .i64 h.jf, .slice h.C h.cl h.cc], .int .i64 bar, .int .i64 pass] w fun e w' => e = .returned (.bool r) ∧ Below w.heap.size w w' := by
  have HF := Lib.hid hr; have HN := Lib.hid hS.el; have HL := Lib.hid hS.se
  have B := (Below.refl w.heap.size w).alloc (Nat.le_refl _) (.cells #[.int .i64 h.n, .slice h.R h.rl h.rc, .slice h.E h.el h.ec, .int .i64 h.ja, .int .i64 h.jt, .int .i64 h.jf, .slice h.C h.cl h.cc] 34)
  have Q := FB.new w h
  clear hr hS
  go_enter Tryz.func103, Tryz.ntmps103
  go_wp2_with fail
  obtain ⟨W1, hW1⟩ : ∃ W1, w.alloc (.cells #[.int .i64 h.n, .slice h.R h.rl h.rc, .slice h.E h.el h.ec, .int .i64 h.ja, .int .i64 h.jt, .int .i64 h.jf, .slice h.C h.cl h.cc] 34) = W1 := ⟨_, rfl⟩
  rw [hW1] at B Q ⊢
  clear hW1
  have HQ := Lib.hid Q; have HB := Lib.hid B
  clear Q B
  go_loopw [7] (fun s7 wr => ∃ (i : Nat), i ≤ h.el ∧ s7 = .int .i64 (i : Int) ∧ Hid (∀ j, j < i → Fo.inn (Fo.at3 f.es j) bar → (Fo.at3 f.es j).c = pass) ∧ Below W1.heap.size W1 wr) (fun s7 _ => h.el - (intOf s7).toNat)
  case atStart => exact ⟨0, Nat.zero_le _, rfl, Lib.hid (fun j hj => by omega), Below.refl _ _⟩
  case round =>
    obtain ⟨i, hi, rfl, HJ, hR⟩ := hrel
    have Q := HQ.out.below hR
    have q2 := Q.c2; have ql := Q.lt
    by_cases hlt : i < h.el
    · have hil : i < f.es.length := by rw [HN.out]; exact hlt
      obtain ⟨b, off, hRe, hb, hc⟩ := HL.out (by omega)
      have X := (hc i hil).below (HB.out.trans (hR.mono HB.out.size)) hb
      obtain ⟨x, hx⟩ : ∃ x, Fo.at3 f.es i = x := ⟨_, rfl⟩
      rw [hx] at X
      obtain ⟨c0, c1, c2⟩ := X
      have HX := Lib.hid hx; have HIL := Lib.hid hil
      have hi1 : (i : Int) < (h.el : Int) := by omega
      have hR2 := hR.alloc hR.size (.cells #[.int .i64 x.a, .int .i64 x.b, .int .i64 x.c] 113)
      rw [hRe] at q2
      clear hc hx hil hRe
      by_cases hin : x.a ≤ bar ∧ bar < x.b ∧ x.c ≠ pass
      · obtain ⟨h1, h2, h3⟩ := hin
        obtain rfl : r = false := by
          cases r with
          | false => rfl
          | true => exact absurd (HF.out.1 rfl x (by rw [← HX.out]; exact Fo.at3_mem HIL.out) ⟨h1, h2⟩) h3
        have hbe : (x.c != pass) = true := by simpa using h3
        clear h3
        go_wp2_with fail
        go_ret
        exact ⟨rfl, HB.out.trans (hR2.mono HB.out.size)⟩
      · have HJ2 : Hid (∀ j, j < i + 1 → Fo.inn (Fo.at3 f.es j) bar → (Fo.at3 f.es j).c = pass) := Lib.hid (fun j hj hn => by
          rcases Nat.lt_or_ge j i with h | h
          · exact HJ.out j h hn
          · rw [show j = i by omega, HX.out] at hn ⊢
            by_cases h3 : x.c = pass
            · exact h3
            · exact absurd ⟨hn.1, hn.2, h3⟩ hin)
        by_cases h1 : x.a ≤ bar
        · by_cases h2 : bar < x.b
          · have hbe : (x.c != pass) = false := by
              by_cases h3 : x.c = pass
              · simpa using h3
              · exact absurd ⟨h1, h2, h3⟩ hin
            clear hin
            go_wp2_with fail
            go_roundw
            case rel => exact ⟨i + 1, by omega, by simp, HJ2, hR2⟩
            case measure => simp [intOf]; omega
          · clear hin
            go_wp2_with fail
            go_roundw
            case rel => exact ⟨i + 1, by omega, by simp, HJ2, hR2⟩
            case measure => simp [intOf]; omega
        · clear hin
          go_wp2_with fail
          go_roundw
          case rel => exact ⟨i + 1, by omega, by simp, HJ2, hR2⟩
          case measure => simp [intOf]; omega
    · obtain rfl : i = h.el := by omega
      obtain rfl : r = true := HF.out.2 (fun x hx hn => by
        obtain ⟨j, hj, rfl⟩ := List.mem_iff_getElem.1 hx
        have := HJ.out j (by rw [← HN.out]; exact hj)
        rw [Fo.at3_eq hj] at this
        exact this hn)
      go_wp2_with fail
      go_ret
      exact ⟨rfl, HB.out.trans (hR.mono HB.out.size)⟩
end Go.Proofs.YtahdlkdiadlgeaaGreat
