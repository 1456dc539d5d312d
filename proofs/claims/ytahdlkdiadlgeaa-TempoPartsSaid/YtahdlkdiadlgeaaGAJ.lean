import Derived.Test.YtahdlkdiadlgeaaGAE
import Derived.Test.YtahdlkdiadlgeaaGAF
import Derived.Deep.MidRow
/- Forms in memory: slices of triples (repeats, endings, cuts), of visits; a form's handle and block. -/
namespace Go.Proofs.Ytahdlkdiadlgeaa
open Go.RowKit

/-- Three cells, from an address on. -/
structure TAt (w : World) (b o : Nat) (x : Fo.T3) : Prop where
  c0 : w.cell? ⟨b, o, none⟩ = some (.int .i64 x.a)
  c1 : w.cell? ⟨b, o + 1, none⟩ = some (.int .i64 x.b)
  c2 : w.cell? ⟨b, o + 2, none⟩ = some (.int .i64 x.c)
theorem TAt.below {w w' : World} {b o B : Nat} {x : Fo.T3} (h : TAt w b o x) (hb : Below B w w') (hlt : b < B) : TAt w' b o x :=
  ⟨(hb.cell (p := ⟨b, o, none⟩) hlt).trans h.c0, (hb.cell (p := ⟨b, o + 1, none⟩) hlt).trans h.c1, (hb.cell (p := ⟨b, o + 2, none⟩) hlt).trans h.c2⟩
/-- At this address lie these triples (nothing is said where there are none). -/
def SlT (w : World) (A : Option Addr) (l : List Fo.T3) : Prop :=
  0 < l.length → ∃ b off, A = some ⟨b, off, none⟩ ∧ b < w.heap.size ∧ ∀ k, k < l.length → TAt w b (off + k * 3) (Fo.at3 l k)
theorem SlT.below {w w' : World} {A : Option Addr} {l : List Fo.T3} (h : SlT w A l) (hb : Below w.heap.size w w') : SlT w' A l := fun h0 => by
  obtain ⟨b, off, e, hlt, hc⟩ := h h0
  exact ⟨b, off, e, Nat.lt_of_lt_of_le hlt hb.size, fun k hk => (hc k hk).below hb hlt⟩
theorem SlT.alloc {w : World} {A : Option Addr} {l : List Fo.T3} (h : SlT w A l) (o : Obj) : SlT (w.alloc o) A l := h.below ((Below.refl _ _).alloc (Nat.le_refl _) _)
theorem SlT.nil (w : World) (A : Option Addr) : SlT w A [] := fun h => by simp at h
theorem SlT.take {w : World} {A : Option Addr} {l : List Fo.T3} (h : SlT w A l) (j : Nat) : SlT w A (l.take j) := fun h0 => by
  rw [List.length_take] at h0
  obtain ⟨b, off, rfl, hb, hc⟩ := h (by omega)
  refine ⟨b, off, rfl, hb, fun i hi => ?_⟩
  rw [List.length_take] at hi
  have e : Fo.at3 (l.take j) i = Fo.at3 l i := by unfold Fo.at3; rw [List.getElem?_take, if_pos (by omega)]
  rw [e]
  exact hc i (by omega)
/-- A visit. -/
structure VAt (w : World) (b o : Nat) (x : Fo.V2) : Prop where
  c0 : w.cell? ⟨b, o, none⟩ = some (.int .i64 x.b)
  c1 : w.cell? ⟨b, o + 1, none⟩ = some (.int .i64 x.p)
theorem VAt.below {w w' : World} {b o B : Nat} {x : Fo.V2} (h : VAt w b o x) (hb : Below B w w') (hlt : b < B) : VAt w' b o x :=
  ⟨(hb.cell (p := ⟨b, o, none⟩) hlt).trans h.c0, (hb.cell (p := ⟨b, o + 1, none⟩) hlt).trans h.c1⟩
def atV (l : List Fo.V2) (i : Nat) : Fo.V2 := l[i]?.getD ⟨0, 0⟩
theorem atV_eq {l : List Fo.V2} {i : Nat} (h : i < l.length) : atV l i = l[i] := by unfold atV; rw [List.getElem?_eq_getElem h]; rfl
def SlV (w : World) (A : Option Addr) (l : List Fo.V2) : Prop :=
  0 < l.length → ∃ b off, A = some ⟨b, off, none⟩ ∧ b < w.heap.size ∧ ∀ k, k < l.length → VAt w b (off + k * 2) (atV l k)
theorem SlV.below {w w' : World} {A : Option Addr} {l : List Fo.V2} (h : SlV w A l) (hb : Below w.heap.size w w') : SlV w' A l := fun h0 => by
  obtain ⟨b, off, e, hlt, hc⟩ := h h0
  exact ⟨b, off, e, Nat.lt_of_lt_of_le hlt hb.size, fun k hk => (hc k hk).below hb hlt⟩
theorem SlV.alloc {w : World} {A : Option Addr} {l : List Fo.V2} (h : SlV w A l) (o : Obj) : SlV (w.alloc o) A l := h.below ((Below.refl _ _).alloc (Nat.le_refl _) _)
theorem SlV.nil (w : World) (A : Option Addr) : SlV w A [] := fun h => by simp at h
/-- A form's handle. -/
structure FH where
  n : Int
  R : Option Addr
  rl : Nat
  rc : Nat
  E : Option Addr
  el : Nat
  ec : Nat
  ja : Int
  jt : Int
  jf : Int
  C : Option Addr
  cl : Nat
  cc : Nat
/-- The form that a handle stands for. -/
structure SlF (w : World) (h : FH) (f : Fo.Fm) : Prop where
  n : f.n = h.n
  ja : f.ja = h.ja
  jt : f.jt = h.jt
  jf : f.jf = h.jf
  rl : f.rs.length = h.rl
  el : f.es.length = h.el
  cl : f.cs.length = h.cl
  sr : SlT w h.R f.rs
  se : SlT w h.E f.es
  sc : SlT w h.C f.cs
theorem SlF.below {w w' : World} {h : FH} {f : Fo.Fm} (s : SlF w h f) (hb : Below w.heap.size w w') : SlF w' h f := ⟨s.n, s.ja, s.jt, s.jf, s.rl, s.el, s.cl, s.sr.below hb, s.se.below hb, s.sc.below hb⟩
theorem SlF.alloc {w : World} {h : FH} {f : Fo.Fm} (s : SlF w h f) (o : Obj) : SlF (w.alloc o) h f := s.below ((Below.refl _ _).alloc (Nat.le_refl _) _)
/-- A form's value in a block of its own. -/
structure FB (w : World) (b : Nat) (h : FH) : Prop where
  lt : b < w.heap.size
  c0 : w.cell? ⟨b, 0, none⟩ = some (.int .i64 h.n)
  c1 : w.cell? ⟨b, 1, none⟩ = some (.slice h.R h.rl h.rc)
  c2 : w.cell? ⟨b, 2, none⟩ = some (.slice h.E h.el h.ec)
  c3 : w.cell? ⟨b, 3, none⟩ = some (.int .i64 h.ja)
  c4 : w.cell? ⟨b, 4, none⟩ = some (.int .i64 h.jt)
  c5 : w.cell? ⟨b, 5, none⟩ = some (.int .i64 h.jf)
  c6 : w.cell? ⟨b, 6, none⟩ = some (.slice h.C h.cl h.cc)
theorem FB.below {w w' : World} {b : Nat} {h : FH} (s : FB w b h) (hb : Below w.heap.size w w') : FB w' b h :=
  ⟨Nat.lt_of_lt_of_le s.lt hb.size, (hb.cell (p := ⟨b, 0, none⟩) s.lt).trans s.c0, (hb.cell (p := ⟨b, 1, none⟩) s.lt).trans s.c1, (hb.cell (p := ⟨b, 2, none⟩) s.lt).trans s.c2, (hb.cell (p := ⟨b, 3, none⟩) s.lt).trans s.c3, (hb.cell (p := ⟨b, 4, none⟩) s.lt).trans s.c4, (hb.cell (p := ⟨b, 5, none⟩) s.lt).trans s.c5, (hb.cell (p := ⟨b, 6, none⟩) s.lt).trans s.c6⟩
theorem FB.alloc {w : World} {b : Nat} {h : FH} (s : FB w b h) (o : Obj) : FB (w.alloc o) b h := s.below ((Below.refl _ _).alloc (Nat.le_refl _) _)
theorem FB.new (w : World) (h : FH) : FB (w.alloc (.cells #[.int .i64 h.n, .slice h.R h.rl h.rc, .slice h.E h.el h.ec, .int .i64 h.ja, .int .i64 h.jt, .int .i64 h.jf, .slice h.C h.cl h.cc] 47)) w.heap.size h := ⟨by simp, by go_simp, by go_simp, by go_simp, by go_simp, by go_simp, by go_simp, by go_simp⟩
/-- A triple in a block of its own. -/
structure TB (w : World) (b : Nat) (x : Fo.T3) : Prop where
  lt : b < w.heap.size
  c0 : w.cell? ⟨b, 0, none⟩ = some (.int .i64 x.a)
  c1 : w.cell? ⟨b, 1, none⟩ = some (.int .i64 x.b)
  c2 : w.cell? ⟨b, 2, none⟩ = some (.int .i64 x.c)
theorem TB.below {w w' : World} {b : Nat} {x : Fo.T3} (s : TB w b x) (hb : Below w.heap.size w w') : TB w' b x :=
  ⟨Nat.lt_of_lt_of_le s.lt hb.size, (hb.cell (p := ⟨b, 0, none⟩) s.lt).trans s.c0, (hb.cell (p := ⟨b, 1, none⟩) s.lt).trans s.c1, (hb.cell (p := ⟨b, 2, none⟩) s.lt).trans s.c2⟩
theorem TB.alloc {w : World} {b : Nat} {x : Fo.T3} (s : TB w b x) (o : Obj) : TB (w.alloc o) b x := s.below ((Below.refl _ _).alloc (Nat.le_refl _) _)
theorem TB.new (w : World) (x : Fo.T3) (t : TypeId) : TB (w.alloc (.cells #[.int .i64 x.a, .int .i64 x.b, .int .i64 x.c] t)) w.heap.size x := ⟨by simp, by go_simp, by go_simp, by go_simp⟩
end Go.Proofs.Ytahdlkdiadlgeaa

/- The walks of the reference's within, inside, starts, played. -/
namespace Go.Proofs.Ytahdlkdiadlgeaa
open Go.RowKit

theorem fo_some {l : List Fo.T3} {P : Fo.T3 → Prop} {i : Nat} (h : i < l.length) (hp : P (Fo.at3 l i)) : ∃ x ∈ l, P x := ⟨_, Fo.at3_mem h, hp⟩
theorem fo_none {l : List Fo.T3} {P : Fo.T3 → Prop} (h : ∀ j, j < l.length → ¬ P (Fo.at3 l j)) : ¬ ∃ x ∈ l, P x := fun ⟨x, hx, hp⟩ => by
  obtain ⟨j, hj, rfl⟩ := List.mem_iff_getElem.1 hx
  exact h j hj (by rw [Fo.at3_eq hj]; exact hp)
end Go.Proofs.Ytahdlkdiadlgeaa
