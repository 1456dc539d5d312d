import Derived.Test.YtahdlkdiadlgeaaGAX
import Derived.Test.YtahdlkdiadlgeaaGAF
import Derived.Laws.CopyOwn
/- Two ratios' variables made in one statement. -/
namespace Go.Proofs.Ytahdlkdiadlgeaa
open Go.RowKit

def ratB (w : World) (b : Nat) (x y : Int) : Prop := w.heap[b]? = some (.cells #[.int .i64 x, .int .i64 y] 25 (0, 0))
theorem ratB.below {w w' : World} {b : Nat} {x y : Int} (h : ratB w b x y) (hb : Below w.heap.size w w') : ratB w' b x y := (hb.block b (Array.getElem?_eq_some_iff.1 h).1).trans h
theorem ratB.var {w : World} {b : Nat} {x y : Int} (h : ratB w b x y) : Var2 w b x y :=
  ⟨⟨(Array.getElem?_eq_some_iff.1 h).1, by unfold World.cell?; rw [h]; rfl, by unfold World.cell?; rw [h]; rfl⟩, by unfold World.frozen?; rw [h]; rfl, by unfold World.frozen?; rw [h]; rfl⟩
theorem ratB.new (w : World) (x y : Int) : ratB (w.alloc (.cells #[.int .i64 x, .int .i64 y] 25)) w.heap.size x y := heap_alloc_new w _
theorem ratB.store {w : World} {b : Nat} {x y n d : Int} (h : ratB w b x y) : ∃ w', (storeVar 25 ⟨b, 0, none⟩ (.agg #[.int .i64 n, .int .i64 d])).run Try.prog w = .ok () w' ∧ ratB w' b n d ∧ (∀ {B : Nat} {w0 : World}, Below B w0 w → B ≤ b → Below B w0 w') ∧ ∀ {c : Nat} {p q : Int}, c ≠ b → ratB w c p q → ratB w' c p q :=
  ⟨_, run_storeVar_row (P := Try.prog) w b 25 25 #[.int .i64 x, .int .i64 y] #[.int .i64 n, .int .i64 d] h (by kernel_rfl) rfl (by simp [Value.oneCell']), setRow_heap w b #[.int .i64 x, .int .i64 y] _ 25 (0, 0) h, fun hb hB => below_setRow hb hB _, fun hc hp => by
    unfold ratB at hp ⊢
    rw [← hp]
    exact setRow_other w b _ _ hc⟩
theorem SlT.ne9 {w : World} {g : Nat} {l : List Fo.T3} (h : SlT w (some ⟨g, 0, none⟩) l) (b k : Nat) (v : Value) (hn : g ≠ b) : SlT (w.setCell ⟨b, k, none⟩ v) (some ⟨g, 0, none⟩) l := fun h0 => by
  obtain ⟨g', o, e, hg, hc⟩ := h h0
  cases e
  have e2 := heap_setCell_other w ⟨b, k, none⟩ g v hn
  exact ⟨g, 0, rfl, by simpa using hg, fun j hj => ⟨(World.cell?_of_block (w := w) (a := ⟨g, _, none⟩) e2).trans (hc j hj).c0, (World.cell?_of_block (w := w) (a := ⟨g, _, none⟩) e2).trans (hc j hj).c1, (World.cell?_of_block (w := w) (a := ⟨g, _, none⟩) e2).trans (hc j hj).c2⟩⟩
/-- The classes of the region: the first variable's block, and what lies in it; the second one's. -/
structure rgC (W : World) (zb zc : Int) (vs : List Value) (og : Option Value) (w' : World) : Prop where
  b : Below W.heap.size W w'
  l : vs.length ≤ 2
  m : ∀ v, vs[0]? = some v → ∃ m, v = .pointer (some ⟨m, 0, none⟩) ∧ W.heap.size ≤ m ∧ (vs.length = 1 → ratB w' m 0 0) ∧ (vs.length = 2 → ratB w' m zb zc)
  x : ∀ p, og = some p → ∃ x, p = .pointer (some ⟨x, 0, none⟩) ∧ W.heap.size ≤ x ∧ ratB w' x 0 0
  d : ∀ p v, og = some p → vs[0]? = some v → p ≠ v
theorem rgC.start (W : World) (zb zc : Int) {w' : World} (h : Below W.heap.size W w') : rgC W zb zc [] none w' :=
  ⟨h, by simp, fun v hv => (by cases hv), fun p hp => (by cases hp), fun p v hp => (by cases hp)⟩
theorem rgC.one {W w' : World} {zb zc : Int} {og : Option Value} (h : rgC W zb zc [] og w') : rgC W zb zc ([] ++ [.pointer (some ⟨w'.heap.size, 0, none⟩)]) og (w'.alloc (.cells #[.int .i64 0, .int .i64 0] 25)) := by
  refine ⟨h.b.alloc h.b.size _, by simp, fun v hv => ?_, fun p hp => ?_, fun p v hp hv => ?_⟩
  · cases hv
    exact ⟨_, rfl, h.b.size, fun _ => ratB.new w' 0 0, fun k => (by simp at k)⟩
  · obtain ⟨x, e, h1, h2⟩ := h.x p hp
    exact ⟨x, e, h1, h2.below ((Below.refl _ _).alloc (Nat.le_refl _) _)⟩
  · cases hv
    obtain ⟨x, e, h1, h2⟩ := h.x p hp
    subst e
    intro e
    have : x = w'.heap.size := by injection e with e; injection e with e; injection e
    have := (Array.getElem?_eq_some_iff.1 h2).1
    omega
theorem rgC.two {W w' : World} {zb zc : Int} {vs : List Value} (h : rgC W zb zc vs none w') : rgC W zb zc vs (some (.pointer (some ⟨w'.heap.size, 0, none⟩))) (w'.alloc (.cells #[.int .i64 0, .int .i64 0] 25)) := by
  refine ⟨h.b.alloc h.b.size _, h.l, fun v hv => ?_, fun p hp => ?_, fun p v hp hv => ?_⟩
  · obtain ⟨m, e, h1, h2, h3⟩ := h.m v hv
    exact ⟨m, e, h1, fun k => (h2 k).below ((Below.refl _ _).alloc (Nat.le_refl _) _), fun k => (h3 k).below ((Below.refl _ _).alloc (Nat.le_refl _) _)⟩
  · cases hp
    exact ⟨_, rfl, h.b.size, ratB.new w' 0 0⟩
  · cases hp
    obtain ⟨m, e, h1, h2, h3⟩ := h.m v hv
    subst e
    intro e
    have e2 : w'.heap.size = m := by injection e with e; injection e with e; injection e
    have hl := h.l
    have h0 : 0 < vs.length := by
      rcases Nat.eq_zero_or_pos vs.length with k | k
      · rw [List.eq_nil_of_length_eq_zero k] at hv; cases hv
      · exact k
    rcases (show vs.length = 1 ∨ vs.length = 2 by omega) with k | k
    · have := (Array.getElem?_eq_some_iff.1 (h2 k)).1
      omega
    · have := (Array.getElem?_eq_some_iff.1 (h3 k)).1
      omega
/-- The store into the first one. -/
theorem rgC.put {W w' : World} {zb zc : Int} {m : Nat} {og : Option Value} (h : rgC W zb zc [.pointer (some ⟨m, 0, none⟩)] og w') : ∃ w'', (storeVar 25 ⟨m, 0, none⟩ (.agg #[.int .i64 zb, .int .i64 zc])).run Try.prog w' = .ok () w'' ∧ rgC W zb zc ([.pointer (some ⟨m, 0, none⟩)] ++ [undef]) og w'' := by
  obtain ⟨m', e, h1, h2, -⟩ := h.m _ rfl
  cases e
  obtain ⟨w'', r1, r2, r3, r4⟩ := (h2 rfl).store (n := zb) (d := zc)
  refine ⟨w'', r1, r3 h.b h1, by simp, fun v hv => ?_, fun p hp => ?_, fun p v hp hv => ?_⟩
  · cases hv
    exact ⟨m, rfl, h1, fun k => (by simp at k), fun _ => r2⟩
  · obtain ⟨x, e, k1, k2⟩ := h.x p hp
    refine ⟨x, e, k1, r4 (fun k => ?_) k2⟩
    subst k
    exact h.d p _ hp rfl e
  · cases hv
    exact h.d p _ hp rfl
end Go.Proofs.Ytahdlkdiadlgeaa
