import Derived.Test.YtahdlkdiadlgeaaGAF
import Derived.Maps.AppendAt
import Derived.Laws.OwnMore
import Derived.Laws.AppendOwnNone
/- Slices: of integers of any kind, of natural numbers (bytes), of slices; rows that a call owns, and rows that can be written. -/
namespace Go.Proofs.Ytahdlkdiadlgeaa
open Go.RowKit

def atI (g : List Int) (i : Nat) : Int := g[i]?.getD 0
theorem atI_eq {g : List Int} {i : Nat} (h : i < g.length) : atI g i = g[i] := by unfold atI; rw [List.getElem?_eq_getElem h]; rfl
def atN (g : List Nat) (i : Nat) : Nat := g[i]?.getD 0
theorem atN_eq {g : List Nat} {i : Nat} (h : i < g.length) : atN g i = g[i] := by unfold atN; rw [List.getElem?_eq_getElem h]; rfl
def atL (l : List (List Int)) (i : Nat) : List Int := l[i]?.getD []
theorem atL_eq {l : List (List Int)} {i : Nat} (h : i < l.length) : atL l i = l[i] := by unfold atL; rw [List.getElem?_eq_getElem h]; rfl
theorem addr_add (b j : Nat) : (⟨b, 0, none⟩ : Addr).add j = ⟨b, j, none⟩ := by unfold Addr.add; split <;> simp_all
theorem addr_off (b o j : Nat) : (⟨b, o, none⟩ : Addr).add j = ⟨b, o + j, none⟩ := by unfold Addr.add; split <;> simp_all

/-- At this address lie these integers of this kind (nothing is said where there are none). -/
def SlK (k : IntKind) (w : World) (A : Option Addr) (g : List Int) : Prop :=
  0 < g.length → ∃ b off, A = some ⟨b, off, none⟩ ∧ b < w.heap.size ∧ ∀ i, i < g.length → w.cell? ⟨b, off + i, none⟩ = some (.int k (atI g i))
def SlN (k : IntKind) (w : World) (A : Option Addr) (g : List Nat) : Prop :=
  0 < g.length → ∃ b off, A = some ⟨b, off, none⟩ ∧ b < w.heap.size ∧ ∀ i, i < g.length → w.cell? ⟨b, off + i, none⟩ = some (.int k (atN g i : Int))
/-- At this address lie slices with these integers. -/
def SlL (w : World) (A : Option Addr) (l : List (List Int)) : Prop :=
  0 < l.length → ∃ b off, A = some ⟨b, off, none⟩ ∧ b < w.heap.size ∧ ∀ i, i < l.length → ∃ C cap, w.cell? ⟨b, off + i, none⟩ = some (.slice C (atL l i).length cap) ∧ SlK .i64 w C (atL l i) ∧ (C = none → cap = 0)
theorem SlK.below {k : IntKind} {w w' : World} {A : Option Addr} {g : List Int} (h : SlK k w A g) (hb : Below w.heap.size w w') : SlK k w' A g := fun h0 => by
  obtain ⟨b, off, e, hlt, hc⟩ := h h0
  exact ⟨b, off, e, Nat.lt_of_lt_of_le hlt hb.size, fun i hi => (hb.cell (p := ⟨b, off + i, none⟩) hlt).trans (hc i hi)⟩
theorem SlN.below {k : IntKind} {w w' : World} {A : Option Addr} {g : List Nat} (h : SlN k w A g) (hb : Below w.heap.size w w') : SlN k w' A g := fun h0 => by
  obtain ⟨b, off, e, hlt, hc⟩ := h h0
  exact ⟨b, off, e, Nat.lt_of_lt_of_le hlt hb.size, fun i hi => (hb.cell (p := ⟨b, off + i, none⟩) hlt).trans (hc i hi)⟩
theorem SlL.below {w w' : World} {A : Option Addr} {l : List (List Int)} (h : SlL w A l) (hb : Below w.heap.size w w') : SlL w' A l := fun h0 => by
  obtain ⟨b, off, e, hlt, hc⟩ := h h0
  refine ⟨b, off, e, Nat.lt_of_lt_of_le hlt hb.size, fun i hi => ?_⟩
  obtain ⟨C, cap, h1, h2, h3⟩ := hc i hi
  exact ⟨C, cap, (hb.cell (p := ⟨b, off + i, none⟩) hlt).trans h1, h2.below hb, h3⟩
theorem SlK.alloc {k : IntKind} {w : World} {A : Option Addr} {g : List Int} (h : SlK k w A g) (o : Obj) : SlK k (w.alloc o) A g := h.below ((Below.refl _ _).alloc (Nat.le_refl _) _)
theorem SlN.alloc {k : IntKind} {w : World} {A : Option Addr} {g : List Nat} (h : SlN k w A g) (o : Obj) : SlN k (w.alloc o) A g := h.below ((Below.refl _ _).alloc (Nat.le_refl _) _)
theorem SlL.alloc {w : World} {A : Option Addr} {l : List (List Int)} (h : SlL w A l) (o : Obj) : SlL (w.alloc o) A l := h.below ((Below.refl _ _).alloc (Nat.le_refl _) _)
theorem SlK.nil (k : IntKind) (w : World) (A : Option Addr) : SlK k w A [] := fun h => by simp at h
theorem SlN.nil (k : IntKind) (w : World) (A : Option Addr) : SlN k w A [] := fun h => by simp at h
theorem SlL.nil (w : World) (A : Option Addr) : SlL w A [] := fun h => by simp at h
theorem below_grown {a b : World} (h : Below a.heap.size a b) (row : Option Nat) : a.grownBy b row :=
  ⟨h.os, h.tape, h.output, h.size, fun i hi _ => h.block i hi⟩
theorem none_below {a b : World} (h : a.grownBy b none) : Below a.heap.size a b := ⟨h.os, h.tape, h.output, h.size, fun i hi => h.block i hi (by simp)⟩
theorem none_ne {v : Value} : v.ownBlock = none ∨ v.ownBlock ≠ none := by cases v.ownBlock <;> simp
theorem own_ne {w : World} {base : Nat} {e : TypeId} {size : Nat} {v : Value} {n : Nat} {xs : List Value} (h : w.ownsRow base e size v n xs) : ∀ j, v.ownBlock = some j → base ≤ j := fun j hj => (h.lt j hj).1
/-- The integers of this kind, the natural numbers, as values. -/
def vK (k : IntKind) (g : List Int) : List Value := g.map (Value.int k)
def vN (k : IntKind) (g : List Nat) : List Value := g.map fun (x : Nat) => Value.int k (x : Int)
theorem vK_at {k : IntKind} {g : List Int} {i : Nat} (h : i < g.length) : (vK k g)[i]? = some (.int k (atI g i)) := by unfold vK; rw [List.getElem?_map, List.getElem?_eq_getElem h, atI_eq h]; rfl
theorem vN_at {k : IntKind} {g : List Nat} {i : Nat} (h : i < g.length) : (vN k g)[i]? = some (.int k (atN g i : Int)) := by unfold vN; rw [List.getElem?_map, List.getElem?_eq_getElem h, atN_eq h]; rfl
theorem vK_app (k : IntKind) (a b : List Int) : vK k (a ++ b) = vK k a ++ vK k b := List.map_append ..
theorem vN_app (k : IntKind) (a b : List Nat) : vN k (a ++ b) = vN k a ++ vN k b := List.map_append ..
theorem vK_length (k : IntKind) (g : List Int) : (vK k g).length = g.length := List.length_map ..
theorem vN_length (k : IntKind) (g : List Nat) : (vN k g).length = g.length := List.length_map ..
theorem vK_one (k : IntKind) (g : List Int) : ∀ u ∈ vK k g, u.oneCell' = true := ints_oneCell k g
theorem vN_one (k : IntKind) (g : List Nat) : ∀ u ∈ vN k g, u.oneCell' = true := fun u hu => by
  obtain ⟨x, _, rfl⟩ := List.mem_map.1 hu
  rfl
/-- What a call's own slice holds. -/
theorem own_k {k : IntKind} {w : World} {base : Nat} {e : TypeId} {v : Value} {n : Nat} {g : List Int} (h : w.ownsRow base e 1 v n (vK k g)) : g.length = n ∧ ∃ A cap, v = .slice A n cap ∧ SlK k w A g := by
  have hl : g.length = n := by have := h.1; rw [vK_length] at this; omega
  refine ⟨hl, ?_⟩
  rcases h.2 with ⟨hv, hn⟩ | ⟨b, cap, cur, hv, hb, hg, _⟩
  · subst hn
    exact ⟨none, 0, hv, fun h0 => by omega⟩
  · refine ⟨some ⟨b, 0, none⟩, cap, hv, fun h0 => ⟨b, 0, rfl, (Array.getElem?_eq_some_iff.1 hg).1, fun i hi => ?_⟩⟩
    have := h.cells (g := b) (by rw [hv]; rfl) i _ (vK_at hi)
    rw [addr_add] at this
    rwa [Nat.zero_add]
theorem own_n {k : IntKind} {w : World} {base : Nat} {e : TypeId} {v : Value} {n : Nat} {g : List Nat} (h : w.ownsRow base e 1 v n (vN k g)) : g.length = n ∧ ∃ A cap, v = .slice A n cap ∧ SlN k w A g := by
  have hl : g.length = n := by have := h.1; rw [vN_length] at this; omega
  refine ⟨hl, ?_⟩
  rcases h.2 with ⟨hv, hn⟩ | ⟨b, cap, cur, hv, hb, hg, _⟩
  · subst hn
    exact ⟨none, 0, hv, fun h0 => by omega⟩
  · refine ⟨some ⟨b, 0, none⟩, cap, hv, fun h0 => ⟨b, 0, rfl, (Array.getElem?_eq_some_iff.1 hg).1, fun i hi => ?_⟩⟩
    have := h.cells (g := b) (by rw [hv]; rfl) i _ (vN_at hi)
    rw [addr_add] at this
    rwa [Nat.zero_add]
/-- What lies at an address, as it is handed to append. -/
theorem SlK.news {k : IntKind} {w : World} {b o : Nat} {g : List Int} (h : ∀ i, i < g.length → w.cell? ⟨b, o + i, none⟩ = some (.int k (atI g i))) : ∀ j u, (vK k g)[j]? = some u → w.cell? ((⟨b, o, none⟩ : Addr).add j) = some u := fun j u hj => by
  have hjl : j < g.length := by have := (List.getElem?_eq_some_iff.1 hj).1; rwa [vK_length] at this
  rw [addr_off, h j hjl, ← hj, vK_at hjl]
theorem SlN.news {k : IntKind} {w : World} {b o : Nat} {g : List Nat} (h : ∀ i, i < g.length → w.cell? ⟨b, o + i, none⟩ = some (.int k (atN g i : Int))) : ∀ j u, (vN k g)[j]? = some u → w.cell? ((⟨b, o, none⟩ : Addr).add j) = some u := fun j u hj => by
  have hjl : j < g.length := by have := (List.getElem?_eq_some_iff.1 hj).1; rwa [vN_length] at this
  rw [addr_off, h j hjl, ← hj, vN_at hjl]
/-- 'append(own, x...)', x a slice of such integers, nil or not. -/
theorem append_slk {P : Program} {w : World} {ops : Array Oper} {rest : List Oper} {o : Oper} {a : Act} {Q : Exit → Act → World → Prop} (k : IntKind) (hgd : o.guard = none) (s x : Operand) (t : TypeId)
    (ho : o.op = .call { callee := .builtin .append, args := #[s, x], argTypes := #[t, t] })
    (base : Nat) (e : TypeId) (i : TypeInfo) (z : Value) (bytes : Nat) (ht : P.underlying t = some (.slice e)) (hi : P.info? e = some i) (hz : i.zero = some z)
    (hsize : i.size = 1) (hby : i.bytes = bytes) (hzs : z.cells.size = 1)
    (v : Value) (n : Nat) (xs : List Value) (hs : a.eval s = v) (hown : w.ownsRow base e 1 v n xs)
    (A : Option Addr) (m c : Nat) (g : List Int) (hx : a.eval x = .slice A m c) (hA : A = none → c = 0) (hg : g.length = m) (hL : SlK k w A g)
    (h63 : n + m ≤ maxLen) (hbytes : (n + m) * bytes ≤ 140737488355328) (hbase : base ≤ w.heap.size)
    (h : ∀ v' w', w'.ownsRow base e 1 v' (n + m) (xs ++ vK k g) → w.grownBy w' v.ownBlock → wpList P ops Q rest (a.put o.dst v') w') : wpList P ops Q (o :: rest) a w := by
  subst hg
  cases A with
  | none =>
    obtain rfl := hA rfl
    have h0 : g = [] := by
      cases g with
      | nil => rfl
      | cons y r =>
        obtain ⟨b, off, hb, _⟩ := hL (by simp)
        cases hb
    subst h0
    exact wpList_append_own_none hgd s x t ho base e i 1 ht hi v n xs hs hown hx (h v w (by simpa [vK] using hown) ⟨rfl, rfl, rfl, Nat.le_refl _, fun _ _ _ => rfl⟩)
  | some ad =>
    refine wpList_append_own w hgd s x t ho base e i z 1 bytes ht hi hz hsize hby hzs (by omega) v n xs hs hown ad g.length c (vK k g) hx (by rw [vK_length]; omega) ?_ (vK_one k g) h63 hbytes hbase fun v' w' h1 h2 _ => h v' w' h1 h2
    cases g with
    | nil => intro j u hj; simp [vK] at hj
    | cons y r =>
      obtain ⟨b, off, hb, _, hc⟩ := hL (by simp)
      cases hb
      exact SlK.news hc
/-- 'append(own, x...)', x a slice of such numbers, nil or not. -/
theorem append_sln {P : Program} {w : World} {ops : Array Oper} {rest : List Oper} {o : Oper} {a : Act} {Q : Exit → Act → World → Prop} (k : IntKind) (hgd : o.guard = none) (s x : Operand) (t : TypeId)
    (ho : o.op = .call { callee := .builtin .append, args := #[s, x], argTypes := #[t, t] })
    (base : Nat) (e : TypeId) (i : TypeInfo) (z : Value) (bytes : Nat) (ht : P.underlying t = some (.slice e)) (hi : P.info? e = some i) (hz : i.zero = some z)
    (hsize : i.size = 1) (hby : i.bytes = bytes) (hzs : z.cells.size = 1)
    (v : Value) (n : Nat) (xs : List Value) (hs : a.eval s = v) (hown : w.ownsRow base e 1 v n xs)
    (A : Option Addr) (m c : Nat) (g : List Nat) (hx : a.eval x = .slice A m c) (hA : A = none → c = 0) (hg : g.length = m) (hL : SlN k w A g)
    (h63 : n + m ≤ maxLen) (hbytes : (n + m) * bytes ≤ 140737488355328) (hbase : base ≤ w.heap.size)
    (h : ∀ v' w', w'.ownsRow base e 1 v' (n + m) (xs ++ vN k g) → w.grownBy w' v.ownBlock → wpList P ops Q rest (a.put o.dst v') w') : wpList P ops Q (o :: rest) a w := by
  subst hg
  cases A with
  | none =>
    obtain rfl := hA rfl
    have h0 : g = [] := by
      cases g with
      | nil => rfl
      | cons y r =>
        obtain ⟨b, off, hb, _⟩ := hL (by simp)
        cases hb
    subst h0
    exact wpList_append_own_none hgd s x t ho base e i 1 ht hi v n xs hs hown hx (h v w (by simpa [vN] using hown) ⟨rfl, rfl, rfl, Nat.le_refl _, fun _ _ _ => rfl⟩)
  | some ad =>
    refine wpList_append_own w hgd s x t ho base e i z 1 bytes ht hi hz hsize hby hzs (by omega) v n xs hs hown ad g.length c (vN k g) hx (by rw [vN_length]; omega) ?_ (vN_one k g) h63 hbytes hbase fun v' w' h1 h2 _ => h v' w' h1 h2
    cases g with
    | nil => intro j u hj; simp [vN] at hj
    | cons y r =>
      obtain ⟨b, off, hb, _, hc⟩ := hL (by simp)
      cases hb
      exact SlN.news hc
/-- A row of integers of this kind, all of it, that can be written. -/
structure RowC (k : IntKind) (w : World) (S : Nat) (g : List Int) : Prop where
  lt : S < w.heap.size
  cell : ∀ j, j < g.length → w.cell? ⟨S, j, none⟩ = some (.int k (atI g j))
  free : ∀ j, w.frozen? ⟨S, j, none⟩ = false
theorem RowC.put {k : IntKind} {w : World} {S : Nat} {g : List Int} (h : RowC k w S g) (i : Nat) (x : Int) (hi : i < g.length) : RowC k (w.setCell ⟨S, i, none⟩ (.int k x)) S (g.set i x) := by
  refine ⟨by simpa using h.lt, fun j hj => ?_, fun j => (World.frozen?_setCell ..).trans (h.free j)⟩
  rw [List.length_set] at hj
  unfold atI
  rw [List.getElem?_set]
  by_cases e : j = i
  · subst e
    rw [if_pos rfl, if_pos hi]
    exact World.cell?_setCell_same w _ _ (h.cell j hj)
  · rw [if_neg (fun e2 => e e2.symm)]
    exact (World.cell?_setCell_other (w := w) (a := ⟨S, i, none⟩) (b := ⟨S, j, none⟩) (v := .int k x) (fun e2 => by cases e2; exact e rfl)).trans (h.cell j hj)
theorem RowC.sl {k : IntKind} {w : World} {S : Nat} {g : List Int} (h : RowC k w S g) : SlK k w (some ⟨S, 0, none⟩) g := fun _ =>
  ⟨S, 0, rfl, h.lt, fun i hi => by rw [Nat.zero_add]; exact h.cell i hi⟩
theorem own_rowC {k : IntKind} {w : World} {base : Nat} {e : TypeId} {v : Value} {n : Nat} {g : List Int} (h : w.ownsRow base e 1 v n (vK k g)) (h0 : 0 < n) : g.length = n ∧ ∃ S cap, v = .slice (some ⟨S, 0, none⟩) n cap ∧ base ≤ S ∧ RowC k w S g := by
  have hl : g.length = n := by have := h.1; rw [vK_length] at this; omega
  refine ⟨hl, ?_⟩
  rcases h.2 with ⟨_, hn⟩ | ⟨b, cap, cur, rfl, hb, hg, _⟩
  · omega
  · refine ⟨b, cap, rfl, hb, (Array.getElem?_eq_some_iff.1 hg).1, fun j hj => ?_, fun j => h.frozenAt j⟩
    have := h.cells (g := b) rfl j _ (vK_at hj)
    rw [addr_add] at this
    exact this
def up (g : List Nat) : List Int := g.map fun (x : Nat) => (x : Int)
theorem up_length (g : List Nat) : (up g).length = g.length := List.length_map ..
theorem up_at {g : List Nat} {i : Nat} (h : i < g.length) : atI (up g) i = (atN g i : Int) := by unfold up; rw [atN_eq h, atI_eq (by simpa using h), List.getElem_map]
theorem up_set (g : List Nat) (i y : Nat) : (up g).set i (y : Int) = up (g.set i y) := by unfold up; rw [List.map_set]
theorem vN_up (k : IntKind) (g : List Nat) : vN k g = vK k (up g) := by unfold vN vK up; rw [List.map_map]; rfl
theorem SlK.down {k : IntKind} {w : World} {A : Option Addr} {g : List Nat} (h : SlK k w A (up g)) : SlN k w A g := fun h0 => by
  obtain ⟨b, off, e, hb, hc⟩ := h (by rw [up_length]; exact h0)
  exact ⟨b, off, e, hb, fun i hi => by rw [hc i (by rw [up_length]; exact hi), up_at hi]⟩
/-- Values that are slices with these integers. -/
def IsL (w : World) (xs : List Value) (l : List (List Int)) : Prop :=
  xs.length = l.length ∧ ∀ i, i < l.length → ∃ C cap, xs[i]? = some (.slice C (atL l i).length cap) ∧ SlK .i64 w C (atL l i) ∧ (C = none → cap = 0)
theorem IsL.below {w w' : World} {xs : List Value} {l : List (List Int)} (h : IsL w xs l) (hb : Below w.heap.size w w') : IsL w' xs l :=
  ⟨h.1, fun i hi => by
    obtain ⟨C, cap, h1, h2, h3⟩ := h.2 i hi
    exact ⟨C, cap, h1, h2.below hb, h3⟩⟩
theorem IsL.app {w : World} {xs ys : List Value} {l m : List (List Int)} (h : IsL w xs l) (k : IsL w ys m) : IsL w (xs ++ ys) (l ++ m) := by
  refine ⟨by rw [List.length_append, List.length_append, h.1, k.1], fun i hi => ?_⟩
  rw [List.length_append] at hi
  by_cases e : i < l.length
  · obtain ⟨C, cap, h1, h2⟩ := h.2 i e
    have ea : atL (l ++ m) i = atL l i := by unfold atL; rw [List.getElem?_append_left e]
    rw [ea]
    exact ⟨C, cap, by rw [List.getElem?_append_left (by rw [h.1]; exact e)]; exact h1, h2⟩
  · obtain ⟨C, cap, h1, h2⟩ := k.2 (i - l.length) (by omega)
    have ea : atL (l ++ m) i = atL m (i - l.length) := by unfold atL; rw [List.getElem?_append_right (by omega)]
    rw [ea]
    exact ⟨C, cap, by rw [List.getElem?_append_right (by rw [h.1]; omega), h.1]; exact h1, h2⟩
theorem IsL.one {w : World} {C : Option Addr} {n cap : Nat} {g : List Int} (hg : g.length = n) (h : SlK .i64 w C g) (hC : C = none → cap = 0) : IsL w [.slice C n cap] [g] :=
  ⟨rfl, fun i hi => by
    have : i = 0 := by simp at hi; omega
    subst this
    exact ⟨C, cap, by rw [← hg]; rfl, h, hC⟩⟩
theorem IsL.oneCell {w : World} {xs : List Value} {l : List (List Int)} (h : IsL w xs l) : ∀ u ∈ xs, u.oneCell' = true := fun u hu => by
  obtain ⟨i, hi, e⟩ := List.mem_iff_getElem.1 hu
  obtain ⟨C, cap, h1, _⟩ := h.2 i (by rw [← h.1]; exact hi)
  rw [List.getElem?_eq_getElem hi, e] at h1
  rw [Option.some.inj h1]
  rfl
/-- The values that lie there, as they are handed to append. -/
theorem SlL.values {w : World} {A : Option Addr} {l : List (List Int)} (h : SlL w A l) : ∃ xs, IsL w xs l ∧ ∀ ad, A = some ad → ∀ w', Below w.heap.size w w' → ∀ j u, xs[j]? = some u → w'.cell? (ad.add j) = some u := by
  by_cases h0 : 0 < l.length
  · obtain ⟨b, off, rfl, hb, hc⟩ := h h0
    refine ⟨(List.range l.length).map fun i => (w.cell? ⟨b, off + i, none⟩).getD (.slice none 0 0), ⟨by simp, fun i hi => ?_⟩, fun ad e w' hw j u hj => ?_⟩
    · obtain ⟨C, cap, h1, h2⟩ := hc i hi
      exact ⟨C, cap, by rw [List.getElem?_map, List.getElem?_range hi, Option.map_some, h1]; rfl, h2⟩
    · cases e
      have hjl : j < l.length := by have := (List.getElem?_eq_some_iff.1 hj).1; simpa using this
      obtain ⟨C, cap, h1, h2⟩ := hc j hjl
      rw [List.getElem?_map, List.getElem?_range hjl, Option.map_some, h1] at hj
      rw [addr_off, (hw.cell (p := ⟨b, off + j, none⟩) hb), h1]
      exact hj
  · have : l = [] := List.eq_nil_of_length_eq_zero (by omega)
    subst this
    exact ⟨[], ⟨rfl, fun i hi => by simp at hi⟩, fun ad _ w' _ j u hj => by simp at hj⟩
/-- 'append(own, x...)', x a slice of any values, nil or not. -/
theorem append_vals {P : Program} {w : World} {ops : Array Oper} {rest : List Oper} {o : Oper} {a : Act} {Q : Exit → Act → World → Prop} (hgd : o.guard = none) (s x : Operand) (t : TypeId)
    (ho : o.op = .call { callee := .builtin .append, args := #[s, x], argTypes := #[t, t] })
    (base : Nat) (e : TypeId) (i : TypeInfo) (z : Value) (bytes : Nat) (ht : P.underlying t = some (.slice e)) (hi : P.info? e = some i) (hz : i.zero = some z)
    (hsize : i.size = 1) (hby : i.bytes = bytes) (hzs : z.cells.size = 1)
    (v : Value) (n : Nat) (xs : List Value) (hs : a.eval s = v) (hown : w.ownsRow base e 1 v n xs)
    (A : Option Addr) (m c : Nat) (news : List Value) (hx : a.eval x = .slice A m c) (hA : A = none → c = 0 ∧ m = 0) (hg : news.length = m)
    (hnews : ∀ ad, A = some ad → ∀ j u, news[j]? = some u → w.cell? (ad.add j) = some u) (h1 : ∀ u ∈ news, u.oneCell' = true)
    (h63 : n + m ≤ maxLen) (hbytes : (n + m) * bytes ≤ 140737488355328) (hbase : base ≤ w.heap.size)
    (h : ∀ v' w', w'.ownsRow base e 1 v' (n + m) (xs ++ news) → w.grownBy w' v.ownBlock → wpList P ops Q rest (a.put o.dst v') w') : wpList P ops Q (o :: rest) a w := by
  subst hg
  cases A with
  | none =>
    obtain ⟨rfl, h0⟩ := hA rfl
    have : news = [] := List.eq_nil_of_length_eq_zero h0
    subst this
    exact wpList_append_own_none hgd s x t ho base e i 1 ht hi v n xs hs hown hx (h v w (by simpa using hown) ⟨rfl, rfl, rfl, Nat.le_refl _, fun _ _ _ => rfl⟩)
  | some ad => exact wpList_append_own w hgd s x t ho base e i z 1 bytes ht hi hz hsize hby hzs (by omega) v n xs hs hown ad news.length c news hx (by omega) (hnews ad rfl) h1 h63 hbytes hbase fun v' w' h1 h2 _ => h v' w' h1 h2
/-- What a call's own slice of slices holds. -/
theorem own_l {w : World} {base : Nat} {e : TypeId} {v : Value} {n : Nat} {xs : List Value} {l : List (List Int)} (h : w.ownsRow base e 1 v n xs) (hI : IsL w xs l) : l.length = n ∧ ∃ A cap, v = .slice A n cap ∧ SlL w A l := by
  have hl : l.length = n := by have := h.1; have := hI.1; omega
  refine ⟨hl, ?_⟩
  rcases h.2 with ⟨hv, hn⟩ | ⟨b, cap, cur, hv, hb, hg, _⟩
  · subst hn
    exact ⟨none, 0, hv, fun h0 => by omega⟩
  · refine ⟨some ⟨b, 0, none⟩, cap, hv, fun h0 => ⟨b, 0, rfl, (Array.getElem?_eq_some_iff.1 hg).1, fun i hi => ?_⟩⟩
    obtain ⟨C, cc, h1, h2⟩ := hI.2 i hi
    have := h.cells (g := b) (by rw [hv]; rfl) i _ h1
    rw [addr_add] at this
    exact ⟨C, cc, by rwa [Nat.zero_add], h2⟩
theorem SlL.none_len {w : World} {A : Option Addr} {l : List (List Int)} {n c : Nat} (h : SlL w A l) (hl : l.length = n) (hA : A = none → c = 0) : A = none → c = 0 ∧ n = 0 := fun e => ⟨hA e, by
  rcases Nat.eq_zero_or_pos n with h0 | h0
  · exact h0
  · obtain ⟨b, off, e2, _⟩ := h (by omega)
    rw [e2] at e
    cases e⟩
end Go.Proofs.Ytahdlkdiadlgeaa
