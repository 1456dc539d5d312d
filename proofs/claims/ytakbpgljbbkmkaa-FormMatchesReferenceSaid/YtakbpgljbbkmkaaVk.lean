/- Rows of visits and of triples; what appending one member to a call's own slice leaves. -/
import Derived.Test.YtakbpgljbbkmkaaVj
import Derived.Test.YtakbpgljbbkmkaaVi
import Derived.Test.YtakbpgljbbkmkaaVh
import Derived.Test.YtakbpgljbbkmkaaPw
import Derived.Lib.SliceRun
namespace Go.Proofs.Ytakbpgljbbkmkaa
open Go.RowKit

def rowV (b : Fo.V2) : List Value := [.int .i64 b.b, .int .i64 b.p]
def vV (l : List (Fo.V2)) : List Value := l.flatMap rowV
theorem rowV_length (b : Fo.V2) : (rowV b).length = 2 := rfl
theorem vV_length : ∀ l : List (Fo.V2), (vV l).length = l.length * 2
  | [] => rfl
  | b :: l => by
    unfold vV
    rw [List.flatMap_cons, List.length_append, rowV_length, show (l.flatMap rowV).length = l.length * 2 from vV_length l, List.length_cons]
    omega
theorem vV_app (a b : List (Fo.V2)) : vV (a ++ b) = vV a ++ vV b := List.flatMap_append ..
theorem vV_one (s : Fo.V2) : vV [s] = rowV s := by unfold vV; simp
theorem vV_at : ∀ {l : List (Fo.V2)} {k j : Nat}, k < l.length → j < 2 → (vV l)[k * 2 + j]? = (rowV (atV l k))[j]?
  | [], _, _, h, _ => by simp at h
  | b :: l, 0, j, _, hj => by
    unfold vV
    rw [List.flatMap_cons, Nat.zero_mul, Nat.zero_add, List.getElem?_append_left (by rw [rowV_length]; exact hj)]
    rfl
  | b :: l, k + 1, j, hk, hj => by
    have := vV_at (l := l) (k := k) (j := j) (by simpa using hk) hj
    unfold vV at this ⊢
    rw [List.flatMap_cons, List.getElem?_append_right (by rw [rowV_length]; omega), rowV_length, show (k + 1) * 2 + j - 2 = k * 2 + j by omega, this]
    unfold atV
    rw [List.getElem?_cons_succ]
theorem vV_cells (l : List (Fo.V2)) : ∀ u ∈ vV l, u.oneCell' = true := fun u hu => by
  obtain ⟨b, _, hb⟩ := List.mem_flatMap.1 hu
  unfold rowV at hb
  simp only [List.mem_cons, List.not_mem_nil, or_false] at hb
  rcases hb with rfl | rfl <;> rfl
theorem SlV.news {w : World} {l : List (Fo.V2)} {b o : Nat} (h : ∀ k, k < l.length → VAt w b (o + k * 2) (atV l k)) : ∀ j u, (vV l)[j]? = some u → w.cell? ((⟨b, o, none⟩ : Addr).add j) = some u := fun j u hj => by
  have hjl : j < l.length * 2 := by have := (List.getElem?_eq_some_iff.1 hj).1; rwa [vV_length] at this
  have hk : j / 2 < l.length := by omega
  have hm : j % 2 < 2 := Nat.mod_lt _ (by decide)
  have hc := h (j / 2) hk
  have e : j = j / 2 * 2 + j % 2 := by omega
  rw [e, vV_at hk hm] at hj
  rw [addr_off, e, ← Nat.add_assoc]
  generalize j % 2 = m at hm hj
  match m, hm, hj with
  | 0, _, hj => exact hc.c0.trans hj
  | 1, _, hj => exact hc.c1.trans hj
/-- What a call's own slice of these holds. -/
theorem own_V {w : World} {base : Nat} {e : TypeId} {v : Value} {m : Nat} {l : List (Fo.V2)} (h : w.ownsRow base e 2 v m (vV l)) : l.length = m ∧ ∃ A cap, v = .slice A m cap ∧ SlV w A l ∧ (A = none → cap = 0) := by
  have hl : l.length = m := by have := h.1; rw [vV_length] at this; omega
  refine ⟨hl, ?_⟩
  rcases h.2 with ⟨hv, hn⟩ | ⟨b, cap, cur, hv, hb, hg, _⟩
  · subst hn
    exact ⟨none, 0, hv, fun h0 => by omega, fun _ => rfl⟩
  · refine ⟨some ⟨b, 0, none⟩, cap, hv, fun h0 => ⟨b, 0, rfl, (Array.getElem?_eq_some_iff.1 hg).1, fun k hk => ?_⟩, fun h => by cases h⟩
    have f := fun (j : Nat) (hj : j < 2) (u : Value) (hu : (rowV (atV l k))[j]? = some u) => by
      have := h.cells (g := b) (by rw [hv]; rfl) (k * 2 + j) u (by rw [vV_at hk hj]; exact hu)
      rw [addr_off] at this
      exact this
    have f0 := f 0 (by omega) _ rfl 
    have f1 := f 1 (by omega) _ rfl
    rw [← Nat.add_assoc] at f0 f1
    exact ⟨f0, f1⟩
def rowT (b : Fo.T3) : List Value := [.int .i64 b.a, .int .i64 b.b, .int .i64 b.c]
def vT (l : List (Fo.T3)) : List Value := l.flatMap rowT
theorem rowT_length (b : Fo.T3) : (rowT b).length = 3 := rfl
theorem vT_length : ∀ l : List (Fo.T3), (vT l).length = l.length * 3
  | [] => rfl
  | b :: l => by
    unfold vT
    rw [List.flatMap_cons, List.length_append, rowT_length, show (l.flatMap rowT).length = l.length * 3 from vT_length l, List.length_cons]
    omega
theorem vT_app (a b : List (Fo.T3)) : vT (a ++ b) = vT a ++ vT b := List.flatMap_append ..
theorem vT_one (s : Fo.T3) : vT [s] = rowT s := by unfold vT; simp
theorem vT_at : ∀ {l : List (Fo.T3)} {k j : Nat}, k < l.length → j < 3 → (vT l)[k * 3 + j]? = (rowT (Fo.at3 l k))[j]?
  | [], _, _, h, _ => by simp at h
  | b :: l, 0, j, _, hj => by
    unfold vT
    rw [List.flatMap_cons, Nat.zero_mul, Nat.zero_add, List.getElem?_append_left (by rw [rowT_length]; exact hj)]
    rfl
  | b :: l, k + 1, j, hk, hj => by
    have := vT_at (l := l) (k := k) (j := j) (by simpa using hk) hj
    unfold vT at this ⊢
    rw [List.flatMap_cons, List.getElem?_append_right (by rw [rowT_length]; omega), rowT_length, show (k + 1) * 3 + j - 3 = k * 3 + j by omega, this]
    unfold Fo.at3
    rw [List.getElem?_cons_succ]
theorem vT_cells (l : List (Fo.T3)) : ∀ u ∈ vT l, u.oneCell' = true := fun u hu => by
  obtain ⟨b, _, hb⟩ := List.mem_flatMap.1 hu
  unfold rowT at hb
  simp only [List.mem_cons, List.not_mem_nil, or_false] at hb
  rcases hb with rfl | rfl | rfl <;> rfl
theorem SlT.news {w : World} {l : List (Fo.T3)} {b o : Nat} (h : ∀ k, k < l.length → TAt w b (o + k * 3) (Fo.at3 l k)) : ∀ j u, (vT l)[j]? = some u → w.cell? ((⟨b, o, none⟩ : Addr).add j) = some u := fun j u hj => by
  have hjl : j < l.length * 3 := by have := (List.getElem?_eq_some_iff.1 hj).1; rwa [vT_length] at this
  have hk : j / 3 < l.length := by omega
  have hm : j % 3 < 3 := Nat.mod_lt _ (by decide)
  have hc := h (j / 3) hk
  have e : j = j / 3 * 3 + j % 3 := by omega
  rw [e, vT_at hk hm] at hj
  rw [addr_off, e, ← Nat.add_assoc]
  generalize j % 3 = m at hm hj
  match m, hm, hj with
  | 0, _, hj => exact hc.c0.trans hj
  | 1, _, hj => exact hc.c1.trans hj
  | 2, _, hj => exact hc.c2.trans hj
/-- What a call's own slice of these holds. -/
theorem own_T {w : World} {base : Nat} {e : TypeId} {v : Value} {m : Nat} {l : List (Fo.T3)} (h : w.ownsRow base e 3 v m (vT l)) : l.length = m ∧ ∃ A cap, v = .slice A m cap ∧ SlT w A l ∧ (A = none → cap = 0) := by
  have hl : l.length = m := by have := h.1; rw [vT_length] at this; omega
  refine ⟨hl, ?_⟩
  rcases h.2 with ⟨hv, hn⟩ | ⟨b, cap, cur, hv, hb, hg, _⟩
  · subst hn
    exact ⟨none, 0, hv, fun h0 => by omega, fun _ => rfl⟩
  · refine ⟨some ⟨b, 0, none⟩, cap, hv, fun h0 => ⟨b, 0, rfl, (Array.getElem?_eq_some_iff.1 hg).1, fun k hk => ?_⟩, fun h => by cases h⟩
    have f := fun (j : Nat) (hj : j < 3) (u : Value) (hu : (rowT (Fo.at3 l k))[j]? = some u) => by
      have := h.cells (g := b) (by rw [hv]; rfl) (k * 3 + j) u (by rw [vT_at hk hj]; exact hu)
      rw [addr_off] at this
      exact this
    have f0 := f 0 (by omega) _ rfl 
    have f1 := f 1 (by omega) _ rfl 
    have f2 := f 2 (by omega) _ rfl
    rw [← Nat.add_assoc] at f0 f1 f2
    exact ⟨f0, f1, f2⟩
theorem infoVisit : (Try.prog.info? 30).map (fun i => (i.zero, i.size, i.bytes)) = some (some (.agg #[.int .i64 0, .int .i64 0]), 2, 16) := by kernel_rfl
theorem infoCut : (Try.prog.info? 32).map (fun i => (i.zero, i.size, i.bytes)) = some (some (.agg #[.int .i64 0, .int .i64 0, .int .i64 0]), 3, 24) := by kernel_rfl
theorem infoRepeat : (Try.prog.info? 54).map (fun i => (i.zero, i.size, i.bytes)) = some (some (.agg #[.int .i64 0, .int .i64 0, .int .i64 0]), 3, 24) := by kernel_rfl
/-- The classes of worlds in a region that appends one member to a call's own slice: before, with the member's slice made, behind. -/
def apC (sz : Nat) (X : World) (v : Value) (N : Nat) (e : TypeId) (n : Nat) (xs news : List Value) (vs : List Value) (w : World) : Prop :=
  match vs with
  | [] => Below X.heap.size X w
  | [p] => Below X.heap.size X w ∧ ∃ g, p = .slice (some ⟨g, 0, none⟩) 1 1 ∧ X.heap.size ≤ g ∧ g < w.heap.size ∧ ∀ j u, news[j]? = some u → w.cell? ((⟨g, 0, none⟩ : Addr).add j) = some u
  | _ :: v' :: _ => X.grownBy w v.ownBlock ∧ w.ownsRow N e sz v' (n + 1) (xs ++ news)
theorem grown_below {X w w' : World} {row : Option Nat} (h : X.grownBy w row) (hb : Below w.heap.size w w') : X.grownBy w' row :=
  ⟨hb.os.trans h.os, hb.tape.trans h.tape, hb.output.trans h.output, Nat.le_trans h.size hb.size, fun k hk hn => (hb.block k (Nat.lt_of_lt_of_le hk h.size)).trans (h.block k hk hn)⟩
theorem apC.below {sz : Nat} {X : World} {v : Value} {N : Nat} {e : TypeId} {n : Nat} {xs news vs : List Value} {w w' : World} (h : apC sz X v N e n xs news vs w) (hb : Below w.heap.size w w') (_hX : Below X.heap.size X w → X.heap.size ≤ w.heap.size := fun h => h.size) : apC sz X v N e n xs news vs w' := by
  match vs, h with
  | [], h => exact Below.trans h (Below.mono hb (Below.size h))
  | [p], ⟨h, g, hp, h1, h2, h3⟩ =>
    refine ⟨h.trans (hb.mono h.size), g, hp, h1, Nat.lt_of_lt_of_le h2 hb.size, fun j u hj => ?_⟩
    have := h3 j u hj
    rw [Addr.add_lit] at this ⊢
    exact (hb.cell (p := ⟨g, 0 + j, none⟩) h2).trans this
  | p :: v' :: r, ⟨h1, h2⟩ => exact ⟨grown_below h1 hb, h2.kept (below_grown hb none) none_ne⟩
theorem apC.grown {sz : Nat} {X : World} {v : Value} {N : Nat} {e : TypeId} {n : Nat} {xs news vs : List Value} {w : World} (h : apC sz X v N e n xs news vs w) : X.grownBy w v.ownBlock := by
  match vs, h with
  | [], h => exact below_grown h _
  | [p], ⟨h, _⟩ => exact below_grown h _
  | p :: v' :: r, ⟨h1, h2⟩ => exact h1
theorem apC.cell {sz : Nat} {X : World} {v : Value} {N : Nat} {e : TypeId} {n : Nat} {xs news vs : List Value} {w : World} (h : apC sz X v N e n xs news vs w) {b o : Nat} {u : Value} (hne : v.ownBlock ≠ some b) (hc : X.cell? ⟨b, o, none⟩ = some u) : w.cell? ⟨b, o, none⟩ = some u :=
  (World.cell?_of_block (w := X) (a := ⟨b, o, none⟩) (h.grown.block b (World.block_lt_of_cell? _ _ hc) (fun e => hne e.symm))).trans hc

section
variable {P : Program} (w : World)
/-- Appending to an empty slice that has no room is appending to a nil one. -/
theorem append_zero (t ty e : TypeId) (i : TypeInfo) (z : Value) (ht : P.underlying t = some (.slice e)) (hi : P.info? e = some i) (hz : i.zero = some z) (b : Addr)
    (a : Addr) (n c : Nat) (news : List Value) (hl : news.length = n * i.size) (hnews : ∀ j v, news[j]? = some v → w.cell? (a.add j) = some v) (h0 : 0 < n) (h63 : (n : Int) ≤ 9223372036854775807) (h48 : n * i.bytes ≤ 140737488355328) :
    (Builtin.append_ #[t, t] ty #[.slice (some b) 0 0, .slice (some a) n c]).run P w = (Builtin.append_ #[t, t] ty #[.slice none 0 0, .slice (some a) n c]).run P w := by
  have h1 := run_append_nil (P := P) w t ty e i z ht hi hz a n c news hl hnews h0 h63 (by omega)
  have h2 := run_append_grow (P := P) w t ty e i z ht hi hz b 0 0 [] (by simp) (fun j v hj => by simp at hj) a n c news hl hnews (by omega) (by simpa using h63) (by rw [Nat.zero_add, nextslicecap_zero h0]; omega)
  rw [h1, h2]
  simp
/-- What appending one member gives: to such a slice, or to one that the call owns. -/
theorem run_append_ap (N : Nat) (t ty e : TypeId) (i : TypeInfo) (z : Value) (size bytes : Nat) (ht : P.underlying t = some (.slice e)) (hi : P.info? e = some i) (hz : i.zero = some z) (hsize : i.size = size) (hby : i.bytes = bytes) (hzs : z.cells.size = size) (hsz : 0 < size)
    (v : Value) (n : Nat) (xs : List Value) (hst : (∃ b, v = .slice (some b) 0 0 ∧ n = 0 ∧ xs = []) ∨ w.ownsRow N e size v n xs)
    (a : Addr) (c : Nat) (news : List Value) (hl : news.length = 1 * size) (hnews : ∀ j u, news[j]? = some u → w.cell? (a.add j) = some u) (h1 : ∀ u ∈ news, u.oneCell' = true)
    (h63 : n + 1 ≤ maxLen) (hbytes : (n + 1) * bytes ≤ 140737488355328) (hN : N ≤ w.heap.size) :
    ∃ v' w', (Builtin.append_ #[t, t] ty #[v, .slice (some a) 1 c]).run P w = .ok v' w' ∧ w'.ownsRow N e size v' (n + 1) (xs ++ news) ∧ w.grownBy w' v.ownBlock := by
  rcases hst with ⟨b, rfl, rfl, rfl⟩ | hown
  · obtain ⟨v', w', hr, h2, h3, _⟩ := run_append_own (P := P) w N t ty e i z size bytes ht hi hz hsize hby hzs hsz (.slice none 0 0) 0 [] (World.ownsRow_nil _ _ _ _) a 1 c news hl hnews h1 h63 hbytes hN
    refine ⟨v', w', ?_, h2, ⟨h3.os, h3.tape, h3.output, h3.size, fun k hk _ => h3.block k hk (by simp [Value.ownBlock])⟩⟩
    rw [append_zero (P := P) w t ty e i z ht hi hz b a 1 c news (by rw [hsize]; exact hl) hnews (by omega) (by omega) (by rw [hby]; simpa using hbytes)]
    exact hr
  · obtain ⟨v', w', hr, h2, h3, _⟩ := run_append_own (P := P) w N t ty e i z size bytes ht hi hz hsize hby hzs hsz v n xs hown a 1 c news hl hnews h1 h63 hbytes hN
    exact ⟨v', w', hr, h2, h3⟩
end
theorem ap_exec {P : Program} {w w' : World} {o : Oper} {a : Act} {s x : Operand} {t : TypeId} (ho : o.op = .call { callee := .builtin .append, args := #[s, x], argTypes := #[t, t] }) {v y v' : Value} (hs : a.eval s = v) (hx : a.eval x = y)
    (hr : (Builtin.append_ #[t, t] o.type #[v, y]).run P w = .ok v' w') : (execOp a.eval o).run P w = .ok (.value v') w' := by
  unfold execOp
  simp only [ho, resolve, invoke, builtin, Sem.run_bind, Sem.run_pure, Result.andThen_ok, List.map_toArray, List.map_cons, List.map_nil, hs, hx, hr]
end Go.Proofs.Ytakbpgljbbkmkaa
