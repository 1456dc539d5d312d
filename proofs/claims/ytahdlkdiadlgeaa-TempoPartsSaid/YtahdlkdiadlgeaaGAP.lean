import Derived.Test.YtahdlkdiadlgeaaGAM
import Derived.Test.YtahdlkdiadlgeaaGAO
import Derived.Test.YtahdlkdiadlgeaaGAF
import Derived.Lib.SliceRun
/- Rows of visits and of triples; what appending one member to a call's own slice leaves. -/
namespace Go.Proofs.Ytahdlkdiadlgeaa
open Go.RowKit

def rowV (b : Fo.V2) : List Value := [.int .i64 b.b, .int .i64 b.p]
def vV (l : List (Fo.V2)) : List Value := l.flatMap rowV
theorem rowV_length (b : Fo.V2) : (rowV b).length = 2 := rfl
theorem vV_length : ∀ l : List (Fo.V2), (vV l).length = l.length * 2
  | [] => rfl
  | b :: l => by
    unfold vV
    rw [List.flatMap_cons, List.length_append, rowV_length, show (l.flatMap rowV).length = l.length * 2 from vV_length l, List.length_cons]
    omega
theorem vV_app (a b : List (Fo.V2)) : vV (a ++ b) = vV a ++ vV b := List.flatMap_append ..
theorem vV_one (s : Fo.V2) : vV [s] = rowV s := by unfold vV; simp
theorem vV_at : ∀ {l : List (Fo.V2)} {k j : Nat}, k < l.length → j < 2 → (vV l)[k * 2 + j]? = (rowV (atV l k))[j]?
  | [], _, _, h, _ => by simp at h
  | b :: l, 0, j, _, hj => by
    unfold vV
    rw [List.flatMap_cons, Nat.zero_mul, Nat.zero_add, List.getElem?_append_left (by rw [rowV_length]; exact hj)]
    rfl
  | b :: l, k + 1, j, hk, hj => by
    have := vV_at (l := l) (k := k) (j := j) (by simpa using hk) hj
    unfold vV at this ⊢
    rw [List.flatMap_cons, List.getElem?_append_right (by rw [rowV_length]; omega), rowV_length, show (k + 1) * 2 + j - 2 = k * 2 + j by omega, this]
    unfold atV
    rw [List.getElem?_cons_succ]
theorem vV_cells (l : List (Fo.V2)) : ∀ u ∈ vV l, u.oneCell' = true := fun u hu => by
  obtain ⟨b, _, hb⟩ := List.mem_flatMap.1 hu
  unfold rowV at hb
  simp only [List.mem_cons, List.not_mem_nil, or_false] at hb
  rcases hb with rfl | rfl <;> rfl
theorem SlV.news {w : World} {l : List (Fo.V2)} {b o : Nat} (h : ∀ k, k < l.length → VAt w b (o + k * 2) (atV l k)) : ∀ j u, (vV l)[j]? = some u → w.cell? ((⟨b, o, none⟩ : Addr).add j) = some u := fun j u hj => by
  have hjl : j < l.length * 2 := by have := (List.getElem?_eq_some_iff.1 hj).1; rwa [vV_length] at this
  have hk : j / 2 < l.length := by omega
  have hm : j % 2 < 2 := Nat.mod_lt _ (by decide)
  have hc := h (j / 2) hk
  have e : j = j / 2 * 2 + j % 2 := by omega
  rw [e, vV_at hk hm] at hj
  rw [addr_off, e, ← Nat.add_assoc]
  generalize j % 2 = m at hm hj
  match m, hm, hj with
  | 0, _, hj => exact hc.c0.trans hj
  | 1, _, hj => exact hc.c1.trans hj
/-- What a call's own slice of these holds. -/
theorem own_V {w : World} {base : Nat} {e : TypeId} {v : Value} {m : Nat} {l : List (Fo.V2)} (h : w.ownsRow base e 2 v m (vV l)) : l.length = m ∧ ∃ A cap, v = .slice A m cap ∧ SlV w A l ∧ (A = none → cap = 0) := by
  have hl : l.length = m := by have := h.1; rw [vV_length] at this; omega
  refine ⟨hl, ?_⟩
  rcases h.2 with ⟨hv, hn⟩ | ⟨b, cap, cur, hv, hb, hg, _⟩
  · subst hn
    exact ⟨none, 0, hv, fun h0 => by omega, fun _ => rfl⟩
  · refine ⟨some ⟨b, 0, none⟩, cap, hv, fun h0 => ⟨b, 0, rfl, (Array.getElem?_eq_some_iff.1 hg).1, fun k hk => ?_⟩, fun h => by cases h⟩
    have f := fun (j : Nat) (hj : j < 2) (u : Value) (hu : (rowV (atV l k))[j]? = some u) => by
      have := h.cells (g := b) (by rw [hv]; rfl) (k * 2 + j) u (by rw [vV_at hk hj]; exact hu)
      rw [addr_off] at this
      exact this
    have f0 := f 0 (by omega) _ rfl 
    have f1 := f 1 (by omega) _ rfl
    rw [← Nat.add_assoc] at f0 f1
    exact ⟨f0, f1⟩
def rowT (b : Fo.T3) : List Value := [.int .i64 b.a, .int .i64 b.b, .int .i64 b.c]
def vT (l : List (Fo.T3)) : List Value := l.flatMap rowT
theorem rowT_length (b : Fo.T3) : (rowT b).length = 3 := rfl
theorem vT_length : ∀ l : List (Fo.T3), (vT l).length = l.length * 3
  | [] => rfl
  | b :: l => by
    unfold vT
    rw [List.flatMap_cons, List.length_append, rowT_length, show (l.flatMap rowT).length = l.length * 3 from vT_length l, List.length_cons]
    omega
theorem vT_app (a b : List (Fo.T3)) : vT (a ++ b) = vT a ++ vT b := List.flatMap_append ..
theorem vT_one (s : Fo.T3) : vT [s] = rowT s := by unfold vT; simp
theorem vT_at : ∀ {l : List (Fo.T3)} {k j : Nat}, k < l.length → j < 3 → (vT l)[k * 3 + j]? = (rowT (Fo.at3 l k))[j]?
  | [], _, _, h, _ => by simp at h
  | b :: l, 0, j, _, hj => by
    unfold vT
    rw [List.flatMap_cons, Nat.zero_mul, Nat.zero_add, List.getElem?_append_left (by rw [rowT_length]; exact hj)]
    rfl
  | b :: l, k + 1, j, hk, hj => by
    have := vT_at (l := l) (k := k) (j := j) (by simpa using hk) hj
    unfold vT at this ⊢
    rw [List.flatMap_cons, List.getElem?_append_right (by rw [rowT_length]; omega), rowT_length, show (k + 1) * 3 + j - 3 = k * 3 + j by omega, this]
    unfold Fo.at3
    rw [List.getElem?_cons_succ]
theorem vT_cells (l : List (Fo.T3)) : ∀ u ∈ vT l, u.oneCell' = true := fun u hu => by
  obtain ⟨b, _, hb⟩ := List.mem_flatMap.1 hu
  unfold rowT at hb
  simp only [List.mem_cons, List.not_mem_nil, or_false] at hb
  rcases hb with rfl | rfl | rfl <;> rfl
theorem SlT.news {w : World} {l : List (Fo.T3)} {b o : Nat} (h : ∀ k, k < l.length → TAt w b (o + k * 3) (Fo.at3 l k)) : ∀ j u, (vT l)[j]? = some u → w.cell? ((⟨b, o, none⟩ : Addr).add j) = some u := fun j u hj => by
  have hjl : j < l.length * 3 := by have := (List.getElem?_eq_some_iff.1 hj).1; rwa [vT_length] at this
  have hk : j / 3 < l.length := by omega
  have hm : j % 3 < 3 := Nat.mod_lt _ (by decide)
  have hc := h (j / 3) hk
  have e : j = j / 3 * 3 + j % 3 := by omega
  rw [e, vT_at hk hm] at hj
  rw [addr_off, e, ← Nat.add_assoc]
  generalize j % 3 = m at hm hj
  match m, hm, hj with
  | 0, _, hj => exact hc.c0.trans hj
  | 1, _, hj => exact hc.c1.trans hj
  | 2, _, hj => exact hc.c2.trans hj
/-- What a call's own slice of these holds. -/
theorem own_T {w : World} {base : Nat} {e : TypeId} {v : Value} {m : Nat} {l : List (Fo.T3)} (h : w.ownsRow base e 3 v m (vT l)) : l.length = m ∧ ∃ A cap, v = .slice A m cap ∧ SlT w A l ∧ (A = none → cap = 0) := by
  have hl : l.length = m := by have := h.1; rw [vT_length] at this; omega
  refine ⟨hl, ?_⟩
  rcases h.2 with ⟨hv, hn⟩ | ⟨b, cap, cur, hv, hb, hg, _⟩
  · subst hn
    exact ⟨none, 0, hv, fun h0 => by omega, fun _ => rfl⟩
  · refine ⟨some ⟨b, 0, none⟩, cap, hv, fun h0 => ⟨b, 0, rfl, (Array.getElem?_eq_some_iff.1 hg).1, fun k hk => ?_⟩, fun h => by cases h⟩
    have f := fun (j : Nat) (hj : j < 3) (u : Value) (hu : (rowT (Fo.at3 l k))[j]? = some u) => by
      have := h.cells (g := b) (by rw [hv]; rfl) (k * 3 + j) u (by rw [vT_at hk hj]; exact hu)
      rw [addr_off] at this
      exact this
    have f0 := f 0 (by omega) _ rfl 
    have f1 := f 1 (by omega) _ rfl 
    have f2 := f 2 (by omega) _ rfl
    rw [← Nat.add_assoc] at f0 f1 f2
    exact ⟨f0, f1, f2⟩
theorem infoVisit : (Try.prog.info? 55).map (fun i => (i.zero, i.size, i.bytes)) = some (some (.agg #[.int .i64 0, .int .i64 0]), 2, 16) := by kernel_rfl
theorem infoCut : (Try.prog.info? 106).map (fun i => (i.zero, i.size, i.bytes)) = some (some (.agg #[.int .i64 0, .int .i64 0, .int .i64 0]), 3, 24) := by kernel_rfl
theorem infoRepeat : (Try.prog.info? 66).map (fun i => (i.zero, i.size, i.bytes)) = some (some (.agg #[.int .i64 0, .int .i64 0, .int .i64 0]), 3, 24) := by kernel_rfl
/-- The classes of worlds in a region that appends one member to a call's own slice: before, with the member's slice made, behind. -/
def apC (sz : Nat) (X : World) (v : Value) (N : Nat) (e : TypeId) (n : Nat) (xs news : List Value) (vs : List Value) (w : World) : Prop :=
  match vs with
  | [] => Below X.heap.size X w
  | [p] => Below X.heap.size X w ∧ ∃ g, p = .slice (some ⟨g, 0, none⟩) 1 1 ∧ X.heap.size ≤ g ∧ g < w.heap.size ∧ ∀ j u, news[j]? = some u → w.cell? ((⟨g, 0, none⟩ : Addr).add j) = some u
  | _ :: v' :: _ => X.grownBy w v.ownBlock ∧ w.ownsRow N e sz v' (n + 1) (xs ++ news)
theorem grown_below {X w w' : World} {row : Option Nat} (h : X.grownBy w row) (hb : Below w.heap.size w w') : X.grownBy w' row :=
  ⟨hb.os.trans h.os, hb.tape.trans h.tape, hb.output.trans h.output, Nat.le_trans h.size hb.size, fun k hk hn => (hb.block k (Nat.lt_of_lt_of_le hk h.size)).trans (h.block k hk hn)⟩
theorem apC.below {sz : Nat} {X : World} {v : Value} {N : Nat} {e : TypeId} {n : Nat} {xs news vs : List Value} {w w' : World} (h : apC sz X v N e n xs news vs w) (hb : Below w.heap.size w w') (_hX : Below X.heap.size X w → X.heap.size ≤ w.heap.size := fun h => h.size) : apC sz X v N e n xs news vs w' := by
  match vs, h with
  | [], h => exact Below.trans h (Below.mono hb (Below.size h))
  | [p], ⟨h, g, hp, h1, h2, h3⟩ =>
    refine ⟨h.trans (hb.mono h.size), g, hp, h1, Nat.lt_of_lt_of_le h2 hb.size, fun j u hj => ?_⟩
    have := h3 j u hj
    rw [Addr.add_lit] at this ⊢
    exact (hb.cell (p := ⟨g, 0 + j, none⟩) h2).trans this
  | p :: v' :: r, ⟨h1, h2⟩ => exact ⟨grown_below h1 hb, h2.kept (below_grown hb none) none_ne⟩
theorem apC.grown {sz : Nat} {X : World} {v : Value} {N : Nat} {e : TypeId} {n : Nat} {xs news vs : List Value} {w : World} (h : apC sz X v N e n xs news vs w) : X.grownBy w v.ownBlock := by
  match vs, h with
  | [], h => exact below_grown h _
  | [p], ⟨h, _⟩ => exact below_grown h _
  | p :: v' :: r, ⟨h1, h2⟩ => exact h1
theorem apC.cell {sz : Nat} {X : World} {v : Value} {N : Nat} {e : TypeId} {n : Nat} {xs news vs : List Value} {w : World} (h : apC sz X v N e n xs news vs w) {b o : Nat} {u : Value} (hne : v.ownBlock ≠ some b) (hc : X.cell? ⟨b, o, none⟩ = some u) : w.cell? ⟨b, o, none⟩ = some u :=
  (World.cell?_of_block (w := X) (a := ⟨b, o, none⟩) (h.grown.block b (World.block_lt_of_cell? _ _ hc) (fun e => hne e.symm))).trans hc

section
variable {P : Program} (w : World)
/-- Appending to an empty slice that has no room is appending to a nil one. -/
theorem append_zero (t ty e : TypeId) (i : TypeInfo) (z : Value) (ht : P.underlying t = some (.slice e)) (hi : P.info? e = some i) (hz : i.zero = some z) (b : Addr)
    (a : Addr) (n c : Nat) (news : List Value) (hl : news.length = n * i.size) (hnews : ∀ j v, news[j]? = some v → w.cell? (a.add j) = some v) (h0 : 0 < n) (h63 : (n : Int) ≤ 9223372036854775807) (h48 : n * i.bytes ≤ 140737488355328) :
    (Builtin.append_ #[t, t] ty #[.slice (some b) 0 0, .slice (some a) n c]).run P w = (Builtin.append_ #[t, t] ty #[.slice none 0 0, .slice (some a) n c]).run P w := by
  have h1 := run_append_nil (P := P) w t ty e i z ht hi hz a n c news hl hnews h0 h63 (by omega)
  have h2 := run_append_grow (P := P) w t ty e i z ht hi hz b 0 0 [] (by simp) (fun j v hj => by simp at hj) a n c news hl hnews (by omega) (by simpa using h63) (by rw [Nat.zero_add, nextslicecap_zero h0]; omega)
  rw [h1, h2]
  simp
/-- What appending one member gives: to such a slice, or to one that the call owns. -/
theorem run_append_ap (N : Nat) (t ty e : TypeId) (i : TypeInfo) (z : Value) (size bytes : Nat) (ht : P.underlying t = some (.slice e)) (hi : P.info? e = some i) (hz : i.zero = some z) (hsize : i.size = size) (hby : i.bytes = bytes) (hzs : z.cells.size = size) (hsz : 0 < size)
    (v : Value) (n : Nat) (xs : List Value) (hst : (∃ b, v = .slice (some b) 0 0 ∧ n = 0 ∧ xs = []) ∨ w.ownsRow N e size v n xs)
    (a : Addr) (c : Nat) (news : List Value) (hl : news.length = 1 * size) (hnews : ∀ j u, news[j]? = some u → w.cell? (a.add j) = some u) (h1 : ∀ u ∈ news, u.oneCell' = true)
    (h63 : n + 1 ≤ maxLen) (hbytes : (n + 1) * bytes ≤ 140737488355328) (hN : N ≤ w.heap.size) :
    ∃ v' w', (Builtin.append_ #[t, t] ty #[v, .slice (some a) 1 c]).run P w = .ok v' w' ∧ w'.ownsRow N e size v' (n + 1) (xs ++ news) ∧ w.grownBy w' v.ownBlock := by
  rcases hst with ⟨b, rfl, rfl, rfl⟩ | hown
  · obtain ⟨v', w', hr, h2, h3, _⟩ := run_append_own (P := P) w N t ty e i z size bytes ht hi hz hsize hby hzs hsz (.slice none 0 0) 0 [] (World.ownsRow_nil _ _ _ _) a 1 c news hl hnews h1 h63 hbytes hN
    refine ⟨v', w', ?_, h2, ⟨h3.os, h3.tape, h3.output, h3.size, fun k hk _ => h3.block k hk (by simp [Value.ownBlock])⟩⟩
    rw [append_zero (P := P) w t ty e i z ht hi hz b a 1 c news (by rw [hsize]; exact hl) hnews (by omega) (by omega) (by rw [hby]; simpa using hbytes)]
    exact hr
  · obtain ⟨v', w', hr, h2, h3, _⟩ := run_append_own (P := P) w N t ty e i z size bytes ht hi hz hsize hby hzs hsz v n xs hown a 1 c news hl hnews h1 h63 hbytes hN
    exact ⟨v', w', hr, h2, h3⟩
end
theorem ap_exec {P : Program} {w w' : World} {o : Oper} {a : Act} {s x : Operand} {t : TypeId} (ho : o.op = .call { callee := .builtin .append, args := #[s, x], argTypes := #[t, t] }) {v y v' : Value} (hs : a.eval s = v) (hx : a.eval x = y)
    (hr : (Builtin.append_ #[t, t] o.type #[v, y]).run P w = .ok v' w') : (execOp a.eval o).run P w = .ok (.value v') w' := by
  unfold execOp
  simp only [ho, resolve, invoke, builtin, Sem.run_bind, Sem.run_pure, Result.andThen_ok, List.map_toArray, List.map_cons, List.map_nil, hs, hx, hr]
end Go.Proofs.Ytahdlkdiadlgeaa

/- The bars of an order lie in the form; how often each bar has come. -/
namespace Go.Proofs.Ytahdlkdiadlgeaa
open Go.RowKit
namespace Fo
theorem pas_rng (es : List T3) (lo pass : Int) : ∀ (m : Nat), ∀ b ∈ pas es lo pass m, lo ≤ b ∧ b < lo + m
  | 0, b, h => by unfold pas at h; cases h
  | m + 1, b, h => by
    unfold pas at h
    rcases List.mem_append.1 h with h | h
    · have := pas_rng es lo pass m b h
      omega
    · split at h
      · have := List.mem_singleton.1 h
        omega
      · cases h
theorem pss_rng (es : List T3) (x : T3) (first : Int) (hx : x.a ≤ x.b) : ∀ (k : Nat), ∀ b ∈ pss es x first k, x.a ≤ b ∧ b < x.b
  | 0, b, h => by unfold pss at h; cases h
  | k + 1, b, h => by
    unfold pss at h
    rcases List.mem_append.1 h with h | h
    · exact pss_rng es x first hx k b h
    · have := pas_rng es x.a (first + k) (x.b - x.a).toNat b h
      omega
theorem blk_rng {f : Fm} (hu : up f) (again : Bool) (bar : Int) : ∀ b ∈ blk f again bar, bar ≤ b ∧ b < nxt f bar := fun b h => by
  unfold blk at h
  unfold nxt
  split at h
  · rename_i h0
    rw [if_pos h0]
    have := List.mem_singleton.1 h
    omega
  · rename_i h0
    rw [if_neg h0]
    have h1 := six_at (l := f.rs) (bar := bar) (by omega)
    have h2 := six_lt f.rs bar
    have h3 := hu _ (at3_mem (l := f.rs) (i := (six f.rs bar).toNat) (by omega))
    have h4 := pss_rng _ _ _ (Int.le_of_lt h3) _ b h
    omega
theorem nxt_le {f : Fm} (hb : ∀ x ∈ f.rs, x.b ≤ f.n) {bar : Int} (h : bar < f.n) : nxt f bar ≤ f.n := by
  unfold nxt
  split
  · omega
  · have h2 := six_lt f.rs bar
    exact hb _ (at3_mem (l := f.rs) (i := (six f.rs bar).toNat) (by omega))
theorem prt_rng {f : Fm} (hu : up f) (hb : ∀ x ∈ f.rs, x.b ≤ f.n) (again : Bool) {hi : Int} (hh : hi ≤ f.n) : ∀ (k : Nat) (bar : Int), ∀ b ∈ prt f again hi k bar, bar ≤ b ∧ b < f.n
  | 0, bar, b, h => by unfold prt at h; cases h
  | k + 1, bar, b, h => by
    unfold prt at h
    split at h
    · rename_i h0
      have h1 := nxt_le hb (bar := bar) (by omega)
      have h2 := nxt_lt hu bar
      rcases List.mem_append.1 h with h | h
      · have := blk_rng hu again bar b h
        omega
      · have := prt_rng hu hb again hh k (nxt f bar) b h
        omega
    · cases h
theorem Val.rgs {f : Fm} (V : Val f) : rgs f.rs := V.rs.rgs V.n.2
theorem Val.bars {f : Fm} (V : Val f) : ∀ b ∈ whl f, 0 ≤ b ∧ b < f.n := fun b h => by
  have hb : ∀ x ∈ f.rs, x.b ≤ f.n := fun x hx => (chR_all (Int.le_refl 0) V.rs x hx).2.2.2.1
  have hj := V.j
  unfold okJ at hj
  unfold whl par at h
  split at h
  · exact prt_rng V.up hb false (Int.le_refl _) _ _ b h
  · rename_i h0
    rcases List.mem_append.1 h with h | h
    · exact prt_rng V.up hb false (by omega) _ _ b h
    · have := prt_rng V.up hb true (hi := f.jf) (by omega) _ _ b h
      omega
/-- How often each of n bars comes. -/
def cnts (l : List Int) (n : Nat) : List Int := (List.range n).map fun (i : Nat) => (l.count (i : Int) : Int)
theorem cnts_length (l : List Int) (n : Nat) : (cnts l n).length = n := by unfold cnts; simp
theorem cnts_at {l : List Int} {n i : Nat} (h : i < n) : atI (cnts l n) i = (l.count (i : Int) : Int) := by
  unfold atI cnts
  simp [h]
theorem cnts_nil (n : Nat) : cnts [] n = List.replicate n 0 := by
  unfold cnts
  refine List.ext_getElem (by simp) fun i h1 h2 => by simp
theorem cnts_snoc (l : List Int) (n i : Nat) (hi : i < n) : cnts (l ++ [(i : Int)]) n = (cnts l n).set i (atI (cnts l n) i + 1) := by
  rw [cnts_at hi]
  unfold cnts
  refine List.ext_getElem (by simp) fun j h1 h2 => ?_
  rw [List.getElem_set]
  simp only [List.getElem_map, List.getElem_range, List.count_append, List.count_singleton]
  by_cases e : i = j
  · subst e
    simp
  · rw [if_neg e, if_neg (by simp; omega)]
    simp
end Fo
end Go.Proofs.Ytahdlkdiadlgeaa

/- The walk of the reference's Whole. -/
namespace Go.Proofs.Ytahdlkdiadlgeaa
open Go.RowKit

theorem RowC.blk {k : IntKind} {w w' : World} {S : Nat} {g : List Int} (h : RowC k w S g) (e : w'.heap[S]? = w.heap[S]?) (hs : w.heap.size ≤ w'.heap.size) : RowC k w' S g :=
  ⟨Nat.lt_of_lt_of_le h.lt hs, fun j hj => (World.cell?_of_block (w := w) (a := ⟨S, j, none⟩) e).trans (h.cell j hj), fun j => (World.frozen?_of_block (w := w) (a := ⟨S, j, none⟩) e).trans (h.free j)⟩
theorem SlK.far {k : IntKind} {B : Nat} {w w' : World} {A : Option Addr} {g : List Int} (h : SlK k w A g) (hb : Below B w w') (hB : w.heap.size ≤ B) : SlK k w' A g := h.below (hb.mono hB)

theorem own_lessK2 {B N : Nat} {X : World} {e : TypeId} {size : Nat} {v : Value} {n : Nat} {xs : List Value} (h : X.ownsRow N e size v n xs) (hB : B ≤ N) : X.ownsRow B e size v n xs := own_lessK h hB
end Go.Proofs.Ytahdlkdiadlgeaa

/- The walk of the reference's Unfold. -/
namespace Go.Proofs.Ytahdlkdiadlgeaa
open Go.RowKit

theorem cell_two_new (w : World) (a b : Value) (t : TypeId) : ∀ j u, [a, b][j]? = some u → (w.alloc (.cells #[a, b] t)).cell? ((⟨w.heap.size, 0, none⟩ : Addr).add j) = some u := fun j u hj => by
  rw [addr_add]
  match j, hj with
  | 0, hj => simp at hj; subst hj; go_simp
  | 1, hj => simp at hj; subst hj; go_simp
  | j + 2, hj => simp at hj
theorem Fo.lft_snoc (cs : List Fo.T3) (v : Fo.V2) (k : Nat) (h : k < cs.length) : Fo.lft (cs.take (k + 1)) v ↔ Fo.lft (cs.take k) v ∨ Fo.lvs (Fo.at3 cs k) v := by
  unfold Fo.lft
  rw [List.take_succ_eq_append_getElem h, Fo.at3_eq h]
  constructor
  · rintro ⟨c, hc, hl⟩
    rcases List.mem_append.1 hc with h1 | h1
    · exact .inl ⟨c, h1, hl⟩
    · rw [List.mem_singleton.1 h1] at hl; exact .inr hl
  · rintro (⟨c, hc, hl⟩ | hl)
    · exact ⟨c, List.mem_append_left _ hc, hl⟩
    · exact ⟨_, List.mem_append_right _ (List.mem_singleton.2 rfl), hl⟩
/-- The visits, up to the i-th one, that no cut leaves out. -/
def Fo.kpt (cs : List Fo.T3) (l : List Fo.V2) (i : Nat) : List Fo.V2 := (l.take i).filter fun v => !decide (Fo.lft cs v)
theorem Fo.kpt_snoc (cs : List Fo.T3) (l : List Fo.V2) (i : Nat) (h : i < l.length) : Fo.kpt cs l (i + 1) = Fo.kpt cs l i ++ (if Fo.lft cs (atV l i) then [] else [atV l i]) := by
  unfold Fo.kpt
  rw [List.take_succ_eq_append_getElem h, List.filter_append, atV_eq h]
  congr 1
  by_cases hl : Fo.lft cs l[i] <;> simp [hl]
theorem Fo.kpt_len (cs : List Fo.T3) (l : List Fo.V2) (i : Nat) : (Fo.kpt cs l i).length ≤ i := by
  unfold Fo.kpt
  refine Nat.le_trans (List.length_filter_le _ _) ?_
  rw [List.length_take]
  omega
end Go.Proofs.Ytahdlkdiadlgeaa

/- The walk of the reference's Find. -/
namespace Go.Proofs.Ytahdlkdiadlgeaa
open Go.RowKit

namespace Fo
/-- Where a visit stands; -1: nowhere. -/
def vix : List V2 → V2 → Int
  | [], _ => -1
  | x :: l, c => if x = c then 0 else if vix l c < 0 then -1 else vix l c + 1
theorem vix_ge : ∀ (l : List V2) (c : V2), -1 ≤ vix l c
  | [], _ => Int.le_refl _
  | b :: l, c => by
    have := vix_ge l c
    unfold vix
    split
    · omega
    · split <;> omega
theorem vix_lt : ∀ (l : List V2) (c : V2), vix l c < l.length
  | [], _ => by unfold vix; simp
  | b :: l, c => by
    have := vix_lt l c
    unfold vix
    simp only [List.length_cons]
    split
    · omega
    · split <;> omega
theorem vix_at : ∀ {l : List V2} {c : V2}, 0 ≤ vix l c → atV l (vix l c).toNat = c
  | [], c, h => by unfold vix at h; omega
  | b :: l, c, h => by
    unfold vix at h ⊢
    split
    · rename_i e; exact e
    · rename_i e
      rw [if_neg e] at h
      split
      · rename_i h1; rw [if_pos h1] at h; omega
      · rename_i h1
        have ih := vix_at (l := l) (c := c) (by omega)
        rw [show (vix l c + 1).toNat = (vix l c).toNat + 1 by omega]
        exact ih
theorem vix_neg : ∀ {l : List V2} {c : V2}, vix l c < 0 ↔ c ∉ l
  | [], c => by unfold vix; simp
  | b :: l, c => by
    have ih := vix_neg (l := l) (c := c)
    have hg := vix_ge l c
    unfold vix
    by_cases e : b = c
    · rw [if_pos e]; simp [e]
    · rw [if_neg e, List.mem_cons, not_or]
      by_cases h : vix l c < 0
      · rw [if_pos h]; exact ⟨fun _ => ⟨fun h2 => e h2.symm, ih.1 h⟩, fun _ => by omega⟩
      · rw [if_neg h]; exact ⟨fun h2 => by omega, fun h2 => absurd (ih.2 h2.2) h⟩
theorem vix_first : ∀ {l : List V2} {c : V2} {i : Nat}, i < l.length → atV l i = c → (∀ k, k < i → atV l k ≠ c) → vix l c = i
  | [], _, _, hi, _, _ => by simp at hi
  | b :: l, c, 0, _, h, _ => by unfold vix; rw [if_pos (show b = c from h)]; rfl
  | b :: l, c, i + 1, hi, h, hk => by
    have e : b ≠ c := hk 0 (by omega)
    have ih := vix_first (l := l) (c := c) (i := i) (by simpa using hi) h (fun k hk2 => hk (k + 1) (by omega))
    unfold vix
    rw [if_neg e, if_neg (by omega), ih]
    rfl
end Fo
structure BV (w : World) (b : Nat) (x : Fo.V2) : Prop where
  lt : b < w.heap.size
  c0 : w.cell? ⟨b, 0, none⟩ = some (.int .i64 x.b)
  c1 : w.cell? ⟨b, 1, none⟩ = some (.int .i64 x.p)
theorem BV.below {w w' : World} {b : Nat} {x : Fo.V2} (s : BV w b x) (hb : Below w.heap.size w w') : BV w' b x :=
  ⟨Nat.lt_of_lt_of_le s.lt hb.size, (hb.cell (p := ⟨b, 0, none⟩) s.lt).trans s.c0, (hb.cell (p := ⟨b, 1, none⟩) s.lt).trans s.c1⟩
theorem BV.new (w : World) (x : Fo.V2) (t : TypeId) : BV (w.alloc (.cells #[.int .i64 x.b, .int .i64 x.p] t)) w.heap.size x := ⟨by simp, by go_simp, by go_simp⟩
end Go.Proofs.Ytahdlkdiadlgeaa

/- A form's block that can be written; what Cut, Open, Times answer. -/
namespace Go.Proofs.Ytahdlkdiadlgeaa
open Go.RowKit

def FH.zero : FH := ⟨0, none, 0, 0, none, 0, 0, 0, 0, 0, none, 0, 0⟩
structure FV (w : World) (b : Nat) (h : FH) : Prop where
  at_ : FB w b h
  blk : ∃ arr, w.heap[b]? = some (.cells arr 47 (0, 0))
theorem FV.below {w w' : World} {b : Nat} {s : FH} (h : FV w b s) (hb : Below w.heap.size w w') : FV w' b s :=
  ⟨h.at_.below hb, by obtain ⟨arr, h1⟩ := h.blk; exact ⟨arr, (hb.block b h.at_.lt).trans h1⟩⟩
theorem FV.alloc {w : World} {b : Nat} {s : FH} (h : FV w b s) (o : Obj) : FV (w.alloc o) b s := h.below ((Below.refl _ _).alloc (Nat.le_refl _) _)
theorem FV.f {w : World} {b : Nat} {s : FH} (h : FV w b s) (j : Nat) : w.frozen? ⟨b, j, none⟩ = false := by
  obtain ⟨arr, h1⟩ := h.blk
  simp [World.frozen?, h1]
theorem FV.new (w : World) (h : FH) : FV (w.alloc (.cells #[.int .i64 h.n, .slice h.R h.rl h.rc, .slice h.E h.el h.ec, .int .i64 h.ja, .int .i64 h.jt, .int .i64 h.jf, .slice h.C h.cl h.cc] 47)) w.heap.size h := ⟨FB.new w h, _, heap_alloc_new w _⟩
theorem FV.zero (w : World) : FV (w.alloc (.cells #[.int .i64 0, .slice none 0 0, .slice none 0 0, .int .i64 0, .int .i64 0, .int .i64 0, .slice none 0 0] 47)) w.heap.size .zero := FV.new w .zero
theorem FV.grown {w w' : World} {b base : Nat} {s : FH} {v : Value} (h : FV w b s) (hlt : b < base) (hown : ∀ j, v.ownBlock = some j → base ≤ j) (hg : w.grownBy w' v.ownBlock) : FV w' b s := by
  have hne : some b ≠ v.ownBlock := fun e => by have := hown b e.symm; omega
  have hk := hg.block b h.at_.lt hne
  have c : ∀ j u, w.cell? ⟨b, j, none⟩ = some u → w'.cell? ⟨b, j, none⟩ = some u := fun j u hu => (World.cell?_of_block (w := w) (a := ⟨b, j, none⟩) hk).trans hu
  obtain ⟨arr, h4⟩ := h.blk
  exact ⟨⟨Nat.lt_of_lt_of_le h.at_.lt hg.size, c 0 _ h.at_.c0, c 1 _ h.at_.c1, c 2 _ h.at_.c2, c 3 _ h.at_.c3, c 4 _ h.at_.c4, c 5 _ h.at_.c5, c 6 _ h.at_.c6⟩, arr, hk.trans h4⟩
/-- The world behind the seven stores. -/
def putF (w : World) (b : Nat) (t : FH) : World := (((((((w.setCell ⟨b, 0, none⟩ (.int .i64 t.n)).setCell ⟨b, 1, none⟩ (.slice t.R t.rl t.rc)).setCell ⟨b, 2, none⟩ (.slice t.E t.el t.ec)).setCell ⟨b, 3, none⟩ (.int .i64 t.ja)).setCell ⟨b, 4, none⟩ (.int .i64 t.jt)).setCell ⟨b, 5, none⟩ (.int .i64 t.jf)).setCell ⟨b, 6, none⟩ (.slice t.C t.cl t.cc))
theorem putF_below {B : Nat} {w0 w : World} {b : Nat} (h : Below B w0 w) (hb : B ≤ b) (t : FH) : Below B w0 (putF w b t) := (((((((h.setCell (p := ⟨b, 0, none⟩) hb _).setCell (p := ⟨b, 1, none⟩) hb _).setCell (p := ⟨b, 2, none⟩) hb _).setCell (p := ⟨b, 3, none⟩) hb _).setCell (p := ⟨b, 4, none⟩) hb _).setCell (p := ⟨b, 5, none⟩) hb _).setCell (p := ⟨b, 6, none⟩) hb _)
theorem putF_size (w : World) (b : Nat) (t : FH) : (putF w b t).heap.size = w.heap.size := by unfold putF; simp
set_option maxHeartbeats 1600000 in
theorem FV.put {w : World} {b : Nat} {s : FH} (h : FV w b s) (t : FH) : FB (putF w b t) b t := by
  obtain ⟨l, c0, c1, c2, c3, c4, c5, c6⟩ := h.at_
  have f0 := h.f 0; have f1 := h.f 1; have f2 := h.f 2; have f3 := h.f 3; have f4 := h.f 4; have f5 := h.f 5; have f6 := h.f 6
  unfold putF
  refine ⟨by simpa using l, ?_, ?_, ?_, ?_, ?_, ?_, ?_⟩
  all_goals go_simp
/-- Another slice of cuts. -/
theorem FB.cuts {w : World} {b : Nat} {s : FH} (h : FB w b s) (C : Option Addr) (cl cc : Nat) : FB (w.setCell ⟨b, 6, none⟩ (.slice C cl cc)) b {s with C := C, cl := cl, cc := cc} := by
  obtain ⟨l, c0, c1, c2, c3, c4, c5, c6⟩ := h
  have k : ∀ j, j ≠ 6 → (w.setCell ⟨b, 6, none⟩ (.slice C cl cc)).cell? ⟨b, j, none⟩ = w.cell? ⟨b, j, none⟩ := fun j hj => World.cell?_setCell_other (w := w) (a := ⟨b, 6, none⟩) (b := ⟨b, j, none⟩) (v := .slice C cl cc) (fun e2 => by cases e2; exact hj rfl)
  exact ⟨by simpa using l, (k 0 (by decide)).trans c0, (k 1 (by decide)).trans c1, (k 2 (by decide)).trans c2, (k 3 (by decide)).trans c3, (k 4 (by decide)).trans c4, (k 5 (by decide)).trans c5, World.cell?_setCell_same w _ _ c6⟩
/-- What Cut answers. -/
def CutI (f : Fo.Fm) (c : Fo.T3) (e : Int) : Prop :=
  (¬ (Fo.Val f ∧ Fo.okC f.n c) ∧ e = 1) ∨ ((Fo.Val f ∧ Fo.okC f.n c) ∧ ((0 ≤ Fo.cix f.cs c ∧ e = 5) ∨ (Fo.cix f.cs c < 0 ∧ ((f.cs.length = 100 ∧ e = 2) ∨ (f.cs.length < 100 ∧ e = 0)))))
structure FormR (f' : Fo.Fm) (e : Int) (h' : FH) (w' : World) : Prop where
  ok : e = 0 → SlF w' h' f' ∧ h'.cl ≤ h'.cc
  no : e ≠ 0 → h' = .zero
end Go.Proofs.Ytahdlkdiadlgeaa
