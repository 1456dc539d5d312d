import Derived.Test.YthamkigdpgajaaaDoorGD
import Derived.Test.YthamkigdpgajaaaDoorGJ
import Derived.Laws.CopyRow
import Derived.Laws.CopyOwn
import Derived.Deep.MidRow
/- A call's own slice of notes: a member is loaded, and stored; the loads and stores of a swap. -/
namespace Go.Proofs.YthamkigdpgajaaaDoor
open Go.RowKit

theorem exec_load_is {P : Program} {o : Oper} {a : Act} {w : World} (ty : TypeId) (x : Operand) (ho : o.op = .load ty x) (p : Addr) (hx : a.eval x = .pointer (some p)) (v : Value) (hr : (loadVar ty p).run P w = .ok v w) : (execOp a.eval o).run P w = .ok (.value v) w := by
  unfold execOp
  simp only [ho, hx, Instr.loadAt, Instr.sureAddr, Sem.run_bind, Sem.run_pure, Result.andThen_ok, hr]
theorem exec_store_is {P : Program} {o : Oper} {a : Act} {w w' : World} (ty : TypeId) (x y : Operand) (ho : o.op = .store ty x y) (p : Addr) (hx : a.eval x = .pointer (some p)) (v : Value) (hy : a.eval y = v) (hr : (storeVar ty p v).run P w = .ok () w') : (execOp a.eval o).run P w = .ok .skip w' := by
  unfold execOp
  simp only [ho, hx, hy, Instr.storeAt, Instr.sureAddr, Sem.run_bind, Sem.run_pure, Result.andThen_ok, hr]
theorem wpList_stored {P : Program} {w w' : World} {ops : Array Oper} {rest : List Oper} {o : Oper} {a : Act} {Q : Exit → Act → World → Prop} (hgd : o.guard = none) (t : TypeId) (x y : Operand) (ho : o.op = .store t x y) (p : Addr) (v : Value) (hr : (storeVar t p v).run P w = .ok () w') (hx : a.eval x = .pointer (some p)) (hy : a.eval y = v) (h : wpList P ops Q rest (a.put o.dst undef) w') : wpList P ops Q (o :: rest) a w := by
  refine wpList_plain hgd fun K hK => ?_
  unfold Oper.wp
  simp [execOp, ho, hx, hy, Instr.storeAt, Instr.sureAddr, hr, Result.andThen]
  exact hK _ _ h

theorem vO_set : ∀ (m : List No.Nt) (a : Nat) (x : No.Nt), a < m.length → vO (m.set a x) = (vO m).take (a * 12) ++ rowO x ++ (vO m).drop (a * 12 + 12)
  | [], _, _, h => by simp at h
  | n :: m, 0, x, _ => by
    show vO ([x] ++ m) = _
    rw [vO_app, vO_one]
    have e : vO (n :: m) = rowO n ++ vO m := by rw [show n :: m = [n] ++ m from rfl, vO_app, vO_one]
    rw [e, Nat.zero_mul, List.take_zero, List.nil_append, Nat.zero_add, List.drop_left' (rowO_length n)]
  | n :: m, a + 1, x, h => by
    have ih := vO_set m a x (by simpa using h)
    have e : ∀ l, vO (n :: l) = rowO n ++ vO l := fun l => by rw [show n :: l = [n] ++ l from rfl, vO_app, vO_one]
    rw [List.set_cons_succ, e, e, ih]
    have h1 : (rowO n ++ vO m).take ((a + 1) * 12) = rowO n ++ (vO m).take (a * 12) := by
      rw [List.take_append, rowO_length, show (a + 1) * 12 - 12 = a * 12 by omega, List.take_of_length_le (by rw [rowO_length]; omega)]
    have h2 : (rowO n ++ vO m).drop ((a + 1) * 12 + 12) = (vO m).drop (a * 12 + 12) := by
      rw [List.drop_append, rowO_length, show (a + 1) * 12 + 12 - 12 = a * 12 + 12 by omega, List.drop_of_length_le (by rw [rowO_length]; omega), List.nil_append]
    rw [h1, h2]
    simp only [List.append_assoc]
theorem infoNote_size : (Tryd.prog.info? 42).map (·.size) = some 12 := by kernel_rfl
/-- A member of a row of one's own is loaded. -/
theorem own_load {w : World} {base g n cap : Nat} {e : TypeId} {m : List No.Nt} {a : Nat} (h : w.ownsRow base e 12 (.slice (some ⟨g, 0, none⟩) n cap) n (vO m)) (ha : a < m.length) :
    (loadVar 42 ⟨g, a * 12, none⟩).run Tryd.prog w = .ok (.agg (rowO (atO m a)).toArray) w :=
  run_loadVar_mid w g (a * 12) 42 (rowO (atO m a)) _ (fun j v hj => by
    have hj12 : j < 12 := (List.getElem?_eq_some_iff.1 hj).1
    have := h.cells (g := g) rfl (a * 12 + j) v (by rw [vO_at ha hj12]; exact hj)
    rw [baddr_off, Nat.zero_add] at this
    exact this) Tryd.underlying42 rfl infoNote_size
/-- A member of a row of one's own is stored. -/
theorem own_store {w : World} {base g n cap : Nat} {e : TypeId} {m : List No.Nt} {a : Nat} (x : No.Nt) (h : w.ownsRow base e 12 (.slice (some ⟨g, 0, none⟩) n cap) n (vO m)) (ha : a < m.length) :
    ∃ w', (storeVar 42 ⟨g, a * 12, none⟩ (.agg (rowO x).toArray)).run Tryd.prog w = .ok () w' ∧ w'.ownsRow base e 12 (.slice (some ⟨g, 0, none⟩) n cap) n (vO (m.set a x)) ∧ ∀ (B : Nat) (V : World), B ≤ base → Below B V w → Below B V w' := by
  have hlen := h.1
  rw [vO_length] at hlen
  have hnm : m.length = n := by omega
  rcases h.2 with ⟨hv, _⟩ | ⟨g', cap', cur, hv, hb, hg, hnc, hcm, hcs, htk⟩
  · cases hv
  cases hv
  have hl : cur.toList.length = cap * 12 := by rw [Array.length_toList]; exact hcs
  have hst := run_storeCells_at Tryd.prog g (a * 12) e (rowO x) 0 cur w hg (by rw [rowO_length, hcs]; omega) (fun u hu => vO_cells [x] u (by rw [vO_one]; exact hu))
  rw [Nat.add_zero, rowO_length] at hst
  refine ⟨w.setRow g (cur.toList.take (a * 12) ++ rowO x ++ cur.toList.drop (a * 12 + 12)).toArray, ?_, ⟨?_, .inr ⟨g, cap, _, rfl, hb, setRow_heap w g cur _ e _ hg, hnc, hcm, ?_, ?_⟩⟩, fun B V hB hV => below_setRow hV (by omega) _⟩
  · have hi := infoNote_size
    cases hq : Tryd.prog.info? 42 with
    | none => simp [hq] at hi
    | some i =>
      have hs : i.size = 12 := by simpa [hq] using hi
      simp [storeVar, sizeOf, typeInfo, hq, Value.cells, hs, rowO_length, hst]
  · rw [vO_length, List.length_set]; omega
  · rw [List.size_toArray, List.length_append, List.length_append, List.length_take, List.length_drop, rowO_length, hl]
    omega
  · rw [vO_set m a x ha, ← htk]
    have e1 : cur.toList = vO m ++ cur.toList.drop (n * 12) := by rw [← htk]; exact (List.take_append_drop _ _).symm
    have hml : (vO m).length = n * 12 := by rw [vO_length]; omega
    rw [htk]
    generalize cur.toList.drop (n * 12) = r at e1
    have e2 : List.take (a * 12) (vO m ++ r) = List.take (a * 12) (vO m) := List.take_append_of_le_length (by rw [hml]; omega)
    have e3 : List.drop (a * 12 + 12) (vO m ++ r) = List.drop (a * 12 + 12) (vO m) ++ r := List.drop_append_of_le_length (by rw [hml]; omega)
    rw [List.toList_toArray, e1, e2, e3, ← List.append_assoc]
    refine List.take_left' ?_
    rw [List.length_append, List.length_append, List.length_take, List.length_drop, rowO_length, hml]
    omega
/-- The classes of a swap: ahead of the first store, behind it. -/
def swC (V : World) (base : Nat) (e : TypeId) (v : Value) (n : Nat) (m m' : List No.Nt) (vs : List Value) (w : World) : Prop := match vs with
  | [] => Below base V w ∧ w.ownsRow base e 12 v n (vO m)
  | [_] => Below base V w ∧ w.ownsRow base e 12 v n (vO m')
  | _ => False
end Go.Proofs.YthamkigdpgajaaaDoor
