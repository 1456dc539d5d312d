import Derived.Test.YthamkigdpgajaaaDoorGG
/- Maps by integers whose elements are whatever: what they hold is read as it stands. -/
namespace Go.Proofs.YthamkigdpgajaaaDoor
open Go.RowKit Go.Maps

/-- An element reads as itself. -/
def rdV (v : Value) : Option (DataW Value × List MemPlace) := some (.held v, [])
/-- The map holds what f says; z is what a key that is not there reads as. -/
def MapIs (D : DataW Value) (z : Value) (f : Int → Option Value) : Prop :=
  IsMap D ∧ ∀ id : Int, (Lit.int .i64 id).wf = true → Maps.has D (.int .i64 id) = (f id).isSome ∧ D.atKey (.int .i64 id) (.held z) = .held ((f id).getD z)
theorem MapIs.start (z : Value) : MapIs (.map []) z (fun _ => none) := ⟨⟨[], rfl⟩, fun _ _ => ⟨rfl, rfl⟩⟩
theorem isMap_put {D : DataW Value} (h : IsMap D) (k : Lit) (d : DataW Value) : IsMap (D.put k d) := by
  obtain ⟨es, rfl⟩ := h
  exact ⟨_, rfl⟩
theorem MapIs.put {D : DataW Value} {z : Value} {f : Int → Option Value} (h : MapIs D z f) {id : Int} (hw : (Lit.int .i64 id).wf = true) (v : Value) : MapIs (D.put (.int .i64 id) (.held v)) z (fun x => if x = id then some v else f x) := by
  refine ⟨isMap_put h.1 _ _, fun x hx => ?_⟩
  by_cases e : x = id
  · subst e
    have hk := mapK.key (keyOf_int_mk Tryd.underlying3 hx)
    rw [has_put_same h.1 hk, atKey_put_same h.1 hk]
    simp
  · have hne : (Lit.int .i64 x) ≠ (Lit.int .i64 id) := fun e2 => e (by simpa using e2)
    rw [has_put_other hne, atKey_put_other hne]
    simp only [if_neg e]
    exact h.2 x hx
/-- 'v := m[k]'. -/
theorem look_v {P : Program} (w : World) {ops : Array Oper} {rest : List Oper} {o : Oper} {a : Act} {Q : Exit → Act → World → Prop}
    (hg : o.guard = none) (m x : Operand) (t : TypeId) (hop : o.op = Op.lookup t m x false)
    (k e : TypeId) (K : Keyed P k) (ht : P.underlying t = some (.map k e)) (z : Value) (hz : (zeroValue e).run P w = .ok z w) (b n : Nat) (D : DataW Value)
    (hm : a.eval m = .map (some b)) (hown : w.ownsMap P k rdV b n D) (key : Value) (kl : Lit) (hx : a.eval x = key) (hkey : keyOf P k key = some kl) (c : Value) (hc : D.atKey kl (.held z) = .held c)
    (hK : wpList P ops Q rest (a.put o.dst c) w) : wpList P ops Q (o :: rest) a w := by
  refine wpList_plain hg fun K' hK' => ?_
  obtain ⟨v, ps, hrun, hv⟩ := hown.lookup K ht hz (show rdV z = some (.held z, []) from rfl) hkey
  rw [hc] at hv
  obtain rfl : v = c := by simpa [rdV] using (congrArg (fun x => x.map Prod.fst) hv)
  unfold Oper.wp
  simp [execOp, hop, hm, hx, hrun, Result.andThen]
  exact hK' _ _ hK
/-- 'v, ok := m[k]'. -/
theorem look_v_ok {P : Program} (w : World) {ops : Array Oper} {rest : List Oper} {o : Oper} {a : Act} {Q : Exit → Act → World → Prop}
    (hg : o.guard = none) (m x : Operand) (t : TypeId) (hop : o.op = Op.lookup t m x true)
    (k e : TypeId) (K : Keyed P k) (ht : P.underlying t = some (.map k e)) (z : Value) (hz : (zeroValue e).run P w = .ok z w) (b n : Nat) (D : DataW Value)
    (hm : a.eval m = .map (some b)) (hown : w.ownsMap P k rdV b n D) (key : Value) (kl : Lit) (hx : a.eval x = key) (hkey : keyOf P k key = some kl) (c : Value) (hc : D.atKey kl (.held z) = .held c) (f : Bool) (hf : Maps.has D kl = f)
    (hK : wpList P ops Q rest (a.put o.dst (.tuple #[c, .bool f])) w) : wpList P ops Q (o :: rest) a w := by
  refine wpList_plain hg fun K' hK' => ?_
  obtain ⟨v, ps, hrun, hv⟩ := hown.look_ok K ht hz (show rdV z = some (.held z, []) from rfl) hkey
  rw [hc] at hv
  obtain rfl : v = c := by simpa [rdV] using (congrArg (fun x => x.map Prod.fst) hv)
  rw [hf] at hrun
  unfold Oper.wp
  simp [execOp, hop, hm, hx, hrun, Result.andThen]
  exact hK' _ _ hK
end Go.Proofs.YthamkigdpgajaaaDoor
