/- A region that draws its order and holds several calls, one after the other, and operations that make memory among them (a slice that is built, an append): whatever order is picked for the operations beside them, one walk in the text's order serves all, their answers being letters. -/
import Derived.Test.YtakbpgljbbkmkaaPh
import Derived.Test.YtakbpgljbbkmkaaLw
namespace Go.Proofs.Ytakbpgljbbkmkaa
open Go.RowKit

theorem Calls.some {P : Program} {f : FuncId} {args : Array Value} {w : World} {R : Ending → World → Prop} (h : Calls P f args w R) : ∃ e w', R e w' :=
  let ⟨e, w', _, r, _⟩ := h []
  ⟨e, w', r⟩

section
variable {P : Program} {V : FuncId → Array Value → Value} {ops : Array Oper} {md : Region.Mode} {Cv : List Value → World → Prop} {cs : List Nat}

/-- An operation beside those yields this value, in every world of every class; or it calls a function that does (V says which value), and keeps the class. -/
def yldP (P : Program) (V : FuncId → Array Value → Value) (ops : Array Oper) (Cv : List Value → World → Prop) (o : Oper) (v : Value) (a : Act) : Prop :=
  (Region.wanted o (yielded ops a.tmps) = true ∧ ∀ vs w, Cv vs w → (∃ u, (execOp a.eval o).run P w = .ok (.value u) w ∧ u = v) ∨ ∃ f args, (execOp a.eval o).run P w = .ok (.enter f args) w ∧ V f args = v ∧ Calls P f args w fun e w'' => e = .returned v ∧ Cv vs w'') ∨
  (Region.wanted o (yielded ops a.tmps) = false ∧ v = undef)
/-- The next call: from its class into the next one. -/
def yldC (P : Program) (ops : Array Oper) (Cv : List Value → World → Prop) (vs : List Value) (o : Oper) (a : Act) : Prop :=
  Region.wanted o (yielded ops a.tmps) = true ∧ ∀ w, Cv vs w → (∃ f args, (execOp a.eval o).run P w = .ok (.enter f args) w ∧ Calls P f args w fun e w'' => ∃ v, e = .returned v ∧ Cv (vs ++ [v]) w'') ∨ ∃ v w'', ((execOp a.eval o).run P w = .ok (.value v) w'' ∨ ((execOp a.eval o).run P w = .ok .skip w'' ∧ v = undef)) ∧ Cv (vs ++ [v]) w''

theorem yldP.same {o : Oper} {v : Value} {a a' : Act} (h : yldP P V ops Cv o v a) (he : execOp a'.eval o = execOp a.eval o)
    (hw : Region.wanted o (yielded ops a'.tmps) = Region.wanted o (yielded ops a.tmps)) : yldP P V ops Cv o v a' := by
  unfold yldP at *
  rw [he, hw]
  exact h
theorem yldC.same {vs : List Value} {o : Oper} {a a' : Act} (h : yldC P ops Cv vs o a) (he : execOp a'.eval o = execOp a.eval o)
    (hw : Region.wanted o (yielded ops a'.tmps) = Region.wanted o (yielded ops a.tmps)) : yldC P ops Cv vs o a' := by
  unfold yldC at *
  rw [he, hw]
  exact h
theorem yldP.one {o : Oper} {u v : Value} {a : Act} (h1 : yldP P V ops Cv o u a) (h2 : yldP P V ops Cv o v a) (hin : ∃ vs w, Cv vs w) : u = v := by
  obtain ⟨vs, w, hw⟩ := hin
  rcases h1 with ⟨a1, b1⟩ | ⟨a1, rfl⟩
  · rcases h2 with ⟨a2, b2⟩ | ⟨a2, rfl⟩
    · rcases b1 vs w hw with ⟨x, e1, rfl⟩ | ⟨f, args, e1, v1, _⟩ <;> rcases b2 vs w hw with ⟨y, e2, rfl⟩ | ⟨g, brgs, e2, v2, _⟩ <;> rw [e1] at e2 <;> cases e2
      · rfl
      · exact v1.symm.trans v2
    · rw [a1] at a2; cases a2
  · rcases h2 with ⟨a2, b2⟩ | ⟨a2, rfl⟩
    · rw [a1] at a2; cases a2
    · rfl
theorem yldC.next {vs : List Value} {o : Oper} {a : Act} (h : yldC P ops Cv vs o a) (hin : ∃ w, Cv vs w) : ∃ v w, Cv (vs ++ [v]) w := by
  obtain ⟨w, hw⟩ := hin
  rcases h.2 w hw with ⟨f, args, _, hc⟩ | ⟨v, w', _, h2⟩
  · obtain ⟨e, w', v, _, h2⟩ := Calls.some hc
    exact ⟨v, w', h2⟩
  · exact ⟨v, w', h2⟩

def anyPv (P : Program) (V : FuncId → Array Value → Value) (md : Region.Mode) (ops : Array Oper) (Cv : List Value → World → Prop) (cs : List Nat) (n : Nat) (L : List Value → Array Bool → Act → Prop) : Nat → List Value → Array Bool → Act → Prop
  | 0, vs, ls, a => L vs ls a
  | f + 1, vs, ls, a => Region.ready md ops ls ≠ [] ∧ ∀ i ∈ Region.ready md ops ls, i < n ∧ ∃ o, ops[i]? = some o ∧
      ((i ∉ cs ∧ ∃ v, yldP P V ops Cv o v a ∧ anyPv P V md ops Cv cs n L f vs (ls.setIfInBounds i true) (a.put o.dst v)) ∨
       (cs[vs.length]? = some i ∧ yldC P ops Cv vs o a ∧ ∀ v, (∃ w, Cv (vs ++ [v]) w) → anyPv P V md ops Cv cs n L f (vs ++ [v]) (ls.setIfInBounds i true) (a.put o.dst v)))

theorem any_of_pv {n g : Nat} {L : List Value → Array Bool → Act → Prop} {Q : Exit → Act → World → Prop} (hL : ∀ vs ls a w, Cv vs w → L vs ls a → wpAny P md ops Q g ls a w) :
    ∀ (f : Nat) (vs : List Value) (ls : Array Bool) (a : Act) (w : World), Cv vs w → anyPv P V md ops Cv cs n L f vs ls a → wpAny P md ops Q (f + g) ls a w
  | 0, vs, ls, a, w, hw, h => by rw [Nat.zero_add]; exact hL _ _ _ _ hw h
  | f + 1, vs, ls, a, w, hw, h => by
    rw [show f + 1 + g = (f + g) + 1 by omega]
    refine ⟨fun h0 => absurd h0 h.1, fun i hi => ?_⟩
    obtain ⟨_, o, ho, hcase⟩ := h.2 i hi
    unfold wpOp
    simp only [ho]
    rcases hcase with ⟨_, v, hy, hn⟩ | ⟨_, hy, hn⟩
    · rcases hy with ⟨hwt, hy⟩ | ⟨hwt, rfl⟩
      · simp only [hwt, if_true]
        refine .inl ?_
        unfold Oper.wp
        rcases hy vs w hw with ⟨u, hr, rfl⟩ | ⟨g', args, hr, _, hcl⟩
        · rw [hr]
          simp only [Oper.upon]
          exact any_of_pv hL f vs _ _ _ hw hn
        · rw [hr]
          simp only [Oper.upon]
          exact hcl.mono fun e w'' ⟨he, hw''⟩ => by subst he; exact any_of_pv hL f vs _ _ _ hw'' hn
      · simp only [hwt, Bool.false_eq_true, if_false]
        exact any_of_pv hL f vs _ _ _ hw hn
    · obtain ⟨hwt, hy⟩ := hy
      simp only [hwt, if_true]
      refine .inl ?_
      unfold Oper.wp
      rcases hy w hw with ⟨g', args, hr, hc⟩ | ⟨v, w'', hr, hw''⟩
      · rw [hr]
        simp only [Oper.upon]
        exact hc.mono fun e w'' ⟨v, he, hw''⟩ => by subst he; exact any_of_pv hL f _ _ _ _ hw'' (hn v ⟨w'', hw''⟩)
      · rcases hr with hr | ⟨hr, rfl⟩
        · rw [hr]
          simp only [Oper.upon]
          exact any_of_pv hL f _ _ _ _ hw'' (hn v ⟨w'', hw''⟩)
        · rw [hr]
          simp only [Oper.upon]
          exact any_of_pv hL f _ _ _ _ hw'' (hn _ ⟨w'', hw''⟩)

theorem set_comm {α : Type} (ls : Array α) {i j : Nat} (h : j ≠ i) (x y : α) : (ls.setIfInBounds j x).setIfInBounds i y = (ls.setIfInBounds i y).setIfInBounds j x := Array.setIfInBounds_comm _ _ h

/-- An operation beside the calls may be taken first. -/
theorem pv_plain {n i : Nat} {oi : Oper} {v : Value} {L : List Value → Array Bool → Act → Prop} (hi : ops[i]? = some oi) (hic : i ∉ cs) (hsel : ∀ (j : Nat) (o : Oper) cs b, ops[j]? = some o → o.op ≠ .select cs b)
    (hs : Region.sinkB md ops n = true) (hc : Region.chainB md ops n = true) (hn : n < ops.size) (hin : i < n) (hend : ∀ vs ls a, L vs ls a → ∀ j ∈ Region.ready md ops ls, n ≤ j)
    (f : Nat) : ∀ (vs : List Value) (ls : Array Bool) (a : Act), HeadInv md ops n ls →
      (∀ j oj, ops[j]? = some oj → j ≠ i → ls.getD j true = false → (∀ e ∈ oj.after, Region.binds md e = true → e.on ≠ i) → oi.apart ops oj = true) →
      i ∈ Region.ready md ops ls → yldP P V ops Cv oi v a → anyPv P V md ops Cv cs n L f vs (ls.setIfInBounds i true) (a.put oi.dst v) → anyPv P V md ops Cv cs n L (f + 1) vs ls a := by
  induction f with
  | zero =>
    intro vs ls a inv _ hr hy H
    have un := (mem_ready.1 hr).1
    refine ⟨fun h => (by rw [h] at hr; cases hr), fun j hj => ?_⟩
    have hjn : j < n := Nat.lt_of_not_le fun h => tail_waits hs hc hn inv _ i rfl hin un j h hj
    refine ⟨hjn, ?_⟩
    by_cases hji : j = i
    · subst hji; exact ⟨_, hi, .inl ⟨hic, _, hy, H⟩⟩
    · exact absurd (hend _ _ _ H j (ready_mono hj hji)) (by omega)
  | succ f ih =>
    intro vs ls a inv hfree hr hy H
    have un := (mem_ready.1 hr).1
    refine ⟨fun h => (by rw [h] at hr; cases hr), fun j hj => ?_⟩
    have hjn : j < n := Nat.lt_of_not_le fun h => tail_waits hs hc hn inv _ i rfl hin un j h hj
    refine ⟨hjn, ?_⟩
    by_cases hji : j = i
    · subst hji; exact ⟨_, hi, .inl ⟨hic, _, hy, H⟩⟩
    · obtain ⟨_, oj, hoj, hcase⟩ := H.2 j (ready_mono hj hji)
      obtain ⟨jun, oj', hoj', hall⟩ := mem_ready.1 hj
      obtain rfl : oj' = oj := Option.some.inj (hoj'.symm.trans hoj)
      have hnot : ∀ e ∈ oj'.after, Region.binds md e = true → e.on ≠ i := fun e he hb heq => by
        have h2 := hall e he hb
        rw [heq, getD_both un] at h2
        cases h2
      obtain ⟨h1, h2, h3⟩ := Oper.apart_spec (hfree j oj' hoj hji jun hnot)
      have si : ∀ cs b, oi.op ≠ .select cs b := fun cs b => hsel i oi cs b hi
      have sj : ∀ cs b, oj'.op ≠ .select cs b := fun cs b => hsel j oj' cs b hoj
      have hfree' : ∀ k ok, ops[k]? = some ok → k ≠ i → (ls.setIfInBounds j true).getD k true = false → (∀ e ∈ ok.after, Region.binds md e = true → e.on ≠ i) → oi.apart ops ok = true := fun k ok hk hki kun hno => hfree k ok hk hki (by
        by_cases hjk : j = k
        · subst hjk; exact jun
        · rwa [getD_set_ne true hjk] at kun) hno
      refine ⟨oj', hoj, ?_⟩
      rcases hcase with ⟨hjc, u, hyj, H'⟩ | ⟨hjc, hyj, H'⟩
      · refine .inl ⟨hjc, u, hyj.same (execOp_put oj' sj a oi.dst v h1).symm (wanted_put oj' a oi.dst v h1).symm, ?_⟩
        refine ih vs (ls.setIfInBounds j true) _ (inv.set hj hjn) hfree' (ready_mono hr (Ne.symm hji)) (hy.same (execOp_put oi si a oj'.dst u h3) (wanted_put oi a oj'.dst u h3)) ?_
        rw [set_comm _ hji, ← Act.put_comm a v u h2]
        exact H'
      · refine .inr ⟨hjc, hyj.same (execOp_put oj' sj a oi.dst v h1).symm (wanted_put oj' a oi.dst v h1).symm, fun u hu => ?_⟩
        refine ih _ (ls.setIfInBounds j true) _ (inv.set hj hjn) hfree' (ready_mono hr (Ne.symm hji)) (hy.same (execOp_put oi si a oj'.dst u h3) (wanted_put oi a oj'.dst u h3)) ?_
        rw [set_comm _ hji, ← Act.put_comm a v u h2]
        exact H' u hu

/-- Where one operation has come up, so has another one for which it waits, at once or by others between. -/
def chained (md : Region.Mode) (ops : Array Oper) (cs : List Nat) : Prop := ∀ k i j, cs[k]? = some i → cs[k + 1]? = some j → ∀ (ls : Array Bool) (o : Oper), ops[j]? = some o →
  (∀ m om, ops[m]? = some om → ls.getD m false = true → ∀ e ∈ om.after, Region.binds md e = true → ls.getD e.on false = true) → (∀ e ∈ o.after, Region.binds md e = true → ls.getD e.on false = true) → ls.getD i false = true
/-- The same, told by a program. -/
def reachB (md : Region.Mode) (ops : Array Oper) (i : Nat) : Nat → Nat → Bool
  | 0, _ => false
  | f + 1, j => match ops[j]? with
    | some o => o.after.any fun e => Region.binds md e && (e.on == i || reachB md ops i f e.on)
    | none => false
theorem reach_of {i : Nat} {ls : Array Bool} (hcl : ∀ m om, ops[m]? = some om → ls.getD m false = true → ∀ e ∈ om.after, Region.binds md e = true → ls.getD e.on false = true) :
    ∀ (f j : Nat) (o : Oper), ops[j]? = some o → (∀ e ∈ o.after, Region.binds md e = true → ls.getD e.on false = true) → reachB md ops i f j = true → ls.getD i false = true
  | 0, _, _, _, _, h => by cases h
  | f + 1, j, o, ho, hl, h => by
    unfold reachB at h
    rw [ho] at h
    obtain ⟨e, he, h3⟩ := Array.any_eq_true'.1 h
    rw [Bool.and_eq_true, Bool.or_eq_true] at h3
    obtain ⟨hb, h4⟩ := h3
    have hon := hl e he hb
    rcases h4 with h4 | h4
    · rwa [show e.on = i by simpa using h4] at hon
    · cases hoe : ops[e.on]? with
      | none =>
        exfalso
        cases f with
        | zero => cases h4
        | succ f => unfold reachB at h4; rw [hoe] at h4; cases h4
      | some o2 => exact reach_of hcl f e.on o2 hoe (hcl _ _ hoe hon) h4
def chainedB (md : Region.Mode) (ops : Array Oper) (cs : List Nat) : Bool :=
  (List.range cs.length).all fun k => match cs[k]?, cs[k + 1]? with
    | some i, some j => reachB md ops i ops.size j
    | _, _ => true
theorem chained_of (h : chainedB md ops cs = true) : chained md ops cs := fun k i j h1 h2 ls o ho hcl hl => by
  unfold chainedB at h
  rw [List.all_eq_true] at h
  have hk := h k (List.mem_range.2 (by have := (List.getElem?_eq_some_iff.1 h1).1; exact this))
  simp only [h1, h2] at hk
  exact reach_of hcl _ j o ho hl hk

/-- The next call may be taken first. -/
theorem pv_call {n i : Nat} {oi : Oper} {L : List Value → Array Bool → Act → Prop} (hi : ops[i]? = some oi) (hch : chained md ops cs) (hsel : ∀ (j : Nat) (o : Oper) cs b, ops[j]? = some o → o.op ≠ .select cs b)
    (hs : Region.sinkB md ops n = true) (hc : Region.chainB md ops n = true) (hn : n < ops.size) (hin : i < n) (hend : ∀ vs ls a, L vs ls a → ∀ j ∈ Region.ready md ops ls, n ≤ j)
    (f : Nat) : ∀ (vs : List Value) (ls : Array Bool) (a : Act), cs[vs.length]? = some i → (∃ w, Cv vs w) → HeadInv md ops n ls →
      (∀ j oj, ops[j]? = some oj → j ≠ i → ls.getD j true = false → (∀ e ∈ oj.after, Region.binds md e = true → e.on ≠ i) → oi.apart ops oj = true) →
      i ∈ Region.ready md ops ls → yldC P ops Cv vs oi a → (∀ v, (∃ w, Cv (vs ++ [v]) w) → anyPv P V md ops Cv cs n L f (vs ++ [v]) (ls.setIfInBounds i true) (a.put oi.dst v)) → anyPv P V md ops Cv cs n L (f + 1) vs ls a := by
  induction f with
  | zero =>
    intro vs ls a hic hw inv _ hr hy H
    have un := (mem_ready.1 hr).1
    refine ⟨fun h => (by rw [h] at hr; cases hr), fun j hj => ?_⟩
    have hjn : j < n := Nat.lt_of_not_le fun h => tail_waits hs hc hn inv _ i rfl hin un j h hj
    refine ⟨hjn, ?_⟩
    by_cases hji : j = i
    · subst hji; exact ⟨_, hi, .inr ⟨hic, hy, H⟩⟩
    · obtain ⟨v, w, hv⟩ := hy.next hw
      exact absurd (hend _ _ _ (H v ⟨w, hv⟩) j (ready_mono hj hji)) (by omega)
  | succ f ih =>
    intro vs ls a hic hw inv hfree hr hy H
    have un := (mem_ready.1 hr).1
    refine ⟨fun h => (by rw [h] at hr; cases hr), fun j hj => ?_⟩
    have hjn : j < n := Nat.lt_of_not_le fun h => tail_waits hs hc hn inv _ i rfl hin un j h hj
    refine ⟨hjn, ?_⟩
    by_cases hji : j = i
    · subst hji; exact ⟨_, hi, .inr ⟨hic, hy, H⟩⟩
    · obtain ⟨v0, w0, hv0⟩ := hy.next hw
      obtain ⟨_, oj, hoj, hcase⟩ := (H v0 ⟨w0, hv0⟩).2 j (ready_mono hj hji)
      obtain ⟨jun, oj', hoj', hall⟩ := mem_ready.1 hj
      obtain rfl : oj' = oj := Option.some.inj (hoj'.symm.trans hoj)
      have hnot : ∀ e ∈ oj'.after, Region.binds md e = true → e.on ≠ i := fun e he hb heq => by
        have h2 := hall e he hb
        rw [heq, getD_both un] at h2
        cases h2
      obtain ⟨h1, h2, h3⟩ := Oper.apart_spec (hfree j oj' hoj hji jun hnot)
      have si : ∀ cs b, oi.op ≠ .select cs b := fun cs b => hsel i oi cs b hi
      have sj : ∀ cs b, oj'.op ≠ .select cs b := fun cs b => hsel j oj' cs b hoj
      have hfree' : ∀ k ok, ops[k]? = some ok → k ≠ i → (ls.setIfInBounds j true).getD k true = false → (∀ e ∈ ok.after, Region.binds md e = true → e.on ≠ i) → oi.apart ops ok = true := fun k ok hk hki kun hno => hfree k ok hk hki (by
        by_cases hjk : j = k
        · subst hjk; exact jun
        · rwa [getD_set_ne true hjk] at kun) hno
      have back : ∀ {v u : Value}, yldP P V ops Cv oj' u (a.put oi.dst v) → yldP P V ops Cv oj' u a := fun {v u} h => h.same (execOp_put oj' sj a oi.dst v h1).symm (wanted_put oj' a oi.dst v h1).symm
      rcases hcase with ⟨hjc, u, hyj, _⟩ | ⟨hjc, _, _⟩
      · have hyj' := back hyj
        refine ⟨oj', hoj, .inl ⟨hjc, u, hyj', ih vs (ls.setIfInBounds j true) _ hic hw (inv.set hj hjn) hfree' (ready_mono hr (Ne.symm hji)) (hy.same (execOp_put oi si a oj'.dst u h3) (wanted_put oi a oj'.dst u h3)) fun v hv => ?_⟩⟩
        obtain ⟨_, ok, hok, hcase'⟩ := (H v hv).2 j (ready_mono hj hji)
        obtain rfl : oj' = ok := Option.some.inj (hoj.symm.trans hok)
        rcases hcase' with ⟨_, u', hyk, H'⟩ | ⟨hk, _, _⟩
        · obtain rfl : u' = u := (back hyk).one hyj' (hw.elim fun w h => ⟨vs, w, h⟩)
          rw [set_comm _ hji, ← Act.put_comm a v u' h2]
          exact H'
        · exact absurd (List.mem_of_getElem? hk) hjc
      · rw [List.length_append, List.length_singleton] at hjc
        have h9 := hch _ _ _ hic hjc ls oj' hoj inv.closed (fun e he hb => hall e he hb)
        rw [getD_both un] at h9
        cases h9

/-- The walk in the text's order. -/
def walkPv (P : Program) (V : FuncId → Array Value → Value) (ops : Array Oper) (Cv : List Value → World → Prop) (cs : List Nat) (K : List Value → Act → Prop) : Nat → List Value → List Oper → Act → Prop
  | _, vs, [], a => K vs a
  | k, vs, o :: l, a => (k ∉ cs ∧ ∃ v, yldP P V ops Cv o v a ∧ walkPv P V ops Cv cs K (k + 1) vs l (a.put o.dst v)) ∨
      (cs[vs.length]? = some k ∧ yldC P ops Cv vs o a ∧ ∀ v, (∃ w, Cv (vs ++ [v]) w) → walkPv P V ops Cv cs K (k + 1) (vs ++ [v]) l (a.put o.dst v))

theorem pv_lex {n g : Nat} {K : List Value → Act → Prop} (hch : chained md ops cs) (hsel : Region.noSelect ops = true) (hs : Region.sinkB md ops n = true) (hc : Region.chainB md ops n = true) (hn : n < ops.size) :
    ∀ (l : List Oper) (k : Nat) (vs : List Value) (ls : Array Bool) (a : Act), (∃ w, Cv vs w) → (∀ j, j < l.length → l[j]? = ops[k + j]?) → k + l.length = n → HeadInv md ops n ls →
    Region.lexHead md ops g l.length k ls = true → walkPv P V ops Cv cs K k vs l a → anyPv P V md ops Cv cs n (fun vs' ls' a' => Region.seqB md ops g n ls' = true ∧ K vs' a') l.length vs ls a
  | [], k, vs, ls, a, _, _, hk, _, hB, h => by
    obtain rfl : k = n := by simpa using hk
    exact ⟨by simpa [Region.lexHead] using hB, h⟩
  | o :: l, k, vs, ls, a, hw, hl, hk, inv, hB, h => by
    have h0 : ops[k]? = some o := by simpa using (hl 0 (by simp)).symm
    simp only [List.length_cons] at hk
    simp only [List.length_cons, Region.lexHead, Bool.and_eq_true] at hB
    obtain ⟨⟨hr, hf⟩, hB'⟩ := hB
    have hr' : k ∈ Region.ready md ops ls := by simpa using hr
    have next : ∀ vs' a', (∃ w, Cv vs' w) → walkPv P V ops Cv cs K (k + 1) vs' l a' → anyPv P V md ops Cv cs n (fun vs' ls' a' => Region.seqB md ops g n ls' = true ∧ K vs' a') l.length vs' (ls.setIfInBounds k true) a' := fun vs' a' hw' h' =>
      pv_lex hch hsel hs hc hn l (k + 1) vs' _ _ hw' (fun j hj => by have := hl (j + 1) (by simp; omega); simpa [Nat.add_assoc, Nat.add_comm 1 j] using this) (by omega) (inv.set hr' (by omega)) hB' h'
    rcases h with ⟨hkc, v, hy, hK⟩ | ⟨hkc, hy, hK⟩
    · exact pv_plain h0 hkc (Region.noSelect_spec hsel) hs hc hn (by omega) (fun vs' ls' a' hL => seqB_ready hL.1) l.length vs ls a inv (Region.free_spec h0 hf) hr' hy (next vs _ hw hK)
    · exact pv_call h0 hch (Region.noSelect_spec hsel) hs hc hn (by omega) (fun vs' ls' a' hL => seqB_ready hL.1) l.length vs ls a hkc hw inv (Region.free_spec h0 hf) hr' hy fun v hv => next _ _ hv (hK v hv)

theorem region_pv {id : Nat} {Q : Exit → Act → World → Prop} {a : Act} {w : World} {l : List Oper} (n : Nat) (hm : P.follows .mixedOrders = true) (hB : Region.lexTailB .any l.toArray n = true) (hch : chainedB .any l.toArray cs = true) (hC : Cv [] w.drew)
    (h : walkPv P V l.toArray Cv cs (fun vs a' => ∀ w', Cv vs w' → wpList P l.toArray Q (l.drop n) a' w') 0 [] (l.take n) a) : (Code.region id l.toArray true).wp P Q a w := by
  simp only [Region.lexTailB, Bool.and_eq_true, decide_eq_true_eq] at hB
  obtain ⟨⟨⟨⟨hsel, hn⟩, hs⟩, hc⟩, hlex⟩ := hB
  have hn' : n < l.length := by simpa using hn
  have htl : (l.take n).length = n := by simp; omega
  have hdl : (l.drop n).length = l.toArray.size - n := by simp
  have inv0 : HeadInv .any l.toArray n (Array.replicate l.toArray.size false) :=
    ⟨by simp, fun j oj _ hl => (by rw [getD_replicate_false] at hl; cases hl), fun t _ ht => getD_in (by simpa using ht) (getD_replicate_false _ _)⟩
  have H := pv_lex (md := .any) (g := l.toArray.size - n) (chained_of hch) hsel hs hc hn (l.take n) 0 [] _ a ⟨_, hC⟩ (fun j hj => by
    have hj' : j < n := by rw [htl] at hj; exact hj
    simp [hj']) (by simpa using htl) inv0 (by rw [htl]; exact hlex) h
  refine wp_region_any hm ?_
  have := any_of_pv (Q := Q) (g := l.toArray.size - n) (fun vs ls a' w' hw' hL => by
    have := wpAny_of_seq (md := .any) (Q' := Q) (l.drop n) n ls a' w' (fun j => by simp [List.getElem?_drop]) (by rw [hdl]; exact hL.1) (hL.2 w' hw')
    rwa [hdl] at this) _ _ _ _ _ hC H
  rw [htl, show n + (l.toArray.size - n) = l.toArray.size by omega] at this
  exact this

/-- A world of any class. -/
structure PvW (Cv : List Value → World → Prop) where
  vs : List Value
  w : World
  h : Cv vs w

theorem PvW.there {w : World} (h : Cv [] w) : Nonempty (PvW Cv) := ⟨⟨[], w, h⟩⟩
/-- Operations that hand back a value, or go wrong; slices of slices among them. -/
def plainOp2 (o : Oper) : Bool := plainOp o || (match o.op with | .slice .. => true | .pick .. => true | _ => false)
theorem plain_next2 {o : Oper} (h : plainOp2 o = true) {ρ : Operand → Value} {w w' : World} {n : Next} (hr : (execOp ρ o).run P w = .ok n w') : ∃ u, n = .value u := by
  unfold plainOp2 at h
  by_cases h1 : plainOp o = true
  · exact plain_next h1 hr
  · rw [Bool.not_eq_true] at h1
    rw [h1, Bool.false_or] at h
    unfold execOp at hr
    generalize o.op = op at h hr
    cases op
    all_goals first
      | (exact (Bool.false_ne_true h).elim)
      | (exact plain_value hr)
      | (cases hr; exact ⟨_, rfl⟩)
      | (rename_i c _ _
         rw [Sem.run_bind] at hr
         cases hs : (asBool (ρ c)).run P w with
         | ok u w1 =>
           rw [hs] at hr
           simp only [Result.andThen] at hr
           cases hr
           exact ⟨_, rfl⟩
         | halt x w1 => rw [hs] at hr; simp only [Result.andThen] at hr; cases hr)
theorem pv_quiet {k : Nat} {vs : List Value} {o : Oper} {l : List Oper} {a : Act} {K : List Value → Act → Prop} (hk : k ∉ cs) (hp : plainOp2 o = true) (hwt : Region.wanted o (yielded ops a.tmps) = true)
    (h : ∀ K' : Act → Prop, (∀ a', walkPv P V ops Cv cs K (k + 1) vs l a' → K' a') → o.quiet P a (fun w' => ∃ x : PvW Cv, w' = x.w) K') : walkPv P V ops Cv cs K k vs (o :: l) a := by
  obtain ⟨v, h1, h2⟩ := h _ fun _ h => h
  refine .inl ⟨hk, v, .inl ⟨hwt, fun vs' w hw => ?_⟩, h2⟩
  have h3 := h1 w ⟨⟨vs', w, hw⟩, rfl⟩
  unfold Oper.quietAt at h3
  cases hr : (execOp a.eval o).run P w with
  | ok n w' =>
    obtain ⟨u, rfl⟩ := plain_next2 hp hr
    rw [hr] at h3
    simp only [Oper.quietUpon] at h3
    obtain ⟨rfl, rfl⟩ := h3
    exact .inl ⟨_, rfl, rfl⟩
  | halt x w' => rw [hr] at h3; simp only [Oper.quietUpon] at h3
theorem pv_value {k : Nat} {vs : List Value} {o : Oper} {l : List Oper} {a : Act} {K : List Value → Act → Prop} (hk : k ∉ cs) (v : Value) (hwt : Region.wanted o (yielded ops a.tmps) = true)
    (hr : ∀ vs' w, Cv vs' w → (execOp a.eval o).run P w = .ok (.value v) w) (h : walkPv P V ops Cv cs K (k + 1) vs l (a.put o.dst v)) : walkPv P V ops Cv cs K k vs (o :: l) a :=
  .inl ⟨hk, v, .inl ⟨hwt, fun vs' w hw => .inl ⟨v, hr vs' w hw, rfl⟩⟩, h⟩
theorem pv_enter {k : Nat} {vs : List Value} {o : Oper} {l : List Oper} {a : Act} {K : List Value → Act → Prop} {f : FuncId} {args : Array Value} (hk : cs[vs.length]? = some k) (hwt : Region.wanted o (yielded ops a.tmps) = true)
    (hr : ∀ w, Cv vs w → (execOp a.eval o).run P w = .ok (.enter f args) w) (hc : ∀ w, Cv vs w → Calls P f args w fun e w'' => ∃ v, e = .returned v ∧ Cv (vs ++ [v]) w'')
    (h : ∀ v, (∃ w, Cv (vs ++ [v]) w) → walkPv P V ops Cv cs K (k + 1) (vs ++ [v]) l (a.put o.dst v)) : walkPv P V ops Cv cs K k vs (o :: l) a :=
  .inr ⟨hk, ⟨hwt, fun w hw => .inl ⟨f, args, hr w hw, hc w hw⟩⟩, h⟩
/-- A store. -/
theorem pv_stored {k : Nat} {vs : List Value} {o : Oper} {l : List Oper} {a : Act} {K : List Value → Act → Prop} (hk : cs[vs.length]? = some k) (hwt : Region.wanted o (yielded ops a.tmps) = true)
    (hr : ∀ w, Cv vs w → ∃ w'', (execOp a.eval o).run P w = .ok .skip w'' ∧ Cv (vs ++ [undef]) w'')
    (h : ∀ v, (∃ w, Cv (vs ++ [v]) w) → walkPv P V ops Cv cs K (k + 1) (vs ++ [v]) l (a.put o.dst v)) : walkPv P V ops Cv cs K k vs (o :: l) a :=
  .inr ⟨hk, ⟨hwt, fun w hw => .inr (let ⟨w2, h1, h2⟩ := hr w hw; ⟨undef, w2, .inr ⟨h1, rfl⟩, h2⟩)⟩, h⟩
/-- A call that hands back this value wherever it comes. -/
theorem pv_kept {k : Nat} {vs : List Value} {o : Oper} {l : List Oper} {a : Act} {K : List Value → Act → Prop} {f : FuncId} {args : Array Value} (hk : k ∉ cs) (v : Value) (hwt : Region.wanted o (yielded ops a.tmps) = true)
    (hr : ∀ vs' w, Cv vs' w → (execOp a.eval o).run P w = .ok (.enter f args) w) (hV : V f args = v) (hc : ∀ vs' w, Cv vs' w → Calls P f args w fun e w'' => e = .returned v ∧ Cv vs' w'') (h : walkPv P V ops Cv cs K (k + 1) vs l (a.put o.dst v)) : walkPv P V ops Cv cs K k vs (o :: l) a :=
  .inl ⟨hk, v, .inl ⟨hwt, fun vs' w hw => .inr ⟨f, args, hr vs' w hw, hV, hc vs' w hw⟩⟩, h⟩
theorem pv_made {k : Nat} {vs : List Value} {o : Oper} {l : List Oper} {a : Act} {K : List Value → Act → Prop} (hk : cs[vs.length]? = some k) (hwt : Region.wanted o (yielded ops a.tmps) = true)
    (hr : ∀ w, Cv vs w → ∃ v w'', (execOp a.eval o).run P w = .ok (.value v) w'' ∧ Cv (vs ++ [v]) w'')
    (h : ∀ v, (∃ w, Cv (vs ++ [v]) w) → walkPv P V ops Cv cs K (k + 1) (vs ++ [v]) l (a.put o.dst v)) : walkPv P V ops Cv cs K k vs (o :: l) a :=
  .inr ⟨hk, ⟨hwt, fun w hw => .inr (let ⟨v, w2, h1, h2⟩ := hr w hw; ⟨v, w2, .inl h1, h2⟩)⟩, h⟩
end

/-- A variable of two integers is made and written, beside whatever else. -/
def mkC2 (W : World) (x y : Int) (vs : List Value) (w : World) : Prop := Below W.heap.size W w ∧ match vs with
  | [] => True
  | [v] => ∃ g, v = .pointer (some ⟨g, 0, none⟩) ∧ W.heap.size ≤ g ∧ Var2 w g 0 0
  | [v, _] => ∃ g, v = .pointer (some ⟨g, 0, none⟩) ∧ W.heap.size ≤ g ∧ Var2 w g x y
  | _ => False
theorem mkC2.below {W : World} {x y : Int} {vs : List Value} {w w' : World} (h : mkC2 W x y vs w) (hb : Below w.heap.size w w') : mkC2 W x y vs w' := by
  obtain ⟨h1, h2⟩ := h
  refine ⟨h1.trans (hb.mono h1.size), ?_⟩
  match vs, h2 with
  | [], _ => trivial
  | [v], ⟨g, e, hg, hv⟩ => exact ⟨g, e, hg, hv.below hb⟩
  | [v, _], ⟨g, e, hg, hv⟩ => exact ⟨g, e, hg, hv.below hb⟩
def mkC3 (W : World) (x y z : Int) (vs : List Value) (w : World) : Prop := Below W.heap.size W w ∧ match vs with
  | [] => True
  | [v] => ∃ g, v = .pointer (some ⟨g, 0, none⟩) ∧ W.heap.size ≤ g ∧ Var3 w g 0 0 0
  | [v, _] => ∃ g, v = .pointer (some ⟨g, 0, none⟩) ∧ W.heap.size ≤ g ∧ Var3 w g x y z
  | _ => False
theorem mkC3.below {W : World} {x y z : Int} {vs : List Value} {w w' : World} (h : mkC3 W x y z vs w) (hb : Below w.heap.size w w') : mkC3 W x y z vs w' := by
  obtain ⟨h1, h2⟩ := h
  refine ⟨h1.trans (hb.mono h1.size), ?_⟩
  match vs, h2 with
  | [], _ => trivial
  | [v], ⟨g, e, hg, hv⟩ => exact ⟨g, e, hg, hv.below hb⟩
  | [v, _], ⟨g, e, hg, hv⟩ => exact ⟨g, e, hg, hv.below hb⟩
end Go.Proofs.Ytakbpgljbbkmkaa
