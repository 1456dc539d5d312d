/- A region that draws its order and holds a chain of calls and of operations that make memory, and beside it one operation more that makes memory and waits for none of them (the variable of a struct). One walk in the text's order serves all orders. -/
import Derived.Test.YtakbpgljbbkmkaaPw
namespace Go.Proofs.Ytakbpgljbbkmkaa
open Go.RowKit

section
variable {P : Program} {G : Value → Prop} {ops : Array Oper} {md : Region.Mode} {Cv : List Value → Option Value → World → Prop} {cs : List Nat} {d : Nat}

/-- An operation beside those yields this value, in every world of every class. -/
def yldF (P : Program) (ops : Array Oper) (Cv : List Value → Option Value → World → Prop) (o : Oper) (v : Value) (a : Act) : Prop :=
  (Region.wanted o (yielded ops a.tmps) = true ∧ ∀ vs og w, Cv vs og w → (execOp a.eval o).run P w = .ok (.value v) w) ∨ (Region.wanted o (yielded ops a.tmps) = false ∧ v = undef)
/-- The chain's next one; as long as the other one has not come up, it must serve both ways. -/
def yldG (P : Program) (ops : Array Oper) (Cv : List Value → Option Value → World → Prop) (vs : List Value) (og : Option Value) (o : Oper) (a : Act) : Prop :=
  Region.wanted o (yielded ops a.tmps) = true ∧ (∃ v og' w, Cv (vs ++ [v]) og' w) ∧ ∀ og' w, (og = none ∨ og' = og) → Cv vs og' w → (∃ f args, (execOp a.eval o).run P w = .ok (.enter f args) w ∧ Calls P f args w fun e w'' => ∃ v, e = .returned v ∧ Cv (vs ++ [v]) og' w'') ∨ ∃ v w'', ((execOp a.eval o).run P w = .ok (.value v) w'' ∨ ((execOp a.eval o).run P w = .ok .skip w'' ∧ v = undef)) ∧ Cv (vs ++ [v]) og' w''
/-- The one that floats. -/
def yldD (P : Program) (G : Value → Prop) (ops : Array Oper) (Cv : List Value → Option Value → World → Prop) (o : Oper) (a : Act) : Prop :=
  Region.wanted o (yielded ops a.tmps) = true ∧ ∀ vs w, Cv vs none w → ∃ g w'', (execOp a.eval o).run P w = .ok (.value g) w'' ∧ G g ∧ Cv vs (some g) w''
theorem yldF.same {o : Oper} {v : Value} {a a' : Act} (h : yldF P ops Cv o v a) (he : execOp a'.eval o = execOp a.eval o)
    (hw : Region.wanted o (yielded ops a'.tmps) = Region.wanted o (yielded ops a.tmps)) : yldF P ops Cv o v a' := by
  unfold yldF at *
  rw [he, hw]
  exact h
theorem yldG.same {vs : List Value} {og : Option Value} {o : Oper} {a a' : Act} (h : yldG P ops Cv vs og o a) (he : execOp a'.eval o = execOp a.eval o)
    (hw : Region.wanted o (yielded ops a'.tmps) = Region.wanted o (yielded ops a.tmps)) : yldG P ops Cv vs og o a' := by
  unfold yldG at *
  rw [he, hw]
  exact h
theorem yldD.same {o : Oper} {a a' : Act} (h : yldD P G ops Cv o a) (he : execOp a'.eval o = execOp a.eval o)
    (hw : Region.wanted o (yielded ops a'.tmps) = Region.wanted o (yielded ops a.tmps)) : yldD P G ops Cv o a' := by
  unfold yldD at *
  rw [he, hw]
  exact h
theorem yldF.one {o : Oper} {u v : Value} {a : Act} (h1 : yldF P ops Cv o u a) (h2 : yldF P ops Cv o v a) (hin : ∃ vs og w, Cv vs og w) : u = v := by
  obtain ⟨vs, og, w, hw⟩ := hin
  rcases h1 with ⟨a1, b1⟩ | ⟨a1, rfl⟩
  · rcases h2 with ⟨a2, b2⟩ | ⟨a2, rfl⟩
    · have e1 := b1 vs og w hw
      rw [b2 vs og w hw] at e1
      cases e1
      rfl
    · rw [a1] at a2; cases a2
  · rcases h2 with ⟨a2, b2⟩ | ⟨a2, rfl⟩
    · rw [a1] at a2; cases a2
    · rfl
theorem yldG.next {vs : List Value} {og : Option Value} {o : Oper} {a : Act} (h : yldG P ops Cv vs og o a) : ∃ v og w, Cv (vs ++ [v]) og w := h.2.1
theorem yldG.float {vs : List Value} {o : Oper} {a : Act} (h : yldG P ops Cv vs none o a) (og : Option Value) : yldG P ops Cv vs og o a := ⟨h.1, h.2.1, fun og' w _ hw => h.2.2 og' w (.inl rfl) hw⟩

def anyF (P : Program) (G : Value → Prop) (md : Region.Mode) (ops : Array Oper) (Cv : List Value → Option Value → World → Prop) (cs : List Nat) (d n : Nat) (L : List Value → Option Value → Array Bool → Act → Prop) : Nat → List Value → Option Value → Array Bool → Act → Prop
  | 0, vs, og, ls, a => L vs og ls a
  | f + 1, vs, og, ls, a => Region.ready md ops ls ≠ [] ∧ ∀ i ∈ Region.ready md ops ls, i < n ∧ ∃ o, ops[i]? = some o ∧
      ((i ∉ cs ∧ i ≠ d ∧ ∃ v, yldF P ops Cv o v a ∧ anyF P G md ops Cv cs d n L f vs og (ls.setIfInBounds i true) (a.put o.dst v)) ∨
       (i ≠ d ∧ cs[vs.length]? = some i ∧ yldG P ops Cv vs og o a ∧ ∀ v, (∃ og w, Cv (vs ++ [v]) og w) → anyF P G md ops Cv cs d n L f (vs ++ [v]) og (ls.setIfInBounds i true) (a.put o.dst v)) ∨
       (i = d ∧ og = none ∧ yldD P G ops Cv o a ∧ ∀ g, G g → anyF P G md ops Cv cs d n L f vs (some g) (ls.setIfInBounds i true) (a.put o.dst g)))

theorem any_of_pf {n g : Nat} {L : List Value → Option Value → Array Bool → Act → Prop} {Q : Exit → Act → World → Prop} (hL : ∀ vs og ls a w, Cv vs og w → L vs og ls a → wpAny P md ops Q g ls a w) :
    ∀ (f : Nat) (vs : List Value) (og : Option Value) (ls : Array Bool) (a : Act) (w : World), Cv vs og w → anyF P G md ops Cv cs d n L f vs og ls a → wpAny P md ops Q (f + g) ls a w
  | 0, vs, og, ls, a, w, hw, h => by rw [Nat.zero_add]; exact hL _ _ _ _ _ hw h
  | f + 1, vs, og, ls, a, w, hw, h => by
    rw [show f + 1 + g = (f + g) + 1 by omega]
    refine ⟨fun h0 => absurd h0 h.1, fun i hi => ?_⟩
    obtain ⟨_, o, ho, hcase⟩ := h.2 i hi
    unfold wpOp
    simp only [ho]
    rcases hcase with ⟨_, _, v, hy, hn⟩ | ⟨_, _, hy, hn⟩ | ⟨_, rfl, hy, hn⟩
    · rcases hy with ⟨hwt, hy⟩ | ⟨hwt, rfl⟩
      · simp only [hwt, if_true]
        refine .inl ?_
        unfold Oper.wp
        rw [hy vs og w hw]
        simp only [Oper.upon]
        exact any_of_pf hL f vs og _ _ _ hw hn
      · simp only [hwt, Bool.false_eq_true, if_false]
        exact any_of_pf hL f vs og _ _ _ hw hn
    · obtain ⟨hwt, _, hy⟩ := hy
      simp only [hwt, if_true]
      refine .inl ?_
      unfold Oper.wp
      rcases hy og w (.inr rfl) hw with ⟨g', args, hr, hc⟩ | ⟨v, w'', hr, hw''⟩
      · rw [hr]
        simp only [Oper.upon]
        exact hc.mono fun e w'' ⟨v, he, hw''⟩ => by subst he; exact any_of_pf hL f _ _ _ _ _ hw'' (hn v ⟨og, w'', hw''⟩)
      · rcases hr with hr | ⟨hr, rfl⟩
        · rw [hr]
          simp only [Oper.upon]
          exact any_of_pf hL f _ _ _ _ _ hw'' (hn v ⟨og, w'', hw''⟩)
        · rw [hr]
          simp only [Oper.upon]
          exact any_of_pf hL f _ _ _ _ _ hw'' (hn _ ⟨og, w'', hw''⟩)
    · obtain ⟨hwt, hy⟩ := hy
      simp only [hwt, if_true]
      refine .inl ?_
      unfold Oper.wp
      obtain ⟨v, w'', hr, hg, hw''⟩ := hy vs w hw
      rw [hr]
      simp only [Oper.upon]
      exact any_of_pf hL f _ _ _ _ _ hw'' (hn v hg)

/-- An operation beside the chain may be taken first. -/
theorem pf_plain {n i : Nat} {oi : Oper} {v : Value} {L : List Value → Option Value → Array Bool → Act → Prop} (hi : ops[i]? = some oi) (hic : i ∉ cs) (hid : i ≠ d) (hsel : ∀ (j : Nat) (o : Oper) cs b, ops[j]? = some o → o.op ≠ .select cs b)
    (hs : Region.sinkB md ops n = true) (hc : Region.chainB md ops n = true) (hn : n < ops.size) (hin : i < n) (hend : ∀ vs og ls a, L vs og ls a → ∀ j ∈ Region.ready md ops ls, n ≤ j)
    (f : Nat) : ∀ (vs : List Value) (og : Option Value) (ls : Array Bool) (a : Act), HeadInv md ops n ls →
      (∀ j oj, ops[j]? = some oj → j ≠ i → ls.getD j true = false → (∀ e ∈ oj.after, Region.binds md e = true → e.on ≠ i) → oi.apart ops oj = true) →
      i ∈ Region.ready md ops ls → yldF P ops Cv oi v a → anyF P G md ops Cv cs d n L f vs og (ls.setIfInBounds i true) (a.put oi.dst v) → anyF P G md ops Cv cs d n L (f + 1) vs og ls a := by
  induction f with
  | zero =>
    intro vs og ls a inv _ hr hy H
    have un := (mem_ready.1 hr).1
    refine ⟨fun h => (by rw [h] at hr; cases hr), fun j hj => ?_⟩
    have hjn : j < n := Nat.lt_of_not_le fun h => tail_waits hs hc hn inv _ i rfl hin un j h hj
    refine ⟨hjn, ?_⟩
    by_cases hji : j = i
    · subst hji; exact ⟨_, hi, .inl ⟨hic, hid, _, hy, H⟩⟩
    · exact absurd (hend _ _ _ _ H j (ready_mono hj hji)) (by omega)
  | succ f ih =>
    intro vs og ls a inv hfree hr hy H
    have un := (mem_ready.1 hr).1
    refine ⟨fun h => (by rw [h] at hr; cases hr), fun j hj => ?_⟩
    have hjn : j < n := Nat.lt_of_not_le fun h => tail_waits hs hc hn inv _ i rfl hin un j h hj
    refine ⟨hjn, ?_⟩
    by_cases hji : j = i
    · subst hji; exact ⟨_, hi, .inl ⟨hic, hid, _, hy, H⟩⟩
    · obtain ⟨_, oj, hoj, hcase⟩ := H.2 j (ready_mono hj hji)
      obtain ⟨jun, oj', hoj', hall⟩ := mem_ready.1 hj
      obtain rfl : oj' = oj := Option.some.inj (hoj'.symm.trans hoj)
      have hnot : ∀ e ∈ oj'.after, Region.binds md e = true → e.on ≠ i := fun e he hb heq => by
        have h2 := hall e he hb
        rw [heq, getD_both un] at h2
        cases h2
      obtain ⟨h1, h2, h3⟩ := Oper.apart_spec (hfree j oj' hoj hji jun hnot)
      have si : ∀ cs b, oi.op ≠ .select cs b := fun cs b => hsel i oi cs b hi
      have sj : ∀ cs b, oj'.op ≠ .select cs b := fun cs b => hsel j oj' cs b hoj
      have hfree' : ∀ k ok, ops[k]? = some ok → k ≠ i → (ls.setIfInBounds j true).getD k true = false → (∀ e ∈ ok.after, Region.binds md e = true → e.on ≠ i) → oi.apart ops ok = true := fun k ok hk hki kun hno => hfree k ok hk hki (by
        by_cases hjk : j = k
        · subst hjk; exact jun
        · rwa [getD_set_ne true hjk] at kun) hno
      refine ⟨oj', hoj, ?_⟩
      rcases hcase with ⟨hjc, hjd, u, hyj, H'⟩ | ⟨hjd, hjc, hyj, H'⟩ | ⟨hjd, hog, hyj, H'⟩
      · refine .inl ⟨hjc, hjd, u, hyj.same (execOp_put oj' sj a oi.dst v h1).symm (wanted_put oj' a oi.dst v h1).symm, ?_⟩
        refine ih vs og (ls.setIfInBounds j true) _ (inv.set hj hjn) hfree' (ready_mono hr (Ne.symm hji)) (hy.same (execOp_put oi si a oj'.dst u h3) (wanted_put oi a oj'.dst u h3)) ?_
        rw [set_comm _ hji, ← Act.put_comm a v u h2]
        exact H'
      · refine .inr (.inl ⟨hjd, hjc, hyj.same (execOp_put oj' sj a oi.dst v h1).symm (wanted_put oj' a oi.dst v h1).symm, fun u hu => ?_⟩)
        refine ih _ og (ls.setIfInBounds j true) _ (inv.set hj hjn) hfree' (ready_mono hr (Ne.symm hji)) (hy.same (execOp_put oi si a oj'.dst u h3) (wanted_put oi a oj'.dst u h3)) ?_
        rw [set_comm _ hji, ← Act.put_comm a v u h2]
        exact H' u hu
      · refine .inr (.inr ⟨hjd, hog, hyj.same (execOp_put oj' sj a oi.dst v h1).symm (wanted_put oj' a oi.dst v h1).symm, fun u hu => ?_⟩)
        refine ih vs (some u) (ls.setIfInBounds j true) _ (inv.set hj hjn) hfree' (ready_mono hr (Ne.symm hji)) (hy.same (execOp_put oi si a oj'.dst u h3) (wanted_put oi a oj'.dst u h3)) ?_
        rw [set_comm _ hji, ← Act.put_comm a v u h2]
        exact H' u hu

/-- The chain's next one may be taken first. -/
theorem pf_call {n i : Nat} {oi : Oper} {L : List Value → Option Value → Array Bool → Act → Prop} (hi : ops[i]? = some oi) (hid : i ≠ d) (hch : chained md ops cs) (hsel : ∀ (j : Nat) (o : Oper) cs b, ops[j]? = some o → o.op ≠ .select cs b)
    (hs : Region.sinkB md ops n = true) (hc : Region.chainB md ops n = true) (hn : n < ops.size) (hin : i < n) (hend : ∀ vs og ls a, L vs og ls a → ∀ j ∈ Region.ready md ops ls, n ≤ j)
    (f : Nat) : ∀ (vs : List Value) (og : Option Value) (ls : Array Bool) (a : Act), cs[vs.length]? = some i → (∃ og w, Cv vs og w) → HeadInv md ops n ls →
      (∀ j oj, ops[j]? = some oj → j ≠ i → ls.getD j true = false → (∀ e ∈ oj.after, Region.binds md e = true → e.on ≠ i) → oi.apart ops oj = true) →
      i ∈ Region.ready md ops ls → yldG P ops Cv vs og oi a → (∀ v, (∃ og w, Cv (vs ++ [v]) og w) → anyF P G md ops Cv cs d n L f (vs ++ [v]) og (ls.setIfInBounds i true) (a.put oi.dst v)) → anyF P G md ops Cv cs d n L (f + 1) vs og ls a := by
  induction f with
  | zero =>
    intro vs og ls a hic hw inv _ hr hy H
    have un := (mem_ready.1 hr).1
    refine ⟨fun h => (by rw [h] at hr; cases hr), fun j hj => ?_⟩
    have hjn : j < n := Nat.lt_of_not_le fun h => tail_waits hs hc hn inv _ i rfl hin un j h hj
    refine ⟨hjn, ?_⟩
    by_cases hji : j = i
    · subst hji; exact ⟨_, hi, .inr (.inl ⟨hid, hic, hy, H⟩)⟩
    · obtain ⟨v, og', w, hv⟩ := hy.next
      exact absurd (hend _ _ _ _ (H v ⟨og', w, hv⟩) j (ready_mono hj hji)) (by omega)
  | succ f ih =>
    intro vs og ls a hic hw inv hfree hr hy H
    have un := (mem_ready.1 hr).1
    refine ⟨fun h => (by rw [h] at hr; cases hr), fun j hj => ?_⟩
    have hjn : j < n := Nat.lt_of_not_le fun h => tail_waits hs hc hn inv _ i rfl hin un j h hj
    refine ⟨hjn, ?_⟩
    by_cases hji : j = i
    · subst hji; exact ⟨_, hi, .inr (.inl ⟨hid, hic, hy, H⟩)⟩
    · obtain ⟨v0, og0, w0, hv0⟩ := hy.next
      obtain ⟨_, oj, hoj, hcase⟩ := (H v0 ⟨og0, w0, hv0⟩).2 j (ready_mono hj hji)
      obtain ⟨jun, oj', hoj', hall⟩ := mem_ready.1 hj
      obtain rfl : oj' = oj := Option.some.inj (hoj'.symm.trans hoj)
      have hnot : ∀ e ∈ oj'.after, Region.binds md e = true → e.on ≠ i := fun e he hb heq => by
        have h2 := hall e he hb
        rw [heq, getD_both un] at h2
        cases h2
      obtain ⟨h1, h2, h3⟩ := Oper.apart_spec (hfree j oj' hoj hji jun hnot)
      have si : ∀ cs b, oi.op ≠ .select cs b := fun cs b => hsel i oi cs b hi
      have sj : ∀ cs b, oj'.op ≠ .select cs b := fun cs b => hsel j oj' cs b hoj
      have hfree' : ∀ k ok, ops[k]? = some ok → k ≠ i → (ls.setIfInBounds j true).getD k true = false → (∀ e ∈ ok.after, Region.binds md e = true → e.on ≠ i) → oi.apart ops ok = true := fun k ok hk hki kun hno => hfree k ok hk hki (by
        by_cases hjk : j = k
        · subst hjk; exact jun
        · rwa [getD_set_ne true hjk] at kun) hno
      have back : ∀ {v u : Value}, yldF P ops Cv oj' u (a.put oi.dst v) → yldF P ops Cv oj' u a := fun {v u} h => h.same (execOp_put oj' sj a oi.dst v h1).symm (wanted_put oj' a oi.dst v h1).symm
      rcases hcase with ⟨hjc, hjd, u, hyj, _⟩ | ⟨_, hjc, _, _⟩ | ⟨hjd, hog, hyj, _⟩
      · have hyj' := back hyj
        refine ⟨oj', hoj, .inl ⟨hjc, hjd, u, hyj', ih vs og (ls.setIfInBounds j true) _ hic hw (inv.set hj hjn) hfree' (ready_mono hr (Ne.symm hji)) (hy.same (execOp_put oi si a oj'.dst u h3) (wanted_put oi a oj'.dst u h3)) fun v hv => ?_⟩⟩
        obtain ⟨_, ok, hok, hcase'⟩ := (H v hv).2 j (ready_mono hj hji)
        obtain rfl : oj' = ok := Option.some.inj (hoj.symm.trans hok)
        rcases hcase' with ⟨_, _, u', hyk, H'⟩ | ⟨_, hk, _, _⟩ | ⟨hk, _⟩
        · obtain rfl : u' = u := (back hyk).one hyj' (hw.elim fun og h => h.elim fun w h => ⟨vs, og, w, h⟩)
          rw [set_comm _ hji, ← Act.put_comm a v u' h2]
          exact H'
        · exact absurd (List.mem_of_getElem? hk) hjc
        · exact absurd hk hjd
      · rw [List.length_append, List.length_singleton] at hjc
        have h9 := hch _ _ _ hic hjc ls oj' hoj inv.closed (fun e he hb => hall e he hb)
        rw [getD_both un] at h9
        cases h9
      · refine ⟨oj', hoj, .inr (.inr ⟨hjd, hog, hyj.same (execOp_put oj' sj a oi.dst v0 h1).symm (wanted_put oj' a oi.dst v0 h1).symm, fun u hu => ?_⟩)⟩
        subst hog
        refine ih vs (some u) (ls.setIfInBounds j true) _ hic hw (inv.set hj hjn) hfree' (ready_mono hr (Ne.symm hji)) ((hy.float (some u)).same (execOp_put oi si a oj'.dst u h3) (wanted_put oi a oj'.dst u h3)) fun v hv => ?_
        obtain ⟨_, ok, hok, hcase'⟩ := (H v hv).2 j (ready_mono hj hji)
        obtain rfl : oj' = ok := Option.some.inj (hoj.symm.trans hok)
        rcases hcase' with ⟨_, hk, _⟩ | ⟨hk, _⟩ | ⟨_, _, _, H'⟩
        · exact absurd hjd hk
        · exact absurd hjd hk
        · rw [set_comm _ hji, ← Act.put_comm a v u h2]
          exact H' u hu

/-- The one that floats may be taken first. -/
theorem pf_float {n : Nat} {oi : Oper} {L : List Value → Option Value → Array Bool → Act → Prop} (hi : ops[d]? = some oi) (hG : ∃ g, G g) (hsel : ∀ (j : Nat) (o : Oper) cs b, ops[j]? = some o → o.op ≠ .select cs b)
    (hs : Region.sinkB md ops n = true) (hc : Region.chainB md ops n = true) (hn : n < ops.size) (hin : d < n) (hend : ∀ vs og ls a, L vs og ls a → ∀ j ∈ Region.ready md ops ls, n ≤ j)
    (f : Nat) : ∀ (vs : List Value) (ls : Array Bool) (a : Act), (∃ og w, Cv vs og w) → (∀ j, cs[vs.length]? = some j → reachB md ops d ops.size j = true) → HeadInv md ops n ls →
      (∀ j oj, ops[j]? = some oj → j ≠ d → ls.getD j true = false → (∀ e ∈ oj.after, Region.binds md e = true → e.on ≠ d) → oi.apart ops oj = true) →
      d ∈ Region.ready md ops ls → yldD P G ops Cv oi a → (∀ g, G g → anyF P G md ops Cv cs d n L f vs (some g) (ls.setIfInBounds d true) (a.put oi.dst g)) → anyF P G md ops Cv cs d n L (f + 1) vs none ls a := by
  obtain ⟨g0, hg0⟩ := hG
  induction f with
  | zero =>
    intro vs ls a hw hnx inv _ hr hy H
    have un := (mem_ready.1 hr).1
    refine ⟨fun h => (by rw [h] at hr; cases hr), fun j hj => ?_⟩
    have hjn : j < n := Nat.lt_of_not_le fun h => tail_waits hs hc hn inv _ d rfl hin un j h hj
    refine ⟨hjn, ?_⟩
    by_cases hji : j = d
    · subst hji; exact ⟨_, hi, .inr (.inr ⟨rfl, rfl, hy, H⟩)⟩
    · exact absurd (hend _ _ _ _ (H g0 hg0) j (ready_mono hj hji)) (by omega)
  | succ f ih =>
    intro vs ls a hw hnx inv hfree hr hy H
    have un := (mem_ready.1 hr).1
    refine ⟨fun h => (by rw [h] at hr; cases hr), fun j hj => ?_⟩
    have hjn : j < n := Nat.lt_of_not_le fun h => tail_waits hs hc hn inv _ d rfl hin un j h hj
    refine ⟨hjn, ?_⟩
    by_cases hji : j = d
    · subst hji; exact ⟨_, hi, .inr (.inr ⟨rfl, rfl, hy, H⟩)⟩
    · obtain ⟨_, oj, hoj, hcase⟩ := (H g0 hg0).2 j (ready_mono hj hji)
      obtain ⟨jun, oj', hoj', hall⟩ := mem_ready.1 hj
      obtain rfl : oj' = oj := Option.some.inj (hoj'.symm.trans hoj)
      have hnot : ∀ e ∈ oj'.after, Region.binds md e = true → e.on ≠ d := fun e he hb heq => by
        have h2 := hall e he hb
        rw [heq, getD_both un] at h2
        cases h2
      obtain ⟨h1, h2, h3⟩ := Oper.apart_spec (hfree j oj' hoj hji jun hnot)
      have si : ∀ cs b, oi.op ≠ .select cs b := fun cs b => hsel d oi cs b hi
      have sj : ∀ cs b, oj'.op ≠ .select cs b := fun cs b => hsel j oj' cs b hoj
      have hfree' : ∀ k ok, ops[k]? = some ok → k ≠ d → (ls.setIfInBounds j true).getD k true = false → (∀ e ∈ ok.after, Region.binds md e = true → e.on ≠ d) → oi.apart ops ok = true := fun k ok hk hki kun hno => hfree k ok hk hki (by
        by_cases hjk : j = k
        · subst hjk; exact jun
        · rwa [getD_set_ne true hjk] at kun) hno
      have back : ∀ {v u : Value}, yldF P ops Cv oj' u (a.put oi.dst v) → yldF P ops Cv oj' u a := fun {v u} h => h.same (execOp_put oj' sj a oi.dst v h1).symm (wanted_put oj' a oi.dst v h1).symm
      rcases hcase with ⟨hjc, hjd, u, hyj, _⟩ | ⟨hjd, hjc, hyj, _⟩ | ⟨hjd, _⟩
      · have hyj' := back hyj
        refine ⟨oj', hoj, .inl ⟨hjc, hjd, u, hyj', ih vs (ls.setIfInBounds j true) _ hw hnx (inv.set hj hjn) hfree' (ready_mono hr (Ne.symm hji)) (hy.same (execOp_put oi si a oj'.dst u h3) (wanted_put oi a oj'.dst u h3)) fun v hv => ?_⟩⟩
        obtain ⟨_, ok, hok, hcase'⟩ := (H v hv).2 j (ready_mono hj hji)
        obtain rfl : oj' = ok := Option.some.inj (hoj.symm.trans hok)
        rcases hcase' with ⟨_, _, u', hyk, H'⟩ | ⟨_, hk, _, _⟩ | ⟨hk, _⟩
        · obtain rfl : u' = u := (back hyk).one hyj' (hw.elim fun og h => h.elim fun w h => ⟨vs, og, w, h⟩)
          rw [set_comm _ hji, ← Act.put_comm a v u' h2]
          exact H'
        · exact absurd (List.mem_of_getElem? hk) hjc
        · exact absurd hk hjd
      · have h9 := reach_of inv.closed _ j oj' hoj (fun e he hb => hall e he hb) (hnx j hjc)
        rw [getD_both un] at h9
        cases h9
      · exact absurd hjd hji

/-- The walk in the text's order. -/
def walkPf (P : Program) (G : Value → Prop) (ops : Array Oper) (Cv : List Value → Option Value → World → Prop) (cs : List Nat) (d : Nat) (K : List Value → Option Value → Act → Prop) : Nat → List Value → Option Value → List Oper → Act → Prop
  | _, vs, og, [], a => K vs og a
  | k, vs, og, o :: l, a => (k ∉ cs ∧ k ≠ d ∧ ∃ v, yldF P ops Cv o v a ∧ walkPf P G ops Cv cs d K (k + 1) vs og l (a.put o.dst v)) ∨
      (k ≠ d ∧ cs[vs.length]? = some k ∧ yldG P ops Cv vs og o a ∧ ∀ v, (∃ og w, Cv (vs ++ [v]) og w) → walkPf P G ops Cv cs d K (k + 1) (vs ++ [v]) og l (a.put o.dst v)) ∨
      (k = d ∧ og = none ∧ (∀ j, cs[vs.length]? = some j → reachB .any ops d ops.size j = true) ∧ yldD P G ops Cv o a ∧ ∀ g, G g → walkPf P G ops Cv cs d K (k + 1) vs (some g) l (a.put o.dst g))

theorem pf_lex {n g : Nat} {K : List Value → Option Value → Act → Prop} (hG : ∃ g, G g) (hch : chained .any ops cs) (hsel : Region.noSelect ops = true) (hs : Region.sinkB .any ops n = true) (hc : Region.chainB .any ops n = true) (hn : n < ops.size) :
    ∀ (l : List Oper) (k : Nat) (vs : List Value) (og : Option Value) (ls : Array Bool) (a : Act), (∃ og w, Cv vs og w) → (∀ j, j < l.length → l[j]? = ops[k + j]?) → k + l.length = n → HeadInv .any ops n ls →
    Region.lexHead .any ops g l.length k ls = true → walkPf P G ops Cv cs d K k vs og l a → anyF P G .any ops Cv cs d n (fun vs' og' ls' a' => Region.seqB .any ops g n ls' = true ∧ K vs' og' a') l.length vs og ls a
  | [], k, vs, og, ls, a, _, _, hk, _, hB, h => by
    obtain rfl : k = n := by simpa using hk
    exact ⟨by simpa [Region.lexHead] using hB, h⟩
  | o :: l, k, vs, og, ls, a, hw, hl, hk, inv, hB, h => by
    have h0 : ops[k]? = some o := by simpa using (hl 0 (by simp)).symm
    simp only [List.length_cons] at hk
    simp only [List.length_cons, Region.lexHead, Bool.and_eq_true] at hB
    obtain ⟨⟨hr, hf⟩, hB'⟩ := hB
    have hr' : k ∈ Region.ready .any ops ls := by simpa using hr
    have next : ∀ vs' og' a', (∃ og w, Cv vs' og w) → walkPf P G ops Cv cs d K (k + 1) vs' og' l a' → anyF P G .any ops Cv cs d n (fun vs' og' ls' a' => Region.seqB .any ops g n ls' = true ∧ K vs' og' a') l.length vs' og' (ls.setIfInBounds k true) a' := fun vs' og' a' hw' h' =>
      pf_lex hG hch hsel hs hc hn l (k + 1) vs' og' _ _ hw' (fun j hj => by have := hl (j + 1) (by simp; omega); simpa [Nat.add_assoc, Nat.add_comm 1 j] using this) (by omega) (inv.set hr' (by omega)) hB' h'
    rcases h with ⟨hkc, hkd, v, hy, hK⟩ | ⟨hkd, hkc, hy, hK⟩ | ⟨rfl, rfl, hnx, hy, hK⟩
    · exact pf_plain h0 hkc hkd (Region.noSelect_spec hsel) hs hc hn (by omega) (fun vs' og' ls' a' hL => seqB_ready hL.1) l.length vs og ls a inv (Region.free_spec h0 hf) hr' hy (next vs og _ hw hK)
    · exact pf_call h0 hkd hch (Region.noSelect_spec hsel) hs hc hn (by omega) (fun vs' og' ls' a' hL => seqB_ready hL.1) l.length vs og ls a hkc hw inv (Region.free_spec h0 hf) hr' hy fun v hv => next _ og _ hv (hK v hv)
    · exact pf_float h0 hG (Region.noSelect_spec hsel) hs hc hn (by omega) (fun vs' og' ls' a' hL => seqB_ready hL.1) l.length vs ls a hw hnx inv (Region.free_spec h0 hf) hr' hy fun v hv => next vs (some v) _ hw (hK v hv)

theorem region_pf {id : Nat} {Q : Exit → Act → World → Prop} {a : Act} {w : World} {l : List Oper} (n : Nat) (hG : ∃ g, G g) (hm : P.follows .mixedOrders = true) (hB : Region.lexTailB .any l.toArray n = true) (hch : chainedB .any l.toArray cs = true) (hC : Cv [] none w.drew)
    (h : walkPf P G l.toArray Cv cs d (fun vs og a' => ∀ w', Cv vs og w' → wpList P l.toArray Q (l.drop n) a' w') 0 [] none (l.take n) a) : (Code.region id l.toArray true).wp P Q a w := by
  simp only [Region.lexTailB, Bool.and_eq_true, decide_eq_true_eq] at hB
  obtain ⟨⟨⟨⟨hsel, hn⟩, hs⟩, hc⟩, hlex⟩ := hB
  have hn' : n < l.length := by simpa using hn
  have htl : (l.take n).length = n := by simp; omega
  have hdl : (l.drop n).length = l.toArray.size - n := by simp
  have inv0 : HeadInv .any l.toArray n (Array.replicate l.toArray.size false) :=
    ⟨by simp, fun j oj _ hl => (by rw [getD_replicate_false] at hl; cases hl), fun t _ ht => getD_in (by simpa using ht) (getD_replicate_false _ _)⟩
  have H := pf_lex (g := l.toArray.size - n) hG (chained_of hch) hsel hs hc hn (l.take n) 0 [] none _ a ⟨none, _, hC⟩ (fun j hj => by
    have hj' : j < n := by rw [htl] at hj; exact hj
    simp [hj']) (by simpa using htl) inv0 (by rw [htl]; exact hlex) h
  refine wp_region_any hm ?_
  have := any_of_pf (Q := Q) (g := l.toArray.size - n) (fun vs og ls a' w' hw' hL => by
    have := wpAny_of_seq (md := .any) (Q' := Q) (l.drop n) n ls a' w' (fun j => by simp [List.getElem?_drop]) (by rw [hdl]; exact hL.1) (hL.2 w' hw')
    rwa [hdl] at this) _ _ _ _ _ _ hC H
  rw [htl, show n + (l.toArray.size - n) = l.toArray.size by omega] at this
  exact this

/-- A world of any class. -/
structure PfW (Cv : List Value → Option Value → World → Prop) where
  vs : List Value
  og : Option Value
  w : World
  h : Cv vs og w
theorem PfW.there {w : World} (h : Cv [] none w) : Nonempty (PfW Cv) := ⟨⟨[], none, w, h⟩⟩
theorem pf_quiet {k : Nat} {vs : List Value} {og : Option Value} {o : Oper} {l : List Oper} {a : Act} {K : List Value → Option Value → Act → Prop} (hk : k ∉ cs ∧ k ≠ d) (hp : plainOp2 o = true) (hwt : Region.wanted o (yielded ops a.tmps) = true)
    (h : ∀ K' : Act → Prop, (∀ a', walkPf P G ops Cv cs d K (k + 1) vs og l a' → K' a') → o.quiet P a (fun w' => ∃ x : PfW Cv, w' = x.w) K') : walkPf P G ops Cv cs d K k vs og (o :: l) a := by
  obtain ⟨v, h1, h2⟩ := h _ fun _ h => h
  refine .inl ⟨hk.1, hk.2, v, .inl ⟨hwt, fun vs' og' w hw => ?_⟩, h2⟩
  have h3 := h1 w ⟨⟨vs', og', w, hw⟩, rfl⟩
  unfold Oper.quietAt at h3
  cases hr : (execOp a.eval o).run P w with
  | ok n w' =>
    obtain ⟨u, rfl⟩ := plain_next2 hp hr
    rw [hr] at h3
    simp only [Oper.quietUpon] at h3
    obtain ⟨rfl, rfl⟩ := h3
    rfl
  | halt x w' => rw [hr] at h3; simp only [Oper.quietUpon] at h3
theorem pf_value {k : Nat} {vs : List Value} {og : Option Value} {o : Oper} {l : List Oper} {a : Act} {K : List Value → Option Value → Act → Prop} (hk : k ∉ cs ∧ k ≠ d) (v : Value) (hwt : Region.wanted o (yielded ops a.tmps) = true)
    (hr : ∀ vs' og' w, Cv vs' og' w → (execOp a.eval o).run P w = .ok (.value v) w) (h : walkPf P G ops Cv cs d K (k + 1) vs og l (a.put o.dst v)) : walkPf P G ops Cv cs d K k vs og (o :: l) a :=
  .inl ⟨hk.1, hk.2, v, .inl ⟨hwt, hr⟩, h⟩
theorem pf_enter {k : Nat} {vs : List Value} {o : Oper} {l : List Oper} {a : Act} {K : List Value → Option Value → Act → Prop} {f : FuncId} {args : Array Value} (hk : k ≠ d ∧ cs[vs.length]? = some k) (hwt : Region.wanted o (yielded ops a.tmps) = true) (hin : ∃ og w, Cv vs og w)
    (hr : ∀ og' w, Cv vs og' w → (execOp a.eval o).run P w = .ok (.enter f args) w) (hc : ∀ og' w, Cv vs og' w → Calls P f args w fun e w'' => ∃ v, e = .returned v ∧ Cv (vs ++ [v]) og' w'')
    (h : ∀ v, (∃ og' w, Cv (vs ++ [v]) og' w) → walkPf P G ops Cv cs d K (k + 1) (vs ++ [v]) none l (a.put o.dst v)) : walkPf P G ops Cv cs d K k vs none (o :: l) a :=
  .inr (.inl ⟨hk.1, hk.2, ⟨hwt, (by
    obtain ⟨og, w, hw⟩ := hin
    obtain ⟨e, w', v, _, h2⟩ := Calls.some (hc og w hw)
    exact ⟨v, og, w', h2⟩), fun og' w _ hw => .inl ⟨f, args, hr og' w hw, hc og' w hw⟩⟩, h⟩)
theorem pf_made {k : Nat} {vs : List Value} {o : Oper} {l : List Oper} {a : Act} {K : List Value → Option Value → Act → Prop} (hk : k ≠ d ∧ cs[vs.length]? = some k) (hwt : Region.wanted o (yielded ops a.tmps) = true) (hin : ∃ og w, Cv vs og w)
    (hr : ∀ og' w, Cv vs og' w → ∃ v w'', (execOp a.eval o).run P w = .ok (.value v) w'' ∧ Cv (vs ++ [v]) og' w'')
    (h : ∀ v, (∃ og' w, Cv (vs ++ [v]) og' w) → walkPf P G ops Cv cs d K (k + 1) (vs ++ [v]) none l (a.put o.dst v)) : walkPf P G ops Cv cs d K k vs none (o :: l) a :=
  .inr (.inl ⟨hk.1, hk.2, ⟨hwt, (by
    obtain ⟨og, w, hw⟩ := hin
    obtain ⟨v, w2, _, h2⟩ := hr og w hw
    exact ⟨v, og, w2, h2⟩), fun og' w _ hw => .inr (let ⟨v, w2, h1, h2⟩ := hr og' w hw; ⟨v, w2, .inl h1, h2⟩)⟩, h⟩)
/-- A store into the variable, behind its making. -/
theorem pf_stored {k : Nat} {vs : List Value} {g : Value} {o : Oper} {l : List Oper} {a : Act} {K : List Value → Option Value → Act → Prop} (hk : k ≠ d ∧ cs[vs.length]? = some k) (hwt : Region.wanted o (yielded ops a.tmps) = true) (hin : ∃ og w, Cv (vs ++ [undef]) og w)
    (hr : ∀ w, Cv vs (some g) w → ∃ w'', (execOp a.eval o).run P w = .ok .skip w'' ∧ Cv (vs ++ [undef]) (some g) w'')
    (h : ∀ v, (∃ og' w, Cv (vs ++ [v]) og' w) → walkPf P G ops Cv cs d K (k + 1) (vs ++ [v]) (some g) l (a.put o.dst v)) : walkPf P G ops Cv cs d K k vs (some g) (o :: l) a :=
  .inr (.inl ⟨hk.1, hk.2, ⟨hwt, ⟨undef, hin⟩, fun og' w ho hw => .inr (by
    obtain rfl : og' = some g := ho.resolve_left (by simp)
    obtain ⟨w2, h1, h2⟩ := hr w hw
    exact ⟨undef, w2, .inr ⟨h1, rfl⟩, h2⟩)⟩, h⟩)
theorem pf_floats {k : Nat} {vs : List Value} {o : Oper} {l : List Oper} {a : Act} {K : List Value → Option Value → Act → Prop} (hk : k = d) (hnx : ∀ j, cs[vs.length]? = some j → reachB .any ops d ops.size j = true) (hwt : Region.wanted o (yielded ops a.tmps) = true)
    (hr : ∀ vs' w, Cv vs' none w → ∃ g w'', (execOp a.eval o).run P w = .ok (.value g) w'' ∧ G g ∧ Cv vs' (some g) w'')
    (h : ∀ g, G g → walkPf P G ops Cv cs d K (k + 1) vs (some g) l (a.put o.dst g)) : walkPf P G ops Cv cs d K k vs none (o :: l) a :=
  .inr (.inr ⟨hk, rfl, hnx, ⟨hwt, hr⟩, h⟩)
end
end Go.Proofs.Ytakbpgljbbkmkaa
