import Derived.Test.YtbbjifhelbeniaaGreatDoorPf
import Derived.Test.YtbbjifhelbeniaaGreatDoorGV
import Derived.Maps.AppendAt
/- As Pf, with several operations that float: each makes memory and waits for none of the chain's (a struct's variable, a list of one note). -/
namespace Go.Proofs.YtbbjifhelbeniaaGreatDoor
open Go.RowKit

/-- What has come up of those that float. -/
abbrev Fl := Nat → Option Value
def Fl.no : Fl := fun _ => none
def Fl.up (og : Fl) (i : Nat) (g : Value) : Fl := fun k => if k = i then some g else og k
theorem Fl.up_same (og : Fl) (i : Nat) (g : Value) : og.up i g i = some g := by unfold Fl.up; rw [if_pos rfl]
theorem Fl.up_ne (og : Fl) {i k : Nat} (g : Value) (h : k ≠ i) : og.up i g k = og k := by unfold Fl.up; rw [if_neg h]
theorem Fl.up_comm (og : Fl) {i j : Nat} (h : j ≠ i) (g u : Value) : (og.up i g).up j u = (og.up j u).up i g := by
  funext k
  unfold Fl.up
  by_cases h1 : k = j
  · subst h1; simp [h]
  · simp [h1]
namespace Pg

section
variable {P : Program} {G : Nat → Value → Prop} {ops : Array Oper} {md : Region.Mode} {Cv : List Value → Fl → World → Prop} {cs ds : List Nat}

/-- An operation beside those yields this value, in every world of every class. -/
def yldF (P : Program) (ops : Array Oper) (Cv : List Value → Fl → World → Prop) (o : Oper) (v : Value) (a : Act) : Prop :=
  (Region.wanted o (yielded ops a.tmps) = true ∧ ∀ vs og w, Cv vs og w → (execOp a.eval o).run P w = .ok (.value v) w) ∨ (Region.wanted o (yielded ops a.tmps) = false ∧ v = undef)
/-- The chain's next one; as long as the other one has not come up, it must serve both ways. -/
def yldG (P : Program) (ops : Array Oper) (Cv : List Value → Fl → World → Prop) (vs : List Value) (og : Fl) (o : Oper) (a : Act) : Prop :=
  Region.wanted o (yielded ops a.tmps) = true ∧ (∃ v og' w, Cv (vs ++ [v]) og' w) ∧ ∀ og' w, (∀ k, og k = none ∨ og' k = og k) → Cv vs og' w → (∃ f args, (execOp a.eval o).run P w = .ok (.enter f args) w ∧ Calls P f args w fun e w'' => ∃ v, e = .returned v ∧ Cv (vs ++ [v]) og' w'') ∨ ∃ v w'', ((execOp a.eval o).run P w = .ok (.value v) w'' ∨ ((execOp a.eval o).run P w = .ok .skip w'' ∧ v = undef)) ∧ Cv (vs ++ [v]) og' w''
/-- The one that floats. -/
def yldD (P : Program) (G : Nat → Value → Prop) (ops : Array Oper) (Cv : List Value → Fl → World → Prop) (i : Nat) (o : Oper) (a : Act) : Prop :=
  Region.wanted o (yielded ops a.tmps) = true ∧ ∀ vs og w, og i = none → Cv vs og w → ∃ g w'', (execOp a.eval o).run P w = .ok (.value g) w'' ∧ G i g ∧ Cv vs (og.up i g) w''
theorem yldF.same {o : Oper} {v : Value} {a a' : Act} (h : yldF P ops Cv o v a) (he : execOp a'.eval o = execOp a.eval o)
    (hw : Region.wanted o (yielded ops a'.tmps) = Region.wanted o (yielded ops a.tmps)) : yldF P ops Cv o v a' := by
  unfold yldF at *
  rw [he, hw]
  exact h
theorem yldG.same {vs : List Value} {og : Fl} {o : Oper} {a a' : Act} (h : yldG P ops Cv vs og o a) (he : execOp a'.eval o = execOp a.eval o)
    (hw : Region.wanted o (yielded ops a'.tmps) = Region.wanted o (yielded ops a.tmps)) : yldG P ops Cv vs og o a' := by
  unfold yldG at *
  rw [he, hw]
  exact h
theorem yldD.same {i : Nat} {o : Oper} {a a' : Act} (h : yldD P G ops Cv i o a) (he : execOp a'.eval o = execOp a.eval o)
    (hw : Region.wanted o (yielded ops a'.tmps) = Region.wanted o (yielded ops a.tmps)) : yldD P G ops Cv i o a' := by
  unfold yldD at *
  rw [he, hw]
  exact h
theorem yldF.one {o : Oper} {u v : Value} {a : Act} (h1 : yldF P ops Cv o u a) (h2 : yldF P ops Cv o v a) (hin : ∃ vs og w, Cv vs og w) : u = v := by
  obtain ⟨vs, og, w, hw⟩ := hin
  rcases h1 with ⟨a1, b1⟩ | ⟨a1, rfl⟩
  · rcases h2 with ⟨a2, b2⟩ | ⟨a2, rfl⟩
    · have e1 := b1 vs og w hw
      rw [b2 vs og w hw] at e1
      cases e1
      rfl
    · rw [a1] at a2; cases a2
  · rcases h2 with ⟨a2, b2⟩ | ⟨a2, rfl⟩
    · rw [a1] at a2; cases a2
    · rfl
theorem yldG.next {vs : List Value} {og : Fl} {o : Oper} {a : Act} (h : yldG P ops Cv vs og o a) : ∃ v og w, Cv (vs ++ [v]) og w := h.2.1
theorem yldG.float {vs : List Value} {og : Fl} {o : Oper} {a : Act} (h : yldG P ops Cv vs og o a) (j : Nat) (hj : og j = none) (u : Value) : yldG P ops Cv vs (og.up j u) o a := ⟨h.1, h.2.1, fun og' w ho hw => h.2.2 og' w (fun k => by
  by_cases e : k = j
  · subst e; exact .inl hj
  · have := ho k; rwa [Fl.up_ne _ _ e] at this) hw⟩

def anyF (P : Program) (G : Nat → Value → Prop) (md : Region.Mode) (ops : Array Oper) (Cv : List Value → Fl → World → Prop) (cs : List Nat) (ds : List Nat) (n : Nat) (L : List Value → Fl → Array Bool → Act → Prop) : Nat → List Value → Fl → Array Bool → Act → Prop
  | 0, vs, og, ls, a => L vs og ls a
  | f + 1, vs, og, ls, a => Region.ready md ops ls ≠ [] ∧ ∀ i ∈ Region.ready md ops ls, i < n ∧ ∃ o, ops[i]? = some o ∧
      ((i ∉ cs ∧ i ∉ ds ∧ ∃ v, yldF P ops Cv o v a ∧ anyF P G md ops Cv cs ds n L f vs og (ls.setIfInBounds i true) (a.put o.dst v)) ∨
       (i ∉ ds ∧ cs[vs.length]? = some i ∧ yldG P ops Cv vs og o a ∧ ∀ v, (∃ og w, Cv (vs ++ [v]) og w) → anyF P G md ops Cv cs ds n L f (vs ++ [v]) og (ls.setIfInBounds i true) (a.put o.dst v)) ∨
       (i ∈ ds ∧ og i = none ∧ yldD P G ops Cv i o a ∧ ∀ g, G i g → anyF P G md ops Cv cs ds n L f vs (og.up i g) (ls.setIfInBounds i true) (a.put o.dst g)))

theorem any_of_pf {n g : Nat} {L : List Value → Fl → Array Bool → Act → Prop} {Q : Exit → Act → World → Prop} (hL : ∀ vs og ls a w, Cv vs og w → L vs og ls a → wpAny P md ops Q g ls a w) :
    ∀ (f : Nat) (vs : List Value) (og : Fl) (ls : Array Bool) (a : Act) (w : World), Cv vs og w → anyF P G md ops Cv cs ds n L f vs og ls a → wpAny P md ops Q (f + g) ls a w
  | 0, vs, og, ls, a, w, hw, h => by rw [Nat.zero_add]; exact hL _ _ _ _ _ hw h
  | f + 1, vs, og, ls, a, w, hw, h => by
    rw [show f + 1 + g = (f + g) + 1 by omega]
    refine ⟨fun h0 => absurd h0 h.1, fun i hi => ?_⟩
    obtain ⟨_, o, ho, hcase⟩ := h.2 i hi
    unfold wpOp
    simp only [ho]
    rcases hcase with ⟨_, _, v, hy, hn⟩ | ⟨_, _, hy, hn⟩ | ⟨_, hog, hy, hn⟩
    · rcases hy with ⟨hwt, hy⟩ | ⟨hwt, rfl⟩
      · simp only [hwt, if_true]
        refine .inl ?_
        unfold Oper.wp
        rw [hy vs og w hw]
        simp only [Oper.upon]
        exact any_of_pf hL f vs og _ _ _ hw hn
      · simp only [hwt, Bool.false_eq_true, if_false]
        exact any_of_pf hL f vs og _ _ _ hw hn
    · obtain ⟨hwt, _, hy⟩ := hy
      simp only [hwt, if_true]
      refine .inl ?_
      unfold Oper.wp
      rcases hy og w (fun _ => .inr rfl) hw with ⟨g', args, hr, hc⟩ | ⟨v, w'', hr, hw''⟩
      · rw [hr]
        simp only [Oper.upon]
        exact hc.mono fun e w'' ⟨v, he, hw''⟩ => by subst he; exact any_of_pf hL f _ _ _ _ _ hw'' (hn v ⟨og, w'', hw''⟩)
      · rcases hr with hr | ⟨hr, rfl⟩
        · rw [hr]
          simp only [Oper.upon]
          exact any_of_pf hL f _ _ _ _ _ hw'' (hn v ⟨og, w'', hw''⟩)
        · rw [hr]
          simp only [Oper.upon]
          exact any_of_pf hL f _ _ _ _ _ hw'' (hn _ ⟨og, w'', hw''⟩)
    · obtain ⟨hwt, hy⟩ := hy
      simp only [hwt, if_true]
      refine .inl ?_
      unfold Oper.wp
      obtain ⟨v, w'', hr, hg, hw''⟩ := hy vs og w hog hw
      rw [hr]
      simp only [Oper.upon]
      exact any_of_pf hL f _ _ _ _ _ hw'' (hn v hg)

/-- An operation beside the chain may be taken first. -/
theorem pf_plain {n i : Nat} {oi : Oper} {v : Value} {L : List Value → Fl → Array Bool → Act → Prop} (hi : ops[i]? = some oi) (hic : i ∉ cs) (hid : i ∉ ds) (hsel : ∀ (j : Nat) (o : Oper) cs b, ops[j]? = some o → o.op ≠ .select cs b)
    (hs : Region.sinkB md ops n = true) (hc : Region.chainB md ops n = true) (hn : n < ops.size) (hin : i < n) (hend : ∀ vs og ls a, L vs og ls a → ∀ j ∈ Region.ready md ops ls, n ≤ j)
    (f : Nat) : ∀ (vs : List Value) (og : Fl) (ls : Array Bool) (a : Act), HeadInv md ops n ls →
      (∀ j oj, ops[j]? = some oj → j ≠ i → ls.getD j true = false → (∀ e ∈ oj.after, Region.binds md e = true → e.on ≠ i) → oi.apart ops oj = true) →
      i ∈ Region.ready md ops ls → yldF P ops Cv oi v a → anyF P G md ops Cv cs ds n L f vs og (ls.setIfInBounds i true) (a.put oi.dst v) → anyF P G md ops Cv cs ds n L (f + 1) vs og ls a := by
  induction f with
  | zero =>
    intro vs og ls a inv _ hr hy H
    have un := (mem_ready.1 hr).1
    refine ⟨fun h => (by rw [h] at hr; cases hr), fun j hj => ?_⟩
    have hjn : j < n := Nat.lt_of_not_le fun h => tail_waits hs hc hn inv _ i rfl hin un j h hj
    refine ⟨hjn, ?_⟩
    by_cases hji : j = i
    · subst hji; exact ⟨_, hi, .inl ⟨hic, hid, _, hy, H⟩⟩
    · exact absurd (hend _ _ _ _ H j (ready_mono hj hji)) (by omega)
  | succ f ih =>
    intro vs og ls a inv hfree hr hy H
    have un := (mem_ready.1 hr).1
    refine ⟨fun h => (by rw [h] at hr; cases hr), fun j hj => ?_⟩
    have hjn : j < n := Nat.lt_of_not_le fun h => tail_waits hs hc hn inv _ i rfl hin un j h hj
    refine ⟨hjn, ?_⟩
    by_cases hji : j = i
    · subst hji; exact ⟨_, hi, .inl ⟨hic, hid, _, hy, H⟩⟩
    · obtain ⟨_, oj, hoj, hcase⟩ := H.2 j (ready_mono hj hji)
      obtain ⟨jun, oj', hoj', hall⟩ := mem_ready.1 hj
      obtain rfl : oj' = oj := Option.some.inj (hoj'.symm.trans hoj)
      have hnot : ∀ e ∈ oj'.after, Region.binds md e = true → e.on ≠ i := fun e he hb heq => by
        have h2 := hall e he hb
        rw [heq, getD_both un] at h2
        cases h2
      obtain ⟨h1, h2, h3⟩ := Oper.apart_spec (hfree j oj' hoj hji jun hnot)
      have si : ∀ cs b, oi.op ≠ .select cs b := fun cs b => hsel i oi cs b hi
      have sj : ∀ cs b, oj'.op ≠ .select cs b := fun cs b => hsel j oj' cs b hoj
      have hfree' : ∀ k ok, ops[k]? = some ok → k ≠ i → (ls.setIfInBounds j true).getD k true = false → (∀ e ∈ ok.after, Region.binds md e = true → e.on ≠ i) → oi.apart ops ok = true := fun k ok hk hki kun hno => hfree k ok hk hki (by
        by_cases hjk : j = k
        · subst hjk; exact jun
        · rwa [getD_set_ne true hjk] at kun) hno
      refine ⟨oj', hoj, ?_⟩
      rcases hcase with ⟨hjc, hjd, u, hyj, H'⟩ | ⟨hjd, hjc, hyj, H'⟩ | ⟨hjd, hog, hyj, H'⟩
      · refine .inl ⟨hjc, hjd, u, hyj.same (execOp_put oj' sj a oi.dst v h1).symm (wanted_put oj' a oi.dst v h1).symm, ?_⟩
        refine ih vs og (ls.setIfInBounds j true) _ (inv.set hj hjn) hfree' (ready_mono hr (Ne.symm hji)) (hy.same (execOp_put oi si a oj'.dst u h3) (wanted_put oi a oj'.dst u h3)) ?_
        rw [set_comm _ hji, ← Act.put_comm a v u h2]
        exact H'
      · refine .inr (.inl ⟨hjd, hjc, hyj.same (execOp_put oj' sj a oi.dst v h1).symm (wanted_put oj' a oi.dst v h1).symm, fun u hu => ?_⟩)
        refine ih _ og (ls.setIfInBounds j true) _ (inv.set hj hjn) hfree' (ready_mono hr (Ne.symm hji)) (hy.same (execOp_put oi si a oj'.dst u h3) (wanted_put oi a oj'.dst u h3)) ?_
        rw [set_comm _ hji, ← Act.put_comm a v u h2]
        exact H' u hu
      · refine .inr (.inr ⟨hjd, hog, hyj.same (execOp_put oj' sj a oi.dst v h1).symm (wanted_put oj' a oi.dst v h1).symm, fun u hu => ?_⟩)
        refine ih vs (og.up j u) (ls.setIfInBounds j true) _ (inv.set hj hjn) hfree' (ready_mono hr (Ne.symm hji)) (hy.same (execOp_put oi si a oj'.dst u h3) (wanted_put oi a oj'.dst u h3)) ?_
        rw [set_comm _ hji, ← Act.put_comm a v u h2]
        exact H' u hu

/-- The chain's next one may be taken first. -/
theorem pf_call {n i : Nat} {oi : Oper} {L : List Value → Fl → Array Bool → Act → Prop} (hi : ops[i]? = some oi) (hid : i ∉ ds) (hch : chained md ops cs) (hsel : ∀ (j : Nat) (o : Oper) cs b, ops[j]? = some o → o.op ≠ .select cs b)
    (hs : Region.sinkB md ops n = true) (hc : Region.chainB md ops n = true) (hn : n < ops.size) (hin : i < n) (hend : ∀ vs og ls a, L vs og ls a → ∀ j ∈ Region.ready md ops ls, n ≤ j)
    (f : Nat) : ∀ (vs : List Value) (og : Fl) (ls : Array Bool) (a : Act), cs[vs.length]? = some i → (∃ og w, Cv vs og w) → HeadInv md ops n ls →
      (∀ j oj, ops[j]? = some oj → j ≠ i → ls.getD j true = false → (∀ e ∈ oj.after, Region.binds md e = true → e.on ≠ i) → oi.apart ops oj = true) →
      i ∈ Region.ready md ops ls → yldG P ops Cv vs og oi a → (∀ v, (∃ og w, Cv (vs ++ [v]) og w) → anyF P G md ops Cv cs ds n L f (vs ++ [v]) og (ls.setIfInBounds i true) (a.put oi.dst v)) → anyF P G md ops Cv cs ds n L (f + 1) vs og ls a := by
  induction f with
  | zero =>
    intro vs og ls a hic hw inv _ hr hy H
    have un := (mem_ready.1 hr).1
    refine ⟨fun h => (by rw [h] at hr; cases hr), fun j hj => ?_⟩
    have hjn : j < n := Nat.lt_of_not_le fun h => tail_waits hs hc hn inv _ i rfl hin un j h hj
    refine ⟨hjn, ?_⟩
    by_cases hji : j = i
    · subst hji; exact ⟨_, hi, .inr (.inl ⟨hid, hic, hy, H⟩)⟩
    · obtain ⟨v, og', w, hv⟩ := hy.next
      exact absurd (hend _ _ _ _ (H v ⟨og', w, hv⟩) j (ready_mono hj hji)) (by omega)
  | succ f ih =>
    intro vs og ls a hic hw inv hfree hr hy H
    have un := (mem_ready.1 hr).1
    refine ⟨fun h => (by rw [h] at hr; cases hr), fun j hj => ?_⟩
    have hjn : j < n := Nat.lt_of_not_le fun h => tail_waits hs hc hn inv _ i rfl hin un j h hj
    refine ⟨hjn, ?_⟩
    by_cases hji : j = i
    · subst hji; exact ⟨_, hi, .inr (.inl ⟨hid, hic, hy, H⟩)⟩
    · obtain ⟨v0, og0, w0, hv0⟩ := hy.next
      obtain ⟨_, oj, hoj, hcase⟩ := (H v0 ⟨og0, w0, hv0⟩).2 j (ready_mono hj hji)
      obtain ⟨jun, oj', hoj', hall⟩ := mem_ready.1 hj
      obtain rfl : oj' = oj := Option.some.inj (hoj'.symm.trans hoj)
      have hnot : ∀ e ∈ oj'.after, Region.binds md e = true → e.on ≠ i := fun e he hb heq => by
        have h2 := hall e he hb
        rw [heq, getD_both un] at h2
        cases h2
      obtain ⟨h1, h2, h3⟩ := Oper.apart_spec (hfree j oj' hoj hji jun hnot)
      have si : ∀ cs b, oi.op ≠ .select cs b := fun cs b => hsel i oi cs b hi
      have sj : ∀ cs b, oj'.op ≠ .select cs b := fun cs b => hsel j oj' cs b hoj
      have hfree' : ∀ k ok, ops[k]? = some ok → k ≠ i → (ls.setIfInBounds j true).getD k true = false → (∀ e ∈ ok.after, Region.binds md e = true → e.on ≠ i) → oi.apart ops ok = true := fun k ok hk hki kun hno => hfree k ok hk hki (by
        by_cases hjk : j = k
        · subst hjk; exact jun
        · rwa [getD_set_ne true hjk] at kun) hno
      have back : ∀ {v u : Value}, yldF P ops Cv oj' u (a.put oi.dst v) → yldF P ops Cv oj' u a := fun {v u} h => h.same (execOp_put oj' sj a oi.dst v h1).symm (wanted_put oj' a oi.dst v h1).symm
      rcases hcase with ⟨hjc, hjd, u, hyj, _⟩ | ⟨_, hjc, _, _⟩ | ⟨hjd, hog, hyj, _⟩
      · have hyj' := back hyj
        refine ⟨oj', hoj, .inl ⟨hjc, hjd, u, hyj', ih vs og (ls.setIfInBounds j true) _ hic hw (inv.set hj hjn) hfree' (ready_mono hr (Ne.symm hji)) (hy.same (execOp_put oi si a oj'.dst u h3) (wanted_put oi a oj'.dst u h3)) fun v hv => ?_⟩⟩
        obtain ⟨_, ok, hok, hcase'⟩ := (H v hv).2 j (ready_mono hj hji)
        obtain rfl : oj' = ok := Option.some.inj (hoj.symm.trans hok)
        rcases hcase' with ⟨_, _, u', hyk, H'⟩ | ⟨_, hk, _, _⟩ | ⟨hk, _⟩
        · obtain rfl : u' = u := (back hyk).one hyj' (hw.elim fun og h => h.elim fun w h => ⟨vs, og, w, h⟩)
          rw [set_comm _ hji, ← Act.put_comm a v u' h2]
          exact H'
        · exact absurd (List.mem_of_getElem? hk) hjc
        · exact absurd hk hjd
      · rw [List.length_append, List.length_singleton] at hjc
        have h9 := hch _ _ _ hic hjc ls oj' hoj inv.closed (fun e he hb => hall e he hb)
        rw [getD_both un] at h9
        cases h9
      · refine ⟨oj', hoj, .inr (.inr ⟨hjd, hog, hyj.same (execOp_put oj' sj a oi.dst v0 h1).symm (wanted_put oj' a oi.dst v0 h1).symm, fun u hu => ?_⟩)⟩
        refine ih vs (og.up j u) (ls.setIfInBounds j true) _ hic hw (inv.set hj hjn) hfree' (ready_mono hr (Ne.symm hji)) ((hy.float j hog u).same (execOp_put oi si a oj'.dst u h3) (wanted_put oi a oj'.dst u h3)) fun v hv => ?_
        obtain ⟨_, ok, hok, hcase'⟩ := (H v hv).2 j (ready_mono hj hji)
        obtain rfl : oj' = ok := Option.some.inj (hoj.symm.trans hok)
        rcases hcase' with ⟨_, hk, _⟩ | ⟨hk, _⟩ | ⟨_, _, _, H'⟩
        · exact absurd hjd hk
        · exact absurd hjd hk
        · rw [set_comm _ hji, ← Act.put_comm a v u h2]
          exact H' u hu

/-- The one that floats may be taken first. -/
theorem pf_float {n d : Nat} {oi : Oper} {L : List Value → Fl → Array Bool → Act → Prop} (hd : d ∈ ds) (hi : ops[d]? = some oi) (hG : ∃ g, G d g) (hsel : ∀ (j : Nat) (o : Oper) cs b, ops[j]? = some o → o.op ≠ .select cs b)
    (hs : Region.sinkB md ops n = true) (hc : Region.chainB md ops n = true) (hn : n < ops.size) (hin : d < n) (hend : ∀ vs og ls a, L vs og ls a → ∀ j ∈ Region.ready md ops ls, n ≤ j)
    (f : Nat) : ∀ (vs : List Value) (og : Fl) (ls : Array Bool) (a : Act), og d = none → (∃ og w, Cv vs og w) → (∀ j, cs[vs.length]? = some j → reachB md ops d ops.size j = true) → HeadInv md ops n ls →
      (∀ j oj, ops[j]? = some oj → j ≠ d → ls.getD j true = false → (∀ e ∈ oj.after, Region.binds md e = true → e.on ≠ d) → oi.apart ops oj = true) →
      d ∈ Region.ready md ops ls → yldD P G ops Cv d oi a → (∀ g, G d g → anyF P G md ops Cv cs ds n L f vs (og.up d g) (ls.setIfInBounds d true) (a.put oi.dst g)) → anyF P G md ops Cv cs ds n L (f + 1) vs og ls a := by
  obtain ⟨g0, hg0⟩ := hG
  induction f with
  | zero =>
    intro vs og ls a ho hw hnx inv _ hr hy H
    have un := (mem_ready.1 hr).1
    refine ⟨fun h => (by rw [h] at hr; cases hr), fun j hj => ?_⟩
    have hjn : j < n := Nat.lt_of_not_le fun h => tail_waits hs hc hn inv _ d rfl hin un j h hj
    refine ⟨hjn, ?_⟩
    by_cases hji : j = d
    · subst hji; exact ⟨_, hi, .inr (.inr ⟨hd, ho, hy, H⟩)⟩
    · exact absurd (hend _ _ _ _ (H g0 hg0) j (ready_mono hj hji)) (by omega)
  | succ f ih =>
    intro vs og ls a ho hw hnx inv hfree hr hy H
    have un := (mem_ready.1 hr).1
    refine ⟨fun h => (by rw [h] at hr; cases hr), fun j hj => ?_⟩
    have hjn : j < n := Nat.lt_of_not_le fun h => tail_waits hs hc hn inv _ d rfl hin un j h hj
    refine ⟨hjn, ?_⟩
    by_cases hji : j = d
    · subst hji; exact ⟨_, hi, .inr (.inr ⟨hd, ho, hy, H⟩)⟩
    · obtain ⟨_, oj, hoj, hcase⟩ := (H g0 hg0).2 j (ready_mono hj hji)
      obtain ⟨jun, oj', hoj', hall⟩ := mem_ready.1 hj
      obtain rfl : oj' = oj := Option.some.inj (hoj'.symm.trans hoj)
      have hnot : ∀ e ∈ oj'.after, Region.binds md e = true → e.on ≠ d := fun e he hb heq => by
        have h2 := hall e he hb
        rw [heq, getD_both un] at h2
        cases h2
      obtain ⟨h1, h2, h3⟩ := Oper.apart_spec (hfree j oj' hoj hji jun hnot)
      have si : ∀ cs b, oi.op ≠ .select cs b := fun cs b => hsel d oi cs b hi
      have sj : ∀ cs b, oj'.op ≠ .select cs b := fun cs b => hsel j oj' cs b hoj
      have hfree' : ∀ k ok, ops[k]? = some ok → k ≠ d → (ls.setIfInBounds j true).getD k true = false → (∀ e ∈ ok.after, Region.binds md e = true → e.on ≠ d) → oi.apart ops ok = true := fun k ok hk hki kun hno => hfree k ok hk hki (by
        by_cases hjk : j = k
        · subst hjk; exact jun
        · rwa [getD_set_ne true hjk] at kun) hno
      have back : ∀ {v u : Value}, yldF P ops Cv oj' u (a.put oi.dst v) → yldF P ops Cv oj' u a := fun {v u} h => h.same (execOp_put oj' sj a oi.dst v h1).symm (wanted_put oj' a oi.dst v h1).symm
      rcases hcase with ⟨hjc, hjd, u, hyj, _⟩ | ⟨hjd, hjc, hyj, _⟩ | ⟨hjd, hog, hyj, _⟩
      · have hyj' := back hyj
        refine ⟨oj', hoj, .inl ⟨hjc, hjd, u, hyj', ih vs og (ls.setIfInBounds j true) _ ho hw hnx (inv.set hj hjn) hfree' (ready_mono hr (Ne.symm hji)) (hy.same (execOp_put oi si a oj'.dst u h3) (wanted_put oi a oj'.dst u h3)) fun v hv => ?_⟩⟩
        obtain ⟨_, ok, hok, hcase'⟩ := (H v hv).2 j (ready_mono hj hji)
        obtain rfl : oj' = ok := Option.some.inj (hoj.symm.trans hok)
        rcases hcase' with ⟨_, _, u', hyk, H'⟩ | ⟨_, hk, _, _⟩ | ⟨hk, _⟩
        · obtain rfl : u' = u := (back hyk).one hyj' (hw.elim fun og h => h.elim fun w h => ⟨vs, og, w, h⟩)
          rw [set_comm _ hji, ← Act.put_comm a v u' h2]
          exact H'
        · exact absurd (List.mem_of_getElem? hk) hjc
        · exact absurd hk hjd
      · have h9 := reach_of inv.closed _ j oj' hoj (fun e he hb => hall e he hb) (hnx j hjc)
        rw [getD_both un] at h9
        cases h9
      · rw [Fl.up_ne _ _ hji] at hog
        have hyj' : yldD P G ops Cv j oj' a := hyj.same (execOp_put oj' sj a oi.dst g0 h1).symm (wanted_put oj' a oi.dst g0 h1).symm
        refine ⟨oj', hoj, .inr (.inr ⟨hjd, hog, hyj', fun u hu => ?_⟩)⟩
        refine ih vs (og.up j u) (ls.setIfInBounds j true) _ (by rw [Fl.up_ne _ _ (Ne.symm hji)]; exact ho) hw hnx (inv.set hj hjn) hfree' (ready_mono hr (Ne.symm hji)) (hy.same (execOp_put oi si a oj'.dst u h3) (wanted_put oi a oj'.dst u h3)) fun v hv => ?_
        obtain ⟨_, ok, hok, hcase'⟩ := (H v hv).2 j (ready_mono hj hji)
        obtain rfl : oj' = ok := Option.some.inj (hoj.symm.trans hok)
        rcases hcase' with ⟨_, hk, _⟩ | ⟨hk, _⟩ | ⟨_, _, _, H'⟩
        · exact absurd hjd hk
        · exact absurd hjd hk
        · rw [set_comm _ hji, ← Act.put_comm a v u h2, ← Fl.up_comm _ hji]
          exact H' u hu

/-- The walk in the text's order. -/
def walkPf (P : Program) (G : Nat → Value → Prop) (ops : Array Oper) (Cv : List Value → Fl → World → Prop) (cs ds : List Nat) (K : List Value → Fl → Act → Prop) : Nat → List Value → Fl → List Oper → Act → Prop
  | _, vs, og, [], a => K vs og a
  | k, vs, og, o :: l, a => (k ∉ cs ∧ k ∉ ds ∧ ∃ v, yldF P ops Cv o v a ∧ walkPf P G ops Cv cs ds K (k + 1) vs og l (a.put o.dst v)) ∨
      (k ∉ ds ∧ cs[vs.length]? = some k ∧ yldG P ops Cv vs og o a ∧ ∀ v, (∃ og w, Cv (vs ++ [v]) og w) → walkPf P G ops Cv cs ds K (k + 1) (vs ++ [v]) og l (a.put o.dst v)) ∨
      (k ∈ ds ∧ og k = none ∧ (∀ j, cs[vs.length]? = some j → reachB .any ops k ops.size j = true) ∧ yldD P G ops Cv k o a ∧ ∀ g, G k g → walkPf P G ops Cv cs ds K (k + 1) vs (og.up k g) l (a.put o.dst g))

theorem pf_lex {n g : Nat} {K : List Value → Fl → Act → Prop} (hG : ∀ i, i ∈ ds → ∃ g, G i g) (hch : chained .any ops cs) (hsel : Region.noSelect ops = true) (hs : Region.sinkB .any ops n = true) (hc : Region.chainB .any ops n = true) (hn : n < ops.size) :
    ∀ (l : List Oper) (k : Nat) (vs : List Value) (og : Fl) (ls : Array Bool) (a : Act), (∃ og w, Cv vs og w) → (∀ j, j < l.length → l[j]? = ops[k + j]?) → k + l.length = n → HeadInv .any ops n ls →
    Region.lexHead .any ops g l.length k ls = true → walkPf P G ops Cv cs ds K k vs og l a → anyF P G .any ops Cv cs ds n (fun vs' og' ls' a' => Region.seqB .any ops g n ls' = true ∧ K vs' og' a') l.length vs og ls a
  | [], k, vs, og, ls, a, _, _, hk, _, hB, h => by
    obtain rfl : k = n := by simpa using hk
    exact ⟨by simpa [Region.lexHead] using hB, h⟩
  | o :: l, k, vs, og, ls, a, hw, hl, hk, inv, hB, h => by
    have h0 : ops[k]? = some o := by simpa using (hl 0 (by simp)).symm
    simp only [List.length_cons] at hk
    simp only [List.length_cons, Region.lexHead, Bool.and_eq_true] at hB
    obtain ⟨⟨hr, hf⟩, hB'⟩ := hB
    have hr' : k ∈ Region.ready .any ops ls := by simpa using hr
    have next : ∀ vs' og' a', (∃ og w, Cv vs' og w) → walkPf P G ops Cv cs ds K (k + 1) vs' og' l a' → anyF P G .any ops Cv cs ds n (fun vs' og' ls' a' => Region.seqB .any ops g n ls' = true ∧ K vs' og' a') l.length vs' og' (ls.setIfInBounds k true) a' := fun vs' og' a' hw' h' =>
      pf_lex hG hch hsel hs hc hn l (k + 1) vs' og' _ _ hw' (fun j hj => by have := hl (j + 1) (by simp; omega); simpa [Nat.add_assoc, Nat.add_comm 1 j] using this) (by omega) (inv.set hr' (by omega)) hB' h'
    rcases h with ⟨hkc, hkd, v, hy, hK⟩ | ⟨hkd, hkc, hy, hK⟩ | ⟨hkd, hog, hnx, hy, hK⟩
    · exact pf_plain h0 hkc hkd (Region.noSelect_spec hsel) hs hc hn (by omega) (fun vs' og' ls' a' hL => seqB_ready hL.1) l.length vs og ls a inv (Region.free_spec h0 hf) hr' hy (next vs og _ hw hK)
    · exact pf_call h0 hkd hch (Region.noSelect_spec hsel) hs hc hn (by omega) (fun vs' og' ls' a' hL => seqB_ready hL.1) l.length vs og ls a hkc hw inv (Region.free_spec h0 hf) hr' hy fun v hv => next _ og _ hv (hK v hv)
    · exact pf_float hkd h0 (hG k hkd) (Region.noSelect_spec hsel) hs hc hn (by omega) (fun vs' og' ls' a' hL => seqB_ready hL.1) l.length vs og ls a hog hw hnx inv (Region.free_spec h0 hf) hr' hy fun v hv => next vs (og.up k v) _ hw (hK v hv)

theorem region_pf {id : Nat} {Q : Exit → Act → World → Prop} {a : Act} {w : World} {l : List Oper} (n : Nat) (hG : ∀ i, i ∈ ds → ∃ g, G i g) (hm : P.follows .mixedOrders = true) (hB : Region.lexTailB .any l.toArray n = true) (hch : chainedB .any l.toArray cs = true) (hC : Cv [] .no w.drew)
    (h : walkPf P G l.toArray Cv cs ds (fun vs og a' => ∀ w', Cv vs og w' → wpList P l.toArray Q (l.drop n) a' w') 0 [] .no (l.take n) a) : (Code.region id l.toArray true).wp P Q a w := by
  simp only [Region.lexTailB, Bool.and_eq_true, decide_eq_true_eq] at hB
  obtain ⟨⟨⟨⟨hsel, hn⟩, hs⟩, hc⟩, hlex⟩ := hB
  have hn' : n < l.length := by simpa using hn
  have htl : (l.take n).length = n := by simp; omega
  have hdl : (l.drop n).length = l.toArray.size - n := by simp
  have inv0 : HeadInv .any l.toArray n (Array.replicate l.toArray.size false) :=
    ⟨by simp, fun j oj _ hl => (by rw [getD_replicate_false] at hl; cases hl), fun t _ ht => getD_in (by simpa using ht) (getD_replicate_false _ _)⟩
  have H := pf_lex (g := l.toArray.size - n) hG (chained_of hch) hsel hs hc hn (l.take n) 0 [] .no _ a ⟨.no, _, hC⟩ (fun j hj => by
    have hj' : j < n := by rw [htl] at hj; exact hj
    simp [hj']) (by simpa using htl) inv0 (by rw [htl]; exact hlex) h
  refine wp_region_any hm ?_
  have := any_of_pf (Q := Q) (g := l.toArray.size - n) (fun vs og ls a' w' hw' hL => by
    have := wpAny_of_seq (md := .any) (Q' := Q) (l.drop n) n ls a' w' (fun j => by simp [List.getElem?_drop]) (by rw [hdl]; exact hL.1) (hL.2 w' hw')
    rwa [hdl] at this) _ _ _ _ _ _ hC H
  rw [htl, show n + (l.toArray.size - n) = l.toArray.size by omega] at this
  exact this

/-- A world of any class. -/
structure PfW (Cv : List Value → Fl → World → Prop) where
  vs : List Value
  og : Fl
  w : World
  h : Cv vs og w
theorem PfW.there {w : World} (h : Cv [] .no w) : Nonempty (PfW Cv) := ⟨⟨[], .no, w, h⟩⟩
theorem pf_quiet {k : Nat} {vs : List Value} {og : Fl} {o : Oper} {l : List Oper} {a : Act} {K : List Value → Fl → Act → Prop} (hk : k ∉ cs ∧ k ∉ ds) (hp : plainOp2 o = true) (hwt : Region.wanted o (yielded ops a.tmps) = true)
    (h : ∀ K' : Act → Prop, (∀ a', walkPf P G ops Cv cs ds K (k + 1) vs og l a' → K' a') → o.quiet P a (fun w' => ∃ x : PfW Cv, w' = x.w) K') : walkPf P G ops Cv cs ds K k vs og (o :: l) a := by
  obtain ⟨v, h1, h2⟩ := h _ fun _ h => h
  refine .inl ⟨hk.1, hk.2, v, .inl ⟨hwt, fun vs' og' w hw => ?_⟩, h2⟩
  have h3 := h1 w ⟨⟨vs', og', w, hw⟩, rfl⟩
  unfold Oper.quietAt at h3
  cases hr : (execOp a.eval o).run P w with
  | ok n w' =>
    obtain ⟨u, rfl⟩ := plain_next2 hp hr
    rw [hr] at h3
    simp only [Oper.quietUpon] at h3
    obtain ⟨rfl, rfl⟩ := h3
    rfl
  | halt x w' => rw [hr] at h3; simp only [Oper.quietUpon] at h3
theorem pf_value {k : Nat} {vs : List Value} {og : Fl} {o : Oper} {l : List Oper} {a : Act} {K : List Value → Fl → Act → Prop} (hk : k ∉ cs ∧ k ∉ ds) (v : Value) (hwt : Region.wanted o (yielded ops a.tmps) = true)
    (hr : ∀ vs' og' w, Cv vs' og' w → (execOp a.eval o).run P w = .ok (.value v) w) (h : walkPf P G ops Cv cs ds K (k + 1) vs og l (a.put o.dst v)) : walkPf P G ops Cv cs ds K k vs og (o :: l) a :=
  .inl ⟨hk.1, hk.2, v, .inl ⟨hwt, hr⟩, h⟩
/-- The chain's next one: a call. 'og': what has come up in the text's order; more may have. -/
theorem pf_enter {k : Nat} {vs : List Value} {og : Fl} {o : Oper} {l : List Oper} {a : Act} {K : List Value → Fl → Act → Prop} {f : FuncId} {args : Array Value} (hk : k ∉ ds ∧ cs[vs.length]? = some k) (hwt : Region.wanted o (yielded ops a.tmps) = true) (hin : ∃ v og w, Cv (vs ++ [v]) og w)
    (hr : ∀ og' w, (∀ k, og k = none ∨ og' k = og k) → Cv vs og' w → (execOp a.eval o).run P w = .ok (.enter f args) w) (hc : ∀ og' w, (∀ k, og k = none ∨ og' k = og k) → Cv vs og' w → Calls P f args w fun e w'' => ∃ v, e = .returned v ∧ Cv (vs ++ [v]) og' w'')
    (h : ∀ v, (∃ og' w, Cv (vs ++ [v]) og' w) → walkPf P G ops Cv cs ds K (k + 1) (vs ++ [v]) og l (a.put o.dst v)) : walkPf P G ops Cv cs ds K k vs og (o :: l) a :=
  .inr (.inl ⟨hk.1, hk.2, ⟨hwt, hin, fun og' w ho hw => .inl ⟨f, args, hr og' w ho hw, hc og' w ho hw⟩⟩, h⟩)
/-- .. an operation that makes memory. -/
theorem pf_made {k : Nat} {vs : List Value} {og : Fl} {o : Oper} {l : List Oper} {a : Act} {K : List Value → Fl → Act → Prop} (hk : k ∉ ds ∧ cs[vs.length]? = some k) (hwt : Region.wanted o (yielded ops a.tmps) = true) (hin : ∃ v og w, Cv (vs ++ [v]) og w)
    (hr : ∀ og' w, (∀ k, og k = none ∨ og' k = og k) → Cv vs og' w → ∃ v w'', (execOp a.eval o).run P w = .ok (.value v) w'' ∧ Cv (vs ++ [v]) og' w'')
    (h : ∀ v, (∃ og' w, Cv (vs ++ [v]) og' w) → walkPf P G ops Cv cs ds K (k + 1) (vs ++ [v]) og l (a.put o.dst v)) : walkPf P G ops Cv cs ds K k vs og (o :: l) a :=
  .inr (.inl ⟨hk.1, hk.2, ⟨hwt, hin, fun og' w ho hw => .inr (let ⟨v, w2, h1, h2⟩ := hr og' w ho hw; ⟨v, w2, .inl h1, h2⟩)⟩, h⟩)
/-- .. a store. -/
theorem pf_stored {k : Nat} {vs : List Value} {og : Fl} {o : Oper} {l : List Oper} {a : Act} {K : List Value → Fl → Act → Prop} (hk : k ∉ ds ∧ cs[vs.length]? = some k) (hwt : Region.wanted o (yielded ops a.tmps) = true) (hin : ∃ v og w, Cv (vs ++ [v]) og w)
    (hr : ∀ og' w, (∀ k, og k = none ∨ og' k = og k) → Cv vs og' w → ∃ w'', (execOp a.eval o).run P w = .ok .skip w'' ∧ Cv (vs ++ [undef]) og' w'')
    (h : ∀ v, (∃ og' w, Cv (vs ++ [v]) og' w) → walkPf P G ops Cv cs ds K (k + 1) (vs ++ [v]) og l (a.put o.dst v)) : walkPf P G ops Cv cs ds K k vs og (o :: l) a :=
  .inr (.inl ⟨hk.1, hk.2, ⟨hwt, hin, fun og' w ho hw => .inr (by
    obtain ⟨w2, h1, h2⟩ := hr og' w ho hw
    exact ⟨undef, w2, .inr ⟨h1, rfl⟩, h2⟩)⟩, h⟩)
theorem pf_floats {k : Nat} {vs : List Value} {og : Fl} {o : Oper} {l : List Oper} {a : Act} {K : List Value → Fl → Act → Prop} (hk : k ∈ ds) (ho : og k = none) (hnx : ∀ j, cs[vs.length]? = some j → reachB .any ops k ops.size j = true) (hwt : Region.wanted o (yielded ops a.tmps) = true)
    (hr : ∀ vs' og' w, og' k = none → Cv vs' og' w → ∃ g w'', (execOp a.eval o).run P w = .ok (.value g) w'' ∧ G k g ∧ Cv vs' (og'.up k g) w'')
    (h : ∀ g, G k g → walkPf P G ops Cv cs ds K (k + 1) vs (og.up k g) l (a.put o.dst g)) : walkPf P G ops Cv cs ds K k vs og (o :: l) a :=
  .inr (.inr ⟨hk, ho, hnx, ⟨hwt, hr⟩, h⟩)
end
end Pg
end Go.Proofs.YtbbjifhelbeniaaGreatDoor

/- What ScoreFurther's drawn regions want: their classes of worlds; Plays with its capacity. -/
namespace Go.Proofs.YtbbjifhelbeniaaGreatDoor
open Go.RowKit

theorem own_soc {w : World} {base : Nat} {v : Value} {n : Nat} {l : List No.Nt} (h : w.ownsRow base 51 12 v n (vO l)) : ∃ D c, v = .slice D n c ∧ SlO w D l ∧ n ≤ c := by
  obtain ⟨-, D, c, rfl, h2, -⟩ := own_o h
  exact ⟨D, c, rfl, h2, own_cap h⟩
theorem splaysC_is (s : SH) (bs : List Mt.B) (ps : List Sc.Pt) (ns : List No.Nt) (id r : Int) (L : List No.Nt) (m : Nat) (h : Sc.pix ps id = r) (hv : Sc.Val s.v bs ps ns) (h0 : 0 ≤ r) (hL : Sc.play (atQ ps r.toNat) ns = L) (hm : L.length = m) (hwf : WfS bs ps ns) (w : World) (hG : Glob w) (hS : SlS w s bs ps ns) :
    Calls Tryz.prog 19 #[.agg #[.int .i64 s.v, .slice s.B s.bl s.bc, .slice s.P s.pl s.pc, .slice s.N s.nl s.nc], .int .i64 id] w fun y w' => ∃ D c, y = .returned (.tuple #[.slice D m c, .int .i64 0]) ∧ SlO w' D L ∧ m ≤ c ∧ Below w.heap.size w w' :=
  (splaysAll_is s bs ps ns id r h hwf w hG hS).mono fun y w' ⟨hb, hy⟩ => by
    rcases hy with ⟨k, rfl⟩ | ⟨k, k2, rfl⟩ | ⟨k, k2, v, rfl, ho⟩
    · exact absurd hv k
    · omega
    · rw [hL, hm] at ho
      obtain ⟨D, c, rfl, h2, h3⟩ := own_soc ho
      exact ⟨D, c, rfl, h2, h3, hb⟩
/-- 'append(own, x...)' as an operation; where the new row lies. -/
theorem exec_sloA {P : Program} {w : World} {o : Oper} {a : Act} (s x : Operand) (t : TypeId)
    (ho : o.op = .call { callee := .builtin .append, args := #[s, x], argTypes := #[t, t] })
    (base : Nat) (e : TypeId) (i : TypeInfo) (z : Value) (bytes : Nat) (ht : P.underlying t = some (.slice e)) (hi : P.info? e = some i) (hz : i.zero = some z)
    (hsize : i.size = 12) (hby : i.bytes = bytes) (hzs : z.cells.size = 12)
    (v : Value) (n : Nat) (xs : List Value) (hs : a.eval s = v) (hown : w.ownsRow base e 12 v n xs)
    (A : Option Addr) (m c : Nat) (l : List No.Nt) (hx : a.eval x = .slice A m c) (hA : A = none → c = 0) (hg : l.length = m) (hL : SlO w A l)
    (h63 : n + m ≤ maxLen) (hbytes : (n + m) * bytes ≤ 140737488355328) (hbase : base ≤ w.heap.size) {R : Value → World → Prop}
    (hR : ∀ v' w', w'.ownsRow base e 12 v' (n + m) (xs ++ vO l) → w.grownBy w' v.ownBlock → (v'.ownBlock = v.ownBlock ∨ v'.ownBlock = some w.heap.size) → R v' w') :
    ∃ v' w', (execOp a.eval o).run P w = .ok (.value v') w' ∧ R v' w' := by
  subst hg
  cases A with
  | none =>
    obtain rfl := hA rfl
    have h0 : l = [] := by
      cases l with
      | nil => rfl
      | cons y r =>
        obtain ⟨b, off, hb, _⟩ := hL (by simp)
        cases hb
    subst h0
    exact ⟨v, w, ap_exec ho hs hx (run_append_owned_none (P := P) (w := w) base t o.type e i 12 ht hi v n xs hown), hR v w (by simpa [vO] using hown) ⟨rfl, rfl, rfl, Nat.le_refl _, fun _ _ _ => rfl⟩ (.inl rfl)⟩
  | some ad =>
    obtain ⟨v', w', h1, h2, h3, _, h5⟩ := run_append_own_at (P := P) w base t o.type e i z 12 bytes ht hi hz hsize hby hzs (by omega) v n xs hown ad l.length c (vO l) (vO_length l) (by
      cases l with
      | nil => intro j u hj; simp [vO] at hj
      | cons y r =>
        obtain ⟨b, off, hb, _, hc⟩ := hL (by simp)
        cases hb
        exact SlO.news hc) (vO_cells l) h63 hbytes hbase
    exact ⟨v', w', ap_exec ho hs hx h1, hR v' w' h2 h3 h5⟩
theorem own_freshQ (w : World) (base : Nat) (h : base ≤ w.heap.size) (l : List No.Nt) (m : Nat) (hm : l.length = m) (hl : m ≤ 1000000) : (w.alloc (.cells (vO l).toArray 51)).ownsRow base 51 12 (.slice (some ⟨w.heap.size, 0, none⟩) m m) m (vO l) := by
  subst hm
  exact ⟨vO_length l, .inr ⟨w.heap.size, l.length, (vO l).toArray, rfl, h, heap_alloc_new w _, Nat.le_refl _, by unfold maxLen; omega, by rw [List.size_toArray, vO_length], by rw [List.take_of_length_le (by rw [vO_length]; exact Nat.le_refl _)]⟩⟩
/-- What has come up of the list of one note. -/
def f4U (n : No.Nt) (og : Fl) (w : World) : Prop := ∀ u, og 8 = some u → ∃ g, u = .slice (some ⟨g, 0, none⟩) 1 1 ∧ SlO w (some ⟨g, 0, none⟩) [n]
def f4A (v : Value) (og : Fl) : Prop := ∀ g, og 8 = some (.slice (some ⟨g, 0, none⟩) 1 1) → v.ownBlock ≠ some g
theorem f4U.lt {n : No.Nt} {og : Fl} {w : World} (h : f4U n og w) {g : Nat} (hg : og 8 = some (.slice (some ⟨g, 0, none⟩) 1 1)) : g < w.heap.size := by
  obtain ⟨g2, e, hL⟩ := h _ hg
  cases e
  obtain ⟨b, off, e2, hlt, -⟩ := hL (by simp)
  cases e2
  exact hlt
theorem f4U.below {n : No.Nt} {og : Fl} {w w' : World} (h : f4U n og w) (hb : Below w.heap.size w w') : f4U n og w' := fun u hu => by
  obtain ⟨g, e, hL⟩ := h u hu
  exact ⟨g, e, hL.below hb⟩
theorem f4U.grown {n : No.Nt} {og : Fl} {w w' : World} {v : Value} (h : f4U n og w) (ha : f4A v og) (hg : w.grownBy w' v.ownBlock) : f4U n og w' := fun u hu => by
  obtain ⟨g, rfl, hL⟩ := h u hu
  refine ⟨g, rfl, fun h0 => ?_⟩
  obtain ⟨b, off, e, hlt, hc⟩ := hL h0
  cases e
  have hk := hg.block g hlt (Ne.symm (ha g hu))
  exact ⟨g, 0, rfl, Nat.lt_of_lt_of_le hlt hg.size, fun k hk2 => NtAt.of fun j u hj => (World.cell?_of_block (w := w) hk).trans ((hc k hk2).to j u hj)⟩
theorem f4A.grown {v v' : Value} {n : No.Nt} {og : Fl} {w : World} (h : f4A v og) (hu : f4U n og w) (hb : v'.ownBlock = v.ownBlock ∨ v'.ownBlock = some w.heap.size) : f4A v' og := fun g hg e => by
  rcases hb with hb | hb
  · exact h g hg (hb.symm.trans e)
  · have := hu.lt hg
    rw [hb] at e
    have := Option.some.inj e
    omega
/-- Behind the operations of 't, e := With(s, s.Version, append(append([]Note{}, s.Notes...), n))'. -/
def f4C (W : World) (nl : Nat) (ns : List No.Nt) (n : No.Nt) (v' : Int) (bs' : List Mt.B) (ps' : List Sc.Pt) (ns' : List No.Nt) (e : Int) (vs : List Value) (og : Fl) (w : World) : Prop := match vs with
  | [] => hwV W (og 14) w ∧ f4U n og w
  | [v] => hwV W (og 14) w ∧ f4U n og w ∧ w.ownsRow W.heap.size 51 12 v 0 [] ∧ f4A v og
  | [_, v] => hwV W (og 14) w ∧ f4U n og w ∧ w.ownsRow W.heap.size 51 12 v nl (vO ns) ∧ f4A v og
  | [_, _, v] => hwV W (og 14) w ∧ w.ownsRow W.heap.size 51 12 v (nl + 1) (vO (ns ++ [n]))
  | [_, _, _, v] => hwV W (og 14) w ∧ ∃ s' : SH, v = .tuple #[.agg #[.int .i64 s'.v, .slice s'.B s'.bl s'.bc, .slice s'.P s'.pl s'.pc, .slice s'.N s'.nl s'.nc], .int .i64 e] ∧ s'.v = v' ∧ SlS w s' bs' ps' ns'
  | [_, _, _, _, _] => Below W.heap.size W w ∧ match og 14 with
    | none => False
    | some g => ∃ b, g = .pointer (some ⟨b, 0, none⟩) ∧ W.heap.size ≤ b ∧ ∃ s' : SH, ScV w b s' ∧ s'.v = v' ∧ SlS w s' bs' ps' ns'
  | _ => False
section
variable {W w : World} {nl : Nat} {ns : List No.Nt} {n : No.Nt} {v' e : Int} {bs' : List Mt.B} {ps' : List Sc.Pt} {ns' : List No.Nt}
theorem f4C.b {vs : List Value} {og : Fl} (h : f4C W nl ns n v' bs' ps' ns' e vs og w) : Below W.heap.size W w := by
  match vs, h with
  | [], h => exact h.1.1
  | [_], h => exact h.1.1
  | [_, _], h => exact h.1.1
  | [_, _, _], h => exact h.1.1
  | [_, _, _, _], h => exact h.1.1
  | [_, _, _, _, _], h => exact h.1
theorem hwV.ret {og og' : Option Value} (h : hwV W og w) (e : og' = og) : hwV W og' w := e ▸ h
theorem own_lt {base : Nat} {t : TypeId} {size : Nat} {v : Value} {m : Nat} {xs : List Value} (h : w.ownsRow base t size v m xs) {g : Nat} (hg : v.ownBlock = some g) : g < w.heap.size := by
  rcases h.2 with ⟨h1, _⟩ | ⟨b, cap, cur, h1, _, h3, _⟩
  · rw [h1] at hg; cases hg
  · rw [h1] at hg
    cases hg
    exact (Array.getElem?_eq_some_iff.1 h3).1
/-- The variable is made. -/
theorem f4C.made {vs : List Value} {og : Fl} (h : f4C W nl ns n v' bs' ps' ns' e vs og w) (h0 : og 14 = none) : f4C W nl ns n v' bs' ps' ns' e vs (og.up 14 (.pointer (some ⟨w.heap.size, 0, none⟩))) (w.alloc (.cells #[.int .i64 0, .slice none 0 0, .slice none 0 0, .slice none 0 0] 26)) := by
  have k8 : ∀ g, (og.up 14 g) 8 = og 8 := fun g => Fl.up_ne og g (by decide)
  have k14 : ∀ g, (og.up 14 g) 14 = some g := fun g => Fl.up_same og 14 g
  have hb := (Below.refl w.heap.size w).alloc (Nat.le_refl _) (.cells #[.int .i64 0, .slice none 0 0, .slice none 0 0, .slice none 0 0] 26)
  have hU : f4U n og w → f4U n (og.up 14 (.pointer (some ⟨w.heap.size, 0, none⟩))) (w.alloc (.cells #[.int .i64 0, .slice none 0 0, .slice none 0 0, .slice none 0 0] 26)) := fun h u hu => h.below hb u ((k8 _).symm.trans hu)
  have hA : ∀ {v}, f4A v og → f4A v (og.up 14 (.pointer (some ⟨w.heap.size, 0, none⟩))) := fun h g hg => h g ((k8 _).symm.trans hg)
  have hV : hwV W (og 14) w → hwV W ((og.up 14 (.pointer (some ⟨w.heap.size, 0, none⟩))) 14) (w.alloc (.cells #[.int .i64 0, .slice none 0 0, .slice none 0 0, .slice none 0 0] 26)) := fun h => (hwV.made (h.ret h0.symm)).ret (k14 _)
  match vs, h with
  | [], ⟨h1, h2⟩ => exact ⟨hV h1, hU h2⟩
  | [_], ⟨h1, h2, h3, h4⟩ => exact ⟨hV h1, hU h2, h3.alloc _, hA h4⟩
  | [_, _], ⟨h1, h2, h3, h4⟩ => exact ⟨hV h1, hU h2, h3.alloc _, hA h4⟩
  | [_, _, _], ⟨h1, h2⟩ => exact ⟨hV h1, h2.alloc _⟩
  | [_, _, _, _], ⟨h1, s', e, h2, h3⟩ => exact ⟨hV h1, s', e, h2, h3.alloc _⟩
  | [_, _, _, _, _], ⟨h1, h2⟩ => rw [h0] at h2; exact h2.elim
/-- The list of one note is made. -/
theorem f4C.one {vs : List Value} {og : Fl} (h : f4C W nl ns n v' bs' ps' ns' e vs og w) : f4C W nl ns n v' bs' ps' ns' e vs (og.up 8 (.slice (some ⟨w.heap.size, 0, none⟩) 1 1)) (w.alloc (.cells (vO [n]).toArray 51)) := by
  have k14 : ∀ g, (og.up 8 g) 14 = og 14 := fun g => Fl.up_ne og g (by decide)
  have k8 : ∀ g, (og.up 8 g) 8 = some g := fun g => Fl.up_same og 8 g
  have hb := (Below.refl w.heap.size w).alloc (Nat.le_refl _) (.cells (vO [n]).toArray 51)
  have hU : f4U n (og.up 8 (.slice (some ⟨w.heap.size, 0, none⟩) 1 1)) (w.alloc (.cells (vO [n]).toArray 51)) := fun u hu => by
    rw [k8] at hu
    cases hu
    exact ⟨_, rfl, slo_blk (l := [n]) (heap_alloc_new w _)⟩
  have hV : hwV W (og 14) w → hwV W ((og.up 8 (.slice (some ⟨w.heap.size, 0, none⟩) 1 1)) 14) (w.alloc (.cells (vO [n]).toArray 51)) := fun h => (h.below hb).ret (k14 _)
  have hA : ∀ {v m xs}, w.ownsRow W.heap.size 51 12 v m xs → f4A v (og.up 8 (.slice (some ⟨w.heap.size, 0, none⟩) 1 1)) := fun h g hg e => by
    rw [k8] at hg
    cases hg
    have := own_lt h e
    omega
  match vs, h with
  | [], ⟨h1, h2⟩ => exact ⟨hV h1, hU⟩
  | [_], ⟨h1, h2, h3, h4⟩ => exact ⟨hV h1, hU, h3.alloc _, hA h3⟩
  | [_, _], ⟨h1, h2, h3, h4⟩ => exact ⟨hV h1, hU, h3.alloc _, hA h3⟩
  | [_, _, _], ⟨h1, h2⟩ => exact ⟨hV h1, h2.alloc _⟩
  | [_, _, _, _], ⟨h1, s', e, h2, h3⟩ => exact ⟨hV h1, s', e, h2, h3.alloc _⟩
  | [_, _, _, _, _], ⟨h1, h2⟩ =>
    refine ⟨h1.trans (hb.mono h1.size), ?_⟩
    rw [k14]
    cases h14 : og 14 with
    | none => rw [h14] at h2; exact h2.elim
    | some g =>
      rw [h14] at h2
      obtain ⟨b, e, hl, s', hv, h5, h6⟩ := h2
      exact ⟨b, e, hl, s', hv.below hb, h5, h6.below hb⟩
theorem f4C.row {a b c g : Value} {og : Fl} {t : SH} (h : f4C W nl ns n v' bs' ps' ns' e [a, b, c, .tuple #[.agg #[.int .i64 t.v, .slice t.B t.bl t.bc, .slice t.P t.pl t.pc, .slice t.N t.nl t.nc], .int .i64 e]] og w) (hg : og 14 = some g) :
    ∃ b', g = .pointer (some ⟨b', 0, none⟩) ∧ ∃ w', (storeVar 26 ⟨b', 0, none⟩ (.agg #[.int .i64 t.v, .slice t.B t.bl t.bc, .slice t.P t.pl t.pc, .slice t.N t.nl t.nc])).run Tryz.prog w = .ok () w' ∧ ∀ a b c y z, f4C W nl ns n v' bs' ps' ns' e [a, b, c, y, z] og w' := by
  obtain ⟨⟨hb, hv⟩, s2, e2, h2, h3⟩ := h
  rw [hg] at hv
  obtain ⟨b', e0, hl, hv⟩ := hv
  have e3 : (Value.agg #[.int .i64 t.v, .slice t.B t.bl t.bc, .slice t.P t.pl t.pc, .slice t.N t.nl t.nc]) = .agg #[.int .i64 s2.v, .slice s2.B s2.bl s2.bc, .slice s2.P s2.pl s2.pc, .slice s2.N s2.nl s2.nc] := by
    have e4 := Value.tuple.inj e2
    have e5 := congrArg (fun a : Array Value => a[0]?) e4
    simpa using e5
  obtain ⟨w2, k1, k2, k3, k4⟩ := hv.row s2
  refine ⟨b', e0, w2, by rw [e3]; exact k1, fun _ _ _ _ _ => ⟨k3 hb hl, ?_⟩⟩
  rw [hg]
  exact ⟨b', e0, hl, s2, k2, h2, k4 _ _ _ _ h3⟩
theorem f4C.sat {a b c y z : Value} {t : SH} (h : ∃ og w, f4C W nl ns n v' bs' ps' ns' e [a, b, c, .tuple #[.agg #[.int .i64 t.v, .slice t.B t.bl t.bc, .slice t.P t.pl t.pc, .slice t.N t.nl t.nc], .int .i64 e]] og w) : ∃ og w, f4C W nl ns n v' bs' ps' ns' e [a, b, c, y, z] og w := by
  obtain ⟨og, w, hw⟩ := h
  cases h14 : og 14 with
  | none =>
    obtain ⟨b', -, w2, -, h2⟩ := (hw.made h14).row (Fl.up_same _ _ _)
    exact ⟨_, w2, h2 a b c y z⟩
  | some g =>
    obtain ⟨b', -, w2, -, h2⟩ := hw.row h14
    exact ⟨_, w2, h2 a b c y z⟩
end
/-- Behind the operations of 'Same(append(append([]Note{}, b[:k]...), b[k+1:]...), a)'. -/
def f19C (W : World) (k m : Nat) (A L : List No.Nt) (vs : List Value) (w : World) : Prop := Below W.heap.size W w ∧ match vs with
  | [] => True
  | [v] => w.ownsRow W.heap.size 51 12 v 0 []
  | [_, v] => w.ownsRow W.heap.size 51 12 v k (vO A)
  | [_, _, v] => w.ownsRow W.heap.size 51 12 v m (vO L)
  | [_, _, _, v] => v = .bool true
  | _ => False
end Go.Proofs.YtbbjifhelbeniaaGreatDoor
