/- A region that draws its order, among whose operations ONE call writes memory, and which ends with operations that wait for all others ('m[k] = f(x)', f a closure that stores): whatever order is picked, the operations beside the call yield the same before and behind it; so one walk in the text's order serves all orders. -/
import Derived.Test.YtakbpgljbbkmkaaTail
namespace Go.Proofs.Ytakbpgljbbkmkaa
open Go.RowKit

/-- Operations that hand back a value, or go wrong: they enter no function. -/
def plainOp (o : Oper) : Bool :=
  match o.op with
  | .move _ | .assign _ | .load _ _ | .binOp .. | .unOp .. | .fieldAddr .. | .indexAddr .. | .index .. | .build .. | .extract .. | .field .. => true
  | _ => false

theorem plain_value {P : Program} {s : Sem Value} {w w' : World} {n : Next} (h : (do pure (Next.value (← s)) : Sem Next).run P w = .ok n w') : ∃ u, n = .value u := by
  rw [Sem.run_bind] at h
  cases hs : s.run P w with
  | ok u w1 =>
    rw [hs] at h
    simp only [Result.andThen] at h
    cases h
    exact ⟨u, rfl⟩
  | halt x w1 => rw [hs] at h; simp only [Result.andThen] at h; cases h

theorem plain_next {P : Program} {o : Oper} (h : plainOp o = true) {ρ : Operand → Value} {w w' : World} {n : Next} (hr : (execOp ρ o).run P w = .ok n w') : ∃ u, n = .value u := by
  unfold plainOp at h
  unfold execOp at hr
  generalize o.op = op at h hr
  cases op
  all_goals first
    | (exact (Bool.false_ne_true h).elim)
    | (exact plain_value hr)
    | (cases hr; exact ⟨_, rfl⟩)

/-- A world of the one class or of the other. -/
structure PhW (Cb : Bool → World → Prop) where
  b : Bool
  w : World
  h : Cb b w
/-- Before the call nothing has happened but the draw; behind it POST holds. -/
def oneC (W : World) (POST : World → Prop) : Bool → World → Prop
  | false, w => w = W.drew
  | true, w => POST w
theorem PhW.there (W : World) (POST : World → Prop) : Nonempty (PhW (oneC W POST)) := ⟨⟨false, W.drew, rfl⟩⟩
theorem PhW.fact {W : World} {POST : World → Prop} {p : World → Prop} (h0 : p W.drew) (h1 : ∀ w, POST w → p w) (x : PhW (oneC W POST)) : p x.w := by
  obtain ⟨b, w, h⟩ := x
  cases b with
  | false => cases h; exact h0
  | true => exact h1 w h

section
variable {P : Program} {ops : Array Oper} {md : Region.Mode} {Cb : Bool → World → Prop} {c : Nat}

/-- Operation k yields this value: beside the call in each of the two classes of worlds, which it keeps; the call leads from the first class to the second. -/
def yld (P : Program) (ops : Array Oper) (Cb : Bool → World → Prop) (c k : Nat) (o : Oper) (v : Value) (a : Act) : Prop :=
  (Region.wanted o (yielded ops a.tmps) = true ∧
    ((k ≠ c ∧ ∀ b w, Cb b w → ∃ u, (execOp a.eval o).run P w = .ok (.value u) w ∧ u = v) ∨
     (k = c ∧ ∀ w, Cb false w → ∃ f args, (execOp a.eval o).run P w = .ok (.enter f args) w ∧ Calls P f args w fun e w'' => e = .returned v ∧ Cb true w''))) ∨
  (Region.wanted o (yielded ops a.tmps) = false ∧ v = undef ∧ k ≠ c)

theorem yld.same {k : Nat} {o : Oper} {v : Value} {a a' : Act} (h : yld P ops Cb c k o v a) (he : execOp a'.eval o = execOp a.eval o)
    (hw : Region.wanted o (yielded ops a'.tmps) = Region.wanted o (yielded ops a.tmps)) : yld P ops Cb c k o v a' := by
  unfold yld at *
  rw [he, hw]
  exact h

def anyPh (P : Program) (md : Region.Mode) (ops : Array Oper) (Cb : Bool → World → Prop) (c n : Nat) (L : Array Bool → Act → Prop) : Nat → Array Bool → Act → Prop
  | 0, ls, a => L ls a
  | f + 1, ls, a => Region.ready md ops ls ≠ [] ∧ ∀ i ∈ Region.ready md ops ls, i < n ∧ ∃ o v, ops[i]? = some o ∧ yld P ops Cb c i o v a ∧ anyPh P md ops Cb c n L f (ls.setIfInBounds i true) (a.put o.dst v)

theorem wpOp_of_yld {i : Nat} {o : Oper} {v : Value} {a : Act} {K : Act → World → Prop} {Q : Exit → Act → World → Prop} {b : Bool} {w : World} (ho : ops[i]? = some o) (hy : yld P ops Cb c i o v a) (hw : Cb b w) (hb : i = c → b = false)
    (h : ∀ w', Cb (b || i == c) w' → K (a.put o.dst v) w') : wpOp P ops Q i K a w := by
  unfold wpOp
  simp only [ho]
  rcases hy with ⟨hwt, hy⟩ | ⟨hwt, rfl, hne⟩
  · simp only [hwt, if_true]
    refine .inl ?_
    unfold Oper.wp
    rcases hy with ⟨hne, hy⟩ | ⟨rfl, hy⟩
    · obtain ⟨u, hr, rfl⟩ := hy b w hw
      rw [hr]
      simp only [Oper.upon]
      exact h _ (by rw [show (i == c) = false by simpa using hne, Bool.or_false]; exact hw)
    · obtain rfl := hb rfl
      obtain ⟨f, args, hr, hc⟩ := hy w hw
      rw [hr]
      simp only [Oper.upon]
      exact hc.mono fun e w'' ⟨he, hw''⟩ => by subst he; exact h _ (by simpa using hw'')
  · simp only [hwt, Bool.false_eq_true, if_false]
    exact h _ (by rw [show (i == c) = false by simpa using hne, Bool.or_false]; exact hw)

theorem any_of_ph {n g : Nat} {L : Array Bool → Act → Prop} {Q : Exit → Act → World → Prop} (hL : ∀ ls a w, Cb (ls.getD c false) w → L ls a → wpAny P md ops Q g ls a w) :
    ∀ (f : Nat) (ls : Array Bool) (a : Act) (w : World), Cb (ls.getD c false) w → anyPh P md ops Cb c n L f ls a → wpAny P md ops Q (f + g) ls a w
  | 0, ls, a, w, hw, h => by rw [Nat.zero_add]; exact hL _ _ _ hw h
  | f + 1, ls, a, w, hw, h => by
    rw [show f + 1 + g = (f + g) + 1 by omega]
    refine ⟨fun h0 => absurd h0 h.1, fun i hi => ?_⟩
    obtain ⟨_, o, v, ho, hy, hn⟩ := h.2 i hi
    have un := (mem_ready.1 hi).1
    refine wpOp_of_yld ho hy hw (fun e => by subst e; exact getD_both un) fun w' hw' => any_of_ph hL f _ _ w' ?_ hn
    by_cases e : i = c
    · subst e
      have his : i < ls.size := by
        rcases Nat.lt_or_ge i ls.size with h' | h'
        · exact h'
        · simp [Array.getElem?_eq_none h'] at un
      have : (ls.setIfInBounds i true).getD i false = true := by simp [his]
      rw [this]
      simpa using hw'
    · rw [getD_set_ne false e]
      rwa [show (i == c) = false by simpa using e, Bool.or_false] at hw'

theorem yld_put {j i : Nat} {oi oj : Oper} {v u : Value} (hap : oi.apart ops oj = true)
    (hsi : ∀ cs b, oi.op ≠ .select cs b) (hsj : ∀ cs b, oj.op ≠ .select cs b) {a : Act}
    (hy : yld P ops Cb c i oi v a) (h : yld P ops Cb c j oj u (a.put oi.dst v)) : yld P ops Cb c j oj u a ∧ yld P ops Cb c i oi v (a.put oj.dst u) ∧ (a.put oi.dst v).put oj.dst u = (a.put oj.dst u).put oi.dst v := by
  obtain ⟨h1, h2, h3⟩ := Oper.apart_spec hap
  refine ⟨h.same (execOp_put oj hsj a oi.dst v h1).symm (wanted_put oj a oi.dst v h1).symm, hy.same (execOp_put oi hsi a oj.dst u h3) (wanted_put oi a oj.dst u h3), ?_⟩
  exact Act.put_comm a v u h2

theorem ph_first {n i : Nat} {oi : Oper} {v : Value} {L : Array Bool → Act → Prop} (hi : ops[i]? = some oi) (hsel : ∀ (j : Nat) (o : Oper) cs b, ops[j]? = some o → o.op ≠ .select cs b)
    (hs : Region.sinkB md ops n = true) (hc : Region.chainB md ops n = true) (hn : n < ops.size) (hin : i < n) (hend : ∀ ls a, L ls a → ∀ j ∈ Region.ready md ops ls, n ≤ j)
    (f : Nat) : ∀ (ls : Array Bool) (a : Act), HeadInv md ops n ls →
      (∀ j oj, ops[j]? = some oj → j ≠ i → ls.getD j true = false → (∀ e ∈ oj.after, Region.binds md e = true → e.on ≠ i) → oi.apart ops oj = true) →
      i ∈ Region.ready md ops ls → yld P ops Cb c i oi v a → anyPh P md ops Cb c n L f (ls.setIfInBounds i true) (a.put oi.dst v) → anyPh P md ops Cb c n L (f + 1) ls a := by
  induction f with
  | zero =>
    intro ls a inv _ hr hy H
    have un := (mem_ready.1 hr).1
    refine ⟨fun h => (by rw [h] at hr; cases hr), fun j hj => ?_⟩
    have hjn : j < n := Nat.lt_of_not_le fun h => tail_waits hs hc hn inv _ i rfl hin un j h hj
    refine ⟨hjn, ?_⟩
    by_cases hji : j = i
    · subst hji; exact ⟨_, _, hi, hy, H⟩
    · exact absurd (hend _ _ H j (ready_mono hj hji)) (by omega)
  | succ f ih =>
    intro ls a inv hfree hr hy H
    have un := (mem_ready.1 hr).1
    refine ⟨fun h => (by rw [h] at hr; cases hr), fun j hj => ?_⟩
    have hjn : j < n := Nat.lt_of_not_le fun h => tail_waits hs hc hn inv _ i rfl hin un j h hj
    refine ⟨hjn, ?_⟩
    by_cases hji : j = i
    · subst hji; exact ⟨_, _, hi, hy, H⟩
    · obtain ⟨_, oj, u, hoj, hyj, H'⟩ := H.2 j (ready_mono hj hji)
      obtain ⟨jun, oj', hoj', hall⟩ := mem_ready.1 hj
      obtain rfl : oj' = oj := Option.some.inj (hoj'.symm.trans hoj)
      have hnot : ∀ e ∈ oj'.after, Region.binds md e = true → e.on ≠ i := fun e he hb heq => by
        have h2 := hall e he hb
        rw [heq, getD_both un] at h2
        cases h2
      obtain ⟨k1, k2, k3⟩ := yld_put (hfree j oj' hoj hji jun hnot) (fun cs b => hsel i oi cs b hi) (fun cs b => hsel j oj' cs b hoj) hy hyj
      refine ⟨oj', u, hoj, k1, ih (ls.setIfInBounds j true) _ (inv.set hj hjn) (fun k ok hk hki kun hno => hfree k ok hk hki ?_ hno) (ready_mono hr (Ne.symm hji)) k2 ?_⟩
      · by_cases hjk : j = k
        · subst hjk; exact jun
        · rwa [getD_set_ne true hjk] at kun
      · rw [Array.setIfInBounds_comm _ _ hji, ← k3]
        exact H'

/-- The walk in the text's order. -/
def walkPh (P : Program) (ops : Array Oper) (Cb : Bool → World → Prop) (c : Nat) (K : Act → Prop) : Nat → List Oper → Act → Prop
  | _, [], a => K a
  | k, o :: l, a => ∃ v, yld P ops Cb c k o v a ∧ walkPh P ops Cb c K (k + 1) l (a.put o.dst v)

theorem ph_lex {n g : Nat} {K : Act → Prop} (hsel : Region.noSelect ops = true) (hs : Region.sinkB md ops n = true) (hc : Region.chainB md ops n = true) (hn : n < ops.size) :
    ∀ (l : List Oper) (k : Nat) (ls : Array Bool) (a : Act), (∀ j, j < l.length → l[j]? = ops[k + j]?) → k + l.length = n → HeadInv md ops n ls → (∀ j, j < k → ls.getD j false = true) →
    Region.lexHead md ops g l.length k ls = true → walkPh P ops Cb c K k l a → anyPh P md ops Cb c n (fun ls' a' => (Region.seqB md ops g n ls' = true ∧ ∀ j, j < n → ls'.getD j false = true) ∧ K a') l.length ls a
  | [], k, ls, a, _, hk, _, hall, hB, h => by
    obtain rfl : k = n := by simpa using hk
    exact ⟨⟨by simpa [Region.lexHead] using hB, hall⟩, h⟩
  | o :: l, k, ls, a, hl, hk, inv, hall, hB, h => by
    have h0 : ops[k]? = some o := by simpa using (hl 0 (by simp)).symm
    simp only [List.length_cons] at hk
    simp only [List.length_cons, Region.lexHead, Bool.and_eq_true] at hB
    obtain ⟨⟨hr, hf⟩, hB'⟩ := hB
    have hr' : k ∈ Region.ready md ops ls := by simpa using hr
    obtain ⟨v, hy, hK⟩ := h
    refine ph_first h0 (Region.noSelect_spec hsel) hs hc hn (by omega) (fun ls' a' hL => seqB_ready hL.1.1) l.length ls a inv (Region.free_spec h0 hf) hr' hy
      (ph_lex hsel hs hc hn l (k + 1) _ _ (fun j hj => by have := hl (j + 1) (by simp; omega); simpa [Nat.add_assoc, Nat.add_comm 1 j] using this) (by omega) (inv.set hr' (by omega)) (fun j hj => ?_) hB' hK)
    by_cases e : k = j
    · subst e
      have : k < ls.size := by rw [inv.size]; omega
      simp [this]
    · rw [getD_set_ne false e]; exact hall j (by omega)

theorem region_ph {id : Nat} {Q : Exit → Act → World → Prop} {a : Act} {w : World} {l : List Oper} (n : Nat) (hcn : c < n) (hm : P.follows .mixedOrders = true) (hB : Region.lexTailB .any l.toArray n = true) (hC : Cb false w.drew)
    (h : walkPh P l.toArray Cb c (fun a' => ∀ w', Cb true w' → wpList P l.toArray Q (l.drop n) a' w') 0 (l.take n) a) : (Code.region id l.toArray true).wp P Q a w := by
  simp only [Region.lexTailB, Bool.and_eq_true, decide_eq_true_eq] at hB
  obtain ⟨⟨⟨⟨hsel, hn⟩, hs⟩, hc⟩, hlex⟩ := hB
  have hn' : n < l.length := by simpa using hn
  have htl : (l.take n).length = n := by simp; omega
  have hdl : (l.drop n).length = l.toArray.size - n := by simp
  have inv0 : HeadInv .any l.toArray n (Array.replicate l.toArray.size false) :=
    ⟨by simp, fun j oj _ hl => (by rw [getD_replicate_false] at hl; cases hl), fun t _ ht => getD_in (by simpa using ht) (getD_replicate_false _ _)⟩
  have H := ph_lex (md := .any) (g := l.toArray.size - n) hsel hs hc hn (l.take n) 0 _ a (fun j hj => by
    have hj' : j < n := by rw [htl] at hj; exact hj
    simp [hj']) (by simpa using htl) inv0 (fun j hj => by omega) (by rw [htl]; exact hlex) h
  refine wp_region_any hm ?_
  have := any_of_ph (Q := Q) (g := l.toArray.size - n) (fun ls a' w' hw' hL => by
    rw [hL.1.2 c hcn] at hw'
    have := wpAny_of_seq (md := .any) (Q' := Q) (l.drop n) n ls a' w' (fun j => by simp [List.getElem?_drop]) (by rw [hdl]; exact hL.1.1) (hL.2 w' hw')
    rwa [hdl] at this) _ _ _ _ (by rw [getD_replicate_false]; exact hC) H
  rw [htl, show n + (l.toArray.size - n) = l.toArray.size by omega] at this
  exact this

/-- An operation beside the call: by a quiet walk's one step, over both classes at once. -/
theorem yld_quiet {k : Nat} {o : Oper} {a : Act} {K : Act → Prop} (hk : k ≠ c) (hp : plainOp o = true) (hwt : Region.wanted o (yielded ops a.tmps) = true) (h : o.quiet P a (fun w' => ∃ x : PhW Cb, w' = x.w) K) : ∃ v, yld P ops Cb c k o v a ∧ K (a.put o.dst v) := by
  obtain ⟨v, h1, h2⟩ := h
  refine ⟨v, .inl ⟨hwt, .inl ⟨hk, fun b w hw => ?_⟩⟩, h2⟩
  have h3 := h1 w ⟨⟨b, w, hw⟩, rfl⟩
  unfold Oper.quietAt at h3
  cases hr : (execOp a.eval o).run P w with
  | ok n w' =>
    obtain ⟨u, rfl⟩ := plain_next hp hr
    rw [hr] at h3
    simp only [Oper.quietUpon] at h3
    obtain ⟨rfl, rfl⟩ := h3
    exact ⟨_, rfl, rfl⟩
  | halt x w' => rw [hr] at h3; simp only [Oper.quietUpon] at h3

theorem walk_quiet {k : Nat} {o : Oper} {l : List Oper} {a : Act} {K : Act → Prop} (hk : k ≠ c) (hp : plainOp o = true) (hwt : Region.wanted o (yielded ops a.tmps) = true)
    (h : ∀ K' : Act → Prop, (∀ a', walkPh P ops Cb c K (k + 1) l a' → K' a') → o.quiet P a (fun w' => ∃ x : PhW Cb, w' = x.w) K') : walkPh P ops Cb c K k (o :: l) a :=
  yld_quiet hk hp hwt (h _ fun _ h => h)
theorem walkPh_enter {o : Oper} {l : List Oper} {a : Act} {K : Act → Prop} {f : FuncId} {args : Array Value} (v : Value) (hwt : Region.wanted o (yielded ops a.tmps) = true)
    (hr : ∀ w, Cb false w → (execOp a.eval o).run P w = .ok (.enter f args) w) (hc : ∀ w, Cb false w → Calls P f args w fun e w'' => e = .returned v ∧ Cb true w'')
    (h : walkPh P ops Cb c K (c + 1) l (a.put o.dst v)) : walkPh P ops Cb c K c (o :: l) a :=
  ⟨v, .inl ⟨hwt, .inr ⟨rfl, fun w hw => ⟨f, args, hr w hw, hc w hw⟩⟩⟩, h⟩
end
theorem oneK {P : Program} {W : World} {POST : World → Prop} {id : Nat} {Q : Exit → Act → World → Prop} {a : Act} {l : List Oper} {c : Nat} (n : Nat) (hcn : c < n) (hm : P.follows .mixedOrders = true) (hB : Region.lexTailB .any l.toArray n = true)
    (h : walkPh P l.toArray (oneC W POST) c (fun a' => ∀ w', POST w' → wpList P l.toArray Q (l.drop n) a' w') 0 (l.take n) a) : (Code.region id l.toArray true).wp P Q a W :=
  region_ph (Cb := oneC W POST) n hcn hm hB rfl h
theorem genV {P : Program} {c : Code} {Q : Exit → Act → World → Prop} {a : Act} {W : World} (R : World → Prop) (hR : R W) (h : ∀ we, R we → c.wp P Q a we) : c.wp P Q a W := h W hR
end Go.Proofs.Ytakbpgljbbkmkaa
