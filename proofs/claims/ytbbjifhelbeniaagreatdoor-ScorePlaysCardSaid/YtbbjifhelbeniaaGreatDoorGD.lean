import Derived.Test.YtbbjifhelbeniaaGreatDoorGA
import Derived.Sort.Grow
import Derived.RangeFuncNested
/- Variables that are carried over stores into other variables. -/
namespace Go.Proofs.YtbbjifhelbeniaaGreatDoor
open Go.RowKit

theorem set_cell_ne (w : World) (b c k j : Nat) (v : Value) (h : b ≠ c) : (w.setCell ⟨c, k, none⟩ v).cell? ⟨b, j, none⟩ = w.cell? ⟨b, j, none⟩ :=
  World.cell?_of_block (w := w) (a := ⟨b, j, none⟩) (Below.heap_setCell w ⟨c, k, none⟩ v b h)
theorem set_frozen_ne (w : World) (b c k j : Nat) (v : Value) (h : b ≠ c) : (w.setCell ⟨c, k, none⟩ v).frozen? ⟨b, j, none⟩ = w.frozen? ⟨b, j, none⟩ :=
  World.frozen?_of_block (w := w) (a := ⟨b, j, none⟩) (Below.heap_setCell w ⟨c, k, none⟩ v b h)
theorem At2.ne {w : World} {b : Nat} {x y : Int} (h : At2 w b x y) (c k : Nat) (v : Value) (hn : b ≠ c) : At2 (w.setCell ⟨c, k, none⟩ v) b x y :=
  ⟨by simpa using h.lt, (set_cell_ne _ _ _ _ _ _ hn).trans h.c0, (set_cell_ne _ _ _ _ _ _ hn).trans h.c1⟩
theorem At3.ne {w : World} {b : Nat} {x y z : Int} (h : At3 w b x y z) (c k : Nat) (v : Value) (hn : b ≠ c) : At3 (w.setCell ⟨c, k, none⟩ v) b x y z :=
  ⟨by simpa using h.lt, (set_cell_ne _ _ _ _ _ _ hn).trans h.c0, (set_cell_ne _ _ _ _ _ _ hn).trans h.c1, (set_cell_ne _ _ _ _ _ _ hn).trans h.c2⟩
theorem Var2.ne {w : World} {b : Nat} {x y : Int} (h : Var2 w b x y) (c k : Nat) (v : Value) (hn : b ≠ c) : Var2 (w.setCell ⟨c, k, none⟩ v) b x y :=
  ⟨h.at2.ne c k v hn, (set_frozen_ne _ _ _ _ _ _ hn).trans h.f0, (set_frozen_ne _ _ _ _ _ _ hn).trans h.f1⟩
theorem Var3.ne {w : World} {b : Nat} {x y z : Int} (h : Var3 w b x y z) (c k : Nat) (v : Value) (hn : b ≠ c) : Var3 (w.setCell ⟨c, k, none⟩ v) b x y z :=
  ⟨h.at3.ne c k v hn, (set_frozen_ne _ _ _ _ _ _ hn).trans h.f0, (set_frozen_ne _ _ _ _ _ _ hn).trans h.f1, (set_frozen_ne _ _ _ _ _ _ hn).trans h.f2⟩
theorem Var2.put {w : World} {b : Nat} {x y : Int} (h : Var2 w b x y) (p q : Int) : Var2 ((w.setCell ⟨b, 0, none⟩ (.int .i64 p)).setCell ⟨b, 1, none⟩ (.int .i64 q)) b p q := by
  obtain ⟨⟨l, c0, c1⟩, f0, f1⟩ := h
  refine ⟨⟨?_, ?_, ?_⟩, ?_, ?_⟩
  · simpa using l
  all_goals go_simp
theorem Var3.put {w : World} {b : Nat} {x y z : Int} (h : Var3 w b x y z) (p q r : Int) : Var3 (((w.setCell ⟨b, 0, none⟩ (.int .i64 p)).setCell ⟨b, 1, none⟩ (.int .i64 q)).setCell ⟨b, 2, none⟩ (.int .i64 r)) b p q r := by
  obtain ⟨⟨l, c0, c1, c2⟩, f0, f1, f2⟩ := h
  refine ⟨⟨?_, ?_, ?_, ?_⟩, ?_, ?_, ?_⟩
  · simpa using l
  all_goals go_simp
end Go.Proofs.YtbbjifhelbeniaaGreatDoor

/- A region that draws its order, among whose operations ONE call writes memory, and which ends with operations that wait for all others ('m[k] = f(x)', f a closure that stores): whatever order is picked, the operations beside the call yield the same before and behind it; so one walk in the text's order serves all orders. -/
namespace Go.Proofs.YtbbjifhelbeniaaGreatDoor
open Go.RowKit

/-- Operations that hand back a value, or go wrong: they enter no function. -/
def plainOp (o : Oper) : Bool :=
  match o.op with
  | .move _ | .assign _ | .load _ _ | .binOp .. | .unOp .. | .fieldAddr .. | .indexAddr .. | .index .. | .build .. | .extract .. | .field .. => true
  | _ => false

theorem plain_value {P : Program} {s : Sem Value} {w w' : World} {n : Next} (h : (do pure (Next.value (← s)) : Sem Next).run P w = .ok n w') : ∃ u, n = .value u := by
  rw [Sem.run_bind] at h
  cases hs : s.run P w with
  | ok u w1 =>
    rw [hs] at h
    simp only [Result.andThen] at h
    cases h
    exact ⟨u, rfl⟩
  | halt x w1 => rw [hs] at h; simp only [Result.andThen] at h; cases h

theorem plain_next {P : Program} {o : Oper} (h : plainOp o = true) {ρ : Operand → Value} {w w' : World} {n : Next} (hr : (execOp ρ o).run P w = .ok n w') : ∃ u, n = .value u := by
  unfold plainOp at h
  unfold execOp at hr
  generalize o.op = op at h hr
  cases op
  all_goals first
    | (exact (Bool.false_ne_true h).elim)
    | (exact plain_value hr)
    | (cases hr; exact ⟨_, rfl⟩)

/-- A world of the one class or of the other. -/
structure PhW (Cb : Bool → World → Prop) where
  b : Bool
  w : World
  h : Cb b w
/-- Before the call nothing has happened but the draw; behind it POST holds. -/
def oneC (W : World) (POST : World → Prop) : Bool → World → Prop
  | false, w => w = W.drew
  | true, w => POST w
theorem PhW.there (W : World) (POST : World → Prop) : Nonempty (PhW (oneC W POST)) := ⟨⟨false, W.drew, rfl⟩⟩
theorem PhW.fact {W : World} {POST : World → Prop} {p : World → Prop} (h0 : p W.drew) (h1 : ∀ w, POST w → p w) (x : PhW (oneC W POST)) : p x.w := by
  obtain ⟨b, w, h⟩ := x
  cases b with
  | false => cases h; exact h0
  | true => exact h1 w h

section
variable {P : Program} {ops : Array Oper} {md : Region.Mode} {Cb : Bool → World → Prop} {c : Nat}

/-- Operation k yields this value: beside the call in each of the two classes of worlds, which it keeps; the call leads from the first class to the second. -/
def yld (P : Program) (ops : Array Oper) (Cb : Bool → World → Prop) (c k : Nat) (o : Oper) (v : Value) (a : Act) : Prop :=
  (Region.wanted o (yielded ops a.tmps) = true ∧
    ((k ≠ c ∧ ∀ b w, Cb b w → ∃ u, (execOp a.eval o).run P w = .ok (.value u) w ∧ u = v) ∨
     (k = c ∧ ∀ w, Cb false w → ∃ f args, (execOp a.eval o).run P w = .ok (.enter f args) w ∧ Calls P f args w fun e w'' => e = .returned v ∧ Cb true w''))) ∨
  (Region.wanted o (yielded ops a.tmps) = false ∧ v = undef ∧ k ≠ c)

theorem yld.same {k : Nat} {o : Oper} {v : Value} {a a' : Act} (h : yld P ops Cb c k o v a) (he : execOp a'.eval o = execOp a.eval o)
    (hw : Region.wanted o (yielded ops a'.tmps) = Region.wanted o (yielded ops a.tmps)) : yld P ops Cb c k o v a' := by
  unfold yld at *
  rw [he, hw]
  exact h

def anyPh (P : Program) (md : Region.Mode) (ops : Array Oper) (Cb : Bool → World → Prop) (c n : Nat) (L : Array Bool → Act → Prop) : Nat → Array Bool → Act → Prop
  | 0, ls, a => L ls a
  | f + 1, ls, a => Region.ready md ops ls ≠ [] ∧ ∀ i ∈ Region.ready md ops ls, i < n ∧ ∃ o v, ops[i]? = some o ∧ yld P ops Cb c i o v a ∧ anyPh P md ops Cb c n L f (ls.setIfInBounds i true) (a.put o.dst v)

theorem wpOp_of_yld {i : Nat} {o : Oper} {v : Value} {a : Act} {K : Act → World → Prop} {Q : Exit → Act → World → Prop} {b : Bool} {w : World} (ho : ops[i]? = some o) (hy : yld P ops Cb c i o v a) (hw : Cb b w) (hb : i = c → b = false)
    (h : ∀ w', Cb (b || i == c) w' → K (a.put o.dst v) w') : wpOp P ops Q i K a w := by
  unfold wpOp
  simp only [ho]
  rcases hy with ⟨hwt, hy⟩ | ⟨hwt, rfl, hne⟩
  · simp only [hwt, if_true]
    refine .inl ?_
    unfold Oper.wp
    rcases hy with ⟨hne, hy⟩ | ⟨rfl, hy⟩
    · obtain ⟨u, hr, rfl⟩ := hy b w hw
      rw [hr]
      simp only [Oper.upon]
      exact h _ (by rw [show (i == c) = false by simpa using hne, Bool.or_false]; exact hw)
    · obtain rfl := hb rfl
      obtain ⟨f, args, hr, hc⟩ := hy w hw
      rw [hr]
      simp only [Oper.upon]
      exact hc.mono fun e w'' ⟨he, hw''⟩ => by subst he; exact h _ (by simpa using hw'')
  · simp only [hwt, Bool.false_eq_true, if_false]
    exact h _ (by rw [show (i == c) = false by simpa using hne, Bool.or_false]; exact hw)

theorem any_of_ph {n g : Nat} {L : Array Bool → Act → Prop} {Q : Exit → Act → World → Prop} (hL : ∀ ls a w, Cb (ls.getD c false) w → L ls a → wpAny P md ops Q g ls a w) :
    ∀ (f : Nat) (ls : Array Bool) (a : Act) (w : World), Cb (ls.getD c false) w → anyPh P md ops Cb c n L f ls a → wpAny P md ops Q (f + g) ls a w
  | 0, ls, a, w, hw, h => by rw [Nat.zero_add]; exact hL _ _ _ hw h
  | f + 1, ls, a, w, hw, h => by
    rw [show f + 1 + g = (f + g) + 1 by omega]
    refine ⟨fun h0 => absurd h0 h.1, fun i hi => ?_⟩
    obtain ⟨_, o, v, ho, hy, hn⟩ := h.2 i hi
    have un := (mem_ready.1 hi).1
    refine wpOp_of_yld ho hy hw (fun e => by subst e; exact getD_both un) fun w' hw' => any_of_ph hL f _ _ w' ?_ hn
    by_cases e : i = c
    · subst e
      have his : i < ls.size := by
        rcases Nat.lt_or_ge i ls.size with h' | h'
        · exact h'
        · simp [Array.getElem?_eq_none h'] at un
      have : (ls.setIfInBounds i true).getD i false = true := by simp [his]
      rw [this]
      simpa using hw'
    · rw [getD_set_ne false e]
      rwa [show (i == c) = false by simpa using e, Bool.or_false] at hw'

theorem yld_put {j i : Nat} {oi oj : Oper} {v u : Value} (hap : oi.apart ops oj = true)
    (hsi : ∀ cs b, oi.op ≠ .select cs b) (hsj : ∀ cs b, oj.op ≠ .select cs b) {a : Act}
    (hy : yld P ops Cb c i oi v a) (h : yld P ops Cb c j oj u (a.put oi.dst v)) : yld P ops Cb c j oj u a ∧ yld P ops Cb c i oi v (a.put oj.dst u) ∧ (a.put oi.dst v).put oj.dst u = (a.put oj.dst u).put oi.dst v := by
  obtain ⟨h1, h2, h3⟩ := Oper.apart_spec hap
  refine ⟨h.same (execOp_put oj hsj a oi.dst v h1).symm (wanted_put oj a oi.dst v h1).symm, hy.same (execOp_put oi hsi a oj.dst u h3) (wanted_put oi a oj.dst u h3), ?_⟩
  exact Act.put_comm a v u h2

theorem ph_first {n i : Nat} {oi : Oper} {v : Value} {L : Array Bool → Act → Prop} (hi : ops[i]? = some oi) (hsel : ∀ (j : Nat) (o : Oper) cs b, ops[j]? = some o → o.op ≠ .select cs b)
    (hs : Region.sinkB md ops n = true) (hc : Region.chainB md ops n = true) (hn : n < ops.size) (hin : i < n) (hend : ∀ ls a, L ls a → ∀ j ∈ Region.ready md ops ls, n ≤ j)
    (f : Nat) : ∀ (ls : Array Bool) (a : Act), HeadInv md ops n ls →
      (∀ j oj, ops[j]? = some oj → j ≠ i → ls.getD j true = false → (∀ e ∈ oj.after, Region.binds md e = true → e.on ≠ i) → oi.apart ops oj = true) →
      i ∈ Region.ready md ops ls → yld P ops Cb c i oi v a → anyPh P md ops Cb c n L f (ls.setIfInBounds i true) (a.put oi.dst v) → anyPh P md ops Cb c n L (f + 1) ls a := by
  induction f with
  | zero =>
    intro ls a inv _ hr hy H
    have un := (mem_ready.1 hr).1
    refine ⟨fun h => (by rw [h] at hr; cases hr), fun j hj => ?_⟩
    have hjn : j < n := Nat.lt_of_not_le fun h => tail_waits hs hc hn inv _ i rfl hin un j h hj
    refine ⟨hjn, ?_⟩
    by_cases hji : j = i
    · subst hji; exact ⟨_, _, hi, hy, H⟩
    · exact absurd (hend _ _ H j (ready_mono hj hji)) (by omega)
  | succ f ih =>
    intro ls a inv hfree hr hy H
    have un := (mem_ready.1 hr).1
    refine ⟨fun h => (by rw [h] at hr; cases hr), fun j hj => ?_⟩
    have hjn : j < n := Nat.lt_of_not_le fun h => tail_waits hs hc hn inv _ i rfl hin un j h hj
    refine ⟨hjn, ?_⟩
    by_cases hji : j = i
    · subst hji; exact ⟨_, _, hi, hy, H⟩
    · obtain ⟨_, oj, u, hoj, hyj, H'⟩ := H.2 j (ready_mono hj hji)
      obtain ⟨jun, oj', hoj', hall⟩ := mem_ready.1 hj
      obtain rfl : oj' = oj := Option.some.inj (hoj'.symm.trans hoj)
      have hnot : ∀ e ∈ oj'.after, Region.binds md e = true → e.on ≠ i := fun e he hb heq => by
        have h2 := hall e he hb
        rw [heq, getD_both un] at h2
        cases h2
      obtain ⟨k1, k2, k3⟩ := yld_put (hfree j oj' hoj hji jun hnot) (fun cs b => hsel i oi cs b hi) (fun cs b => hsel j oj' cs b hoj) hy hyj
      refine ⟨oj', u, hoj, k1, ih (ls.setIfInBounds j true) _ (inv.set hj hjn) (fun k ok hk hki kun hno => hfree k ok hk hki ?_ hno) (ready_mono hr (Ne.symm hji)) k2 ?_⟩
      · by_cases hjk : j = k
        · subst hjk; exact jun
        · rwa [getD_set_ne true hjk] at kun
      · rw [Array.setIfInBounds_comm _ _ hji, ← k3]
        exact H'

/-- The walk in the text's order. -/
def walkPh (P : Program) (ops : Array Oper) (Cb : Bool → World → Prop) (c : Nat) (K : Act → Prop) : Nat → List Oper → Act → Prop
  | _, [], a => K a
  | k, o :: l, a => ∃ v, yld P ops Cb c k o v a ∧ walkPh P ops Cb c K (k + 1) l (a.put o.dst v)

theorem ph_lex {n g : Nat} {K : Act → Prop} (hsel : Region.noSelect ops = true) (hs : Region.sinkB md ops n = true) (hc : Region.chainB md ops n = true) (hn : n < ops.size) :
    ∀ (l : List Oper) (k : Nat) (ls : Array Bool) (a : Act), (∀ j, j < l.length → l[j]? = ops[k + j]?) → k + l.length = n → HeadInv md ops n ls → (∀ j, j < k → ls.getD j false = true) →
    Region.lexHead md ops g l.length k ls = true → walkPh P ops Cb c K k l a → anyPh P md ops Cb c n (fun ls' a' => (Region.seqB md ops g n ls' = true ∧ ∀ j, j < n → ls'.getD j false = true) ∧ K a') l.length ls a
  | [], k, ls, a, _, hk, _, hall, hB, h => by
    obtain rfl : k = n := by simpa using hk
    exact ⟨⟨by simpa [Region.lexHead] using hB, hall⟩, h⟩
  | o :: l, k, ls, a, hl, hk, inv, hall, hB, h => by
    have h0 : ops[k]? = some o := by simpa using (hl 0 (by simp)).symm
    simp only [List.length_cons] at hk
    simp only [List.length_cons, Region.lexHead, Bool.and_eq_true] at hB
    obtain ⟨⟨hr, hf⟩, hB'⟩ := hB
    have hr' : k ∈ Region.ready md ops ls := by simpa using hr
    obtain ⟨v, hy, hK⟩ := h
    refine ph_first h0 (Region.noSelect_spec hsel) hs hc hn (by omega) (fun ls' a' hL => seqB_ready hL.1.1) l.length ls a inv (Region.free_spec h0 hf) hr' hy
      (ph_lex hsel hs hc hn l (k + 1) _ _ (fun j hj => by have := hl (j + 1) (by simp; omega); simpa [Nat.add_assoc, Nat.add_comm 1 j] using this) (by omega) (inv.set hr' (by omega)) (fun j hj => ?_) hB' hK)
    by_cases e : k = j
    · subst e
      have : k < ls.size := by rw [inv.size]; omega
      simp [this]
    · rw [getD_set_ne false e]; exact hall j (by omega)

theorem region_ph {id : Nat} {Q : Exit → Act → World → Prop} {a : Act} {w : World} {l : List Oper} (n : Nat) (hcn : c < n) (hm : P.follows .mixedOrders = true) (hB : Region.lexTailB .any l.toArray n = true) (hC : Cb false w.drew)
    (h : walkPh P l.toArray Cb c (fun a' => ∀ w', Cb true w' → wpList P l.toArray Q (l.drop n) a' w') 0 (l.take n) a) : (Code.region id l.toArray true).wp P Q a w := by
  simp only [Region.lexTailB, Bool.and_eq_true, decide_eq_true_eq] at hB
  obtain ⟨⟨⟨⟨hsel, hn⟩, hs⟩, hc⟩, hlex⟩ := hB
  have hn' : n < l.length := by simpa using hn
  have htl : (l.take n).length = n := by simp; omega
  have hdl : (l.drop n).length = l.toArray.size - n := by simp
  have inv0 : HeadInv .any l.toArray n (Array.replicate l.toArray.size false) :=
    ⟨by simp, fun j oj _ hl => (by rw [getD_replicate_false] at hl; cases hl), fun t _ ht => getD_in (by simpa using ht) (getD_replicate_false _ _)⟩
  have H := ph_lex (md := .any) (g := l.toArray.size - n) hsel hs hc hn (l.take n) 0 _ a (fun j hj => by
    have hj' : j < n := by rw [htl] at hj; exact hj
    simp [hj']) (by simpa using htl) inv0 (fun j hj => by omega) (by rw [htl]; exact hlex) h
  refine wp_region_any hm ?_
  have := any_of_ph (Q := Q) (g := l.toArray.size - n) (fun ls a' w' hw' hL => by
    rw [hL.1.2 c hcn] at hw'
    have := wpAny_of_seq (md := .any) (Q' := Q) (l.drop n) n ls a' w' (fun j => by simp [List.getElem?_drop]) (by rw [hdl]; exact hL.1.1) (hL.2 w' hw')
    rwa [hdl] at this) _ _ _ _ (by rw [getD_replicate_false]; exact hC) H
  rw [htl, show n + (l.toArray.size - n) = l.toArray.size by omega] at this
  exact this

/-- An operation beside the call: by a quiet walk's one step, over both classes at once. -/
theorem yld_quiet {k : Nat} {o : Oper} {a : Act} {K : Act → Prop} (hk : k ≠ c) (hp : plainOp o = true) (hwt : Region.wanted o (yielded ops a.tmps) = true) (h : o.quiet P a (fun w' => ∃ x : PhW Cb, w' = x.w) K) : ∃ v, yld P ops Cb c k o v a ∧ K (a.put o.dst v) := by
  obtain ⟨v, h1, h2⟩ := h
  refine ⟨v, .inl ⟨hwt, .inl ⟨hk, fun b w hw => ?_⟩⟩, h2⟩
  have h3 := h1 w ⟨⟨b, w, hw⟩, rfl⟩
  unfold Oper.quietAt at h3
  cases hr : (execOp a.eval o).run P w with
  | ok n w' =>
    obtain ⟨u, rfl⟩ := plain_next hp hr
    rw [hr] at h3
    simp only [Oper.quietUpon] at h3
    obtain ⟨rfl, rfl⟩ := h3
    exact ⟨_, rfl, rfl⟩
  | halt x w' => rw [hr] at h3; simp only [Oper.quietUpon] at h3

theorem walk_quiet {k : Nat} {o : Oper} {l : List Oper} {a : Act} {K : Act → Prop} (hk : k ≠ c) (hp : plainOp o = true) (hwt : Region.wanted o (yielded ops a.tmps) = true)
    (h : ∀ K' : Act → Prop, (∀ a', walkPh P ops Cb c K (k + 1) l a' → K' a') → o.quiet P a (fun w' => ∃ x : PhW Cb, w' = x.w) K') : walkPh P ops Cb c K k (o :: l) a :=
  yld_quiet hk hp hwt (h _ fun _ h => h)
theorem walkPh_enter {o : Oper} {l : List Oper} {a : Act} {K : Act → Prop} {f : FuncId} {args : Array Value} (v : Value) (hwt : Region.wanted o (yielded ops a.tmps) = true)
    (hr : ∀ w, Cb false w → (execOp a.eval o).run P w = .ok (.enter f args) w) (hc : ∀ w, Cb false w → Calls P f args w fun e w'' => e = .returned v ∧ Cb true w'')
    (h : walkPh P ops Cb c K (c + 1) l (a.put o.dst v)) : walkPh P ops Cb c K c (o :: l) a :=
  ⟨v, .inl ⟨hwt, .inr ⟨rfl, fun w hw => ⟨f, args, hr w hw, hc w hw⟩⟩⟩, h⟩
end
theorem oneK {P : Program} {W : World} {POST : World → Prop} {id : Nat} {Q : Exit → Act → World → Prop} {a : Act} {l : List Oper} {c : Nat} (n : Nat) (hcn : c < n) (hm : P.follows .mixedOrders = true) (hB : Region.lexTailB .any l.toArray n = true)
    (h : walkPh P l.toArray (oneC W POST) c (fun a' => ∀ w', POST w' → wpList P l.toArray Q (l.drop n) a' w') 0 (l.take n) a) : (Code.region id l.toArray true).wp P Q a W :=
  region_ph (Cb := oneC W POST) n hcn hm hB rfl h
theorem genV {P : Program} {c : Code} {Q : Exit → Act → World → Prop} {a : Act} {W : World} (R : World → Prop) (hR : R W) (h : ∀ we, R we → c.wp P Q a we) : c.wp P Q a W := h W hR
end Go.Proofs.YtbbjifhelbeniaaGreatDoor

/- A region that draws its order and holds several calls, one after the other, and operations that make memory among them (a slice that is built, an append): whatever order is picked for the operations beside them, one walk in the text's order serves all, their answers being letters. -/
namespace Go.Proofs.YtbbjifhelbeniaaGreatDoor
open Go.RowKit

theorem Calls.some {P : Program} {f : FuncId} {args : Array Value} {w : World} {R : Ending → World → Prop} (h : Calls P f args w R) : ∃ e w', R e w' :=
  let ⟨e, w', _, r, _⟩ := h []
  ⟨e, w', r⟩

section
variable {P : Program} {V : FuncId → Array Value → Value} {ops : Array Oper} {md : Region.Mode} {Cv : List Value → World → Prop} {cs : List Nat}

/-- An operation beside those yields this value, in every world of every class; or it calls a function that does (V says which value), and keeps the class. -/
def yldP (P : Program) (V : FuncId → Array Value → Value) (ops : Array Oper) (Cv : List Value → World → Prop) (o : Oper) (v : Value) (a : Act) : Prop :=
  (Region.wanted o (yielded ops a.tmps) = true ∧ ∀ vs w, Cv vs w → (∃ u, (execOp a.eval o).run P w = .ok (.value u) w ∧ u = v) ∨ ∃ f args, (execOp a.eval o).run P w = .ok (.enter f args) w ∧ V f args = v ∧ Calls P f args w fun e w'' => e = .returned v ∧ Cv vs w'') ∨
  (Region.wanted o (yielded ops a.tmps) = false ∧ v = undef)
/-- The next call: from its class into the next one. -/
def yldC (P : Program) (ops : Array Oper) (Cv : List Value → World → Prop) (vs : List Value) (o : Oper) (a : Act) : Prop :=
  Region.wanted o (yielded ops a.tmps) = true ∧ ∀ w, Cv vs w → (∃ f args, (execOp a.eval o).run P w = .ok (.enter f args) w ∧ Calls P f args w fun e w'' => ∃ v, e = .returned v ∧ Cv (vs ++ [v]) w'') ∨ ∃ v w'', ((execOp a.eval o).run P w = .ok (.value v) w'' ∨ ((execOp a.eval o).run P w = .ok .skip w'' ∧ v = undef)) ∧ Cv (vs ++ [v]) w''

theorem yldP.same {o : Oper} {v : Value} {a a' : Act} (h : yldP P V ops Cv o v a) (he : execOp a'.eval o = execOp a.eval o)
    (hw : Region.wanted o (yielded ops a'.tmps) = Region.wanted o (yielded ops a.tmps)) : yldP P V ops Cv o v a' := by
  unfold yldP at *
  rw [he, hw]
  exact h
theorem yldC.same {vs : List Value} {o : Oper} {a a' : Act} (h : yldC P ops Cv vs o a) (he : execOp a'.eval o = execOp a.eval o)
    (hw : Region.wanted o (yielded ops a'.tmps) = Region.wanted o (yielded ops a.tmps)) : yldC P ops Cv vs o a' := by
  unfold yldC at *
  rw [he, hw]
  exact h
theorem yldP.one {o : Oper} {u v : Value} {a : Act} (h1 : yldP P V ops Cv o u a) (h2 : yldP P V ops Cv o v a) (hin : ∃ vs w, Cv vs w) : u = v := by
  obtain ⟨vs, w, hw⟩ := hin
  rcases h1 with ⟨a1, b1⟩ | ⟨a1, rfl⟩
  · rcases h2 with ⟨a2, b2⟩ | ⟨a2, rfl⟩
    · rcases b1 vs w hw with ⟨x, e1, rfl⟩ | ⟨f, args, e1, v1, _⟩ <;> rcases b2 vs w hw with ⟨y, e2, rfl⟩ | ⟨g, brgs, e2, v2, _⟩ <;> rw [e1] at e2 <;> cases e2
      · rfl
      · exact v1.symm.trans v2
    · rw [a1] at a2; cases a2
  · rcases h2 with ⟨a2, b2⟩ | ⟨a2, rfl⟩
    · rw [a1] at a2; cases a2
    · rfl
theorem yldC.next {vs : List Value} {o : Oper} {a : Act} (h : yldC P ops Cv vs o a) (hin : ∃ w, Cv vs w) : ∃ v w, Cv (vs ++ [v]) w := by
  obtain ⟨w, hw⟩ := hin
  rcases h.2 w hw with ⟨f, args, _, hc⟩ | ⟨v, w', _, h2⟩
  · obtain ⟨e, w', v, _, h2⟩ := Calls.some hc
    exact ⟨v, w', h2⟩
  · exact ⟨v, w', h2⟩

def anyPv (P : Program) (V : FuncId → Array Value → Value) (md : Region.Mode) (ops : Array Oper) (Cv : List Value → World → Prop) (cs : List Nat) (n : Nat) (L : List Value → Array Bool → Act → Prop) : Nat → List Value → Array Bool → Act → Prop
  | 0, vs, ls, a => L vs ls a
  | f + 1, vs, ls, a => Region.ready md ops ls ≠ [] ∧ ∀ i ∈ Region.ready md ops ls, i < n ∧ ∃ o, ops[i]? = some o ∧
      ((i ∉ cs ∧ ∃ v, yldP P V ops Cv o v a ∧ anyPv P V md ops Cv cs n L f vs (ls.setIfInBounds i true) (a.put o.dst v)) ∨
       (cs[vs.length]? = some i ∧ yldC P ops Cv vs o a ∧ ∀ v, (∃ w, Cv (vs ++ [v]) w) → anyPv P V md ops Cv cs n L f (vs ++ [v]) (ls.setIfInBounds i true) (a.put o.dst v)))

theorem any_of_pv {n g : Nat} {L : List Value → Array Bool → Act → Prop} {Q : Exit → Act → World → Prop} (hL : ∀ vs ls a w, Cv vs w → L vs ls a → wpAny P md ops Q g ls a w) :
    ∀ (f : Nat) (vs : List Value) (ls : Array Bool) (a : Act) (w : World), Cv vs w → anyPv P V md ops Cv cs n L f vs ls a → wpAny P md ops Q (f + g) ls a w
  | 0, vs, ls, a, w, hw, h => by rw [Nat.zero_add]; exact hL _ _ _ _ hw h
  | f + 1, vs, ls, a, w, hw, h => by
    rw [show f + 1 + g = (f + g) + 1 by omega]
    refine ⟨fun h0 => absurd h0 h.1, fun i hi => ?_⟩
    obtain ⟨_, o, ho, hcase⟩ := h.2 i hi
    unfold wpOp
    simp only [ho]
    rcases hcase with ⟨_, v, hy, hn⟩ | ⟨_, hy, hn⟩
    · rcases hy with ⟨hwt, hy⟩ | ⟨hwt, rfl⟩
      · simp only [hwt, if_true]
        refine .inl ?_
        unfold Oper.wp
        rcases hy vs w hw with ⟨u, hr, rfl⟩ | ⟨g', args, hr, _, hcl⟩
        · rw [hr]
          simp only [Oper.upon]
          exact any_of_pv hL f vs _ _ _ hw hn
        · rw [hr]
          simp only [Oper.upon]
          exact hcl.mono fun e w'' ⟨he, hw''⟩ => by subst he; exact any_of_pv hL f vs _ _ _ hw'' hn
      · simp only [hwt, Bool.false_eq_true, if_false]
        exact any_of_pv hL f vs _ _ _ hw hn
    · obtain ⟨hwt, hy⟩ := hy
      simp only [hwt, if_true]
      refine .inl ?_
      unfold Oper.wp
      rcases hy w hw with ⟨g', args, hr, hc⟩ | ⟨v, w'', hr, hw''⟩
      · rw [hr]
        simp only [Oper.upon]
        exact hc.mono fun e w'' ⟨v, he, hw''⟩ => by subst he; exact any_of_pv hL f _ _ _ _ hw'' (hn v ⟨w'', hw''⟩)
      · rcases hr with hr | ⟨hr, rfl⟩
        · rw [hr]
          simp only [Oper.upon]
          exact any_of_pv hL f _ _ _ _ hw'' (hn v ⟨w'', hw''⟩)
        · rw [hr]
          simp only [Oper.upon]
          exact any_of_pv hL f _ _ _ _ hw'' (hn _ ⟨w'', hw''⟩)

theorem set_comm {α : Type} (ls : Array α) {i j : Nat} (h : j ≠ i) (x y : α) : (ls.setIfInBounds j x).setIfInBounds i y = (ls.setIfInBounds i y).setIfInBounds j x := Array.setIfInBounds_comm _ _ h

/-- An operation beside the calls may be taken first. -/
theorem pv_plain {n i : Nat} {oi : Oper} {v : Value} {L : List Value → Array Bool → Act → Prop} (hi : ops[i]? = some oi) (hic : i ∉ cs) (hsel : ∀ (j : Nat) (o : Oper) cs b, ops[j]? = some o → o.op ≠ .select cs b)
    (hs : Region.sinkB md ops n = true) (hc : Region.chainB md ops n = true) (hn : n < ops.size) (hin : i < n) (hend : ∀ vs ls a, L vs ls a → ∀ j ∈ Region.ready md ops ls, n ≤ j)
    (f : Nat) : ∀ (vs : List Value) (ls : Array Bool) (a : Act), HeadInv md ops n ls →
      (∀ j oj, ops[j]? = some oj → j ≠ i → ls.getD j true = false → (∀ e ∈ oj.after, Region.binds md e = true → e.on ≠ i) → oi.apart ops oj = true) →
      i ∈ Region.ready md ops ls → yldP P V ops Cv oi v a → anyPv P V md ops Cv cs n L f vs (ls.setIfInBounds i true) (a.put oi.dst v) → anyPv P V md ops Cv cs n L (f + 1) vs ls a := by
  induction f with
  | zero =>
    intro vs ls a inv _ hr hy H
    have un := (mem_ready.1 hr).1
    refine ⟨fun h => (by rw [h] at hr; cases hr), fun j hj => ?_⟩
    have hjn : j < n := Nat.lt_of_not_le fun h => tail_waits hs hc hn inv _ i rfl hin un j h hj
    refine ⟨hjn, ?_⟩
    by_cases hji : j = i
    · subst hji; exact ⟨_, hi, .inl ⟨hic, _, hy, H⟩⟩
    · exact absurd (hend _ _ _ H j (ready_mono hj hji)) (by omega)
  | succ f ih =>
    intro vs ls a inv hfree hr hy H
    have un := (mem_ready.1 hr).1
    refine ⟨fun h => (by rw [h] at hr; cases hr), fun j hj => ?_⟩
    have hjn : j < n := Nat.lt_of_not_le fun h => tail_waits hs hc hn inv _ i rfl hin un j h hj
    refine ⟨hjn, ?_⟩
    by_cases hji : j = i
    · subst hji; exact ⟨_, hi, .inl ⟨hic, _, hy, H⟩⟩
    · obtain ⟨_, oj, hoj, hcase⟩ := H.2 j (ready_mono hj hji)
      obtain ⟨jun, oj', hoj', hall⟩ := mem_ready.1 hj
      obtain rfl : oj' = oj := Option.some.inj (hoj'.symm.trans hoj)
      have hnot : ∀ e ∈ oj'.after, Region.binds md e = true → e.on ≠ i := fun e he hb heq => by
        have h2 := hall e he hb
        rw [heq, getD_both un] at h2
        cases h2
      obtain ⟨h1, h2, h3⟩ := Oper.apart_spec (hfree j oj' hoj hji jun hnot)
      have si : ∀ cs b, oi.op ≠ .select cs b := fun cs b => hsel i oi cs b hi
      have sj : ∀ cs b, oj'.op ≠ .select cs b := fun cs b => hsel j oj' cs b hoj
      have hfree' : ∀ k ok, ops[k]? = some ok → k ≠ i → (ls.setIfInBounds j true).getD k true = false → (∀ e ∈ ok.after, Region.binds md e = true → e.on ≠ i) → oi.apart ops ok = true := fun k ok hk hki kun hno => hfree k ok hk hki (by
        by_cases hjk : j = k
        · subst hjk; exact jun
        · rwa [getD_set_ne true hjk] at kun) hno
      refine ⟨oj', hoj, ?_⟩
      rcases hcase with ⟨hjc, u, hyj, H'⟩ | ⟨hjc, hyj, H'⟩
      · refine .inl ⟨hjc, u, hyj.same (execOp_put oj' sj a oi.dst v h1).symm (wanted_put oj' a oi.dst v h1).symm, ?_⟩
        refine ih vs (ls.setIfInBounds j true) _ (inv.set hj hjn) hfree' (ready_mono hr (Ne.symm hji)) (hy.same (execOp_put oi si a oj'.dst u h3) (wanted_put oi a oj'.dst u h3)) ?_
        rw [set_comm _ hji, ← Act.put_comm a v u h2]
        exact H'
      · refine .inr ⟨hjc, hyj.same (execOp_put oj' sj a oi.dst v h1).symm (wanted_put oj' a oi.dst v h1).symm, fun u hu => ?_⟩
        refine ih _ (ls.setIfInBounds j true) _ (inv.set hj hjn) hfree' (ready_mono hr (Ne.symm hji)) (hy.same (execOp_put oi si a oj'.dst u h3) (wanted_put oi a oj'.dst u h3)) ?_
        rw [set_comm _ hji, ← Act.put_comm a v u h2]
        exact H' u hu

/-- Where one operation has come up, so has another one for which it waits, at once or by others between. -/
def chained (md : Region.Mode) (ops : Array Oper) (cs : List Nat) : Prop := ∀ k i j, cs[k]? = some i → cs[k + 1]? = some j → ∀ (ls : Array Bool) (o : Oper), ops[j]? = some o →
  (∀ m om, ops[m]? = some om → ls.getD m false = true → ∀ e ∈ om.after, Region.binds md e = true → ls.getD e.on false = true) → (∀ e ∈ o.after, Region.binds md e = true → ls.getD e.on false = true) → ls.getD i false = true
/-- The same, told by a program. -/
def reachB (md : Region.Mode) (ops : Array Oper) (i : Nat) : Nat → Nat → Bool
  | 0, _ => false
  | f + 1, j => match ops[j]? with
    | some o => o.after.any fun e => Region.binds md e && (e.on == i || reachB md ops i f e.on)
    | none => false
theorem reach_of {i : Nat} {ls : Array Bool} (hcl : ∀ m om, ops[m]? = some om → ls.getD m false = true → ∀ e ∈ om.after, Region.binds md e = true → ls.getD e.on false = true) :
    ∀ (f j : Nat) (o : Oper), ops[j]? = some o → (∀ e ∈ o.after, Region.binds md e = true → ls.getD e.on false = true) → reachB md ops i f j = true → ls.getD i false = true
  | 0, _, _, _, _, h => by cases h
  | f + 1, j, o, ho, hl, h => by
    unfold reachB at h
    rw [ho] at h
    obtain ⟨e, he, h3⟩ := Array.any_eq_true'.1 h
    rw [Bool.and_eq_true, Bool.or_eq_true] at h3
    obtain ⟨hb, h4⟩ := h3
    have hon := hl e he hb
    rcases h4 with h4 | h4
    · rwa [show e.on = i by simpa using h4] at hon
    · cases hoe : ops[e.on]? with
      | none =>
        exfalso
        cases f with
        | zero => cases h4
        | succ f => unfold reachB at h4; rw [hoe] at h4; cases h4
      | some o2 => exact reach_of hcl f e.on o2 hoe (hcl _ _ hoe hon) h4
def chainedB (md : Region.Mode) (ops : Array Oper) (cs : List Nat) : Bool :=
  (List.range cs.length).all fun k => match cs[k]?, cs[k + 1]? with
    | some i, some j => reachB md ops i ops.size j
    | _, _ => true
theorem chained_of (h : chainedB md ops cs = true) : chained md ops cs := fun k i j h1 h2 ls o ho hcl hl => by
  unfold chainedB at h
  rw [List.all_eq_true] at h
  have hk := h k (List.mem_range.2 (by have := (List.getElem?_eq_some_iff.1 h1).1; exact this))
  simp only [h1, h2] at hk
  exact reach_of hcl _ j o ho hl hk

/-- The next call may be taken first. -/
theorem pv_call {n i : Nat} {oi : Oper} {L : List Value → Array Bool → Act → Prop} (hi : ops[i]? = some oi) (hch : chained md ops cs) (hsel : ∀ (j : Nat) (o : Oper) cs b, ops[j]? = some o → o.op ≠ .select cs b)
    (hs : Region.sinkB md ops n = true) (hc : Region.chainB md ops n = true) (hn : n < ops.size) (hin : i < n) (hend : ∀ vs ls a, L vs ls a → ∀ j ∈ Region.ready md ops ls, n ≤ j)
    (f : Nat) : ∀ (vs : List Value) (ls : Array Bool) (a : Act), cs[vs.length]? = some i → (∃ w, Cv vs w) → HeadInv md ops n ls →
      (∀ j oj, ops[j]? = some oj → j ≠ i → ls.getD j true = false → (∀ e ∈ oj.after, Region.binds md e = true → e.on ≠ i) → oi.apart ops oj = true) →
      i ∈ Region.ready md ops ls → yldC P ops Cv vs oi a → (∀ v, (∃ w, Cv (vs ++ [v]) w) → anyPv P V md ops Cv cs n L f (vs ++ [v]) (ls.setIfInBounds i true) (a.put oi.dst v)) → anyPv P V md ops Cv cs n L (f + 1) vs ls a := by
  induction f with
  | zero =>
    intro vs ls a hic hw inv _ hr hy H
    have un := (mem_ready.1 hr).1
    refine ⟨fun h => (by rw [h] at hr; cases hr), fun j hj => ?_⟩
    have hjn : j < n := Nat.lt_of_not_le fun h => tail_waits hs hc hn inv _ i rfl hin un j h hj
    refine ⟨hjn, ?_⟩
    by_cases hji : j = i
    · subst hji; exact ⟨_, hi, .inr ⟨hic, hy, H⟩⟩
    · obtain ⟨v, w, hv⟩ := hy.next hw
      exact absurd (hend _ _ _ (H v ⟨w, hv⟩) j (ready_mono hj hji)) (by omega)
  | succ f ih =>
    intro vs ls a hic hw inv hfree hr hy H
    have un := (mem_ready.1 hr).1
    refine ⟨fun h => (by rw [h] at hr; cases hr), fun j hj => ?_⟩
    have hjn : j < n := Nat.lt_of_not_le fun h => tail_waits hs hc hn inv _ i rfl hin un j h hj
    refine ⟨hjn, ?_⟩
    by_cases hji : j = i
    · subst hji; exact ⟨_, hi, .inr ⟨hic, hy, H⟩⟩
    · obtain ⟨v0, w0, hv0⟩ := hy.next hw
      obtain ⟨_, oj, hoj, hcase⟩ := (H v0 ⟨w0, hv0⟩).2 j (ready_mono hj hji)
      obtain ⟨jun, oj', hoj', hall⟩ := mem_ready.1 hj
      obtain rfl : oj' = oj := Option.some.inj (hoj'.symm.trans hoj)
      have hnot : ∀ e ∈ oj'.after, Region.binds md e = true → e.on ≠ i := fun e he hb heq => by
        have h2 := hall e he hb
        rw [heq, getD_both un] at h2
        cases h2
      obtain ⟨h1, h2, h3⟩ := Oper.apart_spec (hfree j oj' hoj hji jun hnot)
      have si : ∀ cs b, oi.op ≠ .select cs b := fun cs b => hsel i oi cs b hi
      have sj : ∀ cs b, oj'.op ≠ .select cs b := fun cs b => hsel j oj' cs b hoj
      have hfree' : ∀ k ok, ops[k]? = some ok → k ≠ i → (ls.setIfInBounds j true).getD k true = false → (∀ e ∈ ok.after, Region.binds md e = true → e.on ≠ i) → oi.apart ops ok = true := fun k ok hk hki kun hno => hfree k ok hk hki (by
        by_cases hjk : j = k
        · subst hjk; exact jun
        · rwa [getD_set_ne true hjk] at kun) hno
      have back : ∀ {v u : Value}, yldP P V ops Cv oj' u (a.put oi.dst v) → yldP P V ops Cv oj' u a := fun {v u} h => h.same (execOp_put oj' sj a oi.dst v h1).symm (wanted_put oj' a oi.dst v h1).symm
      rcases hcase with ⟨hjc, u, hyj, _⟩ | ⟨hjc, _, _⟩
      · have hyj' := back hyj
        refine ⟨oj', hoj, .inl ⟨hjc, u, hyj', ih vs (ls.setIfInBounds j true) _ hic hw (inv.set hj hjn) hfree' (ready_mono hr (Ne.symm hji)) (hy.same (execOp_put oi si a oj'.dst u h3) (wanted_put oi a oj'.dst u h3)) fun v hv => ?_⟩⟩
        obtain ⟨_, ok, hok, hcase'⟩ := (H v hv).2 j (ready_mono hj hji)
        obtain rfl : oj' = ok := Option.some.inj (hoj.symm.trans hok)
        rcases hcase' with ⟨_, u', hyk, H'⟩ | ⟨hk, _, _⟩
        · obtain rfl : u' = u := (back hyk).one hyj' (hw.elim fun w h => ⟨vs, w, h⟩)
          rw [set_comm _ hji, ← Act.put_comm a v u' h2]
          exact H'
        · exact absurd (List.mem_of_getElem? hk) hjc
      · rw [List.length_append, List.length_singleton] at hjc
        have h9 := hch _ _ _ hic hjc ls oj' hoj inv.closed (fun e he hb => hall e he hb)
        rw [getD_both un] at h9
        cases h9

/-- The walk in the text's order. -/
def walkPv (P : Program) (V : FuncId → Array Value → Value) (ops : Array Oper) (Cv : List Value → World → Prop) (cs : List Nat) (K : List Value → Act → Prop) : Nat → List Value → List Oper → Act → Prop
  | _, vs, [], a => K vs a
  | k, vs, o :: l, a => (k ∉ cs ∧ ∃ v, yldP P V ops Cv o v a ∧ walkPv P V ops Cv cs K (k + 1) vs l (a.put o.dst v)) ∨
      (cs[vs.length]? = some k ∧ yldC P ops Cv vs o a ∧ ∀ v, (∃ w, Cv (vs ++ [v]) w) → walkPv P V ops Cv cs K (k + 1) (vs ++ [v]) l (a.put o.dst v))

theorem pv_lex {n g : Nat} {K : List Value → Act → Prop} (hch : chained md ops cs) (hsel : Region.noSelect ops = true) (hs : Region.sinkB md ops n = true) (hc : Region.chainB md ops n = true) (hn : n < ops.size) :
    ∀ (l : List Oper) (k : Nat) (vs : List Value) (ls : Array Bool) (a : Act), (∃ w, Cv vs w) → (∀ j, j < l.length → l[j]? = ops[k + j]?) → k + l.length = n → HeadInv md ops n ls →
    Region.lexHead md ops g l.length k ls = true → walkPv P V ops Cv cs K k vs l a → anyPv P V md ops Cv cs n (fun vs' ls' a' => Region.seqB md ops g n ls' = true ∧ K vs' a') l.length vs ls a
  | [], k, vs, ls, a, _, _, hk, _, hB, h => by
    obtain rfl : k = n := by simpa using hk
    exact ⟨by simpa [Region.lexHead] using hB, h⟩
  | o :: l, k, vs, ls, a, hw, hl, hk, inv, hB, h => by
    have h0 : ops[k]? = some o := by simpa using (hl 0 (by simp)).symm
    simp only [List.length_cons] at hk
    simp only [List.length_cons, Region.lexHead, Bool.and_eq_true] at hB
    obtain ⟨⟨hr, hf⟩, hB'⟩ := hB
    have hr' : k ∈ Region.ready md ops ls := by simpa using hr
    have next : ∀ vs' a', (∃ w, Cv vs' w) → walkPv P V ops Cv cs K (k + 1) vs' l a' → anyPv P V md ops Cv cs n (fun vs' ls' a' => Region.seqB md ops g n ls' = true ∧ K vs' a') l.length vs' (ls.setIfInBounds k true) a' := fun vs' a' hw' h' =>
      pv_lex hch hsel hs hc hn l (k + 1) vs' _ _ hw' (fun j hj => by have := hl (j + 1) (by simp; omega); simpa [Nat.add_assoc, Nat.add_comm 1 j] using this) (by omega) (inv.set hr' (by omega)) hB' h'
    rcases h with ⟨hkc, v, hy, hK⟩ | ⟨hkc, hy, hK⟩
    · exact pv_plain h0 hkc (Region.noSelect_spec hsel) hs hc hn (by omega) (fun vs' ls' a' hL => seqB_ready hL.1) l.length vs ls a inv (Region.free_spec h0 hf) hr' hy (next vs _ hw hK)
    · exact pv_call h0 hch (Region.noSelect_spec hsel) hs hc hn (by omega) (fun vs' ls' a' hL => seqB_ready hL.1) l.length vs ls a hkc hw inv (Region.free_spec h0 hf) hr' hy fun v hv => next _ _ hv (hK v hv)

theorem region_pv {id : Nat} {Q : Exit → Act → World → Prop} {a : Act} {w : World} {l : List Oper} (n : Nat) (hm : P.follows .mixedOrders = true) (hB : Region.lexTailB .any l.toArray n = true) (hch : chainedB .any l.toArray cs = true) (hC : Cv [] w.drew)
    (h : walkPv P V l.toArray Cv cs (fun vs a' => ∀ w', Cv vs w' → wpList P l.toArray Q (l.drop n) a' w') 0 [] (l.take n) a) : (Code.region id l.toArray true).wp P Q a w := by
  simp only [Region.lexTailB, Bool.and_eq_true, decide_eq_true_eq] at hB
  obtain ⟨⟨⟨⟨hsel, hn⟩, hs⟩, hc⟩, hlex⟩ := hB
  have hn' : n < l.length := by simpa using hn
  have htl : (l.take n).length = n := by simp; omega
  have hdl : (l.drop n).length = l.toArray.size - n := by simp
  have inv0 : HeadInv .any l.toArray n (Array.replicate l.toArray.size false) :=
    ⟨by simp, fun j oj _ hl => (by rw [getD_replicate_false] at hl; cases hl), fun t _ ht => getD_in (by simpa using ht) (getD_replicate_false _ _)⟩
  have H := pv_lex (md := .any) (g := l.toArray.size - n) (chained_of hch) hsel hs hc hn (l.take n) 0 [] _ a ⟨_, hC⟩ (fun j hj => by
    have hj' : j < n := by rw [htl] at hj; exact hj
    simp [hj']) (by simpa using htl) inv0 (by rw [htl]; exact hlex) h
  refine wp_region_any hm ?_
  have := any_of_pv (Q := Q) (g := l.toArray.size - n) (fun vs ls a' w' hw' hL => by
    have := wpAny_of_seq (md := .any) (Q' := Q) (l.drop n) n ls a' w' (fun j => by simp [List.getElem?_drop]) (by rw [hdl]; exact hL.1) (hL.2 w' hw')
    rwa [hdl] at this) _ _ _ _ _ hC H
  rw [htl, show n + (l.toArray.size - n) = l.toArray.size by omega] at this
  exact this

/-- A world of any class. -/
structure PvW (Cv : List Value → World → Prop) where
  vs : List Value
  w : World
  h : Cv vs w

theorem PvW.there {w : World} (h : Cv [] w) : Nonempty (PvW Cv) := ⟨⟨[], w, h⟩⟩
/-- Operations that hand back a value, or go wrong; slices of slices among them. -/
def plainOp2 (o : Oper) : Bool := plainOp o || (match o.op with | .slice .. => true | .pick .. => true | _ => false)
theorem plain_next2 {o : Oper} (h : plainOp2 o = true) {ρ : Operand → Value} {w w' : World} {n : Next} (hr : (execOp ρ o).run P w = .ok n w') : ∃ u, n = .value u := by
  unfold plainOp2 at h
  by_cases h1 : plainOp o = true
  · exact plain_next h1 hr
  · rw [Bool.not_eq_true] at h1
    rw [h1, Bool.false_or] at h
    unfold execOp at hr
    generalize o.op = op at h hr
    cases op
    all_goals first
      | (exact (Bool.false_ne_true h).elim)
      | (exact plain_value hr)
      | (cases hr; exact ⟨_, rfl⟩)
      | (rename_i c _ _
         rw [Sem.run_bind] at hr
         cases hs : (asBool (ρ c)).run P w with
         | ok u w1 =>
           rw [hs] at hr
           simp only [Result.andThen] at hr
           cases hr
           exact ⟨_, rfl⟩
         | halt x w1 => rw [hs] at hr; simp only [Result.andThen] at hr; cases hr)
theorem pv_quiet {k : Nat} {vs : List Value} {o : Oper} {l : List Oper} {a : Act} {K : List Value → Act → Prop} (hk : k ∉ cs) (hp : plainOp2 o = true) (hwt : Region.wanted o (yielded ops a.tmps) = true)
    (h : ∀ K' : Act → Prop, (∀ a', walkPv P V ops Cv cs K (k + 1) vs l a' → K' a') → o.quiet P a (fun w' => ∃ x : PvW Cv, w' = x.w) K') : walkPv P V ops Cv cs K k vs (o :: l) a := by
  obtain ⟨v, h1, h2⟩ := h _ fun _ h => h
  refine .inl ⟨hk, v, .inl ⟨hwt, fun vs' w hw => ?_⟩, h2⟩
  have h3 := h1 w ⟨⟨vs', w, hw⟩, rfl⟩
  unfold Oper.quietAt at h3
  cases hr : (execOp a.eval o).run P w with
  | ok n w' =>
    obtain ⟨u, rfl⟩ := plain_next2 hp hr
    rw [hr] at h3
    simp only [Oper.quietUpon] at h3
    obtain ⟨rfl, rfl⟩ := h3
    exact .inl ⟨_, rfl, rfl⟩
  | halt x w' => rw [hr] at h3; simp only [Oper.quietUpon] at h3
theorem pv_value {k : Nat} {vs : List Value} {o : Oper} {l : List Oper} {a : Act} {K : List Value → Act → Prop} (hk : k ∉ cs) (v : Value) (hwt : Region.wanted o (yielded ops a.tmps) = true)
    (hr : ∀ vs' w, Cv vs' w → (execOp a.eval o).run P w = .ok (.value v) w) (h : walkPv P V ops Cv cs K (k + 1) vs l (a.put o.dst v)) : walkPv P V ops Cv cs K k vs (o :: l) a :=
  .inl ⟨hk, v, .inl ⟨hwt, fun vs' w hw => .inl ⟨v, hr vs' w hw, rfl⟩⟩, h⟩
theorem pv_enter {k : Nat} {vs : List Value} {o : Oper} {l : List Oper} {a : Act} {K : List Value → Act → Prop} {f : FuncId} {args : Array Value} (hk : cs[vs.length]? = some k) (hwt : Region.wanted o (yielded ops a.tmps) = true)
    (hr : ∀ w, Cv vs w → (execOp a.eval o).run P w = .ok (.enter f args) w) (hc : ∀ w, Cv vs w → Calls P f args w fun e w'' => ∃ v, e = .returned v ∧ Cv (vs ++ [v]) w'')
    (h : ∀ v, (∃ w, Cv (vs ++ [v]) w) → walkPv P V ops Cv cs K (k + 1) (vs ++ [v]) l (a.put o.dst v)) : walkPv P V ops Cv cs K k vs (o :: l) a :=
  .inr ⟨hk, ⟨hwt, fun w hw => .inl ⟨f, args, hr w hw, hc w hw⟩⟩, h⟩
/-- A store. -/
theorem pv_stored {k : Nat} {vs : List Value} {o : Oper} {l : List Oper} {a : Act} {K : List Value → Act → Prop} (hk : cs[vs.length]? = some k) (hwt : Region.wanted o (yielded ops a.tmps) = true)
    (hr : ∀ w, Cv vs w → ∃ w'', (execOp a.eval o).run P w = .ok .skip w'' ∧ Cv (vs ++ [undef]) w'')
    (h : ∀ v, (∃ w, Cv (vs ++ [v]) w) → walkPv P V ops Cv cs K (k + 1) (vs ++ [v]) l (a.put o.dst v)) : walkPv P V ops Cv cs K k vs (o :: l) a :=
  .inr ⟨hk, ⟨hwt, fun w hw => .inr (let ⟨w2, h1, h2⟩ := hr w hw; ⟨undef, w2, .inr ⟨h1, rfl⟩, h2⟩)⟩, h⟩
/-- A call that hands back this value wherever it comes. -/
theorem pv_kept {k : Nat} {vs : List Value} {o : Oper} {l : List Oper} {a : Act} {K : List Value → Act → Prop} {f : FuncId} {args : Array Value} (hk : k ∉ cs) (v : Value) (hwt : Region.wanted o (yielded ops a.tmps) = true)
    (hr : ∀ vs' w, Cv vs' w → (execOp a.eval o).run P w = .ok (.enter f args) w) (hV : V f args = v) (hc : ∀ vs' w, Cv vs' w → Calls P f args w fun e w'' => e = .returned v ∧ Cv vs' w'') (h : walkPv P V ops Cv cs K (k + 1) vs l (a.put o.dst v)) : walkPv P V ops Cv cs K k vs (o :: l) a :=
  .inl ⟨hk, v, .inl ⟨hwt, fun vs' w hw => .inr ⟨f, args, hr vs' w hw, hV, hc vs' w hw⟩⟩, h⟩
theorem pv_made {k : Nat} {vs : List Value} {o : Oper} {l : List Oper} {a : Act} {K : List Value → Act → Prop} (hk : cs[vs.length]? = some k) (hwt : Region.wanted o (yielded ops a.tmps) = true)
    (hr : ∀ w, Cv vs w → ∃ v w'', (execOp a.eval o).run P w = .ok (.value v) w'' ∧ Cv (vs ++ [v]) w'')
    (h : ∀ v, (∃ w, Cv (vs ++ [v]) w) → walkPv P V ops Cv cs K (k + 1) (vs ++ [v]) l (a.put o.dst v)) : walkPv P V ops Cv cs K k vs (o :: l) a :=
  .inr ⟨hk, ⟨hwt, fun w hw => .inr (let ⟨v, w2, h1, h2⟩ := hr w hw; ⟨v, w2, .inl h1, h2⟩)⟩, h⟩
end

/-- A variable of two integers is made and written, beside whatever else. -/
def mkC2 (W : World) (x y : Int) (vs : List Value) (w : World) : Prop := Below W.heap.size W w ∧ match vs with
  | [] => True
  | [v] => ∃ g, v = .pointer (some ⟨g, 0, none⟩) ∧ W.heap.size ≤ g ∧ Var2 w g 0 0
  | [v, _] => ∃ g, v = .pointer (some ⟨g, 0, none⟩) ∧ W.heap.size ≤ g ∧ Var2 w g x y
  | _ => False
theorem mkC2.below {W : World} {x y : Int} {vs : List Value} {w w' : World} (h : mkC2 W x y vs w) (hb : Below w.heap.size w w') : mkC2 W x y vs w' := by
  obtain ⟨h1, h2⟩ := h
  refine ⟨h1.trans (hb.mono h1.size), ?_⟩
  match vs, h2 with
  | [], _ => trivial
  | [v], ⟨g, e, hg, hv⟩ => exact ⟨g, e, hg, hv.below hb⟩
  | [v, _], ⟨g, e, hg, hv⟩ => exact ⟨g, e, hg, hv.below hb⟩
def mkC3 (W : World) (x y z : Int) (vs : List Value) (w : World) : Prop := Below W.heap.size W w ∧ match vs with
  | [] => True
  | [v] => ∃ g, v = .pointer (some ⟨g, 0, none⟩) ∧ W.heap.size ≤ g ∧ Var3 w g 0 0 0
  | [v, _] => ∃ g, v = .pointer (some ⟨g, 0, none⟩) ∧ W.heap.size ≤ g ∧ Var3 w g x y z
  | _ => False
theorem mkC3.below {W : World} {x y z : Int} {vs : List Value} {w w' : World} (h : mkC3 W x y z vs w) (hb : Below w.heap.size w w') : mkC3 W x y z vs w' := by
  obtain ⟨h1, h2⟩ := h
  refine ⟨h1.trans (hb.mono h1.size), ?_⟩
  match vs, h2 with
  | [], _ => trivial
  | [v], ⟨g, e, hg, hv⟩ => exact ⟨g, e, hg, hv.below hb⟩
  | [v, _], ⟨g, e, hg, hv⟩ => exact ⟨g, e, hg, hv.below hb⟩
end Go.Proofs.YtbbjifhelbeniaaGreatDoor

/- What is kept over calls that make memory and draw: a count that never goes back. It serves any seat. -/
namespace Go.Proofs.YtbbjifhelbeniaaGreatDoor
open Go.RowKit

/-- As Below, and the draws have gone on. -/
structure BelowD (B : Nat) (w w' : World) : Prop where
  b : Below B w w'
  d : w.drawn ≤ w'.drawn
theorem BelowD.size {B : Nat} {w w' : World} (h : BelowD B w w') : w.heap.size ≤ w'.heap.size := h.b.size
theorem BelowD.refl (B : Nat) (w : World) : BelowD B w w := ⟨Below.refl _ _, Nat.le_refl _⟩
theorem BelowD.trans {B : Nat} {x y z : World} (h : BelowD B x y) (k : BelowD B y z) : BelowD B x z := ⟨h.b.trans k.b, Nat.le_trans h.d k.d⟩
theorem BelowD.mono {B B' : Nat} {w w' : World} (h : BelowD B w w') (hB : B' ≤ B) : BelowD B' w w' := ⟨h.b.mono hB, h.d⟩
theorem BelowD.drew {B : Nat} {x w : World} (h : BelowD B x w) : BelowD B x w.drew := ⟨h.b.drew, Nat.le_succ_of_le h.d⟩
theorem BelowD.alloc {B : Nat} {x w : World} (h : BelowD B x w) (hB : B ≤ w.heap.size) (o : Obj) : BelowD B x (w.alloc o) := ⟨h.b.alloc hB o, h.d⟩
theorem BelowD.setCell {B : Nat} {x w : World} (h : BelowD B x w) {p : Addr} (hp : B ≤ p.block) (u : Value) : BelowD B x (w.setCell p u) := ⟨h.b.setCell hp u, h.d⟩
theorem BelowD.cell {B : Nat} {w w' : World} (h : BelowD B w w') {p : Addr} (hp : p.block < B) : w'.cell? p = w.cell? p := h.b.cell hp

/-- A world that has grown out of W, with its draws. -/
structure ExtD (W : World) where
  w : World
  h : BelowD W.heap.size W w
theorem ExtD.there (W : World) : Nonempty (ExtD W) := ⟨⟨W, BelowD.refl _ _⟩⟩
theorem ExtD.call {W : World} {P : Program} {f : FuncId} {args : Array Value} {v : Value} (x : ExtD W) (h : Calls P f args x.w fun e w' => e = .returned v ∧ BelowD x.w.heap.size x.w w') :
    Calls P f args x.w fun e w'' => e = .returned v ∧ ∃ y : ExtD W, w'' = y.w :=
  h.mono fun _ w' ⟨he, hb⟩ => ⟨he, ⟨w', x.h.trans (hb.mono x.h.size)⟩, rfl⟩
theorem ExtD.same {W : World} {P : Program} {f : FuncId} {args : Array Value} {v : Value} (x : ExtD W) (h : Calls P f args x.w fun e w' => e = .returned v ∧ x.w = w') :
    Calls P f args x.w fun e w'' => e = .returned v ∧ ∃ y : ExtD W, w'' = y.w :=
  h.mono fun _ w' ⟨he, hb⟩ => ⟨he, ⟨w', hb ▸ x.h⟩, rfl⟩
theorem ExtD.cell {W : World} (x : ExtD W) {b o : Nat} {v : Value} (h : W.cell? ⟨b, o, none⟩ = some v) : x.w.cell? ⟨b, o, none⟩ = some v :=
  (x.h.cell (p := ⟨b, o, none⟩) (World.block_lt_of_cell? W _ h)).trans h
theorem ExtD.region {W : World} {P : Program} {id : Nat} {ops : List Oper} {Q : Exit → Act → World → Prop} {a : Act} (hm : P.follows .mixedOrders = true) (hB : Region.lexB .any ops.toArray = true)
    (h : wpQuiet P ops.toArray (fun w' => ∃ x : ExtD W, w' = x.w) (fun a' => ∀ w', (∃ x : ExtD W, w' = x.w) → Q .normal a' w') ops a) : (Code.region id ops.toArray true).wp P Q a W :=
  wp_region_quiet (C := fun w' => ∃ x : ExtD W, w' = x.w) hm hB ⟨⟨W.drew, (BelowD.refl _ _).drew⟩, rfl⟩ (by simpa using h)

/-- Such a world is the old one with draws and with blocks behind it. -/
theorem BelowD.grew {w w' : World} (h : BelowD w.heap.size w w') : ∃ q os, w' = Go.Sort.grow (w.drewN q) os := by
  refine ⟨w'.drawn - w.drawn, w'.heap.extract w.heap.size w'.heap.size, ?_⟩
  have h1 := h.b.os
  have h2 := h.b.tape
  have h3 := h.b.output
  have h4 := h.b.size
  have h5 := h.d
  have hh : w'.heap = w.heap ++ w'.heap.extract w.heap.size w'.heap.size := by
    apply Array.ext_getElem?
    intro k
    rw [Array.getElem?_append]
    by_cases hk : k < w.heap.size
    · rw [if_pos hk]; exact h.b.block k hk
    · rw [if_neg hk, Array.getElem?_extract]
      by_cases hk2 : k < w'.heap.size
      · rw [if_pos (by omega)]; congr 1; omega
      · rw [if_neg (by omega), Array.getElem?_eq_none (by omega)]
  unfold Go.Sort.grow World.drewN
  cases w
  cases w'
  simp only at h1 h2 h3 h5 hh ⊢
  subst h1 h2 h3
  rw [← hh]
  congr 1
  omega
end Go.Proofs.YtbbjifhelbeniaaGreatDoor

/- A loop over a function ('for x := range f(..)'), where the function keeps variables of its own between two rounds, and the loop's body ends or breaks. -/
namespace Go.Proofs.YtbbjifhelbeniaaGreatDoor
open Go.RowKit

/-- What a function that is ranged over promises: it hands 'full' to the rounds, one after the other, as long as they ask for more. The rounds keep Kp; what the caller holds (J, Jx) it holds through whatever leaves alone what lay when the function was called. -/
def Ranged {α : Type} (P : Program) (g : Nat) (lb : Array Value) (encs : α → Array Value) (Kp : World → World → Prop) (full : List α) (w : World) : Prop :=
  ∀ (l : Nat) (J Jx : List α → World → Prop) (W : World), Below w.heap.size w W → (∀ s X Y, J s X → Below W.heap.size X Y → J s Y) → (∀ s X Y, Jx s X → Below W.heap.size X Y → Jx s Y) →
    (∀ pre x X, pre ++ [x] <+: full → J pre X → YieldAt Fence.wide 7 P l (encs x) X fun e Y =>
      (e = .returned (.bool true) ∧ J (pre ++ [x]) Y ∧ Kp X Y) ∨ (e = .returned (.bool false) ∧ Jx (pre ++ [x]) Y)) →
    J [] W →
    CallsIn Fence.wide 8 P g (#[.func (.yield l) #[] #[]] ++ lb) W fun e Y => (∃ v, e = .returned v) ∧ (J full Y ∨ ∃ pre, pre <+: full ∧ Jx pre Y)

/-- How a round's body is left: at its end, or by the one break. -/
def roundEnds {α : Type} (B id : Nat) (Kp : World → World → Prop) (I Ix : List α → World → Prop) (xs : List α) (X : World) : Exit → Act → World → Prop
  | .normal, _, Y => KeepsFrom B X Y ∧ Kp X Y ∧ I xs Y
  | .exit i, _, Y => i = id ∧ KeepsFrom B X Y ∧ Ix xs Y
  | _, _, _ => False

theorem putObj_below {B : Nat} {X : World} {l : Nat} {o' : Obj} (hB : B ≤ l) (hs : B ≤ X.heap.size) : Below B X (X.putObj l o') :=
  (Below.refl B X).grown (grownBy_putObj' X l o') hs (fun k e => by cases e; exact hB)

theorem wp_ranged {α : Type} {P : Program} {g : Operand} {ps : Array Tmp} {assign body : Code} {Q : Exit → Act → World → Prop} {a : Act} {w : World}
    {gf : Nat} {lb : Array Value} (hg : a.eval g = .func (.func gf) #[] lb) (eg : ∀ args w, (callFunc gf args).run P w = .ok (.enter gf args) w)
    {encs : α → Array Value} {Kp : World → World → Prop} {full : List α} {w0 : World} (hseq : Ranged P gf lb encs Kp full w0) (hb0 : Below w0.heap.size w0 w)
    (hKt : ∀ {X Y Z : World}, Kp X Y → Kp Y Z → Kp X Z) (hKb : ∀ (X : World) (l : Nat) (o o' : Obj), w.heap.size ≤ l → X.heap[l]? = some o → o.isCells = false → Kp X (X.putObj l o')) (hps : ∀ x, (encs x).size = ps.size)
    (I Ix : List α → World → Prop) (id : Nat) (hI : ∀ s X Y, I s X → Below w.heap.size X Y → I s Y) (hIx : ∀ s X Y, Ix s X → Below w.heap.size X Y → Ix s Y) (h0 : I [] w) (a₁ : α → Act)
    (hassign : ∀ (l : Nat) (x : α) (X : World) (K : Act → World → Prop), K (a₁ x) X →
      assign.wpIn (Fence.wide.inRound l) 7 P (Exit.then K (fun _ _ _ => False)) { tmps := (ps.zip (encs x)).foldl (fun t (p, v) => t.setIfInBounds p v) a.tmps, defers := [] } X)
    (hbody : ∀ (l : Nat) (pre : List α) (x : α) (X : World), pre ++ [x] <+: full → I pre X → w.heap.size ≤ X.heap.size → body.wpIn (Fence.wide.inRound l) 7 P (roundEnds w.heap.size id Kp I Ix (pre ++ [x]) X) (a₁ x) X)
    (hdone : ∀ (D : Nat) (X : World), w.heap.size ≤ D → I full X → X.heap[D]? = some (.deferred (some [])) → Q .normal { a with defers := { target := .collected D, args := #[] } :: a.defers } X)
    (hstop : ∀ (D : Nat) (pre : List α) (X : World), w.heap.size ≤ D → pre <+: full → Ix pre X → X.heap[D]? = some (.deferred (some [])) → Q (.exit id) { a with defers := { target := .collected D, args := #[] } :: a.defers } X) :
    (Code.rangeFunc g ps assign body).wp P Q a w := by
  refine (wpIn_wide (n := 9)).1 (wpIn_rangeFunc ?_)
  intro fn hfn
  obtain ⟨rec, hrec⟩ : ∃ rec : LoopState → Option Code → Loop, rec = fun st pe => { state := st, pending := pe, fn, tmps := a.tmps, params := ps, assign, body, defers := w.heap.size } := ⟨_, rfl⟩
  obtain ⟨W1, hW1⟩ : ∃ W1, (w.alloc (.deferred (some []))).alloc (.loop (rec .ready none)) = W1 := ⟨_, rfl⟩
  have hs1 : W1.heap.size = w.heap.size + 2 := by rw [← hW1]; simp
  have hB1 : Below w.heap.size w W1 := by rw [← hW1]; exact ((Below.refl _ w).alloc (Nat.le_refl _) _).alloc (by simp) _
  have hL1 : W1.heap[w.heap.size + 1]? = some (.loop (rec .ready none)) := by
    have h := World.alloc_heap_new (w.alloc (.deferred (some []))) (.loop (rec .ready none))
    rw [World.size_alloc, hW1] at h
    exact h
  have hK1 : W1.heap[w.heap.size]? = some (.deferred (some [])) := by
    rw [← hW1]
    exact (Below.heap_alloc _ _ _ (by simp)).trans (World.alloc_heap_new w _)
  have hput : ∀ (X : World) (o o' : Obj), X.heap[w.heap.size + 1]? = some o → Below w.heap.size X (X.putObj (w.heap.size + 1) o') := fun X o o' h =>
    putObj_below (Nat.le_succ _) (by have := (Array.getElem?_eq_some_iff.1 h).1; omega)
  refine ⟨w.heap.size + 1, [{ target := .collected w.heap.size, args := #[] }], W1, { target := .fn (.func gf) lb, args := #[.func (.yield (w.heap.size + 1)) #[] #[]] }, W1, gf, #[.func (.yield (w.heap.size + 1)) #[] #[]] ++ lb, W1, ?_, ?_, fun _ _ => trivial, ?_, fun _ => by omega, ?_⟩
  · rw [← hW1, hrec]
    exact run_enterLoop_outer _ _ _ _ _
  · simp only [resolve, hg]
    simp [go_sem]
  · simp [invoke, go_sem, eg]
  refine (hseq (w.heap.size + 1)
    (fun pre X => I pre X ∧ X.heap[w.heap.size + 1]? = some (.loop (rec .ready none)) ∧ X.heap[w.heap.size]? = some (.deferred (some [])))
    (fun pre X => Ix pre X ∧ X.heap[w.heap.size + 1]? = some (.loop (rec .done (some (.exit id)))) ∧ X.heap[w.heap.size]? = some (.deferred (some [])))
    W1 (hb0.trans (hB1.mono hb0.size))
    (fun s X Y h hb => ⟨hI s X Y h.1 (hb.mono (by omega)), (hb.block _ (by omega)).trans h.2.1, (hb.block _ (by omega)).trans h.2.2⟩)
    (fun s X Y h hb => ⟨hIx s X Y h.1 (hb.mono (by omega)), (hb.block _ (by omega)).trans h.2.1, (hb.block _ (by omega)).trans h.2.2⟩)
    ?_ ⟨hI _ _ _ h0 hB1, hL1, hK1⟩).mono ?_
  · -- one round
    rintro pre x X hpre ⟨hi, hl, hk⟩
    have hlt : w.heap.size + 1 < X.heap.size := (Array.getElem?_eq_some_iff.1 hl).1
    have hy := run_yield (P := P) (args := encs x) hl (by rw [hrec]; exact hps x)
    rw [hrec] at hy
    refine ⟨fn, _, assign, body, hy, roundIn_of_wpIn hfn (hassign _ x X _ ⟨_, run_beginRound hl (by rw [hrec]), ?_⟩)⟩
    obtain ⟨X2, hX2⟩ : ∃ X2, X.putObj (w.heap.size + 1) (.loop { rec .ready none with state := .busy }) = X2 := ⟨_, rfl⟩
    have hl2 : X2.heap[w.heap.size + 1]? = some (.loop { rec .ready none with state := .busy }) := by rw [← hX2]; exact World.putObj_heap_same hlt
    have hk2 : X2.heap[w.heap.size]? = some (.deferred (some [])) := by rw [← hX2]; exact (World.putObj_heap_other (by omega)).trans hk
    have hw2 : Kp X X2 := by rw [← hX2]; exact hKb _ _ _ _ (Nat.le_succ _) hl rfl
    have hi2 : I pre X2 := by rw [← hX2]; exact hI _ _ _ hi (hput X _ _ hl)
    have hz2 : w.heap.size ≤ X2.heap.size := by have := (Array.getElem?_eq_some_iff.1 hl2).1; omega
    have fin : ∀ (jump : Option Code) (Y : World), KeepsFrom w.heap.size X2 Y →
        (Instr.endRound (w.heap.size + 1) jump).run P Y = .ok (.bool jump.isNone) (Y.putObj (w.heap.size + 1) (.loop (rec (if jump.isNone then .ready else .done) jump))) ∧
        Y.heap[w.heap.size + 1]? = some (.loop { rec .ready none with state := .busy }) ∧
        (Y.putObj (w.heap.size + 1) (.loop (rec (if jump.isNone then .ready else .done) jump))).heap[w.heap.size + 1]? = some (.loop (rec (if jump.isNone then .ready else .done) jump)) ∧
        (Y.putObj (w.heap.size + 1) (.loop (rec (if jump.isNone then .ready else .done) jump))).heap[w.heap.size]? = some (.deferred (some [])) := fun jump Y hY => by
      have hl3 := hY.same _ _ (Nat.le_succ _) hl2 rfl
      have hr := run_endRound (P := P) jump hl3
      rw [hrec] at hr ⊢
      rw [hrec] at hl3
      exact ⟨hr, hl3, World.putObj_heap_same (Array.getElem?_eq_some_iff.1 hl3).1, (World.putObj_heap_other (by omega)).trans (hY.same _ _ (Nat.le_refl _) hk2 rfl)⟩
    rw [hX2]
    refine wpIn_mono (hbody _ pre x X2 hpre hi2 hz2) ?_
    rintro e a3 Y hp
    cases e with
    | normal =>
      obtain ⟨hk3, hkp, hi3⟩ := hp
      obtain ⟨hr, hl3, hl4, hk4⟩ := fin none Y hk3
      exact ⟨_, _, hr, .inl ⟨rfl, ⟨hI _ _ _ hi3 (hput Y _ _ hl3), hl4, hk4⟩, hKt (hKt hw2 hkp) (hKb _ _ _ _ (Nat.le_succ _) hl3 rfl)⟩⟩
    | exit i =>
      obtain ⟨rfl, hk3, hi3⟩ := hp
      obtain ⟨hr, hl3, hl4, hk4⟩ := fin (some (.exit i)) Y hk3
      exact ⟨_, _, hr, .inr ⟨rfl, hIx _ _ _ hi3 (hput Y _ _ hl3), hl4, hk4⟩⟩
    | ret => exact hp.elim
    | goto t => exact hp.elim
    | panic ch => exact hp.elim
    | outgrown => exact hp.elim
  · -- behind the function
    rintro e X ⟨⟨v, rfl⟩, ⟨hi, hl, hk⟩ | ⟨pre, hpre, hi, hl, hk⟩⟩
    · have hr := run_endLoop (P := P) hl (by rw [hrec]; simp)
      refine ⟨none, _, by rw [hrec] at hr; exact hr, hdone _ _ (Nat.le_refl _) (hI _ _ _ hi (hput X _ _ hl)) ((World.putObj_heap_other (by omega)).trans hk)⟩
    · have hr := run_endLoop (P := P) hl (by rw [hrec]; simp)
      refine ⟨some (.exit id), _, by rw [hrec] at hr; exact hr, wpIn_wide.2 (wp_exit (hstop _ _ _ (Nat.le_refl _) hpre (hIx _ _ _ hi (hput X _ _ hl)) ((World.putObj_heap_other (by omega)).trans hk)))⟩
end Go.Proofs.YtbbjifhelbeniaaGreatDoor

/- A loop over a function whose loop variable may lie in a block of its own, and whose rounds end, break or return. -/
namespace Go.Proofs.YtbbjifhelbeniaaGreatDoor
open Go.RowKit

/-- How a round's body is left: at its end, or by the one break, or by a return. -/
def roundEndsJ {α : Type} (B : Nat) (isRet : Bool) (id : Nat) (Kp : World → World → Prop) (I Ix : List α → World → Prop) (xs : List α) (X : World) : Exit → Act → World → Prop
  | .normal, _, Y => KeepsFrom B X Y ∧ Kp X Y ∧ I xs Y
  | .exit i, _, Y => isRet = false ∧ i = id ∧ KeepsFrom B X Y ∧ Ix xs Y
  | .ret, _, Y => isRet = true ∧ KeepsFrom B X Y ∧ Ix xs Y
  | _, _, _ => False

theorem wp_rangedJ {α : Type} {P : Program} {g : Operand} {ps : Array Tmp} {assign body : Code} {Q : Exit → Act → World → Prop} {a : Act} {w : World}
    {gf : Nat} {lb : Array Value} (hg : a.eval g = .func (.func gf) #[] lb) (eg : ∀ args w, (callFunc gf args).run P w = .ok (.enter gf args) w)
    {encs : α → Array Value} {Kp : World → World → Prop} {full : List α} {w0 : World} (hseq : Ranged P gf lb encs Kp full w0) (hb0 : Below w0.heap.size w0 w)
    (hKt : ∀ {X Y Z : World}, Kp X Y → Kp Y Z → Kp X Z) (hKb : ∀ (X : World) (l : Nat) (o o' : Obj), w.heap.size ≤ l → X.heap[l]? = some o → o.isCells = false → Kp X (X.putObj l o')) (hps : ∀ x, (encs x).size = ps.size)
    (I Ix : List α → World → Prop) (isRet : Bool) (id : Nat) (hI : ∀ s X Y, I s X → Below w.heap.size X Y → I s Y) (hIx : ∀ s X Y, Ix s X → Below w.heap.size X Y → Ix s Y) (h0 : I [] w) (Ax : α → Act → World → Prop)
    (hAx : ∀ x a' X o o', Ax x a' X → X.heap[w.heap.size + 1]? = some o → o.isCells = false → Ax x a' (X.putObj (w.heap.size + 1) o'))
    (hassign : ∀ (l : Nat) (pre : List α) (x : α) (X : World), pre ++ [x] <+: full → I pre X → w.heap.size < X.heap.size →
      assign.wpIn (Fence.wide.inRound l) 7 P (Exit.then (fun a' Y => KeepsFrom w.heap.size X Y ∧ Kp X Y ∧ I pre Y ∧ Ax x a' Y) (fun _ _ _ => False)) { tmps := (ps.zip (encs x)).foldl (fun t (p, v) => t.setIfInBounds p v) a.tmps, defers := [] } X)
    (hbody : ∀ (l : Nat) (pre : List α) (x : α) (a' : Act) (X : World), pre ++ [x] <+: full → I pre X → Ax x a' X → w.heap.size < X.heap.size → body.wpIn (Fence.wide.inRound l) 7 P (roundEndsJ w.heap.size isRet id Kp I Ix (pre ++ [x]) X) a' X)
    (hdone : ∀ (D : Nat) (X : World), w.heap.size ≤ D → I full X → X.heap[D]? = some (.deferred (some [])) → Q .normal { a with defers := { target := .collected D, args := #[] } :: a.defers } X)
    (hstop : ∀ (D : Nat) (pre : List α) (X : World), w.heap.size ≤ D → pre <+: full → Ix pre X → X.heap[D]? = some (.deferred (some [])) → Q (if isRet then .ret else .exit id) { a with defers := { target := .collected D, args := #[] } :: a.defers } X) :
    (Code.rangeFunc g ps assign body).wp P Q a w := by
  refine (wpIn_wide (n := 9)).1 (wpIn_rangeFunc ?_)
  intro fn hfn
  obtain ⟨rec, hrec⟩ : ∃ rec : LoopState → Option Code → Loop, rec = fun st pe => { state := st, pending := pe, fn, tmps := a.tmps, params := ps, assign, body, defers := w.heap.size } := ⟨_, rfl⟩
  obtain ⟨W1, hW1⟩ : ∃ W1, (w.alloc (.deferred (some []))).alloc (.loop (rec .ready none)) = W1 := ⟨_, rfl⟩
  have hs1 : W1.heap.size = w.heap.size + 2 := by rw [← hW1]; simp
  have hB1 : Below w.heap.size w W1 := by rw [← hW1]; exact ((Below.refl _ w).alloc (Nat.le_refl _) _).alloc (by simp) _
  have hL1 : W1.heap[w.heap.size + 1]? = some (.loop (rec .ready none)) := by
    have h := World.alloc_heap_new (w.alloc (.deferred (some []))) (.loop (rec .ready none))
    rw [World.size_alloc, hW1] at h
    exact h
  have hK1 : W1.heap[w.heap.size]? = some (.deferred (some [])) := by
    rw [← hW1]
    exact (Below.heap_alloc _ _ _ (by simp)).trans (World.alloc_heap_new w _)
  have hput : ∀ (X : World) (o o' : Obj), X.heap[w.heap.size + 1]? = some o → Below w.heap.size X (X.putObj (w.heap.size + 1) o') := fun X o o' h =>
    putObj_below (Nat.le_succ _) (by have := (Array.getElem?_eq_some_iff.1 h).1; omega)
  refine ⟨w.heap.size + 1, [{ target := .collected w.heap.size, args := #[] }], W1, { target := .fn (.func gf) lb, args := #[.func (.yield (w.heap.size + 1)) #[] #[]] }, W1, gf, #[.func (.yield (w.heap.size + 1)) #[] #[]] ++ lb, W1, ?_, ?_, fun _ _ => trivial, ?_, fun _ => by omega, ?_⟩
  · rw [← hW1, hrec]
    exact run_enterLoop_outer _ _ _ _ _
  · simp only [resolve, hg]
    simp [go_sem]
  · simp [invoke, go_sem, eg]
  refine (hseq (w.heap.size + 1)
    (fun pre X => I pre X ∧ X.heap[w.heap.size + 1]? = some (.loop (rec .ready none)) ∧ X.heap[w.heap.size]? = some (.deferred (some [])))
    (fun pre X => Ix pre X ∧ X.heap[w.heap.size + 1]? = some (.loop (rec .done (some (if isRet then Code.ret else Code.exit id)))) ∧ X.heap[w.heap.size]? = some (.deferred (some [])))
    W1 (hb0.trans (hB1.mono hb0.size))
    (fun s X Y h hb => ⟨hI s X Y h.1 (hb.mono (by omega)), (hb.block _ (by omega)).trans h.2.1, (hb.block _ (by omega)).trans h.2.2⟩)
    (fun s X Y h hb => ⟨hIx s X Y h.1 (hb.mono (by omega)), (hb.block _ (by omega)).trans h.2.1, (hb.block _ (by omega)).trans h.2.2⟩)
    ?_ ⟨hI _ _ _ h0 hB1, hL1, hK1⟩).mono ?_
  · -- one round
    rintro pre x X hpre ⟨hi, hl, hk⟩
    have hlt : w.heap.size + 1 < X.heap.size := (Array.getElem?_eq_some_iff.1 hl).1
    have hy := run_yield (P := P) (args := encs x) hl (by rw [hrec]; exact hps x)
    rw [hrec] at hy
    refine ⟨fn, _, assign, body, hy, roundIn_of_wpIn hfn (wpIn_mono (hassign _ pre x X hpre hi (by omega)) ?_)⟩
    rintro e a' Y hp
    cases e with
    | exit i => exact hp.elim
    | ret => exact hp.elim
    | goto t => exact hp.elim
    | panic ch => exact hp.elim
    | outgrown => exact hp.elim
    | normal =>
    obtain ⟨hkY, hpY, hiY, hAY⟩ := hp
    have hlY : Y.heap[w.heap.size + 1]? = some (.loop (rec .ready none)) := hkY.same (w.heap.size + 1) (.loop (rec .ready none)) (Nat.le_succ _) hl rfl
    have hkY' : Y.heap[w.heap.size]? = some (.deferred (some [])) := hkY.same w.heap.size (.deferred (some [])) (Nat.le_refl _) hk rfl
    refine ⟨_, run_beginRound hlY (by rw [hrec]), ?_⟩
    have hlt : w.heap.size + 1 < Y.heap.size := (Array.getElem?_eq_some_iff.1 hlY).1
    have hl := hlY
    have hk := hkY'
    have hi := hiY
    have hw2 : Kp X (Y.putObj (w.heap.size + 1) (.loop { rec .ready none with state := .busy })) := hKt hpY (hKb _ _ _ _ (Nat.le_succ _) hlY rfl)
    have hA2 : Ax x a' (Y.putObj (w.heap.size + 1) (.loop { rec .ready none with state := .busy })) := hAx _ _ _ _ _ hAY hlY rfl
    obtain ⟨X2, hX2⟩ : ∃ X2, Y.putObj (w.heap.size + 1) (.loop { rec .ready none with state := .busy }) = X2 := ⟨_, rfl⟩
    have hl2 : X2.heap[w.heap.size + 1]? = some (.loop { rec .ready none with state := .busy }) := by rw [← hX2]; exact World.putObj_heap_same hlt
    have hk2 : X2.heap[w.heap.size]? = some (.deferred (some [])) := by rw [← hX2]; exact (World.putObj_heap_other (by omega)).trans hk
    rw [hX2] at hw2 hA2
    have hi2 : I pre X2 := by rw [← hX2]; exact hI _ _ _ hi (hput Y _ _ hl)
    have hz2 : w.heap.size < X2.heap.size := by have := (Array.getElem?_eq_some_iff.1 hl2).1; omega
    have fin : ∀ (jump : Option Code) (Y : World), KeepsFrom w.heap.size X2 Y →
        (Instr.endRound (w.heap.size + 1) jump).run P Y = .ok (.bool jump.isNone) (Y.putObj (w.heap.size + 1) (.loop (rec (if jump.isNone then .ready else .done) jump))) ∧
        Y.heap[w.heap.size + 1]? = some (.loop { rec .ready none with state := .busy }) ∧
        (Y.putObj (w.heap.size + 1) (.loop (rec (if jump.isNone then .ready else .done) jump))).heap[w.heap.size + 1]? = some (.loop (rec (if jump.isNone then .ready else .done) jump)) ∧
        (Y.putObj (w.heap.size + 1) (.loop (rec (if jump.isNone then .ready else .done) jump))).heap[w.heap.size]? = some (.deferred (some [])) := fun jump Y hY => by
      have hl3 := hY.same _ _ (Nat.le_succ _) hl2 rfl
      have hr := run_endRound (P := P) jump hl3
      rw [hrec] at hr ⊢
      rw [hrec] at hl3
      exact ⟨hr, hl3, World.putObj_heap_same (Array.getElem?_eq_some_iff.1 hl3).1, (World.putObj_heap_other (by omega)).trans (hY.same _ _ (Nat.le_refl _) hk2 rfl)⟩
    rw [hX2]
    refine wpIn_mono (hbody _ pre x a' X2 hpre hi2 hA2 hz2) ?_
    rintro e a3 Y hp
    cases e with
    | normal =>
      obtain ⟨hk3, hkp, hi3⟩ := hp
      obtain ⟨hr, hl3, hl4, hk4⟩ := fin none Y hk3
      exact ⟨_, _, hr, .inl ⟨rfl, ⟨hI _ _ _ hi3 (hput Y _ _ hl3), hl4, hk4⟩, hKt (hKt hw2 hkp) (hKb _ _ _ _ (Nat.le_succ _) hl3 rfl)⟩⟩
    | exit i =>
      obtain ⟨rfl, rfl, hk3, hi3⟩ := hp
      obtain ⟨hr, hl3, hl4, hk4⟩ := fin (some (.exit i)) Y hk3
      exact ⟨_, _, hr, .inr ⟨rfl, hIx _ _ _ hi3 (hput Y _ _ hl3), hl4, hk4⟩⟩
    | ret =>
      obtain ⟨rfl, hk3, hi3⟩ := hp
      obtain ⟨hr, hl3, hl4, hk4⟩ := fin (some .ret) Y hk3
      exact ⟨_, _, hr, .inr ⟨rfl, hIx _ _ _ hi3 (hput Y _ _ hl3), hl4, hk4⟩⟩
    | goto t => exact hp.elim
    | panic ch => exact hp.elim
    | outgrown => exact hp.elim
  · -- behind the function
    rintro e X ⟨⟨v, rfl⟩, ⟨hi, hl, hk⟩ | ⟨pre, hpre, hi, hl, hk⟩⟩
    · have hr := run_endLoop (P := P) hl (by rw [hrec]; simp)
      refine ⟨none, _, by rw [hrec] at hr; exact hr, hdone _ _ (Nat.le_refl _) (hI _ _ _ hi (hput X _ _ hl)) ((World.putObj_heap_other (by omega)).trans hk)⟩
    · have hr := run_endLoop (P := P) hl (by rw [hrec]; simp)
      refine ⟨some (if isRet then Code.ret else Code.exit id), _, by rw [hrec] at hr; exact hr, wpIn_wide.2 ?_⟩
      cases isRet with
      | true => exact wp_ret (hstop _ _ _ (Nat.le_refl _) hpre (hIx _ _ _ hi (hput X _ _ hl)) ((World.putObj_heap_other (by omega)).trans hk))
      | false => exact wp_exit (hstop _ _ _ (Nat.le_refl _) hpre (hIx _ _ _ hi (hput X _ _ hl)) ((World.putObj_heap_other (by omega)).trans hk))
end Go.Proofs.YtbbjifhelbeniaaGreatDoor

/- A loop over a function that has variables of its own, and whose rounds make memory, too: the function's variables are the first d blocks that it makes. -/
namespace Go.Proofs.YtbbjifhelbeniaaGreatDoor
open Go.RowKit

/-- Whatever lay outside of the blocks from n1 to before n2 is as it was. -/
structure Acts (n1 n2 : Nat) (X Y : World) : Prop where
  os : Y.os = X.os
  tape : Y.tape = X.tape
  output : Y.output = X.output
  size : X.heap.size ≤ Y.heap.size
  same : ∀ k, k < X.heap.size → (k < n1 ∨ n2 ≤ k) → Y.heap[k]? = X.heap[k]?
theorem Acts.refl (n1 n2 : Nat) (X : World) : Acts n1 n2 X X := ⟨rfl, rfl, rfl, Nat.le_refl _, fun _ _ _ => rfl⟩
theorem Acts.trans {n1 n2 : Nat} {X Y Z : World} (h : Acts n1 n2 X Y) (k : Acts n1 n2 Y Z) : Acts n1 n2 X Z :=
  ⟨k.os.trans h.os, k.tape.trans h.tape, k.output.trans h.output, Nat.le_trans h.size k.size, fun i hi hn => (k.same i (Nat.lt_of_lt_of_le hi h.size) hn).trans (h.same i hi hn)⟩
theorem Acts.wide {m1 m2 n1 n2 : Nat} {X Y : World} (h : Acts m1 m2 X Y) (h1 : n1 ≤ m1) (h2 : m2 ≤ n2) : Acts n1 n2 X Y :=
  ⟨h.os, h.tape, h.output, h.size, fun i hi hn => h.same i hi (by omega)⟩
theorem Acts.below {n1 n2 B : Nat} {X Y : World} (h : Acts n1 n2 X Y) (hB : B ≤ n1) (hX : B ≤ X.heap.size) : Below B X Y :=
  ⟨h.os, h.tape, h.output, h.size, fun i hi => h.same i (by omega) (.inl (by omega))⟩
theorem Acts.ofBelow {n1 n2 : Nat} {X Y : World} (h : Below X.heap.size X Y) : Acts n1 n2 X Y := ⟨h.os, h.tape, h.output, h.size, fun i hi _ => h.block i hi⟩
theorem Acts.alloc {n1 n2 : Nat} {X Y : World} (h : Acts n1 n2 X Y) (o : Obj) : Acts n1 n2 X (Y.alloc o) :=
  h.trans (.ofBelow ((Below.refl _ _).alloc (Nat.le_refl _) _))
theorem Acts.putObj {n1 n2 l : Nat} {X : World} (h1 : n1 ≤ l) (h2 : l < n2) (o : Obj) : Acts n1 n2 X (X.putObj l o) :=
  ⟨rfl, rfl, rfl, by simp, fun k _ hn => World.putObj_heap_other (by omega)⟩
theorem Acts.setCell {n1 n2 : Nat} {X : World} {p : Addr} (h1 : n1 ≤ p.block) (h2 : p.block < n2) (v : Value) : Acts n1 n2 X (X.setCell p v) :=
  ⟨rfl, rfl, rfl, by simp [World.setCell], fun k _ hn => Below.heap_setCell X p v k (by omega)⟩
theorem Acts.cell {n1 n2 : Nat} {X Y : World} (h : Acts n1 n2 X Y) {p : Addr} {v : Value} (hp : p.block < n1 ∨ n2 ≤ p.block) (hc : X.cell? p = some v) : Y.cell? p = some v :=
  (World.cell?_of_block (w := X) (h.same p.block (World.block_lt_of_cell? _ _ hc) hp)).trans hc
theorem Acts.frozen {n1 n2 : Nat} {X Y : World} (h : Acts n1 n2 X Y) {p : Addr} {v : Value} (hp : p.block < n1 ∨ n2 ≤ p.block) (hc : X.cell? p = some v) : Y.frozen? p = X.frozen? p :=
  World.frozen?_of_block (w := X) (h.same p.block (World.block_lt_of_cell? _ _ hc) hp)
/-- What a round leaves alone: what lay before c1, the blocks from n1 to before n2, and those from m on (made since the last round). -/
structure Kr (c1 n1 n2 m : Nat) (X Y : World) : Prop where
  os : Y.os = X.os
  tape : Y.tape = X.tape
  output : Y.output = X.output
  size : X.heap.size ≤ Y.heap.size
  same : ∀ k, k < X.heap.size → (k < c1 ∨ n1 ≤ k ∧ k < n2 ∨ m ≤ k) → Y.heap[k]? = X.heap[k]?
theorem Kr.refl (c1 n1 n2 m : Nat) (X : World) : Kr c1 n1 n2 m X X := ⟨rfl, rfl, rfl, Nat.le_refl _, fun _ _ _ => rfl⟩
theorem Kr.trans {c1 n1 n2 m : Nat} {X Y Z : World} (h : Kr c1 n1 n2 m X Y) (k : Kr c1 n1 n2 m Y Z) : Kr c1 n1 n2 m X Z :=
  ⟨k.os.trans h.os, k.tape.trans h.tape, k.output.trans h.output, Nat.le_trans h.size k.size, fun i hi hn => (k.same i (Nat.lt_of_lt_of_le hi h.size) hn).trans (h.same i hi hn)⟩
theorem Kr.wide {c1 n1 n2 m m1 m2 m' : Nat} {X Y : World} (h : Kr c1 m1 m2 m' X Y) (h1 : m1 ≤ n1) (h2 : n2 ≤ m2) (h3 : m' ≤ m) : Kr c1 n1 n2 m X Y :=
  ⟨h.os, h.tape, h.output, h.size, fun i hi hn => h.same i hi (by omega)⟩
theorem Kr.ofBelow {c1 n1 n2 m : Nat} {X Y : World} (h : Below X.heap.size X Y) : Kr c1 n1 n2 m X Y := ⟨h.os, h.tape, h.output, h.size, fun i hi _ => h.block i hi⟩
theorem Kr.alloc {c1 n1 n2 m : Nat} {X Y : World} (h : Kr c1 n1 n2 m X Y) (o : Obj) : Kr c1 n1 n2 m X (Y.alloc o) :=
  h.trans (.ofBelow ((Below.refl _ _).alloc (Nat.le_refl _) _))
theorem Kr.setCell {c1 n1 n2 m : Nat} {X Y : World} {p : Addr} (h : Kr c1 n1 n2 m X Y) (h1 : c1 ≤ p.block) (h2 : p.block < n1 ∨ n2 ≤ p.block) (h3 : p.block < m) (v : Value) : Kr c1 n1 n2 m X (Y.setCell p v) :=
  h.trans ⟨rfl, rfl, rfl, by simp [World.setCell], fun k _ hn => Below.heap_setCell Y p v k (by omega)⟩
theorem Kr.grown {c1 n1 n2 m : Nat} {X Y Z : World} {row : Option Nat} (h : Kr c1 n1 n2 m X Y) (hg : Y.grownBy Z row) (hr : ∀ j, row = some j → c1 ≤ j ∧ (j < n1 ∨ n2 ≤ j) ∧ j < m) : Kr c1 n1 n2 m X Z :=
  h.trans ⟨hg.os, hg.tape, hg.output, hg.size, fun k hk hn => hg.block k hk (fun e => by have := hr k e.symm; omega)⟩
theorem Kr.cell {c1 n1 n2 m : Nat} {X Y : World} (h : Kr c1 n1 n2 m X Y) {p : Addr} {v : Value} (hp : p.block < c1 ∨ n1 ≤ p.block ∧ p.block < n2 ∨ m ≤ p.block) (hc : X.cell? p = some v) : Y.cell? p = some v :=
  (World.cell?_of_block (w := X) (h.same p.block (World.block_lt_of_cell? _ _ hc) hp)).trans hc
theorem Kr.frozen {c1 n1 n2 m : Nat} {X Y : World} (h : Kr c1 n1 n2 m X Y) {p : Addr} {v : Value} (hp : p.block < c1 ∨ n1 ≤ p.block ∧ p.block < n2 ∨ m ≤ p.block) (hc : X.cell? p = some v) : Y.frozen? p = X.frozen? p :=
  World.frozen?_of_block (w := X) (h.same p.block (World.block_lt_of_cell? _ _ hc) hp)
theorem Kr.below {c1 n1 n2 m : Nat} {X Y : World} (h : Kr c1 n1 n2 m X Y) (hX : c1 ≤ X.heap.size) : Below c1 X Y :=
  ⟨h.os, h.tape, h.output, h.size, fun i hi => h.same i (by omega) (.inl hi)⟩

/-- What a function that is ranged over promises: it hands 'full' to the rounds, one after the other, as long as they ask for more; its own variables are the first d blocks that it makes. The rounds keep these, what lay before c1, and what was made since the last round (from m on). -/
def Seq2 {α : Type} (P : Program) (g : Nat) (lb : Array Value) (encs : α → Array Value) (c1 d : Nat) (full : List α) (w : World) : Prop :=
  ∀ (l : Nat) (J : Nat → List α → World → Prop) (Jx : List α → World → Prop) (W : World), Below w.heap.size w W → (∀ m s X Y, J m s X → Acts W.heap.size (W.heap.size + d) X Y → J m s Y) → (∀ s X Y, Jx s X → Acts W.heap.size (W.heap.size + d) X Y → Jx s Y) →
    (∀ m pre x X, pre ++ [x] <+: full → W.heap.size ≤ m → m ≤ X.heap.size → J m pre X → W.heap.size + d ≤ X.heap.size → YieldAt Fence.wide 7 P l (encs x) X fun e Y =>
      (e = .returned (.bool true) ∧ J Y.heap.size (pre ++ [x]) Y ∧ Kr c1 W.heap.size (W.heap.size + d) m X Y) ∨ (e = .returned (.bool false) ∧ Jx (pre ++ [x]) Y ∧ Kr c1 W.heap.size (W.heap.size + d) m X Y)) →
    J W.heap.size [] W →
    CallsIn Fence.wide 8 P g (#[.func (.yield l) #[] #[]] ++ lb) W fun e Y => (∃ v, e = .returned v) ∧ ((W.heap.size + d ≤ Y.heap.size ∧ ∃ m, m ≤ Y.heap.size ∧ J m full Y) ∨ ∃ pre, pre <+: full ∧ Jx pre Y)

/-- How a round's body is left: at its end, or by the one break, or by a return. -/
def roundEnds2 {α : Type} (c1 n1 n2 m : Nat) (isRet : Bool) (id : Nat) (I : Nat → List α → World → Prop) (Ix : List α → World → Prop) (xs : List α) (X : World) : Exit → Act → World → Prop
  | .normal, _, Y => Kr c1 n1 n2 m X Y ∧ I Y.heap.size xs Y
  | .exit i, _, Y => isRet = false ∧ i = id ∧ Kr c1 n1 n2 m X Y ∧ Ix xs Y
  | .ret, _, Y => isRet = true ∧ Kr c1 n1 n2 m X Y ∧ Ix xs Y
  | _, _, _ => False

theorem wp_seq2 {α : Type} {P : Program} {g : Operand} {ps : Array Tmp} {assign body : Code} {Q : Exit → Act → World → Prop} {a : Act} {w : World}
    {gf : Nat} {lb : Array Value} (hg : a.eval g = .func (.func gf) #[] lb) (eg : ∀ args w, (callFunc gf args).run P w = .ok (.enter gf args) w)
    {encs : α → Array Value} {c1 d : Nat} {full : List α} {w0 : World} (hseq : Seq2 P gf lb encs c1 d full w0) (hc1 : c1 ≤ w.heap.size) (hb0 : Below w0.heap.size w0 w)
    (hps : ∀ x, (encs x).size = ps.size)
    (I : Nat → List α → World → Prop) (Ix : List α → World → Prop) (isRet : Bool) (id : Nat) (hmono : ∀ m m2 s X, m ≤ m2 → I m s X → I m2 s X) (hI : ∀ m s X Y, I m s X → Acts w.heap.size (w.heap.size + 2 + d) X Y → I m s Y) (hIx : ∀ s X Y, Ix s X → Acts w.heap.size (w.heap.size + 2 + d) X Y → Ix s Y) (h0 : I w.heap.size [] w) (Ax : Nat → α → Act → World → Prop)
    (hAx : ∀ m x a' X o o', Ax m x a' X → X.heap[w.heap.size + 1]? = some o → o.isCells = false → Ax m x a' (X.putObj (w.heap.size + 1) o'))
    (hassign : ∀ (l m : Nat) (pre : List α) (x : α) (X : World), pre ++ [x] <+: full → w.heap.size < m → m ≤ X.heap.size → I m pre X → w.heap.size + 2 + d ≤ X.heap.size →
      assign.wpIn (Fence.wide.inRound l) 7 P (Exit.then (fun a' Y => Kr c1 w.heap.size (w.heap.size + 2 + d) m X Y ∧ I m pre Y ∧ Ax m x a' Y) (fun _ _ _ => False)) { tmps := (ps.zip (encs x)).foldl (fun t (p, v) => t.setIfInBounds p v) a.tmps, defers := [] } X)
    (hbody : ∀ (l m : Nat) (pre : List α) (x : α) (a' : Act) (X : World), pre ++ [x] <+: full → w.heap.size < m → m ≤ X.heap.size → I m pre X → Ax m x a' X → w.heap.size + 2 + d ≤ X.heap.size → body.wpIn (Fence.wide.inRound l) 7 P (roundEnds2 c1 w.heap.size (w.heap.size + 2 + d) m isRet id I Ix (pre ++ [x]) X) a' X)
    (hdone : ∀ (D : Nat) (X : World), D = w.heap.size → w.heap.size + 2 + d ≤ X.heap.size → (∃ m, m ≤ X.heap.size ∧ I m full X) → X.heap[D]? = some (.deferred (some [])) → Q .normal { a with defers := { target := .collected D, args := #[] } :: a.defers } X)
    (hstop : ∀ (D : Nat) (pre : List α) (X : World), D = w.heap.size → pre <+: full → Ix pre X → X.heap[D]? = some (.deferred (some [])) → Q (if isRet then .ret else .exit id) { a with defers := { target := .collected D, args := #[] } :: a.defers } X) :
    (Code.rangeFunc g ps assign body).wp P Q a w := by
  refine (wpIn_wide (n := 9)).1 (wpIn_rangeFunc ?_)
  intro fn hfn
  obtain ⟨rec, hrec⟩ : ∃ rec : LoopState → Option Code → Loop, rec = fun st pe => { state := st, pending := pe, fn, tmps := a.tmps, params := ps, assign, body, defers := w.heap.size } := ⟨_, rfl⟩
  obtain ⟨W1, hW1⟩ : ∃ W1, (w.alloc (.deferred (some []))).alloc (.loop (rec .ready none)) = W1 := ⟨_, rfl⟩
  have hs1 : W1.heap.size = w.heap.size + 2 := by rw [← hW1]; simp
  have hB1 : Below w.heap.size w W1 := by rw [← hW1]; exact ((Below.refl _ w).alloc (Nat.le_refl _) _).alloc (by simp) _
  have hL1 : W1.heap[w.heap.size + 1]? = some (.loop (rec .ready none)) := by
    have h := World.alloc_heap_new (w.alloc (.deferred (some []))) (.loop (rec .ready none))
    rw [World.size_alloc, hW1] at h
    exact h
  have hK1 : W1.heap[w.heap.size]? = some (.deferred (some [])) := by
    rw [← hW1]
    exact (Below.heap_alloc _ _ _ (by simp)).trans (World.alloc_heap_new w _)
  have hput : ∀ (X : World) (o' : Obj), Acts w.heap.size (w.heap.size + 2 + d) X (X.putObj (w.heap.size + 1) o') := fun X o' => Acts.putObj (Nat.le_succ _) (by omega) _
  have hpk : ∀ (m : Nat) (X Y : World) (o' : Obj), w.heap.size + 2 ≤ m → Kr c1 w.heap.size (w.heap.size + 2 + d) m X Y → Kr c1 W1.heap.size (W1.heap.size + d) m X (Y.putObj (w.heap.size + 1) o') := fun m X Y o' hm h => (h.wide (by omega) (by omega) (Nat.le_refl _)).trans ⟨rfl, rfl, rfl, by simp, fun k _ hn => World.putObj_heap_other (by omega)⟩
  refine ⟨w.heap.size + 1, [{ target := .collected w.heap.size, args := #[] }], W1, { target := .fn (.func gf) lb, args := #[.func (.yield (w.heap.size + 1)) #[] #[]] }, W1, gf, #[.func (.yield (w.heap.size + 1)) #[] #[]] ++ lb, W1, ?_, ?_, fun _ _ => trivial, ?_, fun _ => by omega, ?_⟩
  · rw [← hW1, hrec]
    exact run_enterLoop_outer _ _ _ _ _
  · simp only [resolve, hg]
    simp [go_sem]
  · simp [invoke, go_sem, eg]
  refine (hseq (w.heap.size + 1)
    (fun m pre X => I m pre X ∧ X.heap[w.heap.size + 1]? = some (.loop (rec .ready none)) ∧ X.heap[w.heap.size]? = some (.deferred (some [])))
    (fun pre X => Ix pre X ∧ X.heap[w.heap.size + 1]? = some (.loop (rec .done (some (if isRet then Code.ret else Code.exit id)))) ∧ X.heap[w.heap.size]? = some (.deferred (some [])))
    W1 (hb0.trans (hB1.mono hb0.size))
    (fun m s X Y h hb => ⟨hI m s X Y h.1 (hb.wide (by omega) (by omega)), (hb.same _ (Array.getElem?_eq_some_iff.1 h.2.1).1 (.inl (by omega))).trans h.2.1, (hb.same _ (Array.getElem?_eq_some_iff.1 h.2.2).1 (.inl (by omega))).trans h.2.2⟩)
    (fun s X Y h hb => ⟨hIx s X Y h.1 (hb.wide (by omega) (by omega)), (hb.same _ (Array.getElem?_eq_some_iff.1 h.2.1).1 (.inl (by omega))).trans h.2.1, (hb.same _ (Array.getElem?_eq_some_iff.1 h.2.2).1 (.inl (by omega))).trans h.2.2⟩)
    ?_ ⟨hmono _ _ _ _ (by omega) (hI _ _ _ _ h0 (.ofBelow hB1)), hL1, hK1⟩).mono ?_
  · -- one round
    rintro m pre x X hpre hm1 hm2 ⟨hi, hl, hk⟩ hzX
    have hlt : w.heap.size + 1 < X.heap.size := (Array.getElem?_eq_some_iff.1 hl).1
    have hy := run_yield (P := P) (args := encs x) hl (by rw [hrec]; exact hps x)
    rw [hrec] at hy
    refine ⟨fn, _, assign, body, hy, roundIn_of_wpIn hfn (wpIn_mono (hassign _ m pre x X hpre (by omega) hm2 hi (by omega)) ?_)⟩
    rintro e a' Y hp
    cases e with
    | exit i => exact hp.elim
    | ret => exact hp.elim
    | goto t => exact hp.elim
    | panic ch => exact hp.elim
    | outgrown => exact hp.elim
    | normal =>
    obtain ⟨hkY, hiY, hAY⟩ := hp
    have hlY : Y.heap[w.heap.size + 1]? = some (.loop (rec .ready none)) := (hkY.same (w.heap.size + 1) (Array.getElem?_eq_some_iff.1 hl).1 (.inr (.inl ⟨Nat.le_succ _, by omega⟩))).trans hl
    have hkY' : Y.heap[w.heap.size]? = some (.deferred (some [])) := (hkY.same w.heap.size (Array.getElem?_eq_some_iff.1 hk).1 (.inr (.inl ⟨Nat.le_refl _, by omega⟩))).trans hk
    refine ⟨_, run_beginRound hlY (by rw [hrec]), ?_⟩
    have hlt : w.heap.size + 1 < Y.heap.size := (Array.getElem?_eq_some_iff.1 hlY).1
    have hl := hlY
    have hk := hkY'
    have hi := hiY
    have hA2 : Ax m x a' (Y.putObj (w.heap.size + 1) (.loop { rec .ready none with state := .busy })) := hAx _ _ _ _ _ _ hAY hlY rfl
    obtain ⟨X2, hX2⟩ : ∃ X2, Y.putObj (w.heap.size + 1) (.loop { rec .ready none with state := .busy }) = X2 := ⟨_, rfl⟩
    have hl2 : X2.heap[w.heap.size + 1]? = some (.loop { rec .ready none with state := .busy }) := by rw [← hX2]; exact World.putObj_heap_same hlt
    have hk2 : X2.heap[w.heap.size]? = some (.deferred (some [])) := by rw [← hX2]; exact (World.putObj_heap_other (by omega)).trans hk
    rw [hX2] at hA2
    have hKX : Kr c1 W1.heap.size (W1.heap.size + d) m X X2 := by rw [← hX2]; exact hpk _ _ _ _ (by omega) hkY
    have hm3 : m ≤ X2.heap.size := by have := hKX.size; omega
    have hi2 : I m pre X2 := by rw [← hX2]; exact hI _ _ _ _ hi (hput Y _)
    have hz2 : w.heap.size + 2 + d ≤ X2.heap.size := by have := hKX.size; omega
    have fin : ∀ (jump : Option Code) (Y : World), Kr c1 w.heap.size (w.heap.size + 2 + d) m X2 Y →
        (Instr.endRound (w.heap.size + 1) jump).run P Y = .ok (.bool jump.isNone) (Y.putObj (w.heap.size + 1) (.loop (rec (if jump.isNone then .ready else .done) jump))) ∧
        Y.heap[w.heap.size + 1]? = some (.loop { rec .ready none with state := .busy }) ∧
        (Y.putObj (w.heap.size + 1) (.loop (rec (if jump.isNone then .ready else .done) jump))).heap[w.heap.size + 1]? = some (.loop (rec (if jump.isNone then .ready else .done) jump)) ∧
        (Y.putObj (w.heap.size + 1) (.loop (rec (if jump.isNone then .ready else .done) jump))).heap[w.heap.size]? = some (.deferred (some [])) := fun jump Y hY => by
      have hl3 := (hY.same (w.heap.size + 1) (Array.getElem?_eq_some_iff.1 hl2).1 (.inr (.inl ⟨Nat.le_succ _, by omega⟩))).trans hl2
      have hr := run_endRound (P := P) jump hl3
      rw [hrec] at hr ⊢
      rw [hrec] at hl3
      exact ⟨hr, hl3, World.putObj_heap_same (Array.getElem?_eq_some_iff.1 hl3).1, (World.putObj_heap_other (by omega)).trans ((hY.same w.heap.size (Array.getElem?_eq_some_iff.1 hk2).1 (.inr (.inl ⟨Nat.le_refl _, by omega⟩))).trans hk2)⟩
    rw [hX2]
    refine wpIn_mono (hbody _ m pre x a' X2 hpre (by omega) hm3 hi2 hA2 hz2) ?_
    rintro e a3 Y hp
    cases e with
    | normal =>
      obtain ⟨hk3, hi3⟩ := hp
      obtain ⟨hr, hl3, hl4, hk4⟩ := fin none Y hk3
      exact ⟨_, _, hr, .inl ⟨rfl, ⟨hmono _ _ _ _ (by simp) (hI _ _ _ _ hi3 (hput Y _)), hl4, hk4⟩, hKX.trans (hpk _ _ _ _ (by omega) hk3)⟩⟩
    | exit i =>
      obtain ⟨rfl, rfl, hk3, hi3⟩ := hp
      obtain ⟨hr, hl3, hl4, hk4⟩ := fin (some (.exit i)) Y hk3
      exact ⟨_, _, hr, .inr ⟨rfl, ⟨hIx _ _ _ hi3 (hput Y _), hl4, hk4⟩, hKX.trans (hpk _ _ _ _ (by omega) hk3)⟩⟩
    | ret =>
      obtain ⟨rfl, hk3, hi3⟩ := hp
      obtain ⟨hr, hl3, hl4, hk4⟩ := fin (some .ret) Y hk3
      exact ⟨_, _, hr, .inr ⟨rfl, ⟨hIx _ _ _ hi3 (hput Y _), hl4, hk4⟩, hKX.trans (hpk _ _ _ _ (by omega) hk3)⟩⟩
    | goto t => exact hp.elim
    | panic ch => exact hp.elim
    | outgrown => exact hp.elim
  · -- behind the function
    rintro e X ⟨⟨v, rfl⟩, ⟨hzE, m, hmE, hi, hl, hk⟩ | ⟨pre, hpre, hi, hl, hk⟩⟩
    · have hr := run_endLoop (P := P) hl (by rw [hrec]; simp)
      refine ⟨none, _, by rw [hrec] at hr; exact hr, hdone _ _ rfl (by simp; omega) ⟨m, by simpa using hmE, hI _ _ _ _ hi (hput X _)⟩ ((World.putObj_heap_other (by omega)).trans hk)⟩
    · have hr := run_endLoop (P := P) hl (by rw [hrec]; simp)
      refine ⟨some (if isRet then Code.ret else Code.exit id), _, by rw [hrec] at hr; exact hr, wpIn_wide.2 ?_⟩
      cases isRet with
      | true => exact wp_ret (hstop _ _ _ rfl hpre (hIx _ _ _ hi (hput X _)) ((World.putObj_heap_other (by omega)).trans hk))
      | false => exact wp_exit (hstop _ _ _ rfl hpre (hIx _ _ _ hi (hput X _)) ((World.putObj_heap_other (by omega)).trans hk))
end Go.Proofs.YtbbjifhelbeniaaGreatDoor
