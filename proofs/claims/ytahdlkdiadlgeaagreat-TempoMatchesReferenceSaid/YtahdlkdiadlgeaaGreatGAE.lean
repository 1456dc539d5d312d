import Derived.Test.YtahdlkdiadlgeaaGreatGAB
import Derived.StillTail
/- Regions that draw their order, and end with operations that wait for all others (an assignment that stores): the operations before are walked once, in the text's order, each yielding one value in every world of a class; those at the end are walked behind, in order. It joins two laws of the library (of quiet operations, and of tails). -/
namespace Go.Proofs.YtahdlkdiadlgeaaGreat
open Go.RowKit

section
variable {P : Program} {ops : Array Oper} {md : Region.Mode} {C : World → Prop}

/-- Whatever order is picked among the first n operations, till f of them have come up. -/
def anyTill (P : Program) (md : Region.Mode) (ops : Array Oper) (C : World → Prop) (n : Nat) (L : Array Bool → Act → Prop) : Nat → Array Bool → Act → Prop
  | 0, ls, a => L ls a
  | f + 1, ls, a => Region.ready md ops ls ≠ [] ∧ ∀ i ∈ Region.ready md ops ls, i < n ∧ qOp P ops C i (anyTill P md ops C n L f (ls.setIfInBounds i true)) a

theorem any_of_till {n g : Nat} {L : Array Bool → Act → Prop} {Q : Exit → Act → World → Prop} (hL : ∀ ls a w, C w → L ls a → wpAny P md ops Q g ls a w) :
    ∀ (f : Nat) (ls : Array Bool) (a : Act) (w : World), C w → anyTill P md ops C n L f ls a → wpAny P md ops Q (f + g) ls a w
  | 0, ls, a, w, hw, h => by rw [Nat.zero_add]; exact hL _ _ _ hw h
  | f + 1, ls, a, w, hw, h => by
    rw [show f + 1 + g = (f + g) + 1 by omega]
    exact ⟨fun h0 => absurd h0 h.1, fun i hi => wpOp_of_qOp hw (fun a' w' hw' h' => any_of_till hL f _ a' w' hw' h') (h.2 i hi).2⟩

theorem till_first {n i : Nat} {oi : Oper} {v : Value} {L : Array Bool → Act → Prop} (hi : ops[i]? = some oi) (hsel : ∀ (j : Nat) (o : Oper) cs b, ops[j]? = some o → o.op ≠ .select cs b)
    (hs : Region.sinkB md ops n = true) (hc : Region.chainB md ops n = true) (hn : n < ops.size) (hin : i < n) (hend : ∀ ls a, L ls a → ∀ j ∈ Region.ready md ops ls, n ≤ j)
    (f : Nat) : ∀ (ls : Array Bool) (a : Act), HeadInv md ops n ls →
      (∀ j oj, ops[j]? = some oj → j ≠ i → ls.getD j true = false → (∀ e ∈ oj.after, Region.binds md e = true → e.on ≠ i) → oi.apart ops oj = true) →
      i ∈ Region.ready md ops ls → YieldsIn P ops C oi v a → anyTill P md ops C n L f (ls.setIfInBounds i true) (a.put oi.dst v) → anyTill P md ops C n L (f + 1) ls a := by
  induction f with
  | zero =>
    intro ls a inv _ hr hy H
    have un := (mem_ready.1 hr).1
    refine ⟨fun h => (by rw [h] at hr; cases hr), fun j hj => ?_⟩
    have hjn : j < n := Nat.lt_of_not_le fun h => tail_waits hs hc hn inv _ i rfl hin un j h hj
    refine ⟨hjn, ?_⟩
    by_cases hji : j = i
    · subst hji; exact hy.qOp hi H
    · exact absurd (hend _ _ H j (ready_mono hj hji)) (by omega)
  | succ f ih =>
    intro ls a inv hfree hr hy H
    have un := (mem_ready.1 hr).1
    refine ⟨fun h => (by rw [h] at hr; cases hr), fun j hj => ?_⟩
    have hjn : j < n := Nat.lt_of_not_le fun h => tail_waits hs hc hn inv _ i rfl hin un j h hj
    refine ⟨hjn, ?_⟩
    by_cases hji : j = i
    · subst hji; exact hy.qOp hi H
    · have h1 := (H.2 j (ready_mono hj hji)).2
      obtain ⟨jun, oj, hoj, hall⟩ := mem_ready.1 hj
      have hnot : ∀ e ∈ oj.after, Region.binds md e = true → e.on ≠ i := fun e he hb heq => by
        have h2 := hall e he hb
        rw [heq, getD_both un] at h2
        cases h2
      have h2 := qOp_put hoj (hfree j oj hoj hji jun hnot) (fun cs b => hsel i oi cs b hi) (fun cs b => hsel j oj cs b hoj) hy h1
      refine qOp_mono (fun a' h3 => ih (ls.setIfInBounds j true) a' (inv.set hj hjn) (fun k ok hk hki kun hno => hfree k ok hk hki ?_ hno) (ready_mono hr (Ne.symm hji)) h3.1 ?_) h2
      · by_cases hjk : j = k
        · subst hjk; exact jun
        · rwa [getD_set_ne true hjk] at kun
      · rw [Array.setIfInBounds_comm _ _ hji]
        exact h3.2

theorem till_lex {n g : Nat} {K : Act → Prop} (hsel : Region.noSelect ops = true) (hs : Region.sinkB md ops n = true) (hc : Region.chainB md ops n = true) (hn : n < ops.size) :
    ∀ (l : List Oper) (k : Nat) (ls : Array Bool) (a : Act), (∀ j, j < l.length → l[j]? = ops[k + j]?) → k + l.length = n → HeadInv md ops n ls →
    Region.lexHead md ops g l.length k ls = true → wpQuiet P ops C K l a → anyTill P md ops C n (fun ls' a' => Region.seqB md ops g n ls' = true ∧ K a') l.length ls a
  | [], k, ls, a, _, hk, _, hB, h => by
    obtain rfl : k = n := by simpa using hk
    exact ⟨by simpa [Region.lexHead] using hB, h⟩
  | o :: l, k, ls, a, hl, hk, inv, hB, h => by
    have h0 : ops[k]? = some o := by simpa using (hl 0 (by simp)).symm
    simp only [List.length_cons] at hk
    simp only [List.length_cons, Region.lexHead, Bool.and_eq_true] at hB
    obtain ⟨⟨hr, hf⟩, hB'⟩ := hB
    have hr' : k ∈ Region.ready md ops ls := by simpa using hr
    obtain ⟨v, hy, hK⟩ := yieldsIn_of_qOp h0 (show qOp P ops C k (wpQuiet P ops C K l) a by unfold qOp; simp only [h0]; exact h)
    exact till_first h0 (Region.noSelect_spec hsel) hs hc hn (by omega) (fun ls' a' hL => seqB_ready hL.1) l.length ls a inv (Region.free_spec h0 hf) hr' hy
      (till_lex hsel hs hc hn l (k + 1) _ _ (fun j hj => by have := hl (j + 1) (by simp; omega); simpa [Nat.add_assoc, Nat.add_comm 1 j] using this) (by omega) (inv.set hr' (by omega)) hB' hK)

theorem region_tail {id : Nat} {Q : Exit → Act → World → Prop} {a : Act} {w : World} {l : List Oper} (n : Nat) (hm : P.follows .mixedOrders = true) (hB : Region.lexTailB .any l.toArray n = true) (hC : C w.drew)
    (h : wpQuiet P l.toArray C (fun a' => ∀ w', C w' → wpList P l.toArray Q (l.drop n) a' w') (l.take n) a) : (Code.region id l.toArray true).wp P Q a w := by
  simp only [Region.lexTailB, Bool.and_eq_true, decide_eq_true_eq] at hB
  obtain ⟨⟨⟨⟨hsel, hn⟩, hs⟩, hc⟩, hlex⟩ := hB
  have hn' : n < l.length := by simpa using hn
  have htl : (l.take n).length = n := by simp; omega
  have hdl : (l.drop n).length = l.toArray.size - n := by simp
  have inv0 : HeadInv .any l.toArray n (Array.replicate l.toArray.size false) :=
    ⟨by simp, fun j oj _ hl => (by rw [getD_replicate_false] at hl; cases hl), fun t _ ht => getD_in (by simpa using ht) (getD_replicate_false _ _)⟩
  have H := till_lex (md := .any) (g := l.toArray.size - n) hsel hs hc hn (l.take n) 0 _ a (fun j hj => by
    have hj' : j < n := by rw [htl] at hj; exact hj
    simp [hj']) (by simpa using htl) inv0 (by rw [htl]; exact hlex) h
  refine wp_region_any hm ?_
  have := any_of_till (Q := Q) (g := l.toArray.size - n) (fun ls a' w' hw' hL => by
    have := wpAny_of_seq (md := .any) (Q' := Q) (l.drop n) n ls a' w' (fun j => by simp [List.getElem?_drop]) (by rw [hdl]; exact hL.1) (hL.2 w' hw')
    rwa [hdl] at this) _ _ _ _ hC H
  rw [htl, show n + (l.toArray.size - n) = l.toArray.size by omega] at this
  exact this
end

/-- At the class 'all that has grown out of W': the calls make memory, and what stands at the end stores. -/
theorem Ext.tail {W : World} {P : Program} {id : Nat} {l : List Oper} {Q : Exit → Act → World → Prop} {a : Act} (n : Nat) (hm : P.follows .mixedOrders = true) (hB : Region.lexTailB .any l.toArray n = true)
    (h : wpQuiet P l.toArray (fun w' => ∃ x : Ext W, w' = x.w) (fun a' => ∀ w', (∃ x : Ext W, w' = x.w) → wpList P l.toArray Q (l.drop n) a' w') (l.take n) a) : (Code.region id l.toArray true).wp P Q a W :=
  region_tail (C := fun w' => ∃ x : Ext W, w' = x.w) n hm hB ⟨⟨W.drew, (Below.refl _ _).drew⟩, rfl⟩ h
end Go.Proofs.YtahdlkdiadlgeaaGreat

/- The walks of limit's Between, IsID. -/
namespace Go.Proofs.YtahdlkdiadlgeaaGreat
open Go.RowKit

set_option maxHeartbeats 400000 in
theorem tbetween_is (n lo hi : Int) (f : Bool) (h : decide (lo ≤ n ∧ n ≤ hi) = f) (w : World) :
    Calls Tryz.prog 16 #[.int .i64 n, .int .i64 lo, .int .i64 hi] w fun e w' => e = .returned (.bool f) ∧ Below w.heap.size w w' := by
  by_cases h1 : n ≥ lo
  · by_cases h2 : n ≤ hi
    · obtain rfl : f = true := by rw [← h]; exact decide_eq_true ⟨h1, h2⟩
      clear h
      go_enter Tryz.func16, Tryz.ntmps16
      go_wp2_with fail
      go_ret
      exact ⟨rfl, Below.refl _ _⟩
    · obtain rfl : f = false := by rw [← h]; exact decide_eq_false (fun e => h2 e.2)
      clear h
      go_enter Tryz.func16, Tryz.ntmps16
      go_wp2_with fail
      go_ret
      exact ⟨rfl, Below.refl _ _⟩
  · obtain rfl : f = false := by rw [← h]; exact decide_eq_false (fun e => h1 e.1)
    clear h
    go_enter Tryz.func16, Tryz.ntmps16
    go_wp2_with fail
    go_ret
    exact ⟨rfl, Below.refl _ _⟩

set_option maxHeartbeats 400000 in
theorem tisid_is (n : Int) (f : Bool) (h : decide (1 ≤ n ∧ n ≤ 1000000) = f) (w : World) :
    Calls Tryz.prog 53 #[.int .i64 n] w fun e w' => e = .returned (.bool f) ∧ Below w.heap.size w w' := by
  have H := Lib.hid h
  clear h
  go_enter Tryz.func53, Tryz.ntmps53
  go_wp2_with fail
  refine (tbetween_is n 1 1000000 f H.out _).mono ?_; rintro e w1 ⟨rfl, hb⟩
  go_wp2_with fail
  go_ret
  exact ⟨rfl, hb⟩

end Go.Proofs.YtahdlkdiadlgeaaGreat

/- A region that draws its order, among whose operations ONE call writes memory, and which ends with operations that wait for all others ('m[k] = f(x)', f a closure that stores): whatever order is picked, the operations beside the call yield the same before and behind it; so one walk in the text's order serves all orders. -/
namespace Go.Proofs.YtahdlkdiadlgeaaGreat
open Go.RowKit

/-- Operations that hand back a value, or go wrong: they enter no function. -/
def plainOp (o : Oper) : Bool :=
  match o.op with
  | .move _ | .assign _ | .load _ _ | .binOp .. | .unOp .. | .fieldAddr .. | .indexAddr .. | .index .. | .build .. | .extract .. | .field .. => true
  | _ => false

theorem plain_value {P : Program} {s : Sem Value} {w w' : World} {n : Next} (h : (do pure (Next.value (← s)) : Sem Next).run P w = .ok n w') : ∃ u, n = .value u := by
  rw [Sem.run_bind] at h
  cases hs : s.run P w with
  | ok u w1 =>
    rw [hs] at h
    simp only [Result.andThen] at h
    cases h
    exact ⟨u, rfl⟩
  | halt x w1 => rw [hs] at h; simp only [Result.andThen] at h; cases h

theorem plain_next {P : Program} {o : Oper} (h : plainOp o = true) {ρ : Operand → Value} {w w' : World} {n : Next} (hr : (execOp ρ o).run P w = .ok n w') : ∃ u, n = .value u := by
  unfold plainOp at h
  unfold execOp at hr
  generalize o.op = op at h hr
  cases op
  all_goals first
    | (exact (Bool.false_ne_true h).elim)
    | (exact plain_value hr)
    | (cases hr; exact ⟨_, rfl⟩)

/-- A world of the one class or of the other. -/
structure PhW (Cb : Bool → World → Prop) where
  b : Bool
  w : World
  h : Cb b w
/-- Before the call nothing has happened but the draw; behind it POST holds. -/
def oneC (W : World) (POST : World → Prop) : Bool → World → Prop
  | false, w => w = W.drew
  | true, w => POST w
theorem PhW.there (W : World) (POST : World → Prop) : Nonempty (PhW (oneC W POST)) := ⟨⟨false, W.drew, rfl⟩⟩
theorem PhW.fact {W : World} {POST : World → Prop} {p : World → Prop} (h0 : p W.drew) (h1 : ∀ w, POST w → p w) (x : PhW (oneC W POST)) : p x.w := by
  obtain ⟨b, w, h⟩ := x
  cases b with
  | false => cases h; exact h0
  | true => exact h1 w h

section
variable {P : Program} {ops : Array Oper} {md : Region.Mode} {Cb : Bool → World → Prop} {c : Nat}

/-- Operation k yields this value: beside the call in each of the two classes of worlds, which it keeps; the call leads from the first class to the second. -/
def yld (P : Program) (ops : Array Oper) (Cb : Bool → World → Prop) (c k : Nat) (o : Oper) (v : Value) (a : Act) : Prop :=
  (Region.wanted o (yielded ops a.tmps) = true ∧
    ((k ≠ c ∧ ∀ b w, Cb b w → ∃ u, (execOp a.eval o).run P w = .ok (.value u) w ∧ u = v) ∨
     (k = c ∧ ∀ w, Cb false w → ∃ f args, (execOp a.eval o).run P w = .ok (.enter f args) w ∧ Calls P f args w fun e w'' => e = .returned v ∧ Cb true w''))) ∨
  (Region.wanted o (yielded ops a.tmps) = false ∧ v = undef ∧ k ≠ c)

theorem yld.same {k : Nat} {o : Oper} {v : Value} {a a' : Act} (h : yld P ops Cb c k o v a) (he : execOp a'.eval o = execOp a.eval o)
    (hw : Region.wanted o (yielded ops a'.tmps) = Region.wanted o (yielded ops a.tmps)) : yld P ops Cb c k o v a' := by
  unfold yld at *
  rw [he, hw]
  exact h

def anyPh (P : Program) (md : Region.Mode) (ops : Array Oper) (Cb : Bool → World → Prop) (c n : Nat) (L : Array Bool → Act → Prop) : Nat → Array Bool → Act → Prop
  | 0, ls, a => L ls a
  | f + 1, ls, a => Region.ready md ops ls ≠ [] ∧ ∀ i ∈ Region.ready md ops ls, i < n ∧ ∃ o v, ops[i]? = some o ∧ yld P ops Cb c i o v a ∧ anyPh P md ops Cb c n L f (ls.setIfInBounds i true) (a.put o.dst v)

theorem wpOp_of_yld {i : Nat} {o : Oper} {v : Value} {a : Act} {K : Act → World → Prop} {Q : Exit → Act → World → Prop} {b : Bool} {w : World} (ho : ops[i]? = some o) (hy : yld P ops Cb c i o v a) (hw : Cb b w) (hb : i = c → b = false)
    (h : ∀ w', Cb (b || i == c) w' → K (a.put o.dst v) w') : wpOp P ops Q i K a w := by
  unfold wpOp
  simp only [ho]
  rcases hy with ⟨hwt, hy⟩ | ⟨hwt, rfl, hne⟩
  · simp only [hwt, if_true]
    refine .inl ?_
    unfold Oper.wp
    rcases hy with ⟨hne, hy⟩ | ⟨rfl, hy⟩
    · obtain ⟨u, hr, rfl⟩ := hy b w hw
      rw [hr]
      simp only [Oper.upon]
      exact h _ (by rw [show (i == c) = false by simpa using hne, Bool.or_false]; exact hw)
    · obtain rfl := hb rfl
      obtain ⟨f, args, hr, hc⟩ := hy w hw
      rw [hr]
      simp only [Oper.upon]
      exact hc.mono fun e w'' ⟨he, hw''⟩ => by subst he; exact h _ (by simpa using hw'')
  · simp only [hwt, Bool.false_eq_true, if_false]
    exact h _ (by rw [show (i == c) = false by simpa using hne, Bool.or_false]; exact hw)

theorem any_of_ph {n g : Nat} {L : Array Bool → Act → Prop} {Q : Exit → Act → World → Prop} (hL : ∀ ls a w, Cb (ls.getD c false) w → L ls a → wpAny P md ops Q g ls a w) :
    ∀ (f : Nat) (ls : Array Bool) (a : Act) (w : World), Cb (ls.getD c false) w → anyPh P md ops Cb c n L f ls a → wpAny P md ops Q (f + g) ls a w
  | 0, ls, a, w, hw, h => by rw [Nat.zero_add]; exact hL _ _ _ hw h
  | f + 1, ls, a, w, hw, h => by
    rw [show f + 1 + g = (f + g) + 1 by omega]
    refine ⟨fun h0 => absurd h0 h.1, fun i hi => ?_⟩
    obtain ⟨_, o, v, ho, hy, hn⟩ := h.2 i hi
    have un := (mem_ready.1 hi).1
    refine wpOp_of_yld ho hy hw (fun e => by subst e; exact getD_both un) fun w' hw' => any_of_ph hL f _ _ w' ?_ hn
    by_cases e : i = c
    · subst e
      have his : i < ls.size := by
        rcases Nat.lt_or_ge i ls.size with h' | h'
        · exact h'
        · simp [Array.getElem?_eq_none h'] at un
      have : (ls.setIfInBounds i true).getD i false = true := by simp [his]
      rw [this]
      simpa using hw'
    · rw [getD_set_ne false e]
      rwa [show (i == c) = false by simpa using e, Bool.or_false] at hw'

theorem yld_put {j i : Nat} {oi oj : Oper} {v u : Value} (hap : oi.apart ops oj = true)
    (hsi : ∀ cs b, oi.op ≠ .select cs b) (hsj : ∀ cs b, oj.op ≠ .select cs b) {a : Act}
    (hy : yld P ops Cb c i oi v a) (h : yld P ops Cb c j oj u (a.put oi.dst v)) : yld P ops Cb c j oj u a ∧ yld P ops Cb c i oi v (a.put oj.dst u) ∧ (a.put oi.dst v).put oj.dst u = (a.put oj.dst u).put oi.dst v := by
  obtain ⟨h1, h2, h3⟩ := Oper.apart_spec hap
  refine ⟨h.same (execOp_put oj hsj a oi.dst v h1).symm (wanted_put oj a oi.dst v h1).symm, hy.same (execOp_put oi hsi a oj.dst u h3) (wanted_put oi a oj.dst u h3), ?_⟩
  exact Act.put_comm a v u h2

theorem ph_first {n i : Nat} {oi : Oper} {v : Value} {L : Array Bool → Act → Prop} (hi : ops[i]? = some oi) (hsel : ∀ (j : Nat) (o : Oper) cs b, ops[j]? = some o → o.op ≠ .select cs b)
    (hs : Region.sinkB md ops n = true) (hc : Region.chainB md ops n = true) (hn : n < ops.size) (hin : i < n) (hend : ∀ ls a, L ls a → ∀ j ∈ Region.ready md ops ls, n ≤ j)
    (f : Nat) : ∀ (ls : Array Bool) (a : Act), HeadInv md ops n ls →
      (∀ j oj, ops[j]? = some oj → j ≠ i → ls.getD j true = false → (∀ e ∈ oj.after, Region.binds md e = true → e.on ≠ i) → oi.apart ops oj = true) →
      i ∈ Region.ready md ops ls → yld P ops Cb c i oi v a → anyPh P md ops Cb c n L f (ls.setIfInBounds i true) (a.put oi.dst v) → anyPh P md ops Cb c n L (f + 1) ls a := by
  induction f with
  | zero =>
    intro ls a inv _ hr hy H
    have un := (mem_ready.1 hr).1
    refine ⟨fun h => (by rw [h] at hr; cases hr), fun j hj => ?_⟩
    have hjn : j < n := Nat.lt_of_not_le fun h => tail_waits hs hc hn inv _ i rfl hin un j h hj
    refine ⟨hjn, ?_⟩
    by_cases hji : j = i
    · subst hji; exact ⟨_, _, hi, hy, H⟩
    · exact absurd (hend _ _ H j (ready_mono hj hji)) (by omega)
  | succ f ih =>
    intro ls a inv hfree hr hy H
    have un := (mem_ready.1 hr).1
    refine ⟨fun h => (by rw [h] at hr; cases hr), fun j hj => ?_⟩
    have hjn : j < n := Nat.lt_of_not_le fun h => tail_waits hs hc hn inv _ i rfl hin un j h hj
    refine ⟨hjn, ?_⟩
    by_cases hji : j = i
    · subst hji; exact ⟨_, _, hi, hy, H⟩
    · obtain ⟨_, oj, u, hoj, hyj, H'⟩ := H.2 j (ready_mono hj hji)
      obtain ⟨jun, oj', hoj', hall⟩ := mem_ready.1 hj
      obtain rfl : oj' = oj := Option.some.inj (hoj'.symm.trans hoj)
      have hnot : ∀ e ∈ oj'.after, Region.binds md e = true → e.on ≠ i := fun e he hb heq => by
        have h2 := hall e he hb
        rw [heq, getD_both un] at h2
        cases h2
      obtain ⟨k1, k2, k3⟩ := yld_put (hfree j oj' hoj hji jun hnot) (fun cs b => hsel i oi cs b hi) (fun cs b => hsel j oj' cs b hoj) hy hyj
      refine ⟨oj', u, hoj, k1, ih (ls.setIfInBounds j true) _ (inv.set hj hjn) (fun k ok hk hki kun hno => hfree k ok hk hki ?_ hno) (ready_mono hr (Ne.symm hji)) k2 ?_⟩
      · by_cases hjk : j = k
        · subst hjk; exact jun
        · rwa [getD_set_ne true hjk] at kun
      · rw [Array.setIfInBounds_comm _ _ hji, ← k3]
        exact H'

/-- The walk in the text's order. -/
def walkPh (P : Program) (ops : Array Oper) (Cb : Bool → World → Prop) (c : Nat) (K : Act → Prop) : Nat → List Oper → Act → Prop
  | _, [], a => K a
  | k, o :: l, a => ∃ v, yld P ops Cb c k o v a ∧ walkPh P ops Cb c K (k + 1) l (a.put o.dst v)

theorem ph_lex {n g : Nat} {K : Act → Prop} (hsel : Region.noSelect ops = true) (hs : Region.sinkB md ops n = true) (hc : Region.chainB md ops n = true) (hn : n < ops.size) :
    ∀ (l : List Oper) (k : Nat) (ls : Array Bool) (a : Act), (∀ j, j < l.length → l[j]? = ops[k + j]?) → k + l.length = n → HeadInv md ops n ls → (∀ j, j < k → ls.getD j false = true) →
    Region.lexHead md ops g l.length k ls = true → walkPh P ops Cb c K k l a → anyPh P md ops Cb c n (fun ls' a' => (Region.seqB md ops g n ls' = true ∧ ∀ j, j < n → ls'.getD j false = true) ∧ K a') l.length ls a
  | [], k, ls, a, _, hk, _, hall, hB, h => by
    obtain rfl : k = n := by simpa using hk
    exact ⟨⟨by simpa [Region.lexHead] using hB, hall⟩, h⟩
  | o :: l, k, ls, a, hl, hk, inv, hall, hB, h => by
    have h0 : ops[k]? = some o := by simpa using (hl 0 (by simp)).symm
    simp only [List.length_cons] at hk
    simp only [List.length_cons, Region.lexHead, Bool.and_eq_true] at hB
    obtain ⟨⟨hr, hf⟩, hB'⟩ := hB
    have hr' : k ∈ Region.ready md ops ls := by simpa using hr
    obtain ⟨v, hy, hK⟩ := h
    refine ph_first h0 (Region.noSelect_spec hsel) hs hc hn (by omega) (fun ls' a' hL => seqB_ready hL.1.1) l.length ls a inv (Region.free_spec h0 hf) hr' hy
      (ph_lex hsel hs hc hn l (k + 1) _ _ (fun j hj => by have := hl (j + 1) (by simp; omega); simpa [Nat.add_assoc, Nat.add_comm 1 j] using this) (by omega) (inv.set hr' (by omega)) (fun j hj => ?_) hB' hK)
    by_cases e : k = j
    · subst e
      have : k < ls.size := by rw [inv.size]; omega
      simp [this]
    · rw [getD_set_ne false e]; exact hall j (by omega)

theorem region_ph {id : Nat} {Q : Exit → Act → World → Prop} {a : Act} {w : World} {l : List Oper} (n : Nat) (hcn : c < n) (hm : P.follows .mixedOrders = true) (hB : Region.lexTailB .any l.toArray n = true) (hC : Cb false w.drew)
    (h : walkPh P l.toArray Cb c (fun a' => ∀ w', Cb true w' → wpList P l.toArray Q (l.drop n) a' w') 0 (l.take n) a) : (Code.region id l.toArray true).wp P Q a w := by
  simp only [Region.lexTailB, Bool.and_eq_true, decide_eq_true_eq] at hB
  obtain ⟨⟨⟨⟨hsel, hn⟩, hs⟩, hc⟩, hlex⟩ := hB
  have hn' : n < l.length := by simpa using hn
  have htl : (l.take n).length = n := by simp; omega
  have hdl : (l.drop n).length = l.toArray.size - n := by simp
  have inv0 : HeadInv .any l.toArray n (Array.replicate l.toArray.size false) :=
    ⟨by simp, fun j oj _ hl => (by rw [getD_replicate_false] at hl; cases hl), fun t _ ht => getD_in (by simpa using ht) (getD_replicate_false _ _)⟩
  have H := ph_lex (md := .any) (g := l.toArray.size - n) hsel hs hc hn (l.take n) 0 _ a (fun j hj => by
    have hj' : j < n := by rw [htl] at hj; exact hj
    simp [hj']) (by simpa using htl) inv0 (fun j hj => by omega) (by rw [htl]; exact hlex) h
  refine wp_region_any hm ?_
  have := any_of_ph (Q := Q) (g := l.toArray.size - n) (fun ls a' w' hw' hL => by
    rw [hL.1.2 c hcn] at hw'
    have := wpAny_of_seq (md := .any) (Q' := Q) (l.drop n) n ls a' w' (fun j => by simp [List.getElem?_drop]) (by rw [hdl]; exact hL.1.1) (hL.2 w' hw')
    rwa [hdl] at this) _ _ _ _ (by rw [getD_replicate_false]; exact hC) H
  rw [htl, show n + (l.toArray.size - n) = l.toArray.size by omega] at this
  exact this

/-- An operation beside the call: by a quiet walk's one step, over both classes at once. -/
theorem yld_quiet {k : Nat} {o : Oper} {a : Act} {K : Act → Prop} (hk : k ≠ c) (hp : plainOp o = true) (hwt : Region.wanted o (yielded ops a.tmps) = true) (h : o.quiet P a (fun w' => ∃ x : PhW Cb, w' = x.w) K) : ∃ v, yld P ops Cb c k o v a ∧ K (a.put o.dst v) := by
  obtain ⟨v, h1, h2⟩ := h
  refine ⟨v, .inl ⟨hwt, .inl ⟨hk, fun b w hw => ?_⟩⟩, h2⟩
  have h3 := h1 w ⟨⟨b, w, hw⟩, rfl⟩
  unfold Oper.quietAt at h3
  cases hr : (execOp a.eval o).run P w with
  | ok n w' =>
    obtain ⟨u, rfl⟩ := plain_next hp hr
    rw [hr] at h3
    simp only [Oper.quietUpon] at h3
    obtain ⟨rfl, rfl⟩ := h3
    exact ⟨_, rfl, rfl⟩
  | halt x w' => rw [hr] at h3; simp only [Oper.quietUpon] at h3

theorem walk_quiet {k : Nat} {o : Oper} {l : List Oper} {a : Act} {K : Act → Prop} (hk : k ≠ c) (hp : plainOp o = true) (hwt : Region.wanted o (yielded ops a.tmps) = true)
    (h : ∀ K' : Act → Prop, (∀ a', walkPh P ops Cb c K (k + 1) l a' → K' a') → o.quiet P a (fun w' => ∃ x : PhW Cb, w' = x.w) K') : walkPh P ops Cb c K k (o :: l) a :=
  yld_quiet hk hp hwt (h _ fun _ h => h)
theorem walkPh_enter {o : Oper} {l : List Oper} {a : Act} {K : Act → Prop} {f : FuncId} {args : Array Value} (v : Value) (hwt : Region.wanted o (yielded ops a.tmps) = true)
    (hr : ∀ w, Cb false w → (execOp a.eval o).run P w = .ok (.enter f args) w) (hc : ∀ w, Cb false w → Calls P f args w fun e w'' => e = .returned v ∧ Cb true w'')
    (h : walkPh P ops Cb c K (c + 1) l (a.put o.dst v)) : walkPh P ops Cb c K c (o :: l) a :=
  ⟨v, .inl ⟨hwt, .inr ⟨rfl, fun w hw => ⟨f, args, hr w hw, hc w hw⟩⟩⟩, h⟩
end
theorem oneK {P : Program} {W : World} {POST : World → Prop} {id : Nat} {Q : Exit → Act → World → Prop} {a : Act} {l : List Oper} {c : Nat} (n : Nat) (hcn : c < n) (hm : P.follows .mixedOrders = true) (hB : Region.lexTailB .any l.toArray n = true)
    (h : walkPh P l.toArray (oneC W POST) c (fun a' => ∀ w', POST w' → wpList P l.toArray Q (l.drop n) a' w') 0 (l.take n) a) : (Code.region id l.toArray true).wp P Q a W :=
  region_ph (Cb := oneC W POST) n hcn hm hB rfl h
theorem genV {P : Program} {c : Code} {Q : Exit → Act → World → Prop} {a : Act} {W : World} (R : World → Prop) (hR : R W) (h : ∀ we, R we → c.wp P Q a we) : c.wp P Q a W := h W hR
end Go.Proofs.YtahdlkdiadlgeaaGreat

/- A region that draws its order and holds several calls, one after the other, and operations that make memory among them (a slice that is built, an append): whatever order is picked for the operations beside them, one walk in the text's order serves all, their answers being letters. -/
namespace Go.Proofs.YtahdlkdiadlgeaaGreat
open Go.RowKit

theorem Calls.some {P : Program} {f : FuncId} {args : Array Value} {w : World} {R : Ending → World → Prop} (h : Calls P f args w R) : ∃ e w', R e w' :=
  let ⟨e, w', _, r, _⟩ := h []
  ⟨e, w', r⟩

section
variable {P : Program} {V : FuncId → Array Value → Value} {ops : Array Oper} {md : Region.Mode} {Cv : List Value → World → Prop} {cs : List Nat}

/-- An operation beside those yields this value, in every world of every class; or it calls a function that does (V says which value), and keeps the class. -/
def yldP (P : Program) (V : FuncId → Array Value → Value) (ops : Array Oper) (Cv : List Value → World → Prop) (o : Oper) (v : Value) (a : Act) : Prop :=
  (Region.wanted o (yielded ops a.tmps) = true ∧ ∀ vs w, Cv vs w → (∃ u, (execOp a.eval o).run P w = .ok (.value u) w ∧ u = v) ∨ ∃ f args, (execOp a.eval o).run P w = .ok (.enter f args) w ∧ V f args = v ∧ Calls P f args w fun e w'' => e = .returned v ∧ Cv vs w'') ∨
  (Region.wanted o (yielded ops a.tmps) = false ∧ v = undef)
/-- The next call: from its class into the next one. -/
def yldC (P : Program) (ops : Array Oper) (Cv : List Value → World → Prop) (vs : List Value) (o : Oper) (a : Act) : Prop :=
  Region.wanted o (yielded ops a.tmps) = true ∧ ∀ w, Cv vs w → (∃ f args, (execOp a.eval o).run P w = .ok (.enter f args) w ∧ Calls P f args w fun e w'' => ∃ v, e = .returned v ∧ Cv (vs ++ [v]) w'') ∨ ∃ v w'', ((execOp a.eval o).run P w = .ok (.value v) w'' ∨ ((execOp a.eval o).run P w = .ok .skip w'' ∧ v = undef)) ∧ Cv (vs ++ [v]) w''

theorem yldP.same {o : Oper} {v : Value} {a a' : Act} (h : yldP P V ops Cv o v a) (he : execOp a'.eval o = execOp a.eval o)
    (hw : Region.wanted o (yielded ops a'.tmps) = Region.wanted o (yielded ops a.tmps)) : yldP P V ops Cv o v a' := by
  unfold yldP at *
  rw [he, hw]
  exact h
theorem yldC.same {vs : List Value} {o : Oper} {a a' : Act} (h : yldC P ops Cv vs o a) (he : execOp a'.eval o = execOp a.eval o)
    (hw : Region.wanted o (yielded ops a'.tmps) = Region.wanted o (yielded ops a.tmps)) : yldC P ops Cv vs o a' := by
  unfold yldC at *
  rw [he, hw]
  exact h
theorem yldP.one {o : Oper} {u v : Value} {a : Act} (h1 : yldP P V ops Cv o u a) (h2 : yldP P V ops Cv o v a) (hin : ∃ vs w, Cv vs w) : u = v := by
  obtain ⟨vs, w, hw⟩ := hin
  rcases h1 with ⟨a1, b1⟩ | ⟨a1, rfl⟩
  · rcases h2 with ⟨a2, b2⟩ | ⟨a2, rfl⟩
    · rcases b1 vs w hw with ⟨x, e1, rfl⟩ | ⟨f, args, e1, v1, _⟩ <;> rcases b2 vs w hw with ⟨y, e2, rfl⟩ | ⟨g, brgs, e2, v2, _⟩ <;> rw [e1] at e2 <;> cases e2
      · rfl
      · exact v1.symm.trans v2
    · rw [a1] at a2; cases a2
  · rcases h2 with ⟨a2, b2⟩ | ⟨a2, rfl⟩
    · rw [a1] at a2; cases a2
    · rfl
theorem yldC.next {vs : List Value} {o : Oper} {a : Act} (h : yldC P ops Cv vs o a) (hin : ∃ w, Cv vs w) : ∃ v w, Cv (vs ++ [v]) w := by
  obtain ⟨w, hw⟩ := hin
  rcases h.2 w hw with ⟨f, args, _, hc⟩ | ⟨v, w', _, h2⟩
  · obtain ⟨e, w', v, _, h2⟩ := Calls.some hc
    exact ⟨v, w', h2⟩
  · exact ⟨v, w', h2⟩

def anyPv (P : Program) (V : FuncId → Array Value → Value) (md : Region.Mode) (ops : Array Oper) (Cv : List Value → World → Prop) (cs : List Nat) (n : Nat) (L : List Value → Array Bool → Act → Prop) : Nat → List Value → Array Bool → Act → Prop
  | 0, vs, ls, a => L vs ls a
  | f + 1, vs, ls, a => Region.ready md ops ls ≠ [] ∧ ∀ i ∈ Region.ready md ops ls, i < n ∧ ∃ o, ops[i]? = some o ∧
      ((i ∉ cs ∧ ∃ v, yldP P V ops Cv o v a ∧ anyPv P V md ops Cv cs n L f vs (ls.setIfInBounds i true) (a.put o.dst v)) ∨
       (cs[vs.length]? = some i ∧ yldC P ops Cv vs o a ∧ ∀ v, (∃ w, Cv (vs ++ [v]) w) → anyPv P V md ops Cv cs n L f (vs ++ [v]) (ls.setIfInBounds i true) (a.put o.dst v)))

theorem any_of_pv {n g : Nat} {L : List Value → Array Bool → Act → Prop} {Q : Exit → Act → World → Prop} (hL : ∀ vs ls a w, Cv vs w → L vs ls a → wpAny P md ops Q g ls a w) :
    ∀ (f : Nat) (vs : List Value) (ls : Array Bool) (a : Act) (w : World), Cv vs w → anyPv P V md ops Cv cs n L f vs ls a → wpAny P md ops Q (f + g) ls a w
  | 0, vs, ls, a, w, hw, h => by rw [Nat.zero_add]; exact hL _ _ _ _ hw h
  | f + 1, vs, ls, a, w, hw, h => by
    rw [show f + 1 + g = (f + g) + 1 by omega]
    refine ⟨fun h0 => absurd h0 h.1, fun i hi => ?_⟩
    obtain ⟨_, o, ho, hcase⟩ := h.2 i hi
    unfold wpOp
    simp only [ho]
    rcases hcase with ⟨_, v, hy, hn⟩ | ⟨_, hy, hn⟩
    · rcases hy with ⟨hwt, hy⟩ | ⟨hwt, rfl⟩
      · simp only [hwt, if_true]
        refine .inl ?_
        unfold Oper.wp
        rcases hy vs w hw with ⟨u, hr, rfl⟩ | ⟨g', args, hr, _, hcl⟩
        · rw [hr]
          simp only [Oper.upon]
          exact any_of_pv hL f vs _ _ _ hw hn
        · rw [hr]
          simp only [Oper.upon]
          exact hcl.mono fun e w'' ⟨he, hw''⟩ => by subst he; exact any_of_pv hL f vs _ _ _ hw'' hn
      · simp only [hwt, Bool.false_eq_true, if_false]
        exact any_of_pv hL f vs _ _ _ hw hn
    · obtain ⟨hwt, hy⟩ := hy
      simp only [hwt, if_true]
      refine .inl ?_
      unfold Oper.wp
      rcases hy w hw with ⟨g', args, hr, hc⟩ | ⟨v, w'', hr, hw''⟩
      · rw [hr]
        simp only [Oper.upon]
        exact hc.mono fun e w'' ⟨v, he, hw''⟩ => by subst he; exact any_of_pv hL f _ _ _ _ hw'' (hn v ⟨w'', hw''⟩)
      · rcases hr with hr | ⟨hr, rfl⟩
        · rw [hr]
          simp only [Oper.upon]
          exact any_of_pv hL f _ _ _ _ hw'' (hn v ⟨w'', hw''⟩)
        · rw [hr]
          simp only [Oper.upon]
          exact any_of_pv hL f _ _ _ _ hw'' (hn _ ⟨w'', hw''⟩)

theorem set_comm {α : Type} (ls : Array α) {i j : Nat} (h : j ≠ i) (x y : α) : (ls.setIfInBounds j x).setIfInBounds i y = (ls.setIfInBounds i y).setIfInBounds j x := Array.setIfInBounds_comm _ _ h

/-- An operation beside the calls may be taken first. -/
theorem pv_plain {n i : Nat} {oi : Oper} {v : Value} {L : List Value → Array Bool → Act → Prop} (hi : ops[i]? = some oi) (hic : i ∉ cs) (hsel : ∀ (j : Nat) (o : Oper) cs b, ops[j]? = some o → o.op ≠ .select cs b)
    (hs : Region.sinkB md ops n = true) (hc : Region.chainB md ops n = true) (hn : n < ops.size) (hin : i < n) (hend : ∀ vs ls a, L vs ls a → ∀ j ∈ Region.ready md ops ls, n ≤ j)
    (f : Nat) : ∀ (vs : List Value) (ls : Array Bool) (a : Act), HeadInv md ops n ls →
      (∀ j oj, ops[j]? = some oj → j ≠ i → ls.getD j true = false → (∀ e ∈ oj.after, Region.binds md e = true → e.on ≠ i) → oi.apart ops oj = true) →
      i ∈ Region.ready md ops ls → yldP P V ops Cv oi v a → anyPv P V md ops Cv cs n L f vs (ls.setIfInBounds i true) (a.put oi.dst v) → anyPv P V md ops Cv cs n L (f + 1) vs ls a := by
  induction f with
  | zero =>
    intro vs ls a inv _ hr hy H
    have un := (mem_ready.1 hr).1
    refine ⟨fun h => (by rw [h] at hr; cases hr), fun j hj => ?_⟩
    have hjn : j < n := Nat.lt_of_not_le fun h => tail_waits hs hc hn inv _ i rfl hin un j h hj
    refine ⟨hjn, ?_⟩
    by_cases hji : j = i
    · subst hji; exact ⟨_, hi, .inl ⟨hic, _, hy, H⟩⟩
    · exact absurd (hend _ _ _ H j (ready_mono hj hji)) (by omega)
  | succ f ih =>
    intro vs ls a inv hfree hr hy H
    have un := (mem_ready.1 hr).1
    refine ⟨fun h => (by rw [h] at hr; cases hr), fun j hj => ?_⟩
    have hjn : j < n := Nat.lt_of_not_le fun h => tail_waits hs hc hn inv _ i rfl hin un j h hj
    refine ⟨hjn, ?_⟩
    by_cases hji : j = i
    · subst hji; exact ⟨_, hi, .inl ⟨hic, _, hy, H⟩⟩
    · obtain ⟨_, oj, hoj, hcase⟩ := H.2 j (ready_mono hj hji)
      obtain ⟨jun, oj', hoj', hall⟩ := mem_ready.1 hj
      obtain rfl : oj' = oj := Option.some.inj (hoj'.symm.trans hoj)
      have hnot : ∀ e ∈ oj'.after, Region.binds md e = true → e.on ≠ i := fun e he hb heq => by
        have h2 := hall e he hb
        rw [heq, getD_both un] at h2
        cases h2
      obtain ⟨h1, h2, h3⟩ := Oper.apart_spec (hfree j oj' hoj hji jun hnot)
      have si : ∀ cs b, oi.op ≠ .select cs b := fun cs b => hsel i oi cs b hi
      have sj : ∀ cs b, oj'.op ≠ .select cs b := fun cs b => hsel j oj' cs b hoj
      have hfree' : ∀ k ok, ops[k]? = some ok → k ≠ i → (ls.setIfInBounds j true).getD k true = false → (∀ e ∈ ok.after, Region.binds md e = true → e.on ≠ i) → oi.apart ops ok = true := fun k ok hk hki kun hno => hfree k ok hk hki (by
        by_cases hjk : j = k
        · subst hjk; exact jun
        · rwa [getD_set_ne true hjk] at kun) hno
      refine ⟨oj', hoj, ?_⟩
      rcases hcase with ⟨hjc, u, hyj, H'⟩ | ⟨hjc, hyj, H'⟩
      · refine .inl ⟨hjc, u, hyj.same (execOp_put oj' sj a oi.dst v h1).symm (wanted_put oj' a oi.dst v h1).symm, ?_⟩
        refine ih vs (ls.setIfInBounds j true) _ (inv.set hj hjn) hfree' (ready_mono hr (Ne.symm hji)) (hy.same (execOp_put oi si a oj'.dst u h3) (wanted_put oi a oj'.dst u h3)) ?_
        rw [set_comm _ hji, ← Act.put_comm a v u h2]
        exact H'
      · refine .inr ⟨hjc, hyj.same (execOp_put oj' sj a oi.dst v h1).symm (wanted_put oj' a oi.dst v h1).symm, fun u hu => ?_⟩
        refine ih _ (ls.setIfInBounds j true) _ (inv.set hj hjn) hfree' (ready_mono hr (Ne.symm hji)) (hy.same (execOp_put oi si a oj'.dst u h3) (wanted_put oi a oj'.dst u h3)) ?_
        rw [set_comm _ hji, ← Act.put_comm a v u h2]
        exact H' u hu

/-- Where one operation has come up, so has another one for which it waits, at once or by others between. -/
def chained (md : Region.Mode) (ops : Array Oper) (cs : List Nat) : Prop := ∀ k i j, cs[k]? = some i → cs[k + 1]? = some j → ∀ (ls : Array Bool) (o : Oper), ops[j]? = some o →
  (∀ m om, ops[m]? = some om → ls.getD m false = true → ∀ e ∈ om.after, Region.binds md e = true → ls.getD e.on false = true) → (∀ e ∈ o.after, Region.binds md e = true → ls.getD e.on false = true) → ls.getD i false = true
/-- The same, told by a program. -/
def reachB (md : Region.Mode) (ops : Array Oper) (i : Nat) : Nat → Nat → Bool
  | 0, _ => false
  | f + 1, j => match ops[j]? with
    | some o => o.after.any fun e => Region.binds md e && (e.on == i || reachB md ops i f e.on)
    | none => false
theorem reach_of {i : Nat} {ls : Array Bool} (hcl : ∀ m om, ops[m]? = some om → ls.getD m false = true → ∀ e ∈ om.after, Region.binds md e = true → ls.getD e.on false = true) :
    ∀ (f j : Nat) (o : Oper), ops[j]? = some o → (∀ e ∈ o.after, Region.binds md e = true → ls.getD e.on false = true) → reachB md ops i f j = true → ls.getD i false = true
  | 0, _, _, _, _, h => by cases h
  | f + 1, j, o, ho, hl, h => by
    unfold reachB at h
    rw [ho] at h
    obtain ⟨e, he, h3⟩ := Array.any_eq_true'.1 h
    rw [Bool.and_eq_true, Bool.or_eq_true] at h3
    obtain ⟨hb, h4⟩ := h3
    have hon := hl e he hb
    rcases h4 with h4 | h4
    · rwa [show e.on = i by simpa using h4] at hon
    · cases hoe : ops[e.on]? with
      | none =>
        exfalso
        cases f with
        | zero => cases h4
        | succ f => unfold reachB at h4; rw [hoe] at h4; cases h4
      | some o2 => exact reach_of hcl f e.on o2 hoe (hcl _ _ hoe hon) h4
def chainedB (md : Region.Mode) (ops : Array Oper) (cs : List Nat) : Bool :=
  (List.range cs.length).all fun k => match cs[k]?, cs[k + 1]? with
    | some i, some j => reachB md ops i ops.size j
    | _, _ => true
theorem chained_of (h : chainedB md ops cs = true) : chained md ops cs := fun k i j h1 h2 ls o ho hcl hl => by
  unfold chainedB at h
  rw [List.all_eq_true] at h
  have hk := h k (List.mem_range.2 (by have := (List.getElem?_eq_some_iff.1 h1).1; exact this))
  simp only [h1, h2] at hk
  exact reach_of hcl _ j o ho hl hk

/-- The next call may be taken first. -/
theorem pv_call {n i : Nat} {oi : Oper} {L : List Value → Array Bool → Act → Prop} (hi : ops[i]? = some oi) (hch : chained md ops cs) (hsel : ∀ (j : Nat) (o : Oper) cs b, ops[j]? = some o → o.op ≠ .select cs b)
    (hs : Region.sinkB md ops n = true) (hc : Region.chainB md ops n = true) (hn : n < ops.size) (hin : i < n) (hend : ∀ vs ls a, L vs ls a → ∀ j ∈ Region.ready md ops ls, n ≤ j)
    (f : Nat) : ∀ (vs : List Value) (ls : Array Bool) (a : Act), cs[vs.length]? = some i → (∃ w, Cv vs w) → HeadInv md ops n ls →
      (∀ j oj, ops[j]? = some oj → j ≠ i → ls.getD j true = false → (∀ e ∈ oj.after, Region.binds md e = true → e.on ≠ i) → oi.apart ops oj = true) →
      i ∈ Region.ready md ops ls → yldC P ops Cv vs oi a → (∀ v, (∃ w, Cv (vs ++ [v]) w) → anyPv P V md ops Cv cs n L f (vs ++ [v]) (ls.setIfInBounds i true) (a.put oi.dst v)) → anyPv P V md ops Cv cs n L (f + 1) vs ls a := by
  induction f with
  | zero =>
    intro vs ls a hic hw inv _ hr hy H
    have un := (mem_ready.1 hr).1
    refine ⟨fun h => (by rw [h] at hr; cases hr), fun j hj => ?_⟩
    have hjn : j < n := Nat.lt_of_not_le fun h => tail_waits hs hc hn inv _ i rfl hin un j h hj
    refine ⟨hjn, ?_⟩
    by_cases hji : j = i
    · subst hji; exact ⟨_, hi, .inr ⟨hic, hy, H⟩⟩
    · obtain ⟨v, w, hv⟩ := hy.next hw
      exact absurd (hend _ _ _ (H v ⟨w, hv⟩) j (ready_mono hj hji)) (by omega)
  | succ f ih =>
    intro vs ls a hic hw inv hfree hr hy H
    have un := (mem_ready.1 hr).1
    refine ⟨fun h => (by rw [h] at hr; cases hr), fun j hj => ?_⟩
    have hjn : j < n := Nat.lt_of_not_le fun h => tail_waits hs hc hn inv _ i rfl hin un j h hj
    refine ⟨hjn, ?_⟩
    by_cases hji : j = i
    · subst hji; exact ⟨_, hi, .inr ⟨hic, hy, H⟩⟩
    · obtain ⟨v0, w0, hv0⟩ := hy.next hw
      obtain ⟨_, oj, hoj, hcase⟩ := (H v0 ⟨w0, hv0⟩).2 j (ready_mono hj hji)
      obtain ⟨jun, oj', hoj', hall⟩ := mem_ready.1 hj
      obtain rfl : oj' = oj := Option.some.inj (hoj'.symm.trans hoj)
      have hnot : ∀ e ∈ oj'.after, Region.binds md e = true → e.on ≠ i := fun e he hb heq => by
        have h2 := hall e he hb
        rw [heq, getD_both un] at h2
        cases h2
      obtain ⟨h1, h2, h3⟩ := Oper.apart_spec (hfree j oj' hoj hji jun hnot)
      have si : ∀ cs b, oi.op ≠ .select cs b := fun cs b => hsel i oi cs b hi
      have sj : ∀ cs b, oj'.op ≠ .select cs b := fun cs b => hsel j oj' cs b hoj
      have hfree' : ∀ k ok, ops[k]? = some ok → k ≠ i → (ls.setIfInBounds j true).getD k true = false → (∀ e ∈ ok.after, Region.binds md e = true → e.on ≠ i) → oi.apart ops ok = true := fun k ok hk hki kun hno => hfree k ok hk hki (by
        by_cases hjk : j = k
        · subst hjk; exact jun
        · rwa [getD_set_ne true hjk] at kun) hno
      have back : ∀ {v u : Value}, yldP P V ops Cv oj' u (a.put oi.dst v) → yldP P V ops Cv oj' u a := fun {v u} h => h.same (execOp_put oj' sj a oi.dst v h1).symm (wanted_put oj' a oi.dst v h1).symm
      rcases hcase with ⟨hjc, u, hyj, _⟩ | ⟨hjc, _, _⟩
      · have hyj' := back hyj
        refine ⟨oj', hoj, .inl ⟨hjc, u, hyj', ih vs (ls.setIfInBounds j true) _ hic hw (inv.set hj hjn) hfree' (ready_mono hr (Ne.symm hji)) (hy.same (execOp_put oi si a oj'.dst u h3) (wanted_put oi a oj'.dst u h3)) fun v hv => ?_⟩⟩
        obtain ⟨_, ok, hok, hcase'⟩ := (H v hv).2 j (ready_mono hj hji)
        obtain rfl : oj' = ok := Option.some.inj (hoj.symm.trans hok)
        rcases hcase' with ⟨_, u', hyk, H'⟩ | ⟨hk, _, _⟩
        · obtain rfl : u' = u := (back hyk).one hyj' (hw.elim fun w h => ⟨vs, w, h⟩)
          rw [set_comm _ hji, ← Act.put_comm a v u' h2]
          exact H'
        · exact absurd (List.mem_of_getElem? hk) hjc
      · rw [List.length_append, List.length_singleton] at hjc
        have h9 := hch _ _ _ hic hjc ls oj' hoj inv.closed (fun e he hb => hall e he hb)
        rw [getD_both un] at h9
        cases h9

/-- The walk in the text's order. -/
def walkPv (P : Program) (V : FuncId → Array Value → Value) (ops : Array Oper) (Cv : List Value → World → Prop) (cs : List Nat) (K : List Value → Act → Prop) : Nat → List Value → List Oper → Act → Prop
  | _, vs, [], a => K vs a
  | k, vs, o :: l, a => (k ∉ cs ∧ ∃ v, yldP P V ops Cv o v a ∧ walkPv P V ops Cv cs K (k + 1) vs l (a.put o.dst v)) ∨
      (cs[vs.length]? = some k ∧ yldC P ops Cv vs o a ∧ ∀ v, (∃ w, Cv (vs ++ [v]) w) → walkPv P V ops Cv cs K (k + 1) (vs ++ [v]) l (a.put o.dst v))

theorem pv_lex {n g : Nat} {K : List Value → Act → Prop} (hch : chained md ops cs) (hsel : Region.noSelect ops = true) (hs : Region.sinkB md ops n = true) (hc : Region.chainB md ops n = true) (hn : n < ops.size) :
    ∀ (l : List Oper) (k : Nat) (vs : List Value) (ls : Array Bool) (a : Act), (∃ w, Cv vs w) → (∀ j, j < l.length → l[j]? = ops[k + j]?) → k + l.length = n → HeadInv md ops n ls →
    Region.lexHead md ops g l.length k ls = true → walkPv P V ops Cv cs K k vs l a → anyPv P V md ops Cv cs n (fun vs' ls' a' => Region.seqB md ops g n ls' = true ∧ K vs' a') l.length vs ls a
  | [], k, vs, ls, a, _, _, hk, _, hB, h => by
    obtain rfl : k = n := by simpa using hk
    exact ⟨by simpa [Region.lexHead] using hB, h⟩
  | o :: l, k, vs, ls, a, hw, hl, hk, inv, hB, h => by
    have h0 : ops[k]? = some o := by simpa using (hl 0 (by simp)).symm
    simp only [List.length_cons] at hk
    simp only [List.length_cons, Region.lexHead, Bool.and_eq_true] at hB
    obtain ⟨⟨hr, hf⟩, hB'⟩ := hB
    have hr' : k ∈ Region.ready md ops ls := by simpa using hr
    have next : ∀ vs' a', (∃ w, Cv vs' w) → walkPv P V ops Cv cs K (k + 1) vs' l a' → anyPv P V md ops Cv cs n (fun vs' ls' a' => Region.seqB md ops g n ls' = true ∧ K vs' a') l.length vs' (ls.setIfInBounds k true) a' := fun vs' a' hw' h' =>
      pv_lex hch hsel hs hc hn l (k + 1) vs' _ _ hw' (fun j hj => by have := hl (j + 1) (by simp; omega); simpa [Nat.add_assoc, Nat.add_comm 1 j] using this) (by omega) (inv.set hr' (by omega)) hB' h'
    rcases h with ⟨hkc, v, hy, hK⟩ | ⟨hkc, hy, hK⟩
    · exact pv_plain h0 hkc (Region.noSelect_spec hsel) hs hc hn (by omega) (fun vs' ls' a' hL => seqB_ready hL.1) l.length vs ls a inv (Region.free_spec h0 hf) hr' hy (next vs _ hw hK)
    · exact pv_call h0 hch (Region.noSelect_spec hsel) hs hc hn (by omega) (fun vs' ls' a' hL => seqB_ready hL.1) l.length vs ls a hkc hw inv (Region.free_spec h0 hf) hr' hy fun v hv => next _ _ hv (hK v hv)

theorem region_pv {id : Nat} {Q : Exit → Act → World → Prop} {a : Act} {w : World} {l : List Oper} (n : Nat) (hm : P.follows .mixedOrders = true) (hB : Region.lexTailB .any l.toArray n = true) (hch : chainedB .any l.toArray cs = true) (hC : Cv [] w.drew)
    (h : walkPv P V l.toArray Cv cs (fun vs a' => ∀ w', Cv vs w' → wpList P l.toArray Q (l.drop n) a' w') 0 [] (l.take n) a) : (Code.region id l.toArray true).wp P Q a w := by
  simp only [Region.lexTailB, Bool.and_eq_true, decide_eq_true_eq] at hB
  obtain ⟨⟨⟨⟨hsel, hn⟩, hs⟩, hc⟩, hlex⟩ := hB
  have hn' : n < l.length := by simpa using hn
  have htl : (l.take n).length = n := by simp; omega
  have hdl : (l.drop n).length = l.toArray.size - n := by simp
  have inv0 : HeadInv .any l.toArray n (Array.replicate l.toArray.size false) :=
    ⟨by simp, fun j oj _ hl => (by rw [getD_replicate_false] at hl; cases hl), fun t _ ht => getD_in (by simpa using ht) (getD_replicate_false _ _)⟩
  have H := pv_lex (md := .any) (g := l.toArray.size - n) (chained_of hch) hsel hs hc hn (l.take n) 0 [] _ a ⟨_, hC⟩ (fun j hj => by
    have hj' : j < n := by rw [htl] at hj; exact hj
    simp [hj']) (by simpa using htl) inv0 (by rw [htl]; exact hlex) h
  refine wp_region_any hm ?_
  have := any_of_pv (Q := Q) (g := l.toArray.size - n) (fun vs ls a' w' hw' hL => by
    have := wpAny_of_seq (md := .any) (Q' := Q) (l.drop n) n ls a' w' (fun j => by simp [List.getElem?_drop]) (by rw [hdl]; exact hL.1) (hL.2 w' hw')
    rwa [hdl] at this) _ _ _ _ _ hC H
  rw [htl, show n + (l.toArray.size - n) = l.toArray.size by omega] at this
  exact this

/-- A world of any class. -/
structure PvW (Cv : List Value → World → Prop) where
  vs : List Value
  w : World
  h : Cv vs w

theorem PvW.there {w : World} (h : Cv [] w) : Nonempty (PvW Cv) := ⟨⟨[], w, h⟩⟩
/-- Operations that hand back a value, or go wrong; slices of slices among them. -/
def plainOp2 (o : Oper) : Bool := plainOp o || (match o.op with | .slice .. => true | .pick .. => true | _ => false)
theorem plain_next2 {o : Oper} (h : plainOp2 o = true) {ρ : Operand → Value} {w w' : World} {n : Next} (hr : (execOp ρ o).run P w = .ok n w') : ∃ u, n = .value u := by
  unfold plainOp2 at h
  by_cases h1 : plainOp o = true
  · exact plain_next h1 hr
  · rw [Bool.not_eq_true] at h1
    rw [h1, Bool.false_or] at h
    unfold execOp at hr
    generalize o.op = op at h hr
    cases op
    all_goals first
      | (exact (Bool.false_ne_true h).elim)
      | (exact plain_value hr)
      | (cases hr; exact ⟨_, rfl⟩)
      | (rename_i c _ _
         rw [Sem.run_bind] at hr
         cases hs : (asBool (ρ c)).run P w with
         | ok u w1 =>
           rw [hs] at hr
           simp only [Result.andThen] at hr
           cases hr
           exact ⟨_, rfl⟩
         | halt x w1 => rw [hs] at hr; simp only [Result.andThen] at hr; cases hr)
theorem pv_quiet {k : Nat} {vs : List Value} {o : Oper} {l : List Oper} {a : Act} {K : List Value → Act → Prop} (hk : k ∉ cs) (hp : plainOp2 o = true) (hwt : Region.wanted o (yielded ops a.tmps) = true)
    (h : ∀ K' : Act → Prop, (∀ a', walkPv P V ops Cv cs K (k + 1) vs l a' → K' a') → o.quiet P a (fun w' => ∃ x : PvW Cv, w' = x.w) K') : walkPv P V ops Cv cs K k vs (o :: l) a := by
  obtain ⟨v, h1, h2⟩ := h _ fun _ h => h
  refine .inl ⟨hk, v, .inl ⟨hwt, fun vs' w hw => ?_⟩, h2⟩
  have h3 := h1 w ⟨⟨vs', w, hw⟩, rfl⟩
  unfold Oper.quietAt at h3
  cases hr : (execOp a.eval o).run P w with
  | ok n w' =>
    obtain ⟨u, rfl⟩ := plain_next2 hp hr
    rw [hr] at h3
    simp only [Oper.quietUpon] at h3
    obtain ⟨rfl, rfl⟩ := h3
    exact .inl ⟨_, rfl, rfl⟩
  | halt x w' => rw [hr] at h3; simp only [Oper.quietUpon] at h3
theorem pv_value {k : Nat} {vs : List Value} {o : Oper} {l : List Oper} {a : Act} {K : List Value → Act → Prop} (hk : k ∉ cs) (v : Value) (hwt : Region.wanted o (yielded ops a.tmps) = true)
    (hr : ∀ vs' w, Cv vs' w → (execOp a.eval o).run P w = .ok (.value v) w) (h : walkPv P V ops Cv cs K (k + 1) vs l (a.put o.dst v)) : walkPv P V ops Cv cs K k vs (o :: l) a :=
  .inl ⟨hk, v, .inl ⟨hwt, fun vs' w hw => .inl ⟨v, hr vs' w hw, rfl⟩⟩, h⟩
theorem pv_enter {k : Nat} {vs : List Value} {o : Oper} {l : List Oper} {a : Act} {K : List Value → Act → Prop} {f : FuncId} {args : Array Value} (hk : cs[vs.length]? = some k) (hwt : Region.wanted o (yielded ops a.tmps) = true)
    (hr : ∀ w, Cv vs w → (execOp a.eval o).run P w = .ok (.enter f args) w) (hc : ∀ w, Cv vs w → Calls P f args w fun e w'' => ∃ v, e = .returned v ∧ Cv (vs ++ [v]) w'')
    (h : ∀ v, (∃ w, Cv (vs ++ [v]) w) → walkPv P V ops Cv cs K (k + 1) (vs ++ [v]) l (a.put o.dst v)) : walkPv P V ops Cv cs K k vs (o :: l) a :=
  .inr ⟨hk, ⟨hwt, fun w hw => .inl ⟨f, args, hr w hw, hc w hw⟩⟩, h⟩
/-- A store. -/
theorem pv_stored {k : Nat} {vs : List Value} {o : Oper} {l : List Oper} {a : Act} {K : List Value → Act → Prop} (hk : cs[vs.length]? = some k) (hwt : Region.wanted o (yielded ops a.tmps) = true)
    (hr : ∀ w, Cv vs w → ∃ w'', (execOp a.eval o).run P w = .ok .skip w'' ∧ Cv (vs ++ [undef]) w'')
    (h : ∀ v, (∃ w, Cv (vs ++ [v]) w) → walkPv P V ops Cv cs K (k + 1) (vs ++ [v]) l (a.put o.dst v)) : walkPv P V ops Cv cs K k vs (o :: l) a :=
  .inr ⟨hk, ⟨hwt, fun w hw => .inr (let ⟨w2, h1, h2⟩ := hr w hw; ⟨undef, w2, .inr ⟨h1, rfl⟩, h2⟩)⟩, h⟩
/-- A call that hands back this value wherever it comes. -/
theorem pv_kept {k : Nat} {vs : List Value} {o : Oper} {l : List Oper} {a : Act} {K : List Value → Act → Prop} {f : FuncId} {args : Array Value} (hk : k ∉ cs) (v : Value) (hwt : Region.wanted o (yielded ops a.tmps) = true)
    (hr : ∀ vs' w, Cv vs' w → (execOp a.eval o).run P w = .ok (.enter f args) w) (hV : V f args = v) (hc : ∀ vs' w, Cv vs' w → Calls P f args w fun e w'' => e = .returned v ∧ Cv vs' w'') (h : walkPv P V ops Cv cs K (k + 1) vs l (a.put o.dst v)) : walkPv P V ops Cv cs K k vs (o :: l) a :=
  .inl ⟨hk, v, .inl ⟨hwt, fun vs' w hw => .inr ⟨f, args, hr vs' w hw, hV, hc vs' w hw⟩⟩, h⟩
theorem pv_made {k : Nat} {vs : List Value} {o : Oper} {l : List Oper} {a : Act} {K : List Value → Act → Prop} (hk : cs[vs.length]? = some k) (hwt : Region.wanted o (yielded ops a.tmps) = true)
    (hr : ∀ w, Cv vs w → ∃ v w'', (execOp a.eval o).run P w = .ok (.value v) w'' ∧ Cv (vs ++ [v]) w'')
    (h : ∀ v, (∃ w, Cv (vs ++ [v]) w) → walkPv P V ops Cv cs K (k + 1) (vs ++ [v]) l (a.put o.dst v)) : walkPv P V ops Cv cs K k vs (o :: l) a :=
  .inr ⟨hk, ⟨hwt, fun w hw => .inr (let ⟨v, w2, h1, h2⟩ := hr w hw; ⟨v, w2, .inl h1, h2⟩)⟩, h⟩
end

/-- A variable of two integers is made and written, beside whatever else. -/
def mkC2 (W : World) (x y : Int) (vs : List Value) (w : World) : Prop := Below W.heap.size W w ∧ match vs with
  | [] => True
  | [v] => ∃ g, v = .pointer (some ⟨g, 0, none⟩) ∧ W.heap.size ≤ g ∧ Var2 w g 0 0
  | [v, _] => ∃ g, v = .pointer (some ⟨g, 0, none⟩) ∧ W.heap.size ≤ g ∧ Var2 w g x y
  | _ => False
theorem mkC2.below {W : World} {x y : Int} {vs : List Value} {w w' : World} (h : mkC2 W x y vs w) (hb : Below w.heap.size w w') : mkC2 W x y vs w' := by
  obtain ⟨h1, h2⟩ := h
  refine ⟨h1.trans (hb.mono h1.size), ?_⟩
  match vs, h2 with
  | [], _ => trivial
  | [v], ⟨g, e, hg, hv⟩ => exact ⟨g, e, hg, hv.below hb⟩
  | [v, _], ⟨g, e, hg, hv⟩ => exact ⟨g, e, hg, hv.below hb⟩
def mkC3 (W : World) (x y z : Int) (vs : List Value) (w : World) : Prop := Below W.heap.size W w ∧ match vs with
  | [] => True
  | [v] => ∃ g, v = .pointer (some ⟨g, 0, none⟩) ∧ W.heap.size ≤ g ∧ Var3 w g 0 0 0
  | [v, _] => ∃ g, v = .pointer (some ⟨g, 0, none⟩) ∧ W.heap.size ≤ g ∧ Var3 w g x y z
  | _ => False
theorem mkC3.below {W : World} {x y z : Int} {vs : List Value} {w w' : World} (h : mkC3 W x y z vs w) (hb : Below w.heap.size w w') : mkC3 W x y z vs w' := by
  obtain ⟨h1, h2⟩ := h
  refine ⟨h1.trans (hb.mono h1.size), ?_⟩
  match vs, h2 with
  | [], _ => trivial
  | [v], ⟨g, e, hg, hv⟩ => exact ⟨g, e, hg, hv.below hb⟩
  | [v, _], ⟨g, e, hg, hv⟩ => exact ⟨g, e, hg, hv.below hb⟩
end Go.Proofs.YtahdlkdiadlgeaaGreat

/- A region that draws its order and holds a chain of calls and of operations that make memory, and beside it one operation more that makes memory and waits for none of them (the variable of a struct). One walk in the text's order serves all orders. -/
namespace Go.Proofs.YtahdlkdiadlgeaaGreat
open Go.RowKit

section
variable {P : Program} {G : Value → Prop} {ops : Array Oper} {md : Region.Mode} {Cv : List Value → Option Value → World → Prop} {cs : List Nat} {d : Nat}

/-- An operation beside those yields this value, in every world of every class. -/
def yldF (P : Program) (ops : Array Oper) (Cv : List Value → Option Value → World → Prop) (o : Oper) (v : Value) (a : Act) : Prop :=
  (Region.wanted o (yielded ops a.tmps) = true ∧ ∀ vs og w, Cv vs og w → (execOp a.eval o).run P w = .ok (.value v) w) ∨ (Region.wanted o (yielded ops a.tmps) = false ∧ v = undef)
/-- The chain's next one; as long as the other one has not come up, it must serve both ways. -/
def yldG (P : Program) (ops : Array Oper) (Cv : List Value → Option Value → World → Prop) (vs : List Value) (og : Option Value) (o : Oper) (a : Act) : Prop :=
  Region.wanted o (yielded ops a.tmps) = true ∧ (∃ v og' w, Cv (vs ++ [v]) og' w) ∧ ∀ og' w, (og = none ∨ og' = og) → Cv vs og' w → (∃ f args, (execOp a.eval o).run P w = .ok (.enter f args) w ∧ Calls P f args w fun e w'' => ∃ v, e = .returned v ∧ Cv (vs ++ [v]) og' w'') ∨ ∃ v w'', ((execOp a.eval o).run P w = .ok (.value v) w'' ∨ ((execOp a.eval o).run P w = .ok .skip w'' ∧ v = undef)) ∧ Cv (vs ++ [v]) og' w''
/-- The one that floats. -/
def yldD (P : Program) (G : Value → Prop) (ops : Array Oper) (Cv : List Value → Option Value → World → Prop) (o : Oper) (a : Act) : Prop :=
  Region.wanted o (yielded ops a.tmps) = true ∧ ∀ vs w, Cv vs none w → ∃ g w'', (execOp a.eval o).run P w = .ok (.value g) w'' ∧ G g ∧ Cv vs (some g) w''
theorem yldF.same {o : Oper} {v : Value} {a a' : Act} (h : yldF P ops Cv o v a) (he : execOp a'.eval o = execOp a.eval o)
    (hw : Region.wanted o (yielded ops a'.tmps) = Region.wanted o (yielded ops a.tmps)) : yldF P ops Cv o v a' := by
  unfold yldF at *
  rw [he, hw]
  exact h
theorem yldG.same {vs : List Value} {og : Option Value} {o : Oper} {a a' : Act} (h : yldG P ops Cv vs og o a) (he : execOp a'.eval o = execOp a.eval o)
    (hw : Region.wanted o (yielded ops a'.tmps) = Region.wanted o (yielded ops a.tmps)) : yldG P ops Cv vs og o a' := by
  unfold yldG at *
  rw [he, hw]
  exact h
theorem yldD.same {o : Oper} {a a' : Act} (h : yldD P G ops Cv o a) (he : execOp a'.eval o = execOp a.eval o)
    (hw : Region.wanted o (yielded ops a'.tmps) = Region.wanted o (yielded ops a.tmps)) : yldD P G ops Cv o a' := by
  unfold yldD at *
  rw [he, hw]
  exact h
theorem yldF.one {o : Oper} {u v : Value} {a : Act} (h1 : yldF P ops Cv o u a) (h2 : yldF P ops Cv o v a) (hin : ∃ vs og w, Cv vs og w) : u = v := by
  obtain ⟨vs, og, w, hw⟩ := hin
  rcases h1 with ⟨a1, b1⟩ | ⟨a1, rfl⟩
  · rcases h2 with ⟨a2, b2⟩ | ⟨a2, rfl⟩
    · have e1 := b1 vs og w hw
      rw [b2 vs og w hw] at e1
      cases e1
      rfl
    · rw [a1] at a2; cases a2
  · rcases h2 with ⟨a2, b2⟩ | ⟨a2, rfl⟩
    · rw [a1] at a2; cases a2
    · rfl
theorem yldG.next {vs : List Value} {og : Option Value} {o : Oper} {a : Act} (h : yldG P ops Cv vs og o a) : ∃ v og w, Cv (vs ++ [v]) og w := h.2.1
theorem yldG.float {vs : List Value} {o : Oper} {a : Act} (h : yldG P ops Cv vs none o a) (og : Option Value) : yldG P ops Cv vs og o a := ⟨h.1, h.2.1, fun og' w _ hw => h.2.2 og' w (.inl rfl) hw⟩

def anyF (P : Program) (G : Value → Prop) (md : Region.Mode) (ops : Array Oper) (Cv : List Value → Option Value → World → Prop) (cs : List Nat) (d n : Nat) (L : List Value → Option Value → Array Bool → Act → Prop) : Nat → List Value → Option Value → Array Bool → Act → Prop
  | 0, vs, og, ls, a => L vs og ls a
  | f + 1, vs, og, ls, a => Region.ready md ops ls ≠ [] ∧ ∀ i ∈ Region.ready md ops ls, i < n ∧ ∃ o, ops[i]? = some o ∧
      ((i ∉ cs ∧ i ≠ d ∧ ∃ v, yldF P ops Cv o v a ∧ anyF P G md ops Cv cs d n L f vs og (ls.setIfInBounds i true) (a.put o.dst v)) ∨
       (i ≠ d ∧ cs[vs.length]? = some i ∧ yldG P ops Cv vs og o a ∧ ∀ v, (∃ og w, Cv (vs ++ [v]) og w) → anyF P G md ops Cv cs d n L f (vs ++ [v]) og (ls.setIfInBounds i true) (a.put o.dst v)) ∨
       (i = d ∧ og = none ∧ yldD P G ops Cv o a ∧ ∀ g, G g → anyF P G md ops Cv cs d n L f vs (some g) (ls.setIfInBounds i true) (a.put o.dst g)))

theorem any_of_pf {n g : Nat} {L : List Value → Option Value → Array Bool → Act → Prop} {Q : Exit → Act → World → Prop} (hL : ∀ vs og ls a w, Cv vs og w → L vs og ls a → wpAny P md ops Q g ls a w) :
    ∀ (f : Nat) (vs : List Value) (og : Option Value) (ls : Array Bool) (a : Act) (w : World), Cv vs og w → anyF P G md ops Cv cs d n L f vs og ls a → wpAny P md ops Q (f + g) ls a w
  | 0, vs, og, ls, a, w, hw, h => by rw [Nat.zero_add]; exact hL _ _ _ _ _ hw h
  | f + 1, vs, og, ls, a, w, hw, h => by
    rw [show f + 1 + g = (f + g) + 1 by omega]
    refine ⟨fun h0 => absurd h0 h.1, fun i hi => ?_⟩
    obtain ⟨_, o, ho, hcase⟩ := h.2 i hi
    unfold wpOp
    simp only [ho]
    rcases hcase with ⟨_, _, v, hy, hn⟩ | ⟨_, _, hy, hn⟩ | ⟨_, rfl, hy, hn⟩
    · rcases hy with ⟨hwt, hy⟩ | ⟨hwt, rfl⟩
      · simp only [hwt, if_true]
        refine .inl ?_
        unfold Oper.wp
        rw [hy vs og w hw]
        simp only [Oper.upon]
        exact any_of_pf hL f vs og _ _ _ hw hn
      · simp only [hwt, Bool.false_eq_true, if_false]
        exact any_of_pf hL f vs og _ _ _ hw hn
    · obtain ⟨hwt, _, hy⟩ := hy
      simp only [hwt, if_true]
      refine .inl ?_
      unfold Oper.wp
      rcases hy og w (.inr rfl) hw with ⟨g', args, hr, hc⟩ | ⟨v, w'', hr, hw''⟩
      · rw [hr]
        simp only [Oper.upon]
        exact hc.mono fun e w'' ⟨v, he, hw''⟩ => by subst he; exact any_of_pf hL f _ _ _ _ _ hw'' (hn v ⟨og, w'', hw''⟩)
      · rcases hr with hr | ⟨hr, rfl⟩
        · rw [hr]
          simp only [Oper.upon]
          exact any_of_pf hL f _ _ _ _ _ hw'' (hn v ⟨og, w'', hw''⟩)
        · rw [hr]
          simp only [Oper.upon]
          exact any_of_pf hL f _ _ _ _ _ hw'' (hn _ ⟨og, w'', hw''⟩)
    · obtain ⟨hwt, hy⟩ := hy
      simp only [hwt, if_true]
      refine .inl ?_
      unfold Oper.wp
      obtain ⟨v, w'', hr, hg, hw''⟩ := hy vs w hw
      rw [hr]
      simp only [Oper.upon]
      exact any_of_pf hL f _ _ _ _ _ hw'' (hn v hg)

/-- An operation beside the chain may be taken first. -/
theorem pf_plain {n i : Nat} {oi : Oper} {v : Value} {L : List Value → Option Value → Array Bool → Act → Prop} (hi : ops[i]? = some oi) (hic : i ∉ cs) (hid : i ≠ d) (hsel : ∀ (j : Nat) (o : Oper) cs b, ops[j]? = some o → o.op ≠ .select cs b)
    (hs : Region.sinkB md ops n = true) (hc : Region.chainB md ops n = true) (hn : n < ops.size) (hin : i < n) (hend : ∀ vs og ls a, L vs og ls a → ∀ j ∈ Region.ready md ops ls, n ≤ j)
    (f : Nat) : ∀ (vs : List Value) (og : Option Value) (ls : Array Bool) (a : Act), HeadInv md ops n ls →
      (∀ j oj, ops[j]? = some oj → j ≠ i → ls.getD j true = false → (∀ e ∈ oj.after, Region.binds md e = true → e.on ≠ i) → oi.apart ops oj = true) →
      i ∈ Region.ready md ops ls → yldF P ops Cv oi v a → anyF P G md ops Cv cs d n L f vs og (ls.setIfInBounds i true) (a.put oi.dst v) → anyF P G md ops Cv cs d n L (f + 1) vs og ls a := by
  induction f with
  | zero =>
    intro vs og ls a inv _ hr hy H
    have un := (mem_ready.1 hr).1
    refine ⟨fun h => (by rw [h] at hr; cases hr), fun j hj => ?_⟩
    have hjn : j < n := Nat.lt_of_not_le fun h => tail_waits hs hc hn inv _ i rfl hin un j h hj
    refine ⟨hjn, ?_⟩
    by_cases hji : j = i
    · subst hji; exact ⟨_, hi, .inl ⟨hic, hid, _, hy, H⟩⟩
    · exact absurd (hend _ _ _ _ H j (ready_mono hj hji)) (by omega)
  | succ f ih =>
    intro vs og ls a inv hfree hr hy H
    have un := (mem_ready.1 hr).1
    refine ⟨fun h => (by rw [h] at hr; cases hr), fun j hj => ?_⟩
    have hjn : j < n := Nat.lt_of_not_le fun h => tail_waits hs hc hn inv _ i rfl hin un j h hj
    refine ⟨hjn, ?_⟩
    by_cases hji : j = i
    · subst hji; exact ⟨_, hi, .inl ⟨hic, hid, _, hy, H⟩⟩
    · obtain ⟨_, oj, hoj, hcase⟩ := H.2 j (ready_mono hj hji)
      obtain ⟨jun, oj', hoj', hall⟩ := mem_ready.1 hj
      obtain rfl : oj' = oj := Option.some.inj (hoj'.symm.trans hoj)
      have hnot : ∀ e ∈ oj'.after, Region.binds md e = true → e.on ≠ i := fun e he hb heq => by
        have h2 := hall e he hb
        rw [heq, getD_both un] at h2
        cases h2
      obtain ⟨h1, h2, h3⟩ := Oper.apart_spec (hfree j oj' hoj hji jun hnot)
      have si : ∀ cs b, oi.op ≠ .select cs b := fun cs b => hsel i oi cs b hi
      have sj : ∀ cs b, oj'.op ≠ .select cs b := fun cs b => hsel j oj' cs b hoj
      have hfree' : ∀ k ok, ops[k]? = some ok → k ≠ i → (ls.setIfInBounds j true).getD k true = false → (∀ e ∈ ok.after, Region.binds md e = true → e.on ≠ i) → oi.apart ops ok = true := fun k ok hk hki kun hno => hfree k ok hk hki (by
        by_cases hjk : j = k
        · subst hjk; exact jun
        · rwa [getD_set_ne true hjk] at kun) hno
      refine ⟨oj', hoj, ?_⟩
      rcases hcase with ⟨hjc, hjd, u, hyj, H'⟩ | ⟨hjd, hjc, hyj, H'⟩ | ⟨hjd, hog, hyj, H'⟩
      · refine .inl ⟨hjc, hjd, u, hyj.same (execOp_put oj' sj a oi.dst v h1).symm (wanted_put oj' a oi.dst v h1).symm, ?_⟩
        refine ih vs og (ls.setIfInBounds j true) _ (inv.set hj hjn) hfree' (ready_mono hr (Ne.symm hji)) (hy.same (execOp_put oi si a oj'.dst u h3) (wanted_put oi a oj'.dst u h3)) ?_
        rw [set_comm _ hji, ← Act.put_comm a v u h2]
        exact H'
      · refine .inr (.inl ⟨hjd, hjc, hyj.same (execOp_put oj' sj a oi.dst v h1).symm (wanted_put oj' a oi.dst v h1).symm, fun u hu => ?_⟩)
        refine ih _ og (ls.setIfInBounds j true) _ (inv.set hj hjn) hfree' (ready_mono hr (Ne.symm hji)) (hy.same (execOp_put oi si a oj'.dst u h3) (wanted_put oi a oj'.dst u h3)) ?_
        rw [set_comm _ hji, ← Act.put_comm a v u h2]
        exact H' u hu
      · refine .inr (.inr ⟨hjd, hog, hyj.same (execOp_put oj' sj a oi.dst v h1).symm (wanted_put oj' a oi.dst v h1).symm, fun u hu => ?_⟩)
        refine ih vs (some u) (ls.setIfInBounds j true) _ (inv.set hj hjn) hfree' (ready_mono hr (Ne.symm hji)) (hy.same (execOp_put oi si a oj'.dst u h3) (wanted_put oi a oj'.dst u h3)) ?_
        rw [set_comm _ hji, ← Act.put_comm a v u h2]
        exact H' u hu

/-- The chain's next one may be taken first. -/
theorem pf_call {n i : Nat} {oi : Oper} {L : List Value → Option Value → Array Bool → Act → Prop} (hi : ops[i]? = some oi) (hid : i ≠ d) (hch : chained md ops cs) (hsel : ∀ (j : Nat) (o : Oper) cs b, ops[j]? = some o → o.op ≠ .select cs b)
    (hs : Region.sinkB md ops n = true) (hc : Region.chainB md ops n = true) (hn : n < ops.size) (hin : i < n) (hend : ∀ vs og ls a, L vs og ls a → ∀ j ∈ Region.ready md ops ls, n ≤ j)
    (f : Nat) : ∀ (vs : List Value) (og : Option Value) (ls : Array Bool) (a : Act), cs[vs.length]? = some i → (∃ og w, Cv vs og w) → HeadInv md ops n ls →
      (∀ j oj, ops[j]? = some oj → j ≠ i → ls.getD j true = false → (∀ e ∈ oj.after, Region.binds md e = true → e.on ≠ i) → oi.apart ops oj = true) →
      i ∈ Region.ready md ops ls → yldG P ops Cv vs og oi a → (∀ v, (∃ og w, Cv (vs ++ [v]) og w) → anyF P G md ops Cv cs d n L f (vs ++ [v]) og (ls.setIfInBounds i true) (a.put oi.dst v)) → anyF P G md ops Cv cs d n L (f + 1) vs og ls a := by
  induction f with
  | zero =>
    intro vs og ls a hic hw inv _ hr hy H
    have un := (mem_ready.1 hr).1
    refine ⟨fun h => (by rw [h] at hr; cases hr), fun j hj => ?_⟩
    have hjn : j < n := Nat.lt_of_not_le fun h => tail_waits hs hc hn inv _ i rfl hin un j h hj
    refine ⟨hjn, ?_⟩
    by_cases hji : j = i
    · subst hji; exact ⟨_, hi, .inr (.inl ⟨hid, hic, hy, H⟩)⟩
    · obtain ⟨v, og', w, hv⟩ := hy.next
      exact absurd (hend _ _ _ _ (H v ⟨og', w, hv⟩) j (ready_mono hj hji)) (by omega)
  | succ f ih =>
    intro vs og ls a hic hw inv hfree hr hy H
    have un := (mem_ready.1 hr).1
    refine ⟨fun h => (by rw [h] at hr; cases hr), fun j hj => ?_⟩
    have hjn : j < n := Nat.lt_of_not_le fun h => tail_waits hs hc hn inv _ i rfl hin un j h hj
    refine ⟨hjn, ?_⟩
    by_cases hji : j = i
    · subst hji; exact ⟨_, hi, .inr (.inl ⟨hid, hic, hy, H⟩)⟩
    · obtain ⟨v0, og0, w0, hv0⟩ := hy.next
      obtain ⟨_, oj, hoj, hcase⟩ := (H v0 ⟨og0, w0, hv0⟩).2 j (ready_mono hj hji)
      obtain ⟨jun, oj', hoj', hall⟩ := mem_ready.1 hj
      obtain rfl : oj' = oj := Option.some.inj (hoj'.symm.trans hoj)
      have hnot : ∀ e ∈ oj'.after, Region.binds md e = true → e.on ≠ i := fun e he hb heq => by
        have h2 := hall e he hb
        rw [heq, getD_both un] at h2
        cases h2
      obtain ⟨h1, h2, h3⟩ := Oper.apart_spec (hfree j oj' hoj hji jun hnot)
      have si : ∀ cs b, oi.op ≠ .select cs b := fun cs b => hsel i oi cs b hi
      have sj : ∀ cs b, oj'.op ≠ .select cs b := fun cs b => hsel j oj' cs b hoj
      have hfree' : ∀ k ok, ops[k]? = some ok → k ≠ i → (ls.setIfInBounds j true).getD k true = false → (∀ e ∈ ok.after, Region.binds md e = true → e.on ≠ i) → oi.apart ops ok = true := fun k ok hk hki kun hno => hfree k ok hk hki (by
        by_cases hjk : j = k
        · subst hjk; exact jun
        · rwa [getD_set_ne true hjk] at kun) hno
      have back : ∀ {v u : Value}, yldF P ops Cv oj' u (a.put oi.dst v) → yldF P ops Cv oj' u a := fun {v u} h => h.same (execOp_put oj' sj a oi.dst v h1).symm (wanted_put oj' a oi.dst v h1).symm
      rcases hcase with ⟨hjc, hjd, u, hyj, _⟩ | ⟨_, hjc, _, _⟩ | ⟨hjd, hog, hyj, _⟩
      · have hyj' := back hyj
        refine ⟨oj', hoj, .inl ⟨hjc, hjd, u, hyj', ih vs og (ls.setIfInBounds j true) _ hic hw (inv.set hj hjn) hfree' (ready_mono hr (Ne.symm hji)) (hy.same (execOp_put oi si a oj'.dst u h3) (wanted_put oi a oj'.dst u h3)) fun v hv => ?_⟩⟩
        obtain ⟨_, ok, hok, hcase'⟩ := (H v hv).2 j (ready_mono hj hji)
        obtain rfl : oj' = ok := Option.some.inj (hoj.symm.trans hok)
        rcases hcase' with ⟨_, _, u', hyk, H'⟩ | ⟨_, hk, _, _⟩ | ⟨hk, _⟩
        · obtain rfl : u' = u := (back hyk).one hyj' (hw.elim fun og h => h.elim fun w h => ⟨vs, og, w, h⟩)
          rw [set_comm _ hji, ← Act.put_comm a v u' h2]
          exact H'
        · exact absurd (List.mem_of_getElem? hk) hjc
        · exact absurd hk hjd
      · rw [List.length_append, List.length_singleton] at hjc
        have h9 := hch _ _ _ hic hjc ls oj' hoj inv.closed (fun e he hb => hall e he hb)
        rw [getD_both un] at h9
        cases h9
      · refine ⟨oj', hoj, .inr (.inr ⟨hjd, hog, hyj.same (execOp_put oj' sj a oi.dst v0 h1).symm (wanted_put oj' a oi.dst v0 h1).symm, fun u hu => ?_⟩)⟩
        subst hog
        refine ih vs (some u) (ls.setIfInBounds j true) _ hic hw (inv.set hj hjn) hfree' (ready_mono hr (Ne.symm hji)) ((hy.float (some u)).same (execOp_put oi si a oj'.dst u h3) (wanted_put oi a oj'.dst u h3)) fun v hv => ?_
        obtain ⟨_, ok, hok, hcase'⟩ := (H v hv).2 j (ready_mono hj hji)
        obtain rfl : oj' = ok := Option.some.inj (hoj.symm.trans hok)
        rcases hcase' with ⟨_, hk, _⟩ | ⟨hk, _⟩ | ⟨_, _, _, H'⟩
        · exact absurd hjd hk
        · exact absurd hjd hk
        · rw [set_comm _ hji, ← Act.put_comm a v u h2]
          exact H' u hu

/-- The one that floats may be taken first. -/
theorem pf_float {n : Nat} {oi : Oper} {L : List Value → Option Value → Array Bool → Act → Prop} (hi : ops[d]? = some oi) (hG : ∃ g, G g) (hsel : ∀ (j : Nat) (o : Oper) cs b, ops[j]? = some o → o.op ≠ .select cs b)
    (hs : Region.sinkB md ops n = true) (hc : Region.chainB md ops n = true) (hn : n < ops.size) (hin : d < n) (hend : ∀ vs og ls a, L vs og ls a → ∀ j ∈ Region.ready md ops ls, n ≤ j)
    (f : Nat) : ∀ (vs : List Value) (ls : Array Bool) (a : Act), (∃ og w, Cv vs og w) → (∀ j, cs[vs.length]? = some j → reachB md ops d ops.size j = true) → HeadInv md ops n ls →
      (∀ j oj, ops[j]? = some oj → j ≠ d → ls.getD j true = false → (∀ e ∈ oj.after, Region.binds md e = true → e.on ≠ d) → oi.apart ops oj = true) →
      d ∈ Region.ready md ops ls → yldD P G ops Cv oi a → (∀ g, G g → anyF P G md ops Cv cs d n L f vs (some g) (ls.setIfInBounds d true) (a.put oi.dst g)) → anyF P G md ops Cv cs d n L (f + 1) vs none ls a := by
  obtain ⟨g0, hg0⟩ := hG
  induction f with
  | zero =>
    intro vs ls a hw hnx inv _ hr hy H
    have un := (mem_ready.1 hr).1
    refine ⟨fun h => (by rw [h] at hr; cases hr), fun j hj => ?_⟩
    have hjn : j < n := Nat.lt_of_not_le fun h => tail_waits hs hc hn inv _ d rfl hin un j h hj
    refine ⟨hjn, ?_⟩
    by_cases hji : j = d
    · subst hji; exact ⟨_, hi, .inr (.inr ⟨rfl, rfl, hy, H⟩)⟩
    · exact absurd (hend _ _ _ _ (H g0 hg0) j (ready_mono hj hji)) (by omega)
  | succ f ih =>
    intro vs ls a hw hnx inv hfree hr hy H
    have un := (mem_ready.1 hr).1
    refine ⟨fun h => (by rw [h] at hr; cases hr), fun j hj => ?_⟩
    have hjn : j < n := Nat.lt_of_not_le fun h => tail_waits hs hc hn inv _ d rfl hin un j h hj
    refine ⟨hjn, ?_⟩
    by_cases hji : j = d
    · subst hji; exact ⟨_, hi, .inr (.inr ⟨rfl, rfl, hy, H⟩)⟩
    · obtain ⟨_, oj, hoj, hcase⟩ := (H g0 hg0).2 j (ready_mono hj hji)
      obtain ⟨jun, oj', hoj', hall⟩ := mem_ready.1 hj
      obtain rfl : oj' = oj := Option.some.inj (hoj'.symm.trans hoj)
      have hnot : ∀ e ∈ oj'.after, Region.binds md e = true → e.on ≠ d := fun e he hb heq => by
        have h2 := hall e he hb
        rw [heq, getD_both un] at h2
        cases h2
      obtain ⟨h1, h2, h3⟩ := Oper.apart_spec (hfree j oj' hoj hji jun hnot)
      have si : ∀ cs b, oi.op ≠ .select cs b := fun cs b => hsel d oi cs b hi
      have sj : ∀ cs b, oj'.op ≠ .select cs b := fun cs b => hsel j oj' cs b hoj
      have hfree' : ∀ k ok, ops[k]? = some ok → k ≠ d → (ls.setIfInBounds j true).getD k true = false → (∀ e ∈ ok.after, Region.binds md e = true → e.on ≠ d) → oi.apart ops ok = true := fun k ok hk hki kun hno => hfree k ok hk hki (by
        by_cases hjk : j = k
        · subst hjk; exact jun
        · rwa [getD_set_ne true hjk] at kun) hno
      have back : ∀ {v u : Value}, yldF P ops Cv oj' u (a.put oi.dst v) → yldF P ops Cv oj' u a := fun {v u} h => h.same (execOp_put oj' sj a oi.dst v h1).symm (wanted_put oj' a oi.dst v h1).symm
      rcases hcase with ⟨hjc, hjd, u, hyj, _⟩ | ⟨hjd, hjc, hyj, _⟩ | ⟨hjd, _⟩
      · have hyj' := back hyj
        refine ⟨oj', hoj, .inl ⟨hjc, hjd, u, hyj', ih vs (ls.setIfInBounds j true) _ hw hnx (inv.set hj hjn) hfree' (ready_mono hr (Ne.symm hji)) (hy.same (execOp_put oi si a oj'.dst u h3) (wanted_put oi a oj'.dst u h3)) fun v hv => ?_⟩⟩
        obtain ⟨_, ok, hok, hcase'⟩ := (H v hv).2 j (ready_mono hj hji)
        obtain rfl : oj' = ok := Option.some.inj (hoj.symm.trans hok)
        rcases hcase' with ⟨_, _, u', hyk, H'⟩ | ⟨_, hk, _, _⟩ | ⟨hk, _⟩
        · obtain rfl : u' = u := (back hyk).one hyj' (hw.elim fun og h => h.elim fun w h => ⟨vs, og, w, h⟩)
          rw [set_comm _ hji, ← Act.put_comm a v u' h2]
          exact H'
        · exact absurd (List.mem_of_getElem? hk) hjc
        · exact absurd hk hjd
      · have h9 := reach_of inv.closed _ j oj' hoj (fun e he hb => hall e he hb) (hnx j hjc)
        rw [getD_both un] at h9
        cases h9
      · exact absurd hjd hji

/-- The walk in the text's order. -/
def walkPf (P : Program) (G : Value → Prop) (ops : Array Oper) (Cv : List Value → Option Value → World → Prop) (cs : List Nat) (d : Nat) (K : List Value → Option Value → Act → Prop) : Nat → List Value → Option Value → List Oper → Act → Prop
  | _, vs, og, [], a => K vs og a
  | k, vs, og, o :: l, a => (k ∉ cs ∧ k ≠ d ∧ ∃ v, yldF P ops Cv o v a ∧ walkPf P G ops Cv cs d K (k + 1) vs og l (a.put o.dst v)) ∨
      (k ≠ d ∧ cs[vs.length]? = some k ∧ yldG P ops Cv vs og o a ∧ ∀ v, (∃ og w, Cv (vs ++ [v]) og w) → walkPf P G ops Cv cs d K (k + 1) (vs ++ [v]) og l (a.put o.dst v)) ∨
      (k = d ∧ og = none ∧ (∀ j, cs[vs.length]? = some j → reachB .any ops d ops.size j = true) ∧ yldD P G ops Cv o a ∧ ∀ g, G g → walkPf P G ops Cv cs d K (k + 1) vs (some g) l (a.put o.dst g))

theorem pf_lex {n g : Nat} {K : List Value → Option Value → Act → Prop} (hG : ∃ g, G g) (hch : chained .any ops cs) (hsel : Region.noSelect ops = true) (hs : Region.sinkB .any ops n = true) (hc : Region.chainB .any ops n = true) (hn : n < ops.size) :
    ∀ (l : List Oper) (k : Nat) (vs : List Value) (og : Option Value) (ls : Array Bool) (a : Act), (∃ og w, Cv vs og w) → (∀ j, j < l.length → l[j]? = ops[k + j]?) → k + l.length = n → HeadInv .any ops n ls →
    Region.lexHead .any ops g l.length k ls = true → walkPf P G ops Cv cs d K k vs og l a → anyF P G .any ops Cv cs d n (fun vs' og' ls' a' => Region.seqB .any ops g n ls' = true ∧ K vs' og' a') l.length vs og ls a
  | [], k, vs, og, ls, a, _, _, hk, _, hB, h => by
    obtain rfl : k = n := by simpa using hk
    exact ⟨by simpa [Region.lexHead] using hB, h⟩
  | o :: l, k, vs, og, ls, a, hw, hl, hk, inv, hB, h => by
    have h0 : ops[k]? = some o := by simpa using (hl 0 (by simp)).symm
    simp only [List.length_cons] at hk
    simp only [List.length_cons, Region.lexHead, Bool.and_eq_true] at hB
    obtain ⟨⟨hr, hf⟩, hB'⟩ := hB
    have hr' : k ∈ Region.ready .any ops ls := by simpa using hr
    have next : ∀ vs' og' a', (∃ og w, Cv vs' og w) → walkPf P G ops Cv cs d K (k + 1) vs' og' l a' → anyF P G .any ops Cv cs d n (fun vs' og' ls' a' => Region.seqB .any ops g n ls' = true ∧ K vs' og' a') l.length vs' og' (ls.setIfInBounds k true) a' := fun vs' og' a' hw' h' =>
      pf_lex hG hch hsel hs hc hn l (k + 1) vs' og' _ _ hw' (fun j hj => by have := hl (j + 1) (by simp; omega); simpa [Nat.add_assoc, Nat.add_comm 1 j] using this) (by omega) (inv.set hr' (by omega)) hB' h'
    rcases h with ⟨hkc, hkd, v, hy, hK⟩ | ⟨hkd, hkc, hy, hK⟩ | ⟨rfl, rfl, hnx, hy, hK⟩
    · exact pf_plain h0 hkc hkd (Region.noSelect_spec hsel) hs hc hn (by omega) (fun vs' og' ls' a' hL => seqB_ready hL.1) l.length vs og ls a inv (Region.free_spec h0 hf) hr' hy (next vs og _ hw hK)
    · exact pf_call h0 hkd hch (Region.noSelect_spec hsel) hs hc hn (by omega) (fun vs' og' ls' a' hL => seqB_ready hL.1) l.length vs og ls a hkc hw inv (Region.free_spec h0 hf) hr' hy fun v hv => next _ og _ hv (hK v hv)
    · exact pf_float h0 hG (Region.noSelect_spec hsel) hs hc hn (by omega) (fun vs' og' ls' a' hL => seqB_ready hL.1) l.length vs ls a hw hnx inv (Region.free_spec h0 hf) hr' hy fun v hv => next vs (some v) _ hw (hK v hv)

theorem region_pf {id : Nat} {Q : Exit → Act → World → Prop} {a : Act} {w : World} {l : List Oper} (n : Nat) (hG : ∃ g, G g) (hm : P.follows .mixedOrders = true) (hB : Region.lexTailB .any l.toArray n = true) (hch : chainedB .any l.toArray cs = true) (hC : Cv [] none w.drew)
    (h : walkPf P G l.toArray Cv cs d (fun vs og a' => ∀ w', Cv vs og w' → wpList P l.toArray Q (l.drop n) a' w') 0 [] none (l.take n) a) : (Code.region id l.toArray true).wp P Q a w := by
  simp only [Region.lexTailB, Bool.and_eq_true, decide_eq_true_eq] at hB
  obtain ⟨⟨⟨⟨hsel, hn⟩, hs⟩, hc⟩, hlex⟩ := hB
  have hn' : n < l.length := by simpa using hn
  have htl : (l.take n).length = n := by simp; omega
  have hdl : (l.drop n).length = l.toArray.size - n := by simp
  have inv0 : HeadInv .any l.toArray n (Array.replicate l.toArray.size false) :=
    ⟨by simp, fun j oj _ hl => (by rw [getD_replicate_false] at hl; cases hl), fun t _ ht => getD_in (by simpa using ht) (getD_replicate_false _ _)⟩
  have H := pf_lex (g := l.toArray.size - n) hG (chained_of hch) hsel hs hc hn (l.take n) 0 [] none _ a ⟨none, _, hC⟩ (fun j hj => by
    have hj' : j < n := by rw [htl] at hj; exact hj
    simp [hj']) (by simpa using htl) inv0 (by rw [htl]; exact hlex) h
  refine wp_region_any hm ?_
  have := any_of_pf (Q := Q) (g := l.toArray.size - n) (fun vs og ls a' w' hw' hL => by
    have := wpAny_of_seq (md := .any) (Q' := Q) (l.drop n) n ls a' w' (fun j => by simp [List.getElem?_drop]) (by rw [hdl]; exact hL.1) (hL.2 w' hw')
    rwa [hdl] at this) _ _ _ _ _ _ hC H
  rw [htl, show n + (l.toArray.size - n) = l.toArray.size by omega] at this
  exact this

/-- A world of any class. -/
structure PfW (Cv : List Value → Option Value → World → Prop) where
  vs : List Value
  og : Option Value
  w : World
  h : Cv vs og w
theorem PfW.there {w : World} (h : Cv [] none w) : Nonempty (PfW Cv) := ⟨⟨[], none, w, h⟩⟩
theorem pf_quiet {k : Nat} {vs : List Value} {og : Option Value} {o : Oper} {l : List Oper} {a : Act} {K : List Value → Option Value → Act → Prop} (hk : k ∉ cs ∧ k ≠ d) (hp : plainOp2 o = true) (hwt : Region.wanted o (yielded ops a.tmps) = true)
    (h : ∀ K' : Act → Prop, (∀ a', walkPf P G ops Cv cs d K (k + 1) vs og l a' → K' a') → o.quiet P a (fun w' => ∃ x : PfW Cv, w' = x.w) K') : walkPf P G ops Cv cs d K k vs og (o :: l) a := by
  obtain ⟨v, h1, h2⟩ := h _ fun _ h => h
  refine .inl ⟨hk.1, hk.2, v, .inl ⟨hwt, fun vs' og' w hw => ?_⟩, h2⟩
  have h3 := h1 w ⟨⟨vs', og', w, hw⟩, rfl⟩
  unfold Oper.quietAt at h3
  cases hr : (execOp a.eval o).run P w with
  | ok n w' =>
    obtain ⟨u, rfl⟩ := plain_next2 hp hr
    rw [hr] at h3
    simp only [Oper.quietUpon] at h3
    obtain ⟨rfl, rfl⟩ := h3
    rfl
  | halt x w' => rw [hr] at h3; simp only [Oper.quietUpon] at h3
theorem pf_value {k : Nat} {vs : List Value} {og : Option Value} {o : Oper} {l : List Oper} {a : Act} {K : List Value → Option Value → Act → Prop} (hk : k ∉ cs ∧ k ≠ d) (v : Value) (hwt : Region.wanted o (yielded ops a.tmps) = true)
    (hr : ∀ vs' og' w, Cv vs' og' w → (execOp a.eval o).run P w = .ok (.value v) w) (h : walkPf P G ops Cv cs d K (k + 1) vs og l (a.put o.dst v)) : walkPf P G ops Cv cs d K k vs og (o :: l) a :=
  .inl ⟨hk.1, hk.2, v, .inl ⟨hwt, hr⟩, h⟩
theorem pf_enter {k : Nat} {vs : List Value} {o : Oper} {l : List Oper} {a : Act} {K : List Value → Option Value → Act → Prop} {f : FuncId} {args : Array Value} (hk : k ≠ d ∧ cs[vs.length]? = some k) (hwt : Region.wanted o (yielded ops a.tmps) = true) (hin : ∃ og w, Cv vs og w)
    (hr : ∀ og' w, Cv vs og' w → (execOp a.eval o).run P w = .ok (.enter f args) w) (hc : ∀ og' w, Cv vs og' w → Calls P f args w fun e w'' => ∃ v, e = .returned v ∧ Cv (vs ++ [v]) og' w'')
    (h : ∀ v, (∃ og' w, Cv (vs ++ [v]) og' w) → walkPf P G ops Cv cs d K (k + 1) (vs ++ [v]) none l (a.put o.dst v)) : walkPf P G ops Cv cs d K k vs none (o :: l) a :=
  .inr (.inl ⟨hk.1, hk.2, ⟨hwt, (by
    obtain ⟨og, w, hw⟩ := hin
    obtain ⟨e, w', v, _, h2⟩ := Calls.some (hc og w hw)
    exact ⟨v, og, w', h2⟩), fun og' w _ hw => .inl ⟨f, args, hr og' w hw, hc og' w hw⟩⟩, h⟩)
theorem pf_made {k : Nat} {vs : List Value} {o : Oper} {l : List Oper} {a : Act} {K : List Value → Option Value → Act → Prop} (hk : k ≠ d ∧ cs[vs.length]? = some k) (hwt : Region.wanted o (yielded ops a.tmps) = true) (hin : ∃ og w, Cv vs og w)
    (hr : ∀ og' w, Cv vs og' w → ∃ v w'', (execOp a.eval o).run P w = .ok (.value v) w'' ∧ Cv (vs ++ [v]) og' w'')
    (h : ∀ v, (∃ og' w, Cv (vs ++ [v]) og' w) → walkPf P G ops Cv cs d K (k + 1) (vs ++ [v]) none l (a.put o.dst v)) : walkPf P G ops Cv cs d K k vs none (o :: l) a :=
  .inr (.inl ⟨hk.1, hk.2, ⟨hwt, (by
    obtain ⟨og, w, hw⟩ := hin
    obtain ⟨v, w2, _, h2⟩ := hr og w hw
    exact ⟨v, og, w2, h2⟩), fun og' w _ hw => .inr (let ⟨v, w2, h1, h2⟩ := hr og' w hw; ⟨v, w2, .inl h1, h2⟩)⟩, h⟩)
/-- A store into the variable, behind its making. -/
theorem pf_stored {k : Nat} {vs : List Value} {g : Value} {o : Oper} {l : List Oper} {a : Act} {K : List Value → Option Value → Act → Prop} (hk : k ≠ d ∧ cs[vs.length]? = some k) (hwt : Region.wanted o (yielded ops a.tmps) = true) (hin : ∃ og w, Cv (vs ++ [undef]) og w)
    (hr : ∀ w, Cv vs (some g) w → ∃ w'', (execOp a.eval o).run P w = .ok .skip w'' ∧ Cv (vs ++ [undef]) (some g) w'')
    (h : ∀ v, (∃ og' w, Cv (vs ++ [v]) og' w) → walkPf P G ops Cv cs d K (k + 1) (vs ++ [v]) (some g) l (a.put o.dst v)) : walkPf P G ops Cv cs d K k vs (some g) (o :: l) a :=
  .inr (.inl ⟨hk.1, hk.2, ⟨hwt, ⟨undef, hin⟩, fun og' w ho hw => .inr (by
    obtain rfl : og' = some g := ho.resolve_left (by simp)
    obtain ⟨w2, h1, h2⟩ := hr w hw
    exact ⟨undef, w2, .inr ⟨h1, rfl⟩, h2⟩)⟩, h⟩)
theorem pf_floats {k : Nat} {vs : List Value} {o : Oper} {l : List Oper} {a : Act} {K : List Value → Option Value → Act → Prop} (hk : k = d) (hnx : ∀ j, cs[vs.length]? = some j → reachB .any ops d ops.size j = true) (hwt : Region.wanted o (yielded ops a.tmps) = true)
    (hr : ∀ vs' w, Cv vs' none w → ∃ g w'', (execOp a.eval o).run P w = .ok (.value g) w'' ∧ G g ∧ Cv vs' (some g) w'')
    (h : ∀ g, G g → walkPf P G ops Cv cs d K (k + 1) vs (some g) l (a.put o.dst g)) : walkPf P G ops Cv cs d K k vs none (o :: l) a :=
  .inr (.inr ⟨hk, rfl, hnx, ⟨hwt, hr⟩, h⟩)
end
end Go.Proofs.YtahdlkdiadlgeaaGreat
