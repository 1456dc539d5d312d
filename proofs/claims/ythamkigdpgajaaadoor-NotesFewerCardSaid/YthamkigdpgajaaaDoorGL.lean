import Derived.Test.YthamkigdpgajaaaDoorGC
import Derived.Test.YthamkigdpgajaaaDoorGB
import Derived.Test.YthamkigdpgajaaaDoorGE
import Derived.Test.YthamkigdpgajaaaDoorGA
import Derived.RangeFuncNested
import Derived.OrdersIn
import Derived.Test.YthamkigdpgajaaaDoorGJ
import Derived.Test.YthamkigdpgajaaaDoorGD
import Derived.Test.YthamkigdpgajaaaDoorGK
/- What ratio makes of durations. -/
namespace Go.Proofs.YthamkigdpgajaaaDoor.Mt

theorem o_mul (n : Nat) : oN n * 1680 = (n : Int) * oD n := by
  have hg : 0 < Nat.gcd n 1680 := Nat.gcd_pos_of_pos_right _ (by omega)
  obtain ⟨a, ha⟩ := Nat.gcd_dvd_left n 1680
  obtain ⟨b, hb⟩ := Nat.gcd_dvd_right n 1680
  unfold oN oD
  rw [Nat.div_eq_of_eq_mul_right hg ha, Nat.div_eq_of_eq_mul_right hg hb]
  generalize Nat.gcd n 1680 = g at *
  have h1 : (n : Int) = (g : Int) * (a : Int) := by rw [← Int.natCast_mul, ← ha]
  have h2 : (1680 : Int) = (g : Int) * (b : Int) := by rw [← Int.natCast_mul, ← hb]; rfl
  rw [h1, h2]
  rw [← Int.mul_assoc, Int.mul_comm (a : Int) (g : Int)]
theorem oD_pos (n : Nat) : 1 ≤ oD n ∧ oD n ≤ 1680 := by
  have hg : 0 < Nat.gcd n 1680 := Nat.gcd_pos_of_pos_right _ (by omega)
  have hl : Nat.gcd n 1680 ≤ 1680 := Nat.gcd_le_right _ (by omega)
  unfold oD
  have h1 : 0 < 1680 / Nat.gcd n 1680 := Nat.div_pos hl hg
  have h2 := Nat.div_le_self 1680 (Nat.gcd n 1680)
  omega
theorem oN_le (n : Nat) : 0 ≤ oN n ∧ oN n ≤ (n : Int) := by
  unfold oN
  exact ⟨Int.natCast_nonneg _, Int.ofNat_le.2 (Nat.div_le_self ..)⟩
theorem o_vld {n : Nat} (h : n ≤ 1000000000) : Rt.vld (oN n) (oD n) = true := by
  have ht := tk_of h
  have hne : tk (oN n) (oD n) ≠ -1 := by rw [ht]; omega
  rcases tk_cases (oN n) (oD n) with h1 | ⟨_, _, _, _, h5, _⟩
  · exact absurd h1 hne
  · obtain ⟨d1, d2⟩ := oD_pos n
    obtain ⟨n1, n2⟩ := oN_le n
    exact Rt.vld_iff.2 ⟨Rt.lim_iff.2 ⟨by omega, by omega, d1, by omega⟩, h5⟩
theorem make_of {n : Nat} (h : n ≤ 1000000000) : Rt.makeR (n : Int) 1680 = (oN n, oD n, 0) := by
  have ht : Rt.takes (n : Int) 1680 = true := Rt.takes_iff.2 ⟨by omega, by omega, by omega, by omega⟩
  have hr := Rt.red_of (n := (n : Int)) (d := 1680) (by omega) (o_vld h) (by rw [o_mul, Int.mul_comm])
  obtain ⟨e1, e2, e3⟩ := Rt.op_yes (n : Int) 1680
  unfold Rt.makeR
  rw [ht, e1, e2, e3, hr.1, hr.2.1, hr.2.2]
end Go.Proofs.YthamkigdpgajaaaDoor.Mt

/- A region that draws its order, within a round of a loop over a function: walked as outside of one. -/
namespace Go.Proofs.YthamkigdpgajaaaDoor
open Go.RowKit

section
variable {P : Program} {r n : Nat} {Q : Exit → Act → World → Prop}
theorem op_in {o : Oper} {a : Act} {w : World} {K : Act → World → Prop} (hd : ∀ c, o.op ≠ .defer c) (h : o.wp P a w K Q) : o.wpIn (Fence.wide.inRound r) n P a w K Q := by
  unfold Oper.wp at h
  unfold Oper.wpIn
  refine ⟨fun _ _ => trivial, ?_⟩
  rw [Fence.inRound_round, Oper.semAt_some r _ _ hd]
  generalize (execOp a.eval o).run P w = x at *
  cases x with
  | ok x w' =>
    cases x <;> simp only [Oper.upon, Oper.uponIn] at h ⊢ <;>
      first
        | exact h
        | exact h.elim
        | exact ⟨(fun hh => nomatch hh), CallsIn.inRound r (callsIn_wide.2 h)⟩
        | exact ⟨(fun hh => nomatch hh), fun c cs _ => let ⟨v, w2, r1, s⟩ := h c cs; ⟨v, w2, r1, stepsIn_wide.2 s⟩⟩
  | halt x w' => cases x <;> simp only [Oper.upon, Oper.uponIn] at h ⊢ <;> first | exact h | exact h.elim
theorem any_in {md : Region.Mode} {ops : Array Oper} (hd : ∀ (i : Nat) (o : Oper), ops[i]? = some o → ∀ c, o.op ≠ .defer c) (hQ : ¬ LetsOut Q) :
    ∀ (f : Nat) (ls : Array Bool) (a : Act) (w : World), wpAny P md ops Q f ls a w → wpAnyIn (Fence.wide.inRound r) n P md ops Q f ls a w
  | 0, _, _, _, h => h
  | f + 1, ls, a, w, h => by
    refine ⟨h.1, fun i hi => ?_⟩
    have h2 := h.2 i hi
    unfold wpOp at h2
    unfold wpOpIn
    split
    · rename_i ho
      simp only [ho] at h2
      exact any_in hd hQ f _ _ _ h2
    · rename_i o ho
      simp only [ho] at h2
      by_cases hw : Region.wanted o (yielded ops a.tmps)
      · rw [if_pos hw] at h2 ⊢
        rcases h2 with h3 | ⟨_, h3⟩
        · refine op_in (hd i o ho) ?_
          exact Oper.wp_mono (fun a' w' h4 => any_in hd hQ f _ a' w' h4) h3
        · exact absurd h3 hQ
      · rw [if_neg hw] at h2 ⊢
        exact ⟨fun _ _ => trivial, any_in hd hQ f _ _ _ h2⟩

/-- No operation of these puts a call off. -/
def noDefer (l : List Oper) : Bool := l.all fun o => match o.op with | .defer _ => false | _ => true
theorem noDefer_spec {l : List Oper} (h : noDefer l = true) : ∀ (i : Nat) (o : Oper), l.toArray[i]? = some o → ∀ c, o.op ≠ .defer c := fun i o ho c e => by
  have h1 := List.all_eq_true.1 h o (List.mem_of_getElem? (by simpa using ho))
  rw [e] at h1
  cases h1

theorem region_tail_in {C : World → Prop} {id : Nat} {a : Act} {w : World} {l : List Oper} (k : Nat) (hm : P.follows .mixedOrders = true) (hB : Region.lexTailB .any l.toArray k = true) (hnd : noDefer l = true) (hQ : ¬ LetsOut Q) (hC : C w.drew)
    (h : wpQuiet P l.toArray C (fun a' => ∀ w', C w' → wpList P l.toArray Q (l.drop k) a' w') (l.take k) a) : (Code.region id l.toArray true).wpIn (Fence.wide.inRound r) n P Q a w := by
  simp only [Region.lexTailB, Bool.and_eq_true, decide_eq_true_eq] at hB
  obtain ⟨⟨⟨⟨hsel, hn⟩, hs⟩, hc⟩, hlex⟩ := hB
  have hn' : k < l.length := by simpa using hn
  have htl : (l.take k).length = k := by simp; omega
  have hdl : (l.drop k).length = l.toArray.size - k := by simp
  have inv0 : HeadInv .any l.toArray k (Array.replicate l.toArray.size false) :=
    ⟨by simp, fun j oj _ hl => (by rw [getD_replicate_false] at hl; cases hl), fun t _ ht => getD_in (by simpa using ht) (getD_replicate_false _ _)⟩
  have H := till_lex (md := .any) (g := l.toArray.size - k) hsel hs hc hn (l.take k) 0 _ a (fun j hj => by
    have hj' : j < k := by rw [htl] at hj; exact hj
    simp [hj']) (by simpa using htl) inv0 (by rw [htl]; exact hlex) h
  refine wpIn_region_any hm (any_in (noDefer_spec hnd) hQ _ _ _ _ ?_)
  have := any_of_till (Q := Q) (g := l.toArray.size - k) (fun ls a' w' hw' hL => by
    have := wpAny_of_seq (md := .any) (Q' := Q) (l.drop k) k ls a' w' (fun j => by simp [List.getElem?_drop]) (by rw [hdl]; exact hL.1) (hL.2 w' hw')
    rwa [hdl] at this) _ _ _ _ hC H
  rw [htl, show k + (l.toArray.size - k) = l.toArray.size by omega] at this
  exact this
end

theorem Ext.tailIn {W : World} {P : Program} {id r n : Nat} {l : List Oper} {Q : Exit → Act → World → Prop} {a : Act} (k : Nat) (hm : P.follows .mixedOrders = true) (hB : Region.lexTailB .any l.toArray k = true) (hnd : noDefer l = true) (hQ : ¬ LetsOut Q)
    (h : wpQuiet P l.toArray (fun w' => ∃ x : Ext W, w' = x.w) (fun a' => ∀ w', (∃ x : Ext W, w' = x.w) → wpList P l.toArray Q (l.drop k) a' w') (l.take k) a) : (Code.region id l.toArray true).wpIn (Fence.wide.inRound r) n P Q a W :=
  region_tail_in (C := fun w' => ∃ x : Ext W, w' = x.w) k hm hB hnd hQ ⟨⟨W.drew, (Below.refl _ _).drew⟩, rfl⟩ h
end Go.Proofs.YthamkigdpgajaaaDoor

/- A call's own slice of spans in quarters (pairs of ratios); what appending to it leaves. -/
namespace Go.Proofs.YthamkigdpgajaaaDoor
open Go.RowKit

def rowR (s : No.Sp) : List Value := [.int .i64 (Mt.oN s.1.toNat), .int .i64 (Mt.oD s.1.toNat), .int .i64 (Mt.oN s.2.toNat), .int .i64 (Mt.oD s.2.toNat)]
def vR (l : List No.Sp) : List Value := l.flatMap rowR
theorem vR_length : ∀ l : List No.Sp, (vR l).length = l.length * 4
  | [] => rfl
  | n :: l => by
    unfold vR
    rw [List.flatMap_cons, List.length_append, show (rowR n).length = 4 from rfl, show (l.flatMap rowR).length = l.length * 4 from vR_length l, List.length_cons]
    omega
theorem vR_app (a b : List No.Sp) : vR (a ++ b) = vR a ++ vR b := List.flatMap_append ..
theorem vR_one (s : No.Sp) : vR [s] = rowR s := by unfold vR; simp
theorem vR_at : ∀ {l : List No.Sp} {k j : Nat}, k < l.length → j < 4 → (vR l)[k * 4 + j]? = (rowR (l[k]?.getD (0, 0)))[j]?
  | [], _, _, h, _ => by simp at h
  | n :: l, 0, j, _, hj => by
    unfold vR
    rw [List.flatMap_cons, Nat.zero_mul, Nat.zero_add, List.getElem?_append_left (by exact hj)]
    rfl
  | n :: l, k + 1, j, hk, hj => by
    have := vR_at (l := l) (k := k) (j := j) (by simpa using hk) hj
    unfold vR at this ⊢
    rw [List.flatMap_cons, List.getElem?_append_right (by show 4 ≤ _; omega), show (rowR n).length = 4 from rfl, show (k + 1) * 4 + j - 4 = k * 4 + j by omega, this]
    rw [List.getElem?_cons_succ]
theorem vR_cells (l : List No.Sp) : ∀ u ∈ vR l, u.oneCell' = true := fun u hu => by
  obtain ⟨n, _, hn⟩ := List.mem_flatMap.1 hu
  unfold rowR at hn
  simp only [List.mem_cons, List.not_mem_nil, or_false] at hn
  rcases hn with rfl | rfl | rfl | rfl <;> rfl
/-- At this address lie these spans in quarters (nothing is said where there are none). -/
def SlR (w : World) (A : Option Addr) (l : List No.Sp) : Prop :=
  0 < l.length → ∃ b off, A = some ⟨b, off, none⟩ ∧ b < w.heap.size ∧ ∀ k, k < l.length → ∀ j u, (rowR (l[k]?.getD (0, 0)))[j]? = some u → w.cell? ⟨b, off + k * 4 + j, none⟩ = some u
theorem SlR.below {w w' : World} {A : Option Addr} {l : List No.Sp} (h : SlR w A l) (hb : Below w.heap.size w w') : SlR w' A l := fun h0 => by
  obtain ⟨b, off, e, hlt, hc⟩ := h h0
  exact ⟨b, off, e, Nat.lt_of_lt_of_le hlt hb.size, fun k hk j u hj => (hb.cell (p := ⟨b, off + k * 4 + j, none⟩) hlt).trans (hc k hk j u hj)⟩
theorem SlR.nil (w : World) (A : Option Addr) : SlR w A [] := fun h => by simp at h
/-- What a call's own slice holds. -/
theorem own_r {w : World} {base : Nat} {e : TypeId} {v : Value} {n : Nat} {l : List No.Sp} (h : w.ownsRow base e 4 v n (vR l)) : l.length = n ∧ ∃ A cap, v = .slice A n cap ∧ SlR w A l ∧ (A = none → cap = 0) := by
  have hl : l.length = n := by have := h.1; rw [vR_length] at this; omega
  refine ⟨hl, ?_⟩
  rcases h.2 with ⟨hv, hn⟩ | ⟨b, cap, cur, hv, hb, hg, _⟩
  · subst hn
    exact ⟨none, 0, hv, fun h0 => by omega, fun _ => rfl⟩
  · refine ⟨some ⟨b, 0, none⟩, cap, hv, fun h0 => ⟨b, 0, rfl, (Array.getElem?_eq_some_iff.1 hg).1, fun k hk j u hj => ?_⟩, fun h => by cases h⟩
    have hj4 : j < 4 := by have := (List.getElem?_eq_some_iff.1 hj).1; simpa [rowR] using this
    have c := h.cells (g := b) (by rw [hv]; rfl) (k * 4 + j) u (by rw [vR_at hk hj4]; exact hj)
    rw [baddr_off, ← Nat.add_assoc] at c
    exact c

/-- The classes of worlds in a region that appends one member to a call's own slice: before, with the member's slice made, behind. -/
def apC (X : World) (v : Value) (N : Nat) (e : TypeId) (n : Nat) (xs news : List Value) (vs : List Value) (w : World) : Prop :=
  match vs with
  | [] => Below X.heap.size X w
  | [p] => Below X.heap.size X w ∧ ∃ g, p = .slice (some ⟨g, 0, none⟩) 1 1 ∧ X.heap.size ≤ g ∧ g < w.heap.size ∧ ∀ j u, news[j]? = some u → w.cell? ((⟨g, 0, none⟩ : Addr).add j) = some u
  | _ :: v' :: _ => X.grownBy w v.ownBlock ∧ w.ownsRow N e 4 v' (n + 1) (xs ++ news)
theorem grown_below {X w w' : World} {row : Option Nat} (h : X.grownBy w row) (hb : Below w.heap.size w w') : X.grownBy w' row :=
  ⟨hb.os.trans h.os, hb.tape.trans h.tape, hb.output.trans h.output, Nat.le_trans h.size hb.size, fun k hk hn => (hb.block k (Nat.lt_of_lt_of_le hk h.size)).trans (h.block k hk hn)⟩
theorem apC.below {X : World} {v : Value} {N : Nat} {e : TypeId} {n : Nat} {xs news vs : List Value} {w w' : World} (h : apC X v N e n xs news vs w) (hb : Below w.heap.size w w') (_hX : Below X.heap.size X w → X.heap.size ≤ w.heap.size := fun h => h.size) : apC X v N e n xs news vs w' := by
  match vs, h with
  | [], h => exact Below.trans h (Below.mono hb (Below.size h))
  | [p], ⟨h, g, hp, h1, h2, h3⟩ =>
    refine ⟨h.trans (hb.mono h.size), g, hp, h1, Nat.lt_of_lt_of_le h2 hb.size, fun j u hj => ?_⟩
    have := h3 j u hj
    rw [Addr.add_lit] at this ⊢
    exact (hb.cell (p := ⟨g, 0 + j, none⟩) h2).trans this
  | p :: v' :: r, ⟨h1, h2⟩ => exact ⟨grown_below h1 hb, h2.kept (obelow_grown hb none) onone_ne⟩
theorem apC.grown {X : World} {v : Value} {N : Nat} {e : TypeId} {n : Nat} {xs news vs : List Value} {w : World} (h : apC X v N e n xs news vs w) : X.grownBy w v.ownBlock := by
  match vs, h with
  | [], h => exact obelow_grown h _
  | [p], ⟨h, _⟩ => exact obelow_grown h _
  | p :: v' :: r, ⟨h1, h2⟩ => exact h1
theorem apC.cell {X : World} {v : Value} {N : Nat} {e : TypeId} {n : Nat} {xs news vs : List Value} {w : World} (h : apC X v N e n xs news vs w) {b o : Nat} {u : Value} (hne : v.ownBlock ≠ some b) (hc : X.cell? ⟨b, o, none⟩ = some u) : w.cell? ⟨b, o, none⟩ = some u :=
  (World.cell?_of_block (w := X) (a := ⟨b, o, none⟩) (h.grown.block b (World.block_lt_of_cell? _ _ hc) (fun e => hne e.symm))).trans hc

section
variable {P : Program} (w : World)
/-- Appending to an empty slice that has no room is appending to a nil one. -/
theorem append_zero (t ty e : TypeId) (i : TypeInfo) (z : Value) (ht : P.underlying t = some (.slice e)) (hi : P.info? e = some i) (hz : i.zero = some z) (b : Addr)
    (a : Addr) (n c : Nat) (news : List Value) (hl : news.length = n * i.size) (hnews : ∀ j v, news[j]? = some v → w.cell? (a.add j) = some v) (h0 : 0 < n) (h63 : (n : Int) ≤ 9223372036854775807) (h48 : n * i.bytes ≤ 140737488355328) :
    (Builtin.append_ #[t, t] ty #[.slice (some b) 0 0, .slice (some a) n c]).run P w = (Builtin.append_ #[t, t] ty #[.slice none 0 0, .slice (some a) n c]).run P w := by
  have h1 := run_append_nil (P := P) w t ty e i z ht hi hz a n c news hl hnews h0 h63 (by omega)
  have h2 := run_append_grow (P := P) w t ty e i z ht hi hz b 0 0 [] (by simp) (fun j v hj => by simp at hj) a n c news hl hnews (by omega) (by simpa using h63) (by rw [Nat.zero_add, nextslicecap_zero h0]; omega)
  rw [h1, h2]
  simp
/-- What appending one member gives: to such a slice, or to one that the call owns. -/
theorem run_append_ap (N : Nat) (t ty e : TypeId) (i : TypeInfo) (z : Value) (size bytes : Nat) (ht : P.underlying t = some (.slice e)) (hi : P.info? e = some i) (hz : i.zero = some z) (hsize : i.size = size) (hby : i.bytes = bytes) (hzs : z.cells.size = size) (hsz : 0 < size)
    (v : Value) (n : Nat) (xs : List Value) (hst : (∃ b, v = .slice (some b) 0 0 ∧ n = 0 ∧ xs = []) ∨ w.ownsRow N e size v n xs)
    (a : Addr) (c : Nat) (news : List Value) (hl : news.length = 1 * size) (hnews : ∀ j u, news[j]? = some u → w.cell? (a.add j) = some u) (h1 : ∀ u ∈ news, u.oneCell' = true)
    (h63 : n + 1 ≤ maxLen) (hbytes : (n + 1) * bytes ≤ 140737488355328) (hN : N ≤ w.heap.size) :
    ∃ v' w', (Builtin.append_ #[t, t] ty #[v, .slice (some a) 1 c]).run P w = .ok v' w' ∧ w'.ownsRow N e size v' (n + 1) (xs ++ news) ∧ w.grownBy w' v.ownBlock := by
  rcases hst with ⟨b, rfl, rfl, rfl⟩ | hown
  · obtain ⟨v', w', hr, h2, h3, _⟩ := run_append_own (P := P) w N t ty e i z size bytes ht hi hz hsize hby hzs hsz (.slice none 0 0) 0 [] (World.ownsRow_nil _ _ _ _) a 1 c news hl hnews h1 h63 hbytes hN
    refine ⟨v', w', ?_, h2, ⟨h3.os, h3.tape, h3.output, h3.size, fun k hk _ => h3.block k hk (by simp [Value.ownBlock])⟩⟩
    rw [append_zero (P := P) w t ty e i z ht hi hz b a 1 c news (by rw [hsize]; exact hl) hnews (by omega) (by omega) (by rw [hby]; simpa using hbytes)]
    exact hr
  · obtain ⟨v', w', hr, h2, h3, _⟩ := run_append_own (P := P) w N t ty e i z size bytes ht hi hz hsize hby hzs hsz v n xs hown a 1 c news hl hnews h1 h63 hbytes hN
    exact ⟨v', w', hr, h2, h3⟩
end
theorem ap_exec {P : Program} {w w' : World} {o : Oper} {a : Act} {s x : Operand} {t : TypeId} (ho : o.op = .call { callee := .builtin .append, args := #[s, x], argTypes := #[t, t] }) {v y v' : Value} (hs : a.eval s = v) (hx : a.eval x = y)
    (hr : (Builtin.append_ #[t, t] o.type #[v, y]).run P w = .ok v' w') : (execOp a.eval o).run P w = .ok (.value v') w' := by
  unfold execOp
  simp only [ho, resolve, invoke, builtin, Sem.run_bind, Sem.run_pure, Result.andThen_ok, List.map_toArray, List.map_cons, List.map_nil, hs, hx, hr]
theorem infoPair : (Tryd.prog.info? 52).map (fun i => (i.zero, i.size, i.bytes)) = some (some (.agg #[.int .i64 0, .int .i64 0, .int .i64 0, .int .i64 0]), 4, 32) := by kernel_rfl
end Go.Proofs.YthamkigdpgajaaaDoor

/- The law for regions with memory made, within a round of a loop over a function. -/
namespace Go.Proofs.YthamkigdpgajaaaDoor
open Go.RowKit

theorem region_pv_in {P : Program} {V : FuncId → Array Value → Value} {Cv : List Value → World → Prop} {cs : List Nat} {r m : Nat} {id : Nat} {Q : Exit → Act → World → Prop} {a : Act} {w : World} {l : List Oper} (n : Nat) (hm : P.follows .mixedOrders = true) (hB : Region.lexTailB .any l.toArray n = true) (hch : chainedB .any l.toArray cs = true) (hnd : noDefer l = true) (hQ : ¬ LetsOut Q) (hC : Cv [] w.drew)
    (h : walkPv P V l.toArray Cv cs (fun vs a' => ∀ w', Cv vs w' → wpList P l.toArray Q (l.drop n) a' w') 0 [] (l.take n) a) : (Code.region id l.toArray true).wpIn (Fence.wide.inRound r) m P Q a w := by
  simp only [Region.lexTailB, Bool.and_eq_true, decide_eq_true_eq] at hB
  obtain ⟨⟨⟨⟨hsel, hn⟩, hs⟩, hc⟩, hlex⟩ := hB
  have hn' : n < l.length := by simpa using hn
  have htl : (l.take n).length = n := by simp; omega
  have hdl : (l.drop n).length = l.toArray.size - n := by simp
  have inv0 : HeadInv .any l.toArray n (Array.replicate l.toArray.size false) :=
    ⟨by simp, fun j oj _ hl => (by rw [getD_replicate_false] at hl; cases hl), fun t _ ht => getD_in (by simpa using ht) (getD_replicate_false _ _)⟩
  have H := pv_lex (md := .any) (g := l.toArray.size - n) (chained_of hch) hsel hs hc hn (l.take n) 0 [] _ a ⟨_, hC⟩ (fun j hj => by
    have hj' : j < n := by rw [htl] at hj; exact hj
    simp [hj']) (by simpa using htl) inv0 (by rw [htl]; exact hlex) h
  refine wpIn_region_any hm (any_in (noDefer_spec hnd) hQ _ _ _ _ ?_)
  have := any_of_pv (Q := Q) (g := l.toArray.size - n) (fun vs ls a' w' hw' hL => by
    have := wpAny_of_seq (md := .any) (Q' := Q) (l.drop n) n ls a' w' (fun j => by simp [List.getElem?_drop]) (by rw [hdl]; exact hL.1) (hL.2 w' hw')
    rwa [hdl] at this) _ _ _ _ _ hC H
  rw [htl, show n + (l.toArray.size - n) = l.toArray.size by omega] at this
  exact this

end Go.Proofs.YthamkigdpgajaaaDoor

/- The walks of notes' quarters and pairs. -/
namespace Go.Proofs.YthamkigdpgajaaaDoor
open Go.RowKit Go.Shelf Go.Maps

attribute [local go_sem] Oper.semAt_some

set_option maxHeartbeats 800000 in
theorem tquarters_is (u : Int) (N D : Int) (h0 : 0 ≤ u) (hu : u ≤ 1000000) (h1 : Mt.oN u.toNat = N) (h2 : Mt.oD u.toNat = D) (w : World) :
    Calls Tryd.prog 69 #[.int .i64 u] w fun e w' => e = .returned (.agg #[.int .i64 N, .int .i64 D]) ∧ Below w.heap.size w w' := by
  have G0 := (Below.refl w.heap.size w).alloc (Nat.le_refl _) (.cells #[.int .i64 0, .int .i64 0] 38)
  have V0 : Var2 (w.alloc (.cells #[.int .i64 0, .int .i64 0] 38)) w.heap.size 0 0 := Var2.new _ _ _ _
  have HM : Hid (Rt.makeR u 1680 = (N, D, 0)) := Lib.hid (by
    have h := Mt.make_of (n := u.toNat) (by omega)
    rw [h1, h2, Int.toNat_of_nonneg h0] at h
    exact h)
  clear h1 h2
  go_enter Tryd.func69, Tryd.ntmps69
  go_wp2_with fail
  refine (mquarters_is u N D 0 HM.out _).mono ?_; rintro e w2 ⟨rfl, hb⟩
  have V := (V0.below hb).alloc (.cells #[.int .i64 N, .int .i64 D] 38)
  have A := At2.new w2 N D 38
  have G1 := (G0.trans (hb.mono G0.size)).alloc (by have := hb.size; simp at this; omega) (.cells #[.int .i64 N, .int .i64 D] 38)
  obtain ⟨v0, v1, f0, f1⟩ := And.intro V.at2.c0 (And.intro V.at2.c1 (And.intro V.f0 V.f1))
  obtain ⟨a0, a1⟩ := And.intro A.c0 A.c1
  clear hb V0 V A
  go_wp2_with fail
  refine bodyPost_ret (v := .agg #[.int .i64 N, .int .i64 D]) (by simp [results, Tryd.results69, go_sem, v0, v1]) rfl ⟨rfl, (G1.setCell (by simp <;> omega) _).setCell (by simp <;> omega) _⟩

/-- What quarters hands back. -/
def qV (args : Array Value) : Value := match args[0]? with
  | some (Value.int _ u) => .agg #[.int .i64 (Mt.oN u.toNat), .int .i64 (Mt.oD u.toNat)]
  | _ => undef

set_option maxHeartbeats 8000000 in
set_option maxRecDepth 100000 in
theorem tpairs_is (full : List No.Sp) (sp : Nat) (lb : Array Value) (d : Nat) (esp : ∀ args w, (callFunc sp args).run Tryd.prog w = .ok (.enter sp args) w) (hlen : full.length ≤ 1000000) (hfull : ∀ s ∈ full, 0 ≤ s.1 ∧ s.1 ≤ 1000000 ∧ 0 ≤ s.2 ∧ s.2 ≤ 1000000) (w : World)
    (hin : Seq2 Tryd.prog sp lb (fun x : No.Sp => #[Value.agg #[.int .i64 x.1, .int .i64 x.2]]) w.heap.size d full w) :
    Calls Tryd.prog 43 #[.func (.func sp) #[] lb] w fun e w' => Below w.heap.size w w' ∧ ∃ A n c, e = .returned (.slice A n c) ∧ full.length = n ∧ SlR w' A full ∧ (A = none → c = 0) ∧ n ≤ c := by
  have HIN := Lib.hid hin
  have HFU := Lib.hid hfull
  clear hin hfull
  obtain ⟨i0, hi, hz0, hz1, hz2⟩ := info_parts infoPair
  refine (callsIn_wide (n := 10)).1 (callsIn_of_wp_marks Tryd.func43 rfl trivial (wpIn_wide.2 ?_) rfl)
  simp only [Tryd.ntmps43, List.size_toArray, List.length_cons, List.length_nil, Nat.reduceAdd, Nat.reduceSub, Array.replicate_succ, Array.replicate_zero, List.push_toArray, List.append_toArray, List.nil_append, List.cons_append]
  go_wp2_with fail
  obtain ⟨w3, hw3⟩ : ∃ w3, (w.alloc (.cells #[] 52)).alloc (.cells #[.slice (some ⟨w.heap.size, 0, none⟩) 0 0] 31) = w3 := ⟨_, rfl⟩
  have hs3 : w3.heap.size = w.heap.size + 2 := by rw [← hw3]; simp
  have G3 : Below w.heap.size w w3 := by rw [← hw3]; exact ((Below.refl _ _).alloc (Nat.le_refl _) _).alloc (by simp) _
  have B3 : w3.cell? ⟨w.heap.size + 1, 0, none⟩ = some (.slice (some ⟨w.heap.size, 0, none⟩) 0 0) ∧ w3.frozen? ⟨w.heap.size + 1, 0, none⟩ = false := by
    have h := new1 (w.alloc (.cells #[] 52)) (.slice (some ⟨w.heap.size, 0, none⟩) 0 0) 31
    rw [World.size_alloc] at h
    rw [← hw3]; exact h
  rw [hw3]
  clear hw3
  refine wp_seq2 (gf := sp) (lb := lb) rfl esp HIN.out (by omega) G3 (fun _ => rfl)
    (fun m pre X => (∃ v, (∀ j, v.ownBlock = some j → j < m ∧ w.heap.size ≤ j ∧ (j < w3.heap.size ∨ w3.heap.size + 2 + d ≤ j) ∧ j ≠ w.heap.size + 1) ∧ X.cell? ⟨w.heap.size + 1, 0, none⟩ = some v ∧ ((pre = [] ∧ v = .slice (some ⟨w.heap.size, 0, none⟩) 0 0) ∨ X.ownsRow (w3.heap.size + 2 + d) 52 4 v pre.length (vR pre))) ∧ X.frozen? ⟨w.heap.size + 1, 0, none⟩ = false ∧ Below w.heap.size w X)
    (fun _ _ => False) false 0 ?hmono ?hI (fun _ _ _ h _ => h) ?h0
    (fun _ x a' X => ∃ b, w3.heap.size + 2 + d ≤ b ∧ At2 X b x.1 x.2 ∧ (∀ v, X.cell? ⟨w.heap.size + 1, 0, none⟩ = some v → v.ownBlock ≠ some b) ∧ a' = { tmps := #[.func (.func sp) #[] lb, undef, .slice none 0 0, .pointer (some ⟨w.heap.size + 1, 0, none⟩), .pointer (some ⟨b, 0, none⟩), .slice (some ⟨w.heap.size, 0, none⟩) 0 0, .func (.func sp) #[] lb, .agg #[.int .i64 x.1, .int .i64 x.2], undef, undef, undef, undef, undef, undef, undef, undef, undef, undef, undef], defers := [] })
    ?hAx ?assign ?body ?done ?stop
  case hmono =>
    rintro m m2 s X hm ⟨⟨v, hv, hc, ho⟩, hf, hG⟩
    exact ⟨⟨v, fun j hj => ⟨Nat.lt_of_lt_of_le (hv j hj).1 hm, (hv j hj).2⟩, hc, ho⟩, hf, hG⟩
  case hI =>
    rintro m s X Y ⟨⟨v, hv, hc, ho⟩, hf, hG⟩ hb
    exact ⟨⟨v, hv, hb.cell (.inl (by simp; omega)) hc, ho.imp id (fun h => own_acts h hb)⟩, (hb.frozen (.inl (by simp; omega)) hc).trans hf, hG.trans (hb.below (by omega) hG.size)⟩
  case h0 => exact ⟨⟨_, fun j hj => (by have h := Option.some.inj hj; simp only at h; subst h; omega), B3.1, .inl ⟨rfl, rfl⟩⟩, B3.2, G3⟩
  case hAx =>
    rintro m x a' X o o' ⟨b, hb, hA, hv, rfl⟩ _ _
    have hne : b ≠ w3.heap.size + 1 := by omega
    have hne2 : w.heap.size + 1 ≠ w3.heap.size + 1 := by omega
    refine ⟨b, hb, ⟨by have := hA.lt; simpa using this, (World.cell?_of_block (w := X) (a := ⟨b, 0, none⟩) (World.putObj_heap_other hne)).trans hA.c0, (World.cell?_of_block (w := X) (a := ⟨b, 1, none⟩) (World.putObj_heap_other hne)).trans hA.c1⟩, fun v hc => hv v ?_, rfl⟩
    rw [← hc]
    exact (World.cell?_of_block (w := X) (a := ⟨w.heap.size + 1, 0, none⟩) (World.putObj_heap_other hne2)).symm
  case assign =>
    rintro L m pre x X hpre hm1 hm2 ⟨⟨v, hv, hc, ho⟩, hf, hG⟩ hz
    gi_wp2
    refine ⟨(Kr.refl _ _ _ _ _).alloc _, ⟨⟨v, hv, keep_alloc hc _, ho.imp id (fun h => h.alloc _)⟩, ?_, hG.alloc hG.size _⟩, X.heap.size, hz, At2.new _ _ _ _, fun v' hc' => ?_, rfl⟩
    · exact (((Below.refl X.heap.size X).alloc (Nat.le_refl _) _).frozen (p := ⟨w.heap.size + 1, 0, none⟩) (World.block_lt_of_cell? _ _ hc)).trans hf
    · rw [keep_alloc hc _] at hc'
      cases hc'
      intro e
      have := (hv _ e).1
      omega
  case body =>
    rintro L m pre x a' X hpre hm1 hm2 ⟨⟨v, hv, hc, ho⟩, hf, hG⟩ ⟨b, hb, hA, hvb, rfl⟩ hz
    have hxm : x ∈ full := hpre.subset (by simp)
    obtain ⟨b0, b1, b2, b3⟩ := HFU.out x hxm
    have hpl : pre.length + 1 ≤ 1000000 := by have := hpre.length_le; rw [List.length_append] at this; simp at this; omega
    have hnb : v.ownBlock ≠ some (w.heap.size + 1) := fun e => (hv _ e).2.2.2 rfl
    have hvb2 := hvb v hc
    obtain ⟨N1, hN1⟩ : ∃ z, Mt.oN x.1.toNat = z := ⟨_, rfl⟩
    obtain ⟨D1, hD1⟩ : ∃ z, Mt.oD x.1.toNat = z := ⟨_, rfl⟩
    obtain ⟨N2, hN2⟩ : ∃ z, Mt.oN x.2.toNat = z := ⟨_, rfl⟩
    obtain ⟨D2, hD2⟩ : ∃ z, Mt.oD x.2.toNat = z := ⟨_, rfl⟩
    have HQ1 : Hid (qV #[.int .i64 x.1] = .agg #[.int .i64 N1, .int .i64 D1]) := Lib.hid (by rw [← hN1, ← hD1]; rfl)
    have HQ2 : Hid (qV #[.int .i64 x.2] = .agg #[.int .i64 N2, .int .i64 D2]) := Lib.hid (by rw [← hN2, ← hD2]; rfl)
    have HROW : Hid (rowR x = [.int .i64 N1, .int .i64 D1, .int .i64 N2, .int .i64 D2]) := Lib.hid (by unfold rowR; rw [hN1, hD1, hN2, hD2])
    have HC1 := Lib.hid (fun w' => tquarters_is x.1 N1 D1 b0 b1 hN1 hD1 w')
    have HC2 := Lib.hid (fun w' => tquarters_is x.2 N2 D2 b2 b3 hN2 hD2 w')
    have HO := Lib.hid ho
    have HV := Lib.hid hv
    obtain ⟨Cv, hCv⟩ : ∃ Cv, apC X v (w3.heap.size + 2 + d) 52 pre.length (vR pre) [.int .i64 N1, .int .i64 D1, .int .i64 N2, .int .i64 D2] = Cv := ⟨_, rfl⟩
    have hx0 : ∀ vs w', Cv vs w' → w'.cell? ⟨w.heap.size + 1, 0, none⟩ = some v := fun vs w' h => by rw [← hCv] at h; exact h.cell hnb hc
    have hx1 : ∀ vs w', Cv vs w' → w'.cell? ⟨b, 0, none⟩ = some (.int .i64 x.1) := fun vs w' h => by rw [← hCv] at h; exact h.cell hvb2 hA.c0
    have hx2 : ∀ vs w', Cv vs w' → w'.cell? ⟨b, 1, none⟩ = some (.int .i64 x.2) := fun vs w' h => by rw [← hCv] at h; exact h.cell hvb2 hA.c1
    have x0 := fun y : PvW Cv => hx0 y.vs y.w y.h
    have x1 := fun y : PvW Cv => hx1 y.vs y.w y.h
    have x2 := fun y : PvW Cv => hx2 y.vs y.w y.h
    clear hx0 hx1 hx2
    have hst : Cv [] X.drew := by rw [← hCv]; exact (Below.refl _ _).drew
    have hst0 : Cv [] X := by rw [← hCv]; exact Below.refl _ _
    have hne : Nonempty (PvW Cv) := PvW.there hst0
    have HBL : Hid (∀ vs w1 w2, Cv vs w1 → Below w1.heap.size w1 w2 → Cv vs w2) := Lib.hid (fun vs w1 w2 h hb => by rw [← hCv] at h ⊢; exact h.below hb)
    have HCV := Lib.hid hCv
    clear hN1 hD1 hN2 hD2 ho hv hvb hA hCv
    gi_wp2
    refine region_pv_in (V := fun _ args => qV args) (cs := [8, 9]) (Cv := Cv) 10 (by kernel_rfl) (by kernel_rfl) (by kernel_rfl) (by kernel_rfl) (by rintro ⟨_, _, h⟩; exact h) hst ?_
    simp only [List.take_succ_cons, List.take_zero, List.drop_succ_cons, List.drop_zero]
    iterate 3 (refine pv_quiet (by decide) rfl rfl ?_; intro K' hK'; go_big_quiet_op; go_big_quiet_on)
    refine pv_kept (f := 69) (args := #[.int .i64 x.1]) (by decide) (.agg #[.int .i64 N1, .int .i64 D1]) rfl (fun vs' w' hw' => ?_) HQ1.out (fun vs' w' hw' => ?_) ?_
    · simp [go_sem]
    · refine (HC1.out w').mono ?_
      rintro e w2 ⟨rfl, hb2⟩
      exact ⟨rfl, HBL.out _ _ _ hw' hb2⟩
    simp only [Act.put, List.setIfInBounds_toArray, List.set_cons_succ, List.set_cons_zero]
    iterate 2 (refine pv_quiet (by decide) rfl rfl ?_; intro K' hK'; go_big_quiet_op; go_big_quiet_on)
    refine pv_kept (f := 69) (args := #[.int .i64 x.2]) (by decide) (.agg #[.int .i64 N2, .int .i64 D2]) rfl (fun vs' w' hw' => ?_) HQ2.out (fun vs' w' hw' => ?_) ?_
    · simp [go_sem]
    · refine (HC2.out w').mono ?_
      rintro e w2 ⟨rfl, hb2⟩
      exact ⟨rfl, HBL.out _ _ _ hw' hb2⟩
    simp only [Act.put, List.setIfInBounds_toArray, List.set_cons_succ, List.set_cons_zero]
    iterate 1 (refine pv_quiet (by decide) rfl rfl ?_; intro K' hK'; go_big_quiet_op; go_big_quiet_on)
    refine pv_made rfl rfl (fun w' hw' => ⟨.slice (some ⟨w'.heap.size, 0, none⟩) 1 1, w'.alloc (.cells #[.int .i64 N1, .int .i64 D1, .int .i64 N2, .int .i64 D2] 52), ?_, ?_⟩) ?_
    · go_simp
    · rw [← HCV.out] at hw' ⊢
      have hb' : Below X.heap.size X w' := hw'
      refine ⟨hb'.alloc hb'.size _, w'.heap.size, rfl, hb'.size, by simp, fun j u hj => ?_⟩
      rw [Addr.add_lit]
      match j, hj with
      | 0, hj => simp at hj; subst hj; go_simp
      | 1, hj => simp at hj; subst hj; go_simp
      | 2, hj => simp at hj; subst hj; go_simp
      | 3, hj => simp at hj; subst hj; go_simp
      | j + 4, hj => simp at hj
    rintro p ⟨wp, hwp⟩
    have hwp2 := hwp
    rw [← HCV.out] at hwp2
    obtain ⟨-, g, rfl, hg1, -, -⟩ := hwp2
    simp only [Act.put, List.setIfInBounds_toArray, List.set_cons_succ, List.set_cons_zero]
    have hnN : w3.heap.size + 2 + d ≤ X.heap.size := hz
    refine pv_made rfl rfl (fun w' hw' => ?_) ?_
    · rw [← HCV.out] at hw' ⊢
      obtain ⟨hbw, g', e', k1, k2, hnews⟩ := hw'
      cases e'
      obtain ⟨v', w2, hr, h2, h3⟩ := run_append_ap (P := Tryd.prog) w' (w3.heap.size + 2 + d) 31 31 52 i0 (.agg #[.int .i64 0, .int .i64 0, .int .i64 0, .int .i64 0]) 4 32 Tryd.underlying31 hi hz0 hz1 hz2 rfl (by decide) v pre.length (vR pre) (by
          rcases HO.out with ⟨rfl, hv⟩ | h
          · exact .inl ⟨_, hv, rfl, rfl⟩
          · exact .inr (h.kept (obelow_grown hbw none) onone_ne)) ⟨g, 0, none⟩ 1 [.int .i64 N1, .int .i64 D1, .int .i64 N2, .int .i64 D2] rfl hnews (fun u hu => by simp at hu; rcases hu with rfl | rfl | rfl | rfl <;> rfl) (by unfold maxLen; omega) (by omega) (Nat.le_trans hnN hbw.size)
      refine ⟨v', w2, ?_, ⟨hbw.os ▸ h3.os, hbw.tape ▸ h3.tape, hbw.output ▸ h3.output, Nat.le_trans hbw.size h3.size, fun k hk hn => (h3.block k (Nat.lt_of_lt_of_le hk hbw.size) hn).trans (hbw.block k hk)⟩, h2⟩
      exact ap_exec rfl rfl rfl hr
    · rintro v' ⟨wq, hwq⟩
      have hwq2 := hwq
      rw [← HCV.out] at hwq2
      obtain ⟨-, hownq⟩ := hwq2
      obtain ⟨g', cap', rfl⟩ := ownsRow_succ hownq
      clear hownq hwq
      simp only [Act.put, List.setIfInBounds_toArray, List.set_cons_succ, List.set_cons_zero]
      rintro w5 hw5
      rw [← HCV.out] at hw5
      obtain ⟨hgrow, hown'⟩ := hw5
      have hlt : w.heap.size + 1 < X.heap.size := World.block_lt_of_cell? _ _ hc
      have K1 : Kr w.heap.size w3.heap.size (w3.heap.size + 2 + d) m X w5 := (Kr.refl _ _ _ _ X).grown hgrow (fun j hj => by have := HV.out j hj; omega)
      have hG1 := hG.grown hgrow hG.size (fun j hj => by have := HV.out j hj; omega)
      have hc1 := (World.cell?_of_block (w := X) (w' := w5) (a := ⟨w.heap.size + 1, 0, none⟩) (hgrow.block _ hlt (fun e => hnb e.symm))).trans hc
      have hf1 := (World.frozen?_of_block (w := X) (w' := w5) (a := ⟨w.heap.size + 1, 0, none⟩) (hgrow.block _ hlt (fun e => hnb e.symm))).trans hf
      clear x0 x1 x2 hne
      go_wp2_with fail
      refine ⟨K1.setCell (p := ⟨w.heap.size + 1, 0, none⟩) (by simp) (.inl (by simp; omega)) (by simp; omega) _, ⟨_, ?_, World.cell?_setCell_same' _ _ _ (by rw [hc1]; rfl), .inr ?_⟩, by rw [World.frozen?_setCell]; exact hf1, hG1.setCell (p := ⟨w.heap.size + 1, 0, none⟩) (by simp) _⟩
      · intro j hj
        have h := hown'.lt j hj
        simp
        omega
      · rw [List.length_append, List.length_singleton, vR_app, vR_one, HROW.out]
        exact ownsRow_setCell_below hown' (by simp; omega) _
  case done =>
    rintro D X hD hzX ⟨m, _, ⟨v, hv, hc, ho⟩, hf, hG⟩ hK
    obtain rfl : D = w.heap.size + 2 := by omega
    rcases ho with ⟨hfn, rfl⟩ | ho
    · go_wp2_with fail
      refine ⟨by simp, .inl ⟨_, _, rfl, run_takeDeferred hK, ?_⟩⟩
      exact ⟨_, results_tmp rfl _ _ _, hG.trans (putObj_below (by omega) hG.size), _, 0, 0, rfl, by rw [hfn]; rfl, by rw [hfn]; exact SlR.nil _ _, fun _ => rfl, Nat.le_refl _⟩
    · have ho2 := ownsRow_putObj ho (.deferred none) hK rfl
      obtain ⟨_, A, c, rfl, hs, hA⟩ := own_r ho2
      have hnc : full.length ≤ c := by
        rcases ho2.2 with ⟨h1, h2⟩ | ⟨g, cap, cur, h1, h2, h3, h4, _⟩
        · injection h1 with e1 e2 e3; omega
        · injection h1 with e1 e2 e3; omega
      have HS := Lib.hid hs
      have HA := Lib.hid hA
      clear ho ho2 hs hA
      go_wp2_with fail
      refine ⟨by simp, .inl ⟨_, _, rfl, run_takeDeferred hK, ?_⟩⟩
      exact ⟨_, results_tmp rfl _ _ _, hG.trans (putObj_below (by omega) hG.size), A, full.length, c, rfl, rfl, HS.out, HA.out, hnc⟩
  case stop =>
    rintro D pre X hD hpre h
    exact h.elim
end Go.Proofs.YthamkigdpgajaaaDoor

/- The walks of notes' Busy and Rests. -/
namespace Go.Proofs.YthamkigdpgajaaaDoor
open Go.RowKit Go.Shelf Go.Maps

namespace No
theorem addS_length (s : Sp) : ∀ l : List Sp, (addS s l).length ≤ l.length + 1
  | [] => by simp [addS]
  | r :: l => by rw [addS_cons]; split <;> simp
theorem fold_length : ∀ (l acc : List Sp), (l.foldl (fun acc s => addS s acc) acc).length ≤ acc.length + l.length
  | [], acc => by simp
  | s :: l, acc => by
    rw [List.foldl_cons]
    have h1 := fold_length l (addS s acc)
    have h2 := addS_length s acc
    simp only [List.length_cons]
    omega
theorem join_length (l : List Sp) : (join l).length ≤ l.length := by
  unfold join joinR
  rw [List.length_reverse]
  have := fold_length l []
  simpa using this
theorem gaps_length (e : Int) : ∀ (l : List Sp) (f : Int), (gaps e f l).length ≤ l.length + 1
  | [], f => by unfold gaps; split <;> simp
  | s :: l, f => by
    have := gaps_length e l s.2
    unfold gaps
    split <;> simp <;> omega
theorem bt_in {bs : List Mt.B} (h : Mt.Val bs) {r : Nat} (hr : r < bs.length) : 1 ≤ Mt.bt (atB bs r) ∧ Mt.bt (atB bs r) ≤ 40320 := by
  obtain ⟨_, _, h1, h2, _⟩ := h.2.2.1 r hr
  exact ⟨h1, h2⟩
theorem own_ok {bs : List Mt.B} {l : List Nt} (h : Val bs l) (part bar : Int) : ∀ n ∈ own bs l part bar, 0 ≤ start n ∧ 0 < leng n ∧ start n + leng n ≤ 1000000 := fun n hn => by
  obtain ⟨h1, _, _⟩ := own_mem.1 hn
  have h2 := h.2.2.1 n h1
  have h3 := h2.1
  have h4 := bix_lt bs n.ba
  have h5 := (bt_in h.1 (r := (bix bs n.ba).toNat) (by omega)).2
  obtain ⟨_, _, _, _, _, _, _, _, _, _, k1, k2, k3⟩ := h2
  exact ⟨k1, k2, by omega⟩
theorem busy_lim {bs : List Mt.B} {l : List Nt} (h : Val bs l) {part bar : Int} (_hb : 0 ≤ bix bs bar) : (busy bs l part bar).length ≤ 20000 ∧ ∀ s ∈ busy bs l part bar, 0 ≤ s.1 ∧ s.1 < s.2 ∧ s.2 ≤ Mt.bt (atB bs (bix bs bar).toNat) := by
  refine ⟨?_, fun s hs => ?_⟩
  · have h1 := join_length ((own bs l part bar).map spn)
    have h2 := own_le bs l part bar
    have h3 := h.2.1
    rw [List.length_map] at h1
    unfold busy
    omega
  · have h1 := busy_in h part bar s hs
    have h2 := ok_all (busy_ok h part bar).1 s hs
    exact ⟨h1.1, h2, h1.2⟩
theorem rests_lim {bs : List Mt.B} {l : List Nt} (h : Val bs l) {part bar : Int} (hb : 0 ≤ bix bs bar) : (rests bs l part bar).length ≤ 20001 ∧ ∀ s ∈ rests bs l part bar, 0 ≤ s.1 ∧ s.1 < s.2 ∧ s.2 ≤ Mt.bt (atB bs (bix bs bar).toNat) := by
  have h4 := bix_lt bs bar
  have h5 := bt_in h.1 (r := (bix bs bar).toNat) (by omega)
  have g := gaps_ok (Mt.bt (atB bs (bix bs bar).toNat)) (l := busy bs l part bar) (f := 0) (busy_ok h part bar).1 (fun s hs => busy_in h part bar s hs) (by omega)
  refine ⟨?_, fun s hs => ?_⟩
  · have h1 := gaps_length (Mt.bt (atB bs (bix bs bar).toNat)) (busy bs l part bar) 0
    have h2 := (busy_lim h (part := part) hb).1
    unfold rests
    omega
  · have h1 := g.2.1 s hs
    have h2 := ok_all g.1 s hs
    exact ⟨h1.1, h2, h1.2⟩
end No

/-- What Busy and Rests answer. -/
def SpP (bs : List Mt.B) (l : List No.Nt) (part bar : Int) (R : List No.Sp) (e : Ending) (w' : World) : Prop :=
  (¬ (No.Val bs l ∧ (1 ≤ part ∧ part ≤ 1000000) ∧ 1 ≤ bar ∧ bar ≤ 1000000) ∧ e = .returned (.tuple #[.slice none 0 0, .int .i64 1])) ∨
  ((No.Val bs l ∧ (1 ≤ part ∧ part ≤ 1000000) ∧ 1 ≤ bar ∧ bar ≤ 1000000) ∧ No.bix bs bar < 0 ∧ e = .returned (.tuple #[.slice none 0 0, .int .i64 21])) ∨
  ((No.Val bs l ∧ (1 ≤ part ∧ part ≤ 1000000) ∧ 1 ≤ bar ∧ bar ≤ 1000000) ∧ ¬ No.bix bs bar < 0 ∧ ∃ D n c, e = .returned (.tuple #[.slice D n c, .int .i64 0]) ∧ R.length = n ∧ SlR w' D R ∧ (D = none → c = 0) ∧ n ≤ c)

set_option maxHeartbeats 1600000 in
theorem tbusy_is (bs : List Mt.B) (l : List No.Nt) (part bar : Int) (blen bcap len cap : Nat) (B A : Option Addr) (hbl : bs.length = blen) (hl : l.length = len) (hwb : Mt.Wf bs) (hwn : No.Wf l) (w : World) (hB : SlB w B bs) (hL : SlO w A l) (hG : Glob w) :
    Calls Tryd.prog 18 #[.slice B blen bcap, .slice A len cap, .int .i64 part, .int .i64 bar] w fun e w' => SpP bs l part bar (No.busy bs l part bar) e w' ∧ Below w.heap.size w w' := by
  have HB := Lib.hid hB
  have HL := Lib.hid hL
  have HN := Lib.hid hbl
  have HM := Lib.hid hl
  have HWB := Lib.hid hwb
  have HWN := Lib.hid hwn
  have HG := Lib.hid hG
  clear hbl hl hB hL hwb hwn hG
  go_enter Tryd.func18, Tryd.ntmps18
  go_wp2_with fail
  refine (tof_is bs l part bar blen bcap len cap B A HN.out HM.out HWB.out HWN.out _ HB.out HL.out HG.out).mono ?_
  rintro e w1 ⟨⟨h1, rfl⟩ | ⟨h1, h2, rfl⟩ | ⟨h1, h2, D, n, c, rfl, h3, h4, h5, h6⟩, hb⟩
  · have H1 := Lib.hid h1
    clear h1
    go_wp2_with fail
    go_ret2
    exact ⟨.inl ⟨H1.out, rfl⟩, hb⟩
  · have H1 := Lib.hid h1
    have H2 := Lib.hid h2
    clear h1 h2
    go_wp2_with fail
    go_ret2
    exact ⟨.inr (.inl ⟨H1.out, H2.out, rfl⟩), hb⟩
  · have H1 := Lib.hid h1
    have H2 := Lib.hid h2
    have H3 := Lib.hid h3
    have H4 := Lib.hid h4
    clear h1 h2 h3 h4 h5 h6
    go_wp2_with fail
    refine (tspansm_is D n c _).mono ?_; rintro e w2 ⟨rfl, rfl⟩
    have cb := (new1 w1 (.slice D n c) 23).1
    have b2 := (Below.refl w1.heap.size w1).alloc (Nat.le_refl _) (.cells #[.slice D n c] 23)
    have L2 := H4.out.below b2
    have z2 : w1.heap.size < (w1.alloc (.cells #[.slice D n c] 23)).heap.size := by simp
    generalize w1.alloc (.cells #[.slice D n c] 23) = w2 at *
    have hlim := No.busy_lim H1.out.1 (part := part) (bar := bar) (by have := H2.out; omega)
    have hbt : Mt.bt (atB bs (No.bix bs bar).toNat) ≤ 40320 := (No.bt_in H1.out.1.1 (by have := No.bix_lt bs bar; have := H2.out; omega)).2
    have hown := own_le bs l part bar
    have hvl := H1.out.1.2.1
    have hseq := tspans_seq (No.own bs l part bar) n c D w1.heap.size w2.heap.size H3.out (by have := H3.out; omega) (No.own_ok H1.out.1 part bar) w2 z2 (Nat.le_refl _) cb (fun h0 b off e => by
      obtain ⟨b', off', e', hlt, _⟩ := L2 h0
      rw [e] at e'
      cases e'
      exact hlt) L2
    have hp := tpairs_is (No.busy bs l part bar) 70 #[.pointer (some ⟨w1.heap.size, 0, none⟩)] 2 (enters_of Tryd.func70 (by kernel_rfl) rfl) (by omega) (fun s hs => by have := hlim.2 s hs; omega) w2 hseq
    have HP := Lib.hid hp
    clear cb L2 hseq hp hlim
    go_wp2_with fail
    refine HP.out.mono ?_; rintro e w3 ⟨hb3, E, n', c', rfl, k1, k2, k3, k4⟩
    have K := Lib.hid (And.intro k1 (And.intro k2 (And.intro k3 k4)))
    clear k1 k2 k3 k4
    go_wp2_with fail
    go_ret2
    obtain ⟨k1, k2, k3, k4⟩ := K.out
    exact ⟨.inr (.inr ⟨H1.out, (by have := H2.out; omega), E, n', c', rfl, k1, k2, k3, k4⟩), hb.trans ((b2.trans (hb3.mono b2.size)).mono hb.size)⟩

/-- The classes of worlds in Rests' last step. -/
def rsC (X : World) (D : Option Addr) (n c : Nat) (T : Int) (R : List No.Sp) (vs : List Value) (w : World) : Prop :=
  Below X.heap.size X w ∧ match vs with
  | [] => True
  | [f] => ∃ B1, f = .func (.func 70) #[] #[.pointer (some ⟨B1, 0, none⟩)] ∧ w.cell? ⟨B1, 0, none⟩ = some (.slice D n c)
  | [f, u] => (∃ B1, f = .func (.func 70) #[] #[.pointer (some ⟨B1, 0, none⟩)] ∧ w.cell? ⟨B1, 0, none⟩ = some (.slice D n c)) ∧ u = .int .i64 T
  | [_, _, g] => ∃ B1 B2 B3, w.cell? ⟨B1, 0, none⟩ = some (.slice D n c) ∧ g = .func (.func 72) #[] #[.pointer (some ⟨B2, 0, none⟩), .pointer (some ⟨B3, 0, none⟩)] ∧ w.cell? ⟨B2, 0, none⟩ = some (.func (.func 70) #[] #[.pointer (some ⟨B1, 0, none⟩)]) ∧ w.cell? ⟨B3, 0, none⟩ = some (.int .i64 T)
  | _ :: _ :: _ :: r :: _ => ∃ A n' c', r = .slice A n' c' ∧ R.length = n' ∧ SlR w A R ∧ (A = none → c' = 0) ∧ n' ≤ c'

set_option maxHeartbeats 3200000 in
theorem trests_is (bs : List Mt.B) (l : List No.Nt) (part bar : Int) (blen bcap len cap : Nat) (B A : Option Addr) (hbl : bs.length = blen) (hl : l.length = len) (hwb : Mt.Wf bs) (hwn : No.Wf l) (w : World) (hB : SlB w B bs) (hL : SlO w A l) (hG : Glob w) :
    Calls Tryd.prog 21 #[.slice B blen bcap, .slice A len cap, .int .i64 part, .int .i64 bar] w fun e w' => SpP bs l part bar (No.rests bs l part bar) e w' ∧ Below w.heap.size w w' := by
  have HB := Lib.hid hB
  have HL := Lib.hid hL
  have HN := Lib.hid hbl
  have HM := Lib.hid hl
  have HWB := Lib.hid hwb
  have HWN := Lib.hid hwn
  have HG := Lib.hid hG
  clear hbl hl hB hL hwb hwn hG
  go_enter Tryd.func21, Tryd.ntmps21
  go_wp2_with fail
  refine (tof_is bs l part bar blen bcap len cap B A HN.out HM.out HWB.out HWN.out _ HB.out HL.out HG.out).mono ?_
  rintro e w1 ⟨⟨h1, rfl⟩ | ⟨h1, h2, rfl⟩ | ⟨h1, h2, D, n, c, rfl, h3, h4, h5, h6⟩, hb⟩
  · have H1 := Lib.hid h1
    clear h1
    go_wp2_with fail
    go_ret2
    exact ⟨.inl ⟨H1.out, rfl⟩, hb⟩
  · have H1 := Lib.hid h1
    have H2 := Lib.hid h2
    clear h1 h2
    go_wp2_with fail
    go_ret2
    exact ⟨.inr (.inl ⟨H1.out, H2.out, rfl⟩), hb⟩
  · have H1 := Lib.hid h1
    have H2 := Lib.hid h2
    have H3 := Lib.hid h3
    have H4 := Lib.hid h4
    clear h1 h2 h3 h4 h5 h6
    obtain ⟨r, hr⟩ : ∃ r, No.bix bs bar = r := ⟨_, rfl⟩
    have hr0 : 0 ≤ r := by have := H2.out; omega
    have hrl := No.bix_lt bs bar
    rw [hr] at hrl
    have hwfb : (Lit.int .i64 bar).wf = true := Mt.wf_id (by have := H1.out.2.2; omega) (by have := H1.out.2.2; omega)
    have hkeyb : keyOf Tryd.prog 3 (.int .i64 bar) = some (.int .i64 bar) := keyOf_int_mk Tryd.underlying3 hwfb
    obtain ⟨k, hk⟩ : ∃ k, r.toNat = k := ⟨_, rfl⟩
    have hkl : k < bs.length := by omega
    have hrb : r < (blen : Int) := by rw [← HN.out]; exact hrl
    have HR := Lib.hid hr
    have HK := Lib.hid hk
    go_wp2_with fail
    refine (tindexes_is bs blen bcap B HN.out H1.out.1.1 _ (HB.out.below hb)).mono ?_; rintro e w2 ⟨rfl, hb2, D1, hown1, hidx⟩
    obtain ⟨-, hatI⟩ := hidx bar hwfb
    rw [hr, if_pos hr0] at hatI
    have hb3 := hb.trans (hb2.mono hb.size)
    obtain ⟨bb, off, hBe, hbb, hcb⟩ := HB.out (by omega)
    obtain ⟨y0, y1, y2, y3⟩ := hcb k hkl
    have z1 := (hb3.cell (p := ⟨bb, off + k * 4 + 1, none⟩) hbb).trans y1
    have z2 := (hb3.cell (p := ⟨bb, off + k * 4 + 2, none⟩) hbb).trans y2
    have hbt := No.bt_in H1.out.1.1 hkl
    obtain ⟨T, hT⟩ : ∃ T, Mt.bt (atB bs k) = T := ⟨_, rfl⟩
    have HTT : Hid (Mt.tk (atB bs k).2.1 (atB bs k).2.2.1 = T) := Lib.hid hT
    have HTB := Lib.hid hT
    rw [hT] at hbt
    have L2 := H4.out.below hb2
    clear hidx hwfb hr hrl hcb y0 y1 y2 y3 hT hkl
    subst hBe
    generalize (atB bs k).2.1 = d1 at *
    generalize (atB bs k).2.2.1 = d2 at *
    go_wp2_with (first | (at_lookup; refine look_int _ rfl _ _ 68 rfl 3 3 mapK Tryd.underlying68 Tryd.underlying3 (Tryd.zeroValue3 _) _ blen D1 rfl hown1 _ _ rfl hkeyb r hatI ?_) | fail)
    have A3 := At2.new w2 d1 d2 38
    have b3 := (Below.refl w2.heap.size w2).alloc (Nat.le_refl _) (.cells #[.int .i64 d1, .int .i64 d2] 38)
    have L3 := Lib.hid (L2.below b3)
    clear z1 z2 hatI hown1 hkeyb L2
    obtain ⟨w3, hw3⟩ : ∃ w3, w2.alloc (.cells #[.int .i64 d1, .int .i64 d2] 38) = w3 := ⟨_, rfl⟩
    have z3 : w2.heap.size ≤ w3.heap.size := by rw [← hw3]; simp
    rw [hw3] at A3 b3 L3 ⊢
    clear hw3
    have hb4 := hb3.trans (b3.mono hb3.size)
    obtain ⟨R, hR⟩ : ∃ R, No.rests bs l part bar = R := ⟨_, rfl⟩
    have HRR := Lib.hid hR
    have x0 := fun x : PvW (rsC w3 D n c T R) => (A3.below x.h.1).c0
    have x1 := fun x : PvW (rsC w3 D n c T R) => (A3.below x.h.1).c1
    have hne : Nonempty (PvW (rsC w3 D n c T R)) := PvW.there ⟨Below.refl _ _, trivial⟩
    clear hR
    refine region_pv (V := fun _ _ => undef) (cs := [1, 3, 4, 5]) (Cv := rsC w3 D n c T R) 6 (by kernel_rfl) (by kernel_rfl) (by kernel_rfl) ⟨(Below.refl _ _).drew, trivial⟩ ?_
    simp only [List.take_succ_cons, List.take_zero, List.drop_succ_cons, List.drop_zero]
    iterate 1 (refine pv_quiet (by decide) rfl rfl ?_; intro K' hK'; go_big_quiet_op; go_big_quiet_on)
    refine pv_enter (f := 44) (args := #[.slice D n c]) rfl rfl (fun w' hw' => ?_) (fun w' hw' => ?_) ?_
    · simp [go_sem]
    · refine (tspansm_is D n c w').mono ?_
      rintro e w5 ⟨rfl, rfl⟩
      exact ⟨_, rfl, hw'.1.alloc hw'.1.size _, w'.heap.size, rfl, (new1 w' (.slice D n c) _).1⟩
    rintro f1 ⟨_, _, B1, rfl, _⟩
    simp only [Act.put, List.setIfInBounds_toArray, List.set_cons_succ, List.set_cons_zero]
    iterate 1 (refine pv_quiet (by decide) rfl rfl ?_; intro K' hK'; go_big_quiet_op; go_big_quiet_on)
    refine pv_enter (f := 48) (args := #[.agg #[.int .i64 d1, .int .i64 d2]]) rfl rfl (fun w' hw' => ?_) (fun w' hw' => ?_) ?_
    · simp [go_sem]
    · refine (munits_is d1 d2 T HTT.out (by omega) w').mono ?_
      rintro e w5 ⟨rfl, hb5⟩
      obtain ⟨hw0, B1', e1, e2⟩ := hw'
      exact ⟨_, rfl, hw0.trans (hb5.mono hw0.size), ⟨B1', e1, keep_cell e2 hb5⟩, rfl⟩
    rintro u ⟨_, _, _, rfl⟩
    simp only [Act.put, List.setIfInBounds_toArray, List.set_cons_succ, List.set_cons_zero]
    refine pv_enter (f := 47) (args := #[.func (.func 70) #[] #[.pointer (some ⟨B1, 0, none⟩)], .int .i64 T]) rfl rfl (fun w' hw' => ?_) (fun w' hw' => ?_) ?_
    · simp [go_sem]
    · refine (tgapsm_is 70 #[.pointer (some ⟨B1, 0, none⟩)] T w').mono ?_
      rintro e w5 ⟨rfl, rfl⟩
      obtain ⟨hw0, ⟨B1', e1, e2⟩, _⟩ := hw'
      cases e1
      refine ⟨_, rfl, (hw0.alloc hw0.size _).alloc (by have := hw0.size; simp; omega) _, B1, w'.heap.size, w'.heap.size + 1, keep_alloc (keep_alloc e2 _) _, rfl, keep_alloc (new1 w' (.func (.func 70) #[] #[.pointer (some ⟨B1, 0, none⟩)]) _).1 _, ?_⟩
      have h := (new1 (w'.alloc (.cells #[.func (.func 70) #[] #[.pointer (some ⟨B1, 0, none⟩)]] 81)) (.int .i64 T) 3).1
      rw [World.size_alloc] at h
      exact h
    rintro g ⟨_, _, _, B2, B3, _, rfl, _, _⟩
    simp only [Act.put, List.setIfInBounds_toArray, List.set_cons_succ, List.set_cons_zero]
    refine pv_enter (f := 43) (args := #[.func (.func 72) #[] #[.pointer (some ⟨B2, 0, none⟩), .pointer (some ⟨B3, 0, none⟩)]]) rfl rfl (fun w' hw' => ?_) (fun w' hw' => ?_) ?_
    · simp [go_sem]
    · obtain ⟨hw0, B1', B2', B3', e1, e2, e3, e4⟩ := hw'
      cases e2
      have L5 := L3.out.below hw0
      have hlt : ∀ p v, w'.cell? p = some v → p.block < w'.heap.size := fun p v h => World.block_lt_of_cell? _ _ h
      have q1 := hlt _ _ e1
      have q2 := hlt _ _ e3
      have q3 := hlt _ _ e4
      have hvl := H1.out.1.2.1
      have hown := own_le bs l part bar
      have hseq := tspans_seq (No.own bs l part bar) n c D B1' w'.heap.size H3.out (by have := H3.out; omega) (No.own_ok H1.out.1 part bar) w' q1 (Nat.le_refl _) e1 (fun h0 b off e => by
        obtain ⟨b', off', e', hl', _⟩ := L5 h0
        rw [e] at e'
        cases e'
        exact hl') L5
      have hgs := tgaps_seq (No.busy bs l part bar) T 70 #[.pointer (some ⟨B1', 0, none⟩)] (enters_of Tryd.func70 (by kernel_rfl) rfl) B2 B3 w'.heap.size 2 w' hseq q2 q3 (Nat.le_refl _) e3 e4
      have hlim := No.rests_lim H1.out.1 (part := part) (bar := bar) (by rw [HR.out]; exact hr0)
      have hTe : Mt.bt (atB bs (No.bix bs bar).toNat) = T := by rw [HR.out, HK.out]; exact HTB.out
      rw [hTe] at hlim
      have hgR : No.gaps T 0 (No.busy bs l part bar) = R := by rw [← HRR.out]; unfold No.rests; rw [hTe]
      rw [hgR] at hgs
      rw [HRR.out] at hlim
      refine (tpairs_is R 72 #[.pointer (some ⟨B2, 0, none⟩), .pointer (some ⟨B3, 0, none⟩)] (4 + 2) (enters_of Tryd.func72 (by kernel_rfl) rfl) (by omega) (fun s hs => by have := hlim.2 s hs; omega) w' hgs).mono ?_
      rintro e w5 ⟨hb5, E, n', c', rfl, k1, k2, k3, k4⟩
      exact ⟨_, rfl, hw0.trans (hb5.mono hw0.size), E, n', c', rfl, k1, k2, k3, k4⟩
    rintro rr ⟨_, _, E, n', c', rfl, _, _, _, _⟩
    simp only [Act.put, List.setIfInBounds_toArray, List.set_cons_succ, List.set_cons_zero]
    rintro w6 ⟨hb6, E', n'', c'', e6, k1, k2, k3, k4⟩
    cases e6
    have K := Lib.hid (And.intro k1 (And.intro k2 (And.intro k3 k4)))
    clear k1 k2 k3 k4 x0 x1 hne A3
    go_wp2_with fail
    go_ret2
    obtain ⟨k1, k2, k3, k4⟩ := K.out
    exact ⟨.inr (.inr ⟨H1.out, (by have := H2.out; omega), E, n', c', rfl, by rw [HRR.out]; exact k1, by rw [HRR.out]; exact k2, k3, k4⟩), hb4.trans (hb6.mono (by have := hb3.size; omega))⟩
end Go.Proofs.YthamkigdpgajaaaDoor
