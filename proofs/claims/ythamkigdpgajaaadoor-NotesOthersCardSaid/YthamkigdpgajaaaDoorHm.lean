import Derived.Test.YthamkigdpgajaaaDoorHq
/- What the laws need of Busy and Rests: their answers where all is right; a list without one of its notes. -/
namespace Go.Proofs.YthamkigdpgajaaaDoor
open Go.RowKit

theorem Mt.val_wf {l : List Mt.B} (hval : Mt.Val l) : Mt.Wf l := fun j hj => by
  obtain ⟨h1, h2, _⟩ := hval.2.2.1 j hj
  exact ⟨by omega, by omega⟩
namespace No
theorem bar_in {bs : List Mt.B} (h : Mt.Val bs) {bar : Int} (hb : 0 ≤ bix bs bar) : 1 ≤ bar ∧ bar ≤ 1000000 := by
  have h1 := bix_at hb
  have h2 := bix_lt bs bar
  obtain ⟨h3, h4, _⟩ := h.2.2.1 (bix bs bar).toNat (by omega)
  omega
theorem val_wf {bs : List Mt.B} {l : List Nt} (h : Val bs l) : Wf l := fun j hj => by
  have h1 := h.2.2.1 _ (atO_mem hj)
  have h2 := bar_in h.1 h1.1
  obtain ⟨_, _, h3, h4, _⟩ := h1
  exact ⟨⟨by omega, by omega⟩, by omega, by omega⟩
theorem busy_nn {bs : List Mt.B} {l : List Nt} (h : Val bs l) {part bar : Int} (hb : 0 ≤ bix bs bar) : NnS (busy bs l part bar) ∧ BdS (busy bs l part bar) ∧ (busy bs l part bar).length ≤ 20000 := by
  obtain ⟨h1, h2⟩ := busy_lim h (part := part) hb
  have h4 := bix_lt bs bar
  have h5 := (bt_in h.1 (r := (bix bs bar).toNat) (by omega)).2
  exact ⟨fun s hs => by have := h2 s hs; omega, fun s hs => by have := h2 s hs; omega, h1⟩
theorem rests_nn {bs : List Mt.B} {l : List Nt} (h : Val bs l) {part bar : Int} (hb : 0 ≤ bix bs bar) : NnS (rests bs l part bar) ∧ BdS (rests bs l part bar) ∧ (rests bs l part bar).length ≤ 20001 := by
  obtain ⟨h1, h2⟩ := rests_lim h (part := part) hb
  have h4 := bix_lt bs bar
  have h5 := (bt_in h.1 (r := (bix bs bar).toNat) (by omega)).2
  exact ⟨fun s hs => by have := h2 s hs; omega, fun s hs => by have := h2 s hs; omega, h1⟩
/-- A list without its note at k. -/
def less (l : List Nt) (k : Nat) : List Nt := l.take k ++ l.drop (k + 1)
theorem less_sub (l : List Nt) (k : Nat) : (less l k).Sublist l := by
  unfold less
  conv => rhs; rw [← List.take_append_drop k l]
  refine List.Sublist.append (List.Sublist.refl _) ?_
  rw [← List.drop_drop]
  exact List.drop_sublist 1 _
theorem less_length {l : List Nt} {k : Nat} (hk : k < l.length) : (less l k).length = k + (l.length - (k + 1)) := by
  unfold less
  rw [List.length_append, List.length_take, List.length_drop]
  omega
theorem val_sub {bs : List Mt.B} {l m : List Nt} (h : Val bs l) (hm : m.Sublist l) : Val bs m :=
  ⟨h.1, Nat.le_trans hm.length_le h.2.1, fun n hn => h.2.2.1 n (hm.subset hn), h.2.2.2.sublist hm⟩
theorem mem_less {l : List Nt} {k : Nat} (hk : k < l.length) (x : Nt) : x ∈ l ↔ x ∈ less l k ∨ x = atO l k := by
  have e : l = l.take k ++ atO l k :: l.drop (k + 1) := by
    rw [atO_eq hk]
    simp
  unfold less
  conv => lhs; rw [e]
  simp only [List.mem_append, List.mem_cons]
  constructor
  · rintro (h | h | h)
    · exact .inl (.inl h)
    · exact .inr h
    · exact .inl (.inr h)
  · rintro ((h | h) | h)
    · exact .inl h
    · exact .inr (.inr h)
    · exact .inr (.inl h)
theorem sounds_less {l : List Nt} {k : Nat} (hk : k < l.length) {n : Nt} (hn : atO l k = n) (t : Int) : sounds l n.pa n.ba t ↔ sounds (less l k) n.pa n.ba t ∨ (start n ≤ t ∧ t < start n + leng n) := by
  unfold sounds
  constructor
  · rintro ⟨x, hx, h1, h2, h3⟩
    rcases (mem_less hk x).1 hx with h | h
    · exact .inl ⟨x, h, h1, h2, h3⟩
    · rw [hn] at h
      subst h
      exact .inr h3
  · rintro (⟨x, hx, h⟩ | h)
    · exact ⟨x, (mem_less hk x).2 (.inl hx), h⟩
    · exact ⟨n, (mem_less hk n).2 (.inr hn.symm), rfl, rfl, h⟩
/-- All that NotesFewer asks. -/
theorem fewer {bs : List Mt.B} {l : List Nt} {k : Nat} (h : Val bs l) (hk : k < l.length) {n : Nt} (hn : atO l k = n) :
    (∀ t, cov (busy bs (less l k) n.pa n.ba) t → cov (busy bs l n.pa n.ba) t) ∧
    (∀ t, cov (busy bs l n.pa n.ba) t → ¬ cov (busy bs (less l k) n.pa n.ba) t → start n ≤ t ∧ t < start n + leng n) ∧
    ((∃ s ∈ busy bs (less l k) n.pa n.ba, s.1 ≤ start n ∧ start n + leng n ≤ s.2) ↔ busy bs l n.pa n.ba = busy bs (less l k) n.pa n.ba) := by
  have hv := val_sub h (less_sub l k)
  have hx := busy_ok h n.pa n.ba
  have hy := busy_ok hv n.pa n.ba
  have hs := sounds_less hk hn
  have hnl := h.2.2.1 n (by rw [← hn]; exact atO_mem hk)
  have hpos := hnl.2.2.2.2.2.2.2.2.2.2.2.1
  refine ⟨fun t ht => (hx.2 t).2 ((hs t).2 (.inl ((hy.2 t).1 ht))), fun t ht hno => ?_, ?_, fun e => ?_⟩
  · rcases (hs t).1 ((hx.2 t).1 ht) with h1 | h1
    · exact absurd ((hy.2 t).2 h1) hno
    · exact h1
  · rintro ⟨s, hsm, h1, h2⟩
    refine busy_same h hv fun t => ⟨fun ht => ?_, fun ht => (hs t).2 (.inl ht)⟩
    rcases (hs t).1 ht with h3 | h3
    · exact h3
    · exact (hy.2 t).1 ⟨s, hsm, by omega, by omega⟩
  · refine cov_one hy.1 (by omega) fun t t1 t2 => ?_
    rw [← e]
    exact (hx.2 t).2 ((hs t).2 (.inr ⟨t1, t2⟩))
end No
theorem SpP.ok {bs : List Mt.B} {l : List No.Nt} {part bar : Int} {R : List No.Sp} {e : Ending} {w' : World} (h : SpP bs l part bar R e w') (hv : No.Val bs l) (hp : 1 ≤ part ∧ part ≤ 1000000) (hb : 0 ≤ No.bix bs bar) :
    ∃ D m c, e = .returned (.tuple #[.slice D m c, .int .i64 0]) ∧ R.length = m ∧ SlR w' D R := by
  rcases h with ⟨h, -⟩ | ⟨-, h, -⟩ | ⟨-, -, D, m, c, h1, h2, h3, -⟩
  · have h2 := No.bar_in hv.1 hb
    exact absurd ⟨hv, hp, h2.1, h2.2⟩ h
  · omega
  · exact ⟨D, m, c, h1, h2, h3⟩
/-- 'append(own, x...)' as an operation. -/
theorem exec_slo {P : Program} {w : World} {o : Oper} {a : Act} (s x : Operand) (t : TypeId)
    (ho : o.op = .call { callee := .builtin .append, args := #[s, x], argTypes := #[t, t] })
    (base : Nat) (e : TypeId) (i : TypeInfo) (z : Value) (bytes : Nat) (ht : P.underlying t = some (.slice e)) (hi : P.info? e = some i) (hz : i.zero = some z)
    (hsize : i.size = 12) (hby : i.bytes = bytes) (hzs : z.cells.size = 12)
    (v : Value) (n : Nat) (xs : List Value) (hs : a.eval s = v) (hown : w.ownsRow base e 12 v n xs)
    (A : Option Addr) (m c : Nat) (l : List No.Nt) (hx : a.eval x = .slice A m c) (hA : A = none → c = 0) (hg : l.length = m) (hL : SlO w A l)
    (h63 : n + m ≤ maxLen) (hbytes : (n + m) * bytes ≤ 140737488355328) (hbase : base ≤ w.heap.size) :
    ∃ v' w', (execOp a.eval o).run P w = .ok (.value v') w' ∧ w'.ownsRow base e 12 v' (n + m) (xs ++ vO l) ∧ w.grownBy w' v.ownBlock := by
  subst hg
  cases A with
  | none =>
    obtain rfl := hA rfl
    have h0 : l = [] := by
      cases l with
      | nil => rfl
      | cons y r =>
        obtain ⟨b, off, hb, _⟩ := hL (by simp)
        cases hb
    subst h0
    exact ⟨v, w, ap_exec ho hs hx (run_append_owned_none (P := P) (w := w) base t o.type e i 12 ht hi v n xs hown), by simpa [vO] using hown, rfl, rfl, rfl, Nat.le_refl _, fun _ _ _ => rfl⟩
  | some ad =>
    obtain ⟨v', w', h1, h2, h3, _⟩ := run_append_own (P := P) w base t o.type e i z 12 bytes ht hi hz hsize hby hzs (by omega) v n xs hown ad l.length c (vO l) (vO_length l) (by
      cases l with
      | nil => intro j u hj; simp [vO] at hj
      | cons y r =>
        obtain ⟨b, off, hb, _, hc⟩ := hL (by simp)
        cases hb
        exact SlO.news hc) (vO_cells l) h63 hbytes hbase
    exact ⟨v', w', ap_exec ho hs hx h1, h2, h3⟩
theorem exec_slo2 {P : Program} {w : World} {o : Oper} {a : Act} (s x : Operand) (t : TypeId)
    (ho : o.op = .call { callee := .builtin .append, args := #[s, x], argTypes := #[t, t] })
    (base : Nat) (e : TypeId) (i : TypeInfo) (z : Value) (bytes : Nat) (ht : P.underlying t = some (.slice e)) (hi : P.info? e = some i) (hz : i.zero = some z)
    (hsize : i.size = 12) (hby : i.bytes = bytes) (hzs : z.cells.size = 12)
    (v : Value) (n : Nat) (xs : List Value) (hs : a.eval s = v) (hown : w.ownsRow base e 12 v n xs)
    (A : Option Addr) (m c : Nat) (l : List No.Nt) (hx : a.eval x = .slice A m c) (hA : A = none → c = 0) (hg : l.length = m) (hL : SlO w A l)
    (h63 : n + m ≤ maxLen) (hbytes : (n + m) * bytes ≤ 140737488355328) (hbase : base ≤ w.heap.size) {R : Value → World → Prop}
    (hR : ∀ v' w', w'.ownsRow base e 12 v' (n + m) (xs ++ vO l) → w.grownBy w' v.ownBlock → R v' w') :
    ∃ v' w', (execOp a.eval o).run P w = .ok (.value v') w' ∧ R v' w' := by
  obtain ⟨v', w', h1, h2, h3⟩ := exec_slo (P := P) s x t ho base e i z bytes ht hi hz hsize hby hzs v n xs hs hown A m c l hx hA hg hL h63 hbytes hbase
  exact ⟨v', w', h1, hR v' w' h2 h3⟩
/-- An empty slice that a call has made. -/
theorem own_empty (w : World) (base : Nat) (h : base ≤ w.heap.size) : (w.alloc (.cells #[] 42)).ownsRow base 42 12 (.slice (some ⟨w.heap.size, 0, none⟩) 0 0) 0 [] :=
  ⟨rfl, .inr ⟨w.heap.size, 0, #[], rfl, h, heap_alloc_new w _, Nat.le_refl _, by unfold maxLen; omega, rfl, rfl⟩⟩
/-- Behind the operations of NotesFewer's region 6. -/
def fwC (W : World) (l : List No.Nt) (k : Nat) (vs : List Value) (w : World) : Prop := Below W.heap.size W w ∧ match vs with
  | [] => True
  | [v] => w.ownsRow W.heap.size 42 12 v 0 []
  | [_, v] => w.ownsRow W.heap.size 42 12 v k (vO (l.take k))
  | [_, _, v] => w.ownsRow W.heap.size 42 12 v (k + (l.length - (k + 1))) (vO (No.less l k))
  | _ => False
end Go.Proofs.YthamkigdpgajaaaDoor
