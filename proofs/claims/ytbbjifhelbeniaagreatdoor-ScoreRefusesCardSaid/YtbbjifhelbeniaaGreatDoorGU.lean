import Derived.Test.YtbbjifhelbeniaaGreatDoorGT
import Derived.Test.YtbbjifhelbeniaaGreatDoorPf
/- The calls of the laws' head. -/
namespace Go.Proofs.YtbbjifhelbeniaaGreatDoor
open Go.RowKit

theorem own_so {w : World} {base : Nat} {v : Value} {n : Nat} {l : List No.Nt} (h : w.ownsRow base 51 12 v n (vO l)) : ∃ D c, v = .slice D n c ∧ SlO w D l := by
  obtain ⟨-, D, c, h1, h2, -⟩ := own_o h
  exact ⟨D, c, h1, h2⟩
theorem hdPlays2 (b1 b2 b3 : Nat) (w : World) (hG : Glob w) (hS : SlS w (⟨1, some ⟨b1, 0, none⟩, 1, 1, some ⟨b2, 0, none⟩, 2, 2, some ⟨b3, 0, none⟩, 2, 2⟩ : SH) hB hP hN) :
    Calls Tryz.prog 19 #[.agg #[.int .i64 1, .slice (some ⟨b1, 0, none⟩) 1 1, .slice (some ⟨b2, 0, none⟩) 2 2, .slice (some ⟨b3, 0, none⟩) 2 2], .int .i64 2] w fun e w' => ∃ D c, e = .returned (.tuple #[.slice D 2 c, .int .i64 0]) ∧ SlO w' D [⟨8, 2, 5, 0, 0, 0, 1, 1, 1, 0, 0, 3⟩, ⟨7, 2, 5, 0, 0, 1, 1, 1, 1, 2, 0, 3⟩] ∧ Below w.heap.size w w' :=
  (splaysAll_is (⟨1, some ⟨b1, 0, none⟩, 1, 1, some ⟨b2, 0, none⟩, 2, 2, some ⟨b3, 0, none⟩, 2, 2⟩ : SH) hB hP hN 2 1 rfl h_wfs w hG hS).mono fun e w' ⟨hb, h⟩ => by
    rcases h with ⟨h, _⟩ | ⟨_, h, _⟩ | ⟨_, _, v, rfl, ho⟩
    · exact absurd (h_val 1 (by decide)) h
    · omega
    · have e1 : atQ hP (1 : Int).toNat = pB := rfl
      rw [e1, h_play] at ho
      obtain ⟨D, c, rfl, h2⟩ := own_so ho
      exact ⟨D, c, rfl, h2, hb⟩
theorem hdPlays3 (b1 b2 b3 : Nat) (w : World) (hG : Glob w) (hS : SlS w (⟨1, some ⟨b1, 0, none⟩, 1, 1, some ⟨b2, 0, none⟩, 2, 2, some ⟨b3, 0, none⟩, 2, 2⟩ : SH) hB hP hN) :
    Calls Tryz.prog 19 #[.agg #[.int .i64 1, .slice (some ⟨b1, 0, none⟩) 1 1, .slice (some ⟨b2, 0, none⟩) 2 2, .slice (some ⟨b3, 0, none⟩) 2 2], .int .i64 3] w fun e w' => e = .returned (.tuple #[.slice none 0 0, .int .i64 22]) ∧ Below w.heap.size w w' :=
  (splaysAll_is (⟨1, some ⟨b1, 0, none⟩, 1, 1, some ⟨b2, 0, none⟩, 2, 2, some ⟨b3, 0, none⟩, 2, 2⟩ : SH) hB hP hN 3 (-1) rfl h_wfs w hG hS).mono fun e w' ⟨hb, h⟩ => by
    rcases h with ⟨h, _⟩ | ⟨_, _, h⟩ | ⟨_, h, _⟩
    · exact absurd (h_val 1 (by decide)) h
    · exact ⟨h, hb⟩
    · omega
theorem sls_nil (w : World) : SlS w .zero [] [] [] := ⟨rfl, rfl, rfl, SlB.nil _ _, SlQ.nil _ _, SlO.nil _ _⟩
theorem wfs_nil : WfS [] [] [] := ⟨fun j hj => absurd hj (Nat.not_lt_zero _), fun p hp => (by cases hp), fun j hj => absurd hj (Nat.not_lt_zero _)⟩
theorem hdPlaysZ (w : World) (hG : Glob w) :
    Calls Tryz.prog 19 #[.agg #[.int .i64 0, .slice none 0 0, .slice none 0 0, .slice none 0 0], .int .i64 1] w fun e w' => e = .returned (.tuple #[.slice none 0 0, .int .i64 1]) ∧ Below w.heap.size w w' :=
  (splaysAll_is .zero [] [] [] 1 (-1) rfl wfs_nil w hG (sls_nil w)).mono fun e w' ⟨hb, h⟩ => by
    rcases h with ⟨_, h⟩ | ⟨h, _⟩ | ⟨h, _⟩
    · exact ⟨h, hb⟩
    · exact absurd h h_no
    · exact absurd h h_no
theorem hdNote (b1 b2 b3 : Nat) (w : World) (hG : Glob w) (hS : SlS w (⟨1, some ⟨b1, 0, none⟩, 1, 1, some ⟨b2, 0, none⟩, 2, 2, some ⟨b3, 0, none⟩, 2, 2⟩ : SH) hB hP hN) :
    Calls Tryz.prog 17 #[.agg #[.int .i64 1, .slice (some ⟨b1, 0, none⟩) 1 1, .slice (some ⟨b2, 0, none⟩) 2 2, .slice (some ⟨b3, 0, none⟩) 2 2], .int .i64 7] w fun e w' => e = .returned (.tuple #[.int .i64 1, .bool true, .int .i64 0]) ∧ Below w.heap.size w w' :=
  sNote_is (⟨1, some ⟨b1, 0, none⟩, 1, 1, some ⟨b2, 0, none⟩, 2, 2, some ⟨b3, 0, none⟩, 2, 2⟩ : SH) hB hP hN 7 1 1 true 0 rfl (.inr ⟨⟨h_val 1 (by decide), by decide⟩, .inl ⟨by decide, rfl, rfl⟩, rfl⟩) h_wfs w hG hS
theorem hdPart (b1 b2 b3 : Nat) (w : World) (hG : Glob w) (hS : SlS w (⟨1, some ⟨b1, 0, none⟩, 1, 1, some ⟨b2, 0, none⟩, 2, 2, some ⟨b3, 0, none⟩, 2, 2⟩ : SH) hB hP hN) :
    Calls Tryz.prog 15 #[.agg #[.int .i64 1, .slice (some ⟨b1, 0, none⟩) 1 1, .slice (some ⟨b2, 0, none⟩) 2 2, .slice (some ⟨b3, 0, none⟩) 2 2], .int .i64 3] w fun e w' => e = .returned (.tuple #[.int .i64 0, .bool false, .int .i64 0]) ∧ Below w.heap.size w w' :=
  sPart_is (⟨1, some ⟨b1, 0, none⟩, 1, 1, some ⟨b2, 0, none⟩, 2, 2, some ⟨b3, 0, none⟩, 2, 2⟩ : SH) hB hP hN 3 (-1) 0 false 0 rfl (.inr ⟨⟨h_val 1 (by decide), by decide⟩, .inr ⟨by decide, rfl, rfl⟩, rfl⟩) h_wfs w hG hS
theorem hdValid (b1 b2 b3 : Nat) (w : World) (hG : Glob w) (hS : SlS w (⟨2, some ⟨b1, 0, none⟩, 1, 1, some ⟨b2, 0, none⟩, 2, 2, some ⟨b3, 0, none⟩, 2, 2⟩ : SH) hB hP hN) :
    Calls Tryz.prog 11 #[.agg #[.int .i64 2, .slice (some ⟨b1, 0, none⟩) 1 1, .slice (some ⟨b2, 0, none⟩) 2 2, .slice (some ⟨b3, 0, none⟩) 2 2]] w fun e w' => e = .returned (.bool true) ∧ Below w.heap.size w w' :=
  svalid_is (⟨2, some ⟨b1, 0, none⟩, 1, 1, some ⟨b2, 0, none⟩, 2, 2, some ⟨b3, 0, none⟩, 2, 2⟩ : SH) hB hP hN true ⟨fun _ => h_val 2 (by decide), fun _ => rfl⟩ h_wfs w hG hS
theorem wf_notes (l : List No.Nt) (h : ∀ n ∈ l, n = n8 ∨ n = n7 ∨ n = nX ∨ n = nY) : No.Wf l := fun j hj => by
  rcases h _ (atO_mem hj) with e | e | e | e <;> rw [e] <;> decide
theorem hdWith (b1 b2 b3 : Nat) (l : List No.Nt) (W : Int) (hW : W ≠ 0) (hw : Sc.wrong hP l = W) (len cap : Nat) (A : Option Addr) (hl : l.length = len) (hv : No.Val hB l) (hwf : No.Wf l) (w : World) (hG : Glob w) (hS : SlS w (⟨1, some ⟨b1, 0, none⟩, 1, 1, some ⟨b2, 0, none⟩, 2, 2, some ⟨b3, 0, none⟩, 2, 2⟩ : SH) hB hP hN) (hA : SlO w A l) :
    Calls Tryz.prog 22 #[.agg #[.int .i64 1, .slice (some ⟨b1, 0, none⟩) 1 1, .slice (some ⟨b2, 0, none⟩) 2 2, .slice (some ⟨b3, 0, none⟩) 2 2], .int .i64 2, .slice A len cap] w fun e w' => e = .returned (.tuple #[.agg #[.int .i64 0, .slice none 0 0, .slice none 0 0, .slice none 0 0], .int .i64 W]) ∧ Below w.heap.size w w' :=
  (swith_is (⟨1, some ⟨b1, 0, none⟩, 1, 1, some ⟨b2, 0, none⟩, 2, 2, some ⟨b3, 0, none⟩, 2, 2⟩ : SH) hB hP hN 2 l W len cap A (.inr ⟨⟨h_val 1 (by decide), by decide, hv⟩, hw.symm⟩) hl h_wfs hwf w hG hS hA).mono fun e w' ⟨hb, s', h1, h2⟩ => by
    have h3 := h2.no hW
    subst h3
    exact ⟨h1, hb⟩
theorem hdWith0 (b1 b2 b3 : Nat) (len cap : Nat) (A : Option Addr) (hl : len = 2) (w : World) (hG : Glob w) (hS : SlS w (⟨1, some ⟨b1, 0, none⟩, 1, 1, some ⟨b2, 0, none⟩, 2, 2, some ⟨b3, 0, none⟩, 2, 2⟩ : SH) hB hP hN) (hA : SlO w A [n7, n8]) :
    Calls Tryz.prog 22 #[.agg #[.int .i64 1, .slice (some ⟨b1, 0, none⟩) 1 1, .slice (some ⟨b2, 0, none⟩) 2 2, .slice (some ⟨b3, 0, none⟩) 2 2], .int .i64 2, .slice A len cap] w fun e w' => ∃ s' : SH, e = .returned (.tuple #[.agg #[.int .i64 s'.v, .slice s'.B s'.bl s'.bc, .slice s'.P s'.pl s'.pc, .slice s'.N s'.nl s'.nc], .int .i64 0]) ∧ s'.v = 2 ∧ SlS w' s' hB hP hN ∧ Below w.heap.size w w' :=
  (swith_is (⟨1, some ⟨b1, 0, none⟩, 1, 1, some ⟨b2, 0, none⟩, 2, 2, some ⟨b3, 0, none⟩, 2, 2⟩ : SH) hB hP hN 2 [n7, n8] 0 len cap A (.inr ⟨⟨h_val 1 (by decide), by decide, hN_val _ (by decide) (by simp) (by decide)⟩, (wr_0 _ (by simp)).symm⟩) hl.symm h_wfs (wf_notes _ (by simp)) w hG hS hA).mono fun e w' ⟨hb, s', h1, h2⟩ => by
    obtain ⟨h3, h4, -⟩ := h2.ok rfl
    rw [h_srt] at h4
    exact ⟨s', h1, h3, h4, hb⟩
end Go.Proofs.YtbbjifhelbeniaaGreatDoor

/- What the head's drawn regions want: append as an operation; the classes of worlds. -/
namespace Go.Proofs.YtbbjifhelbeniaaGreatDoor
open Go.RowKit

theorem ap_exec {P : Program} {w w' : World} {o : Oper} {a : Act} {s x : Operand} {t : TypeId} (ho : o.op = .call { callee := .builtin .append, args := #[s, x], argTypes := #[t, t] }) {v y v' : Value} (hs : a.eval s = v) (hx : a.eval x = y)
    (hr : (Builtin.append_ #[t, t] o.type #[v, y]).run P w = .ok v' w') : (execOp a.eval o).run P w = .ok (.value v') w' := by
  unfold execOp
  simp only [ho, resolve, invoke, builtin, Sem.run_bind, Sem.run_pure, Result.andThen_ok, List.map_toArray, List.map_cons, List.map_nil, hs, hx, hr]
/-- 'append(own, x...)' as an operation. -/
theorem exec_slo {P : Program} {w : World} {o : Oper} {a : Act} (s x : Operand) (t : TypeId)
    (ho : o.op = .call { callee := .builtin .append, args := #[s, x], argTypes := #[t, t] })
    (base : Nat) (e : TypeId) (i : TypeInfo) (z : Value) (bytes : Nat) (ht : P.underlying t = some (.slice e)) (hi : P.info? e = some i) (hz : i.zero = some z)
    (hsize : i.size = 12) (hby : i.bytes = bytes) (hzs : z.cells.size = 12)
    (v : Value) (n : Nat) (xs : List Value) (hs : a.eval s = v) (hown : w.ownsRow base e 12 v n xs)
    (A : Option Addr) (m c : Nat) (l : List No.Nt) (hx : a.eval x = .slice A m c) (hA : A = none → c = 0) (hg : l.length = m) (hL : SlO w A l)
    (h63 : n + m ≤ maxLen) (hbytes : (n + m) * bytes ≤ 140737488355328) (hbase : base ≤ w.heap.size) :
    ∃ v' w', (execOp a.eval o).run P w = .ok (.value v') w' ∧ w'.ownsRow base e 12 v' (n + m) (xs ++ vO l) ∧ w.grownBy w' v.ownBlock := by
  subst hg
  cases A with
  | none =>
    obtain rfl := hA rfl
    have h0 : l = [] := by
      cases l with
      | nil => rfl
      | cons y r =>
        obtain ⟨b, off, hb, _⟩ := hL (by simp)
        cases hb
    subst h0
    exact ⟨v, w, ap_exec ho hs hx (run_append_owned_none (P := P) (w := w) base t o.type e i 12 ht hi v n xs hown), by simpa [vO] using hown, rfl, rfl, rfl, Nat.le_refl _, fun _ _ _ => rfl⟩
  | some ad =>
    obtain ⟨v', w', h1, h2, h3, _⟩ := run_append_own (P := P) w base t o.type e i z 12 bytes ht hi hz hsize hby hzs (by omega) v n xs hown ad l.length c (vO l) (vO_length l) (by
      cases l with
      | nil => intro j u hj; simp [vO] at hj
      | cons y r =>
        obtain ⟨b, off, hb, _, hc⟩ := hL (by simp)
        cases hb
        exact SlO.news hc) (vO_cells l) h63 hbytes hbase
    exact ⟨v', w', ap_exec ho hs hx h1, h2, h3⟩
theorem exec_slo2 {P : Program} {w : World} {o : Oper} {a : Act} (s x : Operand) (t : TypeId)
    (ho : o.op = .call { callee := .builtin .append, args := #[s, x], argTypes := #[t, t] })
    (base : Nat) (e : TypeId) (i : TypeInfo) (z : Value) (bytes : Nat) (ht : P.underlying t = some (.slice e)) (hi : P.info? e = some i) (hz : i.zero = some z)
    (hsize : i.size = 12) (hby : i.bytes = bytes) (hzs : z.cells.size = 12)
    (v : Value) (n : Nat) (xs : List Value) (hs : a.eval s = v) (hown : w.ownsRow base e 12 v n xs)
    (A : Option Addr) (m c : Nat) (l : List No.Nt) (hx : a.eval x = .slice A m c) (hA : A = none → c = 0) (hg : l.length = m) (hL : SlO w A l)
    (h63 : n + m ≤ maxLen) (hbytes : (n + m) * bytes ≤ 140737488355328) (hbase : base ≤ w.heap.size) {R : Value → World → Prop}
    (hR : ∀ v' w', w'.ownsRow base e 12 v' (n + m) (xs ++ vO l) → w.grownBy w' v.ownBlock → R v' w') :
    ∃ v' w', (execOp a.eval o).run P w = .ok (.value v') w' ∧ R v' w' := by
  obtain ⟨v', w', h1, h2, h3⟩ := exec_slo (P := P) s x t ho base e i z bytes ht hi hz hsize hby hzs v n xs hs hown A m c l hx hA hg hL h63 hbytes hbase
  exact ⟨v', w', h1, hR v' w' h2 h3⟩
theorem setRow_cell {w : World} {b k j : Nat} (cs : Array Value) (h : k ≠ b) : (w.setRow b cs).cell? ⟨k, j, none⟩ = w.cell? ⟨k, j, none⟩ := World.cell?_of_block (setRow_other w b k cs h)
theorem setRow_lt {w : World} {b k : Nat} (cs : Array Value) (h : k < w.heap.size) : k < (w.setRow b cs).heap.size :=
  Nat.lt_of_lt_of_le h (below_setRow (B := 0) (Below.refl 0 w) (Nat.zero_le _) cs).size
theorem SlS.row {w : World} {b : Nat} {s t : SH} {bs : List Mt.B} {ps : List Sc.Pt} {ns : List No.Nt} (h : SlS w t bs ps ns) (v : ScV w b s) (cs : Array Value) : SlS (w.setRow b cs) t bs ps ns := by
  refine ⟨h.bl, h.pl, h.nl, fun h0 => ?_, fun h0 => ?_, fun h0 => ?_⟩
  · obtain ⟨b', o, e, hl, hc⟩ := h.sb h0
    have hne := h.sb.apart v h0 b' o e
    refine ⟨b', o, e, setRow_lt cs hl, fun k hk => ?_⟩
    simp only [setRow_cell cs hne]
    exact hc k hk
  · obtain ⟨b', o, e, hl, hc⟩ := h.sp h0
    have hne := h.sp.apart v h0 b' o e
    exact ⟨b', o, e, setRow_lt cs hl, fun k hk => PtAt.of fun j u hj => (setRow_cell cs hne).trans ((hc k hk).to j u hj)⟩
  · obtain ⟨b', o, e, hl, hc⟩ := h.sn h0
    have hne := h.sn.apart v h0 b' o e
    exact ⟨b', o, e, setRow_lt cs hl, fun k hk => NtAt.of fun j u hj => (setRow_cell cs hne).trans ((hc k hk).to j u hj)⟩
theorem SlS.set1 {w : World} {b : Nat} {s t : SH} {bs : List Mt.B} {ps : List Sc.Pt} {ns : List No.Nt} (h : SlS w t bs ps ns) (v : ScV w b s) (i : Nat) (u : Value) : SlS (w.setCell ⟨b, i, none⟩ u) t bs ps ns := by
  refine ⟨h.bl, h.pl, h.nl, fun h0 => ?_, fun h0 => ?_, h.sn.set1 v i u⟩
  · obtain ⟨b', o, e, hl, hc⟩ := h.sb h0
    have hne := h.sb.apart v h0 b' o e
    refine ⟨b', o, e, by simpa using hl, fun k hk => ?_⟩
    simp only [set_cell_ne _ _ _ _ _ _ hne]
    exact hc k hk
  · obtain ⟨b', o, e, hl, hc⟩ := h.sp h0
    have hne := h.sp.apart v h0 b' o e
    exact ⟨b', o, e, by simpa using hl, fun k hk => PtAt.of fun j u hj => (set_cell_ne _ _ _ _ _ _ hne).trans ((hc k hk).to j u hj)⟩
/-- A score is stored into its variable. -/
theorem ScV.row {w : World} {b : Nat} {s : SH} (h : ScV w b s) (t : SH) : ∃ w', (storeVar 26 ⟨b, 0, none⟩ (.agg #[.int .i64 t.v, .slice t.B t.bl t.bc, .slice t.P t.pl t.pc, .slice t.N t.nl t.nc])).run Tryz.prog w = .ok () w' ∧ ScV w' b t ∧ (∀ {B : Nat} {w0 : World}, Below B w0 w → B ≤ b → Below B w0 w') ∧ ∀ t2 bs ps ns, SlS w t2 bs ps ns → SlS w' t2 bs ps ns := by
  obtain ⟨arr, h1, h2⟩ := h.blk
  have hst := run_storeVar_row (P := Tryz.prog) w b 26 26 arr #[.int .i64 t.v, .slice t.B t.bl t.bc, .slice t.P t.pl t.pc, .slice t.N t.nl t.nc] h1 (by kernel_rfl) (by rw [h2]; rfl) (by simp [Value.oneCell'])
  have k := fun j => cell_setRow_same w b j arr #[.int .i64 t.v, .slice t.B t.bl t.bc, .slice t.P t.pl t.pc, .slice t.N t.nl t.nc] 26 (0, 0) h1
  exact ⟨_, hst, ⟨⟨by have := (Array.getElem?_eq_some_iff.1 (setRow_heap w b arr #[.int .i64 t.v, .slice t.B t.bl t.bc, .slice t.P t.pl t.pc, .slice t.N t.nl t.nc] 26 (0, 0) h1)).1; exact this, k 0, k 1, k 2, k 3⟩, _, setRow_heap w b arr _ 26 (0, 0) h1, rfl⟩, fun hb hB => below_setRow hb hB _, fun t2 bs ps ns hS => hS.row h _⟩
/-- Behind the operations of the head's regions 3 and 4. -/
def hwC (W : World) (n : No.Nt) (err : Int) (vs : List Value) (og : Option Value) (w : World) : Prop := (Below W.heap.size W w ∧ match og with
  | none => True
  | some g => ∃ b, g = .pointer (some ⟨b, 0, none⟩) ∧ W.heap.size ≤ b ∧ ScV w b .zero) ∧ match vs with
  | [] => True
  | [v] => w.ownsRow W.heap.size 51 12 v 0 []
  | [_, v] => w.ownsRow W.heap.size 51 12 v 2 (vO hN)
  | [_, v, u] => w.ownsRow W.heap.size 51 12 v 2 (vO hN) ∧ u = .agg (rowO n).toArray
  | [_, v, _, u] => w.ownsRow W.heap.size 51 12 v 2 (vO hN) ∧ ∃ g, u = .slice (some ⟨g, 0, none⟩) 1 1 ∧ SlO w (some ⟨g, 0, none⟩) [n]
  | [_, _, _, _, v] => w.ownsRow W.heap.size 51 12 v 3 (vO [n8, n7, n])
  | [_, _, _, _, _, v] => v = .tuple #[.agg #[.int .i64 0, .slice none 0 0, .slice none 0 0, .slice none 0 0], .int .i64 err]
  | [_, _, _, _, _, _, _] => True
  | _ => False
/-- The first half of a class: what has grown, and the variable. -/
def hwV (W : World) (og : Option Value) (w : World) : Prop := Below W.heap.size W w ∧ match og with
  | none => True
  | some g => ∃ b, g = .pointer (some ⟨b, 0, none⟩) ∧ W.heap.size ≤ b ∧ ScV w b .zero
theorem hwV.below {W w w' : World} {og : Option Value} (h : hwV W og w) (hb : Below w.heap.size w w') : hwV W og w' := by
  refine ⟨h.1.trans (hb.mono h.1.size), ?_⟩
  match og, h.2 with
  | none, _ => trivial
  | some g, ⟨b, e, hl, hv⟩ => exact ⟨b, e, hl, hv.below hb⟩
theorem hwV.grown {W w w' : World} {og : Option Value} {v : Value} {n : Nat} {xs : List Value} (h : hwV W og w) (hown : w.ownsRow W.heap.size 51 12 v n xs) (hg : w.grownBy w' v.ownBlock) : hwV W og w' := by
  refine ⟨h.1.grown hg h.1.size (oown_ne hown), ?_⟩
  match og, h.2 with
  | none, _ => trivial
  | some g, ⟨b, e, hl, hv⟩ =>
    have hne : some b ≠ v.ownBlock := fun e => by
      rcases hown.2 with ⟨h1, _⟩ | ⟨g2, cap, cur, h1, _, h3, _⟩
      · rw [h1] at e; cases e
      · rw [h1] at e
        cases e
        obtain ⟨arr, h4, _⟩ := hv.blk
        rw [h4] at h3
        cases h3
    have hk := hg.block b hv.at_.lt hne
    have c : ∀ j u, w.cell? ⟨b, j, none⟩ = some u → w'.cell? ⟨b, j, none⟩ = some u := fun j u hu => (World.cell?_of_block (w := w) (a := ⟨b, j, none⟩) hk).trans hu
    refine ⟨b, e, hl, ⟨⟨Nat.lt_of_lt_of_le hv.at_.lt hg.size, c 0 _ hv.at_.c0, c 1 _ hv.at_.c1, c 2 _ hv.at_.c2, c 3 _ hv.at_.c3⟩, ?_⟩⟩
    obtain ⟨arr, h4, h5⟩ := hv.blk
    exact ⟨arr, hk.trans h4, h5⟩
theorem hwV.made {W w : World} (h : hwV W none w) : hwV W (some (.pointer (some ⟨w.heap.size, 0, none⟩))) (w.alloc (.cells #[.int .i64 0, .slice none 0 0, .slice none 0 0, .slice none 0 0] 26)) :=
  ⟨h.1.alloc h.1.size _, w.heap.size, rfl, h.1.size, ScV.zero w⟩
/-- Behind the operations of the head's region 9. -/
def h9C (W : World) (vs : List Value) (og : Option Value) (w : World) : Prop := match vs with
  | [] => hwV W og w
  | [v] => hwV W og w ∧ ∃ g, v = .slice (some ⟨g, 0, none⟩) 2 2 ∧ SlO w (some ⟨g, 0, none⟩) [n7, n8]
  | [_, v] => hwV W og w ∧ ∃ s' : SH, v = .tuple #[.agg #[.int .i64 s'.v, .slice s'.B s'.bl s'.bc, .slice s'.P s'.pl s'.pc, .slice s'.N s'.nl s'.nc], .int .i64 0] ∧ s'.v = 2 ∧ SlS w s' hB hP hN
  | [_, _, _] => Below W.heap.size W w ∧ match og with
    | none => False
    | some g => ∃ b, g = .pointer (some ⟨b, 0, none⟩) ∧ W.heap.size ≤ b ∧ ∃ s' : SH, ScV w b s' ∧ s'.v = 2 ∧ SlS w s' hB hP hN
  | _ => False
theorem h9C.b {W w : World} {vs : List Value} {og : Option Value} (h : h9C W vs og w) : Below W.heap.size W w := by
  match vs, h with
  | [], h => exact h.1
  | [_], h => exact h.1.1
  | [_, _], h => exact h.1.1
  | [_, _, _], h => exact h.1
theorem h9C.made {W w : World} {vs : List Value} (h : h9C W vs none w) : h9C W vs (some (.pointer (some ⟨w.heap.size, 0, none⟩))) (w.alloc (.cells #[.int .i64 0, .slice none 0 0, .slice none 0 0, .slice none 0 0] 26)) := by
  match vs, h with
  | [], h => exact hwV.made h
  | [_], ⟨h, g, e, hL⟩ => exact ⟨hwV.made h, g, e, hL.alloc _⟩
  | [_, _], ⟨h, s', e, h2, h3⟩ => exact ⟨hwV.made h, s', e, h2, h3.alloc _⟩
  | [_, _, _], h => exact h.2.elim
theorem h9C.row {W w : World} {x g : Value} {t : SH} (h : h9C W [x, .tuple #[.agg #[.int .i64 t.v, .slice t.B t.bl t.bc, .slice t.P t.pl t.pc, .slice t.N t.nl t.nc], .int .i64 0]] (some g) w) :
    ∃ b, g = .pointer (some ⟨b, 0, none⟩) ∧ ∃ w', (storeVar 26 ⟨b, 0, none⟩ (.agg #[.int .i64 t.v, .slice t.B t.bl t.bc, .slice t.P t.pl t.pc, .slice t.N t.nl t.nc])).run Tryz.prog w = .ok () w' ∧ ∀ y z, h9C W [x, y, z] (some g) w' := by
  obtain ⟨⟨hb, b, e, hl, hv⟩, s2, e2, h2, h3⟩ := h
  have e3 : (Value.agg #[.int .i64 t.v, .slice t.B t.bl t.bc, .slice t.P t.pl t.pc, .slice t.N t.nl t.nc]) = .agg #[.int .i64 s2.v, .slice s2.B s2.bl s2.bc, .slice s2.P s2.pl s2.pc, .slice s2.N s2.nl s2.nc] := by
    have e4 := Value.tuple.inj e2
    have e5 := congrArg (fun a : Array Value => a[0]?) e4
    simpa using e5
  obtain ⟨w2, k1, k2, k3, k4⟩ := hv.row s2
  exact ⟨b, e, w2, by rw [e3]; exact k1, fun _ _ => ⟨k3 hb hl, b, e, hl, s2, k2, h2, k4 _ _ _ _ h3⟩⟩
theorem h9C.sat {W : World} {x y z : Value} {t : SH} (h : ∃ og w, h9C W [x, .tuple #[.agg #[.int .i64 t.v, .slice t.B t.bl t.bc, .slice t.P t.pl t.pc, .slice t.N t.nl t.nc], .int .i64 0]] og w) : ∃ og w, h9C W [x, y, z] og w := by
  obtain ⟨og, w, hw⟩ := h
  cases og with
  | none =>
    obtain ⟨b, -, w2, -, h2⟩ := hw.made.row
    exact ⟨_, w2, h2 y z⟩
  | some g =>
    obtain ⟨b, -, w2, -, h2⟩ := hw.row
    exact ⟨_, w2, h2 y z⟩
theorem hwC.made {W w : World} {n : No.Nt} {err : Int} {vs : List Value} (h : hwC W n err vs none w) : hwC W n err vs (some (.pointer (some ⟨w.heap.size, 0, none⟩))) (w.alloc (.cells #[.int .i64 0, .slice none 0 0, .slice none 0 0, .slice none 0 0] 26)) := by
  refine ⟨hwV.made h.1, ?_⟩
  have h2 := h.2
  match vs, h2 with
  | [], _ => trivial
  | [v], h2 => exact h2.alloc _
  | [_, v], h2 => exact h2.alloc _
  | [_, v, u], ⟨h2, h3⟩ => exact ⟨h2.alloc _, h3⟩
  | [_, v, _, u], ⟨h2, g, h3, h4⟩ => exact ⟨h2.alloc _, g, h3, h4.alloc _⟩
  | [_, _, _, _, v], h2 => exact h2.alloc _
  | [_, _, _, _, _, v], h2 => exact h2
  | [_, _, _, _, _, _, _], _ => trivial
end Go.Proofs.YtbbjifhelbeniaaGreatDoor
