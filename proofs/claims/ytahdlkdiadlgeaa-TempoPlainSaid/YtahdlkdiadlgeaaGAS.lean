import Derived.Test.YtahdlkdiadlgeaaGAI
import Derived.Test.YtahdlkdiadlgeaaGAL
import Derived.Test.YtahdlkdiadlgeaaGAG
import Derived.RangeFuncBox
import Derived.RangeFuncBound
import Derived.Shelf.Abstract
import Derived.WalkKit
import Derived.OwnWalkIn
import Derived.TacticsInMore
import Derived.LoopNIn
import Derived.LoopIn
import Derived.Test.YtahdlkdiadlgeaaGAD
/- The walks of meter's begins, of the function that it returns, and of the closure in this one. -/
namespace Go.Proofs.Ytahdlkdiadlgeaa
open Go.RowKit Go.Shelf

attribute [local go_sem] Oper.semAt_some

/-- What the rounds of a loop leave alone: blocks of cells that don't lie from n1 to before n2, where the caller's variables are. -/
structure Keep (n1 n2 : Nat) (X Y : World) : Prop where
  size : X.heap.size ≤ Y.heap.size
  same : ∀ (k : Nat) (o : Obj), (k < n1 ∨ n2 ≤ k) → X.heap[k]? = some o → o.isCells = true → Y.heap[k]? = some o
theorem Keep.trans {n1 n2 : Nat} {X Y Z : World} (h : Keep n1 n2 X Y) (k : Keep n1 n2 Y Z) : Keep n1 n2 X Z :=
  ⟨Nat.le_trans h.size k.size, fun i o hi ho hc => k.same i o hi (h.same i o hi ho hc) hc⟩
theorem Keep.putObj {n1 n2 : Nat} {X : World} {l : Nat} {o o' : Obj} (h : X.heap[l]? = some o) (hc : o.isCells = false) : Keep n1 n2 X (X.putObj l o') :=
  ⟨by simp, fun k o2 _ hk ho => by
    by_cases e : k = l
    · subst e; rw [h] at hk; cases hk; rw [hc] at ho; cases ho
    · exact (World.putObj_heap_other e).trans hk⟩
theorem cells_of_cell {X : World} {p : Addr} {v : Value} (h : X.cell? p = some v) : ∃ o, X.heap[p.block]? = some o ∧ o.isCells = true := by
  unfold World.cell? at h
  cases ho : X.heap[p.block]? with
  | none => simp [ho] at h
  | some o => exact ⟨o, rfl, by cases o <;> simp_all [Obj.isCells]⟩
theorem Keep.cell {n1 n2 : Nat} {X Y : World} (h : Keep n1 n2 X Y) {p : Addr} {v : Value} (hp : p.block < n1 ∨ n2 ≤ p.block) (hc : X.cell? p = some v) : Y.cell? p = some v := by
  obtain ⟨o, ho, hi⟩ := cells_of_cell hc
  have := h.same _ o hp ho hi
  unfold World.cell? at hc ⊢
  rw [this]
  rw [ho] at hc
  exact hc
theorem Keep.frozen {n1 n2 : Nat} {X Y : World} (h : Keep n1 n2 X Y) {p : Addr} {v : Value} (hp : p.block < n1 ∨ n2 ≤ p.block) (hc : X.cell? p = some v) : Y.frozen? p = X.frozen? p := by
  obtain ⟨o, ho, hi⟩ := cells_of_cell hc
  have := h.same _ o hp ho hi
  unfold World.frozen?
  rw [this, ho]
theorem Keep.setCell {n1 n2 : Nat} {X : World} {p : Addr} (hp : n1 ≤ p.block) (hq : p.block < n2) (v : Value) : Keep n1 n2 X (X.setCell p v) :=
  ⟨by simp [World.setCell], fun k o hk ho _ => (Below.heap_setCell X p v k (by omega)).trans ho⟩

theorem SlB.keep {n1 n2 : Nat} {X Y : World} {A : Option Addr} {l : List Mt.B} (h : SlB X A l) (hk : Keep n1 n2 X Y) (hA : ∀ b off, A = some ⟨b, off, none⟩ → b < n1) : SlB Y A l := fun h0 => by
  obtain ⟨b, off, e, hlt, hc⟩ := h h0
  have hb : b < n1 ∨ n2 ≤ b := .inl (hA b off e)
  refine ⟨b, off, e, Nat.lt_of_lt_of_le hlt hk.size, fun k hk' => ?_⟩
  obtain ⟨c0, c1, c2, c3⟩ := hc k hk'
  exact ⟨hk.cell hb c0, hk.cell hb c1, hk.cell hb c2, hk.cell hb c3⟩

namespace Mt
def pres (l : List B) (k : Nat) : List (Nat × Int) := (List.range k).map fun i => (i, before l i)
theorem pres_succ (l : List B) (k : Nat) : pres l (k + 1) = pres l k ++ [(k, before l k)] := by simp [pres, List.range_succ]
theorem pres_prefix (l : List B) {k m : Nat} (h : k ≤ m) : pres l k <+: pres l m := by
  obtain ⟨d, rfl⟩ := Nat.le.dest h
  clear h
  induction d with
  | zero => exact List.prefix_refl _
  | succ d ih => rw [← Nat.add_assoc, pres_succ]; exact ih.trans (List.prefix_append _ _)
theorem pres_of {l : List B} {m : Nat} {pre : List (Nat × Int)} (h : pre <+: pres l m) : ∃ k, k ≤ m ∧ pre = pres l k := by
  have hl := h.length_le
  have e := List.prefix_iff_eq_take.1 h
  refine ⟨pre.length, by simpa [pres] using hl, ?_⟩
  have h2 := pres_prefix l (k := pre.length) (m := m) (by simpa [pres] using hl)
  have e2 := List.prefix_iff_eq_take.1 h2
  rw [e2]
  have : (pres l pre.length).length = pre.length := by simp [pres]
  rw [this]
  exact e
end Mt

set_option maxHeartbeats 400000 in
theorem mpass_is (n d t z : Int) (b : Nat) (h : Mt.tk n d = t) (h0 : 0 ≤ t) (z0 : 0 ≤ z) (z1 : z + t ≤ 1000000000000) (w : World) (hb : b < w.heap.size) (hc : w.cell? ⟨b, 0, none⟩ = some (.int .i64 z)) (hf : w.frozen? ⟨b, 0, none⟩ = false) :
    Calls Try.prog 78 #[.agg #[.int .i64 n, .int .i64 d], .pointer (some ⟨b, 0, none⟩)] w fun e w' => (∃ v, e = .returned v) ∧ w'.cell? ⟨b, 0, none⟩ = some (.int .i64 (z + t)) ∧ w'.frozen? ⟨b, 0, none⟩ = false ∧ w.grownBy w' (some b) := by
  have G0 := (Below.refl w.heap.size w).alloc (Nat.le_refl _) (.cells #[.int .i64 n, .int .i64 d] 25)
  have A0 : At2 (w.alloc (.cells #[.int .i64 n, .int .i64 d] 25)) w.heap.size n d := At2.new _ _ _ _
  have HT := Lib.hid h
  have HC := Lib.hid hc
  have HFR := Lib.hid hf
  clear h hc hf
  go_enter Try.func78, Try.ntmps78
  go_wp2_with fail
  generalize w.alloc (.cells #[.int .i64 n, .int .i64 d] 25) = w2 at *
  have x0 := fun x : Ext w2 => x.cell A0.c0
  have x1 := fun x : Ext w2 => x.cell A0.c1
  have x2 := fun x : Ext w2 => x.cell ((G0.cell (p := ⟨b, 0, none⟩) hb).trans HC.out)
  have hne := Ext.there w2
  refine Ext.tail 4 (by kernel_rfl) (by kernel_rfl) ?_
  simp only [List.take_succ_cons, List.take_zero, List.drop_succ_cons, List.drop_zero]
  repeat (go_big_quiet_step ((go_at_call 52; exact Ext.call _ (munits_is n d t HT.out h0 _))))
  refine wpQuiet_nil ?_
  rintro _ ⟨xw, rfl⟩
  have G1 := G0.trans (xw.h.mono G0.size)
  clear x0 x1 x2 hne
  generalize xw.w = w3 at *
  clear xw
  have c3 := (G1.cell (p := ⟨b, 0, none⟩) hb).trans HC.out
  have f3 := (G1.frozen (p := ⟨b, 0, none⟩) hb).trans HFR.out
  go_wp2_with fail
  go_end0
  refine ⟨⟨_, rfl⟩, World.cell?_setCell_same' _ _ _ (by rw [c3]; rfl), by rw [World.frozen?_setCell]; exact f3, ?_⟩
  exact ⟨G1.os, G1.tape, G1.output, by have := G1.size; simpa [World.setCell] using this, fun i hi hne => (Below.heap_setCell _ _ _ _ (fun e => hne (by rw [e]))).trans (G1.block i hi)⟩

set_option maxHeartbeats 400000 in
theorem mbegins_is (A : Option Addr) (len cap : Nat) (w : World) :
    Calls Try.prog 60 #[.slice A len cap] w fun e w' => e = .returned (.func (.func 77) #[] #[.pointer (some ⟨w.heap.size, 0, none⟩)]) ∧ w' = w.alloc (.cells #[.slice A len cap] 22) := by
  go_enter Try.func60, Try.ntmps60
  go_wp2_with fail
  go_ret
  exact ⟨rfl, rfl⟩

set_option maxHeartbeats 2000000 in
set_option maxRecDepth 100000 in
theorem mbegins_in (l : List Mt.B) (len cap : Nat) (A : Option Addr) (L Bl n1 n2 : Nat) (hl : l.length = len) (hok : ∀ b ∈ l, Mt.okB b) (hmax : len ≤ 4000) (J Jx : List (Nat × Int) → World → Prop) (W : World)
    (hJ : ∀ s X Y, J s X → Below W.heap.size X Y → J s Y) (hn12 : n1 ≤ n2) (hB : n2 ≤ Bl) (hBW : Bl < W.heap.size) (hBl : W.cell? ⟨Bl, 0, none⟩ = some (.slice A len cap)) (hA : ∀ b off, A = some ⟨b, off, none⟩ → b < n1)
    (hL : SlB W A l)
    (hY : ∀ pre x X, pre ++ [x] <+: Mt.pres l (len + 1) → J pre X → YieldAt Fence.wide 7 Try.prog L #[.int .i64 (x.1 : Int), .int .i64 x.2] X fun e Y =>
      (e = .returned (.bool true) ∧ J (pre ++ [x]) Y ∧ Keep n1 n2 X Y) ∨ (e = .returned (.bool false) ∧ Jx (pre ++ [x]) Y))
    (h0 : J [] W) :
    CallsIn Fence.wide 8 Try.prog 77 #[.func (.yield L) #[] #[], .pointer (some ⟨Bl, 0, none⟩)] W fun e Y => (∃ v, e = .returned v) ∧ (J (Mt.pres l (len + 1)) Y ∨ ∃ pre, pre <+: Mt.pres l (len + 1) ∧ Jx pre Y) := by
  have HN := Lib.hid hl
  have HOK := Lib.hid hok
  have HL := Lib.hid hL
  have HJ := Lib.hid hJ
  have HY := Lib.hid hY
  have HA := Lib.hid hA
  clear hl hok hL hJ hY hA
  refine callsIn_of_wp Try.func77 rfl trivial ?_ rfl
  simp only [Try.ntmps77, List.size_toArray, List.length_cons, List.length_nil, Nat.reduceAdd, Nat.reduceSub, Array.replicate_succ, Array.replicate_zero, List.push_toArray, List.append_toArray, List.nil_append, List.cons_append]
  have hn7 : 1 ≤ 8 := by omega
  gi_wp2
  gi_loopw [10] (fun s10 wr => ∃ (k : Nat) (q z : Int), k ≤ len ∧ q = k ∧ s10 = .int .i64 q ∧ Hid (Mt.before l k = z) ∧ 0 ≤ z ∧ z ≤ 40320 * q ∧ Hid (J (Mt.pres l k) wr) ∧ W.heap.size < wr.heap.size ∧ wr.cell? ⟨W.heap.size, 0, none⟩ = some (.int .i64 z) ∧ wr.frozen? ⟨W.heap.size, 0, none⟩ = false ∧ wr.cell? ⟨Bl, 0, none⟩ = some (.slice A len cap) ∧ Hid (SlB wr A l))
    (fun s10 _ => len - (intOf s10).toNat)
  case atStart =>
    exact ⟨0, 0, 0, Nat.zero_le _, rfl, rfl, Lib.hid rfl, by omega, by omega, Lib.hid (HJ.out _ _ _ h0 ((Below.refl _ _).alloc (Nat.le_refl _) _)), by simp, by go_simp, by go_simp, (((Below.refl W.heap.size W).alloc (Nat.le_refl _) _).cell (p := ⟨Bl, 0, none⟩) hBW).trans hBl, Lib.hid (HL.out.alloc _)⟩
  case round =>
    clear h0 hBl
    obtain ⟨k, q, z, hk, hq, rfl, HZ, z0, z1, HJs, hsz, hcz, hfz, hcl, HS⟩ := hrel
    by_cases hlt : k < len
    · have hil : k < l.length := by rw [HN.out]; omega
      obtain ⟨bb, off, rfl, hbb, hc⟩ := HS.out (by omega)
      obtain ⟨c0, c1, c2, c3⟩ := hc k hil
      have ho := HOK.out _ (List.getElem_mem hil)
      have hbs := Mt.before_succ hil
      rw [← atB_eq hil] at ho hbs
      obtain ⟨_, _, t1, t2, _, _⟩ := ho
      obtain ⟨t, ht⟩ : ∃ t, Mt.bt (atB l k) = t := ⟨_, rfl⟩
      rw [ht] at t1 t2 hbs
      have HT : Hid (Mt.tk (atB l k).2.1 (atB l k).2.2.1 = t) := Lib.hid ht
      have HB : Hid (Mt.before l (k + 1) = z + t) := Lib.hid (by rw [hbs, HZ.out])
      have HP : Hid (Mt.pres l (k + 1) = Mt.pres l k ++ [(k, z)]) := Lib.hid (by rw [Mt.pres_succ, HZ.out])
      have hpp : Mt.pres l k ++ [(k, z)] <+: Mt.pres l (len + 1) := by rw [← HP.out]; exact Mt.pres_prefix l (by omega)
      have hq1 : q < (len : Int) := by omega
      have hq3 : 0 ≤ q := by omega
      have hqn : q.toNat = k := by omega
      have hq4 : q ≤ 4000 := by omega
      clear hc hbs ht hil
      generalize (atB l k).1 = b0 at *
      generalize (atB l k).2.1 = b1 at *
      generalize (atB l k).2.2.1 = b2 at *
      generalize (atB l k).2.2.2 = b3 at *
      have HQ := Lib.hid hq
      have hJ2 := HJ.out _ _ _ HJs.out ((Below.refl W.heap.size wr).alloc (by omega) (.cells #[.int .i64 b0, .int .i64 b1, .int .i64 b2, .int .i64 b3] 64))
      obtain ⟨fn, tmps, assign, body, hy, hR⟩ := HY.out _ (k, z) _ hpp hJ2
      dsimp only at hy
      rw [← hq] at hy
      have HR := Lib.hid hR
      have HPP := Lib.hid hpp
      clear hR hJ2 hpp hq
      have X0 := At4.new wr b0 b1 b2 b3 64
      have hBX := (Below.refl wr.heap.size wr).alloc (Nat.le_refl _) (.cells #[.int .i64 b0, .int .i64 b1, .int .i64 b2, .int .i64 b3] 64)
      have XZ := (hBX.cell (p := ⟨W.heap.size, 0, none⟩) hsz).trans hcz
      have XF := (hBX.frozen (p := ⟨W.heap.size, 0, none⟩) hsz).trans hfz
      have XL := (hBX.cell (p := ⟨Bl, 0, none⟩) (show Bl < wr.heap.size by omega)).trans hcl
      have XS := HS.out.alloc (.cells #[.int .i64 b0, .int .i64 b1, .int .i64 b2, .int .i64 b3] 64)
      have XC := Lib.hid (And.intro X0 (And.intro XZ (And.intro XF (And.intro XL XS))))
      clear X0 hBX XZ XF XL XS
      gi_wp2
      refine HR.out.mono ?_
      clear HR hy
      rintro e Y (⟨rfl, hJ3, hK3⟩ | ⟨rfl, hJx3⟩)
      · obtain ⟨X0, XZ, XF, XL, XS⟩ := XC.out
        have y1 := hK3.cell (p := ⟨wr.heap.size, 1, none⟩) (.inr (by simp; omega)) X0.c1
        have y2 := hK3.cell (p := ⟨wr.heap.size, 2, none⟩) (.inr (by simp; omega)) X0.c2
        have yz := hK3.cell (p := ⟨W.heap.size, 0, none⟩) (.inr (by simp; omega)) XZ
        have yf := (hK3.frozen (p := ⟨W.heap.size, 0, none⟩) (.inr (by simp; omega)) XZ).trans XF
        have yl := hK3.cell (p := ⟨Bl, 0, none⟩) (.inr (by simp; omega)) XL
        have YS := Lib.hid (XS.keep hK3 HA.out)
        have hszY : W.heap.size < Y.heap.size := by have := hK3.size; simp at this; omega
        have HJ3 := Lib.hid hJ3
        clear XC X0 XZ XF XL XS hcz hfz hcl HS HJs c0 c1 c2 c3 hK3 hJ3
        gi_wp2_with (refine ⟨trivial, ?_⟩; gi_at_call 78; refine (callsIn_wide.2 (mpass_is b1 b2 t z W.heap.size HT.out (by omega) z0 (by omega) _ hszY yz yf)).mono ?_; rintro e Z ⟨⟨v, rfl⟩, zc, zf, hg⟩)
        go_roundw
        case rel =>
          have hYZ : Below W.heap.size Y Z := ⟨hg.os, hg.tape, hg.output, hg.size, fun i hi => hg.block i (by omega) (fun e => by have := Option.some.inj e; omega)⟩
          refine ⟨k + 1, q + 1, z + t, by omega, (by have := HQ.out; omega), rfl, HB, by omega, by omega, Lib.hid (by rw [HP.out]; exact HJ.out _ _ _ HJ3.out hYZ), Nat.lt_of_lt_of_le hszY hg.size, zc, zf, (hYZ.cell (p := ⟨Bl, 0, none⟩) hBW).trans yl, Lib.hid ?_⟩
          exact YS.out.keep (n1 := W.heap.size) (n2 := Y.heap.size) ⟨hg.size, fun i o hi ho _ => (hg.block i (Array.getElem?_eq_some_iff.1 ho).1 (fun e => by have := Option.some.inj e; omega)).trans ho⟩ (fun b off e => by have := HA.out b off e; omega)
        case measure => have := HQ.out; simp [intOf]; omega
      · gi_wp2
        refine bodyPost_ret (results_none rfl _ _ _) rfl ?_
        exact ⟨⟨_, rfl⟩, .inr ⟨_, HPP.out, hJx3⟩⟩
    · obtain rfl : k = len := by omega
      have HP : Hid (Mt.pres l (k + 1) = Mt.pres l k ++ [(k, z)]) := Lib.hid (by rw [Mt.pres_succ, HZ.out])
      obtain ⟨fn, tmps, assign, body, hy, hR⟩ := HY.out _ (k, z) _ (by rw [← HP.out]; exact List.prefix_refl _) HJs.out
      dsimp only at hy
      have HR := Lib.hid hR
      have hq1 : ¬ q < (k : Int) := by omega
      obtain rfl := hq
      clear hR
      gi_wp2
      refine HR.out.mono ?_
      clear HR hy
      rintro e Y (⟨rfl, hJ3, _⟩ | ⟨rfl, hJx3⟩)
      · gi_wp2
        go_end0
        exact ⟨⟨_, rfl⟩, .inl (by rw [HP.out]; exact hJ3)⟩
      · gi_wp2
        go_end0
        exact ⟨⟨_, rfl⟩, .inr ⟨_, by rw [← HP.out]; exact List.prefix_refl _, hJx3⟩⟩

/-- Bars' begins, one after the other, and their end. -/
theorem mbegins_ranged (l : List Mt.B) (len cap : Nat) (A : Option Addr) (Bl n1 n2 : Nat) (hl : l.length = len) (hok : ∀ b ∈ l, Mt.okB b) (hmax : len ≤ 4000) (w : World) (hn12 : n1 ≤ n2) (hB : n2 ≤ Bl) (hBW : Bl < w.heap.size) (hBl : w.cell? ⟨Bl, 0, none⟩ = some (.slice A len cap))
    (hA : ∀ b off, A = some ⟨b, off, none⟩ → b < n1) (hL : SlB w A l) :
    Ranged Try.prog 77 #[.pointer (some ⟨Bl, 0, none⟩)] (fun x : Nat × Int => #[Value.int .i64 (x.1 : Int), Value.int .i64 x.2]) (Keep n1 n2) (Mt.pres l (len + 1)) w := fun L J Jx W hW hJ _ hY h0 =>
  mbegins_in l len cap A L Bl n1 n2 hl hok hmax J Jx W hJ hn12 hB (Nat.lt_of_lt_of_le hBW hW.size) ((hW.cell (p := ⟨Bl, 0, none⟩) hBW).trans hBl) hA (hL.below hW) hY h0
end Go.Proofs.Ytahdlkdiadlgeaa

/- The walk of meter's before: a loop over begins, with a variable that its rounds write. -/
namespace Go.Proofs.Ytahdlkdiadlgeaa
open Go.RowKit Go.Shelf

attribute [local go_sem] Oper.semAt_some

theorem Mt.pres_last {l : List B} {m : Nat} {pre : List (Nat × Int)} {x : Nat × Int} (h : pre ++ [x] <+: pres l m) : x = (pre.length, before l pre.length) ∧ pre.length < m := by
  obtain ⟨k, hk, e⟩ := pres_of h
  have hlen : pre.length + 1 = k := by have := congrArg List.length e; simpa [pres] using this
  subst hlen
  rw [pres_succ] at e
  have := (List.append_inj' e rfl).2
  exact ⟨by simpa using this, by omega⟩
theorem Mt.pres_len (l : List B) (m : Nat) : (pres l m).length = m := by simp [pres]

theorem new1 (w : World) (v : Value) (t : TypeId) (h : v.cells.size = 1 := by rfl) : (w.alloc (.cells #[v] t)).cell? ⟨w.heap.size, 0, none⟩ = some v ∧ (w.alloc (.cells #[v] t)).frozen? ⟨w.heap.size, 0, none⟩ = false := by
  have := h
  exact ⟨by go_simp, by go_simp⟩
theorem At3.low {B : Nat} {X Y : World} {b : Nat} {x y z : Int} (h : At3 X b x y z) (hb : Below B X Y) (hB : b < B) : At3 Y b x y z :=
  ⟨Nat.lt_of_lt_of_le h.lt hb.size, (hb.cell (p := ⟨b, 0, none⟩) hB).trans h.c0, (hb.cell (p := ⟨b, 1, none⟩) hB).trans h.c1, (hb.cell (p := ⟨b, 2, none⟩) hB).trans h.c2⟩

set_option maxHeartbeats 2000000 in
set_option maxRecDepth 100000 in
theorem mbefore_is (l : List Mt.B) (b n d v : Int) (len cap : Nat) (A : Option Addr) (hv : Mt.before l b.toNat + Mt.tk n d = v) (hp : Mt.posB l b n d = true) (hl : l.length = len) (hval : Mt.Val l) (w : World) (hL : SlB w A l) :
    Calls Try.prog 35 #[.slice A len cap, .agg #[.int .i64 b, .int .i64 n, .int .i64 d]] w fun e w' => e = .returned (.int .i64 v) ∧ Below w.heap.size w w' := by
  obtain ⟨hb0, hb1, ht0, _⟩ := Mt.posB_iff.1 hp
  obtain ⟨k, rfl⟩ := Int.eq_ofNat_of_zero_le hb0
  rw [Int.toNat_natCast] at hv hb1
  rw [hl] at hb1
  obtain ⟨t, ht⟩ : ∃ t, Mt.tk n d = t := ⟨_, rfl⟩
  have htl := Mt.tk_le n d
  rw [ht] at hv ht0 htl
  have hl0 : 0 < l.length := hval.1
  have hl4 : len ≤ 4000 := by have := hval.2.1; omega
  obtain ⟨bb, off, rfl, hbb, hc⟩ := hL hl0
  obtain ⟨z, hz⟩ : ∃ z, Mt.before l k = z := ⟨_, rfl⟩
  obtain ⟨hz0, hz1⟩ := Mt.before_bounds hval.ok k (by omega)
  rw [hz] at hv hz0 hz1
  have HT := Lib.hid ht
  have HV := Lib.hid hv
  have HZ := Lib.hid hz
  have HL := Lib.hid hL
  have HVal := Lib.hid hval
  have HN := Lib.hid hl
  clear hp ht hv hz hL hval hl hc hl0 hb0
  refine (callsIn_wide (n := 10)).1 (callsIn_of_wp_marks Try.func35 rfl trivial (wpIn_wide.2 ?_) rfl)
  simp only [Try.ntmps35, List.size_toArray, List.length_cons, List.length_nil, Nat.reduceAdd, Nat.reduceSub, Array.replicate_succ, Array.replicate_zero, List.push_toArray, List.append_toArray, List.nil_append, List.cons_append]
  go_wp2_with (first | (go_at_call 60; refine (mbegins_is _ _ _ _).mono ?_; rintro e w2 ⟨rfl, rfl⟩) | fail)
  obtain ⟨w3, hw3⟩ : ∃ w3, (((w.alloc (.cells #[.int .i64 (k : Int), .int .i64 n, .int .i64 d] 27)).alloc (.cells #[.int .i64 0] 3)).alloc (.cells #[.slice (some ⟨bb, off, none⟩) len cap] 22)) = w3 := ⟨_, rfl⟩
  have hs3 : w3.heap.size = w.heap.size + 3 := by rw [← hw3]; simp
  have G3 : Below w.heap.size w w3 := by rw [← hw3]; exact (((Below.refl _ w).alloc (Nat.le_refl _) _).alloc (by simp) _).alloc (by simp; omega) _
  have P3 : At3 w3 w.heap.size k n d := by rw [← hw3]; exact ((At3.new w k n d 27).alloc _).alloc _
  have T3 : w3.cell? ⟨w.heap.size + 1, 0, none⟩ = some (.int .i64 0) ∧ w3.frozen? ⟨w.heap.size + 1, 0, none⟩ = false := by
    have e := new1 (w.alloc (.cells #[.int .i64 (k : Int), .int .i64 n, .int .i64 d] 27)) (.int .i64 0) 3
    have hb := (Below.refl ((w.alloc (.cells #[.int .i64 (k : Int), .int .i64 n, .int .i64 d] 27)).alloc (.cells #[.int .i64 0] 3)).heap.size _).alloc (Nat.le_refl _) (.cells #[.slice (some ⟨bb, off, none⟩) len cap] 22)
    rw [hw3] at hb
    simp only [World.size_alloc] at e hb
    exact ⟨(hb.cell (p := ⟨w.heap.size + 1, 0, none⟩) (by simp)).trans e.1, (hb.frozen (p := ⟨w.heap.size + 1, 0, none⟩) (by simp)).trans e.2⟩
  have B3 : w3.cell? ⟨w.heap.size + 2, 0, none⟩ = some (.slice (some ⟨bb, off, none⟩) len cap) := by
    have e := (new1 ((w.alloc (.cells #[.int .i64 (k : Int), .int .i64 n, .int .i64 d] 27)).alloc (.cells #[.int .i64 0] 3)) (.slice (some ⟨bb, off, none⟩) len cap) 22).1
    rw [hw3] at e
    simpa only [World.size_alloc] using e
  rw [hw3]
  clear hw3
  refine wp_ranged (gf := 77) (lb := #[.pointer (some ⟨w.heap.size + 1 + 1, 0, none⟩)]) rfl (enters_of Try.func77 (by kernel_rfl) rfl)
    (mbegins_ranged l len cap _ (w.heap.size + 2) (w.heap.size + 1) (w.heap.size + 2) HN.out HVal.out.ok hl4 w3 (by omega) (by omega) (by omega) B3 (fun b o e => by cases e; omega) (HL.out.below G3))
    (Below.refl _ _) (fun h k => h.trans k) (fun X j o o' _ h hc => Keep.putObj h hc) (fun _ => rfl)
    (fun pre X => pre.length ≤ k + 1 ∧ At3 X w.heap.size k n d ∧ X.cell? ⟨w.heap.size + 1, 0, none⟩ = some (.int .i64 (Mt.before l (pre.length - 1))) ∧ X.frozen? ⟨w.heap.size + 1, 0, none⟩ = false ∧ Below w.heap.size w X)
    (fun _ X => At3 X w.heap.size k n d ∧ X.cell? ⟨w.heap.size + 1, 0, none⟩ = some (.int .i64 z) ∧ Below w.heap.size w X)
    0
    (fun s X Y h hb => ⟨h.1, h.2.1.low hb (by omega), (hb.cell (p := ⟨w.heap.size + 1, 0, none⟩) (show w.heap.size + 1 < w3.heap.size by omega)).trans h.2.2.1, (hb.frozen (p := ⟨w.heap.size + 1, 0, none⟩) (show w.heap.size + 1 < w3.heap.size by omega)).trans h.2.2.2.1, h.2.2.2.2.trans (hb.mono (by omega))⟩)
    (fun s X Y h hb => ⟨h.1.low hb (by omega), (hb.cell (p := ⟨w.heap.size + 1, 0, none⟩) (show w.heap.size + 1 < w3.heap.size by omega)).trans h.2.1, h.2.2.trans (hb.mono (by omega))⟩)
    ⟨Nat.zero_le _, P3, T3.1, T3.2, G3⟩
    (fun x => { tmps := #[.slice (some ⟨bb, off, none⟩) len cap, .agg #[.int .i64 (k : Int), .int .i64 n, .int .i64 d], undef, .pointer (some ⟨w.heap.size, 0, none⟩), .int .i64 0, .pointer (some ⟨w.heap.size + 1, 0, none⟩), .int .i64 (x.1 : Int), .int .i64 x.2, .slice (some ⟨bb, off, none⟩) len cap, .func (.func 77) #[] #[.pointer (some ⟨w.heap.size + 1 + 1, 0, none⟩)], .int .i64 (x.1 : Int), .int .i64 x.2, undef, undef, undef, undef, undef, undef, undef, undef, undef, undef], defers := [] }) ?assign ?body ?done ?stop
  case assign =>
    intro L x X K hK
    gi_wp2
    exact hK
  case body =>
    rintro L pre x X hpre ⟨hlen, hP, hT, hF, hG⟩ hsz
    obtain ⟨rfl, hpl⟩ := Mt.pres_last hpre
    dsimp only
    obtain ⟨j, hj⟩ : ∃ j, pre.length = j := ⟨_, rfl⟩
    obtain ⟨y, hy⟩ : ∃ y, Mt.before l j = y := ⟨_, rfl⟩
    rw [hj] at hlen hT hpl ⊢
    rw [hy]
    have HJ := Lib.hid hj
    have HY := Lib.hid hy
    have p0 := hP.c0
    by_cases hjk : j ≤ k
    · have h1 : ¬ (k : Int) < (j : Int) := by omega
      clear hy hj
      gi_wp2
      refine ⟨(KeepsOthers.setCell _ _ _).from _, Keep.setCell (p := ⟨w.heap.size + 1, 0, none⟩) (Nat.le_refl _) (Nat.lt_succ_self _) _, ?_, hP.low ((Below.refl (w.heap.size + 1) X).setCell (p := ⟨w.heap.size + 1, 0, none⟩) (Nat.le_refl _) _) (by omega), ?_, by rw [World.frozen?_setCell]; exact hF, hG.setCell (p := ⟨w.heap.size + 1, 0, none⟩) (Nat.le_succ _) _⟩
      · rw [List.length_append, HJ.out, List.length_singleton]; omega
      · rw [List.length_append, HJ.out, List.length_singleton, Nat.add_sub_cancel, HY.out]
        exact World.cell?_setCell_same' _ _ _ (by rw [hT]; rfl)
    · have h1 : (k : Int) < (j : Int) := by omega
      obtain rfl : j = k + 1 := by omega
      rw [Nat.add_sub_cancel, HZ.out] at hT
      clear hy hj
      gi_wp2
      exact ⟨rfl, KeepsFrom.refl _ _, hP, hT, hG⟩
  case done =>
    rintro D X hD ⟨hlen, hP, hT, hF, hG⟩ hK
    rw [Mt.pres_len] at hlen hT
    obtain rfl : k = len := by omega
    rw [Nat.add_sub_cancel, HZ.out] at hT
    have hlt : D < X.heap.size := (Array.getElem?_eq_some_iff.1 hK).1
    have x0 := fun x : Ext X => x.cell hP.c1
    have x1 := fun x : Ext X => x.cell hP.c2
    have x2 := fun x : Ext X => x.cell hT
    have hne := Ext.there X
    go_wp2_with fail
    refine Ext.region (by kernel_rfl) (by kernel_rfl) ?_
    repeat (go_big_quiet_step ((go_at_call 52; exact Ext.call _ (munits_is n d t HT.out ht0 _))))
    refine wpQuiet_nil ?_
    rintro _ ⟨xw, rfl⟩
    have G4 := hG.trans (xw.h.mono hG.size)
    have K4 := (xw.h.block D hlt).trans hK
    clear x0 x1 x2 hne
    generalize xw.w = w4 at *
    clear xw
    go_wp2_with fail
    refine ⟨by simp, .inl ⟨_, _, rfl, run_takeDeferred K4, ?_⟩⟩
    exact ⟨_, results_tmp rfl _ _ _, by rw [← HV.out]; rfl, G4.trans (putObj_below (by omega) G4.size)⟩
  case stop =>
    rintro D pre X hD hpre ⟨hP, hT, hG⟩ hK
    have hlt : D < X.heap.size := (Array.getElem?_eq_some_iff.1 hK).1
    have x0 := fun x : Ext X => x.cell hP.c1
    have x1 := fun x : Ext X => x.cell hP.c2
    have x2 := fun x : Ext X => x.cell hT
    have hne := Ext.there X
    go_wp2_with fail
    refine Ext.region (by kernel_rfl) (by kernel_rfl) ?_
    repeat (go_big_quiet_step ((go_at_call 52; exact Ext.call _ (munits_is n d t HT.out ht0 _))))
    refine wpQuiet_nil ?_
    rintro _ ⟨xw, rfl⟩
    have G4 := hG.trans (xw.h.mono hG.size)
    have K4 := (xw.h.block D hlt).trans hK
    clear x0 x1 x2 hne
    generalize xw.w = w4 at *
    clear xw
    go_wp2_with fail
    refine ⟨by simp, .inl ⟨_, _, rfl, run_takeDeferred K4, ?_⟩⟩
    exact ⟨_, results_tmp rfl _ _ _, by rw [← HV.out]; rfl, G4.trans (putObj_below (by omega) G4.size)⟩

end Go.Proofs.Ytahdlkdiadlgeaa

/- The walk of meter's find: a loop over begins, with two variables that its rounds write. -/
namespace Go.Proofs.Ytahdlkdiadlgeaa
open Go.RowKit Go.Shelf

attribute [local go_sem] Oper.semAt_some

namespace Mt
theorem before_mono {l : List B} (hok : ∀ b ∈ l, okB b) {i : Nat} : ∀ {j : Nat}, i ≤ j → j ≤ l.length → before l i ≤ before l j
  | 0, h, _ => by
    obtain rfl : i = 0 := by omega
    exact Int.le_refl _
  | j + 1, h, hj => by
    rcases Nat.lt_or_eq_of_le h with h1 | h1
    · have ih := before_mono hok (i := i) (j := j) (by omega) (by omega)
      have hjl : j < l.length := by omega
      have := before_succ hjl
      have hb := (hok _ (List.getElem_mem hjl)).2.2.1
      omega
    · subst h1; exact Int.le_refl _
theorem ok_pos {l : List B} (hok : ∀ b ∈ l, okB b) : ∀ b ∈ l, 1 ≤ bt b := fun b hb => (hok b hb).2.2.1
theorem wh_none {l : List B} {u : Int} (hok : ∀ b ∈ l, okB b) (h : u < 0 ∨ before l l.length < u) : wh l u = none := by
  cases hw : wh l u with
  | none => rfl
  | some p =>
    obtain ⟨k, t⟩ := p
    obtain ⟨⟨h1, h2, h3, h4⟩, h5⟩ := wh_some (ok_pos hok) hw
    have hb := before_bounds hok k h1
    rcases h with h | h
    · omega
    · exfalso
      by_cases hk : k < l.length
      · have := h4 hk
        have h6 := before_succ hk
        have h7 := before_mono hok (i := k + 1) (j := l.length) hk (Nat.le_refl _)
        omega
      · obtain rfl : k = l.length := by omega
        have := h3 rfl
        omega
theorem make_of {n : Nat} (h : n ≤ 1000000000) : Rt.makeR (n : Int) 1680 = (oN n, oD n, 0) := by
  have ht : Rt.takes (n : Int) 1680 = true := Rt.takes_iff.2 ⟨by omega, by omega, by omega, by omega⟩
  have hr := Rt.red_of (n := (n : Int)) (d := 1680) (by omega) (o_vld h) (by rw [o_mul, Int.mul_comm])
  obtain ⟨e1, e2, e3⟩ := Rt.op_yes (n : Int) 1680
  unfold Rt.makeR
  rw [ht, e1, e2, e3, hr.1, hr.2.1, hr.2.2]
theorem make_ne {n : Int} {N D E : Int} (h0 : n ≠ 0) (h : Rt.makeR n 1680 = (N, D, E)) (he : E = 0) : N ≠ 0 := by
  subst he
  unfold Rt.makeR at h
  cases ht : Rt.takes n 1680 with
  | false =>
    obtain ⟨e1, e2, e3⟩ := Rt.op_no n 1680
    rw [ht, e1, e2, e3] at h
    simp at h
  | true =>
    obtain ⟨e1, e2, e3⟩ := Rt.op_yes n 1680
    rw [ht, e1, e2, e3] at h
    simp only [Prod.mk.injEq] at h
    obtain ⟨hN, hD, hE⟩ := h
    obtain ⟨_, _, h3, _, _⟩ := Rt.red_ok hE
    intro hz
    rw [hN, hz] at h3
    have h4 : Rt.redD n 1680 ≠ 0 := by
      have := Rt.vld_lim (Rt.red_ok hE).2.1
      omega
    have := Int.mul_ne_zero h4 h0
    omega
/-- What is left of so many 1680ths behind j rounds. -/
def rest (l : List B) (u : Int) (j : Nat) : Int := if j = 0 then 0 else u - before l (j - 1)
theorem rest_succ (l : List B) (u : Int) (j : Nat) : rest l u (j + 1) = u - before l j := by simp [rest]
/-- What find makes of it. -/
theorem find_end {l : List B} {u : Int} {j : Nat} (hok : ∀ b ∈ l, okB b) (hj : j ≤ l.length + 1) (h1 : ∀ i, i < j → before l i ≤ u) (h2 : j ≤ l.length → u < before l j) :
    ∃ N D E, Rt.makeR (rest l u j) 1680 = (N, D, E) ∧
      ((E = 0 ∧ posB l ((j : Int) - 1) N D = true ∧ wh l u = some (j - 1, rest l u j) ∧ (((j - 1 : Nat) : Int) = (j : Int) - 1) ∧ N = oN (rest l u j).toNat ∧ D = oD (rest l u j).toNat) ∨
        (wh l u = none ∧ (E = 0 → posB l ((j : Int) - 1) N D = false))) := by
  cases j with
  | zero =>
    have hu := h2 (Nat.zero_le _)
    rw [before_zero] at hu
    refine ⟨_, _, _, make_of (n := 0) (by omega), .inr ⟨wh_none hok (.inl hu), fun _ => ?_⟩⟩
    unfold posB
    rw [decide_eq_false (by omega)]
    rfl
  | succ k =>
    rw [rest_succ]
    have hk1 := h1 k (Nat.lt_succ_self k)
    have e1 : (((k + 1 : Nat) : Int) - 1) = (k : Int) := by omega
    rw [e1, Nat.add_sub_cancel]
    obtain ⟨r, hr⟩ := Int.eq_ofNat_of_zero_le (show 0 ≤ u - before l k by omega)
    by_cases hkl : k < l.length
    · have h3 := h2 hkl
      have h4 := before_succ hkl
      have h5 := (hok _ (List.getElem_mem hkl)).2.2.2.1
      have hrl : r ≤ 1000000000 := by omega
      have hp : pos l k (r : Int) := ⟨by omega, by omega, fun e => by omega, fun _ => by omega⟩
      have hw := wh_pos (ok_pos hok) hp
      rw [show before l k + (r : Int) = u by omega] at hw
      refine ⟨_, _, _, by rw [hr]; exact make_of hrl, .inl ⟨rfl, ?_, by rw [hw, hr], rfl, by rw [hr, Int.toNat_natCast], by rw [hr, Int.toNat_natCast]⟩⟩
      rw [posB_iff, tk_of hrl, Int.toNat_natCast]
      exact ⟨by omega, hp⟩
    · obtain rfl : k = l.length := by omega
      rcases Nat.eq_zero_or_pos r with h0 | h0
      · subst h0
        have hp : pos l l.length ((0 : Nat) : Int) := ⟨by omega, by omega, fun e => rfl, fun h => absurd h (by omega)⟩
        have hw := wh_pos (ok_pos hok) hp
        rw [show before l l.length + ((0 : Nat) : Int) = u by omega] at hw
        refine ⟨_, _, _, by rw [hr]; exact make_of (by omega), .inl ⟨rfl, ?_, by rw [hw, hr], rfl, by rw [hr, Int.toNat_natCast], by rw [hr, Int.toNat_natCast]⟩⟩
        rw [posB_iff, tk_of (by omega), Int.toNat_natCast]
        exact ⟨by omega, hp⟩
      · obtain ⟨⟨N, D, E⟩, hm⟩ : ∃ x, Rt.makeR (u - before l l.length) 1680 = x := ⟨_, rfl⟩
        refine ⟨N, D, E, hm, .inr ⟨wh_none hok (.inr (by omega)), fun he => ?_⟩⟩
        have hN := make_ne (by omega) hm he
        unfold posB
        rw [if_pos rfl, decide_eq_false (fun e => hN (tk_zero.1 e).1), Bool.and_false]
end Mt

theorem Var3.low {B : Nat} {X Y : World} {b : Nat} {x y z : Int} (h : Var3 X b x y z) (hb : Below B X Y) (hB : b < B) : Var3 Y b x y z :=
  ⟨h.at3.low hb hB, (hb.frozen (p := ⟨b, 0, none⟩) hB).trans h.f0, (hb.frozen (p := ⟨b, 1, none⟩) hB).trans h.f1, (hb.frozen (p := ⟨b, 2, none⟩) hB).trans h.f2⟩
/-- The variables of find: time, the result, found, left. -/
structure Fnd (H : Nat) (X : World) (u f r : Int) : Prop where
  t : X.cell? ⟨H, 0, none⟩ = some (.int .i64 u)
  v : Var3 X (H + 1) 0 0 0
  f : X.cell? ⟨H + 2, 0, none⟩ = some (.int .i64 f)
  ff : X.frozen? ⟨H + 2, 0, none⟩ = false
  r : X.cell? ⟨H + 3, 0, none⟩ = some (.int .i64 r)
  rf : X.frozen? ⟨H + 3, 0, none⟩ = false
theorem Fnd.low {B H : Nat} {X Y : World} {u f r : Int} (h : Fnd H X u f r) (hb : Below B X Y) (hB : H + 4 ≤ B) : Fnd H Y u f r :=
  ⟨(hb.cell (p := ⟨H, 0, none⟩) (show H < B by omega)).trans h.t, h.v.low hb (by omega), (hb.cell (p := ⟨H + 2, 0, none⟩) (show H + 2 < B by omega)).trans h.f, (hb.frozen (p := ⟨H + 2, 0, none⟩) (show H + 2 < B by omega)).trans h.ff, (hb.cell (p := ⟨H + 3, 0, none⟩) (show H + 3 < B by omega)).trans h.r, (hb.frozen (p := ⟨H + 3, 0, none⟩) (show H + 3 < B by omega)).trans h.rf⟩
theorem Fnd.put {H : Nat} {X : World} {u f r : Int} (h : Fnd H X u f r) (f' r' : Int) : Fnd H ((X.setCell ⟨H + 2, 0, none⟩ (.int .i64 f')).setCell ⟨H + 3, 0, none⟩ (.int .i64 r')) u f' r' := by
  have hb : Below (H + 2) X ((X.setCell ⟨H + 2, 0, none⟩ (.int .i64 f')).setCell ⟨H + 3, 0, none⟩ (.int .i64 r')) := ((Below.refl _ X).setCell (p := ⟨H + 2, 0, none⟩) (Nat.le_refl _) _).setCell (p := ⟨H + 3, 0, none⟩) (Nat.le_succ _) _
  have hf := h.f
  have hr := h.r
  exact ⟨(hb.cell (p := ⟨H, 0, none⟩) (show H < H + 2 by omega)).trans h.t, h.v.low hb (by omega), by go_simp, by rw [World.frozen?_setCell, World.frozen?_setCell]; exact h.ff, by go_simp, by rw [World.frozen?_setCell, World.frozen?_setCell]; exact h.rf⟩

/-- The result is written, and the mark of the loop taken. -/
theorem fin3 {X : World} {H D : Nat} (V : Var3 X (H + 1) 0 0 0) (x y z : Int) (hD : H + 4 < D) (hlt : D < X.heap.size) (K : X.heap[D]? = some (.deferred (some []))) (w : World) (G : Below w.heap.size w X) (hH : w.heap.size = H := by rfl) :
    (((X.setCell ⟨H + 1, 0, none⟩ (.int .i64 x)).setCell ⟨H + 1, 1, none⟩ (.int .i64 y)).setCell ⟨H + 1, 2, none⟩ (.int .i64 z)).heap[D]? = some (.deferred (some [])) ∧
    At3 ((((X.setCell ⟨H + 1, 0, none⟩ (.int .i64 x)).setCell ⟨H + 1, 1, none⟩ (.int .i64 y)).setCell ⟨H + 1, 2, none⟩ (.int .i64 z)).putObj D (.deferred none)) (H + 1) x y z ∧
    Below w.heap.size w ((((X.setCell ⟨H + 1, 0, none⟩ (.int .i64 x)).setCell ⟨H + 1, 1, none⟩ (.int .i64 y)).setCell ⟨H + 1, 2, none⟩ (.int .i64 z)).putObj D (.deferred none)) := by
  have hS : (((X.setCell ⟨H + 1, 0, none⟩ (.int .i64 x)).setCell ⟨H + 1, 1, none⟩ (.int .i64 y)).setCell ⟨H + 1, 2, none⟩ (.int .i64 z)).heap.size = X.heap.size := by simp [World.setCell]
  have hA := put3 V x y z
  have hG : Below w.heap.size w (((X.setCell ⟨H + 1, 0, none⟩ (.int .i64 x)).setCell ⟨H + 1, 1, none⟩ (.int .i64 y)).setCell ⟨H + 1, 2, none⟩ (.int .i64 z)) := ((G.setCell (p := ⟨H + 1, 0, none⟩) (show w.heap.size ≤ H + 1 by omega) _).setCell (p := ⟨H + 1, 1, none⟩) (show w.heap.size ≤ H + 1 by omega) _).setCell (p := ⟨H + 1, 2, none⟩) (show w.heap.size ≤ H + 1 by omega) _
  refine ⟨?_, ?_, ?_⟩
  · rw [Below.heap_setCell _ _ _ _ (show D ≠ H + 1 by omega), Below.heap_setCell _ _ _ _ (show D ≠ H + 1 by omega), Below.heap_setCell _ _ _ _ (show D ≠ H + 1 by omega)]
    exact K
  · exact hA.low (putObj_below (B := D) (Nat.le_refl _) (by omega)) (by omega)
  · exact hG.trans (putObj_below (by omega) (by omega))

end Go.Proofs.Ytahdlkdiadlgeaa

/- The walks of meter's Time, Total, Where. -/
namespace Go.Proofs.Ytahdlkdiadlgeaa
open Go.RowKit

namespace Mt
/-- A position (or none), as find returns it. -/
def pR (O : Option (Nat × Int)) : Int × Int × Int × Int := match O with
  | none => (0, 0, 0, 3)
  | some (k, t) => ((k : Int), oN t.toNat, oD t.toNat, 0)
end Mt
theorem PosP.lt {O : Option (Nat × Int)} {X Y Z E : Int} (h : Mt.pR O = (X, Y, Z, E)) (e : Ending) : PosP true O e ↔ e = .returned (.tuple #[.agg #[.int .i64 X, .int .i64 Y, .int .i64 Z], .int .i64 E]) := by
  cases O with
  | none => simp only [Mt.pR, Prod.mk.injEq] at h; obtain ⟨rfl, rfl, rfl, rfl⟩ := h; exact Iff.rfl
  | some p => obtain ⟨k, t⟩ := p; simp only [Mt.pR, Prod.mk.injEq] at h; obtain ⟨rfl, rfl, rfl, rfl⟩ := h; exact Iff.rfl
theorem Mt.before_tk {l : List B} {b n d : Int} (hval : Val l) (hp : posB l b n d = true) : 0 ≤ before l b.toNat + tk n d ∧ before l b.toNat + tk n d ≤ 200000000 := by
  obtain ⟨hb0, hb1, ht0, h3, h4⟩ := posB_iff.1 hp
  have hb := before_bounds hval.ok b.toNat hb1
  have hl4 := hval.2.1
  by_cases hk : b.toNat < l.length
  · have := h4 hk
    have := (hval.ok _ (List.getElem_mem hk)).2.2.2.1
    omega
  · have := h3 (by omega)
    omega

set_option maxHeartbeats 1600000 in
theorem mtime_is (l : List Mt.B) (b n d : Int) (g p : Bool) (N D : Int) (len cap : Nat) (A : Option Addr) (hv : g = true ↔ Mt.Val l) (hp : Mt.posB l b n d = p) (hN : Mt.oN (Mt.before l b.toNat + Mt.tk n d).toNat = N) (hD : Mt.oD (Mt.before l b.toNat + Mt.tk n d).toNat = D) (hl : l.length = len) (hwf : Mt.Wf l) (w : World) (hL : SlB w A l) :
    Calls Try.prog 14 #[.slice A len cap, .agg #[.int .i64 b, .int .i64 n, .int .i64 d]] w fun e w' => RatP (g && p) N D e ∧ Below w.heap.size w w' := by
  have HV := Lib.hid hv
  have HP := Lib.hid hp
  have HN := Lib.hid hl
  have HW := Lib.hid hwf
  have G0 := ((Below.refl w.heap.size w).alloc (Nat.le_refl _) (.cells #[.int .i64 b, .int .i64 n, .int .i64 d] 27)).alloc (by simp) (.cells #[.int .i64 0, .int .i64 0] 25)
  have A0 := (At3.new w b n d 27).alloc (.cells #[.int .i64 0, .int .i64 0] 25)
  have V0 : Var2 ((w.alloc (.cells #[.int .i64 b, .int .i64 n, .int .i64 d] 27)).alloc (.cells #[.int .i64 0, .int .i64 0] 25)) (w.heap.size + 1) 0 0 := by
    have := Var2.new (w.alloc (.cells #[.int .i64 b, .int .i64 n, .int .i64 d] 27)) 0 0 25
    rwa [World.size_alloc] at this
  have HL0 := Lib.hid ((hL.alloc (.cells #[.int .i64 b, .int .i64 n, .int .i64 d] 27)).alloc (.cells #[.int .i64 0, .int .i64 0] 25))
  cases g with
  | false =>
    clear hv hp hl hL hwf
    go_enter Try.func14, Try.ntmps14
    go_wp2_with (first | (go_at_call 32; refine (mvalid_is l false len cap A HV.out HN.out HW.out _ HL0.out).mono ?_; rintro e w2 ⟨rfl, hb⟩; have G2 := G0.trans (hb.mono G0.size); have V2 := V0.below hb; have L2 := HL0.out.below hb; have A2 := A0.below hb; obtain ⟨v0, v1, f0, f1⟩ := And.intro V2.at2.c0 (And.intro V2.at2.c1 (And.intro V2.f0 V2.f1)); clear hb) | fail)
    refine bodyPost_ret (v := .tuple #[.agg #[.int .i64 0, .int .i64 0], .int .i64 1]) (by simp [results, Try.results14, go_sem, v0, v1]) rfl ⟨rfl, (G2.setCell (by simp <;> omega) _).setCell (by simp <;> omega) _⟩
  | true =>
    have hval := hv.1 rfl
    have HVal := Lib.hid hval
    cases p with
    | false =>
      clear hv hp hl hL hval hwf
      go_enter Try.func14, Try.ntmps14
      go_wp2_with (first | (go_at_call 32; refine (mvalid_is l true len cap A HV.out HN.out HW.out _ HL0.out).mono ?_; rintro e w2 ⟨rfl, hb⟩; have G2 := G0.trans (hb.mono G0.size); have V2 := V0.below hb; have L2 := HL0.out.below hb; have A2 := A0.below hb; obtain ⟨a0, a1, a2⟩ := And.intro A2.c0 (And.intro A2.c1 A2.c2); clear hb) | (go_at_call 33; refine (mposition_is l b n d false len cap A HP.out HN.out HVal.out.ok _ L2).mono ?_; rintro e w4 ⟨rfl, hb⟩; have G4 := G2.trans (hb.mono G2.size); have V4 := V2.below hb; obtain ⟨v0, v1, f0, f1⟩ := And.intro V4.at2.c0 (And.intro V4.at2.c1 (And.intro V4.f0 V4.f1))) | fail)
      refine bodyPost_ret (v := .tuple #[.agg #[.int .i64 0, .int .i64 0], .int .i64 1]) (by simp [results, Try.results14, go_sem, v0, v1]) rfl ⟨rfl, (G4.setCell (by simp <;> omega) _).setCell (by simp <;> omega) _⟩
    | true =>
      obtain ⟨x0, x1⟩ := Mt.before_tk hval hp
      obtain ⟨x, hx⟩ := Int.eq_ofNat_of_zero_le x0
      rw [hx] at hN hD x1
      rw [Int.toNat_natCast] at hN hD
      have HX := Lib.hid hx
      have HM : Hid (Rt.makeR (x : Int) 1680 = (N, D, 0)) := Lib.hid (by rw [← hN, ← hD]; exact Mt.make_of (by omega))
      clear hv hp hl hL hval hx x0 x1 hN hD hwf
      go_enter Try.func14, Try.ntmps14
      go_wp2_with (first | (go_at_call 32; refine (mvalid_is l true len cap A HV.out HN.out HW.out _ HL0.out).mono ?_; rintro e w2 ⟨rfl, hb⟩; have G2 := G0.trans (hb.mono G0.size); have V2 := V0.below hb; have L2 := HL0.out.below hb; have A2 := A0.below hb; obtain ⟨a0, a1, a2⟩ := And.intro A2.c0 (And.intro A2.c1 A2.c2); clear hb) | (go_at_call 33; refine (mposition_is l b n d true len cap A HP.out HN.out HVal.out.ok _ L2).mono ?_; rintro e w4 ⟨rfl, hb⟩; have G4 := G2.trans (hb.mono G2.size); have V4 := V2.below hb; have A4 := A2.below hb; have L4 := L2.below hb; obtain ⟨b0, b1, b2⟩ := And.intro A4.c0 (And.intro A4.c1 A4.c2); clear hb a0 a1 a2) | (go_at_call 35; refine (mbefore_is l b n d (x : Int) len cap A HX.out HP.out HN.out HVal.out _ L4).mono ?_; rintro e w5 ⟨rfl, hb⟩; have G5 := G4.trans (hb.mono G4.size); have V5 := V4.below hb; clear hb) | (go_at_call 34; refine (mquarters_is x N D 0 HM.out _).mono ?_; rintro e w6 ⟨rfl, hb⟩; have G6 := G5.trans (hb.mono G5.size); have V6 := V5.below hb; obtain ⟨v0, v1, f0, f1⟩ := And.intro V6.at2.c0 (And.intro V6.at2.c1 (And.intro V6.f0 V6.f1)); clear hb) | fail)
      refine bodyPost_ret (v := .tuple #[.agg #[.int .i64 N, .int .i64 D], .int .i64 0]) (by simp [results, Try.results14, go_sem, v0, v1]) rfl ⟨rfl, (G6.setCell (by simp <;> omega) _).setCell (by simp <;> omega) _⟩

/-- Time, letter by letter. -/
def Mt.rR (f : Bool) (N D : Int) : Int × Int × Int := if f = true then (N, D, 0) else (0, 0, 1)
theorem RatP.lt {f : Bool} {N D X Y E : Int} (h : Mt.rR f N D = (X, Y, E)) (e : Ending) : RatP f N D e ↔ e = .returned (.tuple #[.agg #[.int .i64 X, .int .i64 Y], .int .i64 E]) := by
  cases f <;> simp only [Mt.rR, if_true, Bool.false_eq_true, if_false, Prod.mk.injEq] at h <;> obtain ⟨rfl, rfl, rfl⟩ := h <;> exact Iff.rfl

end Go.Proofs.Ytahdlkdiadlgeaa
