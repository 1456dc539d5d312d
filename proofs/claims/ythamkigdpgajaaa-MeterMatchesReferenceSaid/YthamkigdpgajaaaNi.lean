/- The walks of meter's begins, of the function that it returns, and of the closure in this one. -/
import Derived.Test.YthamkigdpgajaaaRf
import Derived.Test.YthamkigdpgajaaaNv
import Derived.Test.YthamkigdpgajaaaMd
import Derived.RangeFuncBox
import Derived.RangeFuncBound
import Derived.Shelf.Abstract
import Derived.WalkKit
import Derived.OwnWalkIn
import Derived.TacticsInMore
import Derived.LoopNIn
import Derived.LoopIn
namespace Go.Proofs.Ythamkigdpgajaaa
open Go.RowKit Go.Shelf

attribute [local go_sem] Oper.semAt_some

/-- What the rounds of a loop leave alone: blocks of cells that don't lie from n1 to before n2, where the caller's variables are. -/
structure Keep (n1 n2 : Nat) (X Y : World) : Prop where
  size : X.heap.size ≤ Y.heap.size
  same : ∀ (k : Nat) (o : Obj), (k < n1 ∨ n2 ≤ k) → X.heap[k]? = some o → o.isCells = true → Y.heap[k]? = some o
theorem Keep.trans {n1 n2 : Nat} {X Y Z : World} (h : Keep n1 n2 X Y) (k : Keep n1 n2 Y Z) : Keep n1 n2 X Z :=
  ⟨Nat.le_trans h.size k.size, fun i o hi ho hc => k.same i o hi (h.same i o hi ho hc) hc⟩
theorem Keep.putObj {n1 n2 : Nat} {X : World} {l : Nat} {o o' : Obj} (h : X.heap[l]? = some o) (hc : o.isCells = false) : Keep n1 n2 X (X.putObj l o') :=
  ⟨by simp, fun k o2 _ hk ho => by
    by_cases e : k = l
    · subst e; rw [h] at hk; cases hk; rw [hc] at ho; cases ho
    · exact (World.putObj_heap_other e).trans hk⟩
theorem cells_of_cell {X : World} {p : Addr} {v : Value} (h : X.cell? p = some v) : ∃ o, X.heap[p.block]? = some o ∧ o.isCells = true := by
  unfold World.cell? at h
  cases ho : X.heap[p.block]? with
  | none => simp [ho] at h
  | some o => exact ⟨o, rfl, by cases o <;> simp_all [Obj.isCells]⟩
theorem Keep.cell {n1 n2 : Nat} {X Y : World} (h : Keep n1 n2 X Y) {p : Addr} {v : Value} (hp : p.block < n1 ∨ n2 ≤ p.block) (hc : X.cell? p = some v) : Y.cell? p = some v := by
  obtain ⟨o, ho, hi⟩ := cells_of_cell hc
  have := h.same _ o hp ho hi
  unfold World.cell? at hc ⊢
  rw [this]
  rw [ho] at hc
  exact hc
theorem Keep.frozen {n1 n2 : Nat} {X Y : World} (h : Keep n1 n2 X Y) {p : Addr} {v : Value} (hp : p.block < n1 ∨ n2 ≤ p.block) (hc : X.cell? p = some v) : Y.frozen? p = X.frozen? p := by
  obtain ⟨o, ho, hi⟩ := cells_of_cell hc
  have := h.same _ o hp ho hi
  unfold World.frozen?
  rw [this, ho]
theorem Keep.setCell {n1 n2 : Nat} {X : World} {p : Addr} (hp : n1 ≤ p.block) (hq : p.block < n2) (v : Value) : Keep n1 n2 X (X.setCell p v) :=
  ⟨by simp [World.setCell], fun k o hk ho _ => (Below.heap_setCell X p v k (by omega)).trans ho⟩

theorem SlB.keep {n1 n2 : Nat} {X Y : World} {A : Option Addr} {l : List Mt.B} (h : SlB X A l) (hk : Keep n1 n2 X Y) (hA : ∀ b off, A = some ⟨b, off, none⟩ → b < n1) : SlB Y A l := fun h0 => by
  obtain ⟨b, off, e, hlt, hc⟩ := h h0
  have hb : b < n1 ∨ n2 ≤ b := .inl (hA b off e)
  refine ⟨b, off, e, Nat.lt_of_lt_of_le hlt hk.size, fun k hk' => ?_⟩
  obtain ⟨c0, c1, c2, c3⟩ := hc k hk'
  exact ⟨hk.cell hb c0, hk.cell hb c1, hk.cell hb c2, hk.cell hb c3⟩

namespace Mt
def pres (l : List B) (k : Nat) : List (Nat × Int) := (List.range k).map fun i => (i, before l i)
theorem pres_succ (l : List B) (k : Nat) : pres l (k + 1) = pres l k ++ [(k, before l k)] := by simp [pres, List.range_succ]
theorem pres_prefix (l : List B) {k m : Nat} (h : k ≤ m) : pres l k <+: pres l m := by
  obtain ⟨d, rfl⟩ := Nat.le.dest h
  clear h
  induction d with
  | zero => exact List.prefix_refl _
  | succ d ih => rw [← Nat.add_assoc, pres_succ]; exact ih.trans (List.prefix_append _ _)
theorem pres_of {l : List B} {m : Nat} {pre : List (Nat × Int)} (h : pre <+: pres l m) : ∃ k, k ≤ m ∧ pre = pres l k := by
  have hl := h.length_le
  have e := List.prefix_iff_eq_take.1 h
  refine ⟨pre.length, by simpa [pres] using hl, ?_⟩
  have h2 := pres_prefix l (k := pre.length) (m := m) (by simpa [pres] using hl)
  have e2 := List.prefix_iff_eq_take.1 h2
  rw [e2]
  have : (pres l pre.length).length = pre.length := by simp [pres]
  rw [this]
  exact e
end Mt

set_option maxHeartbeats 400000 in
theorem mpass_is (n d t z : Int) (b : Nat) (h : Mt.tk n d = t) (h0 : 0 ≤ t) (z0 : 0 ≤ z) (z1 : z + t ≤ 1000000000000) (w : World) (hb : b < w.heap.size) (hc : w.cell? ⟨b, 0, none⟩ = some (.int .i64 z)) (hf : w.frozen? ⟨b, 0, none⟩ = false) :
    Calls Try.prog 54 #[.agg #[.int .i64 n, .int .i64 d], .pointer (some ⟨b, 0, none⟩)] w fun e w' => (∃ v, e = .returned v) ∧ w'.cell? ⟨b, 0, none⟩ = some (.int .i64 (z + t)) ∧ w'.frozen? ⟨b, 0, none⟩ = false ∧ w.grownBy w' (some b) := by
  have G0 := (Below.refl w.heap.size w).alloc (Nat.le_refl _) (.cells #[.int .i64 n, .int .i64 d] 24)
  have A0 : At2 (w.alloc (.cells #[.int .i64 n, .int .i64 d] 24)) w.heap.size n d := At2.new _ _ _ _
  have HT := Lib.hid h
  have HC := Lib.hid hc
  have HFR := Lib.hid hf
  clear h hc hf
  go_enter Try.func54, Try.ntmps54
  go_wp2_with fail
  generalize w.alloc (.cells #[.int .i64 n, .int .i64 d] 24) = w2 at *
  have x0 := fun x : Ext w2 => x.cell A0.c0
  have x1 := fun x : Ext w2 => x.cell A0.c1
  have x2 := fun x : Ext w2 => x.cell ((G0.cell (p := ⟨b, 0, none⟩) hb).trans HC.out)
  have hne := Ext.there w2
  refine Ext.tail 4 (by kernel_rfl) (by kernel_rfl) ?_
  simp only [List.take_succ_cons, List.take_zero, List.drop_succ_cons, List.drop_zero]
  repeat (go_big_quiet_step ((go_at_call 37; exact Ext.call _ (munits_is n d t HT.out h0 _))))
  refine wpQuiet_nil ?_
  rintro _ ⟨xw, rfl⟩
  have G1 := G0.trans (xw.h.mono G0.size)
  clear x0 x1 x2 hne
  generalize xw.w = w3 at *
  clear xw
  have c3 := (G1.cell (p := ⟨b, 0, none⟩) hb).trans HC.out
  have f3 := (G1.frozen (p := ⟨b, 0, none⟩) hb).trans HFR.out
  go_wp2_with fail
  go_end0
  refine ⟨⟨_, rfl⟩, World.cell?_setCell_same' _ _ _ (by rw [c3]; rfl), by rw [World.frozen?_setCell]; exact f3, ?_⟩
  exact ⟨G1.os, G1.tape, G1.output, by have := G1.size; simpa [World.setCell] using this, fun i hi hne => (Below.heap_setCell _ _ _ _ (fun e => hne (by rw [e]))).trans (G1.block i hi)⟩

set_option maxHeartbeats 400000 in
theorem mbegins_is (A : Option Addr) (len cap : Nat) (w : World) :
    Calls Try.prog 48 #[.slice A len cap] w fun e w' => e = .returned (.func (.func 53) #[] #[.pointer (some ⟨w.heap.size, 0, none⟩)]) ∧ w' = w.alloc (.cells #[.slice A len cap] 22) := by
  go_enter Try.func48, Try.ntmps48
  go_wp2_with fail
  go_ret
  exact ⟨rfl, rfl⟩

set_option maxHeartbeats 2000000 in
set_option maxRecDepth 100000 in
theorem mbegins_in (l : List Mt.B) (len cap : Nat) (A : Option Addr) (L Bl n1 n2 : Nat) (hl : l.length = len) (hok : ∀ b ∈ l, Mt.okB b) (hmax : len ≤ 4000) (J Jx : List (Nat × Int) → World → Prop) (W : World)
    (hJ : ∀ s X Y, J s X → Below W.heap.size X Y → J s Y) (hn12 : n1 ≤ n2) (hB : n2 ≤ Bl) (hBW : Bl < W.heap.size) (hBl : W.cell? ⟨Bl, 0, none⟩ = some (.slice A len cap)) (hA : ∀ b off, A = some ⟨b, off, none⟩ → b < n1)
    (hL : SlB W A l)
    (hY : ∀ pre x X, pre ++ [x] <+: Mt.pres l (len + 1) → J pre X → YieldAt Fence.wide 7 Try.prog L #[.int .i64 (x.1 : Int), .int .i64 x.2] X fun e Y =>
      (e = .returned (.bool true) ∧ J (pre ++ [x]) Y ∧ Keep n1 n2 X Y) ∨ (e = .returned (.bool false) ∧ Jx (pre ++ [x]) Y))
    (h0 : J [] W) :
    CallsIn Fence.wide 8 Try.prog 53 #[.func (.yield L) #[] #[], .pointer (some ⟨Bl, 0, none⟩)] W fun e Y => (∃ v, e = .returned v) ∧ (J (Mt.pres l (len + 1)) Y ∨ ∃ pre, pre <+: Mt.pres l (len + 1) ∧ Jx pre Y) := by
  have HN := Lib.hid hl
  have HOK := Lib.hid hok
  have HL := Lib.hid hL
  have HJ := Lib.hid hJ
  have HY := Lib.hid hY
  have HA := Lib.hid hA
  clear hl hok hL hJ hY hA
  refine callsIn_of_wp Try.func53 rfl trivial ?_ rfl
  simp only [Try.ntmps53, List.size_toArray, List.length_cons, List.length_nil, Nat.reduceAdd, Nat.reduceSub, Array.replicate_succ, Array.replicate_zero, List.push_toArray, List.append_toArray, List.nil_append, List.cons_append]
  have hn7 : 1 ≤ 8 := by omega
  gi_wp2
  gi_loopw [10] (fun s10 wr => ∃ (k : Nat) (q z : Int), k ≤ len ∧ q = k ∧ s10 = .int .i64 q ∧ Hid (Mt.before l k = z) ∧ 0 ≤ z ∧ z ≤ 40320 * q ∧ Hid (J (Mt.pres l k) wr) ∧ W.heap.size < wr.heap.size ∧ wr.cell? ⟨W.heap.size, 0, none⟩ = some (.int .i64 z) ∧ wr.frozen? ⟨W.heap.size, 0, none⟩ = false ∧ wr.cell? ⟨Bl, 0, none⟩ = some (.slice A len cap) ∧ Hid (SlB wr A l))
    (fun s10 _ => len - (intOf s10).toNat)
  case atStart =>
    exact ⟨0, 0, 0, Nat.zero_le _, rfl, rfl, Lib.hid rfl, by omega, by omega, Lib.hid (HJ.out _ _ _ h0 ((Below.refl _ _).alloc (Nat.le_refl _) _)), by simp, by go_simp, by go_simp, (((Below.refl W.heap.size W).alloc (Nat.le_refl _) _).cell (p := ⟨Bl, 0, none⟩) hBW).trans hBl, Lib.hid (HL.out.alloc _)⟩
  case round =>
    clear h0 hBl
    obtain ⟨k, q, z, hk, hq, rfl, HZ, z0, z1, HJs, hsz, hcz, hfz, hcl, HS⟩ := hrel
    by_cases hlt : k < len
    · have hil : k < l.length := by rw [HN.out]; omega
      obtain ⟨bb, off, rfl, hbb, hc⟩ := HS.out (by omega)
      obtain ⟨c0, c1, c2, c3⟩ := hc k hil
      have ho := HOK.out _ (List.getElem_mem hil)
      have hbs := Mt.before_succ hil
      rw [← atB_eq hil] at ho hbs
      obtain ⟨_, _, t1, t2, _, _⟩ := ho
      obtain ⟨t, ht⟩ : ∃ t, Mt.bt (atB l k) = t := ⟨_, rfl⟩
      rw [ht] at t1 t2 hbs
      have HT : Hid (Mt.tk (atB l k).2.1 (atB l k).2.2.1 = t) := Lib.hid ht
      have HB : Hid (Mt.before l (k + 1) = z + t) := Lib.hid (by rw [hbs, HZ.out])
      have HP : Hid (Mt.pres l (k + 1) = Mt.pres l k ++ [(k, z)]) := Lib.hid (by rw [Mt.pres_succ, HZ.out])
      have hpp : Mt.pres l k ++ [(k, z)] <+: Mt.pres l (len + 1) := by rw [← HP.out]; exact Mt.pres_prefix l (by omega)
      have hq1 : q < (len : Int) := by omega
      have hq3 : 0 ≤ q := by omega
      have hqn : q.toNat = k := by omega
      have hq4 : q ≤ 4000 := by omega
      clear hc hbs ht hil
      generalize (atB l k).1 = b0 at *
      generalize (atB l k).2.1 = b1 at *
      generalize (atB l k).2.2.1 = b2 at *
      generalize (atB l k).2.2.2 = b3 at *
      have HQ := Lib.hid hq
      have hJ2 := HJ.out _ _ _ HJs.out ((Below.refl W.heap.size wr).alloc (by omega) (.cells #[.int .i64 b0, .int .i64 b1, .int .i64 b2, .int .i64 b3] 45))
      obtain ⟨fn, tmps, assign, body, hy, hR⟩ := HY.out _ (k, z) _ hpp hJ2
      dsimp only at hy
      rw [← hq] at hy
      have HR := Lib.hid hR
      have HPP := Lib.hid hpp
      clear hR hJ2 hpp hq
      have X0 := At4.new wr b0 b1 b2 b3 45
      have hBX := (Below.refl wr.heap.size wr).alloc (Nat.le_refl _) (.cells #[.int .i64 b0, .int .i64 b1, .int .i64 b2, .int .i64 b3] 45)
      have XZ := (hBX.cell (p := ⟨W.heap.size, 0, none⟩) hsz).trans hcz
      have XF := (hBX.frozen (p := ⟨W.heap.size, 0, none⟩) hsz).trans hfz
      have XL := (hBX.cell (p := ⟨Bl, 0, none⟩) (show Bl < wr.heap.size by omega)).trans hcl
      have XS := HS.out.alloc (.cells #[.int .i64 b0, .int .i64 b1, .int .i64 b2, .int .i64 b3] 45)
      have XC := Lib.hid (And.intro X0 (And.intro XZ (And.intro XF (And.intro XL XS))))
      clear X0 hBX XZ XF XL XS
      gi_wp2
      refine HR.out.mono ?_
      clear HR hy
      rintro e Y (⟨rfl, hJ3, hK3⟩ | ⟨rfl, hJx3⟩)
      · obtain ⟨X0, XZ, XF, XL, XS⟩ := XC.out
        have y1 := hK3.cell (p := ⟨wr.heap.size, 1, none⟩) (.inr (by simp; omega)) X0.c1
        have y2 := hK3.cell (p := ⟨wr.heap.size, 2, none⟩) (.inr (by simp; omega)) X0.c2
        have yz := hK3.cell (p := ⟨W.heap.size, 0, none⟩) (.inr (by simp; omega)) XZ
        have yf := (hK3.frozen (p := ⟨W.heap.size, 0, none⟩) (.inr (by simp; omega)) XZ).trans XF
        have yl := hK3.cell (p := ⟨Bl, 0, none⟩) (.inr (by simp; omega)) XL
        have YS := Lib.hid (XS.keep hK3 HA.out)
        have hszY : W.heap.size < Y.heap.size := by have := hK3.size; simp at this; omega
        have HJ3 := Lib.hid hJ3
        clear XC X0 XZ XF XL XS hcz hfz hcl HS HJs c0 c1 c2 c3 hK3 hJ3
        gi_wp2_with (refine ⟨trivial, ?_⟩; gi_at_call 54; refine (callsIn_wide.2 (mpass_is b1 b2 t z W.heap.size HT.out (by omega) z0 (by omega) _ hszY yz yf)).mono ?_; rintro e Z ⟨⟨v, rfl⟩, zc, zf, hg⟩)
        go_roundw
        case rel =>
          have hYZ : Below W.heap.size Y Z := ⟨hg.os, hg.tape, hg.output, hg.size, fun i hi => hg.block i (by omega) (fun e => by have := Option.some.inj e; omega)⟩
          refine ⟨k + 1, q + 1, z + t, by omega, (by have := HQ.out; omega), rfl, HB, by omega, by omega, Lib.hid (by rw [HP.out]; exact HJ.out _ _ _ HJ3.out hYZ), Nat.lt_of_lt_of_le hszY hg.size, zc, zf, (hYZ.cell (p := ⟨Bl, 0, none⟩) hBW).trans yl, Lib.hid ?_⟩
          exact YS.out.keep (n1 := W.heap.size) (n2 := Y.heap.size) ⟨hg.size, fun i o hi ho _ => (hg.block i (Array.getElem?_eq_some_iff.1 ho).1 (fun e => by have := Option.some.inj e; omega)).trans ho⟩ (fun b off e => by have := HA.out b off e; omega)
        case measure => have := HQ.out; simp [intOf]; omega
      · gi_wp2
        refine bodyPost_ret (results_none rfl _ _ _) rfl ?_
        exact ⟨⟨_, rfl⟩, .inr ⟨_, HPP.out, hJx3⟩⟩
    · obtain rfl : k = len := by omega
      have HP : Hid (Mt.pres l (k + 1) = Mt.pres l k ++ [(k, z)]) := Lib.hid (by rw [Mt.pres_succ, HZ.out])
      obtain ⟨fn, tmps, assign, body, hy, hR⟩ := HY.out _ (k, z) _ (by rw [← HP.out]; exact List.prefix_refl _) HJs.out
      dsimp only at hy
      have HR := Lib.hid hR
      have hq1 : ¬ q < (k : Int) := by omega
      obtain rfl := hq
      clear hR
      gi_wp2
      refine HR.out.mono ?_
      clear HR hy
      rintro e Y (⟨rfl, hJ3, _⟩ | ⟨rfl, hJx3⟩)
      · gi_wp2
        go_end0
        exact ⟨⟨_, rfl⟩, .inl (by rw [HP.out]; exact hJ3)⟩
      · gi_wp2
        go_end0
        exact ⟨⟨_, rfl⟩, .inr ⟨_, by rw [← HP.out]; exact List.prefix_refl _, hJx3⟩⟩

/-- Bars' begins, one after the other, and their end. -/
theorem mbegins_ranged (l : List Mt.B) (len cap : Nat) (A : Option Addr) (Bl n1 n2 : Nat) (hl : l.length = len) (hok : ∀ b ∈ l, Mt.okB b) (hmax : len ≤ 4000) (w : World) (hn12 : n1 ≤ n2) (hB : n2 ≤ Bl) (hBW : Bl < w.heap.size) (hBl : w.cell? ⟨Bl, 0, none⟩ = some (.slice A len cap))
    (hA : ∀ b off, A = some ⟨b, off, none⟩ → b < n1) (hL : SlB w A l) :
    Ranged Try.prog 53 #[.pointer (some ⟨Bl, 0, none⟩)] (fun x : Nat × Int => #[Value.int .i64 (x.1 : Int), Value.int .i64 x.2]) (Keep n1 n2) (Mt.pres l (len + 1)) w := fun L J Jx W hW hJ _ hY h0 =>
  mbegins_in l len cap A L Bl n1 n2 hl hok hmax J Jx W hJ hn12 hB (Nat.lt_of_lt_of_le hBW hW.size) ((hW.cell (p := ⟨Bl, 0, none⟩) hBW).trans hBl) hA (hL.below hW) hY h0
end Go.Proofs.Ythamkigdpgajaaa
