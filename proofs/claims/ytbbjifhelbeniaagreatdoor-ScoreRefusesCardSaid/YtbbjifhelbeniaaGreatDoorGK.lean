import Derived.Test.YtbbjifhelbeniaaGreatDoorGJ
import Derived.Test.YtbbjifhelbeniaaGreatDoorShelf
import Derived.Test.YtbbjifhelbeniaaGreatDoorGD
import Derived.RangeFuncBox
import Derived.RangeFuncBound
import Derived.Shelf.Abstract
import Derived.WalkKit
import Derived.OwnWalkIn
import Derived.TacticsInMore
import Derived.LoopNIn
import Derived.LoopIn
import Derived.Test.YtbbjifhelbeniaaGreatDoorGG
import Derived.Test.YtbbjifhelbeniaaGreatDoorGI
/- The walk of a sort of a call's own notes by notes' order. -/
namespace Go.Proofs.YtbbjifhelbeniaaGreatDoor
open Go.RowKit Go.Maps Go.Shelf

theorem own_shape {w : World} {base : Nat} {e : TypeId} {A : Option Addr} {n c : Nat} {l : List No.Nt} (h : w.ownsRow base e 12 (.slice A n c) n (vO l)) : (A = none ∧ n = 0) ∨ ∃ g, A = some ⟨g, 0, none⟩ ∧ base ≤ g ∧ g < w.heap.size := by
  rcases h.2 with ⟨h1, h2⟩ | ⟨g, cap, cur, h1, h2, h3, _⟩
  · left
    injection h1 with e1
    exact ⟨e1, h2⟩
  · right
    injection h1 with e1
    exact ⟨g, e1, h2, (Array.getElem?_eq_some_iff.1 h3).1⟩

set_option maxHeartbeats 1600000 in
theorem tsort_is (bs : List Mt.B) (hval : Mt.Val bs) (l : List No.Nt) (hok : ∀ n ∈ l, No.okN bs n) (hid : l.Pairwise fun a b => a.id ≠ b.id) (hlen : l.length ≤ 1000000) (base : Nat) (e : TypeId) (A : Option Addr) (n c : Nat) (w : World) (hown : w.ownsRow base e 12 (.slice A n c) n (vO l)) (hbase : base ≤ w.heap.size)
    (Bk Bs Bi Bm m : Nat) (D : DataW Unit) (hO : OrdW bs w Bk Bs Bi Bm m D) (hne : ∀ g, A = some ⟨g, 0, none⟩ → Bk ≠ g ∧ Bs ≠ g ∧ Bi ≠ g ∧ Bm ≠ g ∧ 0 ≠ g) :
    Calls Tryz.prog 97 #[.slice A n c, .func (.func 107) #[] #[.pointer (some ⟨Bk, 0, none⟩)]] w fun e w' => e = .returned (.tuple #[]) ∧ SlO w' A (No.srt (No.lt bs) l) ∧ Below base w w' := by
  obtain ⟨hn, -⟩ := own_o hown
  cases hl : l with
  | nil =>
    subst hl
    obtain rfl : n = 0 := by simpa using hn.symm
    have hcon := AnyF.slices_SortFunc_none Tryz.sortNote A c (.func (.func 107) #[] #[.pointer (some ⟨Bk, 0, none⟩)]) w
    exact hcon.mono fun e w' h => ⟨h.1, by rw [h.2]; exact SlO.nil _ _, by rw [h.2]; exact Below.refl _ _⟩
  | cons x r =>
    have hx : x ∈ l := by rw [hl]; simp
    rw [← hl]
    have hn0 : 0 < n := by rw [← hn, hl]; simp
    clear hl
    haveI : Inhabited (No.In l) := ⟨⟨x, hx⟩⟩
    obtain ⟨-, h0⟩ | ⟨g, rfl, hg, hgw⟩ := own_shape hown
    · omega
    · obtain ⟨k1, k2, k3, k4, k5⟩ := hne g rfl
      have hH := holds_of_own hown
      have hz : l.attach.toArray.size = l.length := by simp
      have hcmp : CmpLays Tryz.prog 107 #[.pointer (some ⟨Bk, 0, none⟩)] (No.encN (l := l)) 12 (No.cfN bs l) g 0 l.attach.toArray.size w := by
        rw [hz]; exact tcmplays bs hval l hok Bk Bs Bi Bm m g D w hO k1 k2 k3 k4 k5
      have eg : ∀ args w, (callFunc 107 args).run Tryz.prog w = .ok (.enter 107 args) w := enters_of Tryz.func107 (by kernel_rfl) rfl
      have hcon := AnyQ.slices_SortFunc Tryz.sortNote 12 Tryz.isAgg51 Tryz.sizeOf51 (No.encN (l := l)) (fun x => rowO_length _) (fun x v hv => vO_cells [x.1] v (by rw [vO_one]; exact hv)) (No.cfN bs l) (No.swoN bs l) 107 #[.pointer (some ⟨Bk, 0, none⟩)] g 0 c l.attach.toArray w eg hcmp hH hgw (by rw [hz]; omega)
      have hnz : n = l.attach.toArray.size := by rw [hz, hn]
      rw [hnz]
      refine Calls.mono (show Calls Tryz.prog 97 _ w _ from hcon) ?_
      rintro e w' ⟨rfl, d', q, os, hp, hs, rfl⟩
      refine ⟨rfl, ?_, below_sortWorldK _ _ _ _ _ _ _ _ base hg hbase⟩
      rw [← No.sorted_is hid hp hs]
      exact slo_sorted hH hgw hp.1
end Go.Proofs.YtbbjifhelbeniaaGreatDoor

/- The walk of the function over a slice of notes. -/
namespace Go.Proofs.YtbbjifhelbeniaaGreatDoor
open Go.RowKit Go.Shelf

attribute [local go_sem] Oper.semAt_some

theorem take_prefix {α : Type} {l : List α} {k : Nat} (h : k < l.length) : l.take k ++ [l[k]] <+: l := by
  rw [← List.take_succ_eq_append_getElem h]
  exact List.take_prefix _ _

set_option maxHeartbeats 4000000 in
set_option maxRecDepth 100000 in
theorem tvalues_in (l : List No.Nt) (len cap : Nat) (A : Option Addr) (L Bl c1 : Nat) (hl : l.length = len) (hmax : len ≤ 1000000) (J : Nat → List No.Nt → World → Prop) (Jx : List No.Nt → World → Prop) (W : World)
    (hJ : ∀ m s X Y, J m s X → Acts W.heap.size (W.heap.size + 0) X Y → J m s Y) (_hB : Bl < c1) (hc : c1 ≤ W.heap.size) (hBl : W.cell? ⟨Bl, 0, none⟩ = some (.slice A len cap)) (hA : 0 < l.length → ∀ b off, A = some ⟨b, off, none⟩ → b < c1) (hL : SlO W A l)
    (hY : ∀ m pre x X, pre ++ [x] <+: l → W.heap.size ≤ m → m ≤ X.heap.size → J m pre X → W.heap.size + 0 ≤ X.heap.size → YieldAt Fence.wide 7 Tryz.prog L #[.agg #[.int .i64 x.id, .int .i64 x.pa, .int .i64 x.ba, .int .i64 x.vo, .int .i64 x.os, .int .i64 x.sn, .int .i64 x.sd, .int .i64 x.ln, .int .i64 x.ld, .int .i64 x.st, .int .i64 x.al, .int .i64 x.oc]] X fun e Y =>
      (e = .returned (.bool true) ∧ J Y.heap.size (pre ++ [x]) Y ∧ Kr c1 W.heap.size (W.heap.size + 0) m X Y) ∨ (e = .returned (.bool false) ∧ Jx (pre ++ [x]) Y ∧ Kr c1 W.heap.size (W.heap.size + 0) m X Y))
    (h0 : J W.heap.size [] W) :
    CallsIn Fence.wide 8 Tryz.prog 98 #[.func (.yield L) #[] #[], .pointer (some ⟨Bl, 0, none⟩)] W fun e Y => (∃ v, e = .returned v) ∧ ((W.heap.size + 0 ≤ Y.heap.size ∧ ∃ m, m ≤ Y.heap.size ∧ J m l Y) ∨ ∃ pre, pre <+: l ∧ Jx pre Y) := by
  have HN := Lib.hid hl
  have HL := Lib.hid hL
  have HJ := Lib.hid hJ
  have HY := Lib.hid hY
  have HA := Lib.hid hA
  clear hl hL hJ hY hA
  refine callsIn_of_wp Tryz.func98 rfl trivial ?_ rfl
  simp only [Tryz.ntmps98, List.size_toArray, List.length_cons, List.length_nil, Nat.reduceAdd, Nat.reduceSub, Array.replicate_succ, Array.replicate_zero, List.push_toArray, List.append_toArray, List.nil_append, List.cons_append]
  have hn7 : 1 ≤ 8 := by omega
  gi_wp2
  gi_loopw [7] (fun s7 wr => ∃ (k m : Nat) (q : Int), k ≤ len ∧ q = k ∧ s7 = .int .i64 q ∧ (W.heap.size ≤ m ∧ m ≤ wr.heap.size) ∧ Hid (J m (l.take k) wr) ∧ Below c1 W wr ∧ W.heap.size ≤ wr.heap.size) (fun s7 _ => len - (intOf s7).toNat)
  case atStart => exact ⟨0, W.heap.size, 0, Nat.zero_le _, rfl, rfl, ⟨Nat.le_refl _, Nat.le_refl _⟩, Lib.hid h0, Below.refl _ _, Nat.le_refl _⟩
  case round =>
    clear h0 hBl
    obtain ⟨k, m, q, hk, hq, rfl, ⟨hm1, hm2⟩, HJs, hG, hsz⟩ := hrel
    by_cases hlt : k < len
    · have hil : k < l.length := by rw [HN.out]; omega
      obtain ⟨bb, off, rfl, hbb, hcc⟩ := HL.out (by omega)
      have hbc := HA.out (by omega) bb off rfl
      have N0 := (hcc k hil).below hG hbc
      obtain ⟨x, hx⟩ : ∃ x, atO l k = x := ⟨_, rfl⟩
      rw [hx] at N0
      have hpp : l.take k ++ [x] <+: l := by rw [← hx, atO_eq hil]; exact take_prefix hil
      have HP : Hid (l.take (k + 1) = l.take k ++ [x]) := Lib.hid (by rw [← hx, atO_eq hil]; exact List.take_succ_eq_append_getElem hil)
      have hq1 : q < (len : Int) := by omega
      have hq3 : 0 ≤ q := by omega
      have hqn : q.toNat = k := by omega
      have hq4 : q ≤ 1000000 := by omega
      have HQ := Lib.hid hq
      have hJ2 := HJ.out _ _ _ _ HJs.out ((Acts.refl _ _ wr).alloc (.cells #[.int .i64 x.id, .int .i64 x.pa, .int .i64 x.ba, .int .i64 x.vo, .int .i64 x.os, .int .i64 x.sn, .int .i64 x.sd, .int .i64 x.ln, .int .i64 x.ld, .int .i64 x.st, .int .i64 x.al, .int .i64 x.oc] 51))
      obtain ⟨fn, tmps, assign, body, hy, hR⟩ := HY.out m _ x _ hpp hm1 (by simp; omega) hJ2 (by simp; omega)
      have HR := Lib.hid hR
      have HPP := Lib.hid hpp
      have X0 := NtB.new wr x
      obtain ⟨c0, c1', c2, c3, c4, c5, c6, c7, c8, c9, c10, c11⟩ := N0
      replace c0 : wr.cell? ⟨bb, off + k * 12, none⟩ = some (.int .i64 x.id) := c0
      obtain ⟨d0, d1, d2, d3, d4, d5, d6, d7, d8, d9, d10, d11⟩ := And.intro X0.c0 (And.intro X0.c1 (And.intro X0.c2 (And.intro X0.c3 (And.intro X0.c4 (And.intro X0.c5 (And.intro X0.c6 (And.intro X0.c7 (And.intro X0.c8 (And.intro X0.c9 (And.intro X0.c10 X0.c11))))))))))
      clear hR hJ2 hpp hq hcc hil hx X0 HJs
      gi_wp2
      refine HR.out.mono ?_
      clear HR hy c0 c1' c2 c3 c4 c5 c6 c7 c8 c9 c10 c11 d0 d1 d2 d3 d4 d5 d6 d7 d8 d9 d10 d11
      rintro e Y (⟨rfl, hJ3, hK3⟩ | ⟨rfl, hJx3, hKx⟩)
      · have hGY : Below c1 W Y := ((hG.alloc (by omega) _).trans (hK3.below (by simp; omega)))
        have hszY : W.heap.size ≤ Y.heap.size := by have := hK3.size; simp at this; omega
        have HJ3 := Lib.hid hJ3
        clear hJ3 hK3
        gi_wp2
        go_roundw
        case rel => exact ⟨k + 1, Y.heap.size, q + 1, by omega, (by have := HQ.out; omega), rfl, ⟨hszY, Nat.le_refl _⟩, Lib.hid (by rw [HP.out]; exact HJ3.out), hGY, hszY⟩
        case measure => have := HQ.out; simp [intOf]; omega
      · gi_wp2
        refine bodyPost_ret (results_none rfl _ _ _) rfl ?_
        exact ⟨⟨_, rfl⟩, .inr ⟨_, HPP.out, hJx3⟩⟩
    · obtain rfl : k = len := by omega
      have hq1 : ¬ q < (k : Int) := by omega
      have HJ3 : Hid (J m l wr) := Lib.hid (by have h := HJs.out; rwa [List.take_of_length_le (by rw [HN.out]; exact Nat.le_refl _)] at h)
      clear hq HJs
      gi_wp2
      go_end0
      exact ⟨⟨_, rfl⟩, .inl ⟨hsz, m, hm2, HJ3.out⟩⟩

/-- All notes, one after the other. -/
theorem tvalues_seq (l : List No.Nt) (len cap : Nat) (A : Option Addr) (Bl c1 : Nat) (hl : l.length = len) (hmax : len ≤ 1000000) (w : World) (hB : Bl < c1) (hc : c1 ≤ w.heap.size) (hBl : w.cell? ⟨Bl, 0, none⟩ = some (.slice A len cap)) (hA : 0 < l.length → ∀ b off, A = some ⟨b, off, none⟩ → b < c1) (hL : SlO w A l) :
    Seq2 Tryz.prog 98 #[.pointer (some ⟨Bl, 0, none⟩)] (fun x : No.Nt => #[Value.agg #[.int .i64 x.id, .int .i64 x.pa, .int .i64 x.ba, .int .i64 x.vo, .int .i64 x.os, .int .i64 x.sn, .int .i64 x.sd, .int .i64 x.ln, .int .i64 x.ld, .int .i64 x.st, .int .i64 x.al, .int .i64 x.oc]]) c1 0 l w := fun L J Jx W hW hJ _ hY h0 =>
  tvalues_in l len cap A L Bl c1 hl hmax J Jx W hJ hB (Nat.le_trans hc hW.size) ((hW.cell (p := ⟨Bl, 0, none⟩) (Nat.lt_of_lt_of_le hB hc)).trans hBl) hA (hL.below hW) hY h0
end Go.Proofs.YtbbjifhelbeniaaGreatDoor

/- The walk of the reference's put. -/
namespace Go.Proofs.YtbbjifhelbeniaaGreatDoor
open Go.RowKit

theorem rowO_cells (n : No.Nt) : ∀ u ∈ rowO n, u.oneCell' = true := by rw [← vO_one]; exact vO_cells [n]
theorem newO (w : World) (n : No.Nt) : ∀ j u, (rowO n)[j]? = some u → (w.alloc (.cells #[.int .i64 n.id, .int .i64 n.pa, .int .i64 n.ba, .int .i64 n.vo, .int .i64 n.os, .int .i64 n.sn, .int .i64 n.sd, .int .i64 n.ln, .int .i64 n.ld, .int .i64 n.st, .int .i64 n.al, .int .i64 n.oc] 51)).cell? ((⟨w.heap.size, 0, none⟩ : Addr).add j) = some u := fun j u hj => by
  have h : NtAt (w.alloc (.cells #[.int .i64 n.id, .int .i64 n.pa, .int .i64 n.ba, .int .i64 n.vo, .int .i64 n.os, .int .i64 n.sn, .int .i64 n.sd, .int .i64 n.ln, .int .i64 n.ld, .int .i64 n.st, .int .i64 n.al, .int .i64 n.oc] 51)) w.heap.size 0 n := by
    have h := NtB.new w n
    exact ⟨h.c0, h.c1, h.c2, h.c3, h.c4, h.c5, h.c6, h.c7, h.c8, h.c9, h.c10, h.c11⟩
  have := h.to j u hj
  rwa [baddr_off]
theorem own_cap {w : World} {base : Nat} {e : TypeId} {A : Option Addr} {n c : Nat} {xs : List Value} (h : w.ownsRow base e 12 (.slice A n c) n xs) : n ≤ c := by
  rcases h.2 with ⟨hv, _⟩ | ⟨b, cap, cur, hv, _, _, h4, _⟩
  · cases hv; exact Nat.le_refl _
  · cases hv; exact h4
theorem cut_step {bs : List Mt.B} {n : No.Nt} {l : List No.Nt} {k : Nat} (h : k < l.length) : No.cut (No.lt bs) n l (k + 1) = if No.lt bs n (atO l k) = true then No.cut (No.lt bs) n l k else k + 1 := by
  conv => lhs; unfold No.cut
  rw [List.getElem?_eq_getElem h, atO_eq h]
  rfl

set_option maxHeartbeats 3200000 in
theorem rput_is (bs : List Mt.B) (l : List No.Nt) (n : No.Nt) (blen bcap len cap : Nat) (B A : Option Addr) (hbl : bs.length = blen) (hl : l.length = len) (hmax : blen ≤ 4000000) (hlen : len ≤ 1000000) (hcap : len ≤ cap) (hA : A = none → cap = 0) (hn : No.isN n.st n.al n.oc) (hall : ∀ m ∈ l, No.isN m.st m.al m.oc) (w : World) (hB : SlB w B bs) (hL : SlO w A l) :
    Calls Tryz.prog 82 #[.slice B blen bcap, .slice A len cap, .agg #[.int .i64 n.id, .int .i64 n.pa, .int .i64 n.ba, .int .i64 n.vo, .int .i64 n.os, .int .i64 n.sn, .int .i64 n.sd, .int .i64 n.ln, .int .i64 n.ld, .int .i64 n.st, .int .i64 n.al, .int .i64 n.oc]] w fun e w' => ∃ D c, e = .returned (.slice D (len + 1) c) ∧ SlO w' D (No.ins (No.lt bs) l n) ∧ (D = none → c = 0) ∧ len + 1 ≤ c ∧ Below w.heap.size w w' := by
  have G0 := (Below.refl w.heap.size w).alloc (Nat.le_refl _) (.cells #[.int .i64 n.id, .int .i64 n.pa, .int .i64 n.ba, .int .i64 n.vo, .int .i64 n.os, .int .i64 n.sn, .int .i64 n.sd, .int .i64 n.ln, .int .i64 n.ld, .int .i64 n.st, .int .i64 n.al, .int .i64 n.oc] 51)
  have A0 := NtB.new w n
  have HB := Lib.hid (hB.alloc (.cells #[.int .i64 n.id, .int .i64 n.pa, .int .i64 n.ba, .int .i64 n.vo, .int .i64 n.os, .int .i64 n.sn, .int .i64 n.sd, .int .i64 n.ln, .int .i64 n.ld, .int .i64 n.st, .int .i64 n.al, .int .i64 n.oc] 51))
  have HL := Lib.hid (hL.alloc (.cells #[.int .i64 n.id, .int .i64 n.pa, .int .i64 n.ba, .int .i64 n.vo, .int .i64 n.os, .int .i64 n.sn, .int .i64 n.sd, .int .i64 n.ln, .int .i64 n.ld, .int .i64 n.st, .int .i64 n.al, .int .i64 n.oc] 51))
  have HN := Lib.hid hbl
  have HM0 := Lib.hid hl
  have HI := Lib.hid hn
  have HA := Lib.hid hall
  clear hbl hl hn hall hB hL
  obtain ⟨i0, hi, hz0, hz1, hz2⟩ := info_parts infoNote
  go_enter Tryz.func82, Tryz.ntmps82
  go_wp2_with fail
  generalize w.alloc (.cells #[.int .i64 n.id, .int .i64 n.pa, .int .i64 n.ba, .int .i64 n.vo, .int .i64 n.os, .int .i64 n.sn, .int .i64 n.sd, .int .i64 n.ln, .int .i64 n.ld, .int .i64 n.st, .int .i64 n.al, .int .i64 n.oc] 51) = w2 at *
  obtain ⟨at_, hat⟩ : ∃ k, No.cut (No.lt bs) n l len = k := ⟨_, rfl⟩
  have HC := Lib.hid hat
  clear hat
  go_loopw [7] (fun s7 wr => ∃ (k : Nat), k ≤ len ∧ s7 = .int .i64 (k : Int) ∧ Hid (No.cut (No.lt bs) n l len = No.cut (No.lt bs) n l k) ∧ Below w2.heap.size w2 wr) (fun s7 _ => (intOf s7).toNat)
  case atStart => exact ⟨len, Nat.le_refl _, rfl, Lib.hid rfl, Below.refl _ _⟩
  case round =>
    obtain ⟨k, hk, rfl, HE, hX⟩ := hrel
    by_cases h0 : 0 < k
    · obtain ⟨j, hj⟩ : ∃ j, j + 1 = k := ⟨k - 1, by omega⟩
      have hkl : j < l.length := by rw [HM0.out]; omega
      have hs := cut_step (bs := bs) (n := n) hkl
      rw [hj] at hs
      obtain ⟨bb, off, rfl, hbb, hc⟩ := HL.out (by omega)
      obtain ⟨m, hm⟩ : ∃ m, atO l j = m := ⟨_, rfl⟩
      have X := (hc j hkl).below hX hbb
      rw [hm] at X hs
      have Y := A0.below hX
      have HM : Hid (No.isN m.st m.al m.oc) := Lib.hid (by rw [← hm]; exact HA.out _ (atO_mem hkl))
      obtain ⟨f, hf⟩ : ∃ f, No.lt bs n m = f := ⟨_, rfl⟩
      have HT := Lib.hid hf
      rw [hf] at hs
      have HS := Lib.hid hs
      have B0 := Lib.hid (HB.out.below hX)
      have x0 := fun y : Ext wr => y.cell Y.c0; have x1 := fun y : Ext wr => y.cell Y.c1; have x2 := fun y : Ext wr => y.cell Y.c2; have x3 := fun y : Ext wr => y.cell Y.c3; have x4 := fun y : Ext wr => y.cell Y.c4; have x5 := fun y : Ext wr => y.cell Y.c5; have x6 := fun y : Ext wr => y.cell Y.c6; have x7 := fun y : Ext wr => y.cell Y.c7; have x8 := fun y : Ext wr => y.cell Y.c8; have x9 := fun y : Ext wr => y.cell Y.c9; have x10 := fun y : Ext wr => y.cell Y.c10; have x11 := fun y : Ext wr => y.cell Y.c11
      have z0 : wr.cell? ⟨bb, off + j * 12, none⟩ = some (.int .i64 m.id) := X.c0
      have y0 := fun y : Ext wr => y.cell z0
      have y1 := fun y : Ext wr => y.cell X.c1; have y2 := fun y : Ext wr => y.cell X.c2; have y3 := fun y : Ext wr => y.cell X.c3; have y4 := fun y : Ext wr => y.cell X.c4; have y5 := fun y : Ext wr => y.cell X.c5; have y6 := fun y : Ext wr => y.cell X.c6; have y7 := fun y : Ext wr => y.cell X.c7; have y8 := fun y : Ext wr => y.cell X.c8; have y9 := fun y : Ext wr => y.cell X.c9; have y10 := fun y : Ext wr => y.cell X.c10; have y11 := fun y : Ext wr => y.cell X.c11
      have hne := Ext.there wr
      have hk1 : (0 : Int) < (k : Int) := by omega
      have hk2 : (k : Int) - 1 = (j : Int) := by omega
      have hk3 : (j : Int) < (len : Int) := by omega
      have hk4 : ((j : Int)).toNat = j := by omega
      have hk5 : (0 : Int) ≤ (j : Int) := by omega
      have hk6 : j < len := by omega
      have HJ := Lib.hid hj
      clear X Y z0 hc hm hf hkl hs hj
      cases f with
      | true =>
        go_wp2_with fail
        refine Ext.region (by kernel_rfl) (by kernel_rfl) ?_
        repeat (go_big_quiet_step ((go_at_call 42; exact Ext.call _ (rbefore_is bs n m true blen bcap B HT.out HI.out HM.out HN.out hmax _ (B0.out.below (Ext.h _))))))
        refine wpQuiet_nil ?_
        rintro _ ⟨xw, rfl⟩
        have hX2 := hX.trans (xw.h.mono hX.size)
        clear x0 x1 x2 x3 x4 x5 x6 x7 x8 x9 x10 x11 y0 y1 y2 y3 y4 y5 y6 y7 y8 y9 y10 y11 hne hX B0
        generalize xw.w = w3 at *
        clear xw
        go_wp2_with fail
        go_roundw
        case rel => exact ⟨j, by omega, (by simp), Lib.hid (HE.out.trans (by have h := HS.out; simpa using h)), hX2⟩
        case measure => simp [intOf]; omega
      | false =>
        replace HE : Hid (No.cut (No.lt bs) n l len = k) := Lib.hid (HE.out.trans (by have h := HS.out; simpa using h))
        clear HS
        go_wp2_with fail
        refine Ext.region (by kernel_rfl) (by kernel_rfl) ?_
        repeat (go_big_quiet_step ((go_at_call 42; exact Ext.call _ (rbefore_is bs n m false blen bcap B HT.out HI.out HM.out HN.out hmax _ (B0.out.below (Ext.h _))))))
        refine wpQuiet_nil ?_
        rintro _ ⟨xw, rfl⟩
        have hX2 := hX.trans (xw.h.mono hX.size)
        clear x0 x1 x2 x3 x4 x5 x6 x7 x8 x9 x10 x11 y0 y1 y2 y3 y4 y5 y6 y7 y8 y9 y10 y11 hne hX B0
        generalize xw.w = w3 at *
        clear xw
        have HTK : Hid ((l.take k).length = k) := Lib.hid (by rw [List.length_take, HM0.out]; omega)
        have HDK : Hid ((l.drop k).length = len - k) := Lib.hid (by rw [List.length_drop, HM0.out])
        have HV : Hid ([] ++ vO (l.take k) ++ rowO n ++ vO (l.drop k) = vO (No.ins (No.lt bs) l n)) := Lib.hid (by
          unfold No.ins
          rw [HM0.out, HE.out, vO_app, show n :: l.drop k = [n] ++ l.drop k from rfl, vO_app, vO_one]
          simp [List.append_assoc])
        have hks : k ≤ len := hk
        have hkc : k ≤ cap := Nat.le_trans hk hcap
        by_cases hck : cap = k
        · obtain rfl : k = len := by omega
          subst hck
          go_wp2_with (first | (at_builtin; refine append_slo rfl _ _ 24 rfl w2.heap.size 51 i0 (.agg #[.int .i64 0, .int .i64 0, .int .i64 0, .int .i64 0, .int .i64 0, .int .i64 0, .int .i64 0, .int .i64 0, .int .i64 0, .int .i64 0, .int .i64 0, .int .i64 0]) 96 Tryz.underlying24 hi hz0 hz1 hz2 rfl (.slice none 0 0) 0 [] rfl (World.ownsRow_nil _ _ _ _) (some ⟨bb, off, none⟩) cap cap (l.take cap) rfl hA HTK.out (HL.out.below hX2 |>.take cap) (by unfold maxLen; omega) (by omega) hX2.size ?_; intro v4 w4 hown4 hgrow4; have G4 := hX2.grown hgrow4 hX2.size (fun j hj => by cases hj); have Y := A0.below G4; obtain ⟨c0, c1, c2, c3, c4, c5, c6, c7, c8, c9, c10, c11⟩ := And.intro Y.c0 (And.intro Y.c1 (And.intro Y.c2 (And.intro Y.c3 (And.intro Y.c4 (And.intro Y.c5 (And.intro Y.c6 (And.intro Y.c7 (And.intro Y.c8 (And.intro Y.c9 (And.intro Y.c10 Y.c11)))))))))); clear Y) | (at_builtin; refine wpList_append_own _ rfl _ _ 24 rfl w2.heap.size 51 i0 (.agg #[.int .i64 0, .int .i64 0, .int .i64 0, .int .i64 0, .int .i64 0, .int .i64 0, .int .i64 0, .int .i64 0, .int .i64 0, .int .i64 0, .int .i64 0, .int .i64 0]) 12 96 Tryz.underlying24 hi hz0 hz1 hz2 rfl (by decide) v4 _ _ rfl (hown4.kept (obelow_grown ((Below.refl _ _).alloc (Nat.le_refl _) _) none) onone_ne) ⟨w4.heap.size, 0, none⟩ 1 1 (rowO n) rfl rfl (newO w4 n) (rowO_cells n) (by unfold maxLen; omega) (by omega) (by have := G4.size; simp; omega) ?_; intro v5 w5 hown5 hgrow5 hnil5; have G5 := (G4.alloc G4.size _).grown hgrow5 (by have := G4.size; simp; omega) (oown_ne hown4); clear c0 c1 c2 c3 c4 c5 c6 c7 c8 c9 c10 c11) | (at_builtin; go_loud (refine append_slo rfl _ _ 24 rfl w2.heap.size 51 i0 (.agg #[.int .i64 0, .int .i64 0, .int .i64 0, .int .i64 0, .int .i64 0, .int .i64 0, .int .i64 0, .int .i64 0, .int .i64 0, .int .i64 0, .int .i64 0, .int .i64 0]) 96 Tryz.underlying24 hi hz0 hz1 hz2 rfl v5 _ _ rfl hown5 (some ⟨bb, off, none⟩) (0) (0) [] rfl (fun _ => rfl) rfl (SlO.nil _ _) (by unfold maxLen; omega) (by omega) G5.size ?_; intro v6 w6 hown6 hgrow6)) | fail)
          have G6 := G5.grown hgrow6 G5.size (oown_ne hown5)
          rw [show vO [] = vO (l.drop cap) by rw [List.drop_eq_nil_of_le (by rw [HM0.out]; exact Nat.le_refl _)], show 0 + cap + 1 + 0 = cap + 1 by omega] at hown6
          rw [HV.out] at hown6
          obtain ⟨_, D, c, rfl, hD, hDn⟩ := own_o hown6
          have hDc := own_cap hown6
          go_ret
          exact ⟨D, c, rfl, hD, hDn, hDc, G0.trans (G6.mono G0.size)⟩
        · have hcl : k ≤ cap := hkc
          go_wp2_with (first | (at_builtin; refine append_slo rfl _ _ 24 rfl w2.heap.size 51 i0 (.agg #[.int .i64 0, .int .i64 0, .int .i64 0, .int .i64 0, .int .i64 0, .int .i64 0, .int .i64 0, .int .i64 0, .int .i64 0, .int .i64 0, .int .i64 0, .int .i64 0]) 96 Tryz.underlying24 hi hz0 hz1 hz2 rfl (.slice none 0 0) 0 [] rfl (World.ownsRow_nil _ _ _ _) (some ⟨bb, off, none⟩) k cap (l.take k) rfl hA HTK.out (HL.out.below hX2 |>.take k) (by unfold maxLen; omega) (by omega) hX2.size ?_; intro v4 w4 hown4 hgrow4; have G4 := hX2.grown hgrow4 hX2.size (fun j hj => by cases hj); have Y := A0.below G4; obtain ⟨c0, c1, c2, c3, c4, c5, c6, c7, c8, c9, c10, c11⟩ := And.intro Y.c0 (And.intro Y.c1 (And.intro Y.c2 (And.intro Y.c3 (And.intro Y.c4 (And.intro Y.c5 (And.intro Y.c6 (And.intro Y.c7 (And.intro Y.c8 (And.intro Y.c9 (And.intro Y.c10 Y.c11)))))))))); clear Y) | (at_builtin; refine wpList_append_own _ rfl _ _ 24 rfl w2.heap.size 51 i0 (.agg #[.int .i64 0, .int .i64 0, .int .i64 0, .int .i64 0, .int .i64 0, .int .i64 0, .int .i64 0, .int .i64 0, .int .i64 0, .int .i64 0, .int .i64 0, .int .i64 0]) 12 96 Tryz.underlying24 hi hz0 hz1 hz2 rfl (by decide) v4 _ _ rfl (hown4.kept (obelow_grown ((Below.refl _ _).alloc (Nat.le_refl _) _) none) onone_ne) ⟨w4.heap.size, 0, none⟩ 1 1 (rowO n) rfl rfl (newO w4 n) (rowO_cells n) (by unfold maxLen; omega) (by omega) (by have := G4.size; simp; omega) ?_; intro v5 w5 hown5 hgrow5 hnil5; have G5 := (G4.alloc G4.size _).grown hgrow5 (by have := G4.size; simp; omega) (oown_ne hown4); clear c0 c1 c2 c3 c4 c5 c6 c7 c8 c9 c10 c11) | (at_builtin; go_loud (refine append_slo rfl _ _ 24 rfl w2.heap.size 51 i0 (.agg #[.int .i64 0, .int .i64 0, .int .i64 0, .int .i64 0, .int .i64 0, .int .i64 0, .int .i64 0, .int .i64 0, .int .i64 0, .int .i64 0, .int .i64 0, .int .i64 0]) 96 Tryz.underlying24 hi hz0 hz1 hz2 rfl v5 _ _ rfl hown5 (some ⟨bb, off + k * 12, none⟩) (len - k) (cap - k) (l.drop k) rfl (fun h => by cases h) HDK.out (by have h := (HL.out.below G5).drop k; rw [Option.map_some, baddr_off] at h; exact h) (by unfold maxLen; omega) (by omega) G5.size ?_; intro v6 w6 hown6 hgrow6)) | fail)
          have G6 := G5.grown hgrow6 G5.size (oown_ne hown5)
          rw [show 0 + k + 1 + (len - k) = len + 1 by omega] at hown6
          rw [HV.out] at hown6
          obtain ⟨_, D, c, rfl, hD, hDn⟩ := own_o hown6
          have hDc := own_cap hown6
          go_ret
          exact ⟨D, c, rfl, hD, hDn, hDc, G0.trans (G6.mono G0.size)⟩

    · skip
      have Y := A0.below hX
      have B0 := Lib.hid (HB.out.below hX)
      have x0 := fun y : Ext wr => y.cell Y.c0; have x1 := fun y : Ext wr => y.cell Y.c1; have x2 := fun y : Ext wr => y.cell Y.c2; have x3 := fun y : Ext wr => y.cell Y.c3; have x4 := fun y : Ext wr => y.cell Y.c4; have x5 := fun y : Ext wr => y.cell Y.c5; have x6 := fun y : Ext wr => y.cell Y.c6; have x7 := fun y : Ext wr => y.cell Y.c7; have x8 := fun y : Ext wr => y.cell Y.c8; have x9 := fun y : Ext wr => y.cell Y.c9; have x10 := fun y : Ext wr => y.cell Y.c10; have x11 := fun y : Ext wr => y.cell Y.c11
      have hne := Ext.there wr
      clear Y
      replace HE : Hid (No.cut (No.lt bs) n l len = k) := Lib.hid (HE.out.trans (by have e : k = 0 := (by omega); subst e; rfl))
      go_wp2_with fail
      refine Ext.region (by kernel_rfl) (by kernel_rfl) ?_
      repeat (go_big_quiet_step (fail))
      refine wpQuiet_nil ?_
      rintro _ ⟨xw, rfl⟩
      have hX2 := hX.trans (xw.h.mono hX.size)
      clear x0 x1 x2 x3 x4 x5 x6 x7 x8 x9 x10 x11 hne hX B0
      generalize xw.w = w3 at *
      clear xw
      have HTK : Hid ((l.take k).length = k) := Lib.hid (by rw [List.length_take, HM0.out]; omega)
      have HDK : Hid ((l.drop k).length = len - k) := Lib.hid (by rw [List.length_drop, HM0.out])
      have HV : Hid ([] ++ vO (l.take k) ++ rowO n ++ vO (l.drop k) = vO (No.ins (No.lt bs) l n)) := Lib.hid (by
        unfold No.ins
        rw [HM0.out, HE.out, vO_app, show n :: l.drop k = [n] ++ l.drop k from rfl, vO_app, vO_one]
        simp [List.append_assoc])
      have hks : k ≤ len := hk
      have hkc : k ≤ cap := Nat.le_trans hk hcap
      by_cases hck : cap = k
      · obtain rfl : k = len := by omega
        subst hck
        go_wp2_with (first | (at_builtin; refine append_slo rfl _ _ 24 rfl w2.heap.size 51 i0 (.agg #[.int .i64 0, .int .i64 0, .int .i64 0, .int .i64 0, .int .i64 0, .int .i64 0, .int .i64 0, .int .i64 0, .int .i64 0, .int .i64 0, .int .i64 0, .int .i64 0]) 96 Tryz.underlying24 hi hz0 hz1 hz2 rfl (.slice none 0 0) 0 [] rfl (World.ownsRow_nil _ _ _ _) A cap cap (l.take cap) rfl hA HTK.out (HL.out.below hX2 |>.take cap) (by unfold maxLen; omega) (by omega) hX2.size ?_; intro v4 w4 hown4 hgrow4; have G4 := hX2.grown hgrow4 hX2.size (fun j hj => by cases hj); have Y := A0.below G4; obtain ⟨c0, c1, c2, c3, c4, c5, c6, c7, c8, c9, c10, c11⟩ := And.intro Y.c0 (And.intro Y.c1 (And.intro Y.c2 (And.intro Y.c3 (And.intro Y.c4 (And.intro Y.c5 (And.intro Y.c6 (And.intro Y.c7 (And.intro Y.c8 (And.intro Y.c9 (And.intro Y.c10 Y.c11)))))))))); clear Y) | (at_builtin; refine wpList_append_own _ rfl _ _ 24 rfl w2.heap.size 51 i0 (.agg #[.int .i64 0, .int .i64 0, .int .i64 0, .int .i64 0, .int .i64 0, .int .i64 0, .int .i64 0, .int .i64 0, .int .i64 0, .int .i64 0, .int .i64 0, .int .i64 0]) 12 96 Tryz.underlying24 hi hz0 hz1 hz2 rfl (by decide) v4 _ _ rfl (hown4.kept (obelow_grown ((Below.refl _ _).alloc (Nat.le_refl _) _) none) onone_ne) ⟨w4.heap.size, 0, none⟩ 1 1 (rowO n) rfl rfl (newO w4 n) (rowO_cells n) (by unfold maxLen; omega) (by omega) (by have := G4.size; simp; omega) ?_; intro v5 w5 hown5 hgrow5 hnil5; have G5 := (G4.alloc G4.size _).grown hgrow5 (by have := G4.size; simp; omega) (oown_ne hown4); clear c0 c1 c2 c3 c4 c5 c6 c7 c8 c9 c10 c11) | (at_builtin; go_loud (refine append_slo rfl _ _ 24 rfl w2.heap.size 51 i0 (.agg #[.int .i64 0, .int .i64 0, .int .i64 0, .int .i64 0, .int .i64 0, .int .i64 0, .int .i64 0, .int .i64 0, .int .i64 0, .int .i64 0, .int .i64 0, .int .i64 0]) 96 Tryz.underlying24 hi hz0 hz1 hz2 rfl v5 _ _ rfl hown5 A (0) (0) [] rfl (fun _ => rfl) rfl (SlO.nil _ _) (by unfold maxLen; omega) (by omega) G5.size ?_; intro v6 w6 hown6 hgrow6)) | fail)
        have G6 := G5.grown hgrow6 G5.size (oown_ne hown5)
        rw [show vO [] = vO (l.drop cap) by rw [List.drop_eq_nil_of_le (by rw [HM0.out]; exact Nat.le_refl _)], show 0 + cap + 1 + 0 = cap + 1 by omega] at hown6
        rw [HV.out] at hown6
        obtain ⟨_, D, c, rfl, hD, hDn⟩ := own_o hown6
        have hDc := own_cap hown6
        go_ret
        exact ⟨D, c, rfl, hD, hDn, hDc, G0.trans (G6.mono G0.size)⟩
      · have hcl : k ≤ cap := hkc
        go_wp2_with (first | (at_builtin; refine append_slo rfl _ _ 24 rfl w2.heap.size 51 i0 (.agg #[.int .i64 0, .int .i64 0, .int .i64 0, .int .i64 0, .int .i64 0, .int .i64 0, .int .i64 0, .int .i64 0, .int .i64 0, .int .i64 0, .int .i64 0, .int .i64 0]) 96 Tryz.underlying24 hi hz0 hz1 hz2 rfl (.slice none 0 0) 0 [] rfl (World.ownsRow_nil _ _ _ _) A k cap (l.take k) rfl hA HTK.out (HL.out.below hX2 |>.take k) (by unfold maxLen; omega) (by omega) hX2.size ?_; intro v4 w4 hown4 hgrow4; have G4 := hX2.grown hgrow4 hX2.size (fun j hj => by cases hj); have Y := A0.below G4; obtain ⟨c0, c1, c2, c3, c4, c5, c6, c7, c8, c9, c10, c11⟩ := And.intro Y.c0 (And.intro Y.c1 (And.intro Y.c2 (And.intro Y.c3 (And.intro Y.c4 (And.intro Y.c5 (And.intro Y.c6 (And.intro Y.c7 (And.intro Y.c8 (And.intro Y.c9 (And.intro Y.c10 Y.c11)))))))))); clear Y) | (at_builtin; refine wpList_append_own _ rfl _ _ 24 rfl w2.heap.size 51 i0 (.agg #[.int .i64 0, .int .i64 0, .int .i64 0, .int .i64 0, .int .i64 0, .int .i64 0, .int .i64 0, .int .i64 0, .int .i64 0, .int .i64 0, .int .i64 0, .int .i64 0]) 12 96 Tryz.underlying24 hi hz0 hz1 hz2 rfl (by decide) v4 _ _ rfl (hown4.kept (obelow_grown ((Below.refl _ _).alloc (Nat.le_refl _) _) none) onone_ne) ⟨w4.heap.size, 0, none⟩ 1 1 (rowO n) rfl rfl (newO w4 n) (rowO_cells n) (by unfold maxLen; omega) (by omega) (by have := G4.size; simp; omega) ?_; intro v5 w5 hown5 hgrow5 hnil5; have G5 := (G4.alloc G4.size _).grown hgrow5 (by have := G4.size; simp; omega) (oown_ne hown4); clear c0 c1 c2 c3 c4 c5 c6 c7 c8 c9 c10 c11) | (at_builtin; go_loud (refine append_slo rfl _ _ 24 rfl w2.heap.size 51 i0 (.agg #[.int .i64 0, .int .i64 0, .int .i64 0, .int .i64 0, .int .i64 0, .int .i64 0, .int .i64 0, .int .i64 0, .int .i64 0, .int .i64 0, .int .i64 0, .int .i64 0]) 96 Tryz.underlying24 hi hz0 hz1 hz2 rfl v5 _ _ rfl hown5 (Option.map (fun x : Addr => x.add (k * 12)) A) (len - k) (cap - k) (l.drop k) rfl (fun h => by cases A with | none => have := hA rfl; omega | some a => cases h) HDK.out (HL.out.below G5 |>.drop k) (by unfold maxLen; omega) (by omega) G5.size ?_; intro v6 w6 hown6 hgrow6)) | fail)
        have G6 := G5.grown hgrow6 G5.size (oown_ne hown5)
        rw [show 0 + k + 1 + (len - k) = len + 1 by omega] at hown6
        rw [HV.out] at hown6
        obtain ⟨_, D, c, rfl, hD, hDn⟩ := own_o hown6
        have hDc := own_cap hown6
        go_ret
        exact ⟨D, c, rfl, hD, hDn, hDc, G0.trans (G6.mono G0.size)⟩

end Go.Proofs.YtbbjifhelbeniaaGreatDoor

/- The walks of the library's AppendSeq, Collect and SortedFunc over notes, and of notes' Sort. -/
namespace Go.Proofs.YtbbjifhelbeniaaGreatDoor
open Go.RowKit Go.Shelf Go.Maps

attribute [local go_sem] Oper.semAt_some

theorem new1 (w : World) (v : Value) (t : TypeId) (h : v.cells.size = 1 := by rfl) : (w.alloc (.cells #[v] t)).cell? ⟨w.heap.size, 0, none⟩ = some v ∧ (w.alloc (.cells #[v] t)).frozen? ⟨w.heap.size, 0, none⟩ = false := by
  have := h
  exact ⟨by go_simp, by go_simp⟩
theorem own_acts {N m : Nat} {X Y : World} {e : TypeId} {size : Nat} {v : Value} {n : Nat} {xs : List Value} (h : X.ownsRow N e size v n xs) (hb : Acts m N X Y) : Y.ownsRow N e size v n xs := by
  refine ⟨h.1, ?_⟩
  rcases h.2 with h2 | ⟨g, cap, cur, h1, h2, h3, h4⟩
  · exact .inl h2
  · exact .inr ⟨g, cap, cur, h1, h2, (hb.same g (Array.getElem?_eq_some_iff.1 h3).1 (.inr h2)).trans h3, h4⟩
theorem own_less {B N : Nat} {X : World} {e : TypeId} {size : Nat} {v : Value} {n : Nat} {xs : List Value} (h : X.ownsRow N e size v n xs) (hB : B ≤ N) : X.ownsRow B e size v n xs := by
  refine ⟨h.1, ?_⟩
  rcases h.2 with h2 | ⟨g, cap, cur, h1, h2, h3, h4⟩
  · exact .inl h2
  · exact .inr ⟨g, cap, cur, h1, by omega, h3, h4⟩
theorem NtB.put {X : World} {b l : Nat} {x : No.Nt} (h : NtB X b x) (hne : b ≠ l) (o : Obj) : NtB (X.putObj l o) b x := by
  have hc : ∀ (j : Nat) (v : Value), X.cell? ⟨b, j, none⟩ = some v → (X.putObj l o).cell? ⟨b, j, none⟩ = some v := fun j v hv =>
    (World.cell?_of_block (w := X) (a := ⟨b, j, none⟩) (World.putObj_heap_other hne)).trans hv
  exact ⟨by have := h.lt; simpa using this, hc 0 _ h.c0, hc 1 _ h.c1, hc 2 _ h.c2, hc 3 _ h.c3, hc 4 _ h.c4, hc 5 _ h.c5, hc 6 _ h.c6, hc 7 _ h.c7, hc 8 _ h.c8, hc 9 _ h.c9, hc 10 _ h.c10, hc 11 _ h.c11⟩

set_option maxHeartbeats 4000000 in
set_option maxRecDepth 100000 in
theorem tappendseq_is (l : List No.Nt) (len cap : Nat) (A : Option Addr) (Bl : Nat) (hl : l.length = len) (hmax : len ≤ 1000000) (w : World) (hB : Bl < w.heap.size) (hBl : w.cell? ⟨Bl, 0, none⟩ = some (.slice A len cap)) (hL : SlO w A l) :
    Calls Tryz.prog 117 #[.slice none 0 0, .func (.func 98) #[] #[.pointer (some ⟨Bl, 0, none⟩)]] w fun e w' => Below w.heap.size w w' ∧ ∃ v, e = .returned v ∧ w'.ownsRow w.heap.size 51 12 v len (vO l) := by
  have HN := Lib.hid hl
  have HL := Lib.hid hL
  have HA : Hid (0 < l.length → ∀ b off, A = some ⟨b, off, none⟩ → b < w.heap.size) := Lib.hid (fun h0 b off e => by
    obtain ⟨b', off', e', hlt, _⟩ := hL h0
    rw [e] at e'
    cases e'
    exact hlt)
  clear hl hL
  obtain ⟨i0, hi, hz0, hz1, hz2⟩ := info_parts infoNote
  refine (callsIn_wide (n := 10)).1 (callsIn_of_wp_marks Tryz.func117 rfl trivial (wpIn_wide.2 ?_) rfl)
  simp only [Tryz.ntmps117, List.size_toArray, List.length_cons, List.length_nil, Nat.reduceAdd, Nat.reduceSub, Array.replicate_succ, Array.replicate_zero, List.push_toArray, List.append_toArray, List.nil_append, List.cons_append]
  go_wp2_with fail
  obtain ⟨w3, hw3⟩ : ∃ w3, w.alloc (.cells #[.slice none 0 0] 24) = w3 := ⟨_, rfl⟩
  have hs3 : w3.heap.size = w.heap.size + 1 := by rw [← hw3]; simp
  have G3 : Below w.heap.size w w3 := by rw [← hw3]; exact (Below.refl _ _).alloc (Nat.le_refl _) _
  have B3 : w3.cell? ⟨w.heap.size, 0, none⟩ = some (.slice none 0 0) ∧ w3.frozen? ⟨w.heap.size, 0, none⟩ = false := by
    rw [← hw3]; exact new1 w (.slice none 0 0) 24
  rw [hw3]
  clear hw3
  refine wp_seq2 (gf := 98) (lb := #[.pointer (some ⟨Bl, 0, none⟩)]) rfl (enters_of Tryz.func98 (by kernel_rfl) rfl)
    (tvalues_seq l len cap A Bl w.heap.size HN.out hmax w hB (Nat.le_refl _) hBl HA.out HL.out) (Nat.le_of_lt (by omega)) G3
    (fun _ => rfl)
    (fun m pre X => (∃ v, (∀ j, v.ownBlock = some j → j < m) ∧ X.cell? ⟨w.heap.size, 0, none⟩ = some v ∧ X.ownsRow (w3.heap.size + 2 + 0) 51 12 v pre.length (vO pre)) ∧ X.frozen? ⟨w.heap.size, 0, none⟩ = false ∧ Below w.heap.size w X)
    (fun _ _ => False) false 0 ?hmono ?hI (fun _ _ _ h _ => h) ?h0
    (fun _ x a' X => ∃ b, w3.heap.size + 2 + 0 ≤ b ∧ NtB X b x ∧ a' = { tmps := #[.slice none 0 0, .func (.func 98) #[] #[.pointer (some ⟨Bl, 0, none⟩)], .pointer (some ⟨w.heap.size, 0, none⟩), undef, .slice none 0 0, .pointer (some ⟨b, 0, none⟩), .func (.func 98) #[] #[.pointer (some ⟨Bl, 0, none⟩)], .agg #[.int .i64 x.id, .int .i64 x.pa, .int .i64 x.ba, .int .i64 x.vo, .int .i64 x.os, .int .i64 x.sn, .int .i64 x.sd, .int .i64 x.ln, .int .i64 x.ld, .int .i64 x.st, .int .i64 x.al, .int .i64 x.oc], undef, undef, undef, undef, undef], defers := [] })
    ?hAx ?assign ?body ?done ?stop
  case hmono =>
    rintro m m2 s X hm ⟨⟨v, hv, hc, ho⟩, hf, hG⟩
    exact ⟨⟨v, fun j hj => Nat.lt_of_lt_of_le (hv j hj) hm, hc, ho⟩, hf, hG⟩
  case hI =>
    rintro m s X Y ⟨⟨v, hv, hc, ho⟩, hf, hG⟩ hb
    exact ⟨⟨v, hv, hb.cell (.inl (by first | omega | (simp; omega) | (simp only []; omega))) hc, own_acts ho hb⟩, (hb.frozen (.inl (by first | omega | (simp; omega) | (simp only []; omega))) hc).trans hf, hG.trans (hb.below (by omega) hG.size)⟩
  case h0 => exact ⟨⟨_, fun j hj => (by cases hj), B3.1, World.ownsRow_nil _ _ _ _⟩, B3.2, G3⟩
  case hAx =>
    rintro m x a' X o o' ⟨b, hb, NB, rfl⟩ _ _
    exact ⟨b, hb, NB.put (by omega) _, rfl⟩
  case assign =>
    rintro L m pre x X hpre hm1 hm2 ⟨⟨v, hv, hc, ho⟩, hf, hG⟩ hz
    gi_wp2
    refine ⟨(Kr.refl _ _ _ _ _).alloc _, ⟨⟨v, hv, keep_alloc hc _, ho.alloc _⟩, ?_, hG.alloc hG.size _⟩, X.heap.size, hz, NtB.new X x, rfl⟩
    exact (((Below.refl X.heap.size X).alloc (Nat.le_refl _) _).frozen (p := ⟨w.heap.size, 0, none⟩) (World.block_lt_of_cell? _ _ hc)).trans hf
  case body =>
    rintro L m pre x a' X hpre hm1 hm2 ⟨⟨v, hv, hc, ho⟩, hf, hG⟩ ⟨b, hb, NB, rfl⟩ hz
    have hpl : pre.length + 1 ≤ len := by have := hpre.length_le; rw [List.length_append, HN.out] at this; simpa using this
    obtain ⟨c0, c1, c2, c3, c4, c5, c6, c7, c8, c9, c10, c11⟩ := And.intro NB.c0 (And.intro NB.c1 (And.intro NB.c2 (And.intro NB.c3 (And.intro NB.c4 (And.intro NB.c5 (And.intro NB.c6 (And.intro NB.c7 (And.intro NB.c8 (And.intro NB.c9 (And.intro NB.c10 NB.c11))))))))))
    have hne : ∀ j, v.ownBlock = some j → w3.heap.size + 2 + 0 ≤ j := oown_ne ho
    have hlt : w.heap.size < X.heap.size := World.block_lt_of_cell? _ _ hc
    have K0 : Kr w.heap.size w3.heap.size (w3.heap.size + 2 + 0) m X (X.alloc (.cells #[.int .i64 x.id, .int .i64 x.pa, .int .i64 x.ba, .int .i64 x.vo, .int .i64 x.os, .int .i64 x.sn, .int .i64 x.sd, .int .i64 x.ln, .int .i64 x.ld, .int .i64 x.st, .int .i64 x.al, .int .i64 x.oc] 51)) := (Kr.refl _ _ _ _ _).alloc _
    have hcA := keep_alloc hc (.cells #[.int .i64 x.id, .int .i64 x.pa, .int .i64 x.ba, .int .i64 x.vo, .int .i64 x.os, .int .i64 x.sn, .int .i64 x.sd, .int .i64 x.ln, .int .i64 x.ld, .int .i64 x.st, .int .i64 x.al, .int .i64 x.oc] 51)
    have hfA := (((Below.refl X.heap.size X).alloc (Nat.le_refl _) (.cells #[.int .i64 x.id, .int .i64 x.pa, .int .i64 x.ba, .int .i64 x.vo, .int .i64 x.os, .int .i64 x.sn, .int .i64 x.sd, .int .i64 x.ln, .int .i64 x.ld, .int .i64 x.st, .int .i64 x.al, .int .i64 x.oc] 51)).frozen (p := ⟨w.heap.size, 0, none⟩) hlt).trans hf
    have hGA := hG.alloc hG.size (.cells #[.int .i64 x.id, .int .i64 x.pa, .int .i64 x.ba, .int .i64 x.vo, .int .i64 x.os, .int .i64 x.sn, .int .i64 x.sd, .int .i64 x.ln, .int .i64 x.ld, .int .i64 x.st, .int .i64 x.al, .int .i64 x.oc] 51)
    have hoA := ho.alloc (.cells #[.int .i64 x.id, .int .i64 x.pa, .int .i64 x.ba, .int .i64 x.vo, .int .i64 x.os, .int .i64 x.sn, .int .i64 x.sd, .int .i64 x.ln, .int .i64 x.ld, .int .i64 x.st, .int .i64 x.al, .int .i64 x.oc] 51)
    clear ho hf hG NB
    gi_wp2_with (first | (gi_at_builtin; refine wpListIn_append_own _ rfl _ _ 24 rfl (w3.heap.size + 2 + 0) 51 i0 (.agg #[.int .i64 0, .int .i64 0, .int .i64 0, .int .i64 0, .int .i64 0, .int .i64 0, .int .i64 0, .int .i64 0, .int .i64 0, .int .i64 0, .int .i64 0, .int .i64 0]) 12 96 Tryz.underlying24 hi hz0 hz1 hz2 rfl (by decide) v pre.length (vO pre) rfl hoA ⟨X.heap.size, 0, none⟩ 1 1 (rowO x) rfl rfl (newO X x) (rowO_cells x) (by unfold maxLen; omega) (by omega) (by first | omega | (simp; omega) | (simp only []; omega)) ?_; intro v' w1 hown' hgrow _; have K1 := K0.grown hgrow (fun j hj => by have := hne j hj; have := hv j hj; omega); have hG1 := hGA.grown hgrow hGA.size (fun j hj => by have := hne j hj; omega); have hc1 := (World.cell?_of_block (w := X.alloc (.cells #[.int .i64 x.id, .int .i64 x.pa, .int .i64 x.ba, .int .i64 x.vo, .int .i64 x.os, .int .i64 x.sn, .int .i64 x.sd, .int .i64 x.ln, .int .i64 x.ld, .int .i64 x.st, .int .i64 x.al, .int .i64 x.oc] 51)) (w' := w1) (a := ⟨w.heap.size, 0, none⟩) (hgrow.block w.heap.size (by first | omega | (simp; omega) | (simp only []; omega)) (fun e => by have := hne _ e.symm; omega))).trans hcA; have hf1 := (World.frozen?_of_block (w := X.alloc (.cells #[.int .i64 x.id, .int .i64 x.pa, .int .i64 x.ba, .int .i64 x.vo, .int .i64 x.os, .int .i64 x.sn, .int .i64 x.sd, .int .i64 x.ln, .int .i64 x.ld, .int .i64 x.st, .int .i64 x.al, .int .i64 x.oc] 51)) (w' := w1) (a := ⟨w.heap.size, 0, none⟩) (hgrow.block w.heap.size (by first | omega | (simp; omega) | (simp only []; omega)) (fun e => by have := hne _ e.symm; omega))).trans hfA; obtain ⟨g', cap', rfl⟩ := ownsRow_succ hown'))
    refine ⟨K1.setCell (p := ⟨w.heap.size, 0, none⟩) (Nat.le_refl _) (.inl (by first | omega | (simp; omega))) (by first | omega | (simp; omega)) _, ⟨_, ?_, World.cell?_setCell_same' _ _ _ (by rw [hc1]; rfl), ?_⟩, by rw [World.frozen?_setCell]; exact hf1, hG1.setCell (p := ⟨w.heap.size, 0, none⟩) (Nat.le_refl _) _⟩
    · intro j hj; have := (hown'.lt j hj).2; simpa using this
    rw [List.length_append, List.length_singleton, vO_app, vO_one]
    exact ownsRow_setCell_below hown' (by first | omega | (simp; omega) | (simp only []; omega)) _
  case done =>
    rintro D X hD _ ⟨m, _, ⟨v, hv, hc, ho⟩, hf, hG⟩ hK
    rw [HN.out] at ho
    go_wp2_with fail
    refine ⟨by simp, .inl ⟨_, _, rfl, run_takeDeferred hK, ?_⟩⟩
    refine ⟨_, results_tmp rfl _ _ _, hG.trans (putObj_below (by omega) hG.size), _, rfl, ?_⟩
    exact ownsRow_putObj (own_less ho (by omega)) _ hK rfl
  case stop =>
    rintro D pre X hD hpre h
    exact h.elim

theorem tcollect_is (l : List No.Nt) (len cap : Nat) (A : Option Addr) (Bl : Nat) (hl : l.length = len) (hmax : len ≤ 1000000) (w : World) (hB : Bl < w.heap.size) (hBl : w.cell? ⟨Bl, 0, none⟩ = some (.slice A len cap)) (hL : SlO w A l) :
    Calls Tryz.prog 96 #[.func (.func 98) #[] #[.pointer (some ⟨Bl, 0, none⟩)]] w fun e w' => Below w.heap.size w w' ∧ ∃ v, e = .returned v ∧ w'.ownsRow w.heap.size 51 12 v len (vO l) := by
  have HN := Lib.hid hl
  have HL := Lib.hid hL
  clear hl hL
  go_enter Tryz.func96, Tryz.ntmps96
  go_wp2_with fail
  refine (tappendseq_is l len cap A Bl HN.out hmax _ hB hBl HL.out).mono ?_; rintro e w1 ⟨hb, v, rfl, ho⟩
  go_wp2_with fail
  go_ret
  exact ⟨hb, v, rfl, ho⟩

set_option maxHeartbeats 800000 in
theorem tsorted_is (bs : List Mt.B) (hval : Mt.Val bs) (l : List No.Nt) (hok : ∀ n ∈ l, No.okN bs n) (hid : l.Pairwise fun a b => a.id ≠ b.id) (len cap : Nat) (A : Option Addr) (Bl : Nat) (hl : l.length = len) (hmax : len ≤ 1000000) (w : World) (hBl : w.cell? ⟨Bl, 0, none⟩ = some (.slice A len cap)) (hL : SlO w A l)
    (Bk Bs Bi Bm m : Nat) (D : DataW Unit) (hO : OrdW bs w Bk Bs Bi Bm m D) :
    Calls Tryz.prog 79 #[.func (.func 98) #[] #[.pointer (some ⟨Bl, 0, none⟩)], .func (.func 107) #[] #[.pointer (some ⟨Bk, 0, none⟩)]] w fun e w' => Below w.heap.size w w' ∧ ∃ D c, e = .returned (.slice D len c) ∧ SlO w' D (No.srt (No.lt bs) l) ∧ (D = none → c = 0) ∧ len ≤ c := by
  have HN := Lib.hid hl
  have HL := Lib.hid hL
  have HV := Lib.hid hval
  have HOK := Lib.hid hok
  have HID := Lib.hid hid
  have HO := Lib.hid hO
  have hB := World.block_lt_of_cell? _ _ hBl
  clear hl hL hval hok hid hO
  go_enter Tryz.func79, Tryz.ntmps79
  go_wp2_with fail
  refine (tcollect_is l len cap A Bl HN.out hmax _ hB hBl HL.out).mono ?_; rintro e w1 ⟨hb, v, rfl, ho⟩
  obtain ⟨-, C, c, rfl, -, hC⟩ := own_o ho
  have hcc := own_cap ho
  have hlt : ∀ p v, w.cell? p = some v → p.block < w.heap.size := fun p v h => World.block_lt_of_cell? _ _ h
  have k1 := hlt _ _ HO.out.k
  have k2 := hlt _ _ HO.out.s0
  have k3 := hlt _ _ HO.out.i
  have k4 := HO.out.own.lt
  have k5 := HO.out.glob.lt
  have HSH := Lib.hid (own_shape ho)
  have HOW := Lib.hid ho
  clear hlt ho
  go_wp2_with fail
  refine (tsort_is bs HV.out l HOK.out HID.out (by rw [HN.out]; exact hmax) w.heap.size 51 C len c w1 HOW.out hb.size Bk Bs Bi Bm m D (HO.out.below hb) (fun g hg => by
    rcases HSH.out with ⟨h1, _⟩ | ⟨g2, h1, h2, _⟩
    · rw [hg] at h1; cases h1
    · rw [hg] at h1; cases h1; omega)).mono ?_; rintro e w2 ⟨rfl, hs, hb2⟩
  go_wp2_with fail
  go_ret
  exact ⟨hb.trans hb2, C, c, rfl, hs, hC, hcc⟩

set_option maxHeartbeats 800000 in
theorem tvalues_is (A : Option Addr) (len cap : Nat) (w : World) :
    Calls Tryz.prog 80 #[.slice A len cap] w fun e w' => e = .returned (.func (.func 98) #[] #[.pointer (some ⟨w.heap.size, 0, none⟩)]) ∧ w' = w.alloc (.cells #[.slice A len cap] 24) := by
  go_enter Tryz.func80, Tryz.ntmps80
  go_wp2_with fail
  go_ret
  exact ⟨rfl, rfl⟩

set_option maxHeartbeats 1600000 in
theorem tnsort_is (bs : List Mt.B) (l : List No.Nt) (f : Bool) (blen bcap len cap : Nat) (B A : Option Addr) (h : f = true ↔ No.Val bs l) (hbl : bs.length = blen) (hl : l.length = len) (hwb : Mt.Wf bs) (hwn : No.Wf l) (w : World) (hB : SlB w B bs) (hL : SlO w A l) (hG : Glob w) :
    Calls Tryz.prog 56 #[.slice B blen bcap, .slice A len cap] w fun e w' => Below w.heap.size w w' ∧ ((f = false ∧ e = .returned (.tuple #[.slice none 0 0, .int .i64 1])) ∨ f = true ∧ ∃ D c, e = .returned (.tuple #[.slice D len c, .int .i64 0]) ∧ SlO w' D (No.srt (No.lt bs) l) ∧ (D = none → c = 0) ∧ len ≤ c) := by
  have HF := Lib.hid h
  have HBL := Lib.hid hbl
  have HN := Lib.hid hl
  have HWB := Lib.hid hwb
  have HWN := Lib.hid hwn
  have HB := Lib.hid hB
  have HL := Lib.hid hL
  have HG := Lib.hid hG
  clear h hbl hl hwb hwn hB hL hG
  cases f with
  | false =>
    have HNV : Hid (¬ No.Val bs l) := Lib.hid (fun hv => by first | exact absurd (HF.out.2 hv) (by decide) | exact (HF.out.2 hv).elim)
    clear HF
    go_enter Tryz.func56, Tryz.ntmps56
    go_wp2_with fail
    refine (tvalid_is bs l false blen bcap len cap B A ⟨fun h => absurd h (by decide), fun h => absurd h HNV.out⟩ HBL.out HN.out HWB.out HWN.out _ HB.out HL.out).mono ?_; rintro e w1 ⟨rfl, hb⟩
    go_wp2_with fail
    go_ret2
    exact ⟨hb, .inl ⟨by trivial, rfl⟩⟩
  | true =>
    have HVV : Hid (No.Val bs l) := Lib.hid (by first | exact HF.out.1 rfl | exact HF.out.1 trivial)
    clear HF
    go_enter Tryz.func56, Tryz.ntmps56
    go_wp2_with fail
    refine (tvalid_is bs l true blen bcap len cap B A ⟨fun _ => HVV.out, fun _ => rfl⟩ HBL.out HN.out HWB.out HWN.out _ HB.out HL.out).mono ?_; rintro e w1 ⟨rfl, hb⟩
    have HB1 := Lib.hid (HB.out.below hb)
    have HL1 := Lib.hid (HL.out.below hb)
    have HG1 := Lib.hid (HG.out.below hb)
    go_wp2_with fail
    refine (tvalues_is A len cap _).mono ?_; rintro e w2 ⟨rfl, rfl⟩
    have cb := (new1 w1 (.slice A len cap) 24).1
    have b2 := (Below.refl w1.heap.size w1).alloc (Nat.le_refl _) (.cells #[.slice A len cap] 24)
    go_wp2_with fail
    refine (torder_is bs blen bcap B HBL.out HVV.out.1 _ (HB1.out.alloc _) (HG1.out.alloc _)).mono ?_; rintro e w3 ⟨hb3, Bk, Bs, Bi, Bm, D, rfl, hO, -, -, -, -⟩
    have c3 := keep_cell cb hb3
    have b3 := b2.trans (hb3.mono b2.size)
    have HO := Lib.hid hO
    clear hO cb hb3
    go_wp2_with fail
    refine (tsorted_is bs HVV.out.1 l HVV.out.2.2.1 HVV.out.2.2.2 len cap A w1.heap.size HN.out (by have := HVV.out.2.1; rw [HN.out] at this; omega) w3 c3 (HL1.out.below b3) Bk Bs Bi Bm blen D HO.out).mono ?_; rintro e w4 ⟨hb4, E, c, rfl, hs, hE, hcc⟩
    go_wp2_with fail
    go_ret2
    exact ⟨hb.trans ((b3.trans (hb4.mono b3.size)).mono hb.size), .inr ⟨by trivial, E, c, rfl, hs, hE, hcc⟩⟩
end Go.Proofs.YtbbjifhelbeniaaGreatDoor
