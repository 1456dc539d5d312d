import Derived.Test.YtbbjifhelbeniaaGreatDoorGD
import Derived.Test.YtbbjifhelbeniaaGreatDoorGG
import Derived.Laws.OwnMore
import Derived.Shelf.SlSortCmp.WholeK
import Derived.Test.YtbbjifhelbeniaaGreatDoorGH
import Derived.Test.YtbbjifhelbeniaaGreatDoorGE
import Derived.Shelf.Abstract
/- A comparison by keys; what a sort by it leaves in memory is what sorting by insertion gives. -/
namespace Go.Proofs.YtbbjifhelbeniaaGreatDoor
open Go.RowKit

namespace No
def cmpk : List Int → List Int → Int
  | x :: xs, y :: ys => if x = y then cmpk xs ys else if x < y then -1 else 1
  | _, _ => 0
theorem cmpk_neg : ∀ (a b : List Int), decide (cmpk a b < 0) = ltk a b
  | [], _ => by simp [cmpk, ltk]
  | _ :: _, [] => by simp [cmpk, ltk]
  | x :: xs, y :: ys => by
    unfold cmpk ltk
    by_cases e : x = y
    · rw [if_pos e, if_pos e]; exact cmpk_neg xs ys
    · rw [if_neg e, if_neg e]
      by_cases h : x < y
      · rw [if_pos h]; simp [h]
      · rw [if_neg h]; simp [h]
abbrev In (l : List Nt) := { n : Nt // n ∈ l }
def cfN (bs : List Mt.B) (l : List Nt) (x y : In l) : Int := cmpk (key bs x.1) (key bs y.1)
theorem cfN_lt (bs : List Mt.B) (l : List Nt) (x y : In l) : ltOf (cfN bs l) x y = lt bs x.1 y.1 := cmpk_neg _ _
theorem swoN (bs : List Mt.B) (l : List Nt) : Go.Sort.SWO (ltOf (cfN bs l)) where
  irrefl x := by rw [cfN_lt]; exact ltk_irrefl _
  trans x y z h1 h2 := by rw [cfN_lt] at *; exact ltk_trans h1 h2
  ntrans x y z h1 h2 := by
    rw [cfN_lt] at *
    unfold lt at *
    cases h : ltk (key bs x.1) (key bs z.1) with
    | false => rfl
    | true =>
      by_cases e : key bs x.1 = key bs y.1
      · rw [e] at h; rw [h] at h2; exact h2
      · rcases ltk_total (show (key bs x.1).length = (key bs y.1).length from rfl) e with k | k
        · rw [k] at h1; exact h1
        · rw [ltk_trans k h] at h2; exact h2

def encN {l : List Nt} (x : In l) : List Value := rowO x.1
theorem vals_attach (l : List Nt) : (l.attach.toArray).toList.map Subtype.val = l := by simp
theorem sorted_is {bs : List Mt.B} {l : List Nt} [Inhabited (In l)] (hl : l.Pairwise fun a b => a.id ≠ b.id) {d' : Array (In l)} (hp : Go.Sort.PermIn 0 l.attach.toArray.size l.attach.toArray d') (hs : Go.Sort.SortedIn (ltOf (cfN bs l)) 0 l.attach.toArray.size d') :
    d'.toList.map Subtype.val = srt (lt bs) l := by
  obtain ⟨hz, _, hpm⟩ := hp
  have e1 : d'.extract 0 l.attach.toArray.size = d' := by rw [← hz]; exact Array.extract_size
  rw [e1, Array.extract_size] at hpm
  have hperm : (d'.toList.map Subtype.val).Perm l := by
    have := hpm.map Subtype.val
    rwa [vals_attach] at this
  have hdist : (d'.toList.map Subtype.val).Pairwise fun a b => a.id ≠ b.id := (hperm.pairwise_iff (fun h => Ne.symm h)).2 hl
  have hp2 : (d'.toList.map Subtype.val).Pairwise fun a b => lt bs a b = true := by
    have h1 := lt_differ (bs := bs) hdist
    rw [List.pairwise_iff_getElem] at h1 ⊢
    intro i j hi hj hij
    have hj' : j < d'.size := by simpa using hj
    have hi' : i < d'.size := by simpa using hi
    have h2 := hs i j (Nat.zero_le _) hij (by rw [← hz]; exact hj')
    rw [cfN_lt, getElem!_pos d' j hj', getElem!_pos d' i hi'] at h2
    rcases h1 i j hi hj hij with h | h
    · exact h
    · simp only [List.getElem_map, Array.getElem_toList] at h
      rw [h2] at h; cases h
  exact uniq (lt_asymm bs) (hperm.trans (srt_perm l).symm) hp2 (srt_sorted (lt_trans bs) (lt_differ hl))
end No

/-- What lies elsewhere, in a world of the sort's. -/
theorem heap_sortWorldK {α : Type} [Inhabited α] (enc : α → List Value) (k : Nat) (w : World) (blk off m : Nat) (dk : Array α) (os : Array Obj) (i : Nat) (hi : i < w.heap.size) (hne : i ≠ blk) :
    (sortWorldK enc k w blk off m dk os).heap[i]? = w.heap[i]? := by
  unfold sortWorldK Go.Sort.putRowK Go.Sort.putRow Go.Sort.mapBlock Go.Sort.ahead Go.Sort.grow
  simp only
  rw [Array.getElem?_append, if_pos (by simpa using hi), Array.getElem?_modify, if_neg (Ne.symm hne)]
theorem size_sortWorldK {α : Type} [Inhabited α] (enc : α → List Value) (k : Nat) (w : World) (blk off m : Nat) (dk : Array α) (os : Array Obj) :
    w.heap.size ≤ (sortWorldK enc k w blk off m dk os).heap.size := by
  unfold sortWorldK Go.Sort.putRowK Go.Sort.putRow Go.Sort.mapBlock Go.Sort.ahead Go.Sort.grow
  simp
theorem below_sortWorldK {α : Type} [Inhabited α] (enc : α → List Value) (k : Nat) (w : World) (blk off m : Nat) (dk : Array α) (os : Array Obj) (B : Nat) (hB : B ≤ blk) (hw : B ≤ w.heap.size) :
    Below B w (sortWorldK enc k w blk off m dk os) :=
  ⟨rfl, rfl, rfl, size_sortWorldK enc k w blk off m dk os, fun i hi => heap_sortWorldK enc k w blk off m dk os i (by omega) (by omega)⟩

/-- A row of notes of the call's own, as the sort wants it. -/
theorem holds_of_own {w : World} {base : Nat} {e : TypeId} {g n cap : Nat} {l : List No.Nt} [Inhabited (No.In l)] (h : w.ownsRow base e 12 (.slice (some ⟨g, 0, none⟩) n cap) n (vO l)) :
    Go.Sort.HoldsK (α := No.In l) No.encN 12 w g 0 l.attach.toArray := by
  obtain ⟨hn, -⟩ := own_o h
  intro j hj
  rw [Go.Sort.size_flatK] at hj
  have hsz : l.attach.toArray.size = n := by simp [hn]
  rw [hsz] at hj
  refine ⟨?_, by have := h.frozenAt (0 + j); exact this⟩
  rw [Go.Sort.get_flatK _ _ _ _ (by rw [hsz]; exact hj), Nat.zero_add, h.cellAt j hj]
  have h1 : j / 12 < l.length := by omega
  have h2 := vO_at (l := l) (k := j / 12) (j := j % 12) h1 (Nat.mod_lt _ (by omega))
  rw [show j / 12 * 12 + j % 12 = j by omega] at h2
  rw [h2]
  have h3 : j / 12 < l.attach.toArray.size := by rw [hsz]; omega
  rw [getElem!_pos l.attach.toArray (j / 12) h3]
  have h4 : No.encN (l.attach.toArray[j / 12]) = rowO (atO l (j / 12)) := by
    unfold No.encN
    rw [atO_eq h1]
    simp
  rw [h4, getElem!_pos (rowO _) (j % 12) (by rw [rowO_length]; exact Nat.mod_lt _ (by omega)), List.getElem?_eq_getElem (by rw [rowO_length]; exact Nat.mod_lt _ (by omega))]
  rfl

/-- The sorted row. -/
theorem slo_sorted {w : World} {g m : Nat} {l : List No.Nt} [Inhabited (No.In l)] {d d' : Array (No.In l)} {os : Array Obj} (hH : Go.Sort.HoldsK (α := No.In l) No.encN 12 w g 0 d) (hg : g < w.heap.size) (hs : d'.size = d.size) :
    SlO (sortWorldK No.encN 12 w g 0 m d' os) (some ⟨g, 0, none⟩) (d'.toList.map Subtype.val) := fun h0 => by
  have hk : ∀ x : No.In l, (No.encN x).length = 12 := fun x => rowO_length _
  have H := holdsK_sortWorldK_c No.encN 12 w g 0 d d' m os hH hg hs
  refine ⟨g, 0, rfl, Nat.lt_of_lt_of_le hg (size_sortWorldK ..), fun k hk' => NtAt.of fun j u hj => ?_⟩
  have hk2 : k < d'.size := by simpa using hk'
  have := Go.Proofs.HoldsK.cells H hk hk2 j u (by
    rw [getElem!_pos d' k hk2]
    have : atO (d'.toList.map Subtype.val) k = d'[k].1 := by rw [atO_eq hk']; simp
    rw [← hj, this]; rfl)
  simpa [Addr.add_lit] using this
end Go.Proofs.YtbbjifhelbeniaaGreatDoor

/- The walks of notes' order: the functions that say by what notes are ordered, and the comparison. -/
namespace Go.Proofs.YtbbjifhelbeniaaGreatDoor
open Go.RowKit Go.Maps

set_option maxHeartbeats 400000 in
theorem tnan_is (x : Int) (w : World) : Calls Tryz.prog 120 #[.int .i64 x] w fun e w' => e = .returned (.bool false) ∧ w = w' := by
  go_enter Tryz.func120, Tryz.ntmps120
  go_wp2_with fail
  go_ret
  exact ⟨by simp, rfl⟩

namespace No
def cmp1 (x y : Int) : Int := if x = y then 0 else if x < y then -1 else 1
theorem cmpk_at : ∀ (i : Nat) {a b : List Int}, a.length = b.length → i < a.length → (∀ j, j < i → a.getD j 0 = b.getD j 0) → a.getD i 0 ≠ b.getD i 0 → cmpk a b = cmp1 (a.getD i 0) (b.getD i 0)
  | 0, x :: a, y :: b, _, _, _, h => by
    simp only [List.getD_cons_zero] at h ⊢
    unfold cmpk cmp1
    rw [if_neg h, if_neg h]
  | i + 1, x :: a, y :: b, hl, hi, he, h => by
    have h0 := he 0 (by omega)
    simp only [List.getD_cons_zero] at h0
    simp only [List.getD_cons_succ] at h ⊢
    unfold cmpk
    rw [if_pos h0]
    exact cmpk_at i (by simpa using hl) (by simpa using hi) (fun j hj => by simpa using he (j + 1) (by omega)) h
theorem cmpk_same : ∀ {a b : List Int}, a.length = b.length → (∀ j, j < a.length → a.getD j 0 = b.getD j 0) → cmpk a b = 0
  | [], [], _, _ => rfl
  | x :: a, y :: b, hl, he => by
    have h0 := he 0 (by simp)
    simp only [List.getD_cons_zero] at h0
    unfold cmpk
    rw [if_pos h0]
    exact cmpk_same (by simpa using hl) (fun j hj => by simpa using he (j + 1) (by simp; omega))
end No

set_option maxHeartbeats 800000 in
theorem tcmp_is (x y v : Int) (h : No.cmp1 x y = v) (w : World) :
    Calls Tryz.prog 108 #[.int .i64 x, .int .i64 y] w fun e w' => e = .returned (.int .i64 v) ∧ w = w' := by
  unfold No.cmp1 at h
  by_cases h1 : x = y
  · rw [if_pos h1] at h
    subst h h1
    have h2 : ¬ x < x := by omega
    have h3 : ¬ x > x := by omega
    go_enter Tryz.func108, Tryz.ntmps108
    go_wp2_with (first | (go_at_call 120; refine (tnan_is _ _).mono ?_; rintro e w2 ⟨rfl, rfl⟩) | fail)
    go_ret
    exact ⟨rfl, rfl⟩
  · rw [if_neg h1] at h
    by_cases h2 : x < y
    · rw [if_pos h2] at h
      subst h
      go_enter Tryz.func108, Tryz.ntmps108
      go_wp2_with (first | (go_at_call 120; refine (tnan_is _ _).mono ?_; rintro e w2 ⟨rfl, rfl⟩) | fail)
      go_ret
      exact ⟨rfl, rfl⟩
    · rw [if_neg h2] at h
      subst h
      have h3 : x > y := by omega
      go_enter Tryz.func108, Tryz.ntmps108
      go_wp2_with (first | (go_at_call 120; refine (tnan_is _ _).mono ?_; rintro e w2 ⟨rfl, rfl⟩) | fail)
      go_ret
      exact ⟨rfl, rfl⟩

set_option maxHeartbeats 400000 in
theorem tnumber_is (s a o N : Int) (hN : 12 * o + No.nat7 s + a = N) (hn : No.isN s a o) (w : World) (hG : Glob w) :
    Calls Tryz.prog 105 #[.agg #[.int .i64 s, .int .i64 a, .int .i64 o]] w fun e w' => e = .returned (.int .i64 N) ∧ BelowD w.heap.size w w' := by
  have G0 := (BelowD.refl w.heap.size w).alloc (Nat.le_refl _) (.cells #[.int .i64 s, .int .i64 a, .int .i64 o] 47)
  have HN := Lib.hid hN
  have HI := Lib.hid hn
  have HG := Lib.hid (hG.alloc (.cells #[.int .i64 s, .int .i64 a, .int .i64 o] 47))
  have A := At3.new w s a o 47
  obtain ⟨a0, a1, a2⟩ := And.intro A.c0 (And.intro A.c1 A.c2)
  clear hN hn hG A
  go_enter Tryz.func105, Tryz.ntmps105
  go_wp2_with fail
  refine (pnum_is s a o N HN.out HI.out _ HG.out).mono ?_; rintro e w2 ⟨rfl, hb⟩
  have G1 := G0.trans (hb.mono G0.size)
  clear hb a0 a1 a2
  go_wp2_with fail
  go_ret
  exact ⟨rfl, G1⟩

set_option maxHeartbeats 400000 in
theorem tkey2_is (n : No.Nt) (w : World) :
    Calls Tryz.prog 100 #[.agg #[.int .i64 n.id, .int .i64 n.pa, .int .i64 n.ba, .int .i64 n.vo, .int .i64 n.os, .int .i64 n.sn, .int .i64 n.sd, .int .i64 n.ln, .int .i64 n.ld, .int .i64 n.st, .int .i64 n.al, .int .i64 n.oc]] w fun e w' => e = .returned (.int .i64 n.pa) ∧ BelowD w.heap.size w w' := by
  have G0 := (BelowD.refl w.heap.size w).alloc (Nat.le_refl _) (.cells #[.int .i64 n.id, .int .i64 n.pa, .int .i64 n.ba, .int .i64 n.vo, .int .i64 n.os, .int .i64 n.sn, .int .i64 n.sd, .int .i64 n.ln, .int .i64 n.ld, .int .i64 n.st, .int .i64 n.al, .int .i64 n.oc] 51)
  have c := (NtB.new w n).c1
  go_enter Tryz.func100, Tryz.ntmps100
  go_wp2_with fail
  go_ret
  exact ⟨rfl, G0⟩

set_option maxHeartbeats 400000 in
theorem tkey4_is (n : No.Nt) (w : World) :
    Calls Tryz.prog 103 #[.agg #[.int .i64 n.id, .int .i64 n.pa, .int .i64 n.ba, .int .i64 n.vo, .int .i64 n.os, .int .i64 n.sn, .int .i64 n.sd, .int .i64 n.ln, .int .i64 n.ld, .int .i64 n.st, .int .i64 n.al, .int .i64 n.oc]] w fun e w' => e = .returned (.int .i64 n.vo) ∧ BelowD w.heap.size w w' := by
  have G0 := (BelowD.refl w.heap.size w).alloc (Nat.le_refl _) (.cells #[.int .i64 n.id, .int .i64 n.pa, .int .i64 n.ba, .int .i64 n.vo, .int .i64 n.os, .int .i64 n.sn, .int .i64 n.sd, .int .i64 n.ln, .int .i64 n.ld, .int .i64 n.st, .int .i64 n.al, .int .i64 n.oc] 51)
  have c := (NtB.new w n).c3
  go_enter Tryz.func103, Tryz.ntmps103
  go_wp2_with fail
  go_ret
  exact ⟨rfl, G0⟩

set_option maxHeartbeats 400000 in
theorem tkey6_is (n : No.Nt) (w : World) :
    Calls Tryz.prog 106 #[.agg #[.int .i64 n.id, .int .i64 n.pa, .int .i64 n.ba, .int .i64 n.vo, .int .i64 n.os, .int .i64 n.sn, .int .i64 n.sd, .int .i64 n.ln, .int .i64 n.ld, .int .i64 n.st, .int .i64 n.al, .int .i64 n.oc]] w fun e w' => e = .returned (.int .i64 n.id) ∧ BelowD w.heap.size w w' := by
  have G0 := (BelowD.refl w.heap.size w).alloc (Nat.le_refl _) (.cells #[.int .i64 n.id, .int .i64 n.pa, .int .i64 n.ba, .int .i64 n.vo, .int .i64 n.os, .int .i64 n.sn, .int .i64 n.sd, .int .i64 n.ln, .int .i64 n.ld, .int .i64 n.st, .int .i64 n.al, .int .i64 n.oc] 51)
  have c := (NtB.new w n).c0
  go_enter Tryz.func106, Tryz.ntmps106
  go_wp2_with fail
  go_ret
  exact ⟨rfl, G0⟩

set_option maxHeartbeats 400000 in
theorem tkey1_is (n : No.Nt) (r : Int) (Bi Bm m : Nat) (D : DataW Unit) (hwf : (Lit.int .i64 n.ba).wf = true) (hr : D.atKey (.int .i64 n.ba) (.lit (.int .i64 0)) = .lit (.int .i64 r)) (w : World) (hBi : w.cell? ⟨Bi, 0, none⟩ = some (.map (some Bm))) (hown : w.ownsMap Tryz.prog 3 (plainElem Tryz.prog 3) Bm m D) :
    Calls Tryz.prog 99 #[.agg #[.int .i64 n.id, .int .i64 n.pa, .int .i64 n.ba, .int .i64 n.vo, .int .i64 n.os, .int .i64 n.sn, .int .i64 n.sd, .int .i64 n.ln, .int .i64 n.ld, .int .i64 n.st, .int .i64 n.al, .int .i64 n.oc], .pointer (some ⟨Bi, 0, none⟩)] w fun e w' => e = .returned (.int .i64 r) ∧ BelowD w.heap.size w w' := by
  have G0 := (BelowD.refl w.heap.size w).alloc (Nat.le_refl _) (.cells #[.int .i64 n.id, .int .i64 n.pa, .int .i64 n.ba, .int .i64 n.vo, .int .i64 n.os, .int .i64 n.sn, .int .i64 n.sd, .int .i64 n.ln, .int .i64 n.ld, .int .i64 n.st, .int .i64 n.al, .int .i64 n.oc] 51)
  have c := (NtB.new w n).c2
  have d := keep_alloc hBi (.cells #[.int .i64 n.id, .int .i64 n.pa, .int .i64 n.ba, .int .i64 n.vo, .int .i64 n.os, .int .i64 n.sn, .int .i64 n.sd, .int .i64 n.ln, .int .i64 n.ld, .int .i64 n.st, .int .i64 n.al, .int .i64 n.oc] 51)
  have hkey : keyOf Tryz.prog 3 (.int .i64 n.ba) = some (.int .i64 n.ba) := keyOf_int_mk Tryz.underlying3 hwf
  have hown2 := hown.alloc (.cells #[.int .i64 n.id, .int .i64 n.pa, .int .i64 n.ba, .int .i64 n.vo, .int .i64 n.os, .int .i64 n.sn, .int .i64 n.sd, .int .i64 n.ln, .int .i64 n.ld, .int .i64 n.st, .int .i64 n.al, .int .i64 n.oc] 51)
  clear hwf hBi
  go_enter Tryz.func99, Tryz.ntmps99
  go_wp2_with (first | (at_lookup; refine look_int _ rfl _ _ 119 rfl 3 3 mapK Tryz.underlying119 Tryz.underlying3 (Tryz.zeroValue3 _) Bm m D rfl hown2 _ _ rfl hkey r hr ?_) | fail)
  go_ret
  exact ⟨rfl, G0⟩

set_option maxHeartbeats 400000 in
theorem tkey3_is (n : No.Nt) (t : Int) (ht : No.start n = t) (h0 : 0 ≤ t) (w : World) :
    Calls Tryz.prog 101 #[.agg #[.int .i64 n.id, .int .i64 n.pa, .int .i64 n.ba, .int .i64 n.vo, .int .i64 n.os, .int .i64 n.sn, .int .i64 n.sd, .int .i64 n.ln, .int .i64 n.ld, .int .i64 n.st, .int .i64 n.al, .int .i64 n.oc]] w fun e w' => e = .returned (.int .i64 t) ∧ BelowD w.heap.size w w' := by
  have G0 := (BelowD.refl w.heap.size w).alloc (Nat.le_refl _) (.cells #[.int .i64 n.id, .int .i64 n.pa, .int .i64 n.ba, .int .i64 n.vo, .int .i64 n.os, .int .i64 n.sn, .int .i64 n.sd, .int .i64 n.ln, .int .i64 n.ld, .int .i64 n.st, .int .i64 n.al, .int .i64 n.oc] 51)
  have c := (NtB.new w n).c5
  have d := (NtB.new w n).c6
  have HT : Hid (Mt.tk n.sn n.sd = t) := Lib.hid ht
  clear ht
  go_enter Tryz.func101, Tryz.ntmps101
  go_wp2_with fail
  refine (dunits_is n.sn n.sd t HT.out h0 _).mono ?_; rintro e w2 ⟨rfl, hb⟩
  have G1 := G0.trans (hb.mono G0.size)
  clear hb c d
  go_wp2_with fail
  go_ret
  exact ⟨rfl, G1⟩

set_option maxHeartbeats 400000 in
theorem tkey5_is (n : No.Nt) (s : Int) (hs : No.snd n = s) (hn : No.isN n.st n.al n.oc) (w : World) (hG : Glob w) :
    Calls Tryz.prog 104 #[.agg #[.int .i64 n.id, .int .i64 n.pa, .int .i64 n.ba, .int .i64 n.vo, .int .i64 n.os, .int .i64 n.sn, .int .i64 n.sd, .int .i64 n.ln, .int .i64 n.ld, .int .i64 n.st, .int .i64 n.al, .int .i64 n.oc]] w fun e w' => e = .returned (.int .i64 s) ∧ BelowD w.heap.size w w' := by
  have G0 := (BelowD.refl w.heap.size w).alloc (Nat.le_refl _) (.cells #[.int .i64 n.id, .int .i64 n.pa, .int .i64 n.ba, .int .i64 n.vo, .int .i64 n.os, .int .i64 n.sn, .int .i64 n.sd, .int .i64 n.ln, .int .i64 n.ld, .int .i64 n.st, .int .i64 n.al, .int .i64 n.oc] 51)
  have A := NtB.new w n
  obtain ⟨a, b, c⟩ := And.intro A.c9 (And.intro A.c10 A.c11)
  have HS : Hid (12 * n.oc + No.nat7 n.st + n.al = s) := Lib.hid hs
  have HI := Lib.hid hn
  have HG := Lib.hid (hG.alloc (.cells #[.int .i64 n.id, .int .i64 n.pa, .int .i64 n.ba, .int .i64 n.vo, .int .i64 n.os, .int .i64 n.sn, .int .i64 n.sd, .int .i64 n.ln, .int .i64 n.ld, .int .i64 n.st, .int .i64 n.al, .int .i64 n.oc] 51))
  clear hs hn hG A
  go_enter Tryz.func104, Tryz.ntmps104
  go_wp2_with fail
  refine (tnumber_is n.st n.al n.oc s HS.out HI.out _ HG.out).mono ?_; rintro e w2 ⟨rfl, hb⟩
  have G1 := G0.trans (hb.mono G0.size)
  clear hb a b c
  go_wp2_with fail
  go_ret
  exact ⟨rfl, G1⟩

/-- What the function that compares notes reads. -/
structure OrdW (bs : List Mt.B) (W : World) (Bk Bs Bi Bm m : Nat) (D : DataW Unit) : Prop where
  k : W.cell? ⟨Bk, 0, none⟩ = some (.slice (some ⟨Bs, 0, none⟩) 6 6)
  s0 : W.cell? ⟨Bs, 0, none⟩ = some (.func (.func 99) #[] #[.pointer (some ⟨Bi, 0, none⟩)])
  s1 : W.cell? ⟨Bs, 1, none⟩ = some (.func (.func 100) #[] #[])
  s2 : W.cell? ⟨Bs, 2, none⟩ = some (.func (.func 101) #[] #[])
  s3 : W.cell? ⟨Bs, 3, none⟩ = some (.func (.func 103) #[] #[])
  s4 : W.cell? ⟨Bs, 4, none⟩ = some (.func (.func 104) #[] #[])
  s5 : W.cell? ⟨Bs, 5, none⟩ = some (.func (.func 106) #[] #[])
  i : W.cell? ⟨Bi, 0, none⟩ = some (.map (some Bm))
  own : W.ownsMap Tryz.prog 3 (plainElem Tryz.prog 3) Bm m D
  idx : No.Idx bs D
  glob : Glob W
theorem OrdW.below {bs : List Mt.B} {W W' : World} {Bk Bs Bi Bm m : Nat} {D : DataW Unit} (h : OrdW bs W Bk Bs Bi Bm m D) (hb : Below W.heap.size W W') : OrdW bs W' Bk Bs Bi Bm m D :=
  ⟨keep_cell h.k hb, keep_cell h.s0 hb, keep_cell h.s1 hb, keep_cell h.s2 hb, keep_cell h.s3 hb, keep_cell h.s4 hb, keep_cell h.s5 hb, keep_cell h.i hb, h.own.kept (below_grown' hb) (by simp), h.idx, h.glob.below hb⟩
theorem OrdW.row {bs : List Mt.B} {W W' : World} {Bk Bs Bi Bm m g : Nat} {D : DataW Unit} (h : OrdW bs W Bk Bs Bi Bm m D) (hg : W.grownBy W' (some g)) (h1 : Bk ≠ g) (h2 : Bs ≠ g) (h3 : Bi ≠ g) (h4 : Bm ≠ g) (h5 : 0 ≠ g) : OrdW bs W' Bk Bs Bi Bm m D := by
  have hc : ∀ (p : Addr) (v : Value), p.block ≠ g → W.cell? p = some v → W'.cell? p = some v := fun p v hp hv =>
    (World.cell?_of_block (w := W) (w' := W') (a := p) (hg.block p.block (World.block_lt_of_cell? _ _ hv) (fun e => hp (Option.some.inj e)))).trans hv
  exact ⟨hc _ _ h1 h.k, hc _ _ h2 h.s0, hc _ _ h2 h.s1, hc _ _ h2 h.s2, hc _ _ h2 h.s3, hc _ _ h2 h.s4, hc _ _ h2 h.s5, hc _ _ h3 h.i, h.own.kept hg (fun e => h4 (Option.some.inj e)), h.idx, Nat.lt_of_lt_of_le h.glob.lt hg.size, fun s a b => hc _ _ h5 (h.glob.nums s a b)⟩

/-- One of the functions that say by what notes are ordered. -/
theorem OrdW.fn {bs : List Mt.B} {W : World} {Bk Bs Bi Bm m : Nat} {D : DataW Unit} (h : OrdW bs W Bk Bs Bi Bm m D) (hval : Mt.Val bs) (j : Nat) (hj : j < 6) :
    ∃ (fid : Nat) (cap : Array Value), W.cell? ⟨Bs, j, none⟩ = some (.func (.func fid) #[] cap) ∧ (∀ args w, (callFunc fid args).run Tryz.prog w = .ok (.enter fid args) w) ∧
      ∀ (n : No.Nt) (v : Int), No.okN bs n → (No.key bs n).getD j 0 = v → ∀ W' : World, OrdW bs W' Bk Bs Bi Bm m D → Calls Tryz.prog fid (#[.agg #[.int .i64 n.id, .int .i64 n.pa, .int .i64 n.ba, .int .i64 n.vo, .int .i64 n.os, .int .i64 n.sn, .int .i64 n.sd, .int .i64 n.ln, .int .i64 n.ld, .int .i64 n.st, .int .i64 n.al, .int .i64 n.oc]] ++ cap) W' fun e w' => e = .returned (.int .i64 v) ∧ BelowD W'.heap.size W' w' := by
  match j, hj with
  | 0, _ =>
    refine ⟨_, _, h.s0, enters_of Tryz.func99 (by kernel_rfl) rfl, fun n v hn hv W' h' => ?_⟩
    have hb := No.bix_at hn.1
    have hlt := No.bix_lt bs n.ba
    have h0 := hn.1
    have hok := hval.2.2.1 (No.bix bs n.ba).toNat (by omega)
    have hwf : (Lit.int .i64 n.ba).wf = true := Mt.wf_id (by rw [← hb]; have := hok.1; omega) (by rw [← hb]; have := hok.2.1; omega)
    have e := (h'.idx n.ba hwf).2
    rw [if_pos h0] at e
    have hv' : No.bix bs n.ba = v := hv
    rw [hv'] at e
    exact tkey1_is n v Bi Bm m D hwf e W' h'.i h'.own
  | 1, _ => exact ⟨_, _, h.s1, enters_of Tryz.func100 (by kernel_rfl) rfl, fun n v _ hv W' _ => by have hv' : n.pa = v := hv; subst hv'; exact tkey2_is n W'⟩
  | 2, _ => exact ⟨_, _, h.s2, enters_of Tryz.func101 (by kernel_rfl) rfl, fun n v hn hv W' _ => by
      have h0 : 0 ≤ No.start n := hn.2.2.2.2.2.2.2.2.2.2.1
      have hv' : No.start n = v := hv
      exact tkey3_is n v hv' (by rw [← hv']; exact h0) W'⟩
  | 3, _ => exact ⟨_, _, h.s3, enters_of Tryz.func103 (by kernel_rfl) rfl, fun n v _ hv W' _ => by have hv' : n.vo = v := hv; subst hv'; exact tkey4_is n W'⟩
  | 4, _ => exact ⟨_, _, h.s4, enters_of Tryz.func104 (by kernel_rfl) rfl, fun n v hn hv W' h' => tkey5_is n v hv hn.2.1 W' h'.glob⟩
  | 5, _ => exact ⟨_, _, h.s5, enters_of Tryz.func106 (by kernel_rfl) rfl, fun n v _ hv W' _ => by have hv' : n.id = v := hv; subst hv'; exact tkey6_is n W'⟩
end Go.Proofs.YtbbjifhelbeniaaGreatDoor

/- The walks of the function that compares notes, and of notes' order. -/
namespace Go.Proofs.YtbbjifhelbeniaaGreatDoor
open Go.RowKit Go.Maps Go.Shelf

set_option maxHeartbeats 4000000 in
set_option maxRecDepth 100000 in
theorem tcompare_is (bs : List Mt.B) (hval : Mt.Val bs) (a b : No.Nt) (ha : No.okN bs a) (hb : No.okN bs b) (v : Int) (hv : No.cmpk (No.key bs a) (No.key bs b) = v) (Bk Bs Bi Bm m : Nat) (D : DataW Unit) (w : World) (hO : OrdW bs w Bk Bs Bi Bm m D) :
    Calls Tryz.prog 107 #[.agg #[.int .i64 a.id, .int .i64 a.pa, .int .i64 a.ba, .int .i64 a.vo, .int .i64 a.os, .int .i64 a.sn, .int .i64 a.sd, .int .i64 a.ln, .int .i64 a.ld, .int .i64 a.st, .int .i64 a.al, .int .i64 a.oc], .agg #[.int .i64 b.id, .int .i64 b.pa, .int .i64 b.ba, .int .i64 b.vo, .int .i64 b.os, .int .i64 b.sn, .int .i64 b.sd, .int .i64 b.ln, .int .i64 b.ld, .int .i64 b.st, .int .i64 b.al, .int .i64 b.oc], .pointer (some ⟨Bk, 0, none⟩)] w fun e w' => e = .returned (.int .i64 v) ∧ BelowD w.heap.size w w' := by
  have HV := Lib.hid hv
  have HVal := Lib.hid hval
  have HA := Lib.hid ha
  have HB := Lib.hid hb
  have G0 := ((BelowD.refl w.heap.size w).alloc (Nat.le_refl _) (.cells #[.int .i64 a.id, .int .i64 a.pa, .int .i64 a.ba, .int .i64 a.vo, .int .i64 a.os, .int .i64 a.sn, .int .i64 a.sd, .int .i64 a.ln, .int .i64 a.ld, .int .i64 a.st, .int .i64 a.al, .int .i64 a.oc] 51)).alloc (by simp) (.cells #[.int .i64 b.id, .int .i64 b.pa, .int .i64 b.ba, .int .i64 b.vo, .int .i64 b.os, .int .i64 b.sn, .int .i64 b.sd, .int .i64 b.ln, .int .i64 b.ld, .int .i64 b.st, .int .i64 b.al, .int .i64 b.oc] 51)
  have A0 := (NtB.new w a).alloc (.cells #[.int .i64 b.id, .int .i64 b.pa, .int .i64 b.ba, .int .i64 b.vo, .int .i64 b.os, .int .i64 b.sn, .int .i64 b.sd, .int .i64 b.ln, .int .i64 b.ld, .int .i64 b.st, .int .i64 b.al, .int .i64 b.oc] 51)
  have B0 := NtB.new (w.alloc (.cells #[.int .i64 a.id, .int .i64 a.pa, .int .i64 a.ba, .int .i64 a.vo, .int .i64 a.os, .int .i64 a.sn, .int .i64 a.sd, .int .i64 a.ln, .int .i64 a.ld, .int .i64 a.st, .int .i64 a.al, .int .i64 a.oc] 51)) b
  have O0 := hO.below ((G0.mono (Nat.le_refl _)).b)
  have hk0 := O0.k
  clear hv hval ha hb hO
  go_enter Tryz.func107, Tryz.ntmps107
  go_wp2_with fail
  obtain ⟨w1, hw1⟩ : ∃ w1, ((w.alloc (.cells #[.int .i64 a.id, .int .i64 a.pa, .int .i64 a.ba, .int .i64 a.vo, .int .i64 a.os, .int .i64 a.sn, .int .i64 a.sd, .int .i64 a.ln, .int .i64 a.ld, .int .i64 a.st, .int .i64 a.al, .int .i64 a.oc] 51)).alloc (.cells #[.int .i64 b.id, .int .i64 b.pa, .int .i64 b.ba, .int .i64 b.vo, .int .i64 b.os, .int .i64 b.sn, .int .i64 b.sd, .int .i64 b.ln, .int .i64 b.ld, .int .i64 b.st, .int .i64 b.al, .int .i64 b.oc] 51)) = w1 := ⟨_, rfl⟩
  rw [hw1] at G0 A0 B0 O0 hk0 ⊢
  simp only [World.size_alloc] at B0
  clear hw1 hk0
  go_loopw [11] (fun s11 wr => ∃ (i : Nat) (q : Int), i ≤ 6 ∧ q = i ∧ s11 = .int .i64 q ∧ Hid (∀ j, j < i → (No.key bs a).getD j 0 = (No.key bs b).getD j 0) ∧ BelowD w.heap.size w wr ∧ NtB wr w.heap.size a ∧ NtB wr (w.heap.size + 1) b ∧ OrdW bs wr Bk Bs Bi Bm m D) (fun s11 _ => 6 - (intOf s11).toNat)
  case atStart => exact ⟨0, 0, Nat.zero_le _, rfl, rfl, Lib.hid (fun j hj => absurd hj (Nat.not_lt_zero _)), G0, A0, B0, O0⟩
  case round =>
    clear G0 A0 B0 O0
    obtain ⟨i, q, hi, hq, rfl, HE, G, A0, B0, O⟩ := hrel
    by_cases hlt : i < 6
    · obtain ⟨fid, cap, hs, eg, hcall⟩ := O.fn HVal.out i hlt
      obtain ⟨x, hx⟩ : ∃ x, (No.key bs a).getD i 0 = x := ⟨_, rfl⟩
      obtain ⟨y, hy⟩ : ∃ y, (No.key bs b).getD i 0 = y := ⟨_, rfl⟩
      obtain ⟨z, hz⟩ : ∃ z, No.cmp1 x y = z := ⟨_, rfl⟩
      have ca := fun (u : ExtD wr) => hcall a x HA.out hx u.w (O.below u.h.b)
      have cb := fun (u : ExtD wr) => hcall b y HB.out hy u.w (O.below u.h.b)
      have HX := Lib.hid hx
      have HY := Lib.hid hy
      have HZ := Lib.hid hz
      have CA := Lib.hid ca
      have CB := Lib.hid cb
      have hq1 : q < 6 := by omega
      have hq3 : 0 ≤ q := by omega
      have hqn : q.toNat = i := by omega
      have HQ := Lib.hid hq
      clear hcall ca cb hx hy hz hq
      go_wp2_with fail
      clear hs
      have x0 := fun u : ExtD wr => u.cell A0.c0
      have x1 := fun u : ExtD wr => u.cell A0.c1
      have x2 := fun u : ExtD wr => u.cell A0.c2
      have x3 := fun u : ExtD wr => u.cell A0.c3
      have x4 := fun u : ExtD wr => u.cell A0.c4
      have x5 := fun u : ExtD wr => u.cell A0.c5
      have x6 := fun u : ExtD wr => u.cell A0.c6
      have x7 := fun u : ExtD wr => u.cell A0.c7
      have x8 := fun u : ExtD wr => u.cell A0.c8
      have x9 := fun u : ExtD wr => u.cell A0.c9
      have x10 := fun u : ExtD wr => u.cell A0.c10
      have x11 := fun u : ExtD wr => u.cell A0.c11
      have y0 := fun u : ExtD wr => u.cell B0.c0
      have y1 := fun u : ExtD wr => u.cell B0.c1
      have y2 := fun u : ExtD wr => u.cell B0.c2
      have y3 := fun u : ExtD wr => u.cell B0.c3
      have y4 := fun u : ExtD wr => u.cell B0.c4
      have y5 := fun u : ExtD wr => u.cell B0.c5
      have y6 := fun u : ExtD wr => u.cell B0.c6
      have y7 := fun u : ExtD wr => u.cell B0.c7
      have y8 := fun u : ExtD wr => u.cell B0.c8
      have y9 := fun u : ExtD wr => u.cell B0.c9
      have y10 := fun u : ExtD wr => u.cell B0.c10
      have y11 := fun u : ExtD wr => u.cell B0.c11
      have hne := ExtD.there wr
      refine ExtD.region (by kernel_rfl) (by kernel_rfl) ?_
      repeat (go_big_quiet_step ((first | (go_at_fn fid; first | (with_reducible exact ExtD.call _ (CA.out _)) | (with_reducible exact ExtD.call _ (CB.out _))) | (go_at_call 108; exact ExtD.same _ (tcmp_is x y z HZ.out _)))))
      refine wpQuiet_nil ?_
      rintro _ ⟨xw, rfl⟩
      have G2 := G.trans (xw.h.mono G.size)
      have A2 := A0.below xw.h.b
      have B2 := B0.below xw.h.b
      have O2 := O.below xw.h.b
      clear x0 x1 x2 x3 x4 x5 x6 x7 x8 x9 x10 x11 y0 y1 y2 y3 y4 y5 y6 y7 y8 y9 y10 y11 hne G A0 B0 O CA CB
      generalize xw.w = w3 at *
      clear xw
      by_cases hz0 : z = 0
      · have hxy : x = y := by
          have h := HZ.out
          unfold No.cmp1 at h
          by_cases e : x = y
          · exact e
          · rw [if_neg e] at h; split at h <;> omega
        subst hz0
        have HE2 := Lib.hid (fun j (hj : j < i + 1) => by
          rcases Nat.lt_or_eq_of_le (Nat.le_of_lt_succ hj) with h | h
          · exact HE.out j h
          · subst h; rw [HX.out, HY.out]; exact hxy)
        go_wp2_with fail
        go_roundw
        case rel => exact ⟨i + 1, q + 1, by omega, (by have := HQ.out; omega), rfl, HE2, G2, A2, B2, O2⟩
        case measure => have := HQ.out; simp [intOf]; omega
      · have hv2 : z = v := by
          have hxy : x ≠ y := fun e => hz0 (by rw [← HZ.out]; unfold No.cmp1; rw [if_pos e])
          rw [← HV.out, No.cmpk_at (a := No.key bs a) (b := No.key bs b) i rfl hlt HE.out (by rw [HX.out, HY.out]; exact hxy), HX.out, HY.out, HZ.out]
        subst hv2
        have hz1 : (z != 0) = true := by simp [hz0]
        go_wp2_with fail
        go_ret
        exact ⟨rfl, G2⟩
    · obtain rfl : i = 6 := by omega
      obtain rfl : v = 0 := by rw [← HV.out]; exact No.cmpk_same rfl HE.out
      have hq1 : ¬ q < 6 := by omega
      clear hq
      go_wp2_with fail
      go_ret
      exact ⟨rfl, G⟩

theorem tcmplays (bs : List Mt.B) (hval : Mt.Val bs) (l : List No.Nt) [Inhabited (No.In l)] (hl : ∀ n ∈ l, No.okN bs n) (Bk Bs Bi Bm m g : Nat) (D : DataW Unit) (w : World) (hO : OrdW bs w Bk Bs Bi Bm m D) (h1 : Bk ≠ g) (h2 : Bs ≠ g) (h3 : Bi ≠ g) (h4 : Bm ≠ g) (h5 : 0 ≠ g) :
    CmpLays Tryz.prog 107 #[.pointer (some ⟨Bk, 0, none⟩)] (No.encN (l := l)) 12 (No.cfN bs l) g 0 l.length w := fun k os dk _ x y => by
  have hg : w.grownBy (sortWorldK (No.encN (l := l)) 12 w g 0 k dk os) (some g) :=
    ⟨rfl, rfl, rfl, size_sortWorldK .., fun i hi hne => heap_sortWorldK _ _ _ _ _ _ _ _ i hi (fun e => hne (by rw [e]))⟩
  exact (tcompare_is bs hval x.1 y.1 (hl _ x.2) (hl _ y.2) _ rfl Bk Bs Bi Bm m D _ (hO.row hg h1 h2 h3 h4 h5)).mono fun e w' h => ⟨h.1, h.2.grew⟩

set_option maxHeartbeats 1600000 in
theorem torder_is (bs : List Mt.B) (blen bcap : Nat) (B : Option Addr) (hbl : bs.length = blen) (hval : Mt.Val bs) (w : World) (hB : SlB w B bs) (hG : Glob w) :
    Calls Tryz.prog 81 #[.slice B blen bcap] w fun e w' => Below w.heap.size w w' ∧ ∃ (Bk Bs Bi Bm : Nat) (D : DataW Unit), e = .returned (.func (.func 107) #[] #[.pointer (some ⟨Bk, 0, none⟩)]) ∧ OrdW bs w' Bk Bs Bi Bm blen D ∧ w.heap.size ≤ Bk ∧ w.heap.size ≤ Bs ∧ w.heap.size ≤ Bi ∧ w.heap.size ≤ Bm := by
  have HBL := Lib.hid hbl
  have HV := Lib.hid hval
  have HB := Lib.hid hB
  have HG := Lib.hid hG
  clear hbl hval hB hG
  go_enter Tryz.func81, Tryz.ntmps81
  go_wp2_with fail
  refine (tindexes_is bs blen bcap B HBL.out HV.out _ HB.out).mono ?_; rintro e w1 ⟨rfl, hb, D, hown, hidx⟩
  have HI := Lib.hid hidx
  have HGl := Lib.hid (HG.out.below hb)
  clear hidx
  go_wp2_with fail
  go_ret
  have e0 : (w1.alloc (.cells #[.map (some w.heap.size)] 119)).cell? ⟨w1.heap.size, 0, none⟩ = some (.map (some w.heap.size)) := by go_simp
  obtain ⟨w2, hw2⟩ : ∃ w2, w1.alloc (.cells #[.map (some w.heap.size)] 119) = w2 := ⟨_, rfl⟩
  have z2 : w2.heap.size = w1.heap.size + 1 := by rw [← hw2]; simp
  have b2 : Below w1.heap.size w1 w2 := by rw [← hw2]; exact (Below.refl _ _).alloc (Nat.le_refl _) _
  rw [hw2] at e0 ⊢
  clear hw2
  have f0 : (w2.alloc (.cells #[.func (.func 99) #[] #[.pointer (some ⟨w1.heap.size, 0, none⟩)], .func (.func 100) #[] #[], .func (.func 101) #[] #[], .func (.func 103) #[] #[], .func (.func 104) #[] #[], .func (.func 106) #[] #[]] 80)).cell? ⟨w2.heap.size, 0, none⟩ = some (.func (.func 99) #[] #[.pointer (some ⟨w1.heap.size, 0, none⟩)]) := by go_simp
  have f1 : (w2.alloc (.cells #[.func (.func 99) #[] #[.pointer (some ⟨w1.heap.size, 0, none⟩)], .func (.func 100) #[] #[], .func (.func 101) #[] #[], .func (.func 103) #[] #[], .func (.func 104) #[] #[], .func (.func 106) #[] #[]] 80)).cell? ⟨w2.heap.size, 1, none⟩ = some (.func (.func 100) #[] #[]) := by go_simp
  have f2 : (w2.alloc (.cells #[.func (.func 99) #[] #[.pointer (some ⟨w1.heap.size, 0, none⟩)], .func (.func 100) #[] #[], .func (.func 101) #[] #[], .func (.func 103) #[] #[], .func (.func 104) #[] #[], .func (.func 106) #[] #[]] 80)).cell? ⟨w2.heap.size, 2, none⟩ = some (.func (.func 101) #[] #[]) := by go_simp
  have f3 : (w2.alloc (.cells #[.func (.func 99) #[] #[.pointer (some ⟨w1.heap.size, 0, none⟩)], .func (.func 100) #[] #[], .func (.func 101) #[] #[], .func (.func 103) #[] #[], .func (.func 104) #[] #[], .func (.func 106) #[] #[]] 80)).cell? ⟨w2.heap.size, 3, none⟩ = some (.func (.func 103) #[] #[]) := by go_simp
  have f4 : (w2.alloc (.cells #[.func (.func 99) #[] #[.pointer (some ⟨w1.heap.size, 0, none⟩)], .func (.func 100) #[] #[], .func (.func 101) #[] #[], .func (.func 103) #[] #[], .func (.func 104) #[] #[], .func (.func 106) #[] #[]] 80)).cell? ⟨w2.heap.size, 4, none⟩ = some (.func (.func 104) #[] #[]) := by go_simp
  have f5 : (w2.alloc (.cells #[.func (.func 99) #[] #[.pointer (some ⟨w1.heap.size, 0, none⟩)], .func (.func 100) #[] #[], .func (.func 101) #[] #[], .func (.func 103) #[] #[], .func (.func 104) #[] #[], .func (.func 106) #[] #[]] 80)).cell? ⟨w2.heap.size, 5, none⟩ = some (.func (.func 106) #[] #[]) := by go_simp
  obtain ⟨w3, hw3⟩ : ∃ w3, w2.alloc (.cells #[.func (.func 99) #[] #[.pointer (some ⟨w1.heap.size, 0, none⟩)], .func (.func 100) #[] #[], .func (.func 101) #[] #[], .func (.func 103) #[] #[], .func (.func 104) #[] #[], .func (.func 106) #[] #[]] 80) = w3 := ⟨_, rfl⟩
  have z3 : w3.heap.size = w1.heap.size + 1 + 1 := by rw [← hw3]; simp [z2]
  have b3 : Below w2.heap.size w2 w3 := by rw [← hw3]; exact (Below.refl _ _).alloc (Nat.le_refl _) _
  rw [hw3] at f0 f1 f2 f3 f4 f5 ⊢
  rw [z2] at f0 f1 f2 f3 f4 f5
  clear hw3
  have g0 : (w3.alloc (.cells #[.slice (some ⟨w1.heap.size + 1, 0, none⟩) 6 6] 124)).cell? ⟨w3.heap.size, 0, none⟩ = some (.slice (some ⟨w1.heap.size + 1, 0, none⟩) 6 6) := by go_simp
  obtain ⟨w4, hw4⟩ : ∃ w4, w3.alloc (.cells #[.slice (some ⟨w1.heap.size + 1, 0, none⟩) 6 6] 124) = w4 := ⟨_, rfl⟩
  have b4 : Below w3.heap.size w3 w4 := by rw [← hw4]; exact (Below.refl _ _).alloc (Nat.le_refl _) _
  rw [hw4] at g0 ⊢
  rw [z3] at g0
  clear hw4
  have b14 : Below w1.heap.size w1 w4 := (b2.trans (b3.mono (by omega))).trans (b4.mono (by omega))
  have hs1 := hb.size
  exact ⟨hb.trans (b14.mono hs1), _, _, _, _, D, rfl, ⟨g0, keep_cell f0 b4, keep_cell f1 b4, keep_cell f2 b4, keep_cell f3 b4, keep_cell f4 b4, keep_cell f5 b4, keep_cell (keep_cell e0 b3) b4, hown.kept (below_grown' b14) (by simp), HI.out, HGl.out.below b14⟩, by omega, by omega, by omega, by omega⟩
end Go.Proofs.YtbbjifhelbeniaaGreatDoor
