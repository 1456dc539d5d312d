import Derived.Test.YtbbjifhelbeniaaGreatDoorGC
import Derived.Test.YtbbjifhelbeniaaGreatDoorGA
import Derived.Test.YtbbjifhelbeniaaGreatDoorGB
import Derived.LoopTactic
import Derived.Test.YtbbjifhelbeniaaGreatDoorGD
/- The walks of duration's Units, Valid. -/
namespace Go.Proofs.YtbbjifhelbeniaaGreatDoor
open Go.RowKit

namespace Mt
theorem tk_dur (n d : Int) : decide (0 ≤ tk n d) = (Rt.vld n d && decide (0 ≤ n) && decide (1680 % d = 0)) := by
  rcases tk_cases n d with h | ⟨h1, h2, h3, h4, h5, h6⟩
  · rw [h]
    have hd : decide ((0 : Int) ≤ -1) = false := by decide
    rw [hd]
    cases hv : Rt.vld n d with
    | false => rfl
    | true =>
      obtain ⟨hl, hg⟩ := Rt.vld_iff.1 hv
      obtain ⟨l1, l2, l3, l4⟩ := Rt.lim_iff.1 hl
      unfold tk at h
      by_cases hn : 0 ≤ n
      · by_cases hm : 1680 % d = 0
        · rw [if_neg (by simp only [not_or, Decidable.not_not]; exact ⟨by omega, hm, by omega, by omega, hg⟩)] at h
          have : 0 ≤ n * (1680 / d) := Int.mul_nonneg hn (Int.ediv_nonneg (by omega) (by omega))
          omega
        · rw [decide_eq_false hm]; simp
      · rw [decide_eq_false hn]; simp
  · have hdv : d ≤ 1680 := Int.le_of_dvd (by omega) (Int.dvd_of_emod_eq_zero h2)
    have hv : Rt.vld n d = true := Rt.vld_iff.2 ⟨Rt.lim_iff.2 ⟨by omega, by omega, by omega, by omega⟩, h5⟩
    have : 0 ≤ n * (1680 / d) := Int.mul_nonneg h3 (Int.ediv_nonneg (by omega) (by omega))
    rw [hv, decide_eq_true h3, decide_eq_true h2, h6, decide_eq_true this]
    rfl
theorem tk_val {n d : Int} (h : 0 ≤ tk n d) : 1 ≤ d ∧ d ≤ 1680 ∧ 0 ≤ n ∧ n ≤ 1000000000 ∧ tk n d = n * (1680 / d) := by
  rcases tk_cases n d with h0 | ⟨h1, h2, h3, h4, h5, h6⟩
  · omega
  · exact ⟨h1, Int.le_of_dvd (by omega) (Int.dvd_of_emod_eq_zero h2), h3, h4, h6⟩
theorem tk_zero {n d : Int} : tk n d = 0 ↔ n = 0 ∧ d = 1 := by
  constructor
  · intro h
    rcases tk_cases n d with h0 | ⟨h1, h2, h3, h4, h5, h6⟩
    · omega
    · have hdv : d ≤ 1680 := Int.le_of_dvd (by omega) (Int.dvd_of_emod_eq_zero h2)
      have hq : 1 ≤ 1680 / d := by
        rw [Int.le_ediv_iff_mul_le (by omega)]; omega
      rw [h6] at h
      have hn : n = 0 := by
        rcases Int.mul_eq_zero.1 h with h7 | h7
        · exact h7
        · omega
      subst hn
      rw [Int.gcd_zero_left] at h5
      exact ⟨rfl, by omega⟩
  · rintro ⟨rfl, rfl⟩
    decide
theorem tk_pos_n {n d : Int} (h : 0 ≤ tk n d) : 0 < n ↔ 1 ≤ tk n d := by
  obtain ⟨h1, h2, h3, h4, h5⟩ := tk_val h
  constructor
  · intro h0
    have hz : tk n d ≠ 0 := fun e => by have := (tk_zero.1 e).1; omega
    omega
  · intro h0
    rcases Int.lt_or_le 0 n with h6 | h6
    · exact h6
    · obtain rfl : n = 0 := by omega
      rw [h5] at h0
      simp at h0
end Mt

set_option maxHeartbeats 400000 in
theorem munits_any (n d : Int) (hd : 1 ≤ d) (h1 : -1000000000 ≤ n) (h2 : n ≤ 1000000000) (w : World) :
    Calls Tryz.prog 102 #[.agg #[.int .i64 n, .int .i64 d]] w fun e w' => e = .returned (.int .i64 (n * (1680 / d))) ∧ Below w.heap.size w w' := by
  have G0 := (Below.refl w.heap.size w).alloc (Nat.le_refl _) (.cells #[.int .i64 n, .int .i64 d] 41)
  have hd0 : ¬ d = 0 := by omega
  obtain ⟨q, hq⟩ : ∃ q, (1680 : Int) / d = q := ⟨_, rfl⟩
  have hqt : (1680 : Int).tdiv d = q := by rw [Int.tdiv_eq_ediv_of_nonneg (by omega), hq]
  have hq0 : 0 ≤ q := by rw [← hq]; exact Int.ediv_nonneg (by omega) (by omega)
  have hq1 : q ≤ 1680 := by rw [← hq]; exact Int.ediv_le_self _ (by omega)
  have hb := mul_in n q 1000000000 1680 h1 h2 (by omega) hq1
  obtain ⟨hm0, hm1⟩ := hb
  have hm0' : -1680000000000 ≤ n * q := by omega
  have hm1' : n * q ≤ 1680000000000 := by omega
  have HQ := Lib.hid hq
  rw [hq]
  clear hq hm0 hm1
  go_enter Tryz.func102, Tryz.ntmps102
  go_wp2_with fail
  have A2 : At2 (w.alloc (.cells #[.int .i64 n, .int .i64 d] 41)) w.heap.size n d := At2.new _ _ _ _
  generalize w.alloc (.cells #[.int .i64 n, .int .i64 d] 41) = w2 at *
  have x0 := fun x : Ext w2 => x.cell A2.c0
  have x1 := fun x : Ext w2 => x.cell A2.c1
  have hne := Ext.there w2
  refine Ext.region (by kernel_rfl) (by kernel_rfl) ?_
  repeat (go_big_quiet_step (fail))
  refine wpQuiet_nil ?_
  rintro _ ⟨xw, rfl⟩
  have G1 := G0.trans (xw.h.mono G0.size)
  clear x0 x1 hne
  generalize xw.w = w3 at *
  clear xw
  go_wp2_with fail
  go_ret
  exact ⟨rfl, G1⟩

theorem munits_is (n d t : Int) (h : Mt.tk n d = t) (h0 : 0 ≤ t) (w : World) :
    Calls Tryz.prog 102 #[.agg #[.int .i64 n, .int .i64 d]] w fun e w' => e = .returned (.int .i64 t) ∧ Below w.heap.size w w' := by
  obtain ⟨h1, h2, h3, h4, h5⟩ := Mt.tk_val (n := n) (d := d) (by omega)
  rw [← h, h5]
  exact munits_any n d h1 (by omega) h4 w

set_option maxHeartbeats 800000 in
theorem mduration_is (n d : Int) (f : Bool) (h : decide (0 ≤ Mt.tk n d) = f) (w : World) :
    Calls Tryz.prog 125 #[.agg #[.int .i64 n, .int .i64 d]] w fun e w' => e = .returned (.bool f) ∧ Below w.heap.size w w' := by
  have G0 := (Below.refl w.heap.size w).alloc (Nat.le_refl _) (.cells #[.int .i64 n, .int .i64 d] 41)
  have A0 : At2 (w.alloc (.cells #[.int .i64 n, .int .i64 d] 41)) w.heap.size n d := At2.new _ _ _ _
  rw [Mt.tk_dur] at h
  obtain ⟨v, hv⟩ : ∃ v, Rt.vld n d = v := ⟨_, rfl⟩
  rw [hv] at h
  have HV := Lib.hid hv
  cases v with
  | false =>
    rw [Bool.false_and, Bool.false_and] at h
    subst h
    clear hv
    go_enter Tryz.func125, Tryz.ntmps125
    go_wp2_with (first | (go_at_call 138; refine (valid_is n d false HV.out _).mono ?_; rintro e w2 ⟨rfl, hb⟩; have B := A0.below hb; obtain ⟨b0, b1⟩ := And.intro B.c0 B.c1; have G1 := G0.trans (hb.mono G0.size); clear hb) | fail)
    go_ret
    exact ⟨rfl, G1⟩
  | true =>
    obtain ⟨_, _, l3, l4⟩ := Rt.vld_lim hv
    rw [Bool.true_and] at h
    have hd0 : ¬ d = 0 := by omega
    clear hv
    by_cases hn : 0 ≤ n
    · rw [decide_eq_true hn, Bool.true_and] at h
      have hnb : n ≥ 0 := hn
      obtain ⟨m, hm⟩ : ∃ m, (1680 : Int) % d = m := ⟨_, rfl⟩
      have hmt : (1680 : Int).tmod d = m := by rw [Int.tmod_eq_emod_of_nonneg (by omega), hm]
      rw [hm] at h
      subst h
      clear hm
      go_enter Tryz.func125, Tryz.ntmps125
      go_wp2_with (first | (go_at_call 138; refine (valid_is n d true HV.out _).mono ?_; rintro e w2 ⟨rfl, hb⟩; have B := A0.below hb; obtain ⟨b0, b1⟩ := And.intro B.c0 B.c1; have G1 := G0.trans (hb.mono G0.size); clear hb) | fail)
      go_ret
      exact ⟨by first | rfl | (congr 2 <;> simp), G1⟩
    · rw [decide_eq_false hn, Bool.false_and] at h
      subst h
      have hnb : ¬ n ≥ 0 := hn
      go_enter Tryz.func125, Tryz.ntmps125
      go_wp2_with (first | (go_at_call 138; refine (valid_is n d true HV.out _).mono ?_; rintro e w2 ⟨rfl, hb⟩; have B := A0.below hb; obtain ⟨b0, b1⟩ := And.intro B.c0 B.c1; have G1 := G0.trans (hb.mono G0.size); clear hb) | fail)
      go_ret
      exact ⟨rfl, G1⟩

end Go.Proofs.YtbbjifhelbeniaaGreatDoor

/- The walks of limit's Between, IsID. -/
namespace Go.Proofs.YtbbjifhelbeniaaGreatDoor
open Go.RowKit

set_option maxHeartbeats 400000 in
theorem tbetween_is (n lo hi : Int) (f : Bool) (h : decide (lo ≤ n ∧ n ≤ hi) = f) (w : World) :
    Calls Tryz.prog 63 #[.int .i64 n, .int .i64 lo, .int .i64 hi] w fun e w' => e = .returned (.bool f) ∧ Below w.heap.size w w' := by
  by_cases h1 : n ≥ lo
  · by_cases h2 : n ≤ hi
    · obtain rfl : f = true := by rw [← h]; exact decide_eq_true ⟨h1, h2⟩
      clear h
      go_enter Tryz.func63, Tryz.ntmps63
      go_wp2_with fail
      go_ret
      exact ⟨rfl, Below.refl _ _⟩
    · obtain rfl : f = false := by rw [← h]; exact decide_eq_false (fun e => h2 e.2)
      clear h
      go_enter Tryz.func63, Tryz.ntmps63
      go_wp2_with fail
      go_ret
      exact ⟨rfl, Below.refl _ _⟩
  · obtain rfl : f = false := by rw [← h]; exact decide_eq_false (fun e => h1 e.1)
    clear h
    go_enter Tryz.func63, Tryz.ntmps63
    go_wp2_with fail
    go_ret
    exact ⟨rfl, Below.refl _ _⟩

set_option maxHeartbeats 400000 in
theorem tisid_is (n : Int) (f : Bool) (h : decide (1 ≤ n ∧ n ≤ 1000000) = f) (w : World) :
    Calls Tryz.prog 34 #[.int .i64 n] w fun e w' => e = .returned (.bool f) ∧ Below w.heap.size w w' := by
  have H := Lib.hid h
  clear h
  go_enter Tryz.func34, Tryz.ntmps34
  go_wp2_with fail
  refine (tbetween_is n 1 1000000 f H.out _).mono ?_; rintro e w1 ⟨rfl, hb⟩
  go_wp2_with fail
  go_ret
  exact ⟨rfl, hb⟩

end Go.Proofs.YtbbjifhelbeniaaGreatDoor

/- Mathematics of notes: an order by keys, sorting by insertion, spans. -/
namespace Go.Proofs.YtbbjifhelbeniaaGreatDoor.No

/-! ### an order by lists of integers -/
def ltk : List Int → List Int → Bool
  | a :: r, b :: s => if a = b then ltk r s else decide (a < b)
  | _, _ => false
theorem ltk_irrefl : ∀ a : List Int, ltk a a = false
  | [] => rfl
  | a :: r => by simp [ltk, ltk_irrefl r]
theorem ltk_asymm : ∀ {a b : List Int}, ltk a b = true → ltk b a = false
  | [], _, h => by simp [ltk] at h
  | _ :: _, [], h => by simp [ltk] at h
  | a :: r, b :: s, h => by
    unfold ltk at h ⊢
    by_cases e : a = b
    · subst e
      rw [if_pos rfl] at h ⊢
      exact ltk_asymm h
    · rw [if_neg e] at h
      rw [if_neg (fun h => e h.symm)]
      have := of_decide_eq_true h
      exact decide_eq_false (by omega)
theorem ltk_trans : ∀ {a b c : List Int}, ltk a b = true → ltk b c = true → ltk a c = true
  | [], _, _, h, _ => by simp [ltk] at h
  | _ :: _, [], _, h, _ => by simp [ltk] at h
  | _ :: _, _ :: _, [], _, h => by simp [ltk] at h
  | a :: r, b :: s, c :: u, h, k => by
    unfold ltk at h k ⊢
    by_cases e : a = b
    · subst e
      rw [if_pos rfl] at h
      by_cases f : a = c
      · subst f
        rw [if_pos rfl] at k ⊢
        exact ltk_trans h k
      · rw [if_neg f] at k ⊢
        exact k
    · rw [if_neg e] at h
      have h1 := of_decide_eq_true h
      by_cases f : b = c
      · subst f
        rw [if_neg e]
        exact h
      · rw [if_neg f] at k
        have k1 := of_decide_eq_true k
        rw [if_neg (by omega)]
        exact decide_eq_true (by omega)
theorem ltk_total : ∀ {a b : List Int}, a.length = b.length → a ≠ b → ltk a b = true ∨ ltk b a = true
  | [], [], _, h => absurd rfl h
  | [], _ :: _, h, _ => by simp at h
  | _ :: _, [], h, _ => by simp at h
  | a :: r, b :: s, h, k => by
    unfold ltk
    by_cases e : a = b
    · subst e
      rw [if_pos rfl, if_pos rfl]
      exact ltk_total (by simpa using h) (fun e => k (by rw [e]))
    · rw [if_neg e, if_neg (fun h => e h.symm)]
      rcases Int.lt_or_gt_of_ne e with h1 | h1
      · exact .inl (decide_eq_true h1)
      · exact .inr (decide_eq_true h1)

/-! ### sorting by insertion -/
section
variable {α : Type} {lt : α → α → Bool}
/-- Two lists of the same members, both in order, are the same. -/
theorem uniq (asymm : ∀ a b, lt a b = true → lt b a = false) : ∀ {l m : List α}, l.Perm m → l.Pairwise (fun a b => lt a b = true) → m.Pairwise (fun a b => lt a b = true) → l = m
  | [], m, h, _, _ => by rw [List.nil_perm.1 h]
  | a :: l, [], h, _, _ => by have := h.length_eq; simp at this
  | a :: l, b :: m, h, h1, h2 => by
    obtain ⟨a1, a2⟩ := List.pairwise_cons.1 h1
    obtain ⟨b1, b2⟩ := List.pairwise_cons.1 h2
    have hab : a = b := by
      have ha : a ∈ b :: m := h.subset (by simp)
      have hb : b ∈ a :: l := h.symm.subset (by simp)
      rcases List.mem_cons.1 ha with e | ha
      · exact e
      · rcases List.mem_cons.1 hb with e | hb
        · exact e.symm
        · have := asymm _ _ (a1 b hb)
          rw [b1 a ha] at this
          cases this
    subst hab
    rw [uniq asymm (List.Perm.cons_inv h) a2 b2]
/-- Where a new member is put: behind all those that it is not before, from the end. -/
def cut (lt : α → α → Bool) (n : α) (l : List α) : Nat → Nat
  | 0 => 0
  | k + 1 => if (l[k]?.map (lt n)).getD false = true then cut lt n l k else k + 1
def ins (lt : α → α → Bool) (l : List α) (n : α) : List α := l.take (cut lt n l l.length) ++ n :: l.drop (cut lt n l l.length)
def srt (lt : α → α → Bool) (l : List α) : List α := l.foldl (ins lt) []
theorem cut_le (n : α) (l : List α) : ∀ k, cut lt n l k ≤ k
  | 0 => Nat.le_refl _
  | k + 1 => by
    unfold cut
    split
    · exact Nat.le_succ_of_le (cut_le n l k)
    · exact Nat.le_refl _
theorem cut_above (n : α) (l : List α) : ∀ (k i : Nat), cut lt n l k ≤ i → i < k → ∃ e, l[i]? = some e ∧ lt n e = true
  | 0, i, _, h => by omega
  | k + 1, i, h1, h2 => by
    unfold cut at h1
    split at h1
    · rename_i h
      by_cases e : i = k
      · subst e
        cases hl : l[i]? with
        | none => rw [hl] at h; cases h
        | some e => rw [hl] at h; exact ⟨e, rfl, h⟩
      · exact cut_above n l k i h1 (by omega)
    · omega
theorem cut_below (n : α) (l : List α) : ∀ (k j : Nat), cut lt n l k = j + 1 → ∃ e, l[j]? = e ∧ (e.map (lt n)).getD false = false
  | 0, j, h => by cases h
  | k + 1, j, h => by
    unfold cut at h
    split at h
    · exact cut_below n l k j h
    · rename_i h0
      obtain rfl : k = j := by omega
      exact ⟨_, rfl, by simpa using h0⟩
theorem ins_perm (l : List α) (n : α) : (ins lt l n).Perm (n :: l) := by
  unfold ins
  have h := List.take_append_drop (cut lt n l l.length) l
  conv => rhs; rw [← h]
  exact List.perm_middle
theorem srt_snoc (l : List α) (n : α) : srt lt (l ++ [n]) = ins lt (srt lt l) n := by unfold srt; rw [List.foldl_append]; rfl
theorem fold_perm : ∀ (l acc : List α), (l.foldl (ins lt) acc).Perm (l ++ acc)
  | [], acc => List.Perm.refl _
  | a :: l, acc => by
    rw [List.foldl_cons]
    refine (fold_perm l _).trans ?_
    refine ((ins_perm acc a).append_left l).trans ?_
    exact List.perm_middle
theorem srt_perm (l : List α) : (srt lt l).Perm l := by
  have := fold_perm (lt := lt) l []
  rwa [List.append_nil] at this
theorem ins_sorted (trans : ∀ a b c, lt a b = true → lt b c = true → lt a c = true) {l : List α} {n : α} (hl : l.Pairwise (fun a b => lt a b = true)) (hn : ∀ e ∈ l, lt e n = true ∨ lt n e = true) : (ins lt l n).Pairwise (fun a b => lt a b = true) := by
  unfold ins
  obtain ⟨c, hc⟩ : ∃ c, cut lt n l l.length = c := ⟨_, rfl⟩
  rw [hc]
  have hdrop : ∀ e ∈ l.drop c, lt n e = true := fun e he => by
    obtain ⟨i, hi, rfl⟩ := List.getElem_of_mem he
    have hi2 : i < l.length - c := by simpa using hi
    obtain ⟨e2, h1, h2⟩ := cut_above (lt := lt) n l l.length (c + i) (by omega) (by omega)
    rw [List.getElem_drop]
    rw [List.getElem?_eq_getElem (by omega)] at h1
    rw [Option.some.inj h1]
    exact h2
  have htake : ∀ e ∈ l.take c, lt e n = true := fun e he => by
    cases c with
    | zero => simp at he
    | succ j =>
      have hj : j < l.length := by have := cut_le (lt := lt) n l l.length; omega
      obtain ⟨x, h1, h2⟩ := cut_below (lt := lt) n l l.length j hc
      rw [List.getElem?_eq_getElem hj] at h1
      subst h1
      have h3 : lt n l[j] = false := h2
      have h4 : lt l[j] n = true := by
        rcases hn _ (List.getElem_mem hj) with h | h
        · exact h
        · rw [h] at h3; cases h3
      obtain ⟨i, hi, rfl⟩ := List.getElem_of_mem he
      rw [List.length_take] at hi
      rw [List.getElem_take]
      by_cases e : i = j
      · subst e; exact h4
      · exact trans _ _ _ (List.pairwise_iff_getElem.1 hl i j (by omega) hj (by omega)) h4
  rw [List.pairwise_append]
  refine ⟨hl.sublist (List.take_sublist _ _), List.pairwise_cons.2 ⟨hdrop, hl.sublist (List.drop_sublist _ _)⟩, fun a ha b hb => ?_⟩
  rcases List.mem_cons.1 hb with rfl | hb
  · exact htake a ha
  · exact trans _ _ _ (htake a ha) (hdrop b hb)
theorem fold_sorted (trans : ∀ a b c, lt a b = true → lt b c = true → lt a c = true) : ∀ {l acc : List α}, acc.Pairwise (fun a b => lt a b = true) → (acc ++ l).Pairwise (fun a b => lt a b = true ∨ lt b a = true) → (l.foldl (ins lt) acc).Pairwise (fun a b => lt a b = true)
  | [], acc, h, _ => h
  | n :: l, acc, h, hd => by
    rw [List.foldl_cons]
    rw [List.pairwise_append] at hd
    obtain ⟨d1, d2, d3⟩ := hd
    obtain ⟨d4, d5⟩ := List.pairwise_cons.1 d2
    refine fold_sorted trans (ins_sorted trans h (fun e he => d3 e he n (by simp))) ?_
    rw [List.pairwise_append]
    refine ⟨?_, d5, fun a ha b hb => ?_⟩
    · have hp := ins_perm (lt := lt) acc n
      refine (List.Perm.pairwise_iff (fun {a b} h => h.symm) hp).2 (List.pairwise_cons.2 ⟨fun a ha => (d3 a ha n (by simp)).symm, d1⟩)
    · rcases List.mem_cons.1 ((ins_perm acc n).subset ha) with rfl | ha
      · exact d4 b hb
      · exact d3 a ha b (by simp [hb])
/-- Sorted, if any two members differ in the order. -/
theorem srt_sorted (trans : ∀ a b c, lt a b = true → lt b c = true → lt a c = true) {l : List α} (h : l.Pairwise (fun a b => lt a b = true ∨ lt b a = true)) : (srt lt l).Pairwise (fun a b => lt a b = true) :=
  fold_sorted trans List.Pairwise.nil (by simpa using h)
/-- In whatever order they were. -/
theorem srt_any (asymm : ∀ a b, lt a b = true → lt b a = false) (trans : ∀ a b c, lt a b = true → lt b c = true → lt a c = true) {l m : List α} (hp : l.Perm m) (h : l.Pairwise (fun a b => lt a b = true ∨ lt b a = true)) : srt lt l = srt lt m := by
  refine uniq asymm (((srt_perm l).trans hp).trans (srt_perm m).symm) (srt_sorted trans h) (srt_sorted trans ?_)
  exact (List.Perm.pairwise_iff (fun {a b} h => h.symm) hp).1 h
theorem srt_self (asymm : ∀ a b, lt a b = true → lt b a = false) (trans : ∀ a b c, lt a b = true → lt b c = true → lt a c = true) {l : List α} (h : l.Pairwise (fun a b => lt a b = true)) : srt lt l = l :=
  uniq asymm (srt_perm l) (srt_sorted trans (h.imp fun h => .inl h)) h
end
end Go.Proofs.YtbbjifhelbeniaaGreatDoor.No

/- Mathematics of spans: joined ones, those between them, and that both are known by their moments. -/
namespace Go.Proofs.YtbbjifhelbeniaaGreatDoor.No

abbrev Sp := Int × Int
def cov (l : List Sp) (t : Int) : Prop := ∃ s ∈ l, s.1 ≤ t ∧ t < s.2
theorem cov_nil (t : Int) : ¬ cov [] t := fun ⟨_, h, _⟩ => by cases h
theorem cov_cons {s : Sp} {l : List Sp} {t : Int} : cov (s :: l) t ↔ (s.1 ≤ t ∧ t < s.2) ∨ cov l t := by
  unfold cov
  simp only [List.mem_cons, exists_eq_or_imp]
/-- Spans that are not empty, rise, and don't touch. -/
def ok : List Sp → Prop
  | [] => True
  | [s] => s.1 < s.2
  | s :: t :: l => s.1 < s.2 ∧ s.2 < t.1 ∧ ok (t :: l)
theorem ok_head {s : Sp} {l : List Sp} (h : ok (s :: l)) : s.1 < s.2 := by
  cases l with
  | nil => exact h
  | cons t l => exact h.1
theorem ok_tail {s : Sp} {l : List Sp} (h : ok (s :: l)) : ok l := by
  cases l with
  | nil => trivial
  | cons t l => exact h.2.2
theorem ok_later : ∀ {s : Sp} {l : List Sp}, ok (s :: l) → ∀ x ∈ l, s.2 < x.1
  | s, [], _, x, hx => by cases hx
  | s, t :: l, h, x, hx => by
    rcases List.mem_cons.1 hx with rfl | hx
    · exact h.2.1
    · have h1 := ok_later h.2.2 x hx
      have h2 := ok_head h.2.2
      have h3 := h.2.1
      omega
theorem ok_all : ∀ {l : List Sp}, ok l → ∀ x ∈ l, x.1 < x.2
  | s :: l, h, x, hx => by
    rcases List.mem_cons.1 hx with rfl | hx
    · exact ok_head h
    · exact ok_all (ok_tail h) x hx
theorem ok_cons {s : Sp} {l : List Sp} (h1 : s.1 < s.2) (h2 : ∀ x ∈ l, s.2 < x.1) (h3 : ok l) : ok (s :: l) := by
  cases l with
  | nil => exact h1
  | cons t l => exact ⟨h1, h2 t (by simp), h3⟩
/-- Such spans are known by their moments. -/
theorem cov_uniq : ∀ {x y : List Sp}, ok x → ok y → (∀ t, cov x t ↔ cov y t) → x = y
  | [], [], _, _, _ => rfl
  | [], s :: y, _, hy, h => absurd ((h s.1).2 (cov_cons.2 (.inl ⟨Int.le_refl _, ok_head hy⟩))) (cov_nil _)
  | s :: x, [], hx, _, h => absurd ((h s.1).1 (cov_cons.2 (.inl ⟨Int.le_refl _, ok_head hx⟩))) (cov_nil _)
  | s :: x, r :: y, hx, hy, h => by
    have low : ∀ {s : Sp} {x : List Sp} {t : Int}, ok (s :: x) → cov (s :: x) t → s.1 ≤ t := fun {s x t} ho hc => by
      rcases cov_cons.1 hc with h | ⟨z, hz, h1, _⟩
      · exact h.1
      · have := ok_later ho z hz
        have := ok_head ho
        omega
    have e1 : s.1 = r.1 := by
      have a := low hy ((h s.1).1 (cov_cons.2 (.inl ⟨Int.le_refl _, ok_head hx⟩)))
      have b := low hx ((h r.1).2 (cov_cons.2 (.inl ⟨Int.le_refl _, ok_head hy⟩)))
      omega
    have gap : ∀ {s : Sp} {x : List Sp}, ok (s :: x) → ¬ cov (s :: x) s.2 := fun {s x} ho hc => by
      rcases cov_cons.1 hc with h | ⟨z, hz, h1, _⟩
      · omega
      · have := ok_later ho z hz
        omega
    have e2 : s.2 = r.2 := by
      have hs := ok_head hx
      have hr := ok_head hy
      rcases Int.lt_trichotomy s.2 r.2 with hlt | heq | hlt
      · exact absurd ((h s.2).2 (cov_cons.2 (.inl ⟨by omega, hlt⟩))) (gap hx)
      · exact heq
      · exact absurd ((h r.2).1 (cov_cons.2 (.inl ⟨by omega, hlt⟩))) (gap hy)
    have e : s = r := Prod.ext e1 e2
    subst e
    rw [cov_uniq (ok_tail hx) (ok_tail hy) (fun t => ?_)]
    constructor
    · rintro ⟨z, hz, h1, h2⟩
      have h3 := ok_later hx z hz
      rcases cov_cons.1 ((h t).1 (cov_cons.2 (.inr ⟨z, hz, h1, h2⟩))) with h4 | h4
      · omega
      · exact h4
    · rintro ⟨z, hz, h1, h2⟩
      have h3 := ok_later hy z hz
      rcases cov_cons.1 ((h t).2 (cov_cons.2 (.inr ⟨z, hz, h1, h2⟩))) with h4 | h4
      · omega
      · exact h4
/-- Spans of this kind that hold all moments of one hold it in one of them. -/
theorem cov_one : ∀ {l : List Sp} {a b : Int}, ok l → a < b → (∀ t, a ≤ t → t < b → cov l t) → ∃ s ∈ l, s.1 ≤ a ∧ b ≤ s.2
  | [], a, b, _, hab, h => absurd (h a (Int.le_refl _) hab) (cov_nil _)
  | s :: l, a, b, ho, hab, h => by
    rcases cov_cons.1 (h a (Int.le_refl _) hab) with h1 | ⟨z, hz, h1, h2⟩
    · by_cases hb : b ≤ s.2
      · exact ⟨s, by simp, h1.1, hb⟩
      · rcases cov_cons.1 (h s.2 (by omega) (by omega)) with h3 | ⟨z, hz, h3, _⟩
        · omega
        · have := ok_later ho z hz
          omega
    · have h3 := ok_later ho z hz
      have h4 := ok_head ho
      obtain ⟨r, hr, h5⟩ := cov_one (ok_tail ho) hab (fun t t1 t2 => by
        rcases cov_cons.1 (h t t1 t2) with h6 | h6
        · omega
        · exact h6)
      exact ⟨r, by simp [hr], h5⟩

/-! ### joined spans (the last one stands first) -/
def addS (s : Sp) : List Sp → List Sp
  | [] => [s]
  | r :: l => if s.1 ≤ r.2 then (r.1, max r.2 s.2) :: l else s :: r :: l
theorem addS_cons (s r : Sp) (l : List Sp) : addS s (r :: l) = if s.1 ≤ r.2 then (r.1, max r.2 s.2) :: l else s :: r :: l := rfl
/-- Joined ones, the last one first. -/
def joinR (l : List Sp) : List Sp := l.foldl (fun acc s => addS s acc) []
def join (l : List Sp) : List Sp := (joinR l).reverse
/-- From the last one back: not empty, falling, not touching. -/
def okR : List Sp → Prop
  | [] => True
  | [s] => s.1 < s.2
  | s :: t :: l => s.1 < s.2 ∧ t.2 < s.1 ∧ okR (t :: l)
theorem okR_head {s : Sp} {l : List Sp} (h : okR (s :: l)) : s.1 < s.2 := by
  cases l with
  | nil => exact h
  | cons t l => exact h.1
theorem addS_ok {s : Sp} {l : List Sp} (hs : s.1 < s.2) (hl : okR l) (h1 : ∀ r ∈ l.head?, r.1 ≤ s.1) : okR (addS s l) := by
  cases l with
  | nil => exact hs
  | cons r l =>
    have hr := h1 r (by simp)
    rw [addS_cons]
    split
    · cases l with
      | nil => have := okR_head hl; show r.1 < max r.2 s.2; omega
      | cons t l => exact ⟨by have := hl.1; show r.1 < max r.2 s.2; omega, hl.2.1, hl.2.2⟩
    · exact ⟨hs, by omega, hl⟩
theorem addS_head {s : Sp} {l : List Sp} (h1 : ∀ r ∈ l.head?, r.1 ≤ s.1) : ∀ r ∈ (addS s l).head?, r.1 ≤ s.1 := by
  cases l with
  | nil => intro r hr; simp [addS] at hr; rw [← hr]; exact Int.le_refl _
  | cons x l =>
    have hx := h1 x (by simp)
    rw [addS_cons]
    split
    · intro r hr; simp at hr; rw [← hr]; exact hx
    · intro r hr; simp at hr; rw [← hr]; exact Int.le_refl _
theorem addS_cov {s : Sp} {l : List Sp} (_hs : s.1 < s.2) (hl : okR l) (h1 : ∀ r ∈ l.head?, r.1 ≤ s.1) (t : Int) : cov (addS s l) t ↔ cov l t ∨ (s.1 ≤ t ∧ t < s.2) := by
  cases l with
  | nil => simp [addS, cov]
  | cons r l =>
    have hr := h1 r (by simp)
    have hh := okR_head hl
    rw [addS_cons]
    split
    · rw [cov_cons, cov_cons]
      constructor
      · rintro (⟨a, b⟩ | a)
        · simp only at a b
          by_cases c : t < r.2
          · exact .inl (.inl ⟨a, c⟩)
          · exact .inr (by omega)
        · exact .inl (.inr a)
      · rintro ((⟨a, b⟩ | a) | ⟨a, b⟩)
        · exact .inl (by simp only; omega)
        · exact .inr a
        · exact .inl (by simp only; omega)
    · rw [cov_cons, or_comm]
theorem fold_join : ∀ {l acc : List Sp}, okR acc → (∀ s ∈ l, s.1 < s.2) → l.Pairwise (fun a b => a.1 ≤ b.1) → (∀ s ∈ l, ∀ r ∈ acc.head?, r.1 ≤ s.1) →
    okR (l.foldl (fun acc s => addS s acc) acc) ∧ ∀ t, cov (l.foldl (fun acc s => addS s acc) acc) t ↔ cov acc t ∨ cov l t
  | [], acc, h, _, _, _ => ⟨h, fun t => by simp [cov_nil]⟩
  | s :: l, acc, h, h1, h2, h3 => by
    obtain ⟨p1, p2⟩ := List.pairwise_cons.1 h2
    have hs := h1 s (by simp)
    have hd := h3 s (by simp)
    obtain ⟨i1, i2⟩ := fold_join (l := l) (acc := addS s acc) (addS_ok hs h hd) (fun x hx => h1 x (by simp [hx])) p2 (fun x hx r hr => by
      have := addS_head hd r hr
      have := p1 x hx
      omega)
    refine ⟨i1, fun t => ?_⟩
    rw [List.foldl_cons, i2 t, addS_cov hs h hd t, cov_cons, or_assoc]
theorem rev_ok : ∀ {l acc : List Sp}, okR l → ok acc → (∀ s ∈ l.head?, ∀ r ∈ acc.head?, s.2 < r.1) → ok (l.reverseAux acc)
  | [], acc, _, h, _ => h
  | [s], acc, h, ha, hd => by
    refine ok_cons h ?_ ha
    cases acc with
    | nil => intro x hx; cases hx
    | cons r acc =>
      have h1 := hd s (by simp) r (by simp)
      intro x hx
      rcases List.mem_cons.1 hx with rfl | hx
      · exact h1
      · have := ok_later ha x hx
        have := ok_head ha
        omega
  | s :: t :: l, acc, h, ha, hd => by
    refine rev_ok (l := t :: l) (acc := s :: acc) h.2.2 (ok_cons h.1 ?_ ha) (fun x hx r hr => by simp at hx hr; rw [← hx, ← hr]; exact h.2.1)
    cases acc with
    | nil => intro x hx; cases hx
    | cons r acc =>
      have h1 := hd s (by simp) r (by simp)
      intro x hx
      rcases List.mem_cons.1 hx with rfl | hx
      · exact h1
      · have := ok_later ha x hx
        have := ok_head ha
        omega
theorem cov_rev (l : List Sp) (t : Int) : cov l.reverse t ↔ cov l t := by unfold cov; simp
theorem join_ok {l : List Sp} (h1 : ∀ s ∈ l, s.1 < s.2) (h2 : l.Pairwise (fun a b => a.1 ≤ b.1)) : ok (join l) ∧ ∀ t, cov (join l) t ↔ cov l t := by
  obtain ⟨i1, i2⟩ := fold_join (l := l) (acc := []) trivial h1 h2 (fun s _ r hr => by simp at hr)
  refine ⟨?_, fun t => ?_⟩
  · have := rev_ok (l := joinR l) (acc := []) i1 trivial (fun s _ r hr => by simp at hr)
    exact this
  · unfold join
    rw [cov_rev]
    show cov (l.foldl (fun acc s => addS s acc) []) t ↔ _
    rw [i2 t]
    simp [cov_nil]

/-! ### what lies between them -/
def gaps (e : Int) : Int → List Sp → List Sp
  | f, [] => if f < e then [(f, e)] else []
  | f, s :: l => if f < s.1 then (f, s.1) :: gaps e s.2 l else gaps e s.2 l
theorem gaps_ok (e : Int) : ∀ {l : List Sp} {f : Int}, ok l → (∀ s ∈ l, f ≤ s.1 ∧ s.2 ≤ e) → f ≤ e →
    ok (gaps e f l) ∧ (∀ s ∈ gaps e f l, f ≤ s.1 ∧ s.2 ≤ e) ∧ (∀ t, cov (gaps e f l) t ↔ (f ≤ t ∧ t < e ∧ ¬ cov l t)) ∧ ((gaps e f l).map fun s => s.2 - s.1).sum + (l.map fun s => s.2 - s.1).sum = e - f
  | [], f, _, _, hf => by
    unfold gaps
    split
    · refine ⟨by assumption, fun s hs => by simp at hs; subst hs; exact ⟨Int.le_refl _, Int.le_refl _⟩, fun t => ?_, by simp⟩
      rw [cov_cons]
      simp [cov_nil]
    · refine ⟨trivial, (fun s hs => by cases hs), fun t => ?_, by simp; omega⟩
      simp only [cov_nil, not_false_eq_true, and_true, false_iff]
      omega
  | s :: l, f, ho, hl, hf => by
    obtain ⟨b1, b2⟩ := hl s (by simp)
    have hs := ok_head ho
    obtain ⟨i1, i2, i3, i4⟩ := gaps_ok e (l := l) (f := s.2) (ok_tail ho) (fun x hx => ⟨by have := ok_later ho x hx; omega, (hl x (by simp [hx])).2⟩) b2
    have hcov : ∀ t, cov (gaps e s.2 l) t ↔ (s.2 ≤ t ∧ t < e ∧ ¬ cov (s :: l) t) := fun t => by
      rw [i3 t, cov_cons]
      constructor
      · rintro ⟨a, b, c⟩
        exact ⟨a, b, fun h => h.elim (by omega) c⟩
      · rintro ⟨a, b, c⟩
        exact ⟨a, b, fun h => c (.inr h)⟩
    have hno : ∀ t, t < s.1 → ¬ cov (s :: l) t := fun t ht hc => by
      rcases cov_cons.1 hc with h | ⟨z, hz, h1, _⟩
      · omega
      · have := ok_later ho z hz
        omega
    have hin : ∀ t, s.1 ≤ t → t < s.2 → cov (s :: l) t := fun t a b => cov_cons.2 (.inl ⟨a, b⟩)
    unfold gaps
    split
    · rename_i hlt
      refine ⟨ok_cons hlt (fun x hx => by have := (i2 x hx).1; show s.1 < x.1; omega) i1, fun x hx => ?_, fun t => ?_, ?_⟩
      · rcases List.mem_cons.1 hx with rfl | hx
        · exact ⟨Int.le_refl _, by show s.1 ≤ e; omega⟩
        · have := i2 x hx; exact ⟨by omega, this.2⟩
      · rw [cov_cons, hcov t]
        constructor
        · rintro (⟨a, b⟩ | ⟨a, b, c⟩)
          · exact ⟨a, by simp only at b; omega, hno t b⟩
          · exact ⟨by omega, b, c⟩
        · rintro ⟨a, b, c⟩
          by_cases h1 : t < s.1
          · exact .inl ⟨a, h1⟩
          · refine .inr ⟨?_, b, c⟩
            rcases Int.lt_or_le t s.2 with h2 | h2
            · exact absurd (hin t (by omega) h2) c
            · exact h2
      · simp only [List.map_cons, List.sum_cons]; omega
    · rename_i hlt
      refine ⟨i1, fun x hx => by have := i2 x hx; exact ⟨by omega, this.2⟩, fun t => ?_, ?_⟩
      · rw [hcov t]
        constructor
        · rintro ⟨a, b, c⟩
          exact ⟨by omega, b, c⟩
        · rintro ⟨a, b, c⟩
          refine ⟨?_, b, c⟩
          rcases Int.lt_or_le t s.2 with h2 | h2
          · exact absurd (hin t (by omega) h2) c
          · exact h2
      · simp only [List.map_cons, List.sum_cons]; omega
end Go.Proofs.YtbbjifhelbeniaaGreatDoor.No

/- Mathematics of notes: what they are, their order, when they sound. -/
namespace Go.Proofs.YtbbjifhelbeniaaGreatDoor.No

/-- A note: ID, Part, Bar, Voice, Ossia, Start, Length, Pitch. -/
structure Nt where
  id : Int
  pa : Int
  ba : Int
  vo : Int
  os : Int
  sn : Int
  sd : Int
  ln : Int
  ld : Int
  st : Int
  al : Int
  oc : Int
def nat7 (s : Int) : Int := if 2 < s then 2 * s - 1 else 2 * s
def snd (n : Nt) : Int := 12 * n.oc + nat7 n.st + n.al
def isN (st al oc : Int) : Prop := 0 ≤ st ∧ st ≤ 6 ∧ -2 ≤ al ∧ al ≤ 2 ∧ 0 ≤ oc ∧ oc ≤ 9
/-- The index of the bar with an ID, or -1. -/
def bix : List Mt.B → Int → Int
  | [], _ => -1
  | b :: l, id => if b.1 = id then 0 else if bix l id < 0 then -1 else bix l id + 1
theorem bix_ge : ∀ (l : List Mt.B) (id : Int), -1 ≤ bix l id
  | [], _ => Int.le_refl _
  | b :: l, id => by
    have := bix_ge l id
    unfold bix
    split
    · omega
    · split <;> omega
theorem bix_lt : ∀ (l : List Mt.B) (id : Int), bix l id < l.length
  | [], _ => by unfold bix; simp
  | b :: l, id => by
    have := bix_lt l id
    unfold bix
    simp only [List.length_cons]
    split
    · omega
    · split <;> omega
theorem bix_at : ∀ {l : List Mt.B} {id : Int}, 0 ≤ bix l id → (atB l (bix l id).toNat).1 = id
  | [], id, h => by unfold bix at h; omega
  | b :: l, id, h => by
    unfold bix at h ⊢
    split
    · rename_i e; exact e
    · rename_i e
      rw [if_neg e] at h
      split
      · rename_i h1; rw [if_pos h1] at h; omega
      · rename_i h1
        have ih := bix_at (l := l) (id := id) (by omega)
        rw [show (bix l id + 1).toNat = (bix l id).toNat + 1 by omega]
        exact ih
theorem bix_none : ∀ {l : List Mt.B} {id : Int}, bix l id < 0 → ∀ b ∈ l, b.1 ≠ id
  | b :: l, id, h, x, hx => by
    unfold bix at h
    by_cases e : b.1 = id
    · rw [if_pos e] at h; omega
    · rw [if_neg e] at h
      rcases List.mem_cons.1 hx with rfl | hx
      · exact e
      · refine bix_none (l := l) ?_ x hx
        split at h
        · assumption
        · omega
def start (n : Nt) : Int := Mt.tk n.sn n.sd
def leng (n : Nt) : Int := Mt.tk n.ln n.ld
def okN (bs : List Mt.B) (n : Nt) : Prop := 0 ≤ bix bs n.ba ∧ isN n.st n.al n.oc ∧ 1 ≤ n.id ∧ n.id ≤ 1000000 ∧ 1 ≤ n.pa ∧ n.pa ≤ 1000000 ∧ 0 ≤ n.vo ∧ n.vo ≤ 9 ∧ 0 ≤ n.os ∧ n.os ≤ 20 ∧ 0 ≤ start n ∧ 0 < leng n ∧ start n + leng n ≤ Mt.bt (atB bs (bix bs n.ba).toNat)
def Val (bs : List Mt.B) (l : List Nt) : Prop := Mt.Val bs ∧ l.length ≤ 20000 ∧ (∀ n ∈ l, okN bs n) ∧ l.Pairwise fun a b => a.id ≠ b.id
def key (bs : List Mt.B) (n : Nt) : List Int := [bix bs n.ba, n.pa, start n, n.vo, snd n, n.id]
def lt (bs : List Mt.B) (a b : Nt) : Bool := ltk (key bs a) (key bs b)
theorem lt_asymm (bs : List Mt.B) (a b : Nt) (h : lt bs a b = true) : lt bs b a = false := ltk_asymm h
theorem lt_trans (bs : List Mt.B) (a b c : Nt) (h : lt bs a b = true) (k : lt bs b c = true) : lt bs a c = true := ltk_trans h k
theorem lt_differ {bs : List Mt.B} {l : List Nt} (h : l.Pairwise fun a b => a.id ≠ b.id) : l.Pairwise fun a b => lt bs a b = true ∨ lt bs b a = true := by
  refine List.Pairwise.imp (fun {a b} hab => ?_) h
  refine ltk_total (a := key bs a) (b := key bs b) rfl fun e => hab ?_
  unfold key at e
  simp only [List.cons.injEq] at e
  exact e.2.2.2.2.2.1
theorem lt_start {bs : List Mt.B} {a b : Nt} (h : lt bs a b = true) (h1 : a.ba = b.ba) (h2 : a.pa = b.pa) : start a ≤ start b := by
  unfold lt key ltk at h
  rw [h1, if_pos rfl] at h
  unfold ltk at h
  rw [h2, if_pos rfl] at h
  unfold ltk at h
  split at h
  · rename_i e; exact Int.le_of_eq e
  · have := of_decide_eq_true h; omega
/-- The notes of a part in a bar, in order. -/
def own (bs : List Mt.B) (l : List Nt) (part bar : Int) : List Nt := srt (lt bs) (l.filter fun n => decide (n.pa = part) && decide (n.ba = bar))
theorem own_mem {bs : List Mt.B} {l : List Nt} {part bar : Int} {n : Nt} : n ∈ own bs l part bar ↔ n ∈ l ∧ n.pa = part ∧ n.ba = bar := by
  unfold own
  rw [(srt_perm (lt := lt bs) _).mem_iff, List.mem_filter]
  simp
def spn (n : Nt) : Sp := (start n, start n + leng n)
def busy (bs : List Mt.B) (l : List Nt) (part bar : Int) : List Sp := join ((own bs l part bar).map spn)
/-- One of the notes of a part in a bar sounds. -/
def sounds (l : List Nt) (part bar t : Int) : Prop := ∃ n ∈ l, n.pa = part ∧ n.ba = bar ∧ start n ≤ t ∧ t < start n + leng n
theorem busy_ok {bs : List Mt.B} {l : List Nt} (h : Val bs l) (part bar : Int) : ok (busy bs l part bar) ∧ ∀ t, cov (busy bs l part bar) t ↔ sounds l part bar t := by
  have hs : (own bs l part bar).Pairwise fun a b => lt bs a b = true := srt_sorted (lt_trans bs) ((lt_differ h.2.2.2).sublist List.filter_sublist)
  obtain ⟨h1, h2⟩ := join_ok (l := (own bs l part bar).map spn) (fun s hs => by
    obtain ⟨n, hn, rfl⟩ := List.mem_map.1 hs
    have := (h.2.2.1 n (own_mem.1 hn).1).2.2.2.2.2.2.2.2.2.2.2.1
    show start n < start n + leng n
    omega) (by
    rw [List.pairwise_map]
    refine List.Pairwise.imp_of_mem (fun {a b} ha hb hab => ?_) hs
    obtain ⟨_, a1, a2⟩ := own_mem.1 ha
    obtain ⟨_, b1, b2⟩ := own_mem.1 hb
    exact lt_start hab (a2.trans b2.symm) (a1.trans b1.symm))
  refine ⟨h1, fun t => (h2 t).trans ?_⟩
  constructor
  · rintro ⟨s, hs, a, b⟩
    obtain ⟨n, hn, rfl⟩ := List.mem_map.1 hs
    obtain ⟨c, d, e⟩ := own_mem.1 hn
    exact ⟨n, c, d, e, a, b⟩
  · rintro ⟨n, a, b, c, d, e⟩
    exact ⟨spn n, List.mem_map.2 ⟨n, own_mem.2 ⟨a, b, c⟩, rfl⟩, d, e⟩
/-- What a part plays in a bar is known by the moments at which one of its notes sounds. -/
theorem busy_same {bs bs' : List Mt.B} {l m : List Nt} (h : Val bs l) (k : Val bs' m) {part bar part' bar' : Int} (hs : ∀ t, sounds l part bar t ↔ sounds m part' bar' t) : busy bs l part bar = busy bs' m part' bar' := by
  obtain ⟨a, b⟩ := busy_ok h part bar
  obtain ⟨c, d⟩ := busy_ok k part' bar'
  exact cov_uniq a c fun t => ((b t).trans (hs t)).trans (d t).symm
theorem busy_in {bs : List Mt.B} {l : List Nt} (h : Val bs l) (part bar : Int) : ∀ s ∈ busy bs l part bar, 0 ≤ s.1 ∧ s.2 ≤ Mt.bt (atB bs (bix bs bar).toNat) := by
  obtain ⟨a, b⟩ := busy_ok h part bar
  intro s hs
  have h0 := ok_all a s hs
  obtain ⟨n, n1, _, n3, n4, _⟩ := (b s.1).1 ⟨s, hs, Int.le_refl _, h0⟩
  obtain ⟨m, m1, _, m3, _, m5⟩ := (b (s.2 - 1)).1 ⟨s, hs, by omega, by omega⟩
  have hn := h.2.2.1 n n1
  have hm := h.2.2.1 m m1
  have e1 := hn.2.2.2.2.2.2.2.2.2.2.1
  have e2 := hm.2.2.2.2.2.2.2.2.2.2.2.2
  rw [m3] at e2
  exact ⟨by omega, by omega⟩
def rests (bs : List Mt.B) (l : List Nt) (part bar : Int) : List Sp := gaps (Mt.bt (atB bs (bix bs bar).toNat)) 0 (busy bs l part bar)
end Go.Proofs.YtbbjifhelbeniaaGreatDoor.No

/- The walks of pitch's Valid and Number and of duration's Units, with their draws counted. -/
namespace Go.Proofs.YtbbjifhelbeniaaGreatDoor
open Go.RowKit

/-- What the table holds that pitch reads. -/
structure Glob (w : World) : Prop where
  lt : 0 < w.heap.size
  nums : ∀ s : Int, 0 ≤ s → s ≤ 6 → w.cell? ⟨0, s.toNat, none⟩ = some (.int .i64 (No.nat7 s))
theorem Glob.below {w w' : World} (h : Glob w) (hb : Below w.heap.size w w') : Glob w' :=
  ⟨Nat.lt_of_lt_of_le h.lt hb.size, fun s h0 h1 => (hb.cell (p := ⟨0, s.toNat, none⟩) h.lt).trans (h.nums s h0 h1)⟩
theorem Glob.alloc {w : World} (h : Glob w) (o : Obj) : Glob (w.alloc o) := h.below ((Below.refl _ _).alloc (Nat.le_refl _) _)

def nr (n a b : Int) : Int := min (max n a) b
theorem nr_eq {n a b : Int} (h : a ≤ b) : nr n a b = n ↔ a ≤ n ∧ n ≤ b := by unfold nr; omega

set_option maxHeartbeats 400000 in
theorem nearest_any (n a b : Int) (w : World) :
    Calls Tryz.prog 122 #[.int .i64 n, .int .i64 a, .int .i64 b] w fun e w' => e = .returned (.int .i64 (nr n a b)) ∧ w = w' := by
  have e : nr n a b = if b < (if n < a then a else n) then b else (if n < a then a else n) := by unfold nr; split <;> split <;> omega
  rw [e]; clear e
  by_cases h1 : n < a
  · by_cases h2 : b < a
    all_goals
      go_enter Tryz.func122, Tryz.ntmps122
      go_wp2
      go_ret
      exact ⟨rfl, rfl⟩
  · by_cases h2 : b < n
    all_goals
      go_enter Tryz.func122, Tryz.ntmps122
      go_wp2
      go_ret
      exact ⟨rfl, rfl⟩
theorem nearest_is (n a b v : Int) (h : nr n a b = v) (w : World) :
    Calls Tryz.prog 122 #[.int .i64 n, .int .i64 a, .int .i64 b] w fun e w' => e = .returned (.int .i64 v) ∧ w = w' := h ▸ nearest_any n a b w

theorem belowD_drewN {B : Nat} {x w : World} (h : BelowD B x w) (n : Nat) : BelowD B x (w.drewN n) := ⟨below_drewN h.b n, by have := h.d; show _ ≤ w.drawn + n; omega⟩

set_option maxHeartbeats 800000 in
theorem pvalid_is (s a o : Int) (v : Bool) (hv : decide ((0 ≤ s ∧ s ≤ 6) ∧ (-4 ≤ a ∧ a ≤ 4) ∧ (-8 ≤ o ∧ o ≤ 20)) = v) (w : World) :
    Calls Tryz.prog 111 #[.agg #[.int .i64 s, .int .i64 a, .int .i64 o]] w fun e w' => e = .returned (.bool v) ∧ BelowD w.heap.size w w' := by
  obtain ⟨x, hx⟩ : ∃ x, nr s 0 6 = x := ⟨_, rfl⟩
  obtain ⟨y, hy⟩ : ∃ y, nr a (-4) 4 = y := ⟨_, rfl⟩
  obtain ⟨z, hz⟩ : ∃ z, nr o (-8) 20 = z := ⟨_, rfl⟩
  have e : v = (decide (s = x) && decide (a = y) && decide (o = z)) := by
    rw [← hv, Bool.eq_iff_iff, ← hx, ← hy, ← hz]
    simp only [Bool.and_eq_true, decide_eq_true_eq]
    rw [eq_comm (a := s), eq_comm (a := a), eq_comm (a := o), nr_eq (by omega), nr_eq (by omega), nr_eq (by omega)]
    omega
  have HX := Lib.hid hx
  have HY := Lib.hid hy
  have HZ := Lib.hid hz
  clear hx hy hz hv
  by_cases h1 : s = x <;> by_cases h2 : a = y <;> by_cases h3 : o = z
  all_goals
    simp only [h1, h2, h3, decide_true, decide_false, Bool.and_true, Bool.and_false] at e
    subst e
    try subst h1
    try subst h2
    try subst h3
    go_enter Tryz.func111, Tryz.ntmps111
    go_wp2_with fail
    go_quiet ((go_at_call 122; first | (with_reducible exact quiet_left (nearest_is _ _ _ _ HX.out _)) | (with_reducible exact quiet_left (nearest_is _ _ _ _ HY.out _)) | (with_reducible exact quiet_left (nearest_is _ _ _ _ HZ.out _))))
    go_wp2_with fail
    go_ret
    exact ⟨rfl, belowD_drewN ((BelowD.refl _ _).alloc (Nat.le_refl _) _) _⟩

set_option maxHeartbeats 800000 in
theorem pnumber_is (s a o N : Int) (hN : 12 * o + No.nat7 s + a = N) (hn : No.isN s a o) (w : World) (hG : Glob w) :
    Calls Tryz.prog 123 #[.agg #[.int .i64 s, .int .i64 a, .int .i64 o]] w fun e w' => e = .returned (.int .i64 N) ∧ BelowD w.heap.size w w' := by
  obtain ⟨h0, h1, h2, h3, h4, h5⟩ := hn
  have n1 : 0 ≤ No.nat7 s ∧ No.nat7 s ≤ 11 := by unfold No.nat7; split <;> omega
  have hn := (hG.alloc (.cells #[.int .i64 s, .int .i64 a, .int .i64 o] 47)).nums s h0 h1
  have E : Hid (12 * o + No.nat7 s + a = N) := Lib.hid hN
  rw [← E.out]
  clear hN
  generalize No.nat7 s = n at *
  obtain ⟨n1, n2⟩ := n1
  have A := At3.new w s a o 47
  have xa0 := fun x : ExtD (w.alloc (.cells #[.int .i64 s, .int .i64 a, .int .i64 o] 47)) => x.cell A.c0
  have xa1 := fun x : ExtD (w.alloc (.cells #[.int .i64 s, .int .i64 a, .int .i64 o] 47)) => x.cell A.c1
  have xa2 := fun x : ExtD (w.alloc (.cells #[.int .i64 s, .int .i64 a, .int .i64 o] 47)) => x.cell A.c2
  have xn := fun x : ExtD (w.alloc (.cells #[.int .i64 s, .int .i64 a, .int .i64 o] 47)) => x.cell hn
  have hne := ExtD.there (w.alloc (.cells #[.int .i64 s, .int .i64 a, .int .i64 o] 47))
  have hlt : s.toNat < 7 := by omega
  clear hn E A hG
  go_enter Tryz.func123, Tryz.ntmps123
  go_wp2_with fail
  refine ExtD.region (by kernel_rfl) (by kernel_rfl) ?_
  repeat (go_big_quiet_step (fail))
  refine wpQuiet_nil ?_
  rintro _ ⟨xw, rfl⟩
  have hb := xw.h
  generalize xw.w = w3 at *
  clear xw
  go_wp2_with fail
  go_ret
  exact ⟨rfl, ((BelowD.refl _ _).alloc (Nat.le_refl _) _).trans (hb.mono (by simp))⟩

set_option maxHeartbeats 400000 in
theorem pnum_is (s a o N : Int) (hN : 12 * o + No.nat7 s + a = N) (hn : No.isN s a o) (w : World) (hG : Glob w) :
    Calls Tryz.prog 112 #[.agg #[.int .i64 s, .int .i64 a, .int .i64 o]] w fun e w' => e = .returned (.tuple #[.int .i64 N, .int .i64 0]) ∧ BelowD w.heap.size w w' := by
  have HV : Hid (decide ((0 ≤ s ∧ s ≤ 6) ∧ (-4 ≤ a ∧ a ≤ 4) ∧ (-8 ≤ o ∧ o ≤ 20)) = true) := Lib.hid (decide_eq_true (by unfold No.isN at hn; omega))
  have HN := Lib.hid hN
  have HI := Lib.hid hn
  clear hN hn
  go_enter Tryz.func112, Tryz.ntmps112
  go_wp2_with fail
  refine (pvalid_is _ _ _ _ HV.out _).mono ?_; rintro e w1 ⟨rfl, hb1⟩
  have A := (At3.new w s a o _).below hb1.b
  have G1 := (hG.alloc _).below hb1.b
  have G : BelowD w.heap.size w w1 := ((BelowD.refl _ _).alloc (Nat.le_refl _) _).trans (hb1.mono (by simp))
  have S1 : w.heap.size + 1 ≤ w1.heap.size := by have := hb1.size; simp at this; omega
  clear hb1 hG
  obtain ⟨a0, a1, a2⟩ := And.intro A.c0 (And.intro A.c1 A.c2)
  go_wp2_with fail
  refine (pnumber_is _ _ _ _ HN.out HI.out _ G1).mono ?_; rintro e w2 ⟨rfl, hb2⟩
  go_wp2_with fail
  go_ret2
  exact ⟨rfl, G.trans (hb2.mono (by omega))⟩

set_option maxHeartbeats 400000 in
theorem dunits_any (n d : Int) (hd : 1 ≤ d) (h1 : -1000000000 ≤ n) (h2 : n ≤ 1000000000) (w : World) :
    Calls Tryz.prog 102 #[.agg #[.int .i64 n, .int .i64 d]] w fun e w' => e = .returned (.int .i64 (n * (1680 / d))) ∧ BelowD w.heap.size w w' := by
  have G0 := (BelowD.refl w.heap.size w).alloc (Nat.le_refl _) (.cells #[.int .i64 n, .int .i64 d] 41)
  have hd0 : ¬ d = 0 := by omega
  obtain ⟨q, hq⟩ : ∃ q, (1680 : Int) / d = q := ⟨_, rfl⟩
  have hqt : (1680 : Int).tdiv d = q := by rw [Int.tdiv_eq_ediv_of_nonneg (by omega), hq]
  have hq0 : 0 ≤ q := by rw [← hq]; exact Int.ediv_nonneg (by omega) (by omega)
  have hq1 : q ≤ 1680 := by rw [← hq]; exact Int.ediv_le_self _ (by omega)
  have hb := mul_in n q 1000000000 1680 h1 h2 (by omega) hq1
  obtain ⟨hm0, hm1⟩ := hb
  have hm0' : -1680000000000 ≤ n * q := by omega
  have hm1' : n * q ≤ 1680000000000 := by omega
  have HQ := Lib.hid hq
  rw [hq]
  clear hq hm0 hm1
  go_enter Tryz.func102, Tryz.ntmps102
  go_wp2_with fail
  have A2 : At2 (w.alloc (.cells #[.int .i64 n, .int .i64 d] 41)) w.heap.size n d := At2.new _ _ _ _
  generalize w.alloc (.cells #[.int .i64 n, .int .i64 d] 41) = w2 at *
  have x0 := fun x : ExtD w2 => x.cell A2.c0
  have x1 := fun x : ExtD w2 => x.cell A2.c1
  have hne := ExtD.there w2
  refine ExtD.region (by kernel_rfl) (by kernel_rfl) ?_
  repeat (go_big_quiet_step (fail))
  refine wpQuiet_nil ?_
  rintro _ ⟨xw, rfl⟩
  have G1 := G0.trans (xw.h.mono G0.size)
  clear x0 x1 hne
  generalize xw.w = w3 at *
  clear xw
  go_wp2_with fail
  go_ret
  exact ⟨rfl, G1⟩

theorem dunits_is (n d t : Int) (h : Mt.tk n d = t) (h0 : 0 ≤ t) (w : World) :
    Calls Tryz.prog 102 #[.agg #[.int .i64 n, .int .i64 d]] w fun e w' => e = .returned (.int .i64 t) ∧ BelowD w.heap.size w w' := by
  obtain ⟨h1, h2, h3, h4, h5⟩ := Mt.tk_val (n := n) (d := d) (by omega)
  rw [← h, h5]
  exact dunits_any n d h1 (by omega) h4 w
end Go.Proofs.YtbbjifhelbeniaaGreatDoor
