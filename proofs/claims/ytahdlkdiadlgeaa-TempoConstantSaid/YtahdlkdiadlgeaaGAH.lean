import Derived.Test.YtahdlkdiadlgeaaGAD
import Derived.Test.YtahdlkdiadlgeaaGAF
import Derived.Test.YtahdlkdiadlgeaaGAC
import Derived.LoopTactic
import Derived.Test.YtahdlkdiadlgeaaGAG
/- The walks of meter's units, isDuration, quarters, isBar, end. -/
namespace Go.Proofs.Ytahdlkdiadlgeaa
open Go.RowKit

namespace Mt
theorem tk_dur (n d : Int) : decide (0 ≤ tk n d) = (Rt.vld n d && decide (0 ≤ n) && decide (1680 % d = 0)) := by
  rcases tk_cases n d with h | ⟨h1, h2, h3, h4, h5, h6⟩
  · rw [h]
    have hd : decide ((0 : Int) ≤ -1) = false := by decide
    rw [hd]
    cases hv : Rt.vld n d with
    | false => rfl
    | true =>
      obtain ⟨hl, hg⟩ := Rt.vld_iff.1 hv
      obtain ⟨l1, l2, l3, l4⟩ := Rt.lim_iff.1 hl
      unfold tk at h
      by_cases hn : 0 ≤ n
      · by_cases hm : 1680 % d = 0
        · rw [if_neg (by simp only [not_or, Decidable.not_not]; exact ⟨by omega, hm, by omega, by omega, hg⟩)] at h
          have : 0 ≤ n * (1680 / d) := Int.mul_nonneg hn (Int.ediv_nonneg (by omega) (by omega))
          omega
        · rw [decide_eq_false hm]; simp
      · rw [decide_eq_false hn]; simp
  · have hdv : d ≤ 1680 := Int.le_of_dvd (by omega) (Int.dvd_of_emod_eq_zero h2)
    have hv : Rt.vld n d = true := Rt.vld_iff.2 ⟨Rt.lim_iff.2 ⟨by omega, by omega, by omega, by omega⟩, h5⟩
    have : 0 ≤ n * (1680 / d) := Int.mul_nonneg h3 (Int.ediv_nonneg (by omega) (by omega))
    rw [hv, decide_eq_true h3, decide_eq_true h2, h6, decide_eq_true this]
    rfl
theorem tk_val {n d : Int} (h : 0 ≤ tk n d) : 1 ≤ d ∧ d ≤ 1680 ∧ 0 ≤ n ∧ n ≤ 1000000000 ∧ tk n d = n * (1680 / d) := by
  rcases tk_cases n d with h0 | ⟨h1, h2, h3, h4, h5, h6⟩
  · omega
  · exact ⟨h1, Int.le_of_dvd (by omega) (Int.dvd_of_emod_eq_zero h2), h3, h4, h6⟩
theorem tk_zero {n d : Int} : tk n d = 0 ↔ n = 0 ∧ d = 1 := by
  constructor
  · intro h
    rcases tk_cases n d with h0 | ⟨h1, h2, h3, h4, h5, h6⟩
    · omega
    · have hdv : d ≤ 1680 := Int.le_of_dvd (by omega) (Int.dvd_of_emod_eq_zero h2)
      have hq : 1 ≤ 1680 / d := by
        rw [Int.le_ediv_iff_mul_le (by omega)]; omega
      rw [h6] at h
      have hn : n = 0 := by
        rcases Int.mul_eq_zero.1 h with h7 | h7
        · exact h7
        · omega
      subst hn
      rw [Int.gcd_zero_left] at h5
      exact ⟨rfl, by omega⟩
  · rintro ⟨rfl, rfl⟩
    decide
theorem tk_pos_n {n d : Int} (h : 0 ≤ tk n d) : 0 < n ↔ 1 ≤ tk n d := by
  obtain ⟨h1, h2, h3, h4, h5⟩ := tk_val h
  constructor
  · intro h0
    have hz : tk n d ≠ 0 := fun e => by have := (tk_zero.1 e).1; omega
    omega
  · intro h0
    rcases Int.lt_or_le 0 n with h6 | h6
    · exact h6
    · obtain rfl : n = 0 := by omega
      rw [h5] at h0
      simp at h0
end Mt

set_option maxHeartbeats 400000 in
theorem munits_any (n d : Int) (hd : 1 ≤ d) (h1 : -1000000000 ≤ n) (h2 : n ≤ 1000000000) (w : World) :
    Calls Try.prog 52 #[.agg #[.int .i64 n, .int .i64 d]] w fun e w' => e = .returned (.int .i64 (n * (1680 / d))) ∧ Below w.heap.size w w' := by
  have G0 := (Below.refl w.heap.size w).alloc (Nat.le_refl _) (.cells #[.int .i64 n, .int .i64 d] 25)
  have hd0 : ¬ d = 0 := by omega
  obtain ⟨q, hq⟩ : ∃ q, (1680 : Int) / d = q := ⟨_, rfl⟩
  have hqt : (1680 : Int).tdiv d = q := by rw [Int.tdiv_eq_ediv_of_nonneg (by omega), hq]
  have hq0 : 0 ≤ q := by rw [← hq]; exact Int.ediv_nonneg (by omega) (by omega)
  have hq1 : q ≤ 1680 := by rw [← hq]; exact Int.ediv_le_self _ (by omega)
  have hb := mul_in n q 1000000000 1680 h1 h2 (by omega) hq1
  obtain ⟨hm0, hm1⟩ := hb
  have hm0' : -1680000000000 ≤ n * q := by omega
  have hm1' : n * q ≤ 1680000000000 := by omega
  have HQ := Lib.hid hq
  rw [hq]
  clear hq hm0 hm1
  go_enter Try.func52, Try.ntmps52
  go_wp2_with fail
  have A2 : At2 (w.alloc (.cells #[.int .i64 n, .int .i64 d] 25)) w.heap.size n d := At2.new _ _ _ _
  generalize w.alloc (.cells #[.int .i64 n, .int .i64 d] 25) = w2 at *
  have x0 := fun x : Ext w2 => x.cell A2.c0
  have x1 := fun x : Ext w2 => x.cell A2.c1
  have hne := Ext.there w2
  refine Ext.region (by kernel_rfl) (by kernel_rfl) ?_
  repeat (go_big_quiet_step (fail))
  refine wpQuiet_nil ?_
  rintro _ ⟨xw, rfl⟩
  have G1 := G0.trans (xw.h.mono G0.size)
  clear x0 x1 hne
  generalize xw.w = w3 at *
  clear xw
  go_wp2_with fail
  go_ret
  exact ⟨rfl, G1⟩

theorem munits_is (n d t : Int) (h : Mt.tk n d = t) (h0 : 0 ≤ t) (w : World) :
    Calls Try.prog 52 #[.agg #[.int .i64 n, .int .i64 d]] w fun e w' => e = .returned (.int .i64 t) ∧ Below w.heap.size w w' := by
  obtain ⟨h1, h2, h3, h4, h5⟩ := Mt.tk_val (n := n) (d := d) (by omega)
  rw [← h, h5]
  exact munits_any n d h1 (by omega) h4 w

set_option maxHeartbeats 800000 in
theorem mduration_is (n d : Int) (f : Bool) (h : decide (0 ≤ Mt.tk n d) = f) (w : World) :
    Calls Try.prog 59 #[.agg #[.int .i64 n, .int .i64 d]] w fun e w' => e = .returned (.bool f) ∧ Below w.heap.size w w' := by
  have G0 := (Below.refl w.heap.size w).alloc (Nat.le_refl _) (.cells #[.int .i64 n, .int .i64 d] 25)
  have A0 : At2 (w.alloc (.cells #[.int .i64 n, .int .i64 d] 25)) w.heap.size n d := At2.new _ _ _ _
  rw [Mt.tk_dur] at h
  obtain ⟨v, hv⟩ : ∃ v, Rt.vld n d = v := ⟨_, rfl⟩
  rw [hv] at h
  have HV := Lib.hid hv
  cases v with
  | false =>
    rw [Bool.false_and, Bool.false_and] at h
    subst h
    clear hv
    go_enter Try.func59, Try.ntmps59
    go_wp2_with (first | (go_at_call 43; refine (valid_is n d false HV.out _).mono ?_; rintro e w2 ⟨rfl, hb⟩; have B := A0.below hb; obtain ⟨b0, b1⟩ := And.intro B.c0 B.c1; have G1 := G0.trans (hb.mono G0.size); clear hb) | fail)
    go_ret
    exact ⟨rfl, G1⟩
  | true =>
    obtain ⟨_, _, l3, l4⟩ := Rt.vld_lim hv
    rw [Bool.true_and] at h
    have hd0 : ¬ d = 0 := by omega
    clear hv
    by_cases hn : 0 ≤ n
    · rw [decide_eq_true hn, Bool.true_and] at h
      have hnb : n ≥ 0 := hn
      obtain ⟨m, hm⟩ : ∃ m, (1680 : Int) % d = m := ⟨_, rfl⟩
      have hmt : (1680 : Int).tmod d = m := by rw [Int.tmod_eq_emod_of_nonneg (by omega), hm]
      rw [hm] at h
      subst h
      clear hm
      go_enter Try.func59, Try.ntmps59
      go_wp2_with (first | (go_at_call 43; refine (valid_is n d true HV.out _).mono ?_; rintro e w2 ⟨rfl, hb⟩; have B := A0.below hb; obtain ⟨b0, b1⟩ := And.intro B.c0 B.c1; have G1 := G0.trans (hb.mono G0.size); clear hb) | fail)
      go_ret
      exact ⟨by first | rfl | (congr 2 <;> simp), G1⟩
    · rw [decide_eq_false hn, Bool.false_and] at h
      subst h
      have hnb : ¬ n ≥ 0 := hn
      go_enter Try.func59, Try.ntmps59
      go_wp2_with (first | (go_at_call 43; refine (valid_is n d true HV.out _).mono ?_; rintro e w2 ⟨rfl, hb⟩; have B := A0.below hb; obtain ⟨b0, b1⟩ := And.intro B.c0 B.c1; have G1 := G0.trans (hb.mono G0.size); clear hb) | fail)
      go_ret
      exact ⟨rfl, G1⟩

set_option maxHeartbeats 400000 in
theorem mquarters_is (u N D E : Int) (h : Rt.makeR u 1680 = (N, D, E)) (w : World) :
    Calls Try.prog 34 #[.int .i64 u] w fun e w' => e = .returned (.tuple #[.agg #[.int .i64 N, .int .i64 D], .int .i64 E]) ∧ Below w.heap.size w w' := by
  have G0 := (Below.refl w.heap.size w).alloc (Nat.le_refl _) (.cells #[.int .i64 0, .int .i64 0] 25)
  have V0 : Var2 (w.alloc (.cells #[.int .i64 0, .int .i64 0] 25)) w.heap.size 0 0 := Var2.new _ _ _ _
  have H := Lib.hid h
  clear h
  go_enter Try.func34, Try.ntmps34
  go_wp2_with (first | (go_at_call 55; refine (make_is u 1680 N D E H.out _).mono ?_; rintro e w2 ⟨rfl, hb⟩; have V := V0.below hb; obtain ⟨v0, v1, f0, f1⟩ := And.intro V.at2.c0 (And.intro V.at2.c1 (And.intro V.f0 V.f1)); have G1 := G0.trans (hb.mono G0.size); clear hb) | fail)
  refine bodyPost_ret (v := .tuple #[.agg #[.int .i64 N, .int .i64 D], .int .i64 E]) (by simp [results, Try.results34, go_sem, v0, v1]) rfl ⟨rfl, (G1.setCell (by simp <;> omega) _).setCell (by simp <;> omega) _⟩

set_option maxHeartbeats 400000 in
theorem mend_is (A : Option Addr) (len cap : Nat) (w : World) :
    Calls Try.prog 58 #[.slice A len cap] w fun e w' => e = .returned (.agg #[.int .i64 (len : Int), .int .i64 0, .int .i64 1]) ∧ Below w.heap.size w w' := by
  go_enter Try.func58, Try.ntmps58
  go_wp2_with fail
  refine bodyPost_ret (v := .agg #[.int .i64 (len : Int), .int .i64 0, .int .i64 1]) (by simp [results, Try.results58, go_sem]) rfl ⟨rfl, (Below.refl w.heap.size w).alloc (Nat.le_refl _) _⟩
end Go.Proofs.Ytahdlkdiadlgeaa

/- The walks of meter's isBar, isPosition. -/
namespace Go.Proofs.Ytahdlkdiadlgeaa
open Go.RowKit

/-- A block of four integers. -/
structure At4 (w : World) (b : Nat) (x y z u : Int) : Prop where
  lt : b < w.heap.size
  c0 : w.cell? ⟨b, 0, none⟩ = some (.int .i64 x)
  c1 : w.cell? ⟨b, 1, none⟩ = some (.int .i64 y)
  c2 : w.cell? ⟨b, 2, none⟩ = some (.int .i64 z)
  c3 : w.cell? ⟨b, 3, none⟩ = some (.int .i64 u)
theorem At4.below {w w' : World} {b : Nat} {x y z u : Int} (h : At4 w b x y z u) (hb : Below w.heap.size w w') : At4 w' b x y z u :=
  ⟨Nat.lt_of_lt_of_le h.lt hb.size, (hb.cell (p := ⟨b, 0, none⟩) h.lt).trans h.c0, (hb.cell (p := ⟨b, 1, none⟩) h.lt).trans h.c1, (hb.cell (p := ⟨b, 2, none⟩) h.lt).trans h.c2, (hb.cell (p := ⟨b, 3, none⟩) h.lt).trans h.c3⟩
theorem At4.alloc {w : World} {b : Nat} {x y z u : Int} (h : At4 w b x y z u) (o : Obj) : At4 (w.alloc o) b x y z u :=
  h.below ((Below.refl _ _).alloc (Nat.le_refl _) _)
theorem At4.new (w : World) (x y z u : Int) (t : TypeId) : At4 (w.alloc (.cells #[.int .i64 x, .int .i64 y, .int .i64 z, .int .i64 u] t)) w.heap.size x y z u :=
  ⟨by simp, by go_simp, by go_simp, by go_simp, by go_simp⟩

set_option maxHeartbeats 1600000 in
theorem misbar_is (i n d k : Int) (f : Bool) (h : decide (Mt.okB (i, n, d, k)) = f) (w : World) :
    Calls Try.prog 57 #[.agg #[.int .i64 i, .int .i64 n, .int .i64 d, .int .i64 k]] w fun e w' => e = .returned (.bool f) ∧ Below w.heap.size w w' := by
  have G0 := (Below.refl w.heap.size w).alloc (Nat.le_refl _) (.cells #[.int .i64 i, .int .i64 n, .int .i64 d, .int .i64 k] 64)
  have A0 : At4 (w.alloc (.cells #[.int .i64 i, .int .i64 n, .int .i64 d, .int .i64 k] 64)) w.heap.size i n d k := At4.new _ _ _ _ _ _
  have h' : decide (1 ≤ i ∧ i ≤ 1000000 ∧ 1 ≤ Mt.tk n d ∧ Mt.tk n d ≤ 40320 ∧ -7 ≤ k ∧ k ≤ 7) = f := h
  clear h
  obtain ⟨t, ht⟩ : ∃ t, Mt.tk n d = t := ⟨_, rfl⟩
  rw [ht] at h'
  by_cases h1 : 1 ≤ i ∧ i ≤ 1000000
  case neg =>
    rw [decide_eq_false (by omega)] at h'
    subst h'
    clear ht
    have H1 := Lib.hid (decide_eq_false h1)
    clear h1
    go_enter Try.func57, Try.ntmps57
    go_wp2_with fail
    refine (tisid_is i false H1.out _).mono ?_; rintro e w1 ⟨rfl, hb⟩
    have G1 := G0.trans (hb.mono G0.size)
    clear hb A0
    go_wp2_with fail
    go_ret
    exact ⟨rfl, G1⟩
  by_cases h2 : -7 ≤ k ∧ k ≤ 7
  case neg =>
    rw [decide_eq_false (by omega)] at h'
    subst h'
    clear ht
    have H1 := Lib.hid (decide_eq_true h1)
    have H2 := Lib.hid (decide_eq_false h2)
    clear h1 h2
    go_enter Try.func57, Try.ntmps57
    go_wp2_with fail
    refine (tisid_is i true H1.out _).mono ?_; rintro e w1 ⟨rfl, hb⟩
    have A1 := A0.below hb
    have G1 := G0.trans (hb.mono G0.size)
    clear hb A0
    have c0_3 := A1.c3
    go_wp2_with fail
    clear c0_3
    refine (tbetween_is k (-7) 7 false H2.out _).mono ?_; rintro e w2 ⟨rfl, hb⟩
    have G2 := G1.trans (hb.mono G1.size)
    clear hb A1
    go_wp2_with fail
    go_ret
    exact ⟨rfl, G2⟩
  have H1 := Lib.hid (decide_eq_true h1)
  have H2 := Lib.hid (decide_eq_true h2)
  by_cases h5 : 0 ≤ t
  · have hq : decide (0 ≤ Mt.tk n d) = true := by rw [ht]; simpa using h5
    have hp := Mt.tk_pos_n (n := n) (d := d) (by omega)
    rw [ht] at hp
    have HQ := Lib.hid hq
    have HT := Lib.hid ht
    clear hq ht
    by_cases h6 : 0 < n
    · have h7 : 1 ≤ t := hp.1 h6
      have hf : decide (t ≤ 40320) = f := by
        rw [← h']
        by_cases h8 : t ≤ 40320
        · rw [decide_eq_true h8, decide_eq_true (by omega)]
        · rw [decide_eq_false h8, decide_eq_false (by omega)]
      subst hf
      clear hp h7 h' h1 h2
      go_enter Try.func57, Try.ntmps57
      go_wp2_with (first | (go_at_call 76; refine (tisid_is i true H1.out _).mono ?_; rintro e w1 ⟨rfl, hb⟩; have A1 := A0.below hb; have c0_3 := A1.c3; have G1 := G0.trans (hb.mono G0.size); clear hb A0) | (go_at_call 41; refine (tbetween_is k (-7) 7 true H2.out _).mono ?_; rintro e w2 ⟨rfl, hb⟩; have A2 := A1.below hb; obtain ⟨b0, b1⟩ := And.intro A2.c1 A2.c2; have G2 := G1.trans (hb.mono G1.size); clear hb A1 c0_3) | (go_at_call 59; refine (mduration_is n d true HQ.out _).mono ?_; rintro e w3 ⟨rfl, hb⟩; have A3 := A2.below hb; obtain ⟨d0, d1⟩ := And.intro A3.c1 A3.c2; have G3 := G2.trans (hb.mono G2.size); clear hb b0 b1) | (go_at_call 52; refine (munits_is n d t HT.out h5 _).mono ?_; rintro e w4 ⟨rfl, hb⟩; have G4 := G3.trans (hb.mono G3.size); clear hb) | fail)
      go_ret
      exact ⟨rfl, G4⟩
    · have hf : f = false := by rw [← h', decide_eq_false (by omega)]
      subst hf
      clear hp h' h1 h2
      go_enter Try.func57, Try.ntmps57
      go_wp2_with (first | (go_at_call 76; refine (tisid_is i true H1.out _).mono ?_; rintro e w1 ⟨rfl, hb⟩; have A1 := A0.below hb; have c0_3 := A1.c3; have G1 := G0.trans (hb.mono G0.size); clear hb A0) | (go_at_call 41; refine (tbetween_is k (-7) 7 true H2.out _).mono ?_; rintro e w2 ⟨rfl, hb⟩; have A2 := A1.below hb; obtain ⟨b0, b1⟩ := And.intro A2.c1 A2.c2; have G2 := G1.trans (hb.mono G1.size); clear hb A1 c0_3) | (go_at_call 59; refine (mduration_is n d true HQ.out _).mono ?_; rintro e w3 ⟨rfl, hb⟩; have A3 := A2.below hb; obtain ⟨d0, d1⟩ := And.intro A3.c1 A3.c2; have G3 := G2.trans (hb.mono G2.size); clear hb b0 b1) | fail)
      go_ret
      exact ⟨rfl, G3⟩
  · have hq : decide (0 ≤ Mt.tk n d) = false := by rw [ht]; simpa using h5
    have hf : f = false := by rw [← h', decide_eq_false (by omega)]
    subst hf
    have HQ := Lib.hid hq
    clear hq ht h' h1 h2
    go_enter Try.func57, Try.ntmps57
    go_wp2_with (first | (go_at_call 76; refine (tisid_is i true H1.out _).mono ?_; rintro e w1 ⟨rfl, hb⟩; have A1 := A0.below hb; have c0_3 := A1.c3; have G1 := G0.trans (hb.mono G0.size); clear hb A0) | (go_at_call 41; refine (tbetween_is k (-7) 7 true H2.out _).mono ?_; rintro e w2 ⟨rfl, hb⟩; have A2 := A1.below hb; obtain ⟨b0, b1⟩ := And.intro A2.c1 A2.c2; have G2 := G1.trans (hb.mono G1.size); clear hb A1 c0_3) | (go_at_call 59; refine (mduration_is n d false HQ.out _).mono ?_; rintro e w3 ⟨rfl, hb⟩; have A3 := A2.below hb; obtain ⟨d0, d1⟩ := And.intro A3.c1 A3.c2; have G3 := G2.trans (hb.mono G2.size); clear hb b0 b1) | fail)
    go_ret
    exact ⟨rfl, G3⟩

set_option maxHeartbeats 1600000 in
theorem mposition_is (l : List Mt.B) (b n d : Int) (f : Bool) (len cap : Nat) (A : Option Addr) (h : Mt.posB l b n d = f) (hl : l.length = len) (hok : ∀ x ∈ l, Mt.okB x) (w : World) (hL : SlB w A l) :
    Calls Try.prog 33 #[.slice A len cap, .agg #[.int .i64 b, .int .i64 n, .int .i64 d]] w fun e w' => e = .returned (.bool f) ∧ Below w.heap.size w w' := by
  have G0 := (Below.refl w.heap.size w).alloc (Nat.le_refl _) (.cells #[.int .i64 b, .int .i64 n, .int .i64 d] 27)
  have A0 : At3 (w.alloc (.cells #[.int .i64 b, .int .i64 n, .int .i64 d] 27)) w.heap.size b n d := At3.new _ _ _ _ _
  have L0 := hL.alloc (.cells #[.int .i64 b, .int .i64 n, .int .i64 d] 27)
  unfold Mt.posB at h
  rw [hl] at h
  by_cases he : b = (len : Int) ∧ n = 0 ∧ d = 1
  · obtain ⟨e1, e2, e3⟩ := he
    have hf : f = true := by
      have ht : Mt.tk n d = 0 := Mt.tk_zero.2 ⟨e2, e3⟩
      rw [← h, ht, if_pos e1, decide_eq_true (by omega)]
      rfl
    subst hf e1 e2 e3
    clear h
    go_enter Try.func33, Try.ntmps33
    go_wp2_with fail
    generalize w.alloc (.cells #[.int .i64 (len : Int), .int .i64 0, .int .i64 1] 27) = w2 at *
    have x0 := fun x : Ext w2 => x.cell A0.c0
    have x1 := fun x : Ext w2 => x.cell A0.c1
    have x2 := fun x : Ext w2 => x.cell A0.c2
    have hne := Ext.there w2
    refine Ext.region (by kernel_rfl) (by kernel_rfl) ?_
    repeat (go_big_quiet_step ((go_at_call 58; exact Ext.call _ (mend_is _ _ _ _))))
    refine wpQuiet_nil ?_
    rintro _ ⟨xw, rfl⟩
    have G1 := G0.trans (xw.h.mono G0.size)
    clear x0 x1 x2 hne
    generalize xw.w = w3 at *
    clear xw
    go_wp2_with fail
    go_ret
    exact ⟨rfl, G1⟩
  have hz : Mt.tk n d = 0 ↔ n = 0 ∧ d = 1 := Mt.tk_zero
  by_cases h1 : b < 0
  · have hf : f = false := by rw [← h, decide_eq_false (by omega)]; rfl
    subst hf
    have h1a : decide (0 ≤ b) = false := decide_eq_false (by omega)
    have h2' : (b == (len : Int)) = false := by simp; omega
    clear h he hz h1
    go_enter Try.func33, Try.ntmps33
    go_wp2_with fail
    generalize w.alloc (.cells #[.int .i64 b, .int .i64 n, .int .i64 d] 27) = w2 at *
    have x0 := fun x : Ext w2 => x.cell A0.c0
    have x1 := fun x : Ext w2 => x.cell A0.c1
    have x2 := fun x : Ext w2 => x.cell A0.c2
    have hne := Ext.there w2
    refine Ext.region (by kernel_rfl) (by kernel_rfl) ?_
    repeat (go_big_quiet_step ((go_at_call 58; exact Ext.call _ (mend_is _ _ _ _))))
    refine wpQuiet_nil ?_
    rintro _ ⟨xw, rfl⟩
    have G1 := G0.trans (xw.h.mono G0.size)
    have A1 := A0.below xw.h
    have L1 := L0.below xw.h
    clear x0 x1 x2 hne A0 L0
    generalize xw.w = w3 at *
    clear xw
    go_wp2_with fail
    have y0 := fun x : Ext w3 => x.cell A1.c0
    have y1 := fun x : Ext w3 => x.cell A1.c1
    have y2 := fun x : Ext w3 => x.cell A1.c2
    have hne := Ext.there w3
    refine Ext.region (by kernel_rfl) (by kernel_rfl) ?_
    repeat (go_big_quiet_step (fail))
    refine wpQuiet_nil ?_
    rintro _ ⟨xw, rfl⟩
    have G2 := G1.trans (xw.h.mono G1.size)
    clear y0 y1 y2 hne
    generalize xw.w = w4 at *
    clear xw
    go_wp2_with fail
    go_ret
    exact ⟨by first | rfl | (congr 2 <;> simp), G2⟩
  have h1a : decide (0 ≤ b) = true := decide_eq_true (by omega)
  by_cases h2 : (len : Int) < b
  · have hf : f = false := by rw [← h, decide_eq_false (by omega)]; rfl
    subst hf
    have h2a : decide (b < (len : Int)) = false := decide_eq_false (by omega)
    have h2' : (b == (len : Int)) = false := by simp; omega
    clear h he hz h1 h2
    go_enter Try.func33, Try.ntmps33
    go_wp2_with fail
    generalize w.alloc (.cells #[.int .i64 b, .int .i64 n, .int .i64 d] 27) = w2 at *
    have x0 := fun x : Ext w2 => x.cell A0.c0
    have x1 := fun x : Ext w2 => x.cell A0.c1
    have x2 := fun x : Ext w2 => x.cell A0.c2
    have hne := Ext.there w2
    refine Ext.region (by kernel_rfl) (by kernel_rfl) ?_
    repeat (go_big_quiet_step ((go_at_call 58; exact Ext.call _ (mend_is _ _ _ _))))
    refine wpQuiet_nil ?_
    rintro _ ⟨xw, rfl⟩
    have G1 := G0.trans (xw.h.mono G0.size)
    have A1 := A0.below xw.h
    have L1 := L0.below xw.h
    clear x0 x1 x2 hne A0 L0
    generalize xw.w = w3 at *
    clear xw
    go_wp2_with fail
    have y0 := fun x : Ext w3 => x.cell A1.c0
    have y1 := fun x : Ext w3 => x.cell A1.c1
    have y2 := fun x : Ext w3 => x.cell A1.c2
    have hne := Ext.there w3
    refine Ext.region (by kernel_rfl) (by kernel_rfl) ?_
    repeat (go_big_quiet_step (fail))
    refine wpQuiet_nil ?_
    rintro _ ⟨xw, rfl⟩
    have G2 := G1.trans (xw.h.mono G1.size)
    clear y0 y1 y2 hne
    generalize xw.w = w4 at *
    clear xw
    go_wp2_with fail
    go_ret
    exact ⟨rfl, G2⟩
  by_cases h3 : b = (len : Int)
  · subst h3
    have hf : f = false := by
      rw [← h, if_pos rfl, decide_eq_false (show ¬ Mt.tk n d = 0 from fun e => he ⟨rfl, hz.1 e⟩), Bool.and_false]
    subst hf
    have h2a : decide ((len : Int) < (len : Int)) = false := decide_eq_false (by omega)
    have hcs : (n == 0) = false ∨ (n = 0 ∧ (d == 1) = false) := by
      by_cases e1 : n = 0
      · exact .inr ⟨e1, by simpa using fun e2 => he ⟨rfl, e1, e2⟩⟩
      · exact .inl (by simpa using e1)
    clear h he hz h1 h2
    rcases hcs with hn | ⟨rfl, hn⟩
    · go_enter Try.func33, Try.ntmps33
      go_wp2_with fail
      generalize w.alloc (.cells #[.int .i64 (len : Int), .int .i64 n, .int .i64 d] 27) = w2 at *
      have x0 := fun x : Ext w2 => x.cell A0.c0
      have x1 := fun x : Ext w2 => x.cell A0.c1
      have x2 := fun x : Ext w2 => x.cell A0.c2
      have hne := Ext.there w2
      refine Ext.region (by kernel_rfl) (by kernel_rfl) ?_
      repeat (go_big_quiet_step ((go_at_call 58; exact Ext.call _ (mend_is _ _ _ _))))
      refine wpQuiet_nil ?_
      rintro _ ⟨xw, rfl⟩
      have G1 := G0.trans (xw.h.mono G0.size)
      have A1 := A0.below xw.h
      have L1 := L0.below xw.h
      clear x0 x1 x2 hne A0 L0
      generalize xw.w = w3 at *
      clear xw
      go_wp2_with fail
      have y0 := fun x : Ext w3 => x.cell A1.c0
      have y1 := fun x : Ext w3 => x.cell A1.c1
      have y2 := fun x : Ext w3 => x.cell A1.c2
      have hne := Ext.there w3
      refine Ext.region (by kernel_rfl) (by kernel_rfl) ?_
      repeat (go_big_quiet_step (fail))
      refine wpQuiet_nil ?_
      rintro _ ⟨xw, rfl⟩
      have G2 := G1.trans (xw.h.mono G1.size)
      clear y0 y1 y2 hne
      generalize xw.w = w4 at *
      clear xw
      go_wp2_with fail
      go_ret
      exact ⟨rfl, G2⟩
    · go_enter Try.func33, Try.ntmps33
      go_wp2_with fail
      generalize w.alloc (.cells #[.int .i64 (len : Int), .int .i64 0, .int .i64 d] 27) = w2 at *
      have x0 := fun x : Ext w2 => x.cell A0.c0
      have x1 := fun x : Ext w2 => x.cell A0.c1
      have x2 := fun x : Ext w2 => x.cell A0.c2
      have hne := Ext.there w2
      refine Ext.region (by kernel_rfl) (by kernel_rfl) ?_
      repeat (go_big_quiet_step ((go_at_call 58; exact Ext.call _ (mend_is _ _ _ _))))
      refine wpQuiet_nil ?_
      rintro _ ⟨xw, rfl⟩
      have G1 := G0.trans (xw.h.mono G0.size)
      have A1 := A0.below xw.h
      have L1 := L0.below xw.h
      clear x0 x1 x2 hne A0 L0
      generalize xw.w = w3 at *
      clear xw
      go_wp2_with fail
      have y0 := fun x : Ext w3 => x.cell A1.c0
      have y1 := fun x : Ext w3 => x.cell A1.c1
      have y2 := fun x : Ext w3 => x.cell A1.c2
      have hne := Ext.there w3
      refine Ext.region (by kernel_rfl) (by kernel_rfl) ?_
      repeat (go_big_quiet_step (fail))
      refine wpQuiet_nil ?_
      rintro _ ⟨xw, rfl⟩
      have G2 := G1.trans (xw.h.mono G1.size)
      clear y0 y1 y2 hne
      generalize xw.w = w4 at *
      clear xw
      go_wp2_with fail
      go_ret
      exact ⟨rfl, G2⟩
  have h2a : decide (b < (len : Int)) = true := decide_eq_true (by omega)
  have h2' : (b == (len : Int)) = false := by simpa using h3
  rw [if_neg h3] at h
  have hbl : b.toNat < l.length := by omega
  by_cases h4 : 0 ≤ Mt.tk n d
  · rw [decide_eq_true ⟨by omega, by omega, h4⟩, Bool.true_and, show l[b.toNat]?.getD (0, 0, 0, 0) = atB l b.toNat from rfl] at h
    obtain ⟨bb, off, rfl, hbb, hc⟩ := hL (by omega)
    obtain ⟨_, c1, c2, _⟩ := hc _ hbl
    obtain ⟨t, ht⟩ : ∃ t, Mt.tk n d = t := ⟨_, rfl⟩
    obtain ⟨u, hu⟩ : ∃ u, Mt.bt (atB l b.toNat) = u := ⟨_, rfl⟩
    have ho := hok _ (List.getElem_mem hbl)
    rw [← atB_eq hbl] at ho
    have hu0 : 0 ≤ u := by have := ho.2.2.1; rw [hu] at this; omega
    have HU : Hid (Mt.tk (atB l b.toNat).2.1 (atB l b.toNat).2.2.1 = u) := Lib.hid hu
    rw [ht, hu] at h
    have HF := Lib.hid h
    have HT := Lib.hid ht
    have h40 : 0 ≤ t := by rw [← ht]; exact h4
    have HDU : Hid (decide (0 ≤ Mt.tk n d) = true) := Lib.hid (decide_eq_true h4)
    have h5 : 0 ≤ b := by omega
    have h6 : b < (len : Int) := by omega
    obtain ⟨j, hj⟩ : ∃ j, b.toNat = j := ⟨_, rfl⟩
    rw [hj] at c1 c2 HU
    have hjl : j < len := by omega
    have HC := Lib.hid c1
    have HD := Lib.hid c2
    clear h he hz h1 h2 h3 ho hu ht hc h4 c1 c2 hbl
    generalize (atB l j).2.1 = n2 at *
    generalize (atB l j).2.2.1 = d2 at *
    go_enter Try.func33, Try.ntmps33
    go_wp2_with fail
    generalize w.alloc (.cells #[.int .i64 b, .int .i64 n, .int .i64 d] 27) = w2 at *
    have x0 := fun x : Ext w2 => x.cell A0.c0
    have x1 := fun x : Ext w2 => x.cell A0.c1
    have x2 := fun x : Ext w2 => x.cell A0.c2
    have hne := Ext.there w2
    refine Ext.region (by kernel_rfl) (by kernel_rfl) ?_
    repeat (go_big_quiet_step ((go_at_call 58; exact Ext.call _ (mend_is _ _ _ _))))
    refine wpQuiet_nil ?_
    rintro _ ⟨xw, rfl⟩
    have G1 := G0.trans (xw.h.mono G0.size)
    have A1 := A0.below xw.h
    have L1 := L0.below xw.h
    clear x0 x1 x2 hne A0 L0
    generalize xw.w = w3 at *
    clear xw
    go_wp2_with fail
    have y0 := fun x : Ext w3 => x.cell A1.c0
    have y1 := fun x : Ext w3 => x.cell A1.c1
    have y2 := fun x : Ext w3 => x.cell A1.c2
    have hne := Ext.there w3
    have z1 := fun x : Ext w3 => x.cell ((G1.cell (p := ⟨bb, off + j * 4 + 1, none⟩) hbb).trans HC.out)
    have z2 := fun x : Ext w3 => x.cell ((G1.cell (p := ⟨bb, off + j * 4 + 2, none⟩) hbb).trans HD.out)
    refine Ext.region (by kernel_rfl) (by kernel_rfl) ?_
    repeat (go_big_quiet_step ((first | (go_at_call 59; exact Ext.call _ (mduration_is n d true HDU.out _)) | (go_at_call 52; first | (with_reducible exact Ext.call _ (munits_is n d t HT.out h40 _)) | (with_reducible exact Ext.call _ (munits_is n2 d2 u HU.out hu0 _))))))
    refine wpQuiet_nil ?_
    rintro _ ⟨xw, rfl⟩
    have G2 := G1.trans (xw.h.mono G1.size)
    clear y0 y1 y2 z1 z2 hne
    generalize xw.w = w4 at *
    clear xw
    go_wp2_with fail
    go_ret
    exact ⟨(by rw [← HF.out]; rfl), G2⟩
  · rw [decide_eq_false (fun e => h4 e.2.2), Bool.false_and] at h
    subst h
    have HDU : Hid (decide (0 ≤ Mt.tk n d) = false) := Lib.hid (decide_eq_false h4)
    clear he hz h1 h2 h3 h4 hbl
    go_enter Try.func33, Try.ntmps33
    go_wp2_with fail
    generalize w.alloc (.cells #[.int .i64 b, .int .i64 n, .int .i64 d] 27) = w2 at *
    have x0 := fun x : Ext w2 => x.cell A0.c0
    have x1 := fun x : Ext w2 => x.cell A0.c1
    have x2 := fun x : Ext w2 => x.cell A0.c2
    have hne := Ext.there w2
    refine Ext.region (by kernel_rfl) (by kernel_rfl) ?_
    repeat (go_big_quiet_step ((go_at_call 58; exact Ext.call _ (mend_is _ _ _ _))))
    refine wpQuiet_nil ?_
    rintro _ ⟨xw, rfl⟩
    have G1 := G0.trans (xw.h.mono G0.size)
    have A1 := A0.below xw.h
    have L1 := L0.below xw.h
    clear x0 x1 x2 hne A0 L0
    generalize xw.w = w3 at *
    clear xw
    go_wp2_with fail
    have y0 := fun x : Ext w3 => x.cell A1.c0
    have y1 := fun x : Ext w3 => x.cell A1.c1
    have y2 := fun x : Ext w3 => x.cell A1.c2
    have hne := Ext.there w3
    refine Ext.region (by kernel_rfl) (by kernel_rfl) ?_
    repeat (go_big_quiet_step ((go_at_call 59; exact Ext.call _ (mduration_is n d false HDU.out _))))
    refine wpQuiet_nil ?_
    rintro _ ⟨xw, rfl⟩
    have G2 := G1.trans (xw.h.mono G1.size)
    clear y0 y1 y2 hne
    generalize xw.w = w4 at *
    clear xw
    go_wp2_with fail
    go_ret
    exact ⟨rfl, G2⟩
end Go.Proofs.Ytahdlkdiadlgeaa
