import Derived.Test.YtahdlkdiadlgeaaGAA
import Derived.Test.YtahdlkdiadlgeaaGAG
import Derived.Test.YtahdlkdiadlgeaaGAJ
import Derived.Test.YtahdlkdiadlgeaaGAD
import Derived.Test.YtahdlkdiadlgeaaGAB
/- Tempos: how many 60ths of a second a quarter takes in a bar; times as sums. -/
namespace Go.Proofs.Ytahdlkdiadlgeaa
namespace Te
open Fo (T3 at3)
/-- A tempo as 60ths of a second; -1: it is none. -/
def sc (n d : Int) : Int := if Rt.vld n d = true ∧ 1 ≤ n ∧ n ≤ 10 * d ∧ 60 % d = 0 then n * (60 / d) else -1
theorem sc_cases (n d : Int) : sc n d = -1 ∨ (Rt.vld n d = true ∧ 1 ≤ n ∧ n ≤ 10 * d ∧ 60 % d = 0 ∧ 1 ≤ d ∧ d ≤ 60 ∧ 1 ≤ sc n d ∧ sc n d ≤ 600 ∧ sc n d * d = 60 * n ∧ sc n d = n * (60 / d)) := by
  by_cases h : Rt.vld n d = true ∧ 1 ≤ n ∧ n ≤ 10 * d ∧ 60 % d = 0
  · refine .inr ?_
    have e : sc n d = n * (60 / d) := if_pos h
    obtain ⟨h1, h2, h3, h4⟩ := h
    have hd : 1 ≤ d := (Rt.vld_lim h1).2.2.1
    obtain ⟨k, hk⟩ : ∃ k, 60 / d = k := ⟨_, rfl⟩
    have hm : d * k = 60 := by rw [← hk]; exact Int.mul_ediv_cancel' (Int.dvd_of_emod_eq_zero h4)
    rw [e, hk]
    have hk0 : 1 ≤ k := by
      rcases Int.lt_or_le k 1 with a | a
      · have : d * k ≤ d * 0 := Int.mul_le_mul_of_nonneg_left (by omega) (by omega)
        omega
      · exact a
    have b1 : 1 * 1 ≤ n * k := Int.mul_le_mul h2 hk0 (by decide) (by omega)
    have b2 : n * k ≤ 10 * d * k := Int.mul_le_mul_of_nonneg_right h3 (by omega)
    have b3 : d * 1 ≤ d * k := Int.mul_le_mul_of_nonneg_left hk0 (by omega)
    rw [Int.mul_assoc, hm] at b2
    refine ⟨h1, h2, h3, h4, hd, by omega, by omega, by omega, ?_, rfl⟩
    rw [Int.mul_assoc, Int.mul_comm k d, hm, Int.mul_comm]
  · exact .inl (if_neg h)
def scT (x : T3) : Int := sc x.b x.c
/-- How many tempos begin at a bar or before it, from the first one on. -/
def cnt (l : List T3) (b : Int) : Nat := (l.takeWhile fun x => decide (x.a ≤ b)).length
theorem cnt_le (l : List T3) (b : Int) : cnt l b ≤ l.length := by
  unfold cnt
  exact (List.takeWhile_sublist _).length_le
theorem cnt_is : ∀ {l : List T3} {b : Int} {k : Nat}, k ≤ l.length → (∀ j, j < k → (at3 l j).a ≤ b) → (k < l.length → ¬ (at3 l k).a ≤ b) → cnt l b = k
  | [], _, k, h, _, _ => by
    obtain rfl : k = 0 := by simpa using h
    rfl
  | x :: l, b, 0, _, _, h2 => by
    have h3 : ¬ x.a ≤ b := h2 (by simp)
    unfold cnt
    rw [List.takeWhile_cons, if_neg (by simpa using h3)]
    rfl
  | x :: l, b, k + 1, h, h1, h2 => by
    have h3 : x.a ≤ b := h1 0 (by omega)
    unfold cnt
    rw [List.takeWhile_cons, if_pos (by simpa using h3), List.length_cons]
    exact congrArg (· + 1) (cnt_is (l := l) (by simpa using h) (fun j hj => h1 (j + 1) (by omega)) (fun hk => h2 (by simpa using hk)))
theorem cnt_below : ∀ {l : List T3} {b : Int} {j : Nat}, j < cnt l b → (at3 l j).a ≤ b
  | [], _, _, h => by simp [cnt] at h
  | x :: l, b, j, h => by
    unfold cnt at h
    rw [List.takeWhile_cons] at h
    by_cases h3 : x.a ≤ b
    · rw [if_pos (by simpa using h3), List.length_cons] at h
      cases j with
      | zero => exact h3
      | succ j => exact cnt_below (l := l) (j := j) (by unfold cnt; omega)
    · rw [if_neg (by simpa using h3)] at h
      simp at h
theorem cnt_stop : ∀ {l : List T3} {b : Int}, cnt l b < l.length → ¬ (at3 l (cnt l b)).a ≤ b
  | [], _, h => by simp at h
  | x :: l, b, h => by
    unfold cnt at h ⊢
    rw [List.takeWhile_cons] at h ⊢
    by_cases h3 : x.a ≤ b
    · rw [if_pos (by simpa using h3), List.length_cons] at h ⊢
      exact cnt_stop (l := l) (by unfold cnt; simpa using h)
    · rw [if_neg (by simpa using h3)]
      exact h3
/-- The tempo of a bar. -/
def tmp (l : List T3) (b : Int) : T3 := at3 l (cnt l b - 1)
def sb (l : List T3) (b : Int) : Int := scT (tmp l b)
/-- Tempos for so many bars. -/
structure ValL (n : Nat) (l : List T3) : Prop where
  one : 1 ≤ l.length
  most : l.length ≤ 1000
  zero : (at3 l 0).a = 0
  ok : ∀ i, i < l.length → 0 ≤ scT (at3 l i) ∧ (at3 l i).a < n
  rise : ∀ i, i + 1 < l.length → (at3 l i).a < (at3 l (i + 1)).a
def Val (bs : List Mt.B) (l : List T3) : Prop := Mt.Val bs ∧ ValL bs.length l
theorem ValL.mono {n : Nat} {l : List T3} (V : ValL n l) {i : Nat} : ∀ {k : Nat}, i + k < l.length → (at3 l i).a ≤ (at3 l (i + k)).a
  | 0, _ => Int.le_refl _
  | k + 1, h => Int.le_trans (V.mono (k := k) (by omega)) (Int.le_of_lt (V.rise (i + k) (by omega)))
theorem ValL.cnt_pos {n : Nat} {l : List T3} (V : ValL n l) {b : Int} (hb : 0 ≤ b) : 0 < cnt l b := by
  rcases Nat.eq_zero_or_pos (cnt l b) with h | h
  · have h1 := V.one
    have := cnt_stop (l := l) (b := b) (by omega)
    rw [h, V.zero] at this
    exact absurd hb this
  · exact h
theorem ValL.scr {n : Nat} {l : List T3} (V : ValL n l) {i : Nat} (hi : i < l.length) : 1 ≤ scT (at3 l i) ∧ scT (at3 l i) ≤ 600 := by
  have h := (V.ok i hi).1
  rcases sc_cases (at3 l i).b (at3 l i).c with h1 | h1
  · unfold scT at h
    omega
  · exact ⟨h1.2.2.2.2.2.2.1, h1.2.2.2.2.2.2.2.1⟩
theorem ValL.tmp_lt {n : Nat} {l : List T3} (V : ValL n l) (b : Int) : cnt l b - 1 < l.length := by
  have h1 := V.one
  have := cnt_le l b
  omega
theorem ValL.sb_r {n : Nat} {l : List T3} (V : ValL n l) (b : Int) : 1 ≤ sb l b ∧ sb l b ≤ 600 := V.scr (V.tmp_lt b)
theorem ValL.vld {n : Nat} {l : List T3} (V : ValL n l) {i : Nat} (hi : i < l.length) : Rt.vld (at3 l i).b (at3 l i).c = true := by
  have h := (V.ok i hi).1
  rcases sc_cases (at3 l i).b (at3 l i).c with h1 | h1
  · unfold scT at h
    omega
  · exact h1.1
/-- How long the first bars take, in 100800ths of a second. -/
def cum (bs : List Mt.B) (l : List T3) : Nat → Int
  | 0 => 0
  | k + 1 => cum bs l k + Mt.bt (atB bs k) * sb l k
theorem cum_succ (bs : List Mt.B) (l : List T3) (k : Nat) : cum bs l (k + 1) = cum bs l k + Mt.bt (atB bs k) * sb l k := rfl
/-- The time of a position. -/
def tm (bs : List Mt.B) (l : List T3) (b : Nat) (t : Int) : Int := cum bs l b + (if b < bs.length then t * sb l b else 0)
theorem bt_r {bs : List Mt.B} (V : Mt.Val bs) {k : Nat} (hk : k < bs.length) : 1 ≤ Mt.bt (atB bs k) ∧ Mt.bt (atB bs k) ≤ 40320 :=
  ⟨(V.2.2.1 k hk).2.2.1, (V.2.2.1 k hk).2.2.2.1⟩
theorem mul_r {a b A B : Int} (h1 : 0 ≤ a) (h2 : a ≤ A) (h3 : 0 ≤ b) (h4 : b ≤ B) : 0 ≤ a * b ∧ a * b ≤ A * B :=
  ⟨Int.mul_nonneg h1 h3, Int.mul_le_mul h2 h4 h3 (Int.le_trans h1 h2)⟩
theorem step_r {bs : List Mt.B} {l : List T3} (V : Val bs l) {k : Nat} (hk : k < bs.length) : 1 ≤ Mt.bt (atB bs k) * sb l k ∧ Mt.bt (atB bs k) * sb l k ≤ 24192000 := by
  obtain ⟨a1, a2⟩ := bt_r V.1 hk
  obtain ⟨b1, b2⟩ := V.2.sb_r (k : Int)
  have h1 := (mul_r (by omega) a2 (by omega) b2).2
  have h2 : 1 * 1 ≤ Mt.bt (atB bs k) * sb l k := Int.mul_le_mul a1 b1 (by decide) (by omega)
  omega
theorem cum_mono {bs : List Mt.B} {l : List T3} (V : Val bs l) {i : Nat} : ∀ {k : Nat}, i + k ≤ bs.length → cum bs l i + k ≤ cum bs l (i + k) ∧ cum bs l (i + k) ≤ cum bs l i + k * 24192000
  | 0, _ => ⟨by simp, by simp⟩
  | k + 1, h => by
    obtain ⟨h1, h2⟩ := cum_mono V (i := i) (k := k) (by omega)
    obtain ⟨h3, h4⟩ := step_r V (k := i + k) (by omega)
    rw [show i + (k + 1) = (i + k) + 1 by omega, cum_succ]
    constructor
    · push_cast at h1 h2 h3 h4 ⊢
      omega
    · push_cast at h1 h2 h3 h4 ⊢
      omega
end Te
end Go.Proofs.Ytahdlkdiadlgeaa

/- The walks of scale, at, takes, earlier. -/
namespace Go.Proofs.Ytahdlkdiadlgeaa
open Go.RowKit

set_option maxHeartbeats 800000 in
theorem rscale_is (n d v : Int) (h : Te.sc n d = v) (w : World) :
    Calls Try.prog 46 #[.agg #[.int .i64 n, .int .i64 d]] w fun e w' => e = .returned (.int .i64 v) ∧ Below w.heap.size w w' := by
  obtain ⟨b, hb⟩ : ∃ b, Rt.vld n d = b := ⟨_, rfl⟩
  have HB := Lib.hid hb
  have A2 := At2.new w n d 25
  have G0 := (Below.refl w.heap.size w).alloc (Nat.le_refl _) (.cells #[.int .i64 n, .int .i64 d] 25)
  unfold Te.sc at h
  cases b with
  | false =>
    rw [if_neg (by rw [hb]; simp)] at h
    subst h
    clear hb
    go_enter Try.func46, Try.ntmps46
    go_wp2_with fail
    refine (rvalid_is n d _ HB.out _).mono ?_; rintro e w2 ⟨rfl, hb⟩
    replace A2 := A2.below hb; have G := G0.trans (hb.mono G0.size)
    have a0 := A2.c0; have a1 := A2.c1
    clear hb A2
    go_wp2_with fail
    go_ret
    exact ⟨rfl, G⟩
  | true =>
    have hlim := Rt.vld_lim hb
    obtain ⟨l1, l2, l3, l4⟩ := hlim
    have hd0 : ¬ d = 0 := by omega
    have hdm : (60 : Int).tmod d = 60 % d := Int.tmod_eq_emod_of_nonneg (by omega)
    by_cases h1 : n < 1
    · rw [if_neg (by omega)] at h
      subst h
      clear hb
      go_enter Try.func46, Try.ntmps46
      go_wp2_with fail
      refine (rvalid_is n d _ HB.out _).mono ?_; rintro e w2 ⟨rfl, hb⟩
      replace A2 := A2.below hb; have G := G0.trans (hb.mono G0.size)
      have a0 := A2.c0; have a1 := A2.c1
      clear hb A2
      go_wp2_with fail
      go_ret
      exact ⟨rfl, G⟩
    by_cases h2 : 10 * d < n
    · rw [if_neg (by omega)] at h
      subst h
      clear hb
      go_enter Try.func46, Try.ntmps46
      go_wp2_with fail
      refine (rvalid_is n d _ HB.out _).mono ?_; rintro e w2 ⟨rfl, hb⟩
      replace A2 := A2.below hb; have G := G0.trans (hb.mono G0.size)
      have a0 := A2.c0; have a1 := A2.c1
      clear hb A2
      go_wp2_with fail
      go_ret
      exact ⟨rfl, G⟩
    by_cases h3 : 60 % d = 0
    · have h3' : (60 % d != 0) = false := by simpa using h3
      rw [if_pos ⟨hb, by omega, by omega, h3⟩] at h
      obtain ⟨q, hq⟩ : ∃ q, (60 : Int) / d = q := ⟨_, rfl⟩
      have hqt : (60 : Int).tdiv d = q := by rw [Int.tdiv_eq_ediv_of_nonneg (by omega), hq]
      have hq0 : 0 ≤ q := by rw [← hq]; exact Int.ediv_nonneg (by omega) (by omega)
      have hq1 : q ≤ 60 := by rw [← hq]; exact Int.ediv_le_self _ (by omega)
      have hr := Te.mul_r (a := n) (b := q) (A := 1000000000) (B := 60) (by omega) l2 hq0 hq1
      obtain ⟨p, hp⟩ : ∃ p, n * q = p := ⟨_, rfl⟩
      rw [hq, hp] at h
      rw [hp] at hr
      obtain ⟨hr0, hr1⟩ := hr
      have hdne : (d == 0) = false := by simpa using hd0
      subst h
      clear hb hq h3
      go_enter Try.func46, Try.ntmps46
      go_wp2_with fail
      refine (rvalid_is n d _ HB.out _).mono ?_; rintro e w2 ⟨rfl, hb⟩
      replace A2 := A2.below hb; have G := G0.trans (hb.mono G0.size)
      have a0 := A2.c0; have a1 := A2.c1
      clear hb
      go_wp2_with fail
      clear a0 a1
      have x0 := fun x : Ext w2 => x.cell A2.c0
      have x1 := fun x : Ext w2 => x.cell A2.c1
      have hne := Ext.there w2
      refine Ext.region (by kernel_rfl) (by kernel_rfl) ?_
      repeat (go_big_quiet_step (fail))
      refine wpQuiet_nil ?_
      rintro _ ⟨xw, rfl⟩
      have G1 := G.trans (xw.h.mono G.size)
      clear x0 x1 hne
      generalize xw.w = w3 at *
      clear xw
      go_wp2_with fail
      go_ret
      exact ⟨by first | rfl | (rw [hp]), G1⟩
    · have h3' : (60 % d != 0) = true := by simpa using h3
      rw [if_neg (fun k => h3 k.2.2.2)] at h
      subst h
      clear hb h3
      go_enter Try.func46, Try.ntmps46
      go_wp2_with fail
      refine (rvalid_is n d _ HB.out _).mono ?_; rintro e w2 ⟨rfl, hb⟩
      replace A2 := A2.below hb; have G := G0.trans (hb.mono G0.size)
      have a0 := A2.c0; have a1 := A2.c1
      clear hb A2
      go_wp2_with fail
      go_ret
      exact ⟨rfl, G⟩

end Go.Proofs.Ytahdlkdiadlgeaa

/- The walk of Valid. -/
namespace Go.Proofs.Ytahdlkdiadlgeaa
open Go.RowKit

set_option maxRecDepth 100000 in
set_option maxHeartbeats 3200000 in
theorem rtvalid_is (bs : List Mt.B) (l : List Fo.T3) (r : Bool) (n1 c1 n2 c2 : Nat) (A1 A2 : Option Addr) (hr : r = true ↔ Te.Val bs l) (h1 : bs.length = n1) (h2 : l.length = n2) (w : World) (hB : SlB w A1 bs) (hL : SlT w A2 l) :
    Calls Try.prog 21 #[.slice A1 n1 c1, .slice A2 n2 c2] w fun e w' => e = .returned (.bool r) ∧ Below w.heap.size w w' := by
  have HR := Lib.hid hr; have HN1 := Lib.hid h1; have HN2 := Lib.hid h2; have HB := Lib.hid hB; have HL := Lib.hid hL
  obtain ⟨u, hu⟩ : ∃ u : Bool, u = true ↔ Mt.Val bs := ⟨@decide _ (Classical.propDecidable _), @decide_eq_true_iff _ (Classical.propDecidable _)⟩
  have HV := Lib.hid hu
  clear hr h1 h2 hB hL hu
  cases u with
  | false =>
    obtain rfl : r = false := by
      cases r with
      | false => rfl
      | true => exact absurd (HR.out.1 rfl) (fun V => (by have := HV.out.2 V.1; cases this))
    go_enter Try.func21, Try.ntmps21
    go_wp2_with fail
    refine (kvalid_is bs false n1 c1 A1 HV.out HN1.out _ HB.out).mono ?_; rintro e w2 ⟨rfl, hb⟩
    go_wp2_with fail
    go_ret
    exact ⟨rfl, hb⟩
  | true =>
  have HVB := Lib.hid (HV.out.1 rfl)
  have hn1 : n1 ≤ 4000 := by have := HVB.out.2.1; have := HN1.out; omega
  by_cases k1 : n2 < 1
  · have k1' : (n2 : Int) < 1 := by omega
    obtain rfl : r = false := by
      cases r with
      | false => rfl
      | true => exact absurd (HR.out.1 rfl) (fun V => (by have := V.2.one; have := HN2.out; omega))
    go_enter Try.func21, Try.ntmps21
    go_wp2_with fail
    refine (kvalid_is bs true n1 c1 A1 ⟨fun _ => HVB.out, fun _ => rfl⟩ HN1.out _ HB.out).mono ?_; rintro e w2 ⟨rfl, hb⟩
    go_wp2_with fail
    go_ret
    exact ⟨rfl, hb⟩
  by_cases k2 : 1000 < n2
  · have k2' : (1000 : Int) < (n2 : Int) := by omega
    have k1' : ¬ (n2 : Int) < 1 := by omega
    obtain rfl : r = false := by
      cases r with
      | false => rfl
      | true => exact absurd (HR.out.1 rfl) (fun V => (by have := V.2.most; have := HN2.out; omega))
    go_enter Try.func21, Try.ntmps21
    go_wp2_with fail
    refine (kvalid_is bs true n1 c1 A1 ⟨fun _ => HVB.out, fun _ => rfl⟩ HN1.out _ HB.out).mono ?_; rintro e w2 ⟨rfl, hb⟩
    go_wp2_with fail
    go_ret
    exact ⟨rfl, hb⟩
  have k1' : ¬ (n2 : Int) < 1 := by omega
  have k2' : ¬ (1000 : Int) < (n2 : Int) := by omega
  obtain ⟨bb, off, rfl, hbb, hc⟩ := HL.out (by have := HN2.out; omega)
  have HC := Lib.hid hc
  have X0 := hc 0 (by have := HN2.out; omega)
  rw [Nat.zero_mul, Nat.add_zero] at X0
  obtain ⟨z, hz⟩ : ∃ z, (Fo.at3 l 0).a = z := ⟨_, rfl⟩
  have Z0 := X0.c0
  rw [hz] at Z0
  have HZ := Lib.hid hz
  have hl0 : (0 : Int) < (n2 : Int) := by omega
  clear hc X0 hz
  by_cases k3 : z = 0
  case neg =>
    have k3' : (z != 0) = true := by simpa using k3
    obtain rfl : r = false := by
      cases r with
      | false => rfl
      | true => exact absurd (HR.out.1 rfl) (fun V => (by have := V.2.zero; have := HZ.out; omega))
    go_enter Try.func21, Try.ntmps21
    go_wp2_with fail
    refine (kvalid_is bs true n1 c1 A1 ⟨fun _ => HVB.out, fun _ => rfl⟩ HN1.out _ HB.out).mono ?_; rintro e w2 ⟨rfl, hb⟩
    have y0 := (hb.cell (p := ⟨bb, off, none⟩) hbb).trans Z0
    clear k3
    go_wp2_with fail
    go_ret
    exact ⟨rfl, hb⟩
  case pos =>
  have k3' : (z != 0) = false := by simpa using k3
  go_enter Try.func21, Try.ntmps21
  go_wp2_with fail
  refine (kvalid_is bs true n1 c1 A1 ⟨fun _ => HVB.out, fun _ => rfl⟩ HN1.out _ HB.out).mono ?_; rintro e w2 ⟨rfl, hb⟩
  have y0 := (hb.cell (p := ⟨bb, off, none⟩) hbb).trans Z0
  have HK3 := Lib.hid k3
  clear k3
  go_wp2_with fail
  clear y0 Z0 k3'
  go_loopw [6] (fun s6 wr => ∃ (i : Nat) (q : Int), i ≤ n2 ∧ q = i ∧ s6 = .int .i64 q ∧ Hid ((∀ j, j < i → 0 ≤ Te.scT (Fo.at3 l j) ∧ (Fo.at3 l j).a < (n1 : Int)) ∧ ∀ j, j + 1 < i → (Fo.at3 l j).a < (Fo.at3 l (j + 1)).a) ∧ Below w.heap.size w wr) (fun s6 _ => n2 - (intOf s6).toNat)
  case atStart => exact ⟨0, 0, Nat.zero_le _, rfl, rfl, Lib.hid ⟨fun j hj => by omega, fun j hj => by omega⟩, hb⟩
  case round =>
    clear hb
    obtain ⟨i, q, hi, hq, rfl, HE, B⟩ := hrel
    have HQ := Lib.hid hq
    have hq0 : 0 ≤ q := by omega
    have hqn : q.toNat = i := by omega
    have hqm : q ≤ 1000 := by omega
    by_cases hlt : i < n2
    case neg =>
      obtain rfl : i = n2 := by omega
      have hq1 : ¬ q < (i : Int) := by omega
      obtain rfl : r = true := HR.out.2 ⟨HVB.out, by have := HN2.out; omega, by have := HN2.out; omega, by rw [HZ.out]; exact HK3.out, fun j hj => by have := HE.out.1 j (by rw [← HN2.out]; exact hj); rw [HN1.out]; exact this, fun j hj => HE.out.2 j (by rw [← HN2.out]; exact hj)⟩
      clear hq
      go_wp2_with fail
      go_ret
      exact ⟨rfl, B⟩
    case pos =>
    have hq1 : q < (n2 : Int) := by omega
    have HLT := Lib.hid hlt
    have X := (HC.out i (by rw [HN2.out]; exact hlt)).below B hbb
    obtain ⟨x, hx⟩ : ∃ x, Fo.at3 l i = x := ⟨_, rfl⟩
    rw [hx] at X
    have HX := Lib.hid hx
    obtain ⟨s, hs⟩ : ∃ s, Te.sc x.b x.c = s := ⟨_, rfl⟩
    have HS := Lib.hid hs
    have HSC := fun y : Ext wr => rscale_is x.b x.c s HS.out y.w
    have c0 := fun y : Ext wr => y.cell X.c0; have c1 := fun y : Ext wr => y.cell X.c1; have c2 := fun y : Ext wr => y.cell X.c2
    have hne := Ext.there wr
    clear hq hlt hx hs X
    by_cases m1 : s < 0
    · have m1' : decide (s < 0) = true := decide_eq_true m1
      obtain rfl : r = false := by
        cases r with
        | false => rfl
        | true => exact absurd (HR.out.1 rfl) (fun V => (by have h9 := (V.2.ok i (by rw [HN2.out]; exact HLT.out)).1; rw [HX.out] at h9; unfold Te.scT at h9; rw [HS.out] at h9; omega))
      clear m1
      go_wp2_with fail
      refine Ext.region (by kernel_rfl) (by kernel_rfl) ?_
      repeat (go_big_quiet_step ((go_at_call 46; exact Ext.call _ (HSC _))))
      refine wpQuiet_nil ?_
      rintro _ ⟨xw, rfl⟩
      have B1 := B.trans (xw.h.mono B.size)
      clear c0 c1 c2 hne HSC
      (try clear d0)
      generalize xw.w = w5 at *
      clear xw
      go_wp2_with fail
      go_ret
      exact ⟨rfl, B1⟩
    have m1' : decide (s < 0) = false := decide_eq_false m1
    by_cases m2 : (n1 : Int) ≤ x.a
    · have m2' : decide ((n1 : Int) ≤ x.a) = true := decide_eq_true m2
      obtain rfl : r = false := by
        cases r with
        | false => rfl
        | true => exact absurd (HR.out.1 rfl) (fun V => (by have h9 := (V.2.ok i (by rw [HN2.out]; exact HLT.out)).2; rw [HX.out, HN1.out] at h9; omega))
      clear m1 m2
      go_wp2_with fail
      refine Ext.region (by kernel_rfl) (by kernel_rfl) ?_
      repeat (go_big_quiet_step ((go_at_call 46; exact Ext.call _ (HSC _))))
      refine wpQuiet_nil ?_
      rintro _ ⟨xw, rfl⟩
      have B1 := B.trans (xw.h.mono B.size)
      clear c0 c1 c2 hne HSC
      (try clear d0)
      generalize xw.w = w5 at *
      clear xw
      go_wp2_with fail
      go_ret
      exact ⟨rfl, B1⟩
    have m2' : decide ((n1 : Int) ≤ x.a) = false := decide_eq_false m2
    by_cases m3 : i = 0
    · obtain rfl : q = 0 := by have := HQ.out; omega
      subst m3
      rw [Nat.zero_mul, Nat.add_zero] at c0 c1 c2
      have HE2 : Hid ((∀ j, j < 0 + 1 → 0 ≤ Te.scT (Fo.at3 l j) ∧ (Fo.at3 l j).a < (n1 : Int)) ∧ ∀ j, j + 1 < 0 + 1 → (Fo.at3 l j).a < (Fo.at3 l (j + 1)).a) := Lib.hid ⟨fun j hj => (by
        obtain rfl : j = 0 := by omega
        rw [HX.out]
        unfold Te.scT
        rw [HS.out]
        omega), fun j hj => by omega⟩
      clear m1 m2 HE
      go_wp2_with fail
      refine Ext.region (by kernel_rfl) (by kernel_rfl) ?_
      repeat (go_big_quiet_step ((go_at_call 46; exact Ext.call _ (HSC _))))
      refine wpQuiet_nil ?_
      rintro _ ⟨xw, rfl⟩
      have B1 := B.trans (xw.h.mono B.size)
      clear c0 c1 c2 hne HSC
      (try clear d0)
      generalize xw.w = w5 at *
      clear xw
      go_wp2_with fail
      go_roundw
      case rel => exact ⟨0 + 1, 1, by have := HLT.out; omega, rfl, rfl, HE2, B1⟩
      case measure => simp [intOf]; have := HLT.out; omega
    have m3' : 0 < q := by have := HQ.out; omega
    have Y := (HC.out (i - 1) (by rw [HN2.out]; have := HLT.out; omega)).below B hbb
    obtain ⟨y, hy⟩ : ∃ y, (Fo.at3 l (i - 1)).a = y := ⟨_, rfl⟩
    have Y0 := Y.c0
    rw [hy] at Y0
    have HY := Lib.hid hy
    have d0 := fun y : Ext wr => y.cell Y0
    have hp0 : 0 ≤ q - 1 := by omega
    have hp1 : q - 1 < (n2 : Int) := by omega
    have hpn : (q - 1).toNat = i - 1 := by have := HQ.out; omega
    clear hy Y
    by_cases m4 : x.a ≤ y
    · have m4' : decide (x.a ≤ y) = true := decide_eq_true m4
      obtain rfl : r = false := by
        cases r with
        | false => rfl
        | true => exact absurd (HR.out.1 rfl) (fun V => (by
            have h9 := V.2.rise (i - 1) (by rw [HN2.out]; have := HLT.out; omega)
            rw [HY.out, show i - 1 + 1 = i by omega, HX.out] at h9
            omega))
      clear m1 m2 m3 m4
      go_wp2_with fail
      refine Ext.region (by kernel_rfl) (by kernel_rfl) ?_
      repeat (go_big_quiet_step ((go_at_call 46; exact Ext.call _ (HSC _))))
      refine wpQuiet_nil ?_
      rintro _ ⟨xw, rfl⟩
      have B1 := B.trans (xw.h.mono B.size)
      clear c0 c1 c2 hne HSC
      (try clear d0)
      generalize xw.w = w5 at *
      clear xw
      go_wp2_with fail
      go_ret
      exact ⟨rfl, B1⟩
    have m4' : decide (x.a ≤ y) = false := decide_eq_false m4
    have HE2 : Hid ((∀ j, j < i + 1 → 0 ≤ Te.scT (Fo.at3 l j) ∧ (Fo.at3 l j).a < (n1 : Int)) ∧ ∀ j, j + 1 < i + 1 → (Fo.at3 l j).a < (Fo.at3 l (j + 1)).a) := Lib.hid ⟨fun j hj => (by
        rcases Nat.lt_or_ge j i with h | h
        · exact HE.out.1 j h
        · obtain rfl : j = i := by omega
          rw [HX.out]
          unfold Te.scT
          rw [HS.out]
          omega), fun j hj => (by
        rcases Nat.lt_or_ge (j + 1) i with h | h
        · exact HE.out.2 j h
        · obtain rfl : j = i - 1 := by omega
          rw [HY.out, show i - 1 + 1 = i by omega, HX.out]
          omega)⟩
    have HM3 := Lib.hid m3
    clear m1 m2 m3 m4 HE
    go_wp2_with fail
    refine Ext.region (by kernel_rfl) (by kernel_rfl) ?_
    repeat (go_big_quiet_step ((go_at_call 46; exact Ext.call _ (HSC _))))
    refine wpQuiet_nil ?_
    rintro _ ⟨xw, rfl⟩
    have B1 := B.trans (xw.h.mono B.size)
    clear c0 c1 c2 hne HSC
    (try clear d0)
    generalize xw.w = w5 at *
    clear xw
    go_wp2_with fail
    go_roundw
    case rel => exact ⟨i + 1, q + 1, by have := HLT.out; omega, by have := HQ.out; omega, rfl, HE2, B1⟩
    case measure => simp [intOf]; have := HLT.out; omega
end Go.Proofs.Ytahdlkdiadlgeaa

/- The walks of At and Seconds. -/
namespace Go.Proofs.Ytahdlkdiadlgeaa
open Go.RowKit

namespace Te
open Fo (T3)
/-- What At answers. -/
structure AtA (bs : List Mt.B) (l : List T3) (b N D E : Int) : Prop where
  ok : Val bs l ∧ 0 ≤ b ∧ b < (bs.length : Int) → (tmp l b).b = N ∧ (tmp l b).c = D ∧ E = 0
  no : ¬ (Val bs l ∧ 0 ≤ b ∧ b < (bs.length : Int)) → N = 0 ∧ D = 0 ∧ E = 1
theorem atA_ex (bs : List Mt.B) (l : List T3) (b : Int) : ∃ N D E, AtA bs l b N D E := by
  by_cases h : Val bs l ∧ 0 ≤ b ∧ b < (bs.length : Int)
  · exact ⟨_, _, _, fun _ => ⟨rfl, rfl, rfl⟩, fun k => absurd h k⟩
  · exact ⟨_, _, _, fun k => absurd k h, fun _ => ⟨rfl, rfl, rfl⟩⟩
/-- Is a position before another one? -/
def Bef (a an ad b bn bd : Int) : Prop := a < b ∨ (a = b ∧ Mt.tk an ad < Mt.tk bn bd)
/-- May the time from a position to another one be asked for? -/
def Ask (bs : List Mt.B) (l : List T3) (a an ad b bn bd : Int) : Prop := Val bs l ∧ Mt.posB bs a an ad = true ∧ Mt.posB bs b bn bd = true ∧ ¬ Bef b bn bd a an ad
/-- What Seconds answers. -/
structure SecA (bs : List Mt.B) (l : List T3) (a an ad b bn bd N D E : Int) : Prop where
  ok : Ask bs l a an ad b bn bd → Rt.makeR (tm bs l b.toNat (Mt.tk bn bd) - tm bs l a.toNat (Mt.tk an ad)) 100800 = (N, D, E)
  no : ¬ Ask bs l a an ad b bn bd → N = 0 ∧ D = 0 ∧ E = 1
theorem secA_ex (bs : List Mt.B) (l : List T3) (a an ad b bn bd : Int) : ∃ N D E, SecA bs l a an ad b bn bd N D E := by
  by_cases h : Ask bs l a an ad b bn bd
  · exact ⟨_, _, _, fun _ => rfl, fun k => absurd h k⟩
  · exact ⟨_, _, _, fun k => absurd k h, fun _ => ⟨rfl, rfl, rfl⟩⟩
end Te
end Go.Proofs.Ytahdlkdiadlgeaa
