import Derived.Test.YtahdlkdiadlgeaaGreatGAA
import Derived.Test.YtahdlkdiadlgeaaGreatGAF
import Derived.Test.YtahdlkdiadlgeaaGreatGAI
import Derived.Test.YtahdlkdiadlgeaaGreatGAD
import Derived.Test.YtahdlkdiadlgeaaGreatGAB
/- Tempos: how many 60ths of a second a quarter takes in a bar; times as sums. -/
namespace Go.Proofs.YtahdlkdiadlgeaaGreat
namespace Te
open Fo (T3 at3)
/-- A tempo as 60ths of a second; -1: it is none. -/
def sc (n d : Int) : Int := if Rt.vld n d = true ∧ 1 ≤ n ∧ n ≤ 10 * d ∧ 60 % d = 0 then n * (60 / d) else -1
theorem sc_cases (n d : Int) : sc n d = -1 ∨ (Rt.vld n d = true ∧ 1 ≤ n ∧ n ≤ 10 * d ∧ 60 % d = 0 ∧ 1 ≤ d ∧ d ≤ 60 ∧ 1 ≤ sc n d ∧ sc n d ≤ 600 ∧ sc n d * d = 60 * n ∧ sc n d = n * (60 / d)) := by
  by_cases h : Rt.vld n d = true ∧ 1 ≤ n ∧ n ≤ 10 * d ∧ 60 % d = 0
  · refine .inr ?_
    have e : sc n d = n * (60 / d) := if_pos h
    obtain ⟨h1, h2, h3, h4⟩ := h
    have hd : 1 ≤ d := (Rt.vld_lim h1).2.2.1
    obtain ⟨k, hk⟩ : ∃ k, 60 / d = k := ⟨_, rfl⟩
    have hm : d * k = 60 := by rw [← hk]; exact Int.mul_ediv_cancel' (Int.dvd_of_emod_eq_zero h4)
    rw [e, hk]
    have hk0 : 1 ≤ k := by
      rcases Int.lt_or_le k 1 with a | a
      · have : d * k ≤ d * 0 := Int.mul_le_mul_of_nonneg_left (by omega) (by omega)
        omega
      · exact a
    have b1 : 1 * 1 ≤ n * k := Int.mul_le_mul h2 hk0 (by decide) (by omega)
    have b2 : n * k ≤ 10 * d * k := Int.mul_le_mul_of_nonneg_right h3 (by omega)
    have b3 : d * 1 ≤ d * k := Int.mul_le_mul_of_nonneg_left hk0 (by omega)
    rw [Int.mul_assoc, hm] at b2
    refine ⟨h1, h2, h3, h4, hd, by omega, by omega, by omega, ?_, rfl⟩
    rw [Int.mul_assoc, Int.mul_comm k d, hm, Int.mul_comm]
  · exact .inl (if_neg h)
def scT (x : T3) : Int := sc x.b x.c
/-- How many tempos begin at a bar or before it, from the first one on. -/
def cnt (l : List T3) (b : Int) : Nat := (l.takeWhile fun x => decide (x.a ≤ b)).length
theorem cnt_le (l : List T3) (b : Int) : cnt l b ≤ l.length := by
  unfold cnt
  exact (List.takeWhile_sublist _).length_le
theorem cnt_is : ∀ {l : List T3} {b : Int} {k : Nat}, k ≤ l.length → (∀ j, j < k → (at3 l j).a ≤ b) → (k < l.length → ¬ (at3 l k).a ≤ b) → cnt l b = k
  | [], _, k, h, _, _ => by
    obtain rfl : k = 0 := by simpa using h
    rfl
  | x :: l, b, 0, _, _, h2 => by
    have h3 : ¬ x.a ≤ b := h2 (by simp)
    unfold cnt
    rw [List.takeWhile_cons, if_neg (by simpa using h3)]
    rfl
  | x :: l, b, k + 1, h, h1, h2 => by
    have h3 : x.a ≤ b := h1 0 (by omega)
    unfold cnt
    rw [List.takeWhile_cons, if_pos (by simpa using h3), List.length_cons]
    exact congrArg (· + 1) (cnt_is (l := l) (by simpa using h) (fun j hj => h1 (j + 1) (by omega)) (fun hk => h2 (by simpa using hk)))
theorem cnt_below : ∀ {l : List T3} {b : Int} {j : Nat}, j < cnt l b → (at3 l j).a ≤ b
  | [], _, _, h => by simp [cnt] at h
  | x :: l, b, j, h => by
    unfold cnt at h
    rw [List.takeWhile_cons] at h
    by_cases h3 : x.a ≤ b
    · rw [if_pos (by simpa using h3), List.length_cons] at h
      cases j with
      | zero => exact h3
      | succ j => exact cnt_below (l := l) (j := j) (by unfold cnt; omega)
    · rw [if_neg (by simpa using h3)] at h
      simp at h
theorem cnt_stop : ∀ {l : List T3} {b : Int}, cnt l b < l.length → ¬ (at3 l (cnt l b)).a ≤ b
  | [], _, h => by simp at h
  | x :: l, b, h => by
    unfold cnt at h ⊢
    rw [List.takeWhile_cons] at h ⊢
    by_cases h3 : x.a ≤ b
    · rw [if_pos (by simpa using h3), List.length_cons] at h ⊢
      exact cnt_stop (l := l) (by unfold cnt; simpa using h)
    · rw [if_neg (by simpa using h3)]
      exact h3
/-- The tempo of a bar. -/
def tmp (l : List T3) (b : Int) : T3 := at3 l (cnt l b - 1)
def sb (l : List T3) (b : Int) : Int := scT (tmp l b)
/-- Tempos for so many bars. -/
structure ValL (n : Nat) (l : List T3) : Prop where
  one : 1 ≤ l.length
  most : l.length ≤ 1000
  zero : (at3 l 0).a = 0
  ok : ∀ i, i < l.length → 0 ≤ scT (at3 l i) ∧ (at3 l i).a < n
  rise : ∀ i, i + 1 < l.length → (at3 l i).a < (at3 l (i + 1)).a
def Val (bs : List Mt.B) (l : List T3) : Prop := Mt.Val bs ∧ ValL bs.length l
theorem ValL.mono {n : Nat} {l : List T3} (V : ValL n l) {i : Nat} : ∀ {k : Nat}, i + k < l.length → (at3 l i).a ≤ (at3 l (i + k)).a
  | 0, _ => Int.le_refl _
  | k + 1, h => Int.le_trans (V.mono (k := k) (by omega)) (Int.le_of_lt (V.rise (i + k) (by omega)))
theorem ValL.cnt_pos {n : Nat} {l : List T3} (V : ValL n l) {b : Int} (hb : 0 ≤ b) : 0 < cnt l b := by
  rcases Nat.eq_zero_or_pos (cnt l b) with h | h
  · have h1 := V.one
    have := cnt_stop (l := l) (b := b) (by omega)
    rw [h, V.zero] at this
    exact absurd hb this
  · exact h
theorem ValL.scr {n : Nat} {l : List T3} (V : ValL n l) {i : Nat} (hi : i < l.length) : 1 ≤ scT (at3 l i) ∧ scT (at3 l i) ≤ 600 := by
  have h := (V.ok i hi).1
  rcases sc_cases (at3 l i).b (at3 l i).c with h1 | h1
  · unfold scT at h
    omega
  · exact ⟨h1.2.2.2.2.2.2.1, h1.2.2.2.2.2.2.2.1⟩
theorem ValL.tmp_lt {n : Nat} {l : List T3} (V : ValL n l) (b : Int) : cnt l b - 1 < l.length := by
  have h1 := V.one
  have := cnt_le l b
  omega
theorem ValL.sb_r {n : Nat} {l : List T3} (V : ValL n l) (b : Int) : 1 ≤ sb l b ∧ sb l b ≤ 600 := V.scr (V.tmp_lt b)
theorem ValL.vld {n : Nat} {l : List T3} (V : ValL n l) {i : Nat} (hi : i < l.length) : Rt.vld (at3 l i).b (at3 l i).c = true := by
  have h := (V.ok i hi).1
  rcases sc_cases (at3 l i).b (at3 l i).c with h1 | h1
  · unfold scT at h
    omega
  · exact h1.1
/-- How long the first bars take, in 100800ths of a second. -/
def cum (bs : List Mt.B) (l : List T3) : Nat → Int
  | 0 => 0
  | k + 1 => cum bs l k + Mt.bt (atB bs k) * sb l k
theorem cum_succ (bs : List Mt.B) (l : List T3) (k : Nat) : cum bs l (k + 1) = cum bs l k + Mt.bt (atB bs k) * sb l k := rfl
/-- The time of a position. -/
def tm (bs : List Mt.B) (l : List T3) (b : Nat) (t : Int) : Int := cum bs l b + (if b < bs.length then t * sb l b else 0)
theorem bt_r {bs : List Mt.B} (V : Mt.Val bs) {k : Nat} (hk : k < bs.length) : 1 ≤ Mt.bt (atB bs k) ∧ Mt.bt (atB bs k) ≤ 40320 :=
  ⟨(V.2.2.1 k hk).2.2.1, (V.2.2.1 k hk).2.2.2.1⟩
theorem mul_r {a b A B : Int} (h1 : 0 ≤ a) (h2 : a ≤ A) (h3 : 0 ≤ b) (h4 : b ≤ B) : 0 ≤ a * b ∧ a * b ≤ A * B :=
  ⟨Int.mul_nonneg h1 h3, Int.mul_le_mul h2 h4 h3 (Int.le_trans h1 h2)⟩
theorem step_r {bs : List Mt.B} {l : List T3} (V : Val bs l) {k : Nat} (hk : k < bs.length) : 1 ≤ Mt.bt (atB bs k) * sb l k ∧ Mt.bt (atB bs k) * sb l k ≤ 24192000 := by
  obtain ⟨a1, a2⟩ := bt_r V.1 hk
  obtain ⟨b1, b2⟩ := V.2.sb_r (k : Int)
  have h1 := (mul_r (by omega) a2 (by omega) b2).2
  have h2 : 1 * 1 ≤ Mt.bt (atB bs k) * sb l k := Int.mul_le_mul a1 b1 (by decide) (by omega)
  omega
theorem cum_mono {bs : List Mt.B} {l : List T3} (V : Val bs l) {i : Nat} : ∀ {k : Nat}, i + k ≤ bs.length → cum bs l i + k ≤ cum bs l (i + k) ∧ cum bs l (i + k) ≤ cum bs l i + k * 24192000
  | 0, _ => ⟨by simp, by simp⟩
  | k + 1, h => by
    obtain ⟨h1, h2⟩ := cum_mono V (i := i) (k := k) (by omega)
    obtain ⟨h3, h4⟩ := step_r V (k := i + k) (by omega)
    rw [show i + (k + 1) = (i + k) + 1 by omega, cum_succ]
    constructor
    · push_cast at h1 h2 h3 h4 ⊢
      omega
    · push_cast at h1 h2 h3 h4 ⊢
      omega
end Te
end Go.Proofs.YtahdlkdiadlgeaaGreat

/- The walks of scale, at, takes, earlier. -/
namespace Go.Proofs.YtahdlkdiadlgeaaGreat
open Go.RowKit

set_option maxHeartbeats 800000 in
theorem rscale_is (n d v : Int) (h : Te.sc n d = v) (w : World) :
    Calls Tryz.prog 22 #[.agg #[.int .i64 n, .int .i64 d]] w fun e w' => e = .returned (.int .i64 v) ∧ Below w.heap.size w w' := by
  obtain ⟨b, hb⟩ : ∃ b, Rt.vld n d = b := ⟨_, rfl⟩
  have HB := Lib.hid hb
  have A2 := At2.new w n d 25
  have G0 := (Below.refl w.heap.size w).alloc (Nat.le_refl _) (.cells #[.int .i64 n, .int .i64 d] 25)
  unfold Te.sc at h
  cases b with
  | false =>
    rw [if_neg (by rw [hb]; simp)] at h
    subst h
    clear hb
    go_enter Tryz.func22, Tryz.ntmps22
    go_wp2_with fail
    refine (rvalid_is n d _ HB.out _).mono ?_; rintro e w2 ⟨rfl, hb⟩
    replace A2 := A2.below hb; have G := G0.trans (hb.mono G0.size)
    have a0 := A2.c0; have a1 := A2.c1
    clear hb A2
    go_wp2_with fail
    go_ret
    exact ⟨rfl, G⟩
  | true =>
    have hlim := Rt.vld_lim hb
    obtain ⟨l1, l2, l3, l4⟩ := hlim
    have hd0 : ¬ d = 0 := by omega
    have hdm : (60 : Int).tmod d = 60 % d := Int.tmod_eq_emod_of_nonneg (by omega)
    by_cases h1 : n < 1
    · rw [if_neg (by omega)] at h
      subst h
      clear hb
      go_enter Tryz.func22, Tryz.ntmps22
      go_wp2_with fail
      refine (rvalid_is n d _ HB.out _).mono ?_; rintro e w2 ⟨rfl, hb⟩
      replace A2 := A2.below hb; have G := G0.trans (hb.mono G0.size)
      have a0 := A2.c0; have a1 := A2.c1
      clear hb A2
      go_wp2_with fail
      go_ret
      exact ⟨rfl, G⟩
    by_cases h2 : 10 * d < n
    · rw [if_neg (by omega)] at h
      subst h
      clear hb
      go_enter Tryz.func22, Tryz.ntmps22
      go_wp2_with fail
      refine (rvalid_is n d _ HB.out _).mono ?_; rintro e w2 ⟨rfl, hb⟩
      replace A2 := A2.below hb; have G := G0.trans (hb.mono G0.size)
      have a0 := A2.c0; have a1 := A2.c1
      clear hb A2
      go_wp2_with fail
      go_ret
      exact ⟨rfl, G⟩
    by_cases h3 : 60 % d = 0
    · have h3' : (60 % d != 0) = false := by simpa using h3
      rw [if_pos ⟨hb, by omega, by omega, h3⟩] at h
      obtain ⟨q, hq⟩ : ∃ q, (60 : Int) / d = q := ⟨_, rfl⟩
      have hqt : (60 : Int).tdiv d = q := by rw [Int.tdiv_eq_ediv_of_nonneg (by omega), hq]
      have hq0 : 0 ≤ q := by rw [← hq]; exact Int.ediv_nonneg (by omega) (by omega)
      have hq1 : q ≤ 60 := by rw [← hq]; exact Int.ediv_le_self _ (by omega)
      have hr := Te.mul_r (a := n) (b := q) (A := 1000000000) (B := 60) (by omega) l2 hq0 hq1
      obtain ⟨p, hp⟩ : ∃ p, n * q = p := ⟨_, rfl⟩
      rw [hq, hp] at h
      rw [hp] at hr
      obtain ⟨hr0, hr1⟩ := hr
      have hdne : (d == 0) = false := by simpa using hd0
      subst h
      clear hb hq h3
      go_enter Tryz.func22, Tryz.ntmps22
      go_wp2_with fail
      refine (rvalid_is n d _ HB.out _).mono ?_; rintro e w2 ⟨rfl, hb⟩
      replace A2 := A2.below hb; have G := G0.trans (hb.mono G0.size)
      have a0 := A2.c0; have a1 := A2.c1
      clear hb
      go_wp2_with fail
      clear a0 a1
      have x0 := fun x : Ext w2 => x.cell A2.c0
      have x1 := fun x : Ext w2 => x.cell A2.c1
      have hne := Ext.there w2
      refine Ext.region (by kernel_rfl) (by kernel_rfl) ?_
      repeat (go_big_quiet_step (fail))
      refine wpQuiet_nil ?_
      rintro _ ⟨xw, rfl⟩
      have G1 := G.trans (xw.h.mono G.size)
      clear x0 x1 hne
      generalize xw.w = w3 at *
      clear xw
      go_wp2_with fail
      go_ret
      exact ⟨by first | rfl | (rw [hp]), G1⟩
    · have h3' : (60 % d != 0) = true := by simpa using h3
      rw [if_neg (fun k => h3 k.2.2.2)] at h
      subst h
      clear hb h3
      go_enter Tryz.func22, Tryz.ntmps22
      go_wp2_with fail
      refine (rvalid_is n d _ HB.out _).mono ?_; rintro e w2 ⟨rfl, hb⟩
      replace A2 := A2.below hb; have G := G0.trans (hb.mono G0.size)
      have a0 := A2.c0; have a1 := A2.c1
      clear hb A2
      go_wp2_with fail
      go_ret
      exact ⟨rfl, G⟩

set_option maxHeartbeats 1600000 in
theorem rat_is (l : List Fo.T3) (b n d : Int) (len cap : Nat) (A : Option Addr) (hl : l.length = len) (h1 : 1 ≤ len) (hmax : len ≤ 1000000) (hn : (Te.tmp l b).b = n) (hd : (Te.tmp l b).c = d) (w : World) (hL : SlT w A l) :
    Calls Tryz.prog 18 #[.slice A len cap, .int .i64 b] w fun e w' => e = .returned (.agg #[.int .i64 n, .int .i64 d]) ∧ Below w.heap.size w w' := by
  have HN := Lib.hid hl; have HND := Lib.hid (And.intro hn hd)
  obtain ⟨bb, off, rfl, hbb, hc⟩ := hL (by omega)
  have HC := Lib.hid hc
  have X0 := hc 0 (by omega)
  obtain ⟨x0, hx0⟩ : ∃ x, Fo.at3 l 0 = x := ⟨_, rfl⟩
  rw [hx0] at X0
  obtain ⟨a0, a1, a2⟩ := X0
  have HX0 := Lib.hid hx0
  have e0 : off + 0 * 3 = off := by omega
  rw [e0] at a0 a1 a2
  have hl0 : (0 : Int) < (len : Int) := by omega
  clear hl hL hn hd hc hx0 e0
  go_enter Tryz.func18, Tryz.ntmps18
  go_wp2_with fail
  have R := Var2.new w 0 0 25
  have V := Var2.new (w.alloc (.cells #[.int .i64 0, .int .i64 0] 25)) x0.b x0.c 25
  rw [World.size_alloc] at V
  replace R := R.alloc (.cells #[.int .i64 x0.b, .int .i64 x0.c] 25)
  have G0 := ((Below.refl w.heap.size w).alloc (Nat.le_refl _) (.cells #[.int .i64 0, .int .i64 0] 25)).alloc (by simp) (.cells #[.int .i64 x0.b, .int .i64 x0.c] 25)
  go_loopw [6] (fun s6 wr => ∃ (i : Nat) (q : Int), i ≤ len ∧ q = i ∧ s6 = .int .i64 q ∧ Hid (∀ j, j < i → (Fo.at3 l j).a ≤ b) ∧ Var2 wr (w.heap.size + 1) (Fo.at3 l (i - 1)).b (Fo.at3 l (i - 1)).c ∧ Var2 wr w.heap.size 0 0 ∧ Below w.heap.size w wr) (fun s6 _ => len - (intOf s6).toNat)
  case atStart => exact ⟨0, 0, Nat.zero_le _, rfl, rfl, Lib.hid (fun j hj => by omega), (by have e := HX0.out; subst e; exact V), R, G0⟩
  case round =>
    obtain ⟨i, q, hi, hq, rfl, HJ, V, R, B⟩ := hrel
    obtain ⟨y, hy⟩ : ∃ y, Fo.at3 l (i - 1) = y := ⟨_, rfl⟩
    rw [hy] at V
    have HY := Lib.hid hy; have HQ := Lib.hid hq
    have hq0 : 0 ≤ q := by omega
    have hqn : q.toNat = i := by omega
    have hqm : q ≤ 1000000 := by omega
    clear hy
    have v0 := V.at2.c0; have v1 := V.at2.c1; have vl := V.at2.lt; have r0 := R.at2.c0; have r1 := R.at2.c1; have rl := R.at2.lt
    have vf0 := V.f0; have vf1 := V.f1; have rf0 := R.f0; have rf1 := R.f1
    have hvr : ¬ w.heap.size + 1 = w.heap.size := by omega
    by_cases hlt : i < len
    · have X := (HC.out i (by rw [HN.out]; exact hlt)).below B hbb
      obtain ⟨x, hx⟩ : ∃ x, Fo.at3 l i = x := ⟨_, rfl⟩
      rw [hx] at X
      have HX := Lib.hid hx
      obtain ⟨c0, c1, c2⟩ := X
      have hq1 : q < (len : Int) := by omega
      have HLT := Lib.hid hlt
      clear hx hq hlt
      by_cases ha : x.a ≤ b
      · have HJ2 : Hid (∀ j, j < i + 1 → (Fo.at3 l j).a ≤ b) := Lib.hid (fun j hj => by
          rcases Nat.lt_or_ge j i with h | h
          · exact HJ.out j h
          · rw [show j = i by omega, HX.out]; exact ha)
        have V2 := V.put x.b x.c
        have R2 := (R.ne (w.heap.size + 1) 0 (.int .i64 x.b) (by omega)).ne (w.heap.size + 1) 1 (.int .i64 x.c) (by omega)
        have B2 := (B.setCell (p := ⟨w.heap.size + 1, 0, none⟩) (show w.heap.size ≤ w.heap.size + 1 by omega) (.int .i64 x.b)).setCell (p := ⟨w.heap.size + 1, 1, none⟩) (show w.heap.size ≤ w.heap.size + 1 by omega) (.int .i64 x.c)
        clear V R B
        go_wp2_with fail
        go_roundw
        case rel => exact ⟨i + 1, q + 1, by have := HLT.out; omega, by have := HQ.out; omega, rfl, HJ2, (by have e := HX.out; subst e; exact V2), R2, B2⟩
        case measure => simp [intOf]; have := HLT.out; omega
      · have HCN : Hid (Te.cnt l b = i) := Lib.hid (Te.cnt_is (by rw [HN.out]; exact hi) HJ.out (fun _ => by rw [HX.out]; exact ha))
        have R2 := R.put y.b y.c
        have B2 := (B.setCell (p := ⟨w.heap.size, 0, none⟩) (Nat.le_refl _) (.int .i64 y.b)).setCell (p := ⟨w.heap.size, 1, none⟩) (Nat.le_refl _) (.int .i64 y.c)
        go_wp2_with fail
        have z0 := R2.at2.c0; have z1 := R2.at2.c1
        refine bodyPost_ret (v := .agg #[.int .i64 y.b, .int .i64 y.c]) (by simp [results, Tryz.results18, z0, z1, go_sem]) rfl ⟨?_, B2⟩
        have e1 := HND.out
        unfold Te.tmp at e1
        rw [HCN.out, HY.out] at e1
        rw [e1.1, e1.2]
    · obtain rfl : i = len := by omega
      have hq1 : ¬ q < (i : Int) := by omega
      have HCN : Hid (Te.cnt l b = i) := Lib.hid (Te.cnt_is (by rw [HN.out]; exact hi) HJ.out (fun h => by rw [HN.out] at h; omega))
      have R2 := R.put y.b y.c
      have B2 := (B.setCell (p := ⟨w.heap.size, 0, none⟩) (Nat.le_refl _) (.int .i64 y.b)).setCell (p := ⟨w.heap.size, 1, none⟩) (Nat.le_refl _) (.int .i64 y.c)
      clear hq
      go_wp2_with fail
      have z0 := R2.at2.c0; have z1 := R2.at2.c1
      refine bodyPost_ret (v := .agg #[.int .i64 y.b, .int .i64 y.c]) (by simp [results, Tryz.results18, z0, z1, go_sem]) rfl ⟨?_, B2⟩
      have e1 := HND.out
      unfold Te.tmp at e1
      rw [HCN.out, HY.out] at e1
      rw [e1.1, e1.2]
set_option maxHeartbeats 800000 in
theorem rtakes_is (l : List Fo.T3) (b t v : Int) (len cap : Nat) (A : Option Addr) (hl : l.length = len) (h1 : 1 ≤ len) (hmax : len ≤ 1000000) (ht0 : 0 ≤ t) (ht : t ≤ 1000000) (hs : 1 ≤ Te.sb l b ∧ Te.sb l b ≤ 600) (hv : t * Te.sb l b = v) (w : World) (hL : SlT w A l) :
    Calls Tryz.prog 29 #[.slice A len cap, .int .i64 b, .int .i64 t] w fun e w' => e = .returned (.int .i64 v) ∧ Below w.heap.size w w' := by
  have HA := Lib.hid (rat_is l b _ _ len cap A hl h1 hmax rfl rfl w hL)
  have hr := Te.mul_r ht0 ht (by omega) hs.2
  obtain ⟨s, hsb⟩ : ∃ s, Te.sb l b = s := ⟨_, rfl⟩
  rw [hsb] at hv hr
  rw [hv] at hr
  have HV := Lib.hid hv
  obtain ⟨hr0, hr1⟩ := hr
  have HS : Hid (Te.sc (Te.tmp l b).b (Te.tmp l b).c = s) := Lib.hid hsb
  clear hL hl hs hv hsb
  go_enter Tryz.func29, Tryz.ntmps29
  go_wp2_with fail
  refine HA.out.mono ?_; rintro e w2 ⟨rfl, hb⟩
  go_wp2_with fail
  refine (rscale_is _ _ _ HS.out _).mono ?_; rintro e w3 ⟨rfl, hb3⟩
  have B := hb.trans (hb3.mono hb.size)
  clear hb hb3
  have hv := HV.out
  go_wp2_with fail
  go_ret
  exact ⟨by first | rfl | (rw [HV.out]) | simp [HV.out], B⟩
set_option maxHeartbeats 800000 in
theorem rearlier_is (a an ad b bn bd : Int) (r : Bool) (hr : r = true ↔ a < b ∨ (a = b ∧ Mt.tk an ad < Mt.tk bn bd)) (w : World) :
    Calls Tryz.prog 28 #[.agg #[.int .i64 a, .int .i64 an, .int .i64 ad], .agg #[.int .i64 b, .int .i64 bn, .int .i64 bd]] w fun e w' => e = .returned (.bool r) ∧ Below w.heap.size w w' := by
  have P := (At3.new w a an ad 27).alloc (.cells #[.int .i64 b, .int .i64 bn, .int .i64 bd] 27)
  have Q := At3.new (w.alloc (.cells #[.int .i64 a, .int .i64 an, .int .i64 ad] 27)) b bn bd 27
  rw [World.size_alloc] at Q
  have B := ((Below.refl w.heap.size w).alloc (Nat.le_refl _) (.cells #[.int .i64 a, .int .i64 an, .int .i64 ad] 27)).alloc (by simp) (.cells #[.int .i64 b, .int .i64 bn, .int .i64 bd] 27)
  by_cases h1 : a < b
  · obtain rfl : r = true := hr.2 (.inl h1)
    clear hr
    go_enter Tryz.func28, Tryz.ntmps28
    go_wp2_with fail
    obtain ⟨w2, hw2⟩ : ∃ x, (w.alloc (.cells #[.int .i64 a, .int .i64 an, .int .i64 ad] 27)).alloc (.cells #[.int .i64 b, .int .i64 bn, .int .i64 bd] 27) = x := ⟨_, rfl⟩
    rw [hw2] at P Q B ⊢
    clear hw2
    have x0 := fun x : Ext w2 => x.cell P.c0; have x1 := fun x : Ext w2 => x.cell P.c1; have x2 := fun x : Ext w2 => x.cell P.c2
    have y0 := fun x : Ext w2 => x.cell Q.c0; have y1 := fun x : Ext w2 => x.cell Q.c1; have y2 := fun x : Ext w2 => x.cell Q.c2
    have hne := Ext.there w2
    refine Ext.region (by kernel_rfl) (by kernel_rfl) ?_
    repeat (go_big_quiet_step ((go_at_call 30; exact Ext.call _ (kticks_is _ _ _ rfl _))))
    refine wpQuiet_nil ?_
    rintro _ ⟨xw, rfl⟩
    have B1 := B.trans (xw.h.mono B.size)
    clear x0 x1 x2 y0 y1 y2 hne
    generalize xw.w = w3 at *
    clear xw
    go_wp2_with fail
    go_ret
    exact ⟨rfl, B1⟩
  have h1' : decide (a < b) = false := decide_eq_false h1
  by_cases h2 : a = b
  · have h2' : (a == b) = true := by simpa using h2
    by_cases h3 : Mt.tk an ad < Mt.tk bn bd
    · obtain rfl : r = true := hr.2 (.inr ⟨h2, h3⟩)
      have h3' : decide (Mt.tk an ad < Mt.tk bn bd) = true := decide_eq_true h3
      clear hr h2
      go_enter Tryz.func28, Tryz.ntmps28
      go_wp2_with fail
      obtain ⟨w2, hw2⟩ : ∃ x, (w.alloc (.cells #[.int .i64 a, .int .i64 an, .int .i64 ad] 27)).alloc (.cells #[.int .i64 b, .int .i64 bn, .int .i64 bd] 27) = x := ⟨_, rfl⟩
      rw [hw2] at P Q B ⊢
      clear hw2
      have x0 := fun x : Ext w2 => x.cell P.c0; have x1 := fun x : Ext w2 => x.cell P.c1; have x2 := fun x : Ext w2 => x.cell P.c2
      have y0 := fun x : Ext w2 => x.cell Q.c0; have y1 := fun x : Ext w2 => x.cell Q.c1; have y2 := fun x : Ext w2 => x.cell Q.c2
      have hne := Ext.there w2
      refine Ext.region (by kernel_rfl) (by kernel_rfl) ?_
      repeat (go_big_quiet_step ((go_at_call 30; exact Ext.call _ (kticks_is _ _ _ rfl _))))
      refine wpQuiet_nil ?_
      rintro _ ⟨xw, rfl⟩
      have B1 := B.trans (xw.h.mono B.size)
      clear x0 x1 x2 y0 y1 y2 hne
      generalize xw.w = w3 at *
      clear xw
      go_wp2_with fail
      go_ret
      exact ⟨by first | rfl | simp [h3], B1⟩
    · obtain rfl : r = false := by
        cases r with
        | false => rfl
        | true => rcases hr.1 rfl with h | h
                  · exact absurd h h1
                  · exact absurd h.2 h3
      have h3' : decide (Mt.tk an ad < Mt.tk bn bd) = false := decide_eq_false h3
      clear hr h2
      go_enter Tryz.func28, Tryz.ntmps28
      go_wp2_with fail
      obtain ⟨w2, hw2⟩ : ∃ x, (w.alloc (.cells #[.int .i64 a, .int .i64 an, .int .i64 ad] 27)).alloc (.cells #[.int .i64 b, .int .i64 bn, .int .i64 bd] 27) = x := ⟨_, rfl⟩
      rw [hw2] at P Q B ⊢
      clear hw2
      have x0 := fun x : Ext w2 => x.cell P.c0; have x1 := fun x : Ext w2 => x.cell P.c1; have x2 := fun x : Ext w2 => x.cell P.c2
      have y0 := fun x : Ext w2 => x.cell Q.c0; have y1 := fun x : Ext w2 => x.cell Q.c1; have y2 := fun x : Ext w2 => x.cell Q.c2
      have hne := Ext.there w2
      refine Ext.region (by kernel_rfl) (by kernel_rfl) ?_
      repeat (go_big_quiet_step ((go_at_call 30; exact Ext.call _ (kticks_is _ _ _ rfl _))))
      refine wpQuiet_nil ?_
      rintro _ ⟨xw, rfl⟩
      have B1 := B.trans (xw.h.mono B.size)
      clear x0 x1 x2 y0 y1 y2 hne
      generalize xw.w = w3 at *
      clear xw
      go_wp2_with fail
      go_ret
      exact ⟨by first | rfl | simp [h3], B1⟩
  · obtain rfl : r = false := by
      cases r with
      | false => rfl
      | true => rcases hr.1 rfl with h | h
                · exact absurd h h1
                · exact absurd h.1 h2
    have h2' : (a == b) = false := by simpa using h2
    clear hr h2
    go_enter Tryz.func28, Tryz.ntmps28
    go_wp2_with fail
    obtain ⟨w2, hw2⟩ : ∃ x, (w.alloc (.cells #[.int .i64 a, .int .i64 an, .int .i64 ad] 27)).alloc (.cells #[.int .i64 b, .int .i64 bn, .int .i64 bd] 27) = x := ⟨_, rfl⟩
    rw [hw2] at P Q B ⊢
    clear hw2
    have x0 := fun x : Ext w2 => x.cell P.c0; have x1 := fun x : Ext w2 => x.cell P.c1; have x2 := fun x : Ext w2 => x.cell P.c2
    have y0 := fun x : Ext w2 => x.cell Q.c0; have y1 := fun x : Ext w2 => x.cell Q.c1; have y2 := fun x : Ext w2 => x.cell Q.c2
    have hne := Ext.there w2
    refine Ext.region (by kernel_rfl) (by kernel_rfl) ?_
    repeat (go_big_quiet_step ((go_at_call 30; exact Ext.call _ (kticks_is _ _ _ rfl _))))
    refine wpQuiet_nil ?_
    rintro _ ⟨xw, rfl⟩
    have B1 := B.trans (xw.h.mono B.size)
    clear x0 x1 x2 y0 y1 y2 hne
    generalize xw.w = w3 at *
    clear xw
    go_wp2_with fail
    go_ret
    exact ⟨by first | rfl | simp, B1⟩
end Go.Proofs.YtahdlkdiadlgeaaGreat

/- The walk of Valid. -/
namespace Go.Proofs.YtahdlkdiadlgeaaGreat
open Go.RowKit

set_option maxRecDepth 100000 in
set_option maxHeartbeats 3200000 in
theorem rtvalid_is (bs : List Mt.B) (l : List Fo.T3) (r : Bool) (n1 c1 n2 c2 : Nat) (A1 A2 : Option Addr) (hr : r = true ↔ Te.Val bs l) (h1 : bs.length = n1) (h2 : l.length = n2) (w : World) (hB : SlB w A1 bs) (hL : SlT w A2 l) :
    Calls Tryz.prog 9 #[.slice A1 n1 c1, .slice A2 n2 c2] w fun e w' => e = .returned (.bool r) ∧ Below w.heap.size w w' := by
  have HR := Lib.hid hr; have HN1 := Lib.hid h1; have HN2 := Lib.hid h2; have HB := Lib.hid hB; have HL := Lib.hid hL
  obtain ⟨u, hu⟩ : ∃ u : Bool, u = true ↔ Mt.Val bs := ⟨@decide _ (Classical.propDecidable _), @decide_eq_true_iff _ (Classical.propDecidable _)⟩
  have HV := Lib.hid hu
  clear hr h1 h2 hB hL hu
  cases u with
  | false =>
    obtain rfl : r = false := by
      cases r with
      | false => rfl
      | true => exact absurd (HR.out.1 rfl) (fun V => (by have := HV.out.2 V.1; cases this))
    go_enter Tryz.func9, Tryz.ntmps9
    go_wp2_with fail
    refine (kvalid_is bs false n1 c1 A1 HV.out HN1.out _ HB.out).mono ?_; rintro e w2 ⟨rfl, hb⟩
    go_wp2_with fail
    go_ret
    exact ⟨rfl, hb⟩
  | true =>
  have HVB := Lib.hid (HV.out.1 rfl)
  have hn1 : n1 ≤ 4000 := by have := HVB.out.2.1; have := HN1.out; omega
  by_cases k1 : n2 < 1
  · have k1' : (n2 : Int) < 1 := by omega
    obtain rfl : r = false := by
      cases r with
      | false => rfl
      | true => exact absurd (HR.out.1 rfl) (fun V => (by have := V.2.one; have := HN2.out; omega))
    go_enter Tryz.func9, Tryz.ntmps9
    go_wp2_with fail
    refine (kvalid_is bs true n1 c1 A1 ⟨fun _ => HVB.out, fun _ => rfl⟩ HN1.out _ HB.out).mono ?_; rintro e w2 ⟨rfl, hb⟩
    go_wp2_with fail
    go_ret
    exact ⟨rfl, hb⟩
  by_cases k2 : 1000 < n2
  · have k2' : (1000 : Int) < (n2 : Int) := by omega
    have k1' : ¬ (n2 : Int) < 1 := by omega
    obtain rfl : r = false := by
      cases r with
      | false => rfl
      | true => exact absurd (HR.out.1 rfl) (fun V => (by have := V.2.most; have := HN2.out; omega))
    go_enter Tryz.func9, Tryz.ntmps9
    go_wp2_with fail
    refine (kvalid_is bs true n1 c1 A1 ⟨fun _ => HVB.out, fun _ => rfl⟩ HN1.out _ HB.out).mono ?_; rintro e w2 ⟨rfl, hb⟩
    go_wp2_with fail
    go_ret
    exact ⟨rfl, hb⟩
  have k1' : ¬ (n2 : Int) < 1 := by omega
  have k2' : ¬ (1000 : Int) < (n2 : Int) := by omega
  obtain ⟨bb, off, rfl, hbb, hc⟩ := HL.out (by have := HN2.out; omega)
  have HC := Lib.hid hc
  have X0 := hc 0 (by have := HN2.out; omega)
  rw [Nat.zero_mul, Nat.add_zero] at X0
  obtain ⟨z, hz⟩ : ∃ z, (Fo.at3 l 0).a = z := ⟨_, rfl⟩
  have Z0 := X0.c0
  rw [hz] at Z0
  have HZ := Lib.hid hz
  have hl0 : (0 : Int) < (n2 : Int) := by omega
  clear hc X0 hz
  by_cases k3 : z = 0
  case neg =>
    have k3' : (z != 0) = true := by simpa using k3
    obtain rfl : r = false := by
      cases r with
      | false => rfl
      | true => exact absurd (HR.out.1 rfl) (fun V => (by have := V.2.zero; have := HZ.out; omega))
    go_enter Tryz.func9, Tryz.ntmps9
    go_wp2_with fail
    refine (kvalid_is bs true n1 c1 A1 ⟨fun _ => HVB.out, fun _ => rfl⟩ HN1.out _ HB.out).mono ?_; rintro e w2 ⟨rfl, hb⟩
    have y0 := (hb.cell (p := ⟨bb, off, none⟩) hbb).trans Z0
    clear k3
    go_wp2_with fail
    go_ret
    exact ⟨rfl, hb⟩
  case pos =>
  have k3' : (z != 0) = false := by simpa using k3
  go_enter Tryz.func9, Tryz.ntmps9
  go_wp2_with fail
  refine (kvalid_is bs true n1 c1 A1 ⟨fun _ => HVB.out, fun _ => rfl⟩ HN1.out _ HB.out).mono ?_; rintro e w2 ⟨rfl, hb⟩
  have y0 := (hb.cell (p := ⟨bb, off, none⟩) hbb).trans Z0
  have HK3 := Lib.hid k3
  clear k3
  go_wp2_with fail
  clear y0 Z0 k3'
  go_loopw [6] (fun s6 wr => ∃ (i : Nat) (q : Int), i ≤ n2 ∧ q = i ∧ s6 = .int .i64 q ∧ Hid ((∀ j, j < i → 0 ≤ Te.scT (Fo.at3 l j) ∧ (Fo.at3 l j).a < (n1 : Int)) ∧ ∀ j, j + 1 < i → (Fo.at3 l j).a < (Fo.at3 l (j + 1)).a) ∧ Below w.heap.size w wr) (fun s6 _ => n2 - (intOf s6).toNat)
  case atStart => exact ⟨0, 0, Nat.zero_le _, rfl, rfl, Lib.hid ⟨fun j hj => by omega, fun j hj => by omega⟩, hb⟩
  case round =>
    clear hb
    obtain ⟨i, q, hi, hq, rfl, HE, B⟩ := hrel
    have HQ := Lib.hid hq
    have hq0 : 0 ≤ q := by omega
    have hqn : q.toNat = i := by omega
    have hqm : q ≤ 1000 := by omega
    by_cases hlt : i < n2
    case neg =>
      obtain rfl : i = n2 := by omega
      have hq1 : ¬ q < (i : Int) := by omega
      obtain rfl : r = true := HR.out.2 ⟨HVB.out, by have := HN2.out; omega, by have := HN2.out; omega, by rw [HZ.out]; exact HK3.out, fun j hj => by have := HE.out.1 j (by rw [← HN2.out]; exact hj); rw [HN1.out]; exact this, fun j hj => HE.out.2 j (by rw [← HN2.out]; exact hj)⟩
      clear hq
      go_wp2_with fail
      go_ret
      exact ⟨rfl, B⟩
    case pos =>
    have hq1 : q < (n2 : Int) := by omega
    have HLT := Lib.hid hlt
    have X := (HC.out i (by rw [HN2.out]; exact hlt)).below B hbb
    obtain ⟨x, hx⟩ : ∃ x, Fo.at3 l i = x := ⟨_, rfl⟩
    rw [hx] at X
    have HX := Lib.hid hx
    obtain ⟨s, hs⟩ : ∃ s, Te.sc x.b x.c = s := ⟨_, rfl⟩
    have HS := Lib.hid hs
    have HSC := fun y : Ext wr => rscale_is x.b x.c s HS.out y.w
    have c0 := fun y : Ext wr => y.cell X.c0; have c1 := fun y : Ext wr => y.cell X.c1; have c2 := fun y : Ext wr => y.cell X.c2
    have hne := Ext.there wr
    clear hq hlt hx hs X
    by_cases m1 : s < 0
    · have m1' : decide (s < 0) = true := decide_eq_true m1
      obtain rfl : r = false := by
        cases r with
        | false => rfl
        | true => exact absurd (HR.out.1 rfl) (fun V => (by have h9 := (V.2.ok i (by rw [HN2.out]; exact HLT.out)).1; rw [HX.out] at h9; unfold Te.scT at h9; rw [HS.out] at h9; omega))
      clear m1
      go_wp2_with fail
      refine Ext.region (by kernel_rfl) (by kernel_rfl) ?_
      repeat (go_big_quiet_step ((go_at_call 22; exact Ext.call _ (HSC _))))
      refine wpQuiet_nil ?_
      rintro _ ⟨xw, rfl⟩
      have B1 := B.trans (xw.h.mono B.size)
      clear c0 c1 c2 hne HSC
      (try clear d0)
      generalize xw.w = w5 at *
      clear xw
      go_wp2_with fail
      go_ret
      exact ⟨rfl, B1⟩
    have m1' : decide (s < 0) = false := decide_eq_false m1
    by_cases m2 : (n1 : Int) ≤ x.a
    · have m2' : decide ((n1 : Int) ≤ x.a) = true := decide_eq_true m2
      obtain rfl : r = false := by
        cases r with
        | false => rfl
        | true => exact absurd (HR.out.1 rfl) (fun V => (by have h9 := (V.2.ok i (by rw [HN2.out]; exact HLT.out)).2; rw [HX.out, HN1.out] at h9; omega))
      clear m1 m2
      go_wp2_with fail
      refine Ext.region (by kernel_rfl) (by kernel_rfl) ?_
      repeat (go_big_quiet_step ((go_at_call 22; exact Ext.call _ (HSC _))))
      refine wpQuiet_nil ?_
      rintro _ ⟨xw, rfl⟩
      have B1 := B.trans (xw.h.mono B.size)
      clear c0 c1 c2 hne HSC
      (try clear d0)
      generalize xw.w = w5 at *
      clear xw
      go_wp2_with fail
      go_ret
      exact ⟨rfl, B1⟩
    have m2' : decide ((n1 : Int) ≤ x.a) = false := decide_eq_false m2
    by_cases m3 : i = 0
    · obtain rfl : q = 0 := by have := HQ.out; omega
      subst m3
      rw [Nat.zero_mul, Nat.add_zero] at c0 c1 c2
      have HE2 : Hid ((∀ j, j < 0 + 1 → 0 ≤ Te.scT (Fo.at3 l j) ∧ (Fo.at3 l j).a < (n1 : Int)) ∧ ∀ j, j + 1 < 0 + 1 → (Fo.at3 l j).a < (Fo.at3 l (j + 1)).a) := Lib.hid ⟨fun j hj => (by
        obtain rfl : j = 0 := by omega
        rw [HX.out]
        unfold Te.scT
        rw [HS.out]
        omega), fun j hj => by omega⟩
      clear m1 m2 HE
      go_wp2_with fail
      refine Ext.region (by kernel_rfl) (by kernel_rfl) ?_
      repeat (go_big_quiet_step ((go_at_call 22; exact Ext.call _ (HSC _))))
      refine wpQuiet_nil ?_
      rintro _ ⟨xw, rfl⟩
      have B1 := B.trans (xw.h.mono B.size)
      clear c0 c1 c2 hne HSC
      (try clear d0)
      generalize xw.w = w5 at *
      clear xw
      go_wp2_with fail
      go_roundw
      case rel => exact ⟨0 + 1, 1, by have := HLT.out; omega, rfl, rfl, HE2, B1⟩
      case measure => simp [intOf]; have := HLT.out; omega
    have m3' : 0 < q := by have := HQ.out; omega
    have Y := (HC.out (i - 1) (by rw [HN2.out]; have := HLT.out; omega)).below B hbb
    obtain ⟨y, hy⟩ : ∃ y, (Fo.at3 l (i - 1)).a = y := ⟨_, rfl⟩
    have Y0 := Y.c0
    rw [hy] at Y0
    have HY := Lib.hid hy
    have d0 := fun y : Ext wr => y.cell Y0
    have hp0 : 0 ≤ q - 1 := by omega
    have hp1 : q - 1 < (n2 : Int) := by omega
    have hpn : (q - 1).toNat = i - 1 := by have := HQ.out; omega
    clear hy Y
    by_cases m4 : x.a ≤ y
    · have m4' : decide (x.a ≤ y) = true := decide_eq_true m4
      obtain rfl : r = false := by
        cases r with
        | false => rfl
        | true => exact absurd (HR.out.1 rfl) (fun V => (by
            have h9 := V.2.rise (i - 1) (by rw [HN2.out]; have := HLT.out; omega)
            rw [HY.out, show i - 1 + 1 = i by omega, HX.out] at h9
            omega))
      clear m1 m2 m3 m4
      go_wp2_with fail
      refine Ext.region (by kernel_rfl) (by kernel_rfl) ?_
      repeat (go_big_quiet_step ((go_at_call 22; exact Ext.call _ (HSC _))))
      refine wpQuiet_nil ?_
      rintro _ ⟨xw, rfl⟩
      have B1 := B.trans (xw.h.mono B.size)
      clear c0 c1 c2 hne HSC
      (try clear d0)
      generalize xw.w = w5 at *
      clear xw
      go_wp2_with fail
      go_ret
      exact ⟨rfl, B1⟩
    have m4' : decide (x.a ≤ y) = false := decide_eq_false m4
    have HE2 : Hid ((∀ j, j < i + 1 → 0 ≤ Te.scT (Fo.at3 l j) ∧ (Fo.at3 l j).a < (n1 : Int)) ∧ ∀ j, j + 1 < i + 1 → (Fo.at3 l j).a < (Fo.at3 l (j + 1)).a) := Lib.hid ⟨fun j hj => (by
        rcases Nat.lt_or_ge j i with h | h
        · exact HE.out.1 j h
        · obtain rfl : j = i := by omega
          rw [HX.out]
          unfold Te.scT
          rw [HS.out]
          omega), fun j hj => (by
        rcases Nat.lt_or_ge (j + 1) i with h | h
        · exact HE.out.2 j h
        · obtain rfl : j = i - 1 := by omega
          rw [HY.out, show i - 1 + 1 = i by omega, HX.out]
          omega)⟩
    have HM3 := Lib.hid m3
    clear m1 m2 m3 m4 HE
    go_wp2_with fail
    refine Ext.region (by kernel_rfl) (by kernel_rfl) ?_
    repeat (go_big_quiet_step ((go_at_call 22; exact Ext.call _ (HSC _))))
    refine wpQuiet_nil ?_
    rintro _ ⟨xw, rfl⟩
    have B1 := B.trans (xw.h.mono B.size)
    clear c0 c1 c2 hne HSC
    (try clear d0)
    generalize xw.w = w5 at *
    clear xw
    go_wp2_with fail
    go_roundw
    case rel => exact ⟨i + 1, q + 1, by have := HLT.out; omega, by have := HQ.out; omega, rfl, HE2, B1⟩
    case measure => simp [intOf]; have := HLT.out; omega
end Go.Proofs.YtahdlkdiadlgeaaGreat

/- The walks of At and Seconds. -/
namespace Go.Proofs.YtahdlkdiadlgeaaGreat
open Go.RowKit

namespace Te
open Fo (T3)
/-- What At answers. -/
structure AtA (bs : List Mt.B) (l : List T3) (b N D E : Int) : Prop where
  ok : Val bs l ∧ 0 ≤ b ∧ b < (bs.length : Int) → (tmp l b).b = N ∧ (tmp l b).c = D ∧ E = 0
  no : ¬ (Val bs l ∧ 0 ≤ b ∧ b < (bs.length : Int)) → N = 0 ∧ D = 0 ∧ E = 1
theorem atA_ex (bs : List Mt.B) (l : List T3) (b : Int) : ∃ N D E, AtA bs l b N D E := by
  by_cases h : Val bs l ∧ 0 ≤ b ∧ b < (bs.length : Int)
  · exact ⟨_, _, _, fun _ => ⟨rfl, rfl, rfl⟩, fun k => absurd h k⟩
  · exact ⟨_, _, _, fun k => absurd k h, fun _ => ⟨rfl, rfl, rfl⟩⟩
/-- Is a position before another one? -/
def Bef (a an ad b bn bd : Int) : Prop := a < b ∨ (a = b ∧ Mt.tk an ad < Mt.tk bn bd)
/-- May the time from a position to another one be asked for? -/
def Ask (bs : List Mt.B) (l : List T3) (a an ad b bn bd : Int) : Prop := Val bs l ∧ Mt.posB bs a an ad = true ∧ Mt.posB bs b bn bd = true ∧ ¬ Bef b bn bd a an ad
/-- What Seconds answers. -/
structure SecA (bs : List Mt.B) (l : List T3) (a an ad b bn bd N D E : Int) : Prop where
  ok : Ask bs l a an ad b bn bd → Rt.makeR (tm bs l b.toNat (Mt.tk bn bd) - tm bs l a.toNat (Mt.tk an ad)) 100800 = (N, D, E)
  no : ¬ Ask bs l a an ad b bn bd → N = 0 ∧ D = 0 ∧ E = 1
theorem secA_ex (bs : List Mt.B) (l : List T3) (a an ad b bn bd : Int) : ∃ N D E, SecA bs l a an ad b bn bd N D E := by
  by_cases h : Ask bs l a an ad b bn bd
  · exact ⟨_, _, _, fun _ => rfl, fun k => absurd h k⟩
  · exact ⟨_, _, _, fun k => absurd k h, fun _ => ⟨rfl, rfl, rfl⟩⟩
end Te
set_option maxHeartbeats 1600000 in
theorem rAt_is (bs : List Mt.B) (l : List Fo.T3) (b N D E : Int) (hA : Te.AtA bs l b N D E) (n1 c1 n2 c2 : Nat) (A1 A2 : Option Addr) (h1 : bs.length = n1) (h2 : l.length = n2) (w : World) (hB : SlB w A1 bs) (hL : SlT w A2 l) :
    Calls Tryz.prog 7 #[.slice A1 n1 c1, .slice A2 n2 c2, .int .i64 b] w fun e w' => e = .returned (.tuple #[.agg #[.int .i64 N, .int .i64 D], .int .i64 E]) ∧ Below w.heap.size w w' := by
  have HA := Lib.hid hA; have HN1 := Lib.hid h1; have HN2 := Lib.hid h2; have HB := Lib.hid hB; have HL := Lib.hid hL
  obtain ⟨u, hu⟩ : ∃ u : Bool, u = true ↔ Te.Val bs l := ⟨@decide _ (Classical.propDecidable _), @decide_eq_true_iff _ (Classical.propDecidable _)⟩
  have HU := Lib.hid hu
  clear hA h1 h2 hB hL hu
  cases u with
  | false =>
    have NO : ¬ (Te.Val bs l ∧ 0 ≤ b ∧ b < (bs.length : Int)) := fun k => (by have := HU.out.2 k.1; cases this)
    obtain ⟨rfl, rfl, rfl⟩ := HA.out.no NO
    go_enter Tryz.func7, Tryz.ntmps7
    go_wp2_with fail
    have R := Var2.new w 0 0 25
    have G0 := (Below.refl w.heap.size w).alloc (Nat.le_refl _) (.cells #[.int .i64 0, .int .i64 0] 25)
    refine (rtvalid_is bs l false n1 c1 n2 c2 A1 A2 HU.out HN1.out HN2.out _ (HB.out.alloc _) (HL.out.alloc _)).mono ?_; rintro e w2 ⟨rfl, hb⟩
    replace R := R.below hb; have hb0 := G0.trans (hb.mono G0.size)
    clear hb
    have r0 := R.at2.c0; have r1 := R.at2.c1; have rl := R.at2.lt; have rf0 := R.f0; have rf1 := R.f1
    go_wp2_with fail
    clear r0 r1 rl rf0 rf1
    have R2 := R.put 0 0
    have hB2 := (hb0.setCell (p := ⟨w.heap.size, 0, none⟩) (show w.heap.size ≤ w.heap.size by omega) (.int .i64 0)).setCell (p := ⟨w.heap.size, 1, none⟩) (show w.heap.size ≤ w.heap.size by omega) (.int .i64 0)
    have z0 := R2.at2.c0; have z1 := R2.at2.c1
    refine bodyPost_ret (v := .tuple #[.agg #[.int .i64 0, .int .i64 0], .int .i64 1]) (by simp [results, Tryz.results7, z0, z1, go_sem]) rfl ⟨rfl, hB2⟩
  | true =>
  have HV := Lib.hid (HU.out.1 rfl)
  have HU : Hid (true = true ↔ Te.Val bs l) := Lib.hid ⟨fun _ => HV.out, fun _ => rfl⟩
  have hn1 : n1 ≤ 4000 := by have := HV.out.1.2.1; have := HN1.out; omega
  by_cases k1 : b < 0
  · have NO : ¬ (Te.Val bs l ∧ 0 ≤ b ∧ b < (bs.length : Int)) := fun k => by omega
    obtain ⟨rfl, rfl, rfl⟩ := HA.out.no NO
    go_enter Tryz.func7, Tryz.ntmps7
    go_wp2_with fail
    have R := Var2.new w 0 0 25
    have G0 := (Below.refl w.heap.size w).alloc (Nat.le_refl _) (.cells #[.int .i64 0, .int .i64 0] 25)
    refine (rtvalid_is bs l true n1 c1 n2 c2 A1 A2 ⟨fun _ => HV.out, fun _ => rfl⟩ HN1.out HN2.out _ (HB.out.alloc _) (HL.out.alloc _)).mono ?_; rintro e w2 ⟨rfl, hb⟩
    replace R := R.below hb; have hb0 := G0.trans (hb.mono G0.size)
    clear hb
    have r0 := R.at2.c0; have r1 := R.at2.c1; have rl := R.at2.lt; have rf0 := R.f0; have rf1 := R.f1
    go_wp2_with fail
    clear r0 r1 rl rf0 rf1
    have R2 := R.put 0 0
    have hB2 := (hb0.setCell (p := ⟨w.heap.size, 0, none⟩) (show w.heap.size ≤ w.heap.size by omega) (.int .i64 0)).setCell (p := ⟨w.heap.size, 1, none⟩) (show w.heap.size ≤ w.heap.size by omega) (.int .i64 0)
    have z0 := R2.at2.c0; have z1 := R2.at2.c1
    refine bodyPost_ret (v := .tuple #[.agg #[.int .i64 0, .int .i64 0], .int .i64 1]) (by simp [results, Tryz.results7, z0, z1, go_sem]) rfl ⟨rfl, hB2⟩
  by_cases k2 : (n1 : Int) ≤ b
  · have NO : ¬ (Te.Val bs l ∧ 0 ≤ b ∧ b < (bs.length : Int)) := fun k => by have := HN1.out; omega
    have k1' : decide (b < 0) = false := decide_eq_false k1
    obtain ⟨rfl, rfl, rfl⟩ := HA.out.no NO
    go_enter Tryz.func7, Tryz.ntmps7
    go_wp2_with fail
    have R := Var2.new w 0 0 25
    have G0 := (Below.refl w.heap.size w).alloc (Nat.le_refl _) (.cells #[.int .i64 0, .int .i64 0] 25)
    refine (rtvalid_is bs l true n1 c1 n2 c2 A1 A2 ⟨fun _ => HV.out, fun _ => rfl⟩ HN1.out HN2.out _ (HB.out.alloc _) (HL.out.alloc _)).mono ?_; rintro e w2 ⟨rfl, hb⟩
    replace R := R.below hb; have hb0 := G0.trans (hb.mono G0.size)
    clear hb
    have r0 := R.at2.c0; have r1 := R.at2.c1; have rl := R.at2.lt; have rf0 := R.f0; have rf1 := R.f1
    go_wp2_with fail
    clear r0 r1 rl rf0 rf1
    have R2 := R.put 0 0
    have hB2 := (hb0.setCell (p := ⟨w.heap.size, 0, none⟩) (show w.heap.size ≤ w.heap.size by omega) (.int .i64 0)).setCell (p := ⟨w.heap.size, 1, none⟩) (show w.heap.size ≤ w.heap.size by omega) (.int .i64 0)
    have z0 := R2.at2.c0; have z1 := R2.at2.c1
    refine bodyPost_ret (v := .tuple #[.agg #[.int .i64 0, .int .i64 0], .int .i64 1]) (by simp [results, Tryz.results7, z0, z1, go_sem]) rfl ⟨rfl, hB2⟩
  have HO := Lib.hid (HA.out.ok ⟨HV.out, by omega, by have := HN1.out; omega⟩)
  obtain rfl : E = 0 := HO.out.2.2
  go_enter Tryz.func7, Tryz.ntmps7
  go_wp2_with fail
  have R := Var2.new w 0 0 25
  have G0 := (Below.refl w.heap.size w).alloc (Nat.le_refl _) (.cells #[.int .i64 0, .int .i64 0] 25)
  refine (rtvalid_is bs l true n1 c1 n2 c2 A1 A2 ⟨fun _ => HV.out, fun _ => rfl⟩ HN1.out HN2.out _ (HB.out.alloc _) (HL.out.alloc _)).mono ?_; rintro e w2 ⟨rfl, hb⟩
  replace R := R.below hb; have hb0 := G0.trans (hb.mono G0.size)
  clear hb
  have r0 := R.at2.c0; have r1 := R.at2.c1; have rl := R.at2.lt; have rf0 := R.f0; have rf1 := R.f1
  go_wp2_with fail
  clear r0 r1 rl rf0 rf1
  refine (rat_is l b N D n2 c2 A2 HN2.out (by have := HV.out.2.one; have := HN2.out; omega) (by have := HV.out.2.most; have := HN2.out; omega) HO.out.1 HO.out.2.1 _ (HL.out.below hb0)).mono ?_; rintro e w3 ⟨rfl, hb⟩
  replace R := R.below hb; replace hb0 := hb0.trans (hb.mono hb0.size)
  clear hb
  have r0 := R.at2.c0; have r1 := R.at2.c1; have rl := R.at2.lt; have rf0 := R.f0; have rf1 := R.f1
  go_wp2_with fail
  clear r0 r1 rl rf0 rf1
  have R2 := R.put N D
  have hB2 := (hb0.setCell (p := ⟨w.heap.size, 0, none⟩) (show w.heap.size ≤ w.heap.size by omega) (.int .i64 N)).setCell (p := ⟨w.heap.size, 1, none⟩) (show w.heap.size ≤ w.heap.size by omega) (.int .i64 D)
  have z0 := R2.at2.c0; have z1 := R2.at2.c1
  refine bodyPost_ret (v := .tuple #[.agg #[.int .i64 N, .int .i64 D], .int .i64 0]) (by simp [results, Tryz.results7, z0, z1, go_sem]) rfl ⟨rfl, hB2⟩
set_option maxRecDepth 100000 in
set_option maxHeartbeats 3200000 in
theorem rSeconds_is (bs : List Mt.B) (l : List Fo.T3) (a an ad b bn bd N D E : Int) (hA : Te.SecA bs l a an ad b bn bd N D E) (n1 c1 n2 c2 : Nat) (A1 A2 : Option Addr) (h1 : bs.length = n1) (h2 : l.length = n2) (w : World) (hB : SlB w A1 bs) (hL : SlT w A2 l) :
    Calls Tryz.prog 11 #[.slice A1 n1 c1, .slice A2 n2 c2, .agg #[.int .i64 a, .int .i64 an, .int .i64 ad], .agg #[.int .i64 b, .int .i64 bn, .int .i64 bd]] w fun e w' => e = .returned (.tuple #[.agg #[.int .i64 N, .int .i64 D], .int .i64 E]) ∧ Below w.heap.size w w' := by
  have HANS := Lib.hid hA; have HN1 := Lib.hid h1; have HN2 := Lib.hid h2; have HB := Lib.hid hB; have HL := Lib.hid hL
  obtain ⟨u, hu⟩ : ∃ u : Bool, u = true ↔ Te.Val bs l := ⟨@decide _ (Classical.propDecidable _), @decide_eq_true_iff _ (Classical.propDecidable _)⟩
  have HU := Lib.hid hu
  obtain ⟨pa, hpa⟩ : ∃ x, Mt.posB bs a an ad = x := ⟨_, rfl⟩
  obtain ⟨pb, hpb⟩ : ∃ x, Mt.posB bs b bn bd = x := ⟨_, rfl⟩
  have HA := Lib.hid hpa; have HBB := Lib.hid hpb
  obtain ⟨er, her⟩ : ∃ u : Bool, u = true ↔ Te.Bef b bn bd a an ad := ⟨@decide _ (Classical.propDecidable _), @decide_eq_true_iff _ (Classical.propDecidable _)⟩
  have HER := Lib.hid her
  clear hA h1 h2 hB hL hu hpa hpb her
  cases u with
  | false =>
    obtain ⟨rfl, rfl, rfl⟩ := HANS.out.no (fun k => (by have := HU.out.2 k.1; cases this))
    go_enter Tryz.func11, Tryz.ntmps11
    go_wp2_with fail
    have P := ((At3.new w a an ad 27).alloc (.cells #[.int .i64 b, .int .i64 bn, .int .i64 bd] 27)).alloc (.cells #[.int .i64 0, .int .i64 0] 25)
    have Q := (At3.new (w.alloc (.cells #[.int .i64 a, .int .i64 an, .int .i64 ad] 27)) b bn bd 27).alloc (.cells #[.int .i64 0, .int .i64 0] 25)
    have R := Var2.new ((w.alloc (.cells #[.int .i64 a, .int .i64 an, .int .i64 ad] 27)).alloc (.cells #[.int .i64 b, .int .i64 bn, .int .i64 bd] 27)) 0 0 25
    rw [World.size_alloc] at Q
    rw [World.size_alloc, World.size_alloc] at R
    have hb0 := (((Below.refl w.heap.size w).alloc (Nat.le_refl _) (.cells #[.int .i64 a, .int .i64 an, .int .i64 ad] 27)).alloc (by simp) (.cells #[.int .i64 b, .int .i64 bn, .int .i64 bd] 27)).alloc (by simp <;> omega) (.cells #[.int .i64 0, .int .i64 0] 25)
    refine (rtvalid_is bs l false n1 c1 n2 c2 A1 A2 HU.out HN1.out HN2.out _ (HB.out.below hb0) (HL.out.below hb0)).mono ?_; rintro e w2 ⟨rfl, hb⟩
    replace P := P.below hb; replace Q := Q.below hb; replace R := R.below hb; replace hb0 := hb0.trans (hb.mono hb0.size)
    clear hb
    have p0 := P.c0; have p1 := P.c1; have p2 := P.c2; have pl := P.lt; have s0 := Q.c0; have s1 := Q.c1; have s2 := Q.c2; have sl := Q.lt
    have r0 := R.at2.c0; have r1 := R.at2.c1; have rl := R.at2.lt; have rf0 := R.f0; have rf1 := R.f1
    go_wp2_with fail
    clear p0 p1 p2 pl s0 s1 s2 sl r0 r1 rl rf0 rf1
    have R2 := R.put 0 0
    have hB2 := (hb0.setCell (p := ⟨w.heap.size + 1 + 1, 0, none⟩) (show w.heap.size ≤ w.heap.size + 1 + 1 by omega) (.int .i64 0)).setCell (p := ⟨w.heap.size + 1 + 1, 1, none⟩) (show w.heap.size ≤ w.heap.size + 1 + 1 by omega) (.int .i64 0)
    have z0 := R2.at2.c0; have z1 := R2.at2.c1
    refine bodyPost_ret (v := .tuple #[.agg #[.int .i64 0, .int .i64 0], .int .i64 1]) (by simp [results, Tryz.results11, z0, z1, go_sem]) rfl ⟨rfl, hB2⟩
  | true =>
  have HV := Lib.hid (HU.out.1 rfl)
  cases pa with
  | false =>
    obtain ⟨rfl, rfl, rfl⟩ := HANS.out.no (fun k => (by have := k.2.1; rw [HA.out] at this; cases this))
    go_enter Tryz.func11, Tryz.ntmps11
    go_wp2_with fail
    have P := ((At3.new w a an ad 27).alloc (.cells #[.int .i64 b, .int .i64 bn, .int .i64 bd] 27)).alloc (.cells #[.int .i64 0, .int .i64 0] 25)
    have Q := (At3.new (w.alloc (.cells #[.int .i64 a, .int .i64 an, .int .i64 ad] 27)) b bn bd 27).alloc (.cells #[.int .i64 0, .int .i64 0] 25)
    have R := Var2.new ((w.alloc (.cells #[.int .i64 a, .int .i64 an, .int .i64 ad] 27)).alloc (.cells #[.int .i64 b, .int .i64 bn, .int .i64 bd] 27)) 0 0 25
    rw [World.size_alloc] at Q
    rw [World.size_alloc, World.size_alloc] at R
    have hb0 := (((Below.refl w.heap.size w).alloc (Nat.le_refl _) (.cells #[.int .i64 a, .int .i64 an, .int .i64 ad] 27)).alloc (by simp) (.cells #[.int .i64 b, .int .i64 bn, .int .i64 bd] 27)).alloc (by simp <;> omega) (.cells #[.int .i64 0, .int .i64 0] 25)
    refine (rtvalid_is bs l true n1 c1 n2 c2 A1 A2 ⟨fun _ => HV.out, fun _ => rfl⟩ HN1.out HN2.out _ (HB.out.below hb0) (HL.out.below hb0)).mono ?_; rintro e w2 ⟨rfl, hb⟩
    replace P := P.below hb; replace Q := Q.below hb; replace R := R.below hb; replace hb0 := hb0.trans (hb.mono hb0.size)
    clear hb
    have p0 := P.c0; have p1 := P.c1; have p2 := P.c2; have pl := P.lt; have s0 := Q.c0; have s1 := Q.c1; have s2 := Q.c2; have sl := Q.lt
    have r0 := R.at2.c0; have r1 := R.at2.c1; have rl := R.at2.lt; have rf0 := R.f0; have rf1 := R.f1
    go_wp2_with fail
    clear p0 p1 p2 pl s0 s1 s2 sl r0 r1 rl rf0 rf1
    refine (kposition_is bs a an ad false n1 c1 A1 HA.out HN1.out _ (HB.out.below hb0)).mono ?_; rintro e w3 ⟨rfl, hb⟩
    replace P := P.below hb; replace Q := Q.below hb; replace R := R.below hb; replace hb0 := hb0.trans (hb.mono hb0.size)
    clear hb
    have p0 := P.c0; have p1 := P.c1; have p2 := P.c2; have pl := P.lt; have s0 := Q.c0; have s1 := Q.c1; have s2 := Q.c2; have sl := Q.lt
    have r0 := R.at2.c0; have r1 := R.at2.c1; have rl := R.at2.lt; have rf0 := R.f0; have rf1 := R.f1
    go_wp2_with fail
    clear p0 p1 p2 pl s0 s1 s2 sl r0 r1 rl rf0 rf1
    refine (kposition_is bs b bn bd pb n1 c1 A1 HBB.out HN1.out _ (HB.out.below hb0)).mono ?_; rintro e w4 ⟨rfl, hb⟩
    replace P := P.below hb; replace Q := Q.below hb; replace R := R.below hb; replace hb0 := hb0.trans (hb.mono hb0.size)
    clear hb
    have p0 := P.c0; have p1 := P.c1; have p2 := P.c2; have pl := P.lt; have s0 := Q.c0; have s1 := Q.c1; have s2 := Q.c2; have sl := Q.lt
    have r0 := R.at2.c0; have r1 := R.at2.c1; have rl := R.at2.lt; have rf0 := R.f0; have rf1 := R.f1
    go_wp2_with fail
    clear p0 p1 p2 pl s0 s1 s2 sl r0 r1 rl rf0 rf1
    have R2 := R.put 0 0
    have hB2 := (hb0.setCell (p := ⟨w.heap.size + 1 + 1, 0, none⟩) (show w.heap.size ≤ w.heap.size + 1 + 1 by omega) (.int .i64 0)).setCell (p := ⟨w.heap.size + 1 + 1, 1, none⟩) (show w.heap.size ≤ w.heap.size + 1 + 1 by omega) (.int .i64 0)
    have z0 := R2.at2.c0; have z1 := R2.at2.c1
    refine bodyPost_ret (v := .tuple #[.agg #[.int .i64 0, .int .i64 0], .int .i64 1]) (by simp [results, Tryz.results11, z0, z1, go_sem]) rfl ⟨rfl, hB2⟩
  | true =>
  cases pb with
  | false =>
    obtain ⟨rfl, rfl, rfl⟩ := HANS.out.no (fun k => (by have := k.2.2.1; rw [HBB.out] at this; cases this))
    go_enter Tryz.func11, Tryz.ntmps11
    go_wp2_with fail
    have P := ((At3.new w a an ad 27).alloc (.cells #[.int .i64 b, .int .i64 bn, .int .i64 bd] 27)).alloc (.cells #[.int .i64 0, .int .i64 0] 25)
    have Q := (At3.new (w.alloc (.cells #[.int .i64 a, .int .i64 an, .int .i64 ad] 27)) b bn bd 27).alloc (.cells #[.int .i64 0, .int .i64 0] 25)
    have R := Var2.new ((w.alloc (.cells #[.int .i64 a, .int .i64 an, .int .i64 ad] 27)).alloc (.cells #[.int .i64 b, .int .i64 bn, .int .i64 bd] 27)) 0 0 25
    rw [World.size_alloc] at Q
    rw [World.size_alloc, World.size_alloc] at R
    have hb0 := (((Below.refl w.heap.size w).alloc (Nat.le_refl _) (.cells #[.int .i64 a, .int .i64 an, .int .i64 ad] 27)).alloc (by simp) (.cells #[.int .i64 b, .int .i64 bn, .int .i64 bd] 27)).alloc (by simp <;> omega) (.cells #[.int .i64 0, .int .i64 0] 25)
    refine (rtvalid_is bs l true n1 c1 n2 c2 A1 A2 ⟨fun _ => HV.out, fun _ => rfl⟩ HN1.out HN2.out _ (HB.out.below hb0) (HL.out.below hb0)).mono ?_; rintro e w2 ⟨rfl, hb⟩
    replace P := P.below hb; replace Q := Q.below hb; replace R := R.below hb; replace hb0 := hb0.trans (hb.mono hb0.size)
    clear hb
    have p0 := P.c0; have p1 := P.c1; have p2 := P.c2; have pl := P.lt; have s0 := Q.c0; have s1 := Q.c1; have s2 := Q.c2; have sl := Q.lt
    have r0 := R.at2.c0; have r1 := R.at2.c1; have rl := R.at2.lt; have rf0 := R.f0; have rf1 := R.f1
    go_wp2_with fail
    clear p0 p1 p2 pl s0 s1 s2 sl r0 r1 rl rf0 rf1
    refine (kposition_is bs a an ad true n1 c1 A1 HA.out HN1.out _ (HB.out.below hb0)).mono ?_; rintro e w3 ⟨rfl, hb⟩
    replace P := P.below hb; replace Q := Q.below hb; replace R := R.below hb; replace hb0 := hb0.trans (hb.mono hb0.size)
    clear hb
    have p0 := P.c0; have p1 := P.c1; have p2 := P.c2; have pl := P.lt; have s0 := Q.c0; have s1 := Q.c1; have s2 := Q.c2; have sl := Q.lt
    have r0 := R.at2.c0; have r1 := R.at2.c1; have rl := R.at2.lt; have rf0 := R.f0; have rf1 := R.f1
    go_wp2_with fail
    clear p0 p1 p2 pl s0 s1 s2 sl r0 r1 rl rf0 rf1
    refine (kposition_is bs b bn bd false n1 c1 A1 HBB.out HN1.out _ (HB.out.below hb0)).mono ?_; rintro e w4 ⟨rfl, hb⟩
    replace P := P.below hb; replace Q := Q.below hb; replace R := R.below hb; replace hb0 := hb0.trans (hb.mono hb0.size)
    clear hb
    have p0 := P.c0; have p1 := P.c1; have p2 := P.c2; have pl := P.lt; have s0 := Q.c0; have s1 := Q.c1; have s2 := Q.c2; have sl := Q.lt
    have r0 := R.at2.c0; have r1 := R.at2.c1; have rl := R.at2.lt; have rf0 := R.f0; have rf1 := R.f1
    go_wp2_with fail
    clear p0 p1 p2 pl s0 s1 s2 sl r0 r1 rl rf0 rf1
    have R2 := R.put 0 0
    have hB2 := (hb0.setCell (p := ⟨w.heap.size + 1 + 1, 0, none⟩) (show w.heap.size ≤ w.heap.size + 1 + 1 by omega) (.int .i64 0)).setCell (p := ⟨w.heap.size + 1 + 1, 1, none⟩) (show w.heap.size ≤ w.heap.size + 1 + 1 by omega) (.int .i64 0)
    have z0 := R2.at2.c0; have z1 := R2.at2.c1
    refine bodyPost_ret (v := .tuple #[.agg #[.int .i64 0, .int .i64 0], .int .i64 1]) (by simp [results, Tryz.results11, z0, z1, go_sem]) rfl ⟨rfl, hB2⟩
  | true =>
  cases er with
  | true =>
    have HE2 := Lib.hid (HER.out.1 rfl)
    obtain ⟨rfl, rfl, rfl⟩ := HANS.out.no (fun k => k.2.2.2 HE2.out)
    go_enter Tryz.func11, Tryz.ntmps11
    go_wp2_with fail
    have P := ((At3.new w a an ad 27).alloc (.cells #[.int .i64 b, .int .i64 bn, .int .i64 bd] 27)).alloc (.cells #[.int .i64 0, .int .i64 0] 25)
    have Q := (At3.new (w.alloc (.cells #[.int .i64 a, .int .i64 an, .int .i64 ad] 27)) b bn bd 27).alloc (.cells #[.int .i64 0, .int .i64 0] 25)
    have R := Var2.new ((w.alloc (.cells #[.int .i64 a, .int .i64 an, .int .i64 ad] 27)).alloc (.cells #[.int .i64 b, .int .i64 bn, .int .i64 bd] 27)) 0 0 25
    rw [World.size_alloc] at Q
    rw [World.size_alloc, World.size_alloc] at R
    have hb0 := (((Below.refl w.heap.size w).alloc (Nat.le_refl _) (.cells #[.int .i64 a, .int .i64 an, .int .i64 ad] 27)).alloc (by simp) (.cells #[.int .i64 b, .int .i64 bn, .int .i64 bd] 27)).alloc (by simp <;> omega) (.cells #[.int .i64 0, .int .i64 0] 25)
    refine (rtvalid_is bs l true n1 c1 n2 c2 A1 A2 ⟨fun _ => HV.out, fun _ => rfl⟩ HN1.out HN2.out _ (HB.out.below hb0) (HL.out.below hb0)).mono ?_; rintro e w2 ⟨rfl, hb⟩
    replace P := P.below hb; replace Q := Q.below hb; replace R := R.below hb; replace hb0 := hb0.trans (hb.mono hb0.size)
    clear hb
    have p0 := P.c0; have p1 := P.c1; have p2 := P.c2; have pl := P.lt; have s0 := Q.c0; have s1 := Q.c1; have s2 := Q.c2; have sl := Q.lt
    have r0 := R.at2.c0; have r1 := R.at2.c1; have rl := R.at2.lt; have rf0 := R.f0; have rf1 := R.f1
    go_wp2_with fail
    clear p0 p1 p2 pl s0 s1 s2 sl r0 r1 rl rf0 rf1
    refine (kposition_is bs a an ad true n1 c1 A1 HA.out HN1.out _ (HB.out.below hb0)).mono ?_; rintro e w3 ⟨rfl, hb⟩
    replace P := P.below hb; replace Q := Q.below hb; replace R := R.below hb; replace hb0 := hb0.trans (hb.mono hb0.size)
    clear hb
    have p0 := P.c0; have p1 := P.c1; have p2 := P.c2; have pl := P.lt; have s0 := Q.c0; have s1 := Q.c1; have s2 := Q.c2; have sl := Q.lt
    have r0 := R.at2.c0; have r1 := R.at2.c1; have rl := R.at2.lt; have rf0 := R.f0; have rf1 := R.f1
    go_wp2_with fail
    clear p0 p1 p2 pl s0 s1 s2 sl r0 r1 rl rf0 rf1
    refine (kposition_is bs b bn bd true n1 c1 A1 HBB.out HN1.out _ (HB.out.below hb0)).mono ?_; rintro e w4 ⟨rfl, hb⟩
    replace P := P.below hb; replace Q := Q.below hb; replace R := R.below hb; replace hb0 := hb0.trans (hb.mono hb0.size)
    clear hb
    have p0 := P.c0; have p1 := P.c1; have p2 := P.c2; have pl := P.lt; have s0 := Q.c0; have s1 := Q.c1; have s2 := Q.c2; have sl := Q.lt
    have r0 := R.at2.c0; have r1 := R.at2.c1; have rl := R.at2.lt; have rf0 := R.f0; have rf1 := R.f1
    go_wp2_with fail
    clear p0 p1 p2 pl s0 s1 s2 sl r0 r1 rl rf0 rf1
    refine (rearlier_is b bn bd a an ad true ⟨fun _ => HE2.out, fun _ => rfl⟩ _).mono ?_; rintro e w5 ⟨rfl, hb⟩
    replace P := P.below hb; replace Q := Q.below hb; replace R := R.below hb; replace hb0 := hb0.trans (hb.mono hb0.size)
    clear hb
    have p0 := P.c0; have p1 := P.c1; have p2 := P.c2; have pl := P.lt; have s0 := Q.c0; have s1 := Q.c1; have s2 := Q.c2; have sl := Q.lt
    have r0 := R.at2.c0; have r1 := R.at2.c1; have rl := R.at2.lt; have rf0 := R.f0; have rf1 := R.f1
    go_wp2_with fail
    clear p0 p1 p2 pl s0 s1 s2 sl r0 r1 rl rf0 rf1
    have R2 := R.put 0 0
    have hB2 := (hb0.setCell (p := ⟨w.heap.size + 1 + 1, 0, none⟩) (show w.heap.size ≤ w.heap.size + 1 + 1 by omega) (.int .i64 0)).setCell (p := ⟨w.heap.size + 1 + 1, 1, none⟩) (show w.heap.size ≤ w.heap.size + 1 + 1 by omega) (.int .i64 0)
    have z0 := R2.at2.c0; have z1 := R2.at2.c1
    refine bodyPost_ret (v := .tuple #[.agg #[.int .i64 0, .int .i64 0], .int .i64 1]) (by simp [results, Tryz.results11, z0, z1, go_sem]) rfl ⟨rfl, hB2⟩
  | false =>
  have HNE : Hid (¬ Te.Bef b bn bd a an ad) := Lib.hid (fun k => (by have := HER.out.2 k; cases this))
  have HMK := Lib.hid (HANS.out.ok ⟨HV.out, HA.out, HBB.out, HNE.out⟩)
  obtain ⟨ha0, ha1⟩ := Mt.posB_iff.1 HA.out
  obtain ⟨hb0', hb1⟩ := Mt.posB_iff.1 HBB.out
  obtain ⟨i0, rfl⟩ : ∃ i : Nat, a = (i : Int) := ⟨a.toNat, by omega⟩
  obtain ⟨j0, rfl⟩ : ∃ i : Nat, b = (i : Int) := ⟨b.toNat, by omega⟩
  rw [Int.toNat_natCast] at ha1 hb1
  obtain ⟨t1, ht1⟩ : ∃ t, Mt.tk an ad = t := ⟨_, rfl⟩
  obtain ⟨t2, ht2⟩ : ∃ t, Mt.tk bn bd = t := ⟨_, rfl⟩
  rw [ht1] at ha1
  rw [ht2] at hb1
  have HT1 := Lib.hid ht1; have HT2 := Lib.hid ht2
  have HP1 := Lib.hid ha1; have HP2 := Lib.hid hb1
  have hij : i0 ≤ j0 := by
    rcases Nat.lt_or_ge j0 i0 with h | h
    · exact absurd (show Te.Bef (j0 : Int) bn bd (i0 : Int) an ad from .inl (by omega)) HNE.out
    · exact h
  have hn1 : n1 ≤ 4000 := by have := HV.out.1.2.1; have := HN1.out; omega
  have hj1 : j0 ≤ n1 := by have := HP2.out.1; have := HN1.out; omega
  have h1n2 : 1 ≤ n2 := by have := HV.out.2.one; have := HN2.out; omega
  have hn2 : n2 ≤ 1000000 := by have := HV.out.2.most; have := HN2.out; omega
  have H12 := Lib.hid (And.intro h1n2 hn2)
  clear ha1 hb1 ht1 ht2 ha0 hb0' h1n2 hn2
  go_enter Tryz.func11, Tryz.ntmps11
  go_wp2_with fail
  have P := ((At3.new w (i0 : Int) an ad 27).alloc (.cells #[.int .i64 (j0 : Int), .int .i64 bn, .int .i64 bd] 27)).alloc (.cells #[.int .i64 0, .int .i64 0] 25)
  have Q := (At3.new (w.alloc (.cells #[.int .i64 (i0 : Int), .int .i64 an, .int .i64 ad] 27)) (j0 : Int) bn bd 27).alloc (.cells #[.int .i64 0, .int .i64 0] 25)
  have R := Var2.new ((w.alloc (.cells #[.int .i64 (i0 : Int), .int .i64 an, .int .i64 ad] 27)).alloc (.cells #[.int .i64 (j0 : Int), .int .i64 bn, .int .i64 bd] 27)) 0 0 25
  rw [World.size_alloc] at Q
  rw [World.size_alloc, World.size_alloc] at R
  have hb0 := (((Below.refl w.heap.size w).alloc (Nat.le_refl _) (.cells #[.int .i64 (i0 : Int), .int .i64 an, .int .i64 ad] 27)).alloc (by simp) (.cells #[.int .i64 (j0 : Int), .int .i64 bn, .int .i64 bd] 27)).alloc (by simp <;> omega) (.cells #[.int .i64 0, .int .i64 0] 25)
  refine (rtvalid_is bs l true n1 c1 n2 c2 A1 A2 ⟨fun _ => HV.out, fun _ => rfl⟩ HN1.out HN2.out _ (HB.out.below hb0) (HL.out.below hb0)).mono ?_; rintro e w2 ⟨rfl, hb⟩
  replace P := P.below hb; replace Q := Q.below hb; replace R := R.below hb; replace hb0 := hb0.trans (hb.mono hb0.size)
  clear hb
  have p0 := P.c0; have p1 := P.c1; have p2 := P.c2; have pl := P.lt; have s0 := Q.c0; have s1 := Q.c1; have s2 := Q.c2; have sl := Q.lt
  have r0 := R.at2.c0; have r1 := R.at2.c1; have rl := R.at2.lt; have rf0 := R.f0; have rf1 := R.f1
  go_wp2_with fail
  clear p0 p1 p2 pl s0 s1 s2 sl r0 r1 rl rf0 rf1
  refine (kposition_is bs (i0 : Int) an ad true n1 c1 A1 HA.out HN1.out _ (HB.out.below hb0)).mono ?_; rintro e w3 ⟨rfl, hb⟩
  replace P := P.below hb; replace Q := Q.below hb; replace R := R.below hb; replace hb0 := hb0.trans (hb.mono hb0.size)
  clear hb
  have p0 := P.c0; have p1 := P.c1; have p2 := P.c2; have pl := P.lt; have s0 := Q.c0; have s1 := Q.c1; have s2 := Q.c2; have sl := Q.lt
  have r0 := R.at2.c0; have r1 := R.at2.c1; have rl := R.at2.lt; have rf0 := R.f0; have rf1 := R.f1
  go_wp2_with fail
  clear p0 p1 p2 pl s0 s1 s2 sl r0 r1 rl rf0 rf1
  refine (kposition_is bs (j0 : Int) bn bd true n1 c1 A1 HBB.out HN1.out _ (HB.out.below hb0)).mono ?_; rintro e w4 ⟨rfl, hb⟩
  replace P := P.below hb; replace Q := Q.below hb; replace R := R.below hb; replace hb0 := hb0.trans (hb.mono hb0.size)
  clear hb
  have p0 := P.c0; have p1 := P.c1; have p2 := P.c2; have pl := P.lt; have s0 := Q.c0; have s1 := Q.c1; have s2 := Q.c2; have sl := Q.lt
  have r0 := R.at2.c0; have r1 := R.at2.c1; have rl := R.at2.lt; have rf0 := R.f0; have rf1 := R.f1
  go_wp2_with fail
  clear p0 p1 p2 pl s0 s1 s2 sl r0 r1 rl rf0 rf1
  refine (rearlier_is (j0 : Int) bn bd (i0 : Int) an ad false ⟨(fun h => by cases h), fun k => absurd k HNE.out⟩ _).mono ?_; rintro e w5 ⟨rfl, hb⟩
  replace P := P.below hb; replace Q := Q.below hb; replace R := R.below hb; replace hb0 := hb0.trans (hb.mono hb0.size)
  clear hb
  have p0 := P.c0; have p1 := P.c1; have p2 := P.c2; have pl := P.lt; have s0 := Q.c0; have s1 := Q.c1; have s2 := Q.c2; have sl := Q.lt
  have r0 := R.at2.c0; have r1 := R.at2.c1; have rl := R.at2.lt; have rf0 := R.f0; have rf1 := R.f1
  go_wp2_with fail
  clear p0 p1 p2 pl s0 s1 s2 sl r0 r1 rl rf0 rf1
  go_loopw [13, 14] (fun s13 s14 wr => ∃ (i : Nat) (q v : Int), i0 ≤ i ∧ i ≤ j0 ∧ q = i ∧ s14 = .int .i64 q ∧ s13 = .int .i64 v ∧ Hid (v = Te.cum bs l i - Te.cum bs l i0) ∧ At3 wr w.heap.size (i0 : Int) an ad ∧ At3 wr (w.heap.size + 1) (j0 : Int) bn bd ∧ Var2 wr (w.heap.size + 1 + 1) 0 0 ∧ Below w.heap.size w wr) (fun _ s14 _ => j0 - (intOf s14).toNat)
  case atStart => exact ⟨i0, i0, 0, Nat.le_refl _, hij, rfl, rfl, rfl, Lib.hid (by omega), P, Q, R, hb0⟩
  case round =>
    clear P Q R hb0
    obtain ⟨i, q, v, hi0, hi1, hq, rfl, rfl, HVV, P, Q, R, hb0⟩ := hrel
    have HQ := Lib.hid hq; have HI := Lib.hid (And.intro hi0 hi1)
    have hq0 : 0 ≤ q := by omega
    have hqn : q.toNat = i := by omega
    have hqm : q ≤ 4000 := by omega
    have hvr : 0 ≤ v ∧ v ≤ 96768000000 := by
      have h9 := Te.cum_mono HV.out (i := i0) (k := i - i0) (by have := HN1.out; omega)
      rw [show i0 + (i - i0) = i by omega] at h9
      have := HVV.out
      omega
    by_cases hlt : i < j0
    case pos =>
      have hq1 : q < (j0 : Int) := by omega
      have hqb : q < (n1 : Int) := by omega
      have hik : i < bs.length := by have := HN1.out; omega
      obtain ⟨bb, off, hAe, hbb, hc⟩ := (HB.out.below hb0) (by omega)
      obtain ⟨c0, x1, x2, c3⟩ := hc i hik
      obtain ⟨bN, hbN⟩ : ∃ x, (atB bs i).2.1 = x := ⟨_, rfl⟩
      obtain ⟨bD, hbD⟩ : ∃ x, (atB bs i).2.2.1 = x := ⟨_, rfl⟩
      rw [hbN] at x1
      rw [hbD] at x2
      obtain ⟨t, ht⟩ : ∃ t, Mt.bt (atB bs i) = t := ⟨_, rfl⟩
      have HTT : Hid (Mt.tk bN bD = t) := Lib.hid (by rw [← hbN, ← hbD]; exact ht)
      have hbt := Te.bt_r HV.out.1 hik
      rw [ht] at hbt
      obtain ⟨y, hy⟩ : ∃ y, t * Te.sb l q = y := ⟨_, rfl⟩
      have hyr : 1 ≤ y ∧ y ≤ 24192000 := by rw [← hy, ← ht, hq]; exact Te.step_r HV.out hik
      have HY := Lib.hid hy
      have HV2 : Hid (v + y = Te.cum bs l (i + 1) - Te.cum bs l i0) := Lib.hid (by rw [Te.cum_succ, ← hy, ← ht, hq, HVV.out]; omega)
      have HSR := Lib.hid (HV.out.2.sb_r q)
      have HTR := Lib.hid hbt
      subst hAe
      clear c0 c3 hc hbN hbD ht hbt hy hq hlt
      have p0 := P.c0; have p1 := P.c1; have p2 := P.c2; have pl := P.lt; have s0 := Q.c0; have s1 := Q.c1; have s2 := Q.c2; have sl := Q.lt
      have r0 := R.at2.c0; have r1 := R.at2.c1; have rl := R.at2.lt; have rf0 := R.f0; have rf1 := R.f1
      go_wp2_with fail
      clear p0 p1 p2 pl s0 s1 s2 sl r0 r1 rl rf0 rf1 x1 x2
      refine (kticks_is bN bD t HTT.out _).mono ?_; rintro e w6 ⟨rfl, hb⟩
      replace P := P.below hb; replace Q := Q.below hb; replace R := R.below hb; replace hb0 := hb0.trans (hb.mono hb0.size)
      clear hb
      go_wp2_with fail
      refine (rtakes_is l q t y n2 c2 A2 HN2.out H12.out.1 H12.out.2 (by have := HTR.out; omega) (by have := HTR.out; omega) HSR.out HY.out _ (HL.out.below hb0)).mono ?_; rintro e w7 ⟨rfl, hb⟩
      replace P := P.below hb; replace Q := Q.below hb; replace R := R.below hb; replace hb0 := hb0.trans (hb.mono hb0.size)
      clear hb
      go_wp2_with fail
      go_roundw
      case rel => exact ⟨i + 1, q + 1, v + y, by have := HI.out; omega, by have := HQ.out; omega, by have := HQ.out; omega, rfl, rfl, HV2, P, Q, R, hb0⟩
      case measure => simp [intOf]; have := HQ.out; omega
    case neg =>
      obtain rfl : i = j0 := by omega
      have hq1 : ¬ q < (i : Int) := by omega
      have HVV2 := Lib.hid HVV.out
      by_cases e1 : i0 < n1
      case pos =>
        have e1' : (i0 : Int) < (n1 : Int) := by omega
        obtain ⟨y1, hy1⟩ : ∃ y, t1 * Te.sb l (i0 : Int) = y := ⟨_, rfl⟩
        have HS1 : Hid (0 ≤ t1 ∧ t1 ≤ 1000000 ∧ (1 ≤ Te.sb l (i0 : Int) ∧ Te.sb l (i0 : Int) ≤ 600) ∧ t1 * Te.sb l (i0 : Int) = y1) := Lib.hid (by
          have h8 := HP1.out.2.2.2 (by have := HN1.out; omega)
          have h7 := Te.bt_r HV.out.1 (k := i0) (by have := HN1.out; omega)
          rw [atB_eq (by have := HN1.out; omega)] at h7
          exact ⟨HP1.out.2.1, by omega, HV.out.2.sb_r _, hy1⟩)
        have hyr1 : 0 ≤ y1 ∧ y1 ≤ 600000000 := by rw [← hy1]; exact Te.mul_r HS1.out.1 HS1.out.2.1 (by have := HS1.out.2.2.1; omega) HS1.out.2.2.1.2
        clear hy1 hq
        have p0 := P.c0; have p1 := P.c1; have p2 := P.c2; have pl := P.lt; have s0 := Q.c0; have s1 := Q.c1; have s2 := Q.c2; have sl := Q.lt
        go_wp2_with fail
        clear p0 p1 p2 pl s0 s1 s2 sl
        have hne := Ext.there wr
        have x0 := fun x : Ext wr => x.cell P.c0; have x1 := fun x : Ext wr => x.cell P.c1; have x2 := fun x : Ext wr => x.cell P.c2
        have HC1 := fun y : Ext wr => kticks_is an ad t1 HT1.out y.w
        have HC2 := fun y : Ext wr => rtakes_is l (i0 : Int) t1 y1 n2 c2 A2 HN2.out H12.out.1 H12.out.2 HS1.out.1 HS1.out.2.1 HS1.out.2.2.1 HS1.out.2.2.2 y.w (HL.out.below (hb0.trans (y.h.mono hb0.size)))
        refine Ext.region (by kernel_rfl) (by kernel_rfl) ?_
        repeat (go_big_quiet_step (first | (go_at_call 30; exact Ext.call _ (HC1 _)) | (go_at_call 29; exact Ext.call _ (HC2 _))))
        refine wpQuiet_nil ?_
        rintro _ ⟨xw, rfl⟩
        have hb := xw.h
        replace P := P.below hb; replace Q := Q.below hb; replace R := R.below hb; replace hb0 := hb0.trans (hb.mono hb0.size)
        clear x0 x1 x2 hne HC1 HC2 hb
        generalize xw.w = wr at *
        clear xw
        by_cases e2 : i < n1
        case pos =>
          have e2' : (i : Int) < (n1 : Int) := by omega
          obtain ⟨y2, hy2⟩ : ∃ y, t2 * Te.sb l (i : Int) = y := ⟨_, rfl⟩
          have HS2 : Hid (0 ≤ t2 ∧ t2 ≤ 1000000 ∧ (1 ≤ Te.sb l (i : Int) ∧ Te.sb l (i : Int) ≤ 600) ∧ t2 * Te.sb l (i : Int) = y2) := Lib.hid (by
            have h8 := HP2.out.2.2.2 (by have := HN1.out; omega)
            have h7 := Te.bt_r HV.out.1 (k := i) (by have := HN1.out; omega)
            rw [atB_eq (by have := HN1.out; omega)] at h7
            exact ⟨HP2.out.2.1, by omega, HV.out.2.sb_r _, hy2⟩)
          have hyr2 : 0 ≤ y2 ∧ y2 ≤ 600000000 := by rw [← hy2]; exact Te.mul_r HS2.out.1 HS2.out.2.1 (by have := HS2.out.2.2.1; omega) HS2.out.2.2.1.2
          clear hy2
          have p0 := P.c0; have p1 := P.c1; have p2 := P.c2; have pl := P.lt; have s0 := Q.c0; have s1 := Q.c1; have s2 := Q.c2; have sl := Q.lt
          go_wp2_with fail
          clear p0 p1 p2 pl s0 s1 s2 sl
          have hne := Ext.there wr
          have x0 := fun x : Ext wr => x.cell Q.c0; have x1 := fun x : Ext wr => x.cell Q.c1; have x2 := fun x : Ext wr => x.cell Q.c2
          have HC1 := fun y : Ext wr => kticks_is bn bd t2 HT2.out y.w
          have HC2 := fun y : Ext wr => rtakes_is l (i : Int) t2 y2 n2 c2 A2 HN2.out H12.out.1 H12.out.2 HS2.out.1 HS2.out.2.1 HS2.out.2.2.1 HS2.out.2.2.2 y.w (HL.out.below (hb0.trans (y.h.mono hb0.size)))
          refine Ext.region (by kernel_rfl) (by kernel_rfl) ?_
          repeat (go_big_quiet_step (first | (go_at_call 30; exact Ext.call _ (HC1 _)) | (go_at_call 29; exact Ext.call _ (HC2 _))))
          refine wpQuiet_nil ?_
          rintro _ ⟨xw, rfl⟩
          have hb := xw.h
          replace P := P.below hb; replace Q := Q.below hb; replace R := R.below hb; replace hb0 := hb0.trans (hb.mono hb0.size)
          clear x0 x1 x2 hne HC1 HC2 hb
          generalize xw.w = wr at *
          clear xw
          have HMN : Hid (Rt.makeR (v - y1 + y2) 100800 = (N, D, E)) := Lib.hid (by
            have h9 := HMK.out
            rw [Int.toNat_natCast, Int.toNat_natCast] at h9
            rw [HT1.out, HT2.out] at h9
            rw [← h9]
            congr 1
            unfold Te.tm
            rw [if_pos (by rw [HN1.out]; exact e2), if_pos (by rw [HN1.out]; exact e1), HS1.out.2.2.2, HS2.out.2.2.2, HVV2.out]; omega)
          have p0 := P.c0; have p1 := P.c1; have p2 := P.c2; have pl := P.lt; have s0 := Q.c0; have s1 := Q.c1; have s2 := Q.c2; have sl := Q.lt
          go_wp2_with fail
          clear p0 p1 p2 pl s0 s1 s2 sl
          refine (rmake_is _ 100800 N D E HMN.out _).mono ?_; rintro e w8 ⟨rfl, hb⟩
          replace R := (R.below hb).alloc (.cells #[.int .i64 N, .int .i64 D] 25); replace hb0 := (hb0.trans (hb.mono hb0.size)).alloc (hb0.trans (hb.mono hb0.size)).size (.cells #[.int .i64 N, .int .i64 D] 25)
          clear hb P Q
          have r0 := R.at2.c0; have r1 := R.at2.c1; have rl := R.at2.lt; have rf0 := R.f0; have rf1 := R.f1
          go_wp2_with fail
          clear r0 r1 rl rf0 rf1
          have R2 := R.put N D
          have hB2 := (hb0.setCell (p := ⟨w.heap.size + 1 + 1, 0, none⟩) (show w.heap.size ≤ w.heap.size + 1 + 1 by omega) (.int .i64 N)).setCell (p := ⟨w.heap.size + 1 + 1, 1, none⟩) (show w.heap.size ≤ w.heap.size + 1 + 1 by omega) (.int .i64 D)
          have z0 := R2.at2.c0; have z1 := R2.at2.c1
          refine bodyPost_ret (v := .tuple #[.agg #[.int .i64 N, .int .i64 D], .int .i64 E]) (by simp [results, Tryz.results11, z0, z1, go_sem]) rfl ⟨rfl, hB2⟩
        case neg =>
          have e2' : ¬ (i : Int) < (n1 : Int) := by omega
          have HMN : Hid (Rt.makeR (v - y1) 100800 = (N, D, E)) := Lib.hid (by
            have h9 := HMK.out
            rw [Int.toNat_natCast, Int.toNat_natCast] at h9
            rw [HT1.out, HT2.out] at h9
            rw [← h9]
            congr 1
            unfold Te.tm
            rw [if_neg (by rw [HN1.out]; exact e2), if_pos (by rw [HN1.out]; exact e1), HS1.out.2.2.2, HVV2.out]; omega)
          have p0 := P.c0; have p1 := P.c1; have p2 := P.c2; have pl := P.lt; have s0 := Q.c0; have s1 := Q.c1; have s2 := Q.c2; have sl := Q.lt
          go_wp2_with fail
          clear p0 p1 p2 pl s0 s1 s2 sl
          refine (rmake_is _ 100800 N D E HMN.out _).mono ?_; rintro e w8 ⟨rfl, hb⟩
          replace R := (R.below hb).alloc (.cells #[.int .i64 N, .int .i64 D] 25); replace hb0 := (hb0.trans (hb.mono hb0.size)).alloc (hb0.trans (hb.mono hb0.size)).size (.cells #[.int .i64 N, .int .i64 D] 25)
          clear hb P Q
          have r0 := R.at2.c0; have r1 := R.at2.c1; have rl := R.at2.lt; have rf0 := R.f0; have rf1 := R.f1
          go_wp2_with fail
          clear r0 r1 rl rf0 rf1
          have R2 := R.put N D
          have hB2 := (hb0.setCell (p := ⟨w.heap.size + 1 + 1, 0, none⟩) (show w.heap.size ≤ w.heap.size + 1 + 1 by omega) (.int .i64 N)).setCell (p := ⟨w.heap.size + 1 + 1, 1, none⟩) (show w.heap.size ≤ w.heap.size + 1 + 1 by omega) (.int .i64 D)
          have z0 := R2.at2.c0; have z1 := R2.at2.c1
          refine bodyPost_ret (v := .tuple #[.agg #[.int .i64 N, .int .i64 D], .int .i64 E]) (by simp [results, Tryz.results11, z0, z1, go_sem]) rfl ⟨rfl, hB2⟩
      case neg =>
        have e1' : ¬ (i0 : Int) < (n1 : Int) := by omega
        have e2 : ¬ i < n1 := by omega
        have e2' : ¬ (i : Int) < (n1 : Int) := by omega
        have HMN : Hid (Rt.makeR (v) 100800 = (N, D, E)) := Lib.hid (by
          have h9 := HMK.out
          rw [Int.toNat_natCast, Int.toNat_natCast] at h9
          rw [HT1.out, HT2.out] at h9
          rw [← h9]
          congr 1
          unfold Te.tm
          rw [if_neg (by rw [HN1.out]; exact e2), if_neg (by rw [HN1.out]; exact e1), HVV2.out]; omega)
        have p0 := P.c0; have p1 := P.c1; have p2 := P.c2; have pl := P.lt; have s0 := Q.c0; have s1 := Q.c1; have s2 := Q.c2; have sl := Q.lt
        go_wp2_with fail
        clear p0 p1 p2 pl s0 s1 s2 sl
        refine (rmake_is _ 100800 N D E HMN.out _).mono ?_; rintro e w8 ⟨rfl, hb⟩
        replace R := (R.below hb).alloc (.cells #[.int .i64 N, .int .i64 D] 25); replace hb0 := (hb0.trans (hb.mono hb0.size)).alloc (hb0.trans (hb.mono hb0.size)).size (.cells #[.int .i64 N, .int .i64 D] 25)
        clear hb P Q
        have r0 := R.at2.c0; have r1 := R.at2.c1; have rl := R.at2.lt; have rf0 := R.f0; have rf1 := R.f1
        go_wp2_with fail
        clear r0 r1 rl rf0 rf1
        have R2 := R.put N D
        have hB2 := (hb0.setCell (p := ⟨w.heap.size + 1 + 1, 0, none⟩) (show w.heap.size ≤ w.heap.size + 1 + 1 by omega) (.int .i64 N)).setCell (p := ⟨w.heap.size + 1 + 1, 1, none⟩) (show w.heap.size ≤ w.heap.size + 1 + 1 by omega) (.int .i64 D)
        have z0 := R2.at2.c0; have z1 := R2.at2.c1
        refine bodyPost_ret (v := .tuple #[.agg #[.int .i64 N, .int .i64 D], .int .i64 E]) (by simp [results, Tryz.results11, z0, z1, go_sem]) rfl ⟨rfl, hB2⟩
end Go.Proofs.YtahdlkdiadlgeaaGreat
