import Derived.Test.YtahdlkdiadlgeaaGAD
import Derived.Test.YtahdlkdiadlgeaaGAF
import Derived.LoopTactic
/- The walks of the reference's gcd, Ticks, Of, Duration. -/
namespace Go.Proofs.Ytahdlkdiadlgeaa
open Go.RowKit

set_option maxHeartbeats 400000 in
theorem kgcd_is (a b g : Nat) (h : Nat.gcd a b = g) (ha : a ≤ 1000000000000000) (hb : b ≤ 1000000000000000) (w : World) :
    Calls Try.prog 51 #[.int .i64 (a : Int), .int .i64 (b : Int)] w fun e w' => e = .returned (.int .i64 (g : Int)) ∧ w = w' := by
  have HG := Lib.hid h
  clear h
  go_enter Try.func51, Try.ntmps51
  go_wp2_with fail
  go_loopw [0, 1] (fun s0 s1 wr => ∃ (x y : Nat) (p q : Int), p = x ∧ q = y ∧ s0 = .int .i64 p ∧ s1 = .int .i64 q ∧ x ≤ 1000000000000000 ∧ y ≤ 1000000000000000 ∧ Hid (Nat.gcd x y = g) ∧ wr = w) (fun _ s1 _ => (intOf s1).toNat)
  case atStart => exact ⟨a, b, _, _, rfl, rfl, rfl, rfl, ha, hb, HG, rfl⟩
  case round =>
    obtain ⟨x, y, p, q, hp, hq, rfl, rfl, hx, hy, HE, rfl⟩ := hrel
    by_cases h0 : y = 0
    · subst h0
      obtain rfl : q = 0 := hq
      have hxg : x = g := by have := HE.out; rwa [Nat.gcd_zero_right] at this
      subst hxg
      obtain rfl := hp
      go_wp2_with fail
      go_ret
      exact ⟨rfl, rfl⟩
    · obtain ⟨r, hr⟩ : ∃ r, x % y = r := ⟨_, rfl⟩
      have hrm : p.tmod q = (r : Int) := by rw [hp, hq, ← hr]; rfl
      have hre : p % q = (r : Int) := by rw [hp, hq, ← hr]; rfl
      have hry : r < y := by rw [← hr]; exact Nat.mod_lt _ (by omega)
      have HE2 : Hid (Nat.gcd y r = g) := Lib.hid (by rw [← hr, ← HE.out, Nat.gcd_comm x y, Nat.gcd_rec y x, Nat.gcd_comm])
      have hqz : (q != 0) = true := by simp; omega
      have hqz2 : ¬ q = 0 := by omega
      have hq0 : 0 ≤ q := by omega
      have hp0 : 0 ≤ p := by omega
      have HQ := Lib.hid hq
      have hyq : (r : Int) < q := by omega
      clear hp hq hr HE h0
      go_wp2_with fail
      go_roundw
      case rel => exact ⟨y, r, q, r, HQ.out, rfl, rfl, rfl, hy, by omega, HE2, (by first | rfl | trivial)⟩
      case measure => simp only [intOf]; omega

set_option maxHeartbeats 800000 in
theorem kticks_is (n d t : Int) (h : Mt.tk n d = t) (w : World) :
    Calls Try.prog 25 #[.agg #[.int .i64 n, .int .i64 d]] w fun e w' => e = .returned (.int .i64 t) ∧ Below w.heap.size w w' := by
  have G0 := (Below.refl w.heap.size w).alloc (Nat.le_refl _) (.cells #[.int .i64 n, .int .i64 d] 25)
  unfold Mt.tk at h
  by_cases h1 : d < 1
  · rw [if_pos (.inl h1)] at h
    subst h
    go_enter Try.func25, Try.ntmps25
    go_wp2_with fail
    go_ret
    exact ⟨rfl, G0⟩
  have hd0 : ¬ d = 0 := by omega
  have hdm : (1680 : Int).tmod d = 1680 % d := Int.tmod_eq_emod_of_nonneg (by omega)
  by_cases h2 : 1680 % d ≠ 0
  · rw [if_pos (.inr (.inl h2))] at h
    subst h
    have h2' : (1680 % d != 0) = true := by simpa using h2
    go_enter Try.func25, Try.ntmps25
    go_wp2_with fail
    go_ret
    exact ⟨rfl, G0⟩
  have h2' : (1680 % d != 0) = false := by simpa using h2
  by_cases h3 : n < 0
  · rw [if_pos (.inr (.inr (.inl h3)))] at h
    subst h
    go_enter Try.func25, Try.ntmps25
    go_wp2_with fail
    go_ret
    exact ⟨rfl, G0⟩
  by_cases h4 : 1000000000 < n
  · rw [if_pos (.inr (.inr (.inr (.inl h4))))] at h
    subst h
    go_enter Try.func25, Try.ntmps25
    go_wp2_with fail
    go_ret
    exact ⟨rfl, G0⟩
  have hdv : d ∣ 1680 := Int.dvd_of_emod_eq_zero (by simpa using h2)
  have hd2 : d ≤ 1680 := Int.le_of_dvd (by omega) hdv
  obtain ⟨a, ha⟩ := Int.eq_ofNat_of_zero_le (show 0 ≤ n by omega)
  obtain ⟨b, hb⟩ := Int.eq_ofNat_of_zero_le (show 0 ≤ d by omega)
  obtain ⟨g, hg⟩ : ∃ g, Nat.gcd a b = g := ⟨_, rfl⟩
  have hgg : Int.gcd n d = g := by rw [ha, hb]; simpa [Int.gcd] using hg
  have HC : Hid (∀ w', Calls Try.prog 51 #[.int .i64 n, .int .i64 d] w' fun e w'' => e = .returned (.int .i64 (g : Int)) ∧ w' = w'') := Lib.hid (fun w' => by rw [ha, hb]; exact kgcd_is a b g hg (by omega) (by omega) w')
  rw [hgg] at h
  clear ha hb hg hgg hdv
  by_cases h5 : g ≠ 1
  · rw [if_pos (.inr (.inr (.inr (.inr h5))))] at h
    subst h
    have h5' : ((g : Int) != 1) = true := by simp; omega
    clear h5
    go_enter Try.func25, Try.ntmps25
    go_wp2_with (first | (go_at_call 51; refine (HC.out _).mono ?_; rintro e w2 ⟨rfl, rfl⟩) | fail)
    go_ret
    exact ⟨rfl, G0⟩
  · rw [if_neg (by simp only [not_or, Decidable.not_not]; exact ⟨h1, by simpa using h2, h3, h4, by simpa using h5⟩)] at h
    have h5' : ((g : Int) != 1) = false := by simp; omega
    obtain ⟨q, hq⟩ : ∃ q, (1680 : Int) / d = q := ⟨_, rfl⟩
    have hqt : (1680 : Int).tdiv d = q := by rw [Int.tdiv_eq_ediv_of_nonneg (by omega), hq]
    have hq0 : 0 ≤ q := by rw [← hq]; exact Int.ediv_nonneg (by omega) (by omega)
    have hq1 : q ≤ 1680 := by rw [← hq]; exact Int.ediv_le_self _ (by omega)
    rw [hq] at h
    have hm0 : 0 ≤ n * q := Int.mul_nonneg (by omega) hq0
    have hm1 : n * q ≤ 1000000000 * 1680 := Int.mul_le_mul (by omega) hq1 hq0 (by omega)
    have HT := Lib.hid h
    clear h5 h hq
    go_enter Try.func25, Try.ntmps25
    go_wp2_with (first | (go_at_call 51; refine (HC.out _).mono ?_; rintro e w2 ⟨rfl, rfl⟩) | fail)
    have A2 : At2 (w.alloc (.cells #[.int .i64 n, .int .i64 d] 25)) w.heap.size n d := At2.new _ _ _ _
    generalize w.alloc (.cells #[.int .i64 n, .int .i64 d] 25) = w2 at *
    have x0 := fun x : Ext w2 => x.cell A2.c0
    have x1 := fun x : Ext w2 => x.cell A2.c1
    have hne := Ext.there w2
    refine Ext.region (by kernel_rfl) (by kernel_rfl) ?_
    repeat (go_big_quiet_step (fail))
    refine wpQuiet_nil ?_
    rintro _ ⟨xw, rfl⟩
    have G1 := G0.trans (xw.h.mono G0.size)
    clear x0 x1 hne
    generalize xw.w = w3 at *
    clear xw
    go_wp2_with fail
    go_ret
    exact ⟨by rw [← HT.out]; rfl, G1⟩
end Go.Proofs.Ytahdlkdiadlgeaa

/- The walks of the reference's Of, Duration, Before, Position. -/
namespace Go.Proofs.Ytahdlkdiadlgeaa
open Go.RowKit

namespace Mt
/-- Is it a position in bars? -/
def posB (l : List B) (b n d : Int) : Bool := decide (0 ≤ b ∧ b ≤ (l.length : Int) ∧ 0 ≤ tk n d) && (if b = (l.length : Int) then decide (tk n d = 0) else decide (tk n d < bt (l[b.toNat]?.getD (0, 0, 0, 0))))
theorem posB_iff {l : List B} {b n d : Int} : posB l b n d = true ↔ 0 ≤ b ∧ pos l b.toNat (tk n d) := by
  unfold posB pos
  rw [Bool.and_eq_true, decide_eq_true_eq]
  by_cases h : b = (l.length : Int)
  · rw [if_pos h, decide_eq_true_eq]
    subst h
    rw [Int.toNat_natCast]
    constructor
    · rintro ⟨⟨h1, h2, h3⟩, h4⟩
      exact ⟨by omega, by omega, h3, fun _ => h4, fun h => absurd h (by omega)⟩
    · rintro ⟨h1, h2, h3, h4, h5⟩
      exact ⟨⟨by omega, by omega, h3⟩, h4 rfl⟩
  · rw [if_neg h, decide_eq_true_eq]
    constructor
    · rintro ⟨⟨h1, h2, h3⟩, h4⟩
      refine ⟨h1, by omega, h3, fun h5 => absurd (by omega) h, fun h5 => ?_⟩
      rw [List.getElem?_eq_getElem h5] at h4
      exact h4
    · rintro ⟨h1, h2, h3, h4, h5⟩
      have h6 : b.toNat < l.length := by omega
      refine ⟨⟨h1, by omega, h3⟩, ?_⟩
      rw [List.getElem?_eq_getElem h6]
      exact h5 h6
end Mt

set_option maxHeartbeats 800000 in
theorem kposition_is (l : List Mt.B) (b n d : Int) (f : Bool) (len cap : Nat) (A : Option Addr) (h : Mt.posB l b n d = f) (hl : l.length = len) (w : World) (hL : SlB w A l) :
    Calls Try.prog 10 #[.slice A len cap, .agg #[.int .i64 b, .int .i64 n, .int .i64 d]] w fun e w' => e = .returned (.bool f) ∧ Below w.heap.size w w' := by
  obtain ⟨t, ht⟩ : ∃ t, Mt.tk n d = t := ⟨_, rfl⟩
  unfold Mt.posB at h
  rw [ht, hl] at h
  have HT := Lib.hid ht
  have HN := Lib.hid hl
  have G0 := (Below.refl w.heap.size w).alloc (Nat.le_refl _) (.cells #[.int .i64 b, .int .i64 n, .int .i64 d] 27)
  have A3 : At3 (w.alloc (.cells #[.int .i64 b, .int .i64 n, .int .i64 d] 27)) w.heap.size b n d := At3.new _ _ _ _ _
  have HL := Lib.hid hL
  clear ht hl hL
  by_cases h1 : 0 ≤ b ∧ b ≤ (len : Int) ∧ 0 ≤ t
  · rw [decide_eq_true h1, Bool.true_and] at h
    obtain ⟨h2, h3, h4⟩ := h1
    have h2' : ¬ b < 0 := by omega
    have h3' : ¬ (len : Int) < b := by omega
    have h4' : ¬ t < 0 := by omega
    by_cases h5 : b = (len : Int)
    · rw [if_pos h5] at h
      have HF := Lib.hid h
      have h5' : (b == (len : Int)) = true := by simpa using h5
      clear h h5 h2 h3 h4
      go_enter Try.func10, Try.ntmps10
      go_wp2_with (first | (go_at_call 25; refine (kticks_is n d t HT.out _).mono ?_; rintro e w2 ⟨rfl, hb⟩; have B3 := A3.below hb; have c0 := B3.c0) | fail)
      go_ret
      exact ⟨by rw [← HF.out]; congr 2 <;> simp, G0.trans (hb.mono G0.size)⟩
    · rw [if_neg h5] at h
      have hbl : b.toNat < l.length := by rw [HN.out]; omega
      obtain ⟨bb, off, rfl, hbb, hc⟩ := HL.out (by omega)
      obtain ⟨_, c1, c2, _⟩ := hc _ hbl
      rw [show l[b.toNat]?.getD (0, 0, 0, 0) = atB l b.toNat from rfl] at h
      obtain ⟨u, hu⟩ : ∃ u, Mt.bt (atB l b.toNat) = u := ⟨_, rfl⟩
      rw [hu] at h
      have HU : Hid (Mt.tk (atB l b.toNat).2.1 (atB l b.toNat).2.2.1 = u) := Lib.hid hu
      have HF := Lib.hid h
      have h5' : (b == (len : Int)) = false := by simpa using h5
      have h6 : b < (len : Int) := by omega
      have h7 : b.toNat < len := by omega
      have HC := Lib.hid c1
      have HD := Lib.hid c2
      clear hc hu h c1 c2 hbl
      generalize (atB l b.toNat).2.1 = n2 at *
      generalize (atB l b.toNat).2.2.1 = d2 at *
      obtain ⟨j, hj⟩ : ∃ j, b.toNat = j := ⟨_, rfl⟩
      rw [hj] at HC HD h7
      clear h5 h3 h4
      go_enter Try.func10, Try.ntmps10
      go_wp2_with (first | (go_at_call 25; first | ((with_reducible refine (kticks_is n d t HT.out _).mono ?_); rintro e w2 ⟨rfl, hb⟩; have B3 := A3.below hb; have c0 := B3.c0; have G2 := G0.trans (hb.mono G0.size); have x1 := (G2.cell (p := ⟨bb, off + j * 4 + 1, none⟩) hbb).trans HC.out; have x2 := (G2.cell (p := ⟨bb, off + j * 4 + 2, none⟩) hbb).trans HD.out) | ((with_reducible refine (kticks_is n2 d2 u HU.out _).mono ?_); rintro e w4 ⟨rfl, hb4⟩)) | fail)
      go_ret
      exact ⟨by rw [← HF.out]; rfl, G2.trans (hb4.mono G2.size)⟩
  · rw [decide_eq_false h1, Bool.false_and] at h
    subst h
    by_cases h2 : b < 0
    · go_enter Try.func10, Try.ntmps10
      clear h1
      go_wp2_with (first | (go_at_call 25; refine (kticks_is n d t HT.out _).mono ?_; rintro e w2 ⟨rfl, hb⟩; have B3 := A3.below hb; have c0 := B3.c0) | fail)
      go_ret
      exact ⟨rfl, G0.trans (hb.mono G0.size)⟩
    · by_cases h3 : (len : Int) < b
      · go_enter Try.func10, Try.ntmps10
        clear h1
        go_wp2_with (first | (go_at_call 25; refine (kticks_is n d t HT.out _).mono ?_; rintro e w2 ⟨rfl, hb⟩; have B3 := A3.below hb; have c0 := B3.c0) | fail)
        go_ret
        exact ⟨rfl, G0.trans (hb.mono G0.size)⟩
      · have h4 : t < 0 := by omega
        go_enter Try.func10, Try.ntmps10
        clear h1
        go_wp2_with (first | (go_at_call 25; refine (kticks_is n d t HT.out _).mono ?_; rintro e w2 ⟨rfl, hb⟩; have B3 := A3.below hb; have c0 := B3.c0) | fail)
        go_ret
        exact ⟨rfl, G0.trans (hb.mono G0.size)⟩
end Go.Proofs.Ytahdlkdiadlgeaa

/- The walk of the reference's Valid. -/
namespace Go.Proofs.Ytahdlkdiadlgeaa
open Go.RowKit

namespace Mt
/-- A list that consists of bars. -/
def Val (l : List B) : Prop := 1 ≤ l.length ∧ l.length ≤ 4000 ∧ (∀ j, j < l.length → okB (atB l j)) ∧ ∀ j k, j < l.length → k < j → (atB l k).1 ≠ (atB l j).1
theorem Val.ok {l : List B} (h : Val l) : ∀ b ∈ l, okB b := fun b hb => by
  obtain ⟨j, hj, rfl⟩ := List.getElem_of_mem hb
  rw [← atB_eq hj]
  exact h.2.2.1 j hj
theorem not_ok {i t k : Int} (h : ¬ (1 ≤ i ∧ i ≤ 1000000 ∧ 1 ≤ t ∧ t ≤ 40320 ∧ -7 ≤ k ∧ k ≤ 7)) :
    i < 1 ∨ (¬ i < 1 ∧ 1000000 < i) ∨ (¬ i < 1 ∧ ¬ 1000000 < i ∧ t < 1) ∨ (¬ i < 1 ∧ ¬ 1000000 < i ∧ ¬ t < 1 ∧ 40320 < t) ∨ (¬ i < 1 ∧ ¬ 1000000 < i ∧ ¬ t < 1 ∧ ¬ 40320 < t ∧ k < -7) ∨ (¬ i < 1 ∧ ¬ 1000000 < i ∧ ¬ t < 1 ∧ ¬ 40320 < t ∧ ¬ k < -7 ∧ 7 < k) := by omega
end Mt

set_option maxHeartbeats 1600000 in
theorem kvalid_is (l : List Mt.B) (f : Bool) (len cap : Nat) (A : Option Addr) (h : f = true ↔ Mt.Val l) (hl : l.length = len) (w : World) (hL : SlB w A l) :
    Calls Try.prog 45 #[.slice A len cap] w fun e w' => e = .returned (.bool f) ∧ Below w.heap.size w w' := by
  have HF := Lib.hid h
  have HN := Lib.hid hl
  have HL := Lib.hid hL
  clear h hl hL
  by_cases h1 : len < 1
  · have hf : f = false := by
      cases f with
      | false => rfl
      | true => have := (HF.out.1 rfl).1; rw [HN.out] at this; omega
    subst hf
    have h1' : (len : Int) < 1 := by omega
    go_enter Try.func45, Try.ntmps45
    go_wp2_with fail
    go_ret
    exact ⟨rfl, Below.refl _ _⟩
  by_cases h2 : 4000 < len
  · have hf : f = false := by
      cases f with
      | false => rfl
      | true => have := (HF.out.1 rfl).2.1; rw [HN.out] at this; omega
    subst hf
    have h1' : ¬ (len : Int) < 1 := by omega
    have h2' : (4000 : Int) < (len : Int) := by omega
    go_enter Try.func45, Try.ntmps45
    go_wp2_with fail
    go_ret
    exact ⟨rfl, Below.refl _ _⟩
  have h1' : ¬ (len : Int) < 1 := by omega
  have h2' : ¬ (4000 : Int) < (len : Int) := by omega
  have hl1 : 1 ≤ len := by omega
  have hl4 : len ≤ 4000 := by omega
  clear h1 h2
  go_enter Try.func45, Try.ntmps45
  go_wp2_with fail
  go_loopw [3] (fun s3 wr => ∃ (i : Nat) (q : Int), i ≤ len ∧ q = i ∧ s3 = .int .i64 q ∧ Hid ((∀ j, j < i → Mt.okB (atB l j)) ∧ ∀ j k, j < i → k < j → (atB l k).1 ≠ (atB l j).1) ∧ Below w.heap.size w wr) (fun s3 _ => len - (intOf s3).toNat)
  case atStart => exact ⟨0, 0, Nat.zero_le _, rfl, rfl, Lib.hid ⟨fun j hj => by omega, fun j k hj => by omega⟩, Below.refl _ _⟩
  case round =>
    obtain ⟨i, q, hi, hq, rfl, HE, hG⟩ := hrel
    by_cases hlt : i < len
    · have hil : i < l.length := by rw [HN.out]; omega
      obtain ⟨bb, off, rfl, hbb, hc⟩ := HL.out (by omega)
      have HC := Lib.hid hc
      obtain ⟨c0, c1, c2, c3⟩ := hc i hil
      have x1 := (hG.cell (p := ⟨bb, off + i * 4 + 1, none⟩) hbb).trans c1
      have x2 := (hG.cell (p := ⟨bb, off + i * 4 + 2, none⟩) hbb).trans c2
      obtain ⟨t, ht⟩ : ∃ t, Mt.bt (atB l i) = t := ⟨_, rfl⟩
      have HT : Hid (Mt.tk (atB l i).2.1 (atB l i).2.2.1 = t) := Lib.hid ht
      obtain ⟨id, hid⟩ : ∃ id, (atB l i).1 = id := ⟨_, rfl⟩
      obtain ⟨ke, hke⟩ : ∃ ke, (atB l i).2.2.2 = ke := ⟨_, rfl⟩
      rw [hid] at c0
      rw [hke] at c3
      have hq1 : q < (len : Int) := by omega
      have hq3 : 0 ≤ q := by omega
      have hqn : q.toNat = i := by omega
      have HQ := Lib.hid hq
      have HID := Lib.hid hid
      have HI := Lib.hid hil
      have X0 := Lib.hid c0
      have X3 := Lib.hid c3
      by_cases hok : 1 ≤ id ∧ id ≤ 1000000 ∧ 1 ≤ t ∧ t ≤ 40320 ∧ -7 ≤ ke ∧ ke ≤ 7
      · have HOK : Hid (Mt.okB (atB l i)) := Lib.hid (by unfold Mt.okB; rw [hid, ht, hke]; exact hok)
        obtain ⟨o1, o2, o3, o4, o5, o6⟩ := hok
        have o1' : ¬ id < 1 := by omega
        have o2' : ¬ 1000000 < id := by omega
        have o3' : ¬ t < 1 := by omega
        have o4' : ¬ 40320 < t := by omega
        have o5' : ¬ ke < -7 := by omega
        have o6' : ¬ 7 < ke := by omega
        clear hc c0 c1 c2 c3 ht hid hke hil hq o1 o2 o3 o4 o5 o6
        generalize (atB l i).2.1 = n at *
        generalize (atB l i).2.2.1 = d at *
        go_wp2_with (first | (go_at_call 25; refine (kticks_is n d t HT.out _).mono ?_; rintro e w2 ⟨rfl, hb⟩; have G2 := hG.trans (hb.mono hG.size); have y0 := (G2.cell (p := ⟨bb, off + i * 4, none⟩) hbb).trans X0.out; have y3 := (G2.cell (p := ⟨bb, off + i * 4 + 3, none⟩) hbb).trans X3.out) | fail)
        clear x1 x2 y3
        go_loopw [5] (fun s5 wr => ∃ (k : Nat) (p : Int), k ≤ i ∧ p = k ∧ s5 = .int .i64 p ∧ Hid (∀ m, m < k → (atB l m).1 ≠ id) ∧ Below w2.heap.size w2 wr) (fun s5 _ => i - (intOf s5).toNat)
        case atStart => exact ⟨0, 0, Nat.zero_le _, rfl, rfl, Lib.hid (fun m hm => by omega), Below.refl _ _⟩
        case round =>
          obtain ⟨k, p, hk, hp, rfl, HK, hX⟩ := hrel
          by_cases hki : k < i
          · obtain ⟨z0, _⟩ := HC.out k (by have := HI.out; omega)
            obtain ⟨id2, hid2⟩ : ∃ id2, (atB l k).1 = id2 := ⟨_, rfl⟩
            rw [hid2] at z0
            have hbb2 : bb < w2.heap.size := Nat.lt_of_lt_of_le hbb G2.size
            have u0 := fun y : Ext wr => y.cell ((hX.cell (p := ⟨bb, off + i * 4, none⟩) hbb2).trans y0)
            have u1 := fun y : Ext wr => y.cell ((hX.cell (p := ⟨bb, off + k * 4, none⟩) hbb2).trans ((G2.cell (p := ⟨bb, off + k * 4, none⟩) hbb).trans z0))
            have hne := Ext.there wr
            have hp1 : p < q := by have := HQ.out; omega
            have hp3 : 0 ≤ p := by omega
            have hpn : p.toNat = k := by omega
            have hpl : p < (len : Int) := by omega
            have hkl : k < len := by omega
            have HP := Lib.hid hp
            clear z0 hp
            by_cases he : id2 = id
            · have hf : f = false := by
                cases f with
                | false => rfl
                | true => exact absurd (by rw [hid2, HID.out]; exact he) ((HF.out.1 rfl).2.2.2 i k HI.out hki)
              subst hf
              have he' : (id2 == id) = true := by simpa using he
              clear he hid2
              go_wp2_with fail
              refine Ext.region (by kernel_rfl) (by kernel_rfl) ?_
              repeat (go_big_quiet_step (fail))
              refine wpQuiet_nil ?_
              rintro _ ⟨xw, rfl⟩
              have G3 := G2.trans ((hX.trans (xw.h.mono hX.size)).mono G2.size)
              clear u0 u1 hne
              generalize xw.w = w3 at *
              clear xw
              go_wp2_with fail
              go_ret
              exact ⟨rfl, G3⟩
            · have HK2 : Hid (∀ m, m < k + 1 → (atB l m).1 ≠ id) := Lib.hid (fun m hm => by
                by_cases e : m = k
                · subst e; rw [hid2]; exact he
                · exact HK.out m (by omega))
              have he' : (id2 == id) = false := by simpa using he
              clear he hid2
              go_wp2_with fail
              refine Ext.region (by kernel_rfl) (by kernel_rfl) ?_
              repeat (go_big_quiet_step (fail))
              refine wpQuiet_nil ?_
              rintro _ ⟨xw, rfl⟩
              replace hX := hX.trans (xw.h.mono hX.size)
              clear u0 u1 hne
              generalize xw.w = w3 at *
              clear xw
              go_wp2_with fail
              go_roundw
              case rel => exact ⟨k + 1, p + 1, by omega, (by have := HP.out; omega), rfl, HK2, hX⟩
              case measure => have := HP.out; simp [intOf]; omega
          · obtain rfl : k = i := by omega
            have hp1 : ¬ p < q := by have := HQ.out; omega
            have HE2 : Hid ((∀ j, j < k + 1 → Mt.okB (atB l j)) ∧ ∀ j m, j < k + 1 → m < j → (atB l m).1 ≠ (atB l j).1) := Lib.hid ⟨fun j hj => by
              by_cases e : j = k
              · subst e; exact HOK.out
              · exact HE.out.1 j (by omega), fun j m hj hm => by
              by_cases e : j = k
              · subst e; rw [HID.out]; exact HK.out m hm
              · exact HE.out.2 j m (by omega) hm⟩
            have G3 := G2.trans (hX.mono G2.size)
            clear hp
            go_wp2_with fail
            go_roundw
            case rel => exact ⟨k + 1, q + 1, by omega, (by have := HQ.out; omega), rfl, HE2, G3⟩
            case measure => have := HQ.out; simp [intOf]; omega
      · have hf : f = false := by
          cases f with
          | false => rfl
          | true =>
            exfalso
            have := (HF.out.1 rfl).2.2.1 i hil
            unfold Mt.okB at this
            rw [hid, ht, hke] at this
            exact hok this
        subst hf
        have hbad := Mt.not_ok hok
        clear hok hc c0 c1 c2 c3 ht hid hke hil hq
        generalize (atB l i).2.1 = n at *
        generalize (atB l i).2.2.1 = d at *
        rcases hbad with b1 | ⟨b1, b2⟩ | ⟨b1, b2, b3⟩ | ⟨b1, b2, b3, b4⟩ | ⟨b1, b2, b3, b4, b5⟩ | ⟨b1, b2, b3, b4, b5, b6⟩
        all_goals
          go_wp2_with (first | (go_at_call 25; refine (kticks_is n d t HT.out _).mono ?_; rintro e w2 ⟨rfl, hb⟩; have G2 := hG.trans (hb.mono hG.size); have y0 := (G2.cell (p := ⟨bb, off + i * 4, none⟩) hbb).trans X0.out; have y3 := (G2.cell (p := ⟨bb, off + i * 4 + 3, none⟩) hbb).trans X3.out) | fail)
          go_ret
          exact ⟨rfl, G2⟩
    · obtain rfl : i = len := by omega
      have hf : f = true := HF.out.2 ⟨by rw [HN.out]; exact hl1, by rw [HN.out]; exact hl4, by rw [HN.out]; exact HE.out.1, by rw [HN.out]; exact HE.out.2⟩
      subst hf
      have hq1 : ¬ q < (i : Int) := by omega
      clear hq
      go_wp2_with fail
      go_ret
      exact ⟨rfl, hG⟩
end Go.Proofs.Ytahdlkdiadlgeaa

/- The walks of the reference's at, Total, Time, Where. -/
namespace Go.Proofs.Ytahdlkdiadlgeaa
open Go.RowKit

namespace Mt
def mv (i : Nat) (o : Option (Nat × Int)) : Option (Nat × Int) := o.map fun p => (i + p.1, p.2)
theorem mv_zero (o : Option (Nat × Int)) : mv 0 o = o := by cases o <;> simp [mv]
theorem wh_drop {l : List B} {i : Nat} (n : Int) (h : i < l.length) : mv i (wh (l.drop i) n) = if 0 ≤ n ∧ n < bt l[i] then some (i, n) else mv (i + 1) (wh (l.drop (i + 1)) (n - bt l[i])) := by
  rw [List.drop_eq_getElem_cons h, wh]
  split
  · rfl
  · cases wh (l.drop (i + 1)) (n - bt l[i]) with
    | none => rfl
    | some p => simp [mv]; omega
theorem wh_end {l : List B} {i : Nat} (n : Int) (h : l.length ≤ i) : mv i (wh (l.drop i) n) = if n = 0 then some (i, 0) else none := by
  rw [List.drop_eq_nil_of_le h, wh]
  split <;> rfl
end Mt
def AtP (O : Option (Nat × Int)) (e : Ending) : Prop := match O with
  | none => e = .returned (.tuple #[.agg #[.int .i64 0, .int .i64 0, .int .i64 0], .bool false])
  | some (k, t) => e = .returned (.tuple #[.agg #[.int .i64 (k : Int), .int .i64 (Mt.oN t.toNat), .int .i64 (Mt.oD t.toNat)], .bool true])

namespace Mt
theorem before_bounds {l : List B} (hok : ∀ b ∈ l, okB b) : ∀ k, k ≤ l.length → 0 ≤ before l k ∧ before l k ≤ 40320 * (k : Int)
  | 0, _ => by rw [before_zero]; omega
  | k + 1, h => by
    have ih := before_bounds hok k (by omega)
    have := hok _ (List.getElem_mem (show k < l.length by omega))
    obtain ⟨_, _, t1, t2, _, _⟩ := this
    rw [before_succ (by omega)]
    omega
def totN (l : List B) : Int := oN (before l l.length).toNat
def totD (l : List B) : Int := oD (before l l.length).toNat
end Mt
/-- A ratio and an error, or none and ErrArg. -/
def RatP (f : Bool) (N D : Int) (e : Ending) : Prop := if f = true then e = .returned (.tuple #[.agg #[.int .i64 N, .int .i64 D], .int .i64 0]) else e = .returned (.tuple #[.agg #[.int .i64 0, .int .i64 0], .int .i64 1])

end Go.Proofs.Ytahdlkdiadlgeaa

/- The walks of the reference's Time, Where. -/
namespace Go.Proofs.Ytahdlkdiadlgeaa
open Go.RowKit

end Go.Proofs.Ytahdlkdiadlgeaa

/- The walks of the reference's Where, Shift, Few. -/
namespace Go.Proofs.Ytahdlkdiadlgeaa
open Go.RowKit

theorem put3 {w : World} {b : Nat} {p q r : Int} (V : Var3 w b p q r) (x y z : Int) : At3 (((w.setCell ⟨b, 0, none⟩ (.int .i64 x)).setCell ⟨b, 1, none⟩ (.int .i64 y)).setCell ⟨b, 2, none⟩ (.int .i64 z)) b x y z := by
  obtain ⟨l, v0, v1, v2⟩ := V.at3
  exact ⟨by simpa using l, by go_simp, by go_simp, by go_simp⟩
/-- A position and an error. -/
def PosP (c : Bool) (O : Option (Nat × Int)) (e : Ending) : Prop := if c = true then (match O with
  | none => e = .returned (.tuple #[.agg #[.int .i64 0, .int .i64 0, .int .i64 0], .int .i64 3])
  | some (k, t) => e = .returned (.tuple #[.agg #[.int .i64 (k : Int), .int .i64 (Mt.oN t.toNat), .int .i64 (Mt.oD t.toNat)], .int .i64 0])) else e = .returned (.tuple #[.agg #[.int .i64 0, .int .i64 0, .int .i64 0], .int .i64 1])

end Go.Proofs.Ytahdlkdiadlgeaa
