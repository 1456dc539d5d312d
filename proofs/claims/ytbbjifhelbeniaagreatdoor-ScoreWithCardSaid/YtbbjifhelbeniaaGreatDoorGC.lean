import Derived.Test.YtbbjifhelbeniaaGreatDoorGA
import Derived.LoopTactic
/- Mathematics of bars: 1680ths, before, where. -/
namespace Go.Proofs.YtbbjifhelbeniaaGreatDoor.Mt

/-- How many 1680ths a duration is; -1: it is none. -/
def tk (n d : Int) : Int := if d < 1 ∨ 1680 % d ≠ 0 ∨ n < 0 ∨ 1000000000 < n ∨ Int.gcd n d ≠ 1 then -1 else n * (1680 / d)
def oN (n : Nat) : Int := ((n / Nat.gcd n 1680 : Nat) : Int)
def oD (n : Nat) : Int := ((1680 / Nat.gcd n 1680 : Nat) : Int)
theorem tk_cases (n d : Int) : tk n d = -1 ∨ (1 ≤ d ∧ 1680 % d = 0 ∧ 0 ≤ n ∧ n ≤ 1000000000 ∧ Int.gcd n d = 1 ∧ tk n d = n * (1680 / d)) := by
  unfold tk
  split
  · exact .inl rfl
  · rename_i h
    simp only [not_or, Decidable.not_not] at h
    exact .inr ⟨by omega, h.2.1, by omega, by omega, h.2.2.2.2, rfl⟩
theorem tk_parts {n d : Int} (h : tk n d ≠ -1) : ∃ a b k : Nat, n = a ∧ d = b ∧ 1680 = b * k ∧ 0 < b ∧ 0 < k ∧ a ≤ 1000000000 ∧ Nat.gcd a b = 1 ∧ tk n d = ((a * k : Nat) : Int) := by
  rcases tk_cases n d with h1 | ⟨h1, h2, h3, h4, h5, h6⟩
  · exact absurd h1 h
  · obtain ⟨a, rfl⟩ := Int.eq_ofNat_of_zero_le h3
    obtain ⟨b, rfl⟩ := Int.eq_ofNat_of_zero_le (show 0 ≤ d by omega)
    have hb : 0 < b := by omega
    have hdv : (b : Int) ∣ 1680 := Int.dvd_of_emod_eq_zero h2
    have hdv2 : b ∣ 1680 := Int.natCast_dvd_natCast.1 (show ((b : Nat) : Int) ∣ ((1680 : Nat) : Int) from hdv)
    obtain ⟨k, hk⟩ := hdv2
    have hkp : 0 < k := by
      rcases Nat.eq_zero_or_pos k with h0 | h0
      · subst h0; omega
      · exact h0
    refine ⟨a, b, k, rfl, rfl, hk, hb, hkp, by omega, by simpa [Int.gcd] using h5, ?_⟩
    have hq : (1680 : Int) / (b : Int) = (k : Int) := by
      have h7 : (1680 : Int) = (b : Int) * (k : Int) := by rw [← Int.natCast_mul, ← hk]; rfl
      rw [h7]
      exact Int.mul_ediv_cancel_left _ (by omega)
    rw [h6, hq]
    simp
theorem tk_ge (n d : Int) : -1 ≤ tk n d := by
  by_cases h : tk n d = -1
  · omega
  · obtain ⟨a, b, k, _, _, _, _, _, _, _, h8⟩ := tk_parts h
    omega
theorem tk_le (n d : Int) : tk n d ≤ 1680000000000 := by
  by_cases h : tk n d = -1
  · omega
  · obtain ⟨a, b, k, _, _, h3, h4, _, h6, _, h8⟩ := tk_parts h
    have hk : k ≤ 1680 := by rw [h3]; exact Nat.le_mul_of_pos_left k h4
    have := Nat.mul_le_mul h6 hk
    omega
/-- The duration of a duration's 1680ths is this one. -/
theorem of_tk {n d : Int} (h : tk n d ≠ -1) : oN (tk n d).toNat = n ∧ oD (tk n d).toNat = d := by
  obtain ⟨a, b, k, rfl, rfl, h3, h4, h5, _, h7, h8⟩ := tk_parts h
  have hg : Nat.gcd (a * k) 1680 = k := by rw [h3, Nat.gcd_mul_right, h7, Nat.one_mul]
  rw [h8, Int.toNat_natCast]
  unfold oN oD
  rw [hg, Nat.mul_div_cancel _ h5]
  refine ⟨rfl, ?_⟩
  conv => lhs; rw [h3]
  rw [Nat.mul_div_cancel _ h5]
/-- How many 1680ths the duration of so many 1680ths is. -/
theorem tk_of {n : Nat} (h : n ≤ 1000000000) : tk (oN n) (oD n) = (n : Int) := by
  have hg : 0 < Nat.gcd n 1680 := Nat.gcd_pos_of_pos_right _ (by omega)
  obtain ⟨a, ha⟩ := Nat.gcd_dvd_left n 1680
  obtain ⟨b, hb⟩ := Nat.gcd_dvd_right n 1680
  have hab : Nat.gcd a b = 1 := by
    have h1 : Nat.gcd (Nat.gcd n 1680 * a) (Nat.gcd n 1680 * b) = Nat.gcd n 1680 * Nat.gcd a b := Nat.gcd_mul_left ..
    rw [← ha, ← hb] at h1
    exact (Nat.eq_of_mul_eq_mul_left hg (by rw [Nat.mul_one]; exact h1)).symm
  have ea : n / Nat.gcd n 1680 = a := Nat.div_eq_of_eq_mul_right hg ha
  have eb : 1680 / Nat.gcd n 1680 = b := Nat.div_eq_of_eq_mul_right hg hb
  unfold oN oD
  rw [ea, eb]
  generalize Nat.gcd n 1680 = g at *
  have hb0 : 0 < b := by
    rcases Nat.eq_zero_or_pos b with h0 | h0
    · subst h0; omega
    · exact h0
  have han : a ≤ n := by rw [ha]; exact Nat.le_mul_of_pos_left a hg
  have hd : (1680 : Int) = (b : Int) * (g : Int) := by rw [Int.mul_comm, ← Int.natCast_mul, ← hb]; rfl
  unfold tk
  rw [if_neg]
  · rw [hd, Int.mul_ediv_cancel_left _ (by omega)]
    have : (n : Int) = (g : Int) * (a : Int) := by rw [← Int.natCast_mul, ← ha]
    rw [this, Int.mul_comm]
  · simp only [not_or, Decidable.not_not]
    refine ⟨by omega, ?_, by omega, by omega, by simpa [Int.gcd] using hab⟩
    rw [hd]
    exact Int.mul_emod_right _ _

/-- A bar: ID, Length, Key. -/
abbrev B := Int × Int × Int × Int
def bt (b : B) : Int := tk b.2.1 b.2.2.1
def okB (b : B) : Prop := 1 ≤ b.1 ∧ b.1 ≤ 1000000 ∧ 1 ≤ bt b ∧ bt b ≤ 40320 ∧ -7 ≤ b.2.2.2 ∧ b.2.2.2 ≤ 7
instance (b : B) : Decidable (okB b) := by unfold okB; infer_instance
def before (l : List B) (k : Nat) : Int := ((l.take k).map bt).sum
theorem before_zero (l : List B) : before l 0 = 0 := rfl
theorem before_succ {l : List B} {k : Nat} (h : k < l.length) : before l (k + 1) = before l k + bt l[k] := by
  unfold before
  rw [List.take_succ_eq_append_getElem h, List.map_append, List.sum_append]
  simp
/-- Where so many 1680ths are: the bar, and what is left of them. -/
def wh : List B → Int → Option (Nat × Int)
  | [], n => if n = 0 then some (0, 0) else none
  | b :: r, n => if 0 ≤ n ∧ n < bt b then some (0, n) else (wh r (n - bt b)).map fun p => (p.1 + 1, p.2)
def pos (l : List B) (k : Nat) (t : Int) : Prop := k ≤ l.length ∧ 0 ≤ t ∧ (k = l.length → t = 0) ∧ ∀ h : k < l.length, t < bt l[k]
theorem wh_pos : ∀ {l : List B} {k : Nat} {t : Int}, (∀ b ∈ l, 1 ≤ bt b) → pos l k t → wh l (before l k + t) = some (k, t)
  | [], k, t, _, ⟨h1, h2, h3, h4⟩ => by
    obtain rfl : k = 0 := by simpa using h1
    have := h3 rfl
    subst this
    rfl
  | b :: r, 0, t, _, ⟨h1, h2, h3, h4⟩ => by
    have := h4 (by simp)
    rw [List.getElem_cons_zero] at this
    rw [before_zero, Int.zero_add, wh, if_pos ⟨h2, this⟩]
  | b :: r, k + 1, t, hb, ⟨h1, h2, h3, h4⟩ => by
    have hr : ∀ x ∈ r, 1 ≤ bt x := fun x hx => hb x (by simp [hx])
    have ih := wh_pos (l := r) (k := k) (t := t) hr ⟨by simpa using h1, h2, fun h => h3 (by simp [h]), fun h => by have := h4 (by simpa using h); simpa using this⟩
    have e : before (b :: r) (k + 1) = bt b + before r k := by unfold before; simp
    have h0 : 0 ≤ before r k := by
      unfold before
      have : ∀ l : List B, (∀ x ∈ l, 1 ≤ bt x) → 0 ≤ (l.map bt).sum := fun l => by
        induction l with
        | nil => intro _; simp
        | cons x s ih => intro h; have := ih (fun y hy => h y (by simp [hy])); have := h x (by simp); simp; omega
      exact this _ (fun x hx => hr x (List.mem_of_mem_take hx))
    rw [e, wh, if_neg (by omega), show bt b + before r k + t - bt b = before r k + t by omega, ih]
    rfl
theorem wh_some : ∀ {l : List B} {n : Int} {k : Nat} {t : Int}, (∀ b ∈ l, 1 ≤ bt b) → wh l n = some (k, t) → pos l k t ∧ before l k + t = n
  | [], n, k, t, _, h => by
    rw [wh] at h
    split at h
    · cases h
      rename_i h0
      exact ⟨⟨Nat.le_refl _, Int.le_refl _, fun _ => rfl, fun h => by simp at h⟩, by rw [before_zero]; omega⟩
    · cases h
  | b :: r, n, k, t, hb, h => by
    rw [wh] at h
    split at h
    · rename_i h0
      cases h
      exact ⟨⟨Nat.zero_le _, h0.1, fun h => by simp at h, fun _ => h0.2⟩, by rw [before_zero]; omega⟩
    · cases h2 : wh r (n - bt b) with
      | none => rw [h2] at h; cases h
      | some p =>
        obtain ⟨i, s⟩ := p
        rw [h2] at h
        cases h
        obtain ⟨⟨a1, a2, a3, a4⟩, a5⟩ := wh_some (l := r) (fun x hx => hb x (by simp [hx])) h2
        refine ⟨⟨by simpa using a1, a2, fun h => a3 (by simpa using h), fun h => by have := a4 (by simpa using h); simpa using this⟩, ?_⟩
        have e : before (b :: r) (i + 1) = bt b + before r i := by unfold before; simp
        rw [e]
        omega
end Go.Proofs.YtbbjifhelbeniaaGreatDoor.Mt

/- Slices of bars. -/
namespace Go.Proofs.YtbbjifhelbeniaaGreatDoor
open Go.RowKit

def atB (l : List Mt.B) (i : Nat) : Mt.B := l[i]?.getD (0, 0, 0, 0)
theorem atB_eq {l : List Mt.B} {i : Nat} (h : i < l.length) : atB l i = l[i] := by unfold atB; rw [List.getElem?_eq_getElem h]; rfl
/-- At this address lie these bars (nothing is said where there are none). -/
def SlB (w : World) (A : Option Addr) (l : List Mt.B) : Prop :=
  0 < l.length → ∃ b off, A = some ⟨b, off, none⟩ ∧ b < w.heap.size ∧ ∀ k, k < l.length → w.cell? ⟨b, off + k * 4, none⟩ = some (.int .i64 (atB l k).1) ∧
    w.cell? ⟨b, off + k * 4 + 1, none⟩ = some (.int .i64 (atB l k).2.1) ∧ w.cell? ⟨b, off + k * 4 + 2, none⟩ = some (.int .i64 (atB l k).2.2.1) ∧ w.cell? ⟨b, off + k * 4 + 3, none⟩ = some (.int .i64 (atB l k).2.2.2)
theorem SlB.below {w w' : World} {A : Option Addr} {l : List Mt.B} (h : SlB w A l) (hb : Below w.heap.size w w') : SlB w' A l := fun h0 => by
  obtain ⟨b, off, e, hlt, hc⟩ := h h0
  refine ⟨b, off, e, Nat.lt_of_lt_of_le hlt hb.size, fun k hk => ?_⟩
  obtain ⟨c0, c1, c2, c3⟩ := hc k hk
  exact ⟨(hb.cell (p := ⟨b, off + k * 4, none⟩) hlt).trans c0, (hb.cell (p := ⟨b, off + k * 4 + 1, none⟩) hlt).trans c1, (hb.cell (p := ⟨b, off + k * 4 + 2, none⟩) hlt).trans c2, (hb.cell (p := ⟨b, off + k * 4 + 3, none⟩) hlt).trans c3⟩
theorem SlB.alloc {w : World} {A : Option Addr} {l : List Mt.B} (h : SlB w A l) (o : Obj) : SlB (w.alloc o) A l := h.below ((Below.refl _ _).alloc (Nat.le_refl _) _)
theorem SlB.nil (w : World) (A : Option Addr) : SlB w A [] := fun h => by simp at h
theorem baddr_off (b o j : Nat) : (⟨b, o, none⟩ : Addr).add j = ⟨b, o + j, none⟩ := by unfold Addr.add; split <;> simp_all
theorem SlB.take {w : World} {A : Option Addr} {l : List Mt.B} (h : SlB w A l) (j : Nat) : SlB w A (l.take j) := fun h0 => by
  rw [List.length_take] at h0
  obtain ⟨b, off, rfl, hb, hc⟩ := h (by omega)
  refine ⟨b, off, rfl, hb, fun i hi => ?_⟩
  rw [List.length_take] at hi
  have e : atB (l.take j) i = atB l i := by unfold atB; rw [List.getElem?_take, if_pos (by omega)]
  rw [e]
  exact hc i (by omega)
theorem SlB.drop {w : World} {A : Option Addr} {l : List Mt.B} (h : SlB w A l) (j : Nat) : SlB w (Option.map (fun x => x.add (j * 4)) A) (l.drop j) := fun h0 => by
  rw [List.length_drop] at h0
  obtain ⟨b, off, rfl, hb, hc⟩ := h (by omega)
  refine ⟨b, off + j * 4, by rw [Option.map_some, baddr_off], hb, fun i hi => ?_⟩
  rw [List.length_drop] at hi
  have e : atB (l.drop j) i = atB l (j + i) := by unfold atB; rw [List.getElem?_drop]
  rw [e, show off + j * 4 + i * 4 = off + (j + i) * 4 by omega]
  exact hc (j + i) (by omega)
end Go.Proofs.YtbbjifhelbeniaaGreatDoor

/- The walks of the reference's gcd, Ticks, Of, Duration. -/
namespace Go.Proofs.YtbbjifhelbeniaaGreatDoor
open Go.RowKit

set_option maxHeartbeats 400000 in
theorem kgcd_is (a b g : Nat) (h : Nat.gcd a b = g) (ha : a ≤ 1000000000000000) (hb : b ≤ 1000000000000000) (w : World) :
    Calls Tryz.prog 90 #[.int .i64 (a : Int), .int .i64 (b : Int)] w fun e w' => e = .returned (.int .i64 (g : Int)) ∧ w = w' := by
  have HG := Lib.hid h
  clear h
  go_enter Tryz.func90, Tryz.ntmps90
  go_wp2_with fail
  go_loopw [0, 1] (fun s0 s1 wr => ∃ (x y : Nat) (p q : Int), p = x ∧ q = y ∧ s0 = .int .i64 p ∧ s1 = .int .i64 q ∧ x ≤ 1000000000000000 ∧ y ≤ 1000000000000000 ∧ Hid (Nat.gcd x y = g) ∧ wr = w) (fun _ s1 _ => (intOf s1).toNat)
  case atStart => exact ⟨a, b, _, _, rfl, rfl, rfl, rfl, ha, hb, HG, rfl⟩
  case round =>
    obtain ⟨x, y, p, q, hp, hq, rfl, rfl, hx, hy, HE, rfl⟩ := hrel
    by_cases h0 : y = 0
    · subst h0
      obtain rfl : q = 0 := hq
      have hxg : x = g := by have := HE.out; rwa [Nat.gcd_zero_right] at this
      subst hxg
      obtain rfl := hp
      go_wp2_with fail
      go_ret
      exact ⟨rfl, rfl⟩
    · obtain ⟨r, hr⟩ : ∃ r, x % y = r := ⟨_, rfl⟩
      have hrm : p.tmod q = (r : Int) := by rw [hp, hq, ← hr]; rfl
      have hre : p % q = (r : Int) := by rw [hp, hq, ← hr]; rfl
      have hry : r < y := by rw [← hr]; exact Nat.mod_lt _ (by omega)
      have HE2 : Hid (Nat.gcd y r = g) := Lib.hid (by rw [← hr, ← HE.out, Nat.gcd_comm x y, Nat.gcd_rec y x, Nat.gcd_comm])
      have hqz : (q != 0) = true := by simp; omega
      have hqz2 : ¬ q = 0 := by omega
      have hq0 : 0 ≤ q := by omega
      have hp0 : 0 ≤ p := by omega
      have HQ := Lib.hid hq
      have hyq : (r : Int) < q := by omega
      clear hp hq hr HE h0
      go_wp2_with fail
      go_roundw
      case rel => exact ⟨y, r, q, r, HQ.out, rfl, rfl, rfl, hy, by omega, HE2, (by first | rfl | trivial)⟩
      case measure => simp only [intOf]; omega

set_option maxHeartbeats 800000 in
theorem kticks_is (n d t : Int) (h : Mt.tk n d = t) (w : World) :
    Calls Tryz.prog 71 #[.agg #[.int .i64 n, .int .i64 d]] w fun e w' => e = .returned (.int .i64 t) ∧ Below w.heap.size w w' := by
  have G0 := (Below.refl w.heap.size w).alloc (Nat.le_refl _) (.cells #[.int .i64 n, .int .i64 d] 41)
  unfold Mt.tk at h
  by_cases h1 : d < 1
  · rw [if_pos (.inl h1)] at h
    subst h
    go_enter Tryz.func71, Tryz.ntmps71
    go_wp2_with fail
    go_ret
    exact ⟨rfl, G0⟩
  have hd0 : ¬ d = 0 := by omega
  have hdm : (1680 : Int).tmod d = 1680 % d := Int.tmod_eq_emod_of_nonneg (by omega)
  by_cases h2 : 1680 % d ≠ 0
  · rw [if_pos (.inr (.inl h2))] at h
    subst h
    have h2' : (1680 % d != 0) = true := by simpa using h2
    go_enter Tryz.func71, Tryz.ntmps71
    go_wp2_with fail
    go_ret
    exact ⟨rfl, G0⟩
  have h2' : (1680 % d != 0) = false := by simpa using h2
  by_cases h3 : n < 0
  · rw [if_pos (.inr (.inr (.inl h3)))] at h
    subst h
    go_enter Tryz.func71, Tryz.ntmps71
    go_wp2_with fail
    go_ret
    exact ⟨rfl, G0⟩
  by_cases h4 : 1000000000 < n
  · rw [if_pos (.inr (.inr (.inr (.inl h4))))] at h
    subst h
    go_enter Tryz.func71, Tryz.ntmps71
    go_wp2_with fail
    go_ret
    exact ⟨rfl, G0⟩
  have hdv : d ∣ 1680 := Int.dvd_of_emod_eq_zero (by simpa using h2)
  have hd2 : d ≤ 1680 := Int.le_of_dvd (by omega) hdv
  obtain ⟨a, ha⟩ := Int.eq_ofNat_of_zero_le (show 0 ≤ n by omega)
  obtain ⟨b, hb⟩ := Int.eq_ofNat_of_zero_le (show 0 ≤ d by omega)
  obtain ⟨g, hg⟩ : ∃ g, Nat.gcd a b = g := ⟨_, rfl⟩
  have hgg : Int.gcd n d = g := by rw [ha, hb]; simpa [Int.gcd] using hg
  have HC : Hid (∀ w', Calls Tryz.prog 90 #[.int .i64 n, .int .i64 d] w' fun e w'' => e = .returned (.int .i64 (g : Int)) ∧ w' = w'') := Lib.hid (fun w' => by rw [ha, hb]; exact kgcd_is a b g hg (by omega) (by omega) w')
  rw [hgg] at h
  clear ha hb hg hgg hdv
  by_cases h5 : g ≠ 1
  · rw [if_pos (.inr (.inr (.inr (.inr h5))))] at h
    subst h
    have h5' : ((g : Int) != 1) = true := by simp; omega
    clear h5
    go_enter Tryz.func71, Tryz.ntmps71
    go_wp2_with (first | (go_at_call 90; refine (HC.out _).mono ?_; rintro e w2 ⟨rfl, rfl⟩) | fail)
    go_ret
    exact ⟨rfl, G0⟩
  · rw [if_neg (by simp only [not_or, Decidable.not_not]; exact ⟨h1, by simpa using h2, h3, h4, by simpa using h5⟩)] at h
    have h5' : ((g : Int) != 1) = false := by simp; omega
    obtain ⟨q, hq⟩ : ∃ q, (1680 : Int) / d = q := ⟨_, rfl⟩
    have hqt : (1680 : Int).tdiv d = q := by rw [Int.tdiv_eq_ediv_of_nonneg (by omega), hq]
    have hq0 : 0 ≤ q := by rw [← hq]; exact Int.ediv_nonneg (by omega) (by omega)
    have hq1 : q ≤ 1680 := by rw [← hq]; exact Int.ediv_le_self _ (by omega)
    rw [hq] at h
    have hm0 : 0 ≤ n * q := Int.mul_nonneg (by omega) hq0
    have hm1 : n * q ≤ 1000000000 * 1680 := Int.mul_le_mul (by omega) hq1 hq0 (by omega)
    have HT := Lib.hid h
    clear h5 h hq
    go_enter Tryz.func71, Tryz.ntmps71
    go_wp2_with (first | (go_at_call 90; refine (HC.out _).mono ?_; rintro e w2 ⟨rfl, rfl⟩) | fail)
    have A2 : At2 (w.alloc (.cells #[.int .i64 n, .int .i64 d] 41)) w.heap.size n d := At2.new _ _ _ _
    generalize w.alloc (.cells #[.int .i64 n, .int .i64 d] 41) = w2 at *
    have x0 := fun x : Ext w2 => x.cell A2.c0
    have x1 := fun x : Ext w2 => x.cell A2.c1
    have hne := Ext.there w2
    refine Ext.region (by kernel_rfl) (by kernel_rfl) ?_
    repeat (go_big_quiet_step (fail))
    refine wpQuiet_nil ?_
    rintro _ ⟨xw, rfl⟩
    have G1 := G0.trans (xw.h.mono G0.size)
    clear x0 x1 hne
    generalize xw.w = w3 at *
    clear xw
    go_wp2_with fail
    go_ret
    exact ⟨by rw [← HT.out]; rfl, G1⟩
end Go.Proofs.YtbbjifhelbeniaaGreatDoor

/- (Nothing of its own: what stage 7 has here is not in this program.) -/

/- The walk of the reference's Valid. -/
namespace Go.Proofs.YtbbjifhelbeniaaGreatDoor
open Go.RowKit

namespace Mt
/-- A list that consists of bars. -/
def Val (l : List B) : Prop := 1 ≤ l.length ∧ l.length ≤ 4000 ∧ (∀ j, j < l.length → okB (atB l j)) ∧ ∀ j k, j < l.length → k < j → (atB l k).1 ≠ (atB l j).1
theorem Val.ok {l : List B} (h : Val l) : ∀ b ∈ l, okB b := fun b hb => by
  obtain ⟨j, hj, rfl⟩ := List.getElem_of_mem hb
  rw [← atB_eq hj]
  exact h.2.2.1 j hj
theorem not_ok {i t k : Int} (h : ¬ (1 ≤ i ∧ i ≤ 1000000 ∧ 1 ≤ t ∧ t ≤ 40320 ∧ -7 ≤ k ∧ k ≤ 7)) :
    i < 1 ∨ (¬ i < 1 ∧ 1000000 < i) ∨ (¬ i < 1 ∧ ¬ 1000000 < i ∧ t < 1) ∨ (¬ i < 1 ∧ ¬ 1000000 < i ∧ ¬ t < 1 ∧ 40320 < t) ∨ (¬ i < 1 ∧ ¬ 1000000 < i ∧ ¬ t < 1 ∧ ¬ 40320 < t ∧ k < -7) ∨ (¬ i < 1 ∧ ¬ 1000000 < i ∧ ¬ t < 1 ∧ ¬ 40320 < t ∧ ¬ k < -7 ∧ 7 < k) := by omega
end Mt

set_option maxHeartbeats 1600000 in
theorem kvalid_is (l : List Mt.B) (f : Bool) (len cap : Nat) (A : Option Addr) (h : f = true ↔ Mt.Val l) (hl : l.length = len) (w : World) (hL : SlB w A l) :
    Calls Tryz.prog 38 #[.slice A len cap] w fun e w' => e = .returned (.bool f) ∧ Below w.heap.size w w' := by
  have HF := Lib.hid h
  have HN := Lib.hid hl
  have HL := Lib.hid hL
  clear h hl hL
  by_cases h1 : len < 1
  · have hf : f = false := by
      cases f with
      | false => rfl
      | true => have := (HF.out.1 rfl).1; rw [HN.out] at this; omega
    subst hf
    have h1' : (len : Int) < 1 := by omega
    go_enter Tryz.func38, Tryz.ntmps38
    go_wp2_with fail
    go_ret
    exact ⟨rfl, Below.refl _ _⟩
  by_cases h2 : 4000 < len
  · have hf : f = false := by
      cases f with
      | false => rfl
      | true => have := (HF.out.1 rfl).2.1; rw [HN.out] at this; omega
    subst hf
    have h1' : ¬ (len : Int) < 1 := by omega
    have h2' : (4000 : Int) < (len : Int) := by omega
    go_enter Tryz.func38, Tryz.ntmps38
    go_wp2_with fail
    go_ret
    exact ⟨rfl, Below.refl _ _⟩
  have h1' : ¬ (len : Int) < 1 := by omega
  have h2' : ¬ (4000 : Int) < (len : Int) := by omega
  have hl1 : 1 ≤ len := by omega
  have hl4 : len ≤ 4000 := by omega
  clear h1 h2
  go_enter Tryz.func38, Tryz.ntmps38
  go_wp2_with fail
  go_loopw [3] (fun s3 wr => ∃ (i : Nat) (q : Int), i ≤ len ∧ q = i ∧ s3 = .int .i64 q ∧ Hid ((∀ j, j < i → Mt.okB (atB l j)) ∧ ∀ j k, j < i → k < j → (atB l k).1 ≠ (atB l j).1) ∧ Below w.heap.size w wr) (fun s3 _ => len - (intOf s3).toNat)
  case atStart => exact ⟨0, 0, Nat.zero_le _, rfl, rfl, Lib.hid ⟨fun j hj => by omega, fun j k hj => by omega⟩, Below.refl _ _⟩
  case round =>
    obtain ⟨i, q, hi, hq, rfl, HE, hG⟩ := hrel
    by_cases hlt : i < len
    · have hil : i < l.length := by rw [HN.out]; omega
      obtain ⟨bb, off, rfl, hbb, hc⟩ := HL.out (by omega)
      have HC := Lib.hid hc
      obtain ⟨c0, c1, c2, c3⟩ := hc i hil
      have x1 := (hG.cell (p := ⟨bb, off + i * 4 + 1, none⟩) hbb).trans c1
      have x2 := (hG.cell (p := ⟨bb, off + i * 4 + 2, none⟩) hbb).trans c2
      obtain ⟨t, ht⟩ : ∃ t, Mt.bt (atB l i) = t := ⟨_, rfl⟩
      have HT : Hid (Mt.tk (atB l i).2.1 (atB l i).2.2.1 = t) := Lib.hid ht
      obtain ⟨id, hid⟩ : ∃ id, (atB l i).1 = id := ⟨_, rfl⟩
      obtain ⟨ke, hke⟩ : ∃ ke, (atB l i).2.2.2 = ke := ⟨_, rfl⟩
      rw [hid] at c0
      rw [hke] at c3
      have hq1 : q < (len : Int) := by omega
      have hq3 : 0 ≤ q := by omega
      have hqn : q.toNat = i := by omega
      have HQ := Lib.hid hq
      have HID := Lib.hid hid
      have HI := Lib.hid hil
      have X0 := Lib.hid c0
      have X3 := Lib.hid c3
      by_cases hok : 1 ≤ id ∧ id ≤ 1000000 ∧ 1 ≤ t ∧ t ≤ 40320 ∧ -7 ≤ ke ∧ ke ≤ 7
      · have HOK : Hid (Mt.okB (atB l i)) := Lib.hid (by unfold Mt.okB; rw [hid, ht, hke]; exact hok)
        obtain ⟨o1, o2, o3, o4, o5, o6⟩ := hok
        have o1' : ¬ id < 1 := by omega
        have o2' : ¬ 1000000 < id := by omega
        have o3' : ¬ t < 1 := by omega
        have o4' : ¬ 40320 < t := by omega
        have o5' : ¬ ke < -7 := by omega
        have o6' : ¬ 7 < ke := by omega
        clear hc c0 c1 c2 c3 ht hid hke hil hq o1 o2 o3 o4 o5 o6
        generalize (atB l i).2.1 = n at *
        generalize (atB l i).2.2.1 = d at *
        go_wp2_with (first | (go_at_call 71; refine (kticks_is n d t HT.out _).mono ?_; rintro e w2 ⟨rfl, hb⟩; have G2 := hG.trans (hb.mono hG.size); have y0 := (G2.cell (p := ⟨bb, off + i * 4, none⟩) hbb).trans X0.out; have y3 := (G2.cell (p := ⟨bb, off + i * 4 + 3, none⟩) hbb).trans X3.out) | fail)
        clear x1 x2 y3
        go_loopw [5] (fun s5 wr => ∃ (k : Nat) (p : Int), k ≤ i ∧ p = k ∧ s5 = .int .i64 p ∧ Hid (∀ m, m < k → (atB l m).1 ≠ id) ∧ Below w2.heap.size w2 wr) (fun s5 _ => i - (intOf s5).toNat)
        case atStart => exact ⟨0, 0, Nat.zero_le _, rfl, rfl, Lib.hid (fun m hm => by omega), Below.refl _ _⟩
        case round =>
          obtain ⟨k, p, hk, hp, rfl, HK, hX⟩ := hrel
          by_cases hki : k < i
          · obtain ⟨z0, _⟩ := HC.out k (by have := HI.out; omega)
            obtain ⟨id2, hid2⟩ : ∃ id2, (atB l k).1 = id2 := ⟨_, rfl⟩
            rw [hid2] at z0
            have hbb2 : bb < w2.heap.size := Nat.lt_of_lt_of_le hbb G2.size
            have u0 := fun y : Ext wr => y.cell ((hX.cell (p := ⟨bb, off + i * 4, none⟩) hbb2).trans y0)
            have u1 := fun y : Ext wr => y.cell ((hX.cell (p := ⟨bb, off + k * 4, none⟩) hbb2).trans ((G2.cell (p := ⟨bb, off + k * 4, none⟩) hbb).trans z0))
            have hne := Ext.there wr
            have hp1 : p < q := by have := HQ.out; omega
            have hp3 : 0 ≤ p := by omega
            have hpn : p.toNat = k := by omega
            have hpl : p < (len : Int) := by omega
            have hkl : k < len := by omega
            have HP := Lib.hid hp
            clear z0 hp
            by_cases he : id2 = id
            · have hf : f = false := by
                cases f with
                | false => rfl
                | true => exact absurd (by rw [hid2, HID.out]; exact he) ((HF.out.1 rfl).2.2.2 i k HI.out hki)
              subst hf
              have he' : (id2 == id) = true := by simpa using he
              clear he hid2
              go_wp2_with fail
              refine Ext.region (by kernel_rfl) (by kernel_rfl) ?_
              repeat (go_big_quiet_step (fail))
              refine wpQuiet_nil ?_
              rintro _ ⟨xw, rfl⟩
              have G3 := G2.trans ((hX.trans (xw.h.mono hX.size)).mono G2.size)
              clear u0 u1 hne
              generalize xw.w = w3 at *
              clear xw
              go_wp2_with fail
              go_ret
              exact ⟨rfl, G3⟩
            · have HK2 : Hid (∀ m, m < k + 1 → (atB l m).1 ≠ id) := Lib.hid (fun m hm => by
                by_cases e : m = k
                · subst e; rw [hid2]; exact he
                · exact HK.out m (by omega))
              have he' : (id2 == id) = false := by simpa using he
              clear he hid2
              go_wp2_with fail
              refine Ext.region (by kernel_rfl) (by kernel_rfl) ?_
              repeat (go_big_quiet_step (fail))
              refine wpQuiet_nil ?_
              rintro _ ⟨xw, rfl⟩
              replace hX := hX.trans (xw.h.mono hX.size)
              clear u0 u1 hne
              generalize xw.w = w3 at *
              clear xw
              go_wp2_with fail
              go_roundw
              case rel => exact ⟨k + 1, p + 1, by omega, (by have := HP.out; omega), rfl, HK2, hX⟩
              case measure => have := HP.out; simp [intOf]; omega
          · obtain rfl : k = i := by omega
            have hp1 : ¬ p < q := by have := HQ.out; omega
            have HE2 : Hid ((∀ j, j < k + 1 → Mt.okB (atB l j)) ∧ ∀ j m, j < k + 1 → m < j → (atB l m).1 ≠ (atB l j).1) := Lib.hid ⟨fun j hj => by
              by_cases e : j = k
              · subst e; exact HOK.out
              · exact HE.out.1 j (by omega), fun j m hj hm => by
              by_cases e : j = k
              · subst e; rw [HID.out]; exact HK.out m hm
              · exact HE.out.2 j m (by omega) hm⟩
            have G3 := G2.trans (hX.mono G2.size)
            clear hp
            go_wp2_with fail
            go_roundw
            case rel => exact ⟨k + 1, q + 1, by omega, (by have := HQ.out; omega), rfl, HE2, G3⟩
            case measure => have := HQ.out; simp [intOf]; omega
      · have hf : f = false := by
          cases f with
          | false => rfl
          | true =>
            exfalso
            have := (HF.out.1 rfl).2.2.1 i hil
            unfold Mt.okB at this
            rw [hid, ht, hke] at this
            exact hok this
        subst hf
        have hbad := Mt.not_ok hok
        clear hok hc c0 c1 c2 c3 ht hid hke hil hq
        generalize (atB l i).2.1 = n at *
        generalize (atB l i).2.2.1 = d at *
        rcases hbad with b1 | ⟨b1, b2⟩ | ⟨b1, b2, b3⟩ | ⟨b1, b2, b3, b4⟩ | ⟨b1, b2, b3, b4, b5⟩ | ⟨b1, b2, b3, b4, b5, b6⟩
        all_goals
          go_wp2_with (first | (go_at_call 71; refine (kticks_is n d t HT.out _).mono ?_; rintro e w2 ⟨rfl, hb⟩; have G2 := hG.trans (hb.mono hG.size); have y0 := (G2.cell (p := ⟨bb, off + i * 4, none⟩) hbb).trans X0.out; have y3 := (G2.cell (p := ⟨bb, off + i * 4 + 3, none⟩) hbb).trans X3.out) | fail)
          go_ret
          exact ⟨rfl, G2⟩
    · obtain rfl : i = len := by omega
      have hf : f = true := HF.out.2 ⟨by rw [HN.out]; exact hl1, by rw [HN.out]; exact hl4, by rw [HN.out]; exact HE.out.1, by rw [HN.out]; exact HE.out.2⟩
      subst hf
      have hq1 : ¬ q < (i : Int) := by omega
      clear hq
      go_wp2_with fail
      go_ret
      exact ⟨rfl, hG⟩
end Go.Proofs.YtbbjifhelbeniaaGreatDoor
