import Derived.Test.YtbbjifhelbeniaaGreatDoorRows
import Derived.Test.YtbbjifhelbeniaaGreatDoorGA
import Derived.RegionTactic
import Derived.Handy
import Derived.Laws.EntriesVeiled
import Derived.Deep.DeepCutAuto
/- Plain facts on integers and reduced fractions; nothing of the program is read here. -/
namespace Go.Proofs.YtbbjifhelbeniaaGreatDoor.Rt

/-- The common divisor with the sign of d. -/
def redG (n d : Int) : Int := d.sign * (Int.gcd n d : Int)
def qN (n d : Int) : Int := n / redG n d
def qD (n d : Int) : Int := d / redG n d
def lim (n d : Int) : Bool := decide (-1000000000 ≤ n) && decide (n ≤ 1000000000) && decide (1 ≤ d) && decide (d ≤ 1000000)
def vld (n d : Int) : Bool := lim n d && decide (Int.gcd n d = 1)
def redE (n d : Int) : Int := if d = 0 then 1 else if lim (qN n d) (qD n d) = true then 0 else 3
def redN (n d : Int) : Int := if redE n d = 0 then qN n d else 0
def redD (n d : Int) : Int := if redE n d = 0 then qD n d else 0

theorem lim_iff {n d : Int} : lim n d = true ↔ -1000000000 ≤ n ∧ n ≤ 1000000000 ∧ 1 ≤ d ∧ d ≤ 1000000 := by
  unfold lim; simp [and_assoc]
theorem lim_no {n d : Int} (h : lim n d = false) : n < -1000000000 ∨ 1000000000 < n ∨ d < 1 ∨ 1000000 < d := by
  have h' : ¬ (lim n d = true) := by simp [h]
  rw [lim_iff] at h'; omega
theorem vld_iff {n d : Int} : vld n d = true ↔ lim n d = true ∧ Int.gcd n d = 1 := by
  unfold vld; simp
theorem vld_lim {n d : Int} (h : vld n d = true) : -1000000000 ≤ n ∧ n ≤ 1000000000 ∧ 1 ≤ d ∧ d ≤ 1000000 := lim_iff.1 (vld_iff.1 h).1

theorem gcd_pos {n d : Int} (h : d ≠ 0) : 0 < Int.gcd n d := Int.gcd_pos_of_ne_zero_right n h
theorem redG_ne {n d : Int} (h : d ≠ 0) : redG n d ≠ 0 := by
  unfold redG; have := gcd_pos (n := n) h
  exact Int.mul_ne_zero (by simpa [Int.sign_eq_zero_iff_zero] using h) (by omega)
theorem redG_dvd_n (n d : Int) (h : d ≠ 0) : redG n d ∣ n := by
  unfold redG
  rcases Int.lt_trichotomy d 0 with h' | h' | h'
  · rw [Int.sign_eq_neg_one_of_neg h']; simp [Int.gcd_dvd_left]
  · exact absurd h' h
  · rw [Int.sign_eq_one_of_pos h']; simp [Int.gcd_dvd_left]
theorem redG_dvd_d (n d : Int) (h : d ≠ 0) : redG n d ∣ d := by
  unfold redG
  rcases Int.lt_trichotomy d 0 with h' | h' | h'
  · rw [Int.sign_eq_neg_one_of_neg h']; simp [Int.gcd_dvd_right]
  · exact absurd h' h
  · rw [Int.sign_eq_one_of_pos h']; simp [Int.gcd_dvd_right]
theorem q_n {n d : Int} (h : d ≠ 0) : redG n d * qN n d = n := Int.mul_ediv_cancel' (redG_dvd_n n d h)
theorem q_d {n d : Int} (h : d ≠ 0) : redG n d * qD n d = d := Int.mul_ediv_cancel' (redG_dvd_d n d h)
theorem redG_sign {n d : Int} (h : d ≠ 0) : (0 < d → 0 < redG n d) ∧ (d < 0 → redG n d < 0) := by
  have := gcd_pos (n := n) h
  unfold redG
  refine ⟨fun h' => ?_, fun h' => ?_⟩
  · rw [Int.sign_eq_one_of_pos h']; omega
  · rw [Int.sign_eq_neg_one_of_neg h']; omega
theorem qD_pos {n d : Int} (h : d ≠ 0) : 0 < qD n d := by
  have h1 := q_d (n := n) h
  have h2 := redG_sign (n := n) h
  rcases Int.lt_trichotomy d 0 with h' | h' | h'
  · have := h2.2 h'
    rw [← h1] at h'
    refine Int.lt_of_not_ge fun hle => ?_
    have h3 := Int.mul_nonneg (show 0 ≤ -redG n d by omega) (show 0 ≤ -qD n d by omega)
    rw [Int.neg_mul_neg] at h3; omega
  · exact absurd h' h
  · have := h2.1 h'
    rw [← h1] at h'
    refine Int.lt_of_not_ge fun hle => ?_
    have h3 := Int.mul_nonneg (show 0 ≤ redG n d by omega) (show 0 ≤ -qD n d by omega)
    rw [Int.mul_neg] at h3; omega
theorem q_gcd {n d : Int} (h : d ≠ 0) : Int.gcd (qN n d) (qD n d) = 1 := by
  have hg := gcd_pos (n := n) h
  have h1 : Int.gcd (redG n d * qN n d) (redG n d * qD n d) = (redG n d).natAbs * Int.gcd (qN n d) (qD n d) := Int.gcd_mul_left _ _ _
  rw [q_n h, q_d h] at h1
  have h2 : (redG n d).natAbs = Int.gcd n d := by
    unfold redG; rw [Int.natAbs_mul, Int.natAbs_sign, if_neg h]; simp
  rw [h2] at h1
  have h3 : Int.gcd n d * 1 = Int.gcd n d * Int.gcd (qN n d) (qD n d) := by rw [← h1]; simp
  exact (Nat.eq_of_mul_eq_mul_left hg h3).symm

theorem cop_dvd {n d n' d' : Int} (g : Int.gcd n d = 1) (h : n * d' = n' * d) : d.natAbs ∣ d'.natAbs := by
  have h1 : d.natAbs ∣ n.natAbs * d'.natAbs := by
    rw [← Int.natAbs_mul, h, Int.natAbs_mul]; exact Nat.dvd_mul_left _ _
  have g' : Nat.Coprime d.natAbs n.natAbs := by
    show Nat.gcd _ _ = 1
    rw [Nat.gcd_comm]; exact g
  exact g'.dvd_of_dvd_mul_left h1
theorem cop_unique {n d n' d' : Int} (hd : 0 < d) (hd' : 0 < d') (g : Int.gcd n d = 1) (g' : Int.gcd n' d' = 1) (h : n * d' = n' * d) : n = n' ∧ d = d' := by
  have h1 := cop_dvd g h
  have h2 := cop_dvd g' h.symm
  have h3 := Nat.dvd_antisymm h1 h2
  have h4 : d = d' := by omega
  subst h4
  exact ⟨Int.eq_of_mul_eq_mul_right (by omega) h, rfl⟩

theorem redE_cases (n d : Int) : redE n d = 0 ∨ redE n d = 1 ∨ redE n d = 3 := by
  unfold redE; split
  · simp
  · split <;> simp
theorem redE_one {n d : Int} : redE n d = 1 ↔ d = 0 := by
  unfold redE; split
  · simp [*]
  · split <;> simp [*]
theorem red_ok {n d : Int} (h : redE n d = 0) : d ≠ 0 ∧ vld (redN n d) (redD n d) = true ∧ redN n d * d = redD n d * n ∧ redN n d = qN n d ∧ redD n d = qD n d := by
  have hd : d ≠ 0 := fun h' => by rw [redE_one.2 h'] at h; omega
  have h1 : redN n d = qN n d := by unfold redN; rw [if_pos h]
  have h2 : redD n d = qD n d := by unfold redD; rw [if_pos h]
  refine ⟨hd, ?_, ?_, h1, h2⟩
  · rw [h1, h2, vld_iff]
    refine ⟨?_, q_gcd hd⟩
    unfold redE at h; rw [if_neg hd] at h
    split at h
    · assumption
    · omega
  · rw [h1, h2]
    have a := q_n (n := n) hd
    have b := q_d (n := n) hd
    generalize qN n d = x at *
    generalize qD n d = y at *
    generalize redG n d = z at *
    subst a; rw [← b]; grind
theorem red_err {n d : Int} (h : redE n d ≠ 0) : redN n d = 0 ∧ redD n d = 0 := by
  unfold redN redD; rw [if_neg h, if_neg h]; exact ⟨rfl, rfl⟩
theorem red_of {n d x y : Int} (hd : d ≠ 0) (hv : vld x y = true) (h : x * d = y * n) : redE n d = 0 ∧ redN n d = x ∧ redD n d = y := by
  have hp := qD_pos (n := n) hd
  have hl := vld_lim hv
  have a := q_n (n := n) hd
  have b := q_d (n := n) hd
  have c := redG_ne (n := n) hd
  have e : qN n d * y = x * qD n d := by
    refine Int.eq_of_mul_eq_mul_left c ?_
    calc redG n d * (qN n d * y) = (redG n d * qN n d) * y := by grind
      _ = n * y := by rw [a]
      _ = x * d := by grind
      _ = x * (redG n d * qD n d) := by rw [b]
      _ = redG n d * (x * qD n d) := by grind
  obtain ⟨e1, e2⟩ := cop_unique hp (by omega) (q_gcd hd) (vld_iff.1 hv).2 e
  have e0 : redE n d = 0 := by unfold redE; rw [if_neg hd, if_pos (by rw [e1, e2]; exact (vld_iff.1 hv).1)]
  refine ⟨e0, ?_, ?_⟩
  · unfold redN; rw [if_pos e0, e1]
  · unfold redD; rw [if_pos e0, e2]
theorem red_congr {n d n' d' : Int} (hd : d ≠ 0) (hd' : d' ≠ 0) (h : n * d' = n' * d) : redE n d = redE n' d' ∧ redN n d = redN n' d' ∧ redD n d = redD n' d' := by
  have a := q_n (n := n) hd
  have b := q_d (n := n) hd
  have a' := q_n (n := n') hd'
  have b' := q_d (n := n') hd'
  have c := redG_ne (n := n) hd
  have c' := redG_ne (n := n') hd'
  have e : qN n d * qD n' d' = qN n' d' * qD n d := by
    refine Int.eq_of_mul_eq_mul_left c (Int.eq_of_mul_eq_mul_left c' ?_)
    calc redG n' d' * (redG n d * (qN n d * qD n' d')) = (redG n d * qN n d) * (redG n' d' * qD n' d') := by grind
      _ = n * d' := by rw [a, b']
      _ = n' * d := h
      _ = (redG n' d' * qN n' d') * (redG n d * qD n d) := by rw [a', b]
      _ = _ := by grind
  obtain ⟨e1, e2⟩ := cop_unique (qD_pos hd) (qD_pos hd') (q_gcd hd) (q_gcd hd') e
  have e0 : redE n d = redE n' d' := by unfold redE; rw [if_neg hd, if_neg hd', e1, e2]
  exact ⟨e0, by unfold redN; rw [e0, e1], by unfold redD; rw [e0, e2]⟩

/-- Euclid's algorithm as Go's remainder goes: the sign may be either one. -/
def tgcd (a b : Int) : Int := if b = 0 then a else tgcd b (a.tmod b)
termination_by b.natAbs
decreasing_by
  rw [Int.natAbs_tmod]
  exact Nat.mod_lt _ (by omega)
theorem tgcd_abs (a b : Int) : (tgcd a b).natAbs = Int.gcd a b := by
  induction a, b using tgcd.induct with
  | case1 a => unfold tgcd; simp
  | case2 a b h ih =>
    unfold tgcd
    rw [if_neg h, ih]
    show Nat.gcd _ _ = Nat.gcd _ _
    rw [Int.natAbs_tmod, Nat.gcd_comm, ← Nat.gcd_rec, Nat.gcd_comm]
end Go.Proofs.YtbbjifhelbeniaaGreatDoor.Rt

/- The walks of the smallest functions of package ratio. -/
namespace Go.Proofs.YtbbjifhelbeniaaGreatDoor
open Go.RowKit

set_option maxHeartbeats 400000 in
theorem between_yes (n a b : Int) (w : World) (h1 : a ≤ n) (h2 : n ≤ b) :
    Calls Tryz.prog 147 #[.int .i64 n, .int .i64 a, .int .i64 b] w fun e w' => e = .returned (.bool true) ∧ w = w' := by
  go_enter Tryz.func147, Tryz.ntmps147
  go_wp2
  go_ret
  exact ⟨rfl, rfl⟩

set_option maxHeartbeats 400000 in
theorem between_no (n a b : Int) (w : World) (h : n < a ∨ b < n) :
    Calls Tryz.prog 147 #[.int .i64 n, .int .i64 a, .int .i64 b] w fun e w' => e = .returned (.bool false) ∧ w = w' := by
  by_cases h1 : a ≤ n
  · have h2 : b < n := by omega
    have h3 : decide (n ≤ b) = false := by simp; omega
    clear h
    go_enter Tryz.func147, Tryz.ntmps147
    go_wp2
    go_ret
    exact ⟨rfl, rfl⟩
  · clear h
    go_enter Tryz.func147, Tryz.ntmps147
    go_wp2
    go_ret
    exact ⟨rfl, rfl⟩

def QuietInt (x : Int) (w : World) (e : Ending) (w' : World) : Prop := e = .returned (.int .i64 x) ∧ ∃ m, w' = w.drewN m

set_option maxHeartbeats 400000 in
theorem divisor_any (k : Nat) : ∀ (a b : Int) (w : World) (p : Addr), b.natAbs ≤ k → -9223372036854775807 ≤ a → a ≤ 9223372036854775807 → -9223372036854775807 ≤ b → b ≤ 9223372036854775807 →
    w.cell? p = some (.func (.func 148) #[] #[.pointer (some p)]) →
    Calls Tryz.prog 148 #[.int .i64 a, .int .i64 b, .pointer (some p)] w (QuietInt (Rt.tgcd a b) w) := by
  induction k with
  | zero =>
    intro a b w p hk _ _ _ _ hc
    have hb : b = 0 := by omega
    subst hb
    have e : Rt.tgcd a 0 = a := by unfold Rt.tgcd; simp
    have E := Lib.hid e; clear e hk
    go_enter Tryz.func148, Tryz.ntmps148
    go_wp2_with fail
    go_ret
    exact ⟨by rw [E.out]; rfl, 0, rfl⟩
  | succ k ih =>
    intro a b w p hk ha ha' hb hb' hc
    by_cases h0 : b = 0
    · subst h0
      have e : Rt.tgcd a 0 = a := by unfold Rt.tgcd; simp
      have E := Lib.hid e; clear e hk ih
      go_enter Tryz.func148, Tryz.ntmps148
      go_wp2_with fail
      go_ret
      exact ⟨by rw [E.out]; rfl, 0, rfl⟩
    · have e : Rt.tgcd a b = Rt.tgcd b (a.tmod b) := by rw [Rt.tgcd.eq_1 a b]; rw [if_neg h0]
      have E := Lib.hid e; clear e
      have hbb : (b == 0) = false := by simpa using h0
      have hm : (a.tmod b).natAbs < b.natAbs := by rw [Int.natAbs_tmod]; exact Nat.mod_lt _ (by omega)
      have IH := Lib.hid (fun w' hc' => ih b (a.tmod b) w' p (by omega) hb hb' (by omega) (by omega) hc')
      clear ih
      go_enter Tryz.func148, Tryz.ntmps148
      go_wp2_with fail
      go_quiet ((go_at_call 148; exact Calls.quiet_of (IH.out _ hc)))
      go_wp2_with fail
      go_ret
      exact ⟨by rw [E.out]; rfl, _, rfl⟩

end Go.Proofs.YtbbjifhelbeniaaGreatDoor

/- The walks of 'within' and 'reduce' of package ratio. -/
namespace Go.Proofs.YtbbjifhelbeniaaGreatDoor
open Go.RowKit

set_option maxHeartbeats 400000 in
theorem within_yes (n d : Int) (w : World) (h : Rt.lim n d = true) :
    Calls Tryz.prog 144 #[.agg #[.int .i64 n, .int .i64 d]] w fun e w' => e = .returned (.bool true) ∧ Below w.heap.size w w' := by
  obtain ⟨h1, h2, h3, h4⟩ := Rt.lim_iff.1 h
  clear h
  go_enter Tryz.func144, Tryz.ntmps144
  go_wp2_with (go_at_call 147; refine (between_yes _ _ _ _ (by omega) (by omega)).mono ?_; rintro e w' ⟨rfl, rfl⟩)
  go_ret
  exact ⟨rfl, (Below.refl _ _).alloc (Nat.le_refl _) _⟩
set_option maxHeartbeats 400000 in
theorem within_no (n d : Int) (w : World) (h : Rt.lim n d = false) :
    Calls Tryz.prog 144 #[.agg #[.int .i64 n, .int .i64 d]] w fun e w' => e = .returned (.bool false) ∧ Below w.heap.size w w' := by
  have h' := Rt.lim_no h
  clear h
  by_cases h1 : -1000000000 ≤ n ∧ n ≤ 1000000000
  · obtain ⟨h1, h2⟩ := h1
    have h3 : d < 1 ∨ 1000000 < d := by omega
    have H := Lib.hid h3
    clear h3 h'
    go_enter Tryz.func144, Tryz.ntmps144
    go_wp2_with fail
    refine (between_yes _ _ _ _ (by omega) (by omega)).mono ?_; rintro e w' ⟨rfl, rfl⟩
    go_wp2_with fail
    refine (between_no _ _ _ _ H.out).mono ?_; rintro e w' ⟨rfl, rfl⟩
    go_wp2_with fail
    go_ret
    exact ⟨rfl, (Below.refl _ _).alloc (Nat.le_refl _) _⟩
  · have h3 : n < -1000000000 ∨ 1000000000 < n := by omega
    have H := Lib.hid h3
    clear h3 h' h1
    go_enter Tryz.func144, Tryz.ntmps144
    go_wp2_with fail
    refine (between_no _ _ _ _ H.out).mono ?_; rintro e w' ⟨rfl, rfl⟩
    go_wp2_with fail
    go_ret
    exact ⟨rfl, (Below.refl _ _).alloc (Nat.le_refl _) _⟩

set_option maxHeartbeats 400000 in
theorem reduce_zero (n : Int) (w : World) :
    Calls Tryz.prog 145 #[.int .i64 n, .int .i64 0] w fun e w' => e = .returned (.tuple #[.agg #[.int .i64 0, .int .i64 0], .int .i64 1]) ∧ Below w.heap.size w w' := by
  go_enter Tryz.func145, Tryz.ntmps145
  go_wp2_with fail
  refine bodyPost_ret (v := .tuple #[.agg #[.int .i64 0, .int .i64 0], .int .i64 1]) (by simp [results, Tryz.results145, go_sem]) rfl ⟨rfl, ?_⟩
  go_grown

theorem tdiv_in (n g : Int) (hn : -9223372036854775807 ≤ n) (hn' : n ≤ 9223372036854775807) : -9223372036854775807 ≤ n.tdiv g ∧ n.tdiv g ≤ 9223372036854775807 := by
  have h := Int.natAbs_tdiv_le_natAbs n g
  omega

theorem flip_yes {t d G : Int} (hg : t = G ∨ t = -G) (h1 : 0 < d → 0 < G) (h2 : d < 0 → G < 0) (hd : d < 0 ∨ 0 < d) (h : (!decide (t < 0) == decide (d < 0)) = true) : -t = G := by
  by_cases a : t < 0 <;> by_cases b : d < 0 <;> simp [a, b] at h <;> omega
theorem flip_no {t d G : Int} (hg : t = G ∨ t = -G) (h1 : 0 < d → 0 < G) (h2 : d < 0 → G < 0) (hd : d < 0 ∨ 0 < d) (h : (!decide (t < 0) == decide (d < 0)) = false) : t = G := by
  by_cases a : t < 0 <;> by_cases b : d < 0 <;> simp [a, b] at h <;> omega

set_option maxHeartbeats 1600000 in
theorem reduce_big (n d : Int) (w : World) (hn : -9223372036854775807 ≤ n) (hn' : n ≤ 9223372036854775807) (hd : -9223372036854775807 ≤ d) (hd' : d ≤ 9223372036854775807) (h0 : d ≠ 0) :
    Calls Tryz.prog 145 #[.int .i64 n, .int .i64 d] w fun e w' => e = .returned (.tuple #[.agg #[.int .i64 (Rt.redN n d), .int .i64 (Rt.redD n d)], .int .i64 (Rt.redE n d)]) ∧ Below w.heap.size w w' := by
  have hbb : (d == 0) = false := by simpa using h0
  have hG1 := (Rt.redG_sign (n := n) h0).1
  have hG2 := (Rt.redG_sign (n := n) h0).2
  have hx : n.tdiv (Rt.redG n d) = Rt.qN n d := Int.tdiv_eq_ediv_of_dvd (Rt.redG_dvd_n n d h0)
  have hy : d.tdiv (Rt.redG n d) = Rt.qD n d := Int.tdiv_eq_ediv_of_dvd (Rt.redG_dvd_d n d h0)
  have hg : Rt.tgcd n d = Rt.redG n d ∨ Rt.tgcd n d = -Rt.redG n d := by
    have h1 := Rt.tgcd_abs n d
    have h2 : (Rt.redG n d).natAbs = Int.gcd n d := by
      unfold Rt.redG; rw [Int.natAbs_mul, Int.natAbs_sign, if_neg h0]; simp
    omega
  have hGb : -9223372036854775807 ≤ Rt.redG n d ∧ Rt.redG n d ≤ 9223372036854775807 := by
    have h2 : (Rt.redG n d).natAbs = Int.gcd n d := by
      unfold Rt.redG; rw [Int.natAbs_mul, Int.natAbs_sign, if_neg h0]; simp
    have h3 : Int.gcd n d ≤ d.natAbs := Nat.le_of_dvd (by omega) (Int.gcd_dvd_natAbs_right n d)
    omega
  generalize Rt.redG n d = G at *
  obtain ⟨hGl, hGu⟩ := hGb
  obtain ⟨hxl, hxu⟩ := tdiv_in n G hn hn'
  obtain ⟨hyl, hyu⟩ := tdiv_in d G hd hd'
  have hmf : ∀ (fn : Fn) (first cap : Array Value) (w : World), (Instr.makeFunc fn first cap).run Tryz.prog w = .ok (.func fn first cap) w := fun _ _ _ _ => rfl
  have HX := Lib.hid hx; clear hx
  have HY := Lib.hid hy; clear hy
  have hGn : ¬ G = 0 := by omega
  have hG0 : (G == 0) = false := by simpa using hGn
  have hds : d < 0 ∨ 0 < d := by omega
  go_enter Tryz.func145, Tryz.ntmps145
  go_wp2_with fail
  refine (divisor_any _ n d _ _ (Nat.le_refl _) (by omega) (by omega) (by omega) (by omega) (by go_simp)).mono ?_
  rintro e w' ⟨rfl, m, rfl⟩
  go_upto_if 21 with fail
  go_cut [7] (fun s7 wc => s7 = .int .i64 G ∧ wc.heap.size = w.heap.size + 1 + 1 ∧ wc.cell? ⟨w.heap.size, 0, none⟩ = some (.int .i64 0) ∧ wc.cell? ⟨w.heap.size, 1, none⟩ = some (.int .i64 0) ∧ wc.frozen? ⟨w.heap.size, 0, none⟩ = false ∧ wc.frozen? ⟨w.heap.size, 1, none⟩ = false ∧ Below w.heap.size w wc)
  case first =>
    go_wp2_with fail
    · have hv := flip_yes hg hG1 hG2 hds (by assumption)
      have HV := Lib.hid hv; clear hv
      go_meet
      exact ⟨by rw [HV.out], by simp, by go_simp, by go_simp, by go_simp, by go_simp, below_drewN (by go_grown) _⟩
    · have hv := flip_no hg hG1 hG2 hds (by assumption)
      have HV := Lib.hid hv; clear hv
      go_meet
      exact ⟨by rw [HV.out], by simp, by go_simp, by go_simp, by go_simp, by go_simp, below_drewN (by go_grown) _⟩
  case rest =>
    obtain ⟨rfl, hz, hc0, hc1, hf0, hf1, hb0⟩ := hcut
    clear hG1 hG2 hds hg
    have HB := Lib.hid hb0; clear hb0
    have HZ := Lib.hid (show w.heap.size ≤ wc.heap.size by omega)
    have HE : Hid (Rt.redE n d = if Rt.lim (n.tdiv G) (d.tdiv G) = true then 0 else 3) := by
      rw [HX.out, HY.out]; unfold Rt.redE; rw [if_neg h0]; exact rfl
    by_cases hl : Rt.lim (n.tdiv G) (d.tdiv G) = true
    · have HL := Lib.hid hl; clear hl
      go_wp2_with fail
      go_region
      go_wp2_with fail
      refine (within_yes _ _ _ HL.out).mono ?_; rintro e w1 ⟨rfl, hb⟩
      obtain ⟨hc, hf⟩ := bcell hb
      have hz1 : w.heap.size + 1 + 1 < w1.heap.size := by have := hb.size; simp at this; omega
      have q0 : w1.cell? ⟨w.heap.size, 0, none⟩ = some (.int .i64 0) := by rw [hc _ _ (by simp; omega)]; go_simp
      have q1 : w1.cell? ⟨w.heap.size, 1, none⟩ = some (.int .i64 0) := by rw [hc _ _ (by simp; omega)]; go_simp
      go_wp2_with fail
      refine bodyPost_ret (v := .tuple #[.agg #[.int .i64 (n.tdiv G), .int .i64 (d.tdiv G)], .int .i64 0]) (by simp [results, Tryz.results145, go_sem, q0, q1]) rfl ⟨?_, ?_⟩
      · have e0 : Rt.redE n d = 0 := by rw [HE.out, if_pos HL.out]
        have e1 : Rt.redN n d = n.tdiv G := by rw [HX.out]; exact (Rt.red_ok e0).2.2.2.1
        have e2 : Rt.redD n d = d.tdiv G := by rw [HY.out]; exact (Rt.red_ok e0).2.2.2.2
        rw [e0, e1, e2]
      · exact ((((HB.out.alloc HZ.out _).drew).trans (hb.mono (by simp; omega))).setCell (by simp) _).setCell (by simp) _
    · have HL : Hid (Rt.lim (n.tdiv G) (d.tdiv G) = false) := Lib.hid (by simpa using hl)
      clear hl
      go_wp2_with fail
      go_region
      go_wp2_with fail
      refine (within_no _ _ _ HL.out).mono ?_; rintro e w1 ⟨rfl, hb⟩
      obtain ⟨hc, hf⟩ := bcell hb
      have hz1 : w.heap.size + 1 + 1 < w1.heap.size := by have := hb.size; simp at this; omega
      have q0 : w1.cell? ⟨w.heap.size, 0, none⟩ = some (.int .i64 0) := by rw [hc _ _ (by simp; omega)]; go_simp
      have q1 : w1.cell? ⟨w.heap.size, 1, none⟩ = some (.int .i64 0) := by rw [hc _ _ (by simp; omega)]; go_simp
      go_wp2_with fail
      refine bodyPost_ret (v := .tuple #[.agg #[.int .i64 0, .int .i64 0], .int .i64 3]) (by simp [results, Tryz.results145, go_sem, q0, q1]) rfl ⟨?_, ?_⟩
      · have e0 : Rt.redE n d = 3 := by rw [HE.out, if_neg (by rw [HL.out]; simp)]
        have e1 := Rt.red_err (n := n) (d := d) (by omega)
        rw [e0, e1.1, e1.2]
      · exact ((((HB.out.alloc HZ.out _).drew).trans (hb.mono (by simp; omega))).setCell (by simp) _).setCell (by simp) _
end Go.Proofs.YtbbjifhelbeniaaGreatDoor

/- The walks of 'Valid' of package ratio. -/
namespace Go.Proofs.YtbbjifhelbeniaaGreatDoor
open Go.RowKit

theorem reduce_any (n d : Int) (w : World) (hn : -9223372036854775807 ≤ n) (hn' : n ≤ 9223372036854775807) (hd : -9223372036854775807 ≤ d) (hd' : d ≤ 9223372036854775807) :
    Calls Tryz.prog 145 #[.int .i64 n, .int .i64 d] w fun e w' => e = .returned (.tuple #[.agg #[.int .i64 (Rt.redN n d), .int .i64 (Rt.redD n d)], .int .i64 (Rt.redE n d)]) ∧ Below w.heap.size w w' := by
  by_cases h0 : d = 0
  · subst h0
    have e0 : Rt.redE n 0 = 1 := Rt.redE_one.2 rfl
    have e1 := Rt.red_err (n := n) (d := 0) (by omega)
    rw [e0, e1.1, e1.2]
    exact reduce_zero n w
  · exact reduce_big n d w hn hn' hd hd' h0

theorem valid_eq {n d : Int} (hl : Rt.lim n d = true) : (Rt.redN n d == n && Rt.redD n d == d) = Rt.vld n d := by
  have h := Rt.lim_iff.1 hl
  by_cases hv : Rt.vld n d = true
  · have := Rt.red_of (n := n) (d := d) (by omega) hv (Int.mul_comm n d)
    rw [hv, this.2.1, this.2.2]; simp
  · have hv' : Rt.vld n d = false := by simpa using hv
    rw [hv']
    by_cases e : Rt.redE n d = 0
    · have h1 := (Rt.red_ok e).2.1
      by_cases h2 : Rt.redN n d = n
      · by_cases h3 : Rt.redD n d = d
        · rw [h2, h3] at h1; exact absurd h1 hv
        · simp [h3]
      · simp [h2]
    · have h1 := (Rt.red_err e).2
      have h3 : ¬ Rt.redD n d = d := by omega
      simp [h3]

set_option maxHeartbeats 400000 in
theorem valid_lim (n d : Int) (w : World) (h : Rt.lim n d = true) :
    Calls Tryz.prog 138 #[.agg #[.int .i64 n, .int .i64 d]] w fun e w' => e = .returned (.bool (Rt.redN n d == n && Rt.redD n d == d)) ∧ Below w.heap.size w w' := by
  have hb := Rt.lim_iff.1 h
  have H := Lib.hid h
  have HB := Lib.hid hb
  clear h hb
  go_enter Tryz.func138, Tryz.ntmps138
  go_wp2_with fail
  refine (within_yes _ _ _ H.out).mono ?_; rintro e w1 ⟨rfl, hb1⟩
  obtain ⟨hc, hf⟩ := bcell hb1
  have hz1 : w.heap.size < w1.heap.size := by have := hb1.size; simp at this; omega
  go_wp2_with fail
  refine (reduce_any _ _ _ (by have := HB.out; omega) (by have := HB.out; omega) (by have := HB.out; omega) (by have := HB.out; omega)).mono ?_; rintro e w2 ⟨rfl, hb2⟩
  obtain ⟨hc2, hf2⟩ := bcell hb2
  have hz2 : w.heap.size < w2.heap.size := by have := hb2.size; omega
  go_wp2_with fail
  all_goals
    go_ret
    refine ⟨by simp [*], ?_⟩
    exact ((((Below.refl _ _).alloc (Nat.le_refl _) _).trans (hb1.mono (by simp))).trans (hb2.mono (by omega))).alloc (by omega) _

set_option maxHeartbeats 400000 in
theorem valid_out (n d : Int) (w : World) (h : Rt.lim n d = false) :
    Calls Tryz.prog 138 #[.agg #[.int .i64 n, .int .i64 d]] w fun e w' => e = .returned (.bool false) ∧ Below w.heap.size w w' := by
  have H := Lib.hid h
  clear h
  go_enter Tryz.func138, Tryz.ntmps138
  go_wp2_with fail
  refine (within_no _ _ _ H.out).mono ?_; rintro e w1 ⟨rfl, hb1⟩
  go_wp2_with fail
  go_ret
  exact ⟨rfl, ((Below.refl _ _).alloc (Nat.le_refl _) _).trans (hb1.mono (by simp))⟩

/-- 'Valid' at whatever numbers. -/
theorem valid_any (n d : Int) (w : World) :
    Calls Tryz.prog 138 #[.agg #[.int .i64 n, .int .i64 d]] w fun e w' => e = .returned (.bool (Rt.vld n d)) ∧ Below w.heap.size w w' := by
  by_cases h : Rt.lim n d = true
  · rw [← valid_eq h]; exact valid_lim n d w h
  · have h' : Rt.lim n d = false := by simpa using h
    have e : Rt.vld n d = false := by unfold Rt.vld; rw [h']; rfl
    rw [e]; exact valid_out n d w h'
theorem valid_is (n d : Int) (b : Bool) (hb : Rt.vld n d = b) (w : World) :
    Calls Tryz.prog 138 #[.agg #[.int .i64 n, .int .i64 d]] w fun e w' => e = .returned (.bool b) ∧ Below w.heap.size w w' := by
  subst hb; exact valid_any n d w
end Go.Proofs.YtbbjifhelbeniaaGreatDoor

/- Plain facts on what ratio makes of two numbers. -/
namespace Go.Proofs.YtbbjifhelbeniaaGreatDoor
open Go.RowKit

/-- What an operator makes of two ratios: the numbers of the result, and its error. -/
def Rt.opE (ok : Bool) (x y : Int) : Int := if ok = true then Rt.redE x y else 1
def Rt.opN (ok : Bool) (x y : Int) : Int := if ok = true then Rt.redN x y else 0
def Rt.opD (ok : Bool) (x y : Int) : Int := if ok = true then Rt.redD x y else 0
theorem Rt.op_yes (x y : Int) : Rt.opE true x y = Rt.redE x y ∧ Rt.opN true x y = Rt.redN x y ∧ Rt.opD true x y = Rt.redD x y := ⟨rfl, rfl, rfl⟩
theorem Rt.op_no (x y : Int) : Rt.opE false x y = 1 ∧ Rt.opN false x y = 0 ∧ Rt.opD false x y = 0 := ⟨rfl, rfl, rfl⟩

theorem mul_in (a b A B : Int) (h1 : -A ≤ a) (h2 : a ≤ A) (h3 : -B ≤ b) (h4 : b ≤ B) : -(A * B) ≤ a * b ∧ a * b ≤ A * B := by
  have h : (a * b).natAbs ≤ (A * B).natAbs := by
    rw [Int.natAbs_mul, Int.natAbs_mul]; exact Nat.mul_le_mul (by omega) (by omega)
  have h5 : 0 ≤ A * B := Int.mul_nonneg (by omega) (by omega)
  omega
theorem muls_in (a b c d : Int) (h1 : -1000000000 ≤ a) (h2 : a ≤ 1000000000) (h3 : 1 ≤ b) (h4 : b ≤ 1000000) (h5 : -1000000000 ≤ c) (h6 : c ≤ 1000000000) (h7 : 1 ≤ d) (h8 : d ≤ 1000000) :
    (-1000000000000000 ≤ a * d ∧ a * d ≤ 1000000000000000) ∧ (-1000000000000000 ≤ c * b ∧ c * b ≤ 1000000000000000) ∧ (-1000000000000 ≤ b * d ∧ b * d ≤ 1000000000000) ∧
    (-1000000000000000000 ≤ a * c ∧ a * c ≤ 1000000000000000000) ∧ (-1000000000000000 ≤ b * c ∧ b * c ≤ 1000000000000000) := by
  have p1 := mul_in a d 1000000000 1000000 h1 h2 (by omega) h8
  have p3 := mul_in c b 1000000000 1000000 h5 h6 (by omega) h4
  have p5 := mul_in b d 1000000 1000000 (by omega) h4 (by omega) h8
  have p7 := mul_in a c 1000000000 1000000000 h1 h2 h5 h6
  have p9 := mul_in b c 1000000 1000000000 (by omega) h4 h5 h6
  omega

end Go.Proofs.YtbbjifhelbeniaaGreatDoor

/- (Nothing of its own: what stage 7 has here is not in this program.) -/
