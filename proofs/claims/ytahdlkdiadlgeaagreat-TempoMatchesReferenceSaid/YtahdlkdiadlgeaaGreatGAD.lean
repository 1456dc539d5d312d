import Derived.Test.YtahdlkdiadlgeaaGreatGAB
import Derived.Test.YtahdlkdiadlgeaaGreatGAC
/- What ratio makes of durations: sums, which one is less. -/
namespace Go.Proofs.YtahdlkdiadlgeaaGreat.Mt

theorem o_mul (n : Nat) : oN n * 1680 = (n : Int) * oD n := by
  have hg : 0 < Nat.gcd n 1680 := Nat.gcd_pos_of_pos_right _ (by omega)
  obtain ⟨a, ha⟩ := Nat.gcd_dvd_left n 1680
  obtain ⟨b, hb⟩ := Nat.gcd_dvd_right n 1680
  unfold oN oD
  rw [Nat.div_eq_of_eq_mul_right hg ha, Nat.div_eq_of_eq_mul_right hg hb]
  generalize Nat.gcd n 1680 = g at *
  have h1 : (n : Int) = (g : Int) * (a : Int) := by rw [← Int.natCast_mul, ← ha]
  have h2 : (1680 : Int) = (g : Int) * (b : Int) := by rw [← Int.natCast_mul, ← hb]; rfl
  rw [h1, h2]
  rw [← Int.mul_assoc, Int.mul_comm (a : Int) (g : Int)]
theorem oD_pos (n : Nat) : 1 ≤ oD n ∧ oD n ≤ 1680 := by
  have hg : 0 < Nat.gcd n 1680 := Nat.gcd_pos_of_pos_right _ (by omega)
  have hl : Nat.gcd n 1680 ≤ 1680 := Nat.gcd_le_right _ (by omega)
  unfold oD
  have h1 : 0 < 1680 / Nat.gcd n 1680 := Nat.div_pos hl hg
  have h2 := Nat.div_le_self 1680 (Nat.gcd n 1680)
  omega
theorem oN_le (n : Nat) : 0 ≤ oN n ∧ oN n ≤ (n : Int) := by
  unfold oN
  exact ⟨Int.natCast_nonneg _, Int.ofNat_le.2 (Nat.div_le_self ..)⟩
theorem o_vld {n : Nat} (h : n ≤ 1000000000) : Rt.vld (oN n) (oD n) = true := by
  have ht := tk_of h
  have hne : tk (oN n) (oD n) ≠ -1 := by rw [ht]; omega
  rcases tk_cases (oN n) (oD n) with h1 | ⟨_, _, _, _, h5, _⟩
  · exact absurd h1 hne
  · obtain ⟨d1, d2⟩ := oD_pos n
    obtain ⟨n1, n2⟩ := oN_le n
    exact Rt.vld_iff.2 ⟨Rt.lim_iff.2 ⟨by omega, by omega, d1, by omega⟩, h5⟩
/-- The sum of durations. -/
theorem add_of {a b : Nat} (h : a + b ≤ 1000000000) : Rt.addR (oN a) (oD a) (oN b) (oD b) = (oN (a + b), oD (a + b), 0) := by
  obtain ⟨da, _⟩ := oD_pos a
  obtain ⟨db, _⟩ := oD_pos b
  have hd : oD a * oD b ≠ 0 := by
    have := Int.mul_pos (show 0 < oD a by omega) (show 0 < oD b by omega)
    omega
  have ea := o_mul a
  have eb := o_mul b
  have ec := o_mul (a + b)
  have key : oN (a + b) * (oD a * oD b) = oD (a + b) * (oN a * oD b + oN b * oD a) := by
    have h1 : oN (a + b) * (oD a * oD b) * 1680 = oD (a + b) * (oN a * oD b + oN b * oD a) * 1680 := by
      have e1 : oN (a + b) * (oD a * oD b) * 1680 = oN (a + b) * 1680 * (oD a * oD b) := by rw [Int.mul_right_comm]
      have e2 : oD (a + b) * (oN a * oD b + oN b * oD a) * 1680 = oD (a + b) * (oN a * 1680 * oD b + oN b * 1680 * oD a) := by
        rw [Int.mul_assoc, Int.add_mul, Int.mul_right_comm (oN a), Int.mul_right_comm (oN b)]
      rw [e1, e2, ea, eb, ec, Int.natCast_add]
      generalize oD (a + b) = z
      generalize oD a = x
      generalize oD b = y
      generalize (a : Int) = p
      generalize (b : Int) = q
      rw [show p * x * y + q * y * x = (p + q) * (x * y) by rw [Int.add_mul, Int.mul_assoc, Int.mul_assoc q, Int.mul_comm y x]]
      rw [Int.mul_comm (p + q) z, Int.mul_assoc]
    exact Int.eq_of_mul_eq_mul_right (by omega) h1
  obtain ⟨r1, r2, r3⟩ := Rt.red_of hd (o_vld h) key
  unfold Rt.addR
  rw [o_vld (show a ≤ 1000000000 by omega), o_vld (show b ≤ 1000000000 by omega)]
  obtain ⟨p1, p2, p3⟩ := Rt.op_yes (oN a * oD b + oN b * oD a) (oD a * oD b)
  simp only [Bool.and_self]
  rw [p1, p2, p3, r1, r2, r3]
/-- Which of two durations is less. -/
theorem cmp_of {a b : Nat} (ha : a ≤ 1000000000) (hb : b ≤ 1000000000) : Rt.cmpR (oN a) (oD a) (oN b) (oD b) = (Rt.cmpI a b, 0) := by
  obtain ⟨da, _⟩ := oD_pos a
  obtain ⟨db, _⟩ := oD_pos b
  have hp : 0 < oD a * oD b := Int.mul_pos (by omega) (by omega)
  have e1 : oN a * oD b * 1680 = (a : Int) * (oD a * oD b) := by rw [Int.mul_right_comm, o_mul a, Int.mul_assoc]
  have e2 : oN b * oD a * 1680 = (b : Int) * (oD a * oD b) := by rw [Int.mul_right_comm, o_mul b, Int.mul_assoc, Int.mul_comm (oD b)]
  have l1 : oN a * oD b < oN b * oD a ↔ (a : Int) < (b : Int) := by
    constructor
    · intro h
      have : (a : Int) * (oD a * oD b) < (b : Int) * (oD a * oD b) := by omega
      exact Int.lt_of_mul_lt_mul_right this (by omega)
    · intro h
      have := Int.mul_lt_mul_of_pos_right h hp
      omega
  have l2 : oN b * oD a < oN a * oD b ↔ (b : Int) < (a : Int) := by
    constructor
    · intro h
      have : (b : Int) * (oD a * oD b) < (a : Int) * (oD a * oD b) := by omega
      exact Int.lt_of_mul_lt_mul_right this (by omega)
    · intro h
      have := Int.mul_lt_mul_of_pos_right h hp
      omega
  unfold Rt.cmpR
  rw [o_vld ha, o_vld hb]
  simp only [Bool.and_self]
  unfold Rt.cmpV Rt.cmpE Rt.cmpI
  simp only [if_true, l1, l2]
end Go.Proofs.YtahdlkdiadlgeaaGreat.Mt

/- The walk of ratio.Make. -/
namespace Go.Proofs.YtahdlkdiadlgeaaGreat
open Go.RowKit

/-- Are both numbers of a fraction such as Make takes? -/
def Rt.takes (n d : Int) : Bool := decide (-1000000000000000 ≤ n) && decide (n ≤ 1000000000000000) && decide (-1000000000000000 ≤ d) && decide (d ≤ 1000000000000000)
theorem Rt.takes_iff {n d : Int} : Rt.takes n d = true ↔ -1000000000000000 ≤ n ∧ n ≤ 1000000000000000 ∧ -1000000000000000 ≤ d ∧ d ≤ 1000000000000000 := by
  unfold Rt.takes; simp [and_assoc]
theorem Rt.takes_no {n d : Int} (h : Rt.takes n d = false) : n < -1000000000000000 ∨ 1000000000000000 < n ∨ d < -1000000000000000 ∨ 1000000000000000 < d := by
  have h' : ¬ (Rt.takes n d = true) := by simp [h]
  rw [Rt.takes_iff] at h'; omega

set_option maxHeartbeats 400000 in
theorem make_any (n d : Int) (w : World) :
    Calls Tryz.prog 44 #[.int .i64 n, .int .i64 d] w fun e w' =>
      e = .returned (.tuple #[.agg #[.int .i64 (Rt.opN (Rt.takes n d) n d), .int .i64 (Rt.opD (Rt.takes n d) n d)], .int .i64 (Rt.opE (Rt.takes n d) n d)]) ∧ Below w.heap.size w w' := by
  by_cases hv : Rt.takes n d = true
  · rw [hv]
    obtain ⟨h1, h2, h3, h4⟩ := Rt.takes_iff.1 hv
    clear hv
    go_enter Tryz.func44, Tryz.ntmps44
    go_wp2_with fail
    refine (between_yes _ _ _ _ (by omega) (by omega)).mono ?_; rintro e w1 ⟨rfl, rfl⟩
    go_wp2_with fail
    refine (between_yes _ _ _ _ (by omega) (by omega)).mono ?_; rintro e w1 ⟨rfl, rfl⟩
    go_wp2_with fail
    refine (reduce_any _ _ _ (by omega) (by omega) (by omega) (by omega)).mono ?_; rintro e w4 ⟨rfl, hb4⟩
    obtain ⟨hc4, hf4⟩ := bcell hb4
    have q0 : w4.cell? ⟨w.heap.size, 0, none⟩ = some (.int .i64 0) := by rw [hc4 _ _ (by simp)]; go_simp
    have q1 : w4.cell? ⟨w.heap.size, 1, none⟩ = some (.int .i64 0) := by rw [hc4 _ _ (by simp)]; go_simp
    go_wp2_with fail
    refine bodyPost_ret (v := .tuple #[.agg #[.int .i64 (Rt.redN n d), .int .i64 (Rt.redD n d)], .int .i64 (Rt.redE n d)]) (by simp [results, Tryz.results44, go_sem, q0, q1]) rfl ⟨rfl, ?_⟩
    exact ((((Below.refl _ _).alloc (Nat.le_refl _) _).trans (hb4.mono (by simp))).setCell (by simp) _).setCell (by simp) _
  · have hv' : Rt.takes n d = false := by simpa using hv
    rw [hv']
    have h := Rt.takes_no hv'
    clear hv hv'
    by_cases h1 : n < -1000000000000000 ∨ 1000000000000000 < n
    · have H := Lib.hid h1
      clear h h1
      go_enter Tryz.func44, Tryz.ntmps44
      go_wp2_with fail
      refine (between_no _ _ _ _ H.out).mono ?_; rintro e w1 ⟨rfl, rfl⟩
      go_wp2_with fail
      refine bodyPost_ret (v := .tuple #[.agg #[.int .i64 0, .int .i64 0], .int .i64 1]) (by simp [results, Tryz.results44, go_sem]) rfl ⟨rfl, ?_⟩
      go_grown
    · have H := Lib.hid (show d < -1000000000000000 ∨ 1000000000000000 < d by omega)
      have h2 : -1000000000000000 ≤ n ∧ n ≤ 1000000000000000 := by omega
      obtain ⟨h3, h4⟩ := h2
      clear h h1
      go_enter Tryz.func44, Tryz.ntmps44
      go_wp2_with fail
      refine (between_yes _ _ _ _ (by omega) (by omega)).mono ?_; rintro e w1 ⟨rfl, rfl⟩
      go_wp2_with fail
      refine (between_no _ _ _ _ H.out).mono ?_; rintro e w1 ⟨rfl, rfl⟩
      go_wp2_with fail
      refine bodyPost_ret (v := .tuple #[.agg #[.int .i64 0, .int .i64 0], .int .i64 1]) (by simp [results, Tryz.results44, go_sem]) rfl ⟨rfl, ?_⟩
      go_grown

def Rt.makeR (n d : Int) : Int × Int × Int := (Rt.opN (Rt.takes n d) n d, Rt.opD (Rt.takes n d) n d, Rt.opE (Rt.takes n d) n d)
theorem make_is (n d N D E : Int) (h : Rt.makeR n d = (N, D, E)) (w : World) :
    Calls Tryz.prog 44 #[.int .i64 n, .int .i64 d] w fun e w' =>
      e = .returned (.tuple #[.agg #[.int .i64 N, .int .i64 D], .int .i64 E]) ∧ Below w.heap.size w w' := by
  obtain ⟨rfl, rfl, rfl⟩ : Rt.opN (Rt.takes n d) n d = N ∧ Rt.opD (Rt.takes n d) n d = D ∧ Rt.opE (Rt.takes n d) n d = E := by simpa [Rt.makeR] using h
  exact make_any n d w

end Go.Proofs.YtahdlkdiadlgeaaGreat

/- The walks of the reference's Make, Add, Sub, Mul, Div, Compare and Floor. -/
namespace Go.Proofs.YtahdlkdiadlgeaaGreat
open Go.RowKit

set_option maxHeartbeats 1600000 in
theorem rmake_no (n d : Int) (w : World) (h : d = 0 ∨ n < -1000000000000000 ∨ 1000000000000000 < n ∨ d < -1000000000000000 ∨ 1000000000000000 < d) :
    Calls Tryz.prog 31 #[.int .i64 n, .int .i64 d] w fun e w' =>
      e = .returned (.tuple #[.agg #[.int .i64 0, .int .i64 0], .int .i64 1]) ∧ Below w.heap.size w w' := by
  by_cases h0 : d = 0
  · subst h0
    clear h
    go_enter Tryz.func31, Tryz.ntmps31
    go_wp2_with fail
    refine bodyPost_ret (v := .tuple #[.agg #[.int .i64 0, .int .i64 0], .int .i64 1]) (by simp [results, Tryz.results31, go_sem]) rfl ⟨rfl, by go_grown⟩
  · have hb : (d == 0) = false := by simpa using h0
    by_cases h1 : n < -1000000000000000
    · clear h
      go_enter Tryz.func31, Tryz.ntmps31
      go_wp2_with fail
      refine bodyPost_ret (v := .tuple #[.agg #[.int .i64 0, .int .i64 0], .int .i64 1]) (by simp [results, Tryz.results31, go_sem]) rfl ⟨rfl, by go_grown⟩
    · by_cases h2 : 1000000000000000 < n
      · clear h
        go_enter Tryz.func31, Tryz.ntmps31
        go_wp2_with fail
        refine bodyPost_ret (v := .tuple #[.agg #[.int .i64 0, .int .i64 0], .int .i64 1]) (by simp [results, Tryz.results31, go_sem]) rfl ⟨rfl, by go_grown⟩
      · by_cases h3 : d < -1000000000000000
        · clear h
          go_enter Tryz.func31, Tryz.ntmps31
          go_wp2_with fail
          refine bodyPost_ret (v := .tuple #[.agg #[.int .i64 0, .int .i64 0], .int .i64 1]) (by simp [results, Tryz.results31, go_sem]) rfl ⟨rfl, by go_grown⟩
        · have h4 : 1000000000000000 < d := by omega
          clear h
          go_enter Tryz.func31, Tryz.ntmps31
          go_wp2_with fail
          refine bodyPost_ret (v := .tuple #[.agg #[.int .i64 0, .int .i64 0], .int .i64 1]) (by simp [results, Tryz.results31, go_sem]) rfl ⟨rfl, by go_grown⟩

set_option maxHeartbeats 1600000 in
theorem rmake_any (n d : Int) (w : World) :
    Calls Tryz.prog 31 #[.int .i64 n, .int .i64 d] w fun e w' =>
      e = .returned (.tuple #[.agg #[.int .i64 (Rt.opN (Rt.takes n d) n d), .int .i64 (Rt.opD (Rt.takes n d) n d)], .int .i64 (Rt.opE (Rt.takes n d) n d)]) ∧ Below w.heap.size w w' := by
  by_cases hv : Rt.takes n d = true
  · rw [hv]
    obtain ⟨h1, h2, h3, h4⟩ := Rt.takes_iff.1 hv
    clear hv
    by_cases h0 : d = 0
    · subst h0
      have e0 : Rt.redE n 0 = 1 := Rt.redE_one.2 rfl
      obtain ⟨e1, e2⟩ := Rt.red_err (n := n) (d := 0) (by omega)
      obtain ⟨o1, o2, o3⟩ := Rt.op_yes n 0
      rw [o1, o2, o3, e0, e1, e2]
      exact rmake_no n 0 w (Or.inl rfl)
    · have hb : (d == 0) = false := by simpa using h0
      have HN := Lib.hid h0
      go_enter Tryz.func31, Tryz.ntmps31
      go_wp2_with fail
      refine (rreduce_any _ _ _ (by omega) (by omega) (by omega) (by omega) HN.out).mono ?_; rintro e w4 ⟨rfl, hb4⟩
      obtain ⟨hc4, hf4⟩ := bcell hb4
      have hz4 : w.heap.size < w4.heap.size := by have := hb4.size; simp at this; omega
      have q0 : w4.cell? ⟨w.heap.size, 0, none⟩ = some (.int .i64 0) := by rw [hc4 _ _ (by simp)]; go_simp
      have q1 : w4.cell? ⟨w.heap.size, 1, none⟩ = some (.int .i64 0) := by rw [hc4 _ _ (by simp)]; go_simp
      have hcl : ∀ (W : World) (o1 : Obj) (j : Nat), W.heap.size = w4.heap.size → (W.alloc o1).cell? ⟨w.heap.size, j, none⟩ = W.cell? ⟨w.heap.size, j, none⟩ := fun W o1 j h => by
        rw [World.cell?_alloc_lt _ _ _ (by simp; omega)]
      have HCL := Lib.hid hcl; clear hcl
      go_wp2_with fail
      refine bodyPost_ret (v := .tuple #[.agg #[.int .i64 (Rt.redN n d), .int .i64 (Rt.redD n d)], .int .i64 (Rt.redE n d)]) (by simp [results, Tryz.results31, go_sem, q0, q1, HCL.out]) rfl ⟨rfl, ?_⟩
      exact (((((Below.refl _ _).alloc (Nat.le_refl _) _).trans (hb4.mono (by simp))).setCell (by simp) _).setCell (by simp) _).alloc (by simp; omega) _
  · have hv' : Rt.takes n d = false := by simpa using hv
    rw [hv']
    exact rmake_no n d w (Or.inr (Rt.takes_no hv'))
theorem rmake_is (n d N D E : Int) (h : Rt.makeR n d = (N, D, E)) (w : World) :
    Calls Tryz.prog 31 #[.int .i64 n, .int .i64 d] w fun e w' =>
      e = .returned (.tuple #[.agg #[.int .i64 N, .int .i64 D], .int .i64 E]) ∧ Below w.heap.size w w' := by
  obtain ⟨rfl, rfl, rfl⟩ : Rt.opN (Rt.takes n d) n d = N ∧ Rt.opD (Rt.takes n d) n d = D ∧ Rt.opE (Rt.takes n d) n d = E := by simpa [Rt.makeR] using h
  exact rmake_any n d w

end Go.Proofs.YtahdlkdiadlgeaaGreat

/- Slices of bars. -/
namespace Go.Proofs.YtahdlkdiadlgeaaGreat
open Go.RowKit

def atB (l : List Mt.B) (i : Nat) : Mt.B := l[i]?.getD (0, 0, 0, 0)
theorem atB_eq {l : List Mt.B} {i : Nat} (h : i < l.length) : atB l i = l[i] := by unfold atB; rw [List.getElem?_eq_getElem h]; rfl
/-- At this address lie these bars (nothing is said where there are none). -/
def SlB (w : World) (A : Option Addr) (l : List Mt.B) : Prop :=
  0 < l.length → ∃ b off, A = some ⟨b, off, none⟩ ∧ b < w.heap.size ∧ ∀ k, k < l.length → w.cell? ⟨b, off + k * 4, none⟩ = some (.int .i64 (atB l k).1) ∧
    w.cell? ⟨b, off + k * 4 + 1, none⟩ = some (.int .i64 (atB l k).2.1) ∧ w.cell? ⟨b, off + k * 4 + 2, none⟩ = some (.int .i64 (atB l k).2.2.1) ∧ w.cell? ⟨b, off + k * 4 + 3, none⟩ = some (.int .i64 (atB l k).2.2.2)
theorem SlB.below {w w' : World} {A : Option Addr} {l : List Mt.B} (h : SlB w A l) (hb : Below w.heap.size w w') : SlB w' A l := fun h0 => by
  obtain ⟨b, off, e, hlt, hc⟩ := h h0
  refine ⟨b, off, e, Nat.lt_of_lt_of_le hlt hb.size, fun k hk => ?_⟩
  obtain ⟨c0, c1, c2, c3⟩ := hc k hk
  exact ⟨(hb.cell (p := ⟨b, off + k * 4, none⟩) hlt).trans c0, (hb.cell (p := ⟨b, off + k * 4 + 1, none⟩) hlt).trans c1, (hb.cell (p := ⟨b, off + k * 4 + 2, none⟩) hlt).trans c2, (hb.cell (p := ⟨b, off + k * 4 + 3, none⟩) hlt).trans c3⟩
theorem SlB.alloc {w : World} {A : Option Addr} {l : List Mt.B} (h : SlB w A l) (o : Obj) : SlB (w.alloc o) A l := h.below ((Below.refl _ _).alloc (Nat.le_refl _) _)
theorem SlB.nil (w : World) (A : Option Addr) : SlB w A [] := fun h => by simp at h
theorem baddr_off (b o j : Nat) : (⟨b, o, none⟩ : Addr).add j = ⟨b, o + j, none⟩ := by unfold Addr.add; split <;> simp_all
theorem SlB.take {w : World} {A : Option Addr} {l : List Mt.B} (h : SlB w A l) (j : Nat) : SlB w A (l.take j) := fun h0 => by
  rw [List.length_take] at h0
  obtain ⟨b, off, rfl, hb, hc⟩ := h (by omega)
  refine ⟨b, off, rfl, hb, fun i hi => ?_⟩
  rw [List.length_take] at hi
  have e : atB (l.take j) i = atB l i := by unfold atB; rw [List.getElem?_take, if_pos (by omega)]
  rw [e]
  exact hc i (by omega)
theorem SlB.drop {w : World} {A : Option Addr} {l : List Mt.B} (h : SlB w A l) (j : Nat) : SlB w (Option.map (fun x => x.add (j * 4)) A) (l.drop j) := fun h0 => by
  rw [List.length_drop] at h0
  obtain ⟨b, off, rfl, hb, hc⟩ := h (by omega)
  refine ⟨b, off + j * 4, by rw [Option.map_some, baddr_off], hb, fun i hi => ?_⟩
  rw [List.length_drop] at hi
  have e : atB (l.drop j) i = atB l (j + i) := by unfold atB; rw [List.getElem?_drop]
  rw [e, show off + j * 4 + i * 4 = off + (j + i) * 4 by omega]
  exact hc (j + i) (by omega)
end Go.Proofs.YtahdlkdiadlgeaaGreat

/- Mathematics of forms: in which order bars are played. -/
namespace Go.Proofs.YtahdlkdiadlgeaaGreat

namespace Fo
/-- Three integers: a repeat (From, Until, Times), an ending or a cut (From, Until, Pass). -/
structure T3 where
  a : Int
  b : Int
  c : Int
deriving instance DecidableEq for T3
/-- A visit: a bar, and the how many-th time it comes. -/
structure V2 where
  b : Int
  p : Int
deriving instance DecidableEq for V2
/-- A form. -/
structure Fm where
  n : Int
  rs : List T3
  es : List T3
  ja : Int
  jt : Int
  jf : Int
  cs : List T3
def at3 (l : List T3) (i : Nat) : T3 := l[i]?.getD ⟨0, 0, 0⟩
theorem at3_eq {l : List T3} {i : Nat} (h : i < l.length) : at3 l i = l[i] := by unfold at3; rw [List.getElem?_eq_getElem h]; rfl
theorem at3_mem {l : List T3} {i : Nat} (h : i < l.length) : at3 l i ∈ l := by rw [at3_eq h]; exact List.getElem_mem h
def inn (x : T3) (bar : Int) : Prop := x.a ≤ bar ∧ bar < x.b
instance (x : T3) (bar : Int) : Decidable (inn x bar) := by unfold inn; infer_instance
/-- A bar is played on a pass. -/
def pld (es : List T3) (bar pass : Int) : Prop := ∀ x ∈ es, inn x bar → x.c = pass
instance (es : List T3) (bar pass : Int) : Decidable (pld es bar pass) := by unfold pld; infer_instance
/-! ### where a repeat begins -/
def six : List T3 → Int → Int
  | [], _ => -1
  | x :: l, bar => if x.a = bar then 0 else if six l bar < 0 then -1 else six l bar + 1
theorem six_ge : ∀ (l : List T3) (bar : Int), -1 ≤ six l bar
  | [], _ => Int.le_refl _
  | b :: l, bar => by
    have := six_ge l bar
    unfold six
    split
    · omega
    · split <;> omega
theorem six_lt : ∀ (l : List T3) (bar : Int), six l bar < l.length
  | [], _ => by unfold six; simp
  | b :: l, bar => by
    have := six_lt l bar
    unfold six
    simp only [List.length_cons]
    split
    · omega
    · split <;> omega
theorem six_at : ∀ {l : List T3} {bar : Int}, 0 ≤ six l bar → (at3 l (six l bar).toNat).a = bar
  | [], bar, h => by unfold six at h; omega
  | b :: l, bar, h => by
    unfold six at h ⊢
    split
    · rename_i e; exact e
    · rename_i e
      rw [if_neg e] at h
      split
      · rename_i h1; rw [if_pos h1] at h; omega
      · rename_i h1
        have ih := six_at (l := l) (bar := bar) (by omega)
        rw [show (six l bar + 1).toNat = (six l bar).toNat + 1 by omega]
        exact ih
theorem six_none : ∀ {l : List T3} {bar : Int}, six l bar < 0 → ∀ x ∈ l, x.a ≠ bar
  | [], _, _, _, hx => by cases hx
  | b :: l, bar, h, x, hx => by
    unfold six at h
    by_cases e : b.a = bar
    · rw [if_pos e] at h; omega
    · rw [if_neg e] at h
      rcases List.mem_cons.1 hx with rfl | hx
      · exact e
      · refine six_none (l := l) ?_ x hx
        split at h
        · assumption
        · omega
theorem six_first : ∀ {l : List T3} {bar : Int} {i : Nat}, i < l.length → (at3 l i).a = bar → (∀ k, k < i → (at3 l k).a ≠ bar) → six l bar = i
  | [], _, _, hi, _, _ => by simp at hi
  | b :: l, bar, 0, _, h, _ => by unfold six; rw [if_pos (show b.a = bar from h)]; rfl
  | b :: l, bar, i + 1, hi, h, hk => by
    have e : b.a ≠ bar := hk 0 (by omega)
    have ih := six_first (l := l) (bar := bar) (i := i) (by simpa using hi) h (fun k hk2 => hk (k + 1) (by omega))
    unfold six
    rw [if_neg e, if_neg (by omega), ih]
    rfl
/-! ### the order -/
/-- The bars of one pass, up to the m-th one from lo on. -/
def pas (es : List T3) (lo pass : Int) : Nat → List Int
  | 0 => []
  | m + 1 => pas es lo pass m ++ (if pld es (lo + m) pass then [lo + m] else [])
/-- All passes: k of them, from first on. -/
def pss (es : List T3) (x : T3) (first : Int) : Nat → List Int
  | 0 => []
  | k + 1 => pss es x first k ++ pas es x.a (first + k) (x.b - x.a).toNat
def blk (f : Fm) (again : Bool) (bar : Int) : List Int := if six f.rs bar < 0 then [bar] else
  pss f.es (at3 f.rs (six f.rs bar).toNat) (if again then (at3 f.rs (six f.rs bar).toNat).c else 1) ((at3 f.rs (six f.rs bar).toNat).c + 1 - (if again then (at3 f.rs (six f.rs bar).toNat).c else 1)).toNat
def nxt (f : Fm) (bar : Int) : Int := if six f.rs bar < 0 then bar + 1 else (at3 f.rs (six f.rs bar).toNat).b
def prt (f : Fm) (again : Bool) (hi : Int) : Nat → Int → List Int
  | 0, _ => []
  | k + 1, bar => if bar < hi then blk f again bar ++ prt f again hi k (nxt f bar) else []
def up (f : Fm) : Prop := ∀ x ∈ f.rs, x.a < x.b
theorem nxt_lt {f : Fm} (h : up f) (bar : Int) : bar < nxt f bar := by
  unfold nxt
  split
  · omega
  · rename_i h0
    have h1 := six_at (l := f.rs) (bar := bar) (by omega)
    have h2 := six_lt f.rs bar
    have h3 := h _ (at3_mem (l := f.rs) (i := (six f.rs bar).toNat) (by omega))
    omega
theorem prt_fuel {f : Fm} (h : up f) (again : Bool) (hi : Int) : ∀ (k : Nat) (bar : Int), (hi - bar).toNat ≤ k → prt f again hi k bar = prt f again hi (k + 1) bar
  | 0, bar, hk => by
    unfold prt
    rw [if_neg (by omega)]
  | k + 1, bar, hk => by
    have h1 := nxt_lt h bar
    conv => lhs; unfold prt
    conv => rhs; unfold prt
    by_cases hb : bar < hi
    · rw [if_pos hb, if_pos hb, prt_fuel h again hi k (nxt f bar) (by omega)]
    · rw [if_neg hb, if_neg hb]
theorem prt_more {f : Fm} (h : up f) (again : Bool) (hi : Int) (bar : Int) : ∀ (k : Nat), (hi - bar).toNat ≤ k → prt f again hi k bar = prt f again hi (hi - bar).toNat bar := fun k hk => by
  obtain ⟨m, rfl⟩ : ∃ m, k = (hi - bar).toNat + m := ⟨k - (hi - bar).toNat, by omega⟩
  induction m with
  | zero => rfl
  | succ m ih => rw [← Nat.add_assoc, ← prt_fuel h again hi _ bar (by omega)]; exact ih (by omega)
/-- From bar on to before hi. -/
def par (f : Fm) (again : Bool) (bar hi : Int) : List Int := prt f again hi (hi - bar).toNat bar
theorem par_end (f : Fm) (again : Bool) {bar hi : Int} (h : ¬ bar < hi) : par f again bar hi = [] := by
  unfold par
  rw [show (hi - bar).toNat = 0 by omega]
  rfl
theorem par_step {f : Fm} (h : up f) (again : Bool) {bar hi : Int} (hb : bar < hi) : par f again bar hi = blk f again bar ++ par f again (nxt f bar) hi := by
  have h1 := nxt_lt h bar
  obtain ⟨k, hk⟩ : ∃ k, (hi - bar).toNat = k + 1 := ⟨(hi - bar).toNat - 1, by omega⟩
  unfold par
  rw [hk]
  conv => lhs; unfold prt
  rw [if_pos hb, prt_more h again hi (nxt f bar) k (by omega)]
/-- All bars, without cuts. -/
def whl (f : Fm) : List Int := if f.ja = 0 then par f false 0 f.n else par f false 0 f.ja ++ par f true f.jt f.jf
/-! ### visits -/
def visA : List Int → List Int → List V2
  | _, [] => []
  | acc, b :: r => ⟨b, (acc.count b : Int) + 1⟩ :: visA (acc ++ [b]) r
def vis (l : List Int) : List V2 := visA [] l
theorem visA_snoc : ∀ (l acc : List Int) (b : Int), visA acc (l ++ [b]) = visA acc l ++ [⟨b, ((acc ++ l).count b : Int) + 1⟩]
  | [], acc, b => by simp [visA]
  | x :: l, acc, b => by
    rw [List.cons_append, visA, visA, visA_snoc l (acc ++ [x]) b]
    simp
theorem vis_snoc (l : List Int) (b : Int) : vis (l ++ [b]) = vis l ++ [⟨b, (l.count b : Int) + 1⟩] := visA_snoc l [] b
theorem visA_length : ∀ (l acc : List Int), (visA acc l).length = l.length
  | [], _ => rfl
  | _ :: l, acc => by rw [visA, List.length_cons, visA_length l, List.length_cons]
theorem vis_length (l : List Int) : (vis l).length = l.length := visA_length l []
/-- A cut leaves out a visit. -/
def lvs (c : T3) (v : V2) : Prop := inn c v.b ∧ (c.c = 0 ∨ c.c = v.p)
instance (c : T3) (v : V2) : Decidable (lvs c v) := by unfold lvs; infer_instance
def lft (cs : List T3) (v : V2) : Prop := ∃ c ∈ cs, lvs c v
instance (cs : List T3) (v : V2) : Decidable (lft cs v) := by unfold lft; infer_instance
/-- The order of a form. -/
def unf (f : Fm) : List V2 := (vis (whl f)).filter fun v => !decide (lft f.cs v)
/-! ### well-formed -/
def wi (l : List T3) (bar : Int) : Prop := ∃ x ∈ l, x.a < bar ∧ bar < x.b
instance (l : List T3) (bar : Int) : Decidable (wi l bar) := by unfold wi; infer_instance
def ins (l : List T3) (lo hi : Int) : Prop := ∃ x ∈ l, x.a ≤ lo ∧ hi ≤ x.b
instance (l : List T3) (lo hi : Int) : Decidable (ins l lo hi) := by unfold ins; infer_instance
def chR (n : Int) : Int → List T3 → Prop
  | _, [] => True
  | last, x :: l => (last ≤ x.a ∧ x.a < x.b ∧ x.b ≤ n ∧ 1 ≤ x.c ∧ x.c ≤ 9) ∧ chR n x.b l
def chE (rs : List T3) : Int → List T3 → Prop
  | _, [] => True
  | last, x :: l => (last ≤ x.a ∧ x.a < x.b ∧ ins rs x.a x.b ∧ 1 ≤ x.c ∧ x.c ≤ 9) ∧ chE rs x.b l
def okJ (f : Fm) : Prop := (f.ja = 0 ∧ f.jt = 0 ∧ f.jf = 0) ∨ ((1 ≤ f.ja ∧ f.ja ≤ f.n ∧ 0 ≤ f.jt ∧ f.jt < f.ja ∧ f.jt < f.jf ∧ f.jf ≤ f.n) ∧ ¬ wi f.rs f.ja ∧ ¬ wi f.rs f.jt ∧ ¬ wi f.rs f.jf)
def okC (n : Int) (c : T3) : Prop := 0 ≤ c.a ∧ c.a < c.b ∧ c.b ≤ n ∧ 0 ≤ c.c ∧ c.c ≤ 20
structure Val (f : Fm) : Prop where
  n : 1 ≤ f.n ∧ f.n ≤ 4000
  rl : f.rs.length ≤ 100
  rs : chR f.n 0 f.rs
  el : f.es.length ≤ 100
  es : chE f.rs 0 f.es
  j : okJ f
  cl : f.cs.length ≤ 100
  cs : ∀ c ∈ f.cs, okC f.n c
  cd : f.cs.Nodup
  most : (whl f).length ≤ 20000
theorem chR_all {n : Int} : ∀ {last : Int} {l : List T3}, 0 ≤ last → chR n last l → ∀ x ∈ l, 0 ≤ x.a ∧ last ≤ x.a ∧ x.a < x.b ∧ x.b ≤ n ∧ 1 ≤ x.c ∧ x.c ≤ 9
  | _, [], _, _, x, hx => by cases hx
  | last, y :: l, h0, ⟨h1, h2⟩, x, hx => by
    rcases List.mem_cons.1 hx with rfl | hx
    · omega
    · have := chR_all (last := y.b) (by omega) h2 x hx
      omega
theorem Val.up {f : Fm} (h : Val f) : up f := fun x hx => (chR_all (Int.le_refl 0) h.rs x hx).2.2.1
end Fo
end Go.Proofs.YtahdlkdiadlgeaaGreat
