/- The walks of the reference's Of, Duration, Before, Position. -/
import Derived.Test.YthamkigdpgajaaaMa
namespace Go.Proofs.Ythamkigdpgajaaa
open Go.RowKit

set_option maxHeartbeats 800000 in
theorem kof_is (n : Nat) (N D : Int) (h1 : Mt.oN n = N) (h2 : Mt.oD n = D) (hm : n ≤ 1000000000000000) (w : World) :
    Calls Try.prog 28 #[.int .i64 (n : Int)] w fun e w' => e = .returned (.agg #[.int .i64 N, .int .i64 D]) ∧ Below w.heap.size w w' := by
  obtain ⟨g, hg⟩ : ∃ g, Nat.gcd n 1680 = g := ⟨_, rfl⟩
  have hg0 : 0 < g := by rw [← hg]; exact Nat.gcd_pos_of_pos_right _ (by omega)
  have hg1 : g ≤ 1680 := by rw [← hg]; exact Nat.gcd_le_right _ (by omega)
  unfold Mt.oN at h1
  unfold Mt.oD at h2
  rw [hg] at h1 h2
  have HC : Hid (∀ w', Calls Try.prog 44 #[.int .i64 (n : Int), .int .i64 1680] w' fun e w'' => e = .returned (.int .i64 (g : Int)) ∧ w' = w'') := Lib.hid (fun w' => kgcd_is n 1680 g hg hm (by omega) w')
  have q1 : (n : Int).tdiv (g : Int) = N := by rw [← h1]; rfl
  have q2 : (1680 : Int).tdiv (g : Int) = D := by rw [← h2]; rfl
  have q3 : (n : Int) / (g : Int) = N := by rw [← h1]; rfl
  have q4 : (1680 : Int) / (g : Int) = D := by rw [← h2]; rfl
  have b1 : 0 ≤ N := by rw [← h1]; exact Int.natCast_nonneg _
  have b2 : 0 ≤ D := by rw [← h2]; exact Int.natCast_nonneg _
  have b3 : N ≤ (n : Int) := by rw [← h1]; exact_mod_cast Nat.div_le_self n g
  have b4 : D ≤ 1680 := by rw [← h2]; have := Nat.div_le_self 1680 g; omega
  have gz : ¬ (g : Int) = 0 := by omega
  have G0 := (Below.refl w.heap.size w).alloc (Nat.le_refl _) (.cells #[.int .i64 0, .int .i64 0] 24)
  have V : Var2 (w.alloc (.cells #[.int .i64 0, .int .i64 0] 24)) w.heap.size 0 0 := Var2.new _ _ _ _
  clear h1 h2 hg
  go_enter Try.func28, Try.ntmps28
  go_wp2_with (first | (go_at_call 44; refine (HC.out _).mono ?_; rintro e w2 ⟨rfl, rfl⟩) | fail)
  generalize w.alloc (.cells #[.int .i64 0, .int .i64 0] 24) = w2 at *
  have hne := Ext.there w2
  refine Ext.tail 6 (by kernel_rfl) (by kernel_rfl) ?_
  simp only [List.take_succ_cons, List.take_zero, List.drop_succ_cons, List.drop_zero]
  repeat (go_big_quiet_step (fail))
  refine wpQuiet_nil ?_
  rintro _ ⟨xw, rfl⟩
  replace V := V.below xw.h
  have G1 := G0.trans (xw.h.mono G0.size)
  clear hne
  generalize xw.w = w3 at *
  clear xw
  obtain ⟨v0, v1, f0, f1⟩ := And.intro V.at2.c0 (And.intro V.at2.c1 (And.intro V.f0 V.f1))
  go_wp2_with fail
  refine bodyPost_ret (v := .agg #[.int .i64 N, .int .i64 D]) (by simp [results, Try.results28, go_sem, v0, v1]) rfl ⟨rfl, ?_⟩
  exact (G1.setCell (by simp <;> omega) _).setCell (by simp <;> omega) _

set_option maxHeartbeats 400000 in
theorem kduration_is (n d : Int) (f : Bool) (h : decide (0 ≤ Mt.tk n d) = f) (w : World) :
    Calls Try.prog 38 #[.agg #[.int .i64 n, .int .i64 d]] w fun e w' => e = .returned (.bool f) ∧ Below w.heap.size w w' := by
  obtain ⟨t, ht⟩ : ∃ t, Mt.tk n d = t := ⟨_, rfl⟩
  rw [ht] at h
  have HT := Lib.hid ht
  have HF := Lib.hid h
  have G0 := (Below.refl w.heap.size w).alloc (Nat.le_refl _) (.cells #[.int .i64 n, .int .i64 d] 24)
  clear ht h
  go_enter Try.func38, Try.ntmps38
  go_wp2_with (first | (go_at_call 31; refine (kticks_is n d t HT.out _).mono ?_; rintro e w2 ⟨rfl, hb⟩) | fail)
  go_ret
  exact ⟨by rw [← HF.out]; rfl, G0.trans (hb.mono G0.size)⟩

set_option maxHeartbeats 800000 in
theorem kbefore_is (l : List Mt.B) (k : Nat) (v : Int) (len cap : Nat) (A : Option Addr) (h : Mt.before l k = v) (hl : l.length = len) (hk : k ≤ len) (hok : ∀ b ∈ l, Mt.okB b) (hmax : len ≤ 4000) (w : World) (hL : SlB w A l) :
    Calls Try.prog 29 #[.slice A len cap, .int .i64 (k : Int)] w fun e w' => e = .returned (.int .i64 v) ∧ Below w.heap.size w w' := by
  have HV := Lib.hid h
  have HN := Lib.hid hl
  have HOK := Lib.hid hok
  have HL := Lib.hid hL
  clear h hl hok hL
  go_enter Try.func29, Try.ntmps29
  go_wp2_with fail
  go_loopw [5, 6] (fun s5 s6 wr => ∃ (i : Nat) (q z : Int), i ≤ k ∧ q = i ∧ s6 = .int .i64 q ∧ s5 = .int .i64 z ∧ 0 ≤ z ∧ z ≤ 40320 * q ∧ Hid (Mt.before l i = z) ∧ Below w.heap.size w wr) (fun _ s6 _ => k - (intOf s6).toNat)
  case atStart => exact ⟨0, 0, 0, Nat.zero_le _, rfl, rfl, rfl, by omega, by omega, Lib.hid rfl, Below.refl _ _⟩
  case round =>
    obtain ⟨i, q, z, hi, hq, rfl, rfl, z0, z1, HE, hG⟩ := hrel
    by_cases hlt : i < k
    · have hil : i < l.length := by rw [HN.out]; omega
      obtain ⟨bb, off, rfl, hbb, hc⟩ := HL.out (by omega)
      obtain ⟨_, c1, c2, _⟩ := hc i hil
      have x1 := (hG.cell (p := ⟨bb, off + i * 4 + 1, none⟩) hbb).trans c1
      have x2 := (hG.cell (p := ⟨bb, off + i * 4 + 2, none⟩) hbb).trans c2
      have ho := HOK.out _ (List.getElem_mem hil)
      have hbs := Mt.before_succ hil
      rw [← atB_eq hil] at ho hbs
      obtain ⟨_, _, t1, t2, _, _⟩ := ho
      obtain ⟨t, ht⟩ : ∃ t, Mt.bt (atB l i) = t := ⟨_, rfl⟩
      rw [ht] at t1 t2 hbs
      have HT : Hid (Mt.tk (atB l i).2.1 (atB l i).2.2.1 = t) := Lib.hid ht
      have HB : Hid (Mt.before l (i + 1) = z + t) := Lib.hid (by rw [hbs, HE.out])
      have hq1 : q < (k : Int) := by omega
      have hq3 : 0 ≤ q := by omega
      have hqn : q.toNat = i := by omega
      have hql : q < (len : Int) := by omega
      have hil2 : i < len := by omega
      have hq4 : q ≤ 4000 := by omega
      have HQ := Lib.hid hq
      clear hc c1 c2 hbs ht HE hil hq
      generalize (atB l i).2.1 = n at *
      generalize (atB l i).2.2.1 = d at *
      go_wp2_with (first | (go_at_call 31; refine (kticks_is n d t HT.out _).mono ?_; rintro e w2 ⟨rfl, hb⟩) | fail)
      go_roundw
      case rel => exact ⟨i + 1, q + 1, z + t, by omega, (by have := HQ.out; omega), rfl, rfl, by omega, by omega, HB, hG.trans (hb.mono hG.size)⟩
      case measure => have := HQ.out; simp [intOf]; omega
    · obtain rfl : i = k := by omega
      have hz : z = v := by rw [← HE.out, HV.out]
      subst hz
      have hq1 : ¬ q < (i : Int) := by omega
      clear hq
      go_wp2_with fail
      go_ret
      exact ⟨rfl, hG⟩

namespace Mt
/-- Is it a position in bars? -/
def posB (l : List B) (b n d : Int) : Bool := decide (0 ≤ b ∧ b ≤ (l.length : Int) ∧ 0 ≤ tk n d) && (if b = (l.length : Int) then decide (tk n d = 0) else decide (tk n d < bt (l[b.toNat]?.getD (0, 0, 0, 0))))
theorem posB_iff {l : List B} {b n d : Int} : posB l b n d = true ↔ 0 ≤ b ∧ pos l b.toNat (tk n d) := by
  unfold posB pos
  rw [Bool.and_eq_true, decide_eq_true_eq]
  by_cases h : b = (l.length : Int)
  · rw [if_pos h, decide_eq_true_eq]
    subst h
    rw [Int.toNat_natCast]
    constructor
    · rintro ⟨⟨h1, h2, h3⟩, h4⟩
      exact ⟨by omega, by omega, h3, fun _ => h4, fun h => absurd h (by omega)⟩
    · rintro ⟨h1, h2, h3, h4, h5⟩
      exact ⟨⟨by omega, by omega, h3⟩, h4 rfl⟩
  · rw [if_neg h, decide_eq_true_eq]
    constructor
    · rintro ⟨⟨h1, h2, h3⟩, h4⟩
      refine ⟨h1, by omega, h3, fun h5 => absurd (by omega) h, fun h5 => ?_⟩
      rw [List.getElem?_eq_getElem h5] at h4
      exact h4
    · rintro ⟨h1, h2, h3, h4, h5⟩
      have h6 : b.toNat < l.length := by omega
      refine ⟨⟨h1, by omega, h3⟩, ?_⟩
      rw [List.getElem?_eq_getElem h6]
      exact h5 h6
end Mt

set_option maxHeartbeats 800000 in
theorem kposition_is (l : List Mt.B) (b n d : Int) (f : Bool) (len cap : Nat) (A : Option Addr) (h : Mt.posB l b n d = f) (hl : l.length = len) (w : World) (hL : SlB w A l) :
    Calls Try.prog 22 #[.slice A len cap, .agg #[.int .i64 b, .int .i64 n, .int .i64 d]] w fun e w' => e = .returned (.bool f) ∧ Below w.heap.size w w' := by
  obtain ⟨t, ht⟩ : ∃ t, Mt.tk n d = t := ⟨_, rfl⟩
  unfold Mt.posB at h
  rw [ht, hl] at h
  have HT := Lib.hid ht
  have HN := Lib.hid hl
  have G0 := (Below.refl w.heap.size w).alloc (Nat.le_refl _) (.cells #[.int .i64 b, .int .i64 n, .int .i64 d] 26)
  have A3 : At3 (w.alloc (.cells #[.int .i64 b, .int .i64 n, .int .i64 d] 26)) w.heap.size b n d := At3.new _ _ _ _ _
  have HL := Lib.hid hL
  clear ht hl hL
  by_cases h1 : 0 ≤ b ∧ b ≤ (len : Int) ∧ 0 ≤ t
  · rw [decide_eq_true h1, Bool.true_and] at h
    obtain ⟨h2, h3, h4⟩ := h1
    have h2' : ¬ b < 0 := by omega
    have h3' : ¬ (len : Int) < b := by omega
    have h4' : ¬ t < 0 := by omega
    by_cases h5 : b = (len : Int)
    · rw [if_pos h5] at h
      have HF := Lib.hid h
      have h5' : (b == (len : Int)) = true := by simpa using h5
      clear h h5 h2 h3 h4
      go_enter Try.func22, Try.ntmps22
      go_wp2_with (first | (go_at_call 31; refine (kticks_is n d t HT.out _).mono ?_; rintro e w2 ⟨rfl, hb⟩; have B3 := A3.below hb; have c0 := B3.c0) | fail)
      go_ret
      exact ⟨by rw [← HF.out]; congr 2 <;> simp, G0.trans (hb.mono G0.size)⟩
    · rw [if_neg h5] at h
      have hbl : b.toNat < l.length := by rw [HN.out]; omega
      obtain ⟨bb, off, rfl, hbb, hc⟩ := HL.out (by omega)
      obtain ⟨_, c1, c2, _⟩ := hc _ hbl
      rw [show l[b.toNat]?.getD (0, 0, 0, 0) = atB l b.toNat from rfl] at h
      obtain ⟨u, hu⟩ : ∃ u, Mt.bt (atB l b.toNat) = u := ⟨_, rfl⟩
      rw [hu] at h
      have HU : Hid (Mt.tk (atB l b.toNat).2.1 (atB l b.toNat).2.2.1 = u) := Lib.hid hu
      have HF := Lib.hid h
      have h5' : (b == (len : Int)) = false := by simpa using h5
      have h6 : b < (len : Int) := by omega
      have h7 : b.toNat < len := by omega
      have HC := Lib.hid c1
      have HD := Lib.hid c2
      clear hc hu h c1 c2 hbl
      generalize (atB l b.toNat).2.1 = n2 at *
      generalize (atB l b.toNat).2.2.1 = d2 at *
      obtain ⟨j, hj⟩ : ∃ j, b.toNat = j := ⟨_, rfl⟩
      rw [hj] at HC HD h7
      clear h5 h3 h4
      go_enter Try.func22, Try.ntmps22
      go_wp2_with (first | (go_at_call 31; first | ((with_reducible refine (kticks_is n d t HT.out _).mono ?_); rintro e w2 ⟨rfl, hb⟩; have B3 := A3.below hb; have c0 := B3.c0; have G2 := G0.trans (hb.mono G0.size); have x1 := (G2.cell (p := ⟨bb, off + j * 4 + 1, none⟩) hbb).trans HC.out; have x2 := (G2.cell (p := ⟨bb, off + j * 4 + 2, none⟩) hbb).trans HD.out) | ((with_reducible refine (kticks_is n2 d2 u HU.out _).mono ?_); rintro e w4 ⟨rfl, hb4⟩)) | fail)
      go_ret
      exact ⟨by rw [← HF.out]; rfl, G2.trans (hb4.mono G2.size)⟩
  · rw [decide_eq_false h1, Bool.false_and] at h
    subst h
    by_cases h2 : b < 0
    · go_enter Try.func22, Try.ntmps22
      clear h1
      go_wp2_with (first | (go_at_call 31; refine (kticks_is n d t HT.out _).mono ?_; rintro e w2 ⟨rfl, hb⟩; have B3 := A3.below hb; have c0 := B3.c0) | fail)
      go_ret
      exact ⟨rfl, G0.trans (hb.mono G0.size)⟩
    · by_cases h3 : (len : Int) < b
      · go_enter Try.func22, Try.ntmps22
        clear h1
        go_wp2_with (first | (go_at_call 31; refine (kticks_is n d t HT.out _).mono ?_; rintro e w2 ⟨rfl, hb⟩; have B3 := A3.below hb; have c0 := B3.c0) | fail)
        go_ret
        exact ⟨rfl, G0.trans (hb.mono G0.size)⟩
      · have h4 : t < 0 := by omega
        go_enter Try.func22, Try.ntmps22
        clear h1
        go_wp2_with (first | (go_at_call 31; refine (kticks_is n d t HT.out _).mono ?_; rintro e w2 ⟨rfl, hb⟩; have B3 := A3.below hb; have c0 := B3.c0) | fail)
        go_ret
        exact ⟨rfl, G0.trans (hb.mono G0.size)⟩
end Go.Proofs.Ythamkigdpgajaaa
