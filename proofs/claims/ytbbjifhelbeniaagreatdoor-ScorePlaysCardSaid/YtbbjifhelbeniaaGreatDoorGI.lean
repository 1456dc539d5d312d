import Derived.Test.YtbbjifhelbeniaaGreatDoorGE
import Derived.Test.YtbbjifhelbeniaaGreatDoorGH
import Derived.Test.YtbbjifhelbeniaaGreatDoorGG
/- The walks of notes' isPitch, isTime, isNote. -/
namespace Go.Proofs.YtbbjifhelbeniaaGreatDoor
open Go.RowKit

theorem pvalid_b (s a o : Int) (v : Bool) (hv : decide ((0 ≤ s ∧ s ≤ 6) ∧ (-4 ≤ a ∧ a ≤ 4) ∧ (-8 ≤ o ∧ o ≤ 20)) = v) (w : World) :
    Calls Tryz.prog 111 #[.agg #[.int .i64 s, .int .i64 a, .int .i64 o]] w fun e w' => e = .returned (.bool v) ∧ Below w.heap.size w w' :=
  (pvalid_is s a o v hv w).mono fun _ _ h => ⟨h.1, h.2.b⟩

set_option maxHeartbeats 800000 in
theorem tispitch_is (s a o : Int) (f : Bool) (h : f = true ↔ No.isN s a o) (w : World) :
    Calls Tryz.prog 116 #[.agg #[.int .i64 s, .int .i64 a, .int .i64 o]] w fun e w' => e = .returned (.bool f) ∧ Below w.heap.size w w' := by
  have G0 := (Below.refl w.heap.size w).alloc (Nat.le_refl _) (.cells #[.int .i64 s, .int .i64 a, .int .i64 o] 47)
  have A0 : At3 (w.alloc (.cells #[.int .i64 s, .int .i64 a, .int .i64 o] 47)) w.heap.size s a o := At3.new _ _ _ _ _
  obtain ⟨g1, h1⟩ : ∃ g, decide ((0 ≤ s ∧ s ≤ 6) ∧ (-4 ≤ a ∧ a ≤ 4) ∧ (-8 ≤ o ∧ o ≤ 20)) = g := ⟨_, rfl⟩
  obtain ⟨g2, h2⟩ : ∃ g, decide (-2 ≤ a ∧ a ≤ 2) = g := ⟨_, rfl⟩
  obtain ⟨g3, h3⟩ : ∃ g, decide (0 ≤ o ∧ o ≤ 9) = g := ⟨_, rfl⟩
  obtain rfl : f = (g1 && g2 && g3) := by
    rw [Bool.eq_iff_iff, h, ← h1, ← h2, ← h3]
    unfold No.isN
    simp only [Bool.and_eq_true, decide_eq_true_eq]
    omega
  have H1 := Lib.hid h1
  have H2 := Lib.hid h2
  have H3 := Lib.hid h3
  clear h h1 h2 h3
  cases g1 with
  | false =>
    go_enter Tryz.func116, Tryz.ntmps116
    go_wp2_with fail
    refine (pvalid_b s a o false H1.out _).mono ?_; rintro e w1 ⟨rfl, hb⟩
    have A1 := A0.below hb
    have G1 := G0.trans (hb.mono G0.size)
    clear hb A0
    have c0_0 := A1.c0
    have c0_1 := A1.c1
    have c0_2 := A1.c2
    go_wp2_with fail
    clear c0_0 c0_1 c0_2
    go_ret
    exact ⟨by simp, G1⟩
  | true =>
    cases g2 with
    | false =>
      go_enter Tryz.func116, Tryz.ntmps116
      go_wp2_with fail
      refine (pvalid_b s a o true H1.out _).mono ?_; rintro e w1 ⟨rfl, hb⟩
      have A1 := A0.below hb
      have G1 := G0.trans (hb.mono G0.size)
      clear hb A0
      have c0_0 := A1.c0
      have c0_1 := A1.c1
      have c0_2 := A1.c2
      go_wp2_with fail
      clear c0_0 c0_1 c0_2
      refine (tbetween_is a (-2) 2 false H2.out _).mono ?_; rintro e w2 ⟨rfl, hb⟩
      have A2 := A1.below hb
      have G2 := G1.trans (hb.mono G1.size)
      clear hb A1
      have c0_0 := A2.c0
      have c0_1 := A2.c1
      have c0_2 := A2.c2
      go_wp2_with fail
      clear c0_0 c0_1 c0_2
      go_ret
      exact ⟨by simp, G2⟩
    | true =>
      cases g3 with
      | false =>
        go_enter Tryz.func116, Tryz.ntmps116
        go_wp2_with fail
        refine (pvalid_b s a o true H1.out _).mono ?_; rintro e w1 ⟨rfl, hb⟩
        have A1 := A0.below hb
        have G1 := G0.trans (hb.mono G0.size)
        clear hb A0
        have c0_0 := A1.c0
        have c0_1 := A1.c1
        have c0_2 := A1.c2
        go_wp2_with fail
        clear c0_0 c0_1 c0_2
        refine (tbetween_is a (-2) 2 true H2.out _).mono ?_; rintro e w2 ⟨rfl, hb⟩
        have A2 := A1.below hb
        have G2 := G1.trans (hb.mono G1.size)
        clear hb A1
        have c0_0 := A2.c0
        have c0_1 := A2.c1
        have c0_2 := A2.c2
        go_wp2_with fail
        clear c0_0 c0_1 c0_2
        refine (tbetween_is o 0 9 false H3.out _).mono ?_; rintro e w3 ⟨rfl, hb⟩
        have A3 := A2.below hb
        have G3 := G2.trans (hb.mono G2.size)
        clear hb A2
        have c0_0 := A3.c0
        have c0_1 := A3.c1
        have c0_2 := A3.c2
        go_wp2_with fail
        clear c0_0 c0_1 c0_2
        go_ret
        exact ⟨by simp, G3⟩
      | true =>
        go_enter Tryz.func116, Tryz.ntmps116
        go_wp2_with fail
        refine (pvalid_b s a o true H1.out _).mono ?_; rintro e w1 ⟨rfl, hb⟩
        have A1 := A0.below hb
        have G1 := G0.trans (hb.mono G0.size)
        clear hb A0
        have c0_0 := A1.c0
        have c0_1 := A1.c1
        have c0_2 := A1.c2
        go_wp2_with fail
        clear c0_0 c0_1 c0_2
        refine (tbetween_is a (-2) 2 true H2.out _).mono ?_; rintro e w2 ⟨rfl, hb⟩
        have A2 := A1.below hb
        have G2 := G1.trans (hb.mono G1.size)
        clear hb A1
        have c0_0 := A2.c0
        have c0_1 := A2.c1
        have c0_2 := A2.c2
        go_wp2_with fail
        clear c0_0 c0_1 c0_2
        refine (tbetween_is o 0 9 true H3.out _).mono ?_; rintro e w3 ⟨rfl, hb⟩
        have A3 := A2.below hb
        have G3 := G2.trans (hb.mono G2.size)
        clear hb A2
        have c0_0 := A3.c0
        have c0_1 := A3.c1
        have c0_2 := A3.c2
        go_wp2_with fail
        clear c0_0 c0_1 c0_2
        go_ret
        exact ⟨rfl, G3⟩

set_option maxHeartbeats 1600000 in
theorem tistime_is (n : No.Nt) (b0 b1 b2 b3 T : Int) (f : Bool) (h : f = true ↔ (0 ≤ No.start n ∧ 0 < No.leng n ∧ No.start n + No.leng n ≤ T)) (hT : Mt.tk b1 b2 = T) (hT0 : 0 ≤ T) (w : World) :
    Calls Tryz.prog 115 #[.agg #[.int .i64 n.id, .int .i64 n.pa, .int .i64 n.ba, .int .i64 n.vo, .int .i64 n.os, .int .i64 n.sn, .int .i64 n.sd, .int .i64 n.ln, .int .i64 n.ld, .int .i64 n.st, .int .i64 n.al, .int .i64 n.oc], .agg #[.int .i64 b0, .int .i64 b1, .int .i64 b2, .int .i64 b3]] w fun e w' => e = .returned (.bool f) ∧ Below w.heap.size w w' := by
  have G0 : Below w.heap.size w ((w.alloc (.cells #[.int .i64 n.id, .int .i64 n.pa, .int .i64 n.ba, .int .i64 n.vo, .int .i64 n.os, .int .i64 n.sn, .int .i64 n.sd, .int .i64 n.ln, .int .i64 n.ld, .int .i64 n.st, .int .i64 n.al, .int .i64 n.oc] 51)).alloc (.cells #[.int .i64 b0, .int .i64 b1, .int .i64 b2, .int .i64 b3] 43)) := ((Below.refl w.heap.size w).alloc (Nat.le_refl _) _).alloc (by simp) _
  have A0 : NtB ((w.alloc (.cells #[.int .i64 n.id, .int .i64 n.pa, .int .i64 n.ba, .int .i64 n.vo, .int .i64 n.os, .int .i64 n.sn, .int .i64 n.sd, .int .i64 n.ln, .int .i64 n.ld, .int .i64 n.st, .int .i64 n.al, .int .i64 n.oc] 51)).alloc (.cells #[.int .i64 b0, .int .i64 b1, .int .i64 b2, .int .i64 b3] 43)) w.heap.size n := (NtB.new w n).alloc _
  have B0 : At4 ((w.alloc (.cells #[.int .i64 n.id, .int .i64 n.pa, .int .i64 n.ba, .int .i64 n.vo, .int .i64 n.os, .int .i64 n.sn, .int .i64 n.sd, .int .i64 n.ln, .int .i64 n.ld, .int .i64 n.st, .int .i64 n.al, .int .i64 n.oc] 51)).alloc (.cells #[.int .i64 b0, .int .i64 b1, .int .i64 b2, .int .i64 b3] 43)) (w.heap.size + 1) b0 b1 b2 b3 := by
    have h := At4.new (w.alloc (.cells #[.int .i64 n.id, .int .i64 n.pa, .int .i64 n.ba, .int .i64 n.vo, .int .i64 n.os, .int .i64 n.sn, .int .i64 n.sd, .int .i64 n.ln, .int .i64 n.ld, .int .i64 n.st, .int .i64 n.al, .int .i64 n.oc] 51)) b0 b1 b2 b3 43
    simpa only [World.size_alloc] using h
  unfold No.start No.leng at h
  obtain ⟨t, ht⟩ : ∃ t, Mt.tk n.sn n.sd = t := ⟨_, rfl⟩
  obtain ⟨u, hu⟩ : ∃ u, Mt.tk n.ln n.ld = u := ⟨_, rfl⟩
  have htl := Mt.tk_le n.sn n.sd
  have hul := Mt.tk_le n.ln n.ld
  have hTl := Mt.tk_le b1 b2
  rw [ht] at htl
  rw [hu] at hul
  rw [hT] at hTl
  obtain ⟨g1, h1⟩ : ∃ g, decide (0 ≤ Mt.tk n.sn n.sd) = g := ⟨_, rfl⟩
  obtain ⟨g2, h2⟩ : ∃ g, decide (0 ≤ Mt.tk n.ln n.ld) = g := ⟨_, rfl⟩
  have hz : 0 ≤ u → ((n.ln == 0) = true ↔ u = 0) := fun h0 => by
    have e := Mt.tk_val (n := n.ln) (d := n.ld) (by rw [hu]; exact h0)
    have e2 := Mt.tk_pos_n (n := n.ln) (d := n.ld) (by rw [hu]; exact h0)
    rw [hu] at e e2
    rw [beq_iff_eq]
    omega
  have H1 := Lib.hid h1
  have H2 := Lib.hid h2
  have HT := Lib.hid ht
  have HU := Lib.hid hu
  have HB := Lib.hid hT
  rw [ht] at h1 h
  rw [hu] at h2 h
  have HF := Lib.hid h
  clear hT ht hu h
  cases g1 with
  | false =>
    obtain rfl : f = false := by
      cases f with
      | false => rfl
      | true => exact absurd (HF.out.1 rfl).1 (of_decide_eq_false h1)
    clear h1 h2 hz
    go_enter Tryz.func115, Tryz.ntmps115
    go_wp2_with fail
    refine (mduration_is n.sn n.sd false H1.out _).mono ?_; rintro e w1 ⟨rfl, hb⟩
    have A1 := A0.below hb
    have B1 := B0.below hb
    have G1 := G0.trans (hb.mono G0.size)
    clear hb A0 B0
    have c0_0 := A1.c0
    have c0_1 := A1.c1
    have c0_2 := A1.c2
    have c0_3 := A1.c3
    have c0_4 := A1.c4
    have c0_5 := A1.c5
    have c0_6 := A1.c6
    have c0_7 := A1.c7
    have c0_8 := A1.c8
    have c0_9 := A1.c9
    have c0_10 := A1.c10
    have c0_11 := A1.c11
    have c1_0 := B1.c0
    have c1_1 := B1.c1
    have c1_2 := B1.c2
    have c1_3 := B1.c3
    go_wp2_with fail
    clear c0_0 c0_1 c0_2 c0_3 c0_4 c0_5 c0_6 c0_7 c0_8 c0_9 c0_10 c0_11 c1_0 c1_1 c1_2 c1_3
    go_ret
    exact ⟨rfl, G1⟩
  | true =>
  have ht0 : 0 ≤ t := of_decide_eq_true h1
  cases g2 with
  | false =>
    obtain rfl : f = false := by
      cases f with
      | false => rfl
      | true => exact absurd (Int.le_of_lt (HF.out.1 rfl).2.1) (of_decide_eq_false h2)
    clear h1 h2 hz
    go_enter Tryz.func115, Tryz.ntmps115
    go_wp2_with fail
    refine (mduration_is n.sn n.sd true H1.out _).mono ?_; rintro e w1 ⟨rfl, hb⟩
    have A1 := A0.below hb
    have B1 := B0.below hb
    have G1 := G0.trans (hb.mono G0.size)
    clear hb A0 B0
    have c0_0 := A1.c0
    have c0_1 := A1.c1
    have c0_2 := A1.c2
    have c0_3 := A1.c3
    have c0_4 := A1.c4
    have c0_5 := A1.c5
    have c0_6 := A1.c6
    have c0_7 := A1.c7
    have c0_8 := A1.c8
    have c0_9 := A1.c9
    have c0_10 := A1.c10
    have c0_11 := A1.c11
    have c1_0 := B1.c0
    have c1_1 := B1.c1
    have c1_2 := B1.c2
    have c1_3 := B1.c3
    go_wp2_with fail
    clear c0_0 c0_1 c0_2 c0_3 c0_4 c0_5 c0_6 c0_7 c0_8 c0_9 c0_10 c0_11 c1_0 c1_1 c1_2 c1_3
    refine (mduration_is n.ln n.ld false H2.out _).mono ?_; rintro e w2 ⟨rfl, hb⟩
    have A2 := A1.below hb
    have B2 := B1.below hb
    have G2 := G1.trans (hb.mono G1.size)
    clear hb A1 B1
    have c0_0 := A2.c0
    have c0_1 := A2.c1
    have c0_2 := A2.c2
    have c0_3 := A2.c3
    have c0_4 := A2.c4
    have c0_5 := A2.c5
    have c0_6 := A2.c6
    have c0_7 := A2.c7
    have c0_8 := A2.c8
    have c0_9 := A2.c9
    have c0_10 := A2.c10
    have c0_11 := A2.c11
    have c1_0 := B2.c0
    have c1_1 := B2.c1
    have c1_2 := B2.c2
    have c1_3 := B2.c3
    go_wp2_with fail
    clear c0_0 c0_1 c0_2 c0_3 c0_4 c0_5 c0_6 c0_7 c0_8 c0_9 c0_10 c0_11 c1_0 c1_1 c1_2 c1_3
    go_ret
    exact ⟨rfl, G2⟩
  | true =>
  have hu0 : 0 ≤ u := of_decide_eq_true h2
  have hz2 := hz hu0
  obtain ⟨z, hzz⟩ : ∃ z, (n.ln == 0) = z := ⟨_, rfl⟩
  rw [hzz] at hz2
  clear h1 h2 hz
  cases z with
  | true =>
    obtain rfl : f = false := by
      cases f with
      | false => rfl
      | true => have := (HF.out.1 rfl).2.1; have := hz2.1 rfl; omega
    clear hz2
    go_enter Tryz.func115, Tryz.ntmps115
    go_wp2_with fail
    refine (mduration_is n.sn n.sd true H1.out _).mono ?_; rintro e w1 ⟨rfl, hb⟩
    have A1 := A0.below hb
    have B1 := B0.below hb
    have G1 := G0.trans (hb.mono G0.size)
    clear hb A0 B0
    have c0_0 := A1.c0
    have c0_1 := A1.c1
    have c0_2 := A1.c2
    have c0_3 := A1.c3
    have c0_4 := A1.c4
    have c0_5 := A1.c5
    have c0_6 := A1.c6
    have c0_7 := A1.c7
    have c0_8 := A1.c8
    have c0_9 := A1.c9
    have c0_10 := A1.c10
    have c0_11 := A1.c11
    have c1_0 := B1.c0
    have c1_1 := B1.c1
    have c1_2 := B1.c2
    have c1_3 := B1.c3
    go_wp2_with fail
    clear c0_0 c0_1 c0_2 c0_3 c0_4 c0_5 c0_6 c0_7 c0_8 c0_9 c0_10 c0_11 c1_0 c1_1 c1_2 c1_3
    refine (mduration_is n.ln n.ld true H2.out _).mono ?_; rintro e w2 ⟨rfl, hb⟩
    have A2 := A1.below hb
    have B2 := B1.below hb
    have G2 := G1.trans (hb.mono G1.size)
    clear hb A1 B1
    have c0_0 := A2.c0
    have c0_1 := A2.c1
    have c0_2 := A2.c2
    have c0_3 := A2.c3
    have c0_4 := A2.c4
    have c0_5 := A2.c5
    have c0_6 := A2.c6
    have c0_7 := A2.c7
    have c0_8 := A2.c8
    have c0_9 := A2.c9
    have c0_10 := A2.c10
    have c0_11 := A2.c11
    have c1_0 := B2.c0
    have c1_1 := B2.c1
    have c1_2 := B2.c2
    have c1_3 := B2.c3
    go_wp2_with fail
    clear c0_0 c0_1 c0_2 c0_3 c0_4 c0_5 c0_6 c0_7 c0_8 c0_9 c0_10 c0_11 c1_0 c1_1 c1_2 c1_3
    go_ret
    exact ⟨rfl, G2⟩
  | false =>
    have hu1 : 0 < u := by
      rcases Int.lt_or_eq_of_le hu0 with e | e
      · exact e
      · exact absurd (hz2.2 e.symm) (by decide)
    obtain ⟨v, hv⟩ : ∃ v, decide (t + u ≤ T) = v := ⟨_, rfl⟩
    obtain rfl : f = v := by
      rw [Bool.eq_iff_iff, HF.out, ← hv, decide_eq_true_eq]
      omega
    clear hz2
    go_enter Tryz.func115, Tryz.ntmps115
    go_wp2_with fail
    refine (mduration_is n.sn n.sd true H1.out _).mono ?_; rintro e w1 ⟨rfl, hb⟩
    have A1 := A0.below hb
    have B1 := B0.below hb
    have G1 := G0.trans (hb.mono G0.size)
    clear hb A0 B0
    have c0_0 := A1.c0
    have c0_1 := A1.c1
    have c0_2 := A1.c2
    have c0_3 := A1.c3
    have c0_4 := A1.c4
    have c0_5 := A1.c5
    have c0_6 := A1.c6
    have c0_7 := A1.c7
    have c0_8 := A1.c8
    have c0_9 := A1.c9
    have c0_10 := A1.c10
    have c0_11 := A1.c11
    have c1_0 := B1.c0
    have c1_1 := B1.c1
    have c1_2 := B1.c2
    have c1_3 := B1.c3
    go_wp2_with fail
    clear c0_0 c0_1 c0_2 c0_3 c0_4 c0_5 c0_6 c0_7 c0_8 c0_9 c0_10 c0_11 c1_0 c1_1 c1_2 c1_3
    refine (mduration_is n.ln n.ld true H2.out _).mono ?_; rintro e w2 ⟨rfl, hb⟩
    have A2 := A1.below hb
    have B2 := B1.below hb
    have G2 := G1.trans (hb.mono G1.size)
    clear hb A1 B1
    have c0_0 := A2.c0
    have c0_1 := A2.c1
    have c0_2 := A2.c2
    have c0_3 := A2.c3
    have c0_4 := A2.c4
    have c0_5 := A2.c5
    have c0_6 := A2.c6
    have c0_7 := A2.c7
    have c0_8 := A2.c8
    have c0_9 := A2.c9
    have c0_10 := A2.c10
    have c0_11 := A2.c11
    have c1_0 := B2.c0
    have c1_1 := B2.c1
    have c1_2 := B2.c2
    have c1_3 := B2.c3
    go_wp2_with fail
    have hv2 := hv
    generalize hwq : w2 = wq at *
    have x5 := fun x : Ext wq => x.cell A2.c5
    have x6 := fun x : Ext wq => x.cell A2.c6
    have x7 := fun x : Ext wq => x.cell A2.c7
    have x8 := fun x : Ext wq => x.cell A2.c8
    have y1 := fun x : Ext wq => x.cell B2.c1
    have y2 := fun x : Ext wq => x.cell B2.c2
    have hne := Ext.there wq
    clear c0_0 c0_1 c0_2 c0_3 c0_4 c0_5 c0_6 c0_7 c0_8 c0_9 c0_10 c0_11 c1_0 c1_1 c1_2 c1_3
    refine Ext.region (by kernel_rfl) (by kernel_rfl) ?_
    repeat (go_big_quiet_step ((go_at_call 102; first | (with_reducible exact Ext.call _ (munits_is n.sn n.sd t HT.out ht0 _)) | (with_reducible exact Ext.call _ (munits_is n.ln n.ld u HU.out hu0 _)) | (with_reducible exact Ext.call _ (munits_is b1 b2 T HB.out hT0 _)))))
    refine wpQuiet_nil ?_
    rintro _ ⟨xw, rfl⟩
    have G3 := G2.trans (xw.h.mono G2.size)
    clear x5 x6 x7 x8 y1 y2 hne
    generalize xw.w = w3 at *
    clear xw
    go_wp2_with fail
    go_ret
    exact ⟨by rw [← hv2]; rfl, G3⟩

set_option maxHeartbeats 1600000 in
theorem tisnote_is (n : No.Nt) (b0 b1 b2 b3 T : Int) (f : Bool) (h : f = true ↔ (No.isN n.st n.al n.oc ∧ (1 ≤ n.id ∧ n.id ≤ 1000000) ∧ (1 ≤ n.pa ∧ n.pa ≤ 1000000) ∧ (0 ≤ n.vo ∧ n.vo ≤ 9) ∧ (0 ≤ n.os ∧ n.os ≤ 20) ∧ 0 ≤ No.start n ∧ 0 < No.leng n ∧ No.start n + No.leng n ≤ T)) (hT : Mt.tk b1 b2 = T) (hT0 : 0 ≤ T) (w : World) :
    Calls Tryz.prog 95 #[.agg #[.int .i64 n.id, .int .i64 n.pa, .int .i64 n.ba, .int .i64 n.vo, .int .i64 n.os, .int .i64 n.sn, .int .i64 n.sd, .int .i64 n.ln, .int .i64 n.ld, .int .i64 n.st, .int .i64 n.al, .int .i64 n.oc], .agg #[.int .i64 b0, .int .i64 b1, .int .i64 b2, .int .i64 b3]] w fun e w' => e = .returned (.bool f) ∧ Below w.heap.size w w' := by
  have G0 : Below w.heap.size w ((w.alloc (.cells #[.int .i64 n.id, .int .i64 n.pa, .int .i64 n.ba, .int .i64 n.vo, .int .i64 n.os, .int .i64 n.sn, .int .i64 n.sd, .int .i64 n.ln, .int .i64 n.ld, .int .i64 n.st, .int .i64 n.al, .int .i64 n.oc] 51)).alloc (.cells #[.int .i64 b0, .int .i64 b1, .int .i64 b2, .int .i64 b3] 43)) := ((Below.refl w.heap.size w).alloc (Nat.le_refl _) _).alloc (by simp) _
  have A0 : NtB ((w.alloc (.cells #[.int .i64 n.id, .int .i64 n.pa, .int .i64 n.ba, .int .i64 n.vo, .int .i64 n.os, .int .i64 n.sn, .int .i64 n.sd, .int .i64 n.ln, .int .i64 n.ld, .int .i64 n.st, .int .i64 n.al, .int .i64 n.oc] 51)).alloc (.cells #[.int .i64 b0, .int .i64 b1, .int .i64 b2, .int .i64 b3] 43)) w.heap.size n := (NtB.new w n).alloc _
  have B0 : At4 ((w.alloc (.cells #[.int .i64 n.id, .int .i64 n.pa, .int .i64 n.ba, .int .i64 n.vo, .int .i64 n.os, .int .i64 n.sn, .int .i64 n.sd, .int .i64 n.ln, .int .i64 n.ld, .int .i64 n.st, .int .i64 n.al, .int .i64 n.oc] 51)).alloc (.cells #[.int .i64 b0, .int .i64 b1, .int .i64 b2, .int .i64 b3] 43)) (w.heap.size + 1) b0 b1 b2 b3 := by
    have h := At4.new (w.alloc (.cells #[.int .i64 n.id, .int .i64 n.pa, .int .i64 n.ba, .int .i64 n.vo, .int .i64 n.os, .int .i64 n.sn, .int .i64 n.sd, .int .i64 n.ln, .int .i64 n.ld, .int .i64 n.st, .int .i64 n.al, .int .i64 n.oc] 51)) b0 b1 b2 b3 43
    simpa only [World.size_alloc] using h
  obtain ⟨g1, h1⟩ : ∃ g, decide (1 ≤ n.id ∧ n.id ≤ 1000000) = g := ⟨_, rfl⟩
  obtain ⟨g2, h2⟩ : ∃ g, decide (1 ≤ n.pa ∧ n.pa ≤ 1000000) = g := ⟨_, rfl⟩
  obtain ⟨g3, h3⟩ : ∃ g, decide (0 ≤ n.vo ∧ n.vo ≤ 9) = g := ⟨_, rfl⟩
  obtain ⟨g4, h4⟩ : ∃ g, decide (0 ≤ n.os ∧ n.os ≤ 20) = g := ⟨_, rfl⟩
  obtain ⟨g5, h5⟩ : ∃ g : Bool, g = true ↔ (0 ≤ No.start n ∧ 0 < No.leng n ∧ No.start n + No.leng n ≤ T) := by classical exact ⟨decide (0 ≤ No.start n ∧ 0 < No.leng n ∧ No.start n + No.leng n ≤ T), by simp⟩
  obtain ⟨g6, h6⟩ : ∃ g : Bool, g = true ↔ No.isN n.st n.al n.oc := by classical exact ⟨decide (No.isN n.st n.al n.oc), by simp⟩
  obtain rfl : f = (g1 && g2 && g3 && g4 && g5 && g6) := by
    rw [Bool.eq_iff_iff, h, ← h1, ← h2, ← h3, ← h4]
    simp only [Bool.and_eq_true, decide_eq_true_eq, h5, h6, and_assoc]
    constructor
    · rintro ⟨a, b1, b2, c1, c2, d1, d2, e1, e2, x, y, z⟩; exact ⟨b1, b2, c1, c2, d1, d2, e1, e2, x, y, z, a⟩
    · rintro ⟨b1, b2, c1, c2, d1, d2, e1, e2, x, y, z, a⟩; exact ⟨a, b1, b2, c1, c2, d1, d2, e1, e2, x, y, z⟩
  have H1 := Lib.hid h1
  have H2 := Lib.hid h2
  have H3 := Lib.hid h3
  have H4 := Lib.hid h4
  have H5 := Lib.hid h5
  have H6 := Lib.hid h6
  have HT := Lib.hid hT
  clear h h1 h2 h3 h4 h5 h6 hT
  cases g1 with
  | false =>
    go_enter Tryz.func95, Tryz.ntmps95
    go_wp2_with fail
    refine (tisid_is n.id false H1.out _).mono ?_; rintro e w1 ⟨rfl, hb⟩
    have A1 := A0.below hb
    have B1 := B0.below hb
    have G1 := G0.trans (hb.mono G0.size)
    clear hb A0 B0
    have c0_0 := A1.c0
    have c0_1 := A1.c1
    have c0_2 := A1.c2
    have c0_3 := A1.c3
    have c0_4 := A1.c4
    have c0_5 := A1.c5
    have c0_6 := A1.c6
    have c0_7 := A1.c7
    have c0_8 := A1.c8
    have c0_9 := A1.c9
    have c0_10 := A1.c10
    have c0_11 := A1.c11
    have c1_0 := B1.c0
    have c1_1 := B1.c1
    have c1_2 := B1.c2
    have c1_3 := B1.c3
    go_wp2_with fail
    clear c0_0 c0_1 c0_2 c0_3 c0_4 c0_5 c0_6 c0_7 c0_8 c0_9 c0_10 c0_11 c1_0 c1_1 c1_2 c1_3
    go_ret
    exact ⟨by simp, G1⟩
  | true =>
    cases g2 with
    | false =>
      go_enter Tryz.func95, Tryz.ntmps95
      go_wp2_with fail
      refine (tisid_is n.id true H1.out _).mono ?_; rintro e w1 ⟨rfl, hb⟩
      have A1 := A0.below hb
      have B1 := B0.below hb
      have G1 := G0.trans (hb.mono G0.size)
      clear hb A0 B0
      have c0_0 := A1.c0
      have c0_1 := A1.c1
      have c0_2 := A1.c2
      have c0_3 := A1.c3
      have c0_4 := A1.c4
      have c0_5 := A1.c5
      have c0_6 := A1.c6
      have c0_7 := A1.c7
      have c0_8 := A1.c8
      have c0_9 := A1.c9
      have c0_10 := A1.c10
      have c0_11 := A1.c11
      have c1_0 := B1.c0
      have c1_1 := B1.c1
      have c1_2 := B1.c2
      have c1_3 := B1.c3
      go_wp2_with fail
      clear c0_0 c0_1 c0_2 c0_3 c0_4 c0_5 c0_6 c0_7 c0_8 c0_9 c0_10 c0_11 c1_0 c1_1 c1_2 c1_3
      refine (tisid_is n.pa false H2.out _).mono ?_; rintro e w2 ⟨rfl, hb⟩
      have A2 := A1.below hb
      have B2 := B1.below hb
      have G2 := G1.trans (hb.mono G1.size)
      clear hb A1 B1
      have c0_0 := A2.c0
      have c0_1 := A2.c1
      have c0_2 := A2.c2
      have c0_3 := A2.c3
      have c0_4 := A2.c4
      have c0_5 := A2.c5
      have c0_6 := A2.c6
      have c0_7 := A2.c7
      have c0_8 := A2.c8
      have c0_9 := A2.c9
      have c0_10 := A2.c10
      have c0_11 := A2.c11
      have c1_0 := B2.c0
      have c1_1 := B2.c1
      have c1_2 := B2.c2
      have c1_3 := B2.c3
      go_wp2_with fail
      clear c0_0 c0_1 c0_2 c0_3 c0_4 c0_5 c0_6 c0_7 c0_8 c0_9 c0_10 c0_11 c1_0 c1_1 c1_2 c1_3
      go_ret
      exact ⟨by simp, G2⟩
    | true =>
      cases g3 with
      | false =>
        go_enter Tryz.func95, Tryz.ntmps95
        go_wp2_with fail
        refine (tisid_is n.id true H1.out _).mono ?_; rintro e w1 ⟨rfl, hb⟩
        have A1 := A0.below hb
        have B1 := B0.below hb
        have G1 := G0.trans (hb.mono G0.size)
        clear hb A0 B0
        have c0_0 := A1.c0
        have c0_1 := A1.c1
        have c0_2 := A1.c2
        have c0_3 := A1.c3
        have c0_4 := A1.c4
        have c0_5 := A1.c5
        have c0_6 := A1.c6
        have c0_7 := A1.c7
        have c0_8 := A1.c8
        have c0_9 := A1.c9
        have c0_10 := A1.c10
        have c0_11 := A1.c11
        have c1_0 := B1.c0
        have c1_1 := B1.c1
        have c1_2 := B1.c2
        have c1_3 := B1.c3
        go_wp2_with fail
        clear c0_0 c0_1 c0_2 c0_3 c0_4 c0_5 c0_6 c0_7 c0_8 c0_9 c0_10 c0_11 c1_0 c1_1 c1_2 c1_3
        refine (tisid_is n.pa true H2.out _).mono ?_; rintro e w2 ⟨rfl, hb⟩
        have A2 := A1.below hb
        have B2 := B1.below hb
        have G2 := G1.trans (hb.mono G1.size)
        clear hb A1 B1
        have c0_0 := A2.c0
        have c0_1 := A2.c1
        have c0_2 := A2.c2
        have c0_3 := A2.c3
        have c0_4 := A2.c4
        have c0_5 := A2.c5
        have c0_6 := A2.c6
        have c0_7 := A2.c7
        have c0_8 := A2.c8
        have c0_9 := A2.c9
        have c0_10 := A2.c10
        have c0_11 := A2.c11
        have c1_0 := B2.c0
        have c1_1 := B2.c1
        have c1_2 := B2.c2
        have c1_3 := B2.c3
        go_wp2_with fail
        clear c0_0 c0_1 c0_2 c0_3 c0_4 c0_5 c0_6 c0_7 c0_8 c0_9 c0_10 c0_11 c1_0 c1_1 c1_2 c1_3
        refine (tbetween_is n.vo 0 9 false H3.out _).mono ?_; rintro e w3 ⟨rfl, hb⟩
        have A3 := A2.below hb
        have B3 := B2.below hb
        have G3 := G2.trans (hb.mono G2.size)
        clear hb A2 B2
        have c0_0 := A3.c0
        have c0_1 := A3.c1
        have c0_2 := A3.c2
        have c0_3 := A3.c3
        have c0_4 := A3.c4
        have c0_5 := A3.c5
        have c0_6 := A3.c6
        have c0_7 := A3.c7
        have c0_8 := A3.c8
        have c0_9 := A3.c9
        have c0_10 := A3.c10
        have c0_11 := A3.c11
        have c1_0 := B3.c0
        have c1_1 := B3.c1
        have c1_2 := B3.c2
        have c1_3 := B3.c3
        go_wp2_with fail
        clear c0_0 c0_1 c0_2 c0_3 c0_4 c0_5 c0_6 c0_7 c0_8 c0_9 c0_10 c0_11 c1_0 c1_1 c1_2 c1_3
        go_ret
        exact ⟨by simp, G3⟩
      | true =>
        cases g4 with
        | false =>
          go_enter Tryz.func95, Tryz.ntmps95
          go_wp2_with fail
          refine (tisid_is n.id true H1.out _).mono ?_; rintro e w1 ⟨rfl, hb⟩
          have A1 := A0.below hb
          have B1 := B0.below hb
          have G1 := G0.trans (hb.mono G0.size)
          clear hb A0 B0
          have c0_0 := A1.c0
          have c0_1 := A1.c1
          have c0_2 := A1.c2
          have c0_3 := A1.c3
          have c0_4 := A1.c4
          have c0_5 := A1.c5
          have c0_6 := A1.c6
          have c0_7 := A1.c7
          have c0_8 := A1.c8
          have c0_9 := A1.c9
          have c0_10 := A1.c10
          have c0_11 := A1.c11
          have c1_0 := B1.c0
          have c1_1 := B1.c1
          have c1_2 := B1.c2
          have c1_3 := B1.c3
          go_wp2_with fail
          clear c0_0 c0_1 c0_2 c0_3 c0_4 c0_5 c0_6 c0_7 c0_8 c0_9 c0_10 c0_11 c1_0 c1_1 c1_2 c1_3
          refine (tisid_is n.pa true H2.out _).mono ?_; rintro e w2 ⟨rfl, hb⟩
          have A2 := A1.below hb
          have B2 := B1.below hb
          have G2 := G1.trans (hb.mono G1.size)
          clear hb A1 B1
          have c0_0 := A2.c0
          have c0_1 := A2.c1
          have c0_2 := A2.c2
          have c0_3 := A2.c3
          have c0_4 := A2.c4
          have c0_5 := A2.c5
          have c0_6 := A2.c6
          have c0_7 := A2.c7
          have c0_8 := A2.c8
          have c0_9 := A2.c9
          have c0_10 := A2.c10
          have c0_11 := A2.c11
          have c1_0 := B2.c0
          have c1_1 := B2.c1
          have c1_2 := B2.c2
          have c1_3 := B2.c3
          go_wp2_with fail
          clear c0_0 c0_1 c0_2 c0_3 c0_4 c0_5 c0_6 c0_7 c0_8 c0_9 c0_10 c0_11 c1_0 c1_1 c1_2 c1_3
          refine (tbetween_is n.vo 0 9 true H3.out _).mono ?_; rintro e w3 ⟨rfl, hb⟩
          have A3 := A2.below hb
          have B3 := B2.below hb
          have G3 := G2.trans (hb.mono G2.size)
          clear hb A2 B2
          have c0_0 := A3.c0
          have c0_1 := A3.c1
          have c0_2 := A3.c2
          have c0_3 := A3.c3
          have c0_4 := A3.c4
          have c0_5 := A3.c5
          have c0_6 := A3.c6
          have c0_7 := A3.c7
          have c0_8 := A3.c8
          have c0_9 := A3.c9
          have c0_10 := A3.c10
          have c0_11 := A3.c11
          have c1_0 := B3.c0
          have c1_1 := B3.c1
          have c1_2 := B3.c2
          have c1_3 := B3.c3
          go_wp2_with fail
          clear c0_0 c0_1 c0_2 c0_3 c0_4 c0_5 c0_6 c0_7 c0_8 c0_9 c0_10 c0_11 c1_0 c1_1 c1_2 c1_3
          refine (tbetween_is n.os 0 20 false H4.out _).mono ?_; rintro e w4 ⟨rfl, hb⟩
          have A4 := A3.below hb
          have B4 := B3.below hb
          have G4 := G3.trans (hb.mono G3.size)
          clear hb A3 B3
          have c0_0 := A4.c0
          have c0_1 := A4.c1
          have c0_2 := A4.c2
          have c0_3 := A4.c3
          have c0_4 := A4.c4
          have c0_5 := A4.c5
          have c0_6 := A4.c6
          have c0_7 := A4.c7
          have c0_8 := A4.c8
          have c0_9 := A4.c9
          have c0_10 := A4.c10
          have c0_11 := A4.c11
          have c1_0 := B4.c0
          have c1_1 := B4.c1
          have c1_2 := B4.c2
          have c1_3 := B4.c3
          go_wp2_with fail
          clear c0_0 c0_1 c0_2 c0_3 c0_4 c0_5 c0_6 c0_7 c0_8 c0_9 c0_10 c0_11 c1_0 c1_1 c1_2 c1_3
          go_ret
          exact ⟨by simp, G4⟩
        | true =>
          cases g5 with
          | false =>
            go_enter Tryz.func95, Tryz.ntmps95
            go_wp2_with fail
            refine (tisid_is n.id true H1.out _).mono ?_; rintro e w1 ⟨rfl, hb⟩
            have A1 := A0.below hb
            have B1 := B0.below hb
            have G1 := G0.trans (hb.mono G0.size)
            clear hb A0 B0
            have c0_0 := A1.c0
            have c0_1 := A1.c1
            have c0_2 := A1.c2
            have c0_3 := A1.c3
            have c0_4 := A1.c4
            have c0_5 := A1.c5
            have c0_6 := A1.c6
            have c0_7 := A1.c7
            have c0_8 := A1.c8
            have c0_9 := A1.c9
            have c0_10 := A1.c10
            have c0_11 := A1.c11
            have c1_0 := B1.c0
            have c1_1 := B1.c1
            have c1_2 := B1.c2
            have c1_3 := B1.c3
            go_wp2_with fail
            clear c0_0 c0_1 c0_2 c0_3 c0_4 c0_5 c0_6 c0_7 c0_8 c0_9 c0_10 c0_11 c1_0 c1_1 c1_2 c1_3
            refine (tisid_is n.pa true H2.out _).mono ?_; rintro e w2 ⟨rfl, hb⟩
            have A2 := A1.below hb
            have B2 := B1.below hb
            have G2 := G1.trans (hb.mono G1.size)
            clear hb A1 B1
            have c0_0 := A2.c0
            have c0_1 := A2.c1
            have c0_2 := A2.c2
            have c0_3 := A2.c3
            have c0_4 := A2.c4
            have c0_5 := A2.c5
            have c0_6 := A2.c6
            have c0_7 := A2.c7
            have c0_8 := A2.c8
            have c0_9 := A2.c9
            have c0_10 := A2.c10
            have c0_11 := A2.c11
            have c1_0 := B2.c0
            have c1_1 := B2.c1
            have c1_2 := B2.c2
            have c1_3 := B2.c3
            go_wp2_with fail
            clear c0_0 c0_1 c0_2 c0_3 c0_4 c0_5 c0_6 c0_7 c0_8 c0_9 c0_10 c0_11 c1_0 c1_1 c1_2 c1_3
            refine (tbetween_is n.vo 0 9 true H3.out _).mono ?_; rintro e w3 ⟨rfl, hb⟩
            have A3 := A2.below hb
            have B3 := B2.below hb
            have G3 := G2.trans (hb.mono G2.size)
            clear hb A2 B2
            have c0_0 := A3.c0
            have c0_1 := A3.c1
            have c0_2 := A3.c2
            have c0_3 := A3.c3
            have c0_4 := A3.c4
            have c0_5 := A3.c5
            have c0_6 := A3.c6
            have c0_7 := A3.c7
            have c0_8 := A3.c8
            have c0_9 := A3.c9
            have c0_10 := A3.c10
            have c0_11 := A3.c11
            have c1_0 := B3.c0
            have c1_1 := B3.c1
            have c1_2 := B3.c2
            have c1_3 := B3.c3
            go_wp2_with fail
            clear c0_0 c0_1 c0_2 c0_3 c0_4 c0_5 c0_6 c0_7 c0_8 c0_9 c0_10 c0_11 c1_0 c1_1 c1_2 c1_3
            refine (tbetween_is n.os 0 20 true H4.out _).mono ?_; rintro e w4 ⟨rfl, hb⟩
            have A4 := A3.below hb
            have B4 := B3.below hb
            have G4 := G3.trans (hb.mono G3.size)
            clear hb A3 B3
            have c0_0 := A4.c0
            have c0_1 := A4.c1
            have c0_2 := A4.c2
            have c0_3 := A4.c3
            have c0_4 := A4.c4
            have c0_5 := A4.c5
            have c0_6 := A4.c6
            have c0_7 := A4.c7
            have c0_8 := A4.c8
            have c0_9 := A4.c9
            have c0_10 := A4.c10
            have c0_11 := A4.c11
            have c1_0 := B4.c0
            have c1_1 := B4.c1
            have c1_2 := B4.c2
            have c1_3 := B4.c3
            go_wp2_with fail
            clear c0_0 c0_1 c0_2 c0_3 c0_4 c0_5 c0_6 c0_7 c0_8 c0_9 c0_10 c0_11 c1_0 c1_1 c1_2 c1_3
            refine (tistime_is n b0 b1 b2 b3 T false (by first | exact H5.out | exact ⟨fun h => absurd h (by decide), fun h => (H5.out.2 h).elim⟩) HT.out hT0 _).mono ?_; rintro e w5 ⟨rfl, hb⟩
            have A5 := A4.below hb
            have B5 := B4.below hb
            have G5 := G4.trans (hb.mono G4.size)
            clear hb A4 B4
            have c0_0 := A5.c0
            have c0_1 := A5.c1
            have c0_2 := A5.c2
            have c0_3 := A5.c3
            have c0_4 := A5.c4
            have c0_5 := A5.c5
            have c0_6 := A5.c6
            have c0_7 := A5.c7
            have c0_8 := A5.c8
            have c0_9 := A5.c9
            have c0_10 := A5.c10
            have c0_11 := A5.c11
            have c1_0 := B5.c0
            have c1_1 := B5.c1
            have c1_2 := B5.c2
            have c1_3 := B5.c3
            go_wp2_with fail
            clear c0_0 c0_1 c0_2 c0_3 c0_4 c0_5 c0_6 c0_7 c0_8 c0_9 c0_10 c0_11 c1_0 c1_1 c1_2 c1_3
            go_ret
            exact ⟨by simp, G5⟩
          | true =>
            cases g6 with
            | false =>
              go_enter Tryz.func95, Tryz.ntmps95
              go_wp2_with fail
              refine (tisid_is n.id true H1.out _).mono ?_; rintro e w1 ⟨rfl, hb⟩
              have A1 := A0.below hb
              have B1 := B0.below hb
              have G1 := G0.trans (hb.mono G0.size)
              clear hb A0 B0
              have c0_0 := A1.c0
              have c0_1 := A1.c1
              have c0_2 := A1.c2
              have c0_3 := A1.c3
              have c0_4 := A1.c4
              have c0_5 := A1.c5
              have c0_6 := A1.c6
              have c0_7 := A1.c7
              have c0_8 := A1.c8
              have c0_9 := A1.c9
              have c0_10 := A1.c10
              have c0_11 := A1.c11
              have c1_0 := B1.c0
              have c1_1 := B1.c1
              have c1_2 := B1.c2
              have c1_3 := B1.c3
              go_wp2_with fail
              clear c0_0 c0_1 c0_2 c0_3 c0_4 c0_5 c0_6 c0_7 c0_8 c0_9 c0_10 c0_11 c1_0 c1_1 c1_2 c1_3
              refine (tisid_is n.pa true H2.out _).mono ?_; rintro e w2 ⟨rfl, hb⟩
              have A2 := A1.below hb
              have B2 := B1.below hb
              have G2 := G1.trans (hb.mono G1.size)
              clear hb A1 B1
              have c0_0 := A2.c0
              have c0_1 := A2.c1
              have c0_2 := A2.c2
              have c0_3 := A2.c3
              have c0_4 := A2.c4
              have c0_5 := A2.c5
              have c0_6 := A2.c6
              have c0_7 := A2.c7
              have c0_8 := A2.c8
              have c0_9 := A2.c9
              have c0_10 := A2.c10
              have c0_11 := A2.c11
              have c1_0 := B2.c0
              have c1_1 := B2.c1
              have c1_2 := B2.c2
              have c1_3 := B2.c3
              go_wp2_with fail
              clear c0_0 c0_1 c0_2 c0_3 c0_4 c0_5 c0_6 c0_7 c0_8 c0_9 c0_10 c0_11 c1_0 c1_1 c1_2 c1_3
              refine (tbetween_is n.vo 0 9 true H3.out _).mono ?_; rintro e w3 ⟨rfl, hb⟩
              have A3 := A2.below hb
              have B3 := B2.below hb
              have G3 := G2.trans (hb.mono G2.size)
              clear hb A2 B2
              have c0_0 := A3.c0
              have c0_1 := A3.c1
              have c0_2 := A3.c2
              have c0_3 := A3.c3
              have c0_4 := A3.c4
              have c0_5 := A3.c5
              have c0_6 := A3.c6
              have c0_7 := A3.c7
              have c0_8 := A3.c8
              have c0_9 := A3.c9
              have c0_10 := A3.c10
              have c0_11 := A3.c11
              have c1_0 := B3.c0
              have c1_1 := B3.c1
              have c1_2 := B3.c2
              have c1_3 := B3.c3
              go_wp2_with fail
              clear c0_0 c0_1 c0_2 c0_3 c0_4 c0_5 c0_6 c0_7 c0_8 c0_9 c0_10 c0_11 c1_0 c1_1 c1_2 c1_3
              refine (tbetween_is n.os 0 20 true H4.out _).mono ?_; rintro e w4 ⟨rfl, hb⟩
              have A4 := A3.below hb
              have B4 := B3.below hb
              have G4 := G3.trans (hb.mono G3.size)
              clear hb A3 B3
              have c0_0 := A4.c0
              have c0_1 := A4.c1
              have c0_2 := A4.c2
              have c0_3 := A4.c3
              have c0_4 := A4.c4
              have c0_5 := A4.c5
              have c0_6 := A4.c6
              have c0_7 := A4.c7
              have c0_8 := A4.c8
              have c0_9 := A4.c9
              have c0_10 := A4.c10
              have c0_11 := A4.c11
              have c1_0 := B4.c0
              have c1_1 := B4.c1
              have c1_2 := B4.c2
              have c1_3 := B4.c3
              go_wp2_with fail
              clear c0_0 c0_1 c0_2 c0_3 c0_4 c0_5 c0_6 c0_7 c0_8 c0_9 c0_10 c0_11 c1_0 c1_1 c1_2 c1_3
              refine (tistime_is n b0 b1 b2 b3 T true (by first | exact H5.out | exact ⟨fun _ => H5.out.1 trivial, fun _ => rfl⟩) HT.out hT0 _).mono ?_; rintro e w5 ⟨rfl, hb⟩
              have A5 := A4.below hb
              have B5 := B4.below hb
              have G5 := G4.trans (hb.mono G4.size)
              clear hb A4 B4
              have c0_0 := A5.c0
              have c0_1 := A5.c1
              have c0_2 := A5.c2
              have c0_3 := A5.c3
              have c0_4 := A5.c4
              have c0_5 := A5.c5
              have c0_6 := A5.c6
              have c0_7 := A5.c7
              have c0_8 := A5.c8
              have c0_9 := A5.c9
              have c0_10 := A5.c10
              have c0_11 := A5.c11
              have c1_0 := B5.c0
              have c1_1 := B5.c1
              have c1_2 := B5.c2
              have c1_3 := B5.c3
              go_wp2_with fail
              clear c0_0 c0_1 c0_2 c0_3 c0_4 c0_5 c0_6 c0_7 c0_8 c0_9 c0_10 c0_11 c1_0 c1_1 c1_2 c1_3
              refine (tispitch_is n.st n.al n.oc false (by first | exact H6.out | exact ⟨fun h => absurd h (by decide), fun h => (H6.out.2 h).elim⟩) _).mono ?_; rintro e w6 ⟨rfl, hb⟩
              have A6 := A5.below hb
              have B6 := B5.below hb
              have G6 := G5.trans (hb.mono G5.size)
              clear hb A5 B5
              have c0_0 := A6.c0
              have c0_1 := A6.c1
              have c0_2 := A6.c2
              have c0_3 := A6.c3
              have c0_4 := A6.c4
              have c0_5 := A6.c5
              have c0_6 := A6.c6
              have c0_7 := A6.c7
              have c0_8 := A6.c8
              have c0_9 := A6.c9
              have c0_10 := A6.c10
              have c0_11 := A6.c11
              have c1_0 := B6.c0
              have c1_1 := B6.c1
              have c1_2 := B6.c2
              have c1_3 := B6.c3
              go_wp2_with fail
              clear c0_0 c0_1 c0_2 c0_3 c0_4 c0_5 c0_6 c0_7 c0_8 c0_9 c0_10 c0_11 c1_0 c1_1 c1_2 c1_3
              go_ret
              exact ⟨by simp, G6⟩
            | true =>
              go_enter Tryz.func95, Tryz.ntmps95
              go_wp2_with fail
              refine (tisid_is n.id true H1.out _).mono ?_; rintro e w1 ⟨rfl, hb⟩
              have A1 := A0.below hb
              have B1 := B0.below hb
              have G1 := G0.trans (hb.mono G0.size)
              clear hb A0 B0
              have c0_0 := A1.c0
              have c0_1 := A1.c1
              have c0_2 := A1.c2
              have c0_3 := A1.c3
              have c0_4 := A1.c4
              have c0_5 := A1.c5
              have c0_6 := A1.c6
              have c0_7 := A1.c7
              have c0_8 := A1.c8
              have c0_9 := A1.c9
              have c0_10 := A1.c10
              have c0_11 := A1.c11
              have c1_0 := B1.c0
              have c1_1 := B1.c1
              have c1_2 := B1.c2
              have c1_3 := B1.c3
              go_wp2_with fail
              clear c0_0 c0_1 c0_2 c0_3 c0_4 c0_5 c0_6 c0_7 c0_8 c0_9 c0_10 c0_11 c1_0 c1_1 c1_2 c1_3
              refine (tisid_is n.pa true H2.out _).mono ?_; rintro e w2 ⟨rfl, hb⟩
              have A2 := A1.below hb
              have B2 := B1.below hb
              have G2 := G1.trans (hb.mono G1.size)
              clear hb A1 B1
              have c0_0 := A2.c0
              have c0_1 := A2.c1
              have c0_2 := A2.c2
              have c0_3 := A2.c3
              have c0_4 := A2.c4
              have c0_5 := A2.c5
              have c0_6 := A2.c6
              have c0_7 := A2.c7
              have c0_8 := A2.c8
              have c0_9 := A2.c9
              have c0_10 := A2.c10
              have c0_11 := A2.c11
              have c1_0 := B2.c0
              have c1_1 := B2.c1
              have c1_2 := B2.c2
              have c1_3 := B2.c3
              go_wp2_with fail
              clear c0_0 c0_1 c0_2 c0_3 c0_4 c0_5 c0_6 c0_7 c0_8 c0_9 c0_10 c0_11 c1_0 c1_1 c1_2 c1_3
              refine (tbetween_is n.vo 0 9 true H3.out _).mono ?_; rintro e w3 ⟨rfl, hb⟩
              have A3 := A2.below hb
              have B3 := B2.below hb
              have G3 := G2.trans (hb.mono G2.size)
              clear hb A2 B2
              have c0_0 := A3.c0
              have c0_1 := A3.c1
              have c0_2 := A3.c2
              have c0_3 := A3.c3
              have c0_4 := A3.c4
              have c0_5 := A3.c5
              have c0_6 := A3.c6
              have c0_7 := A3.c7
              have c0_8 := A3.c8
              have c0_9 := A3.c9
              have c0_10 := A3.c10
              have c0_11 := A3.c11
              have c1_0 := B3.c0
              have c1_1 := B3.c1
              have c1_2 := B3.c2
              have c1_3 := B3.c3
              go_wp2_with fail
              clear c0_0 c0_1 c0_2 c0_3 c0_4 c0_5 c0_6 c0_7 c0_8 c0_9 c0_10 c0_11 c1_0 c1_1 c1_2 c1_3
              refine (tbetween_is n.os 0 20 true H4.out _).mono ?_; rintro e w4 ⟨rfl, hb⟩
              have A4 := A3.below hb
              have B4 := B3.below hb
              have G4 := G3.trans (hb.mono G3.size)
              clear hb A3 B3
              have c0_0 := A4.c0
              have c0_1 := A4.c1
              have c0_2 := A4.c2
              have c0_3 := A4.c3
              have c0_4 := A4.c4
              have c0_5 := A4.c5
              have c0_6 := A4.c6
              have c0_7 := A4.c7
              have c0_8 := A4.c8
              have c0_9 := A4.c9
              have c0_10 := A4.c10
              have c0_11 := A4.c11
              have c1_0 := B4.c0
              have c1_1 := B4.c1
              have c1_2 := B4.c2
              have c1_3 := B4.c3
              go_wp2_with fail
              clear c0_0 c0_1 c0_2 c0_3 c0_4 c0_5 c0_6 c0_7 c0_8 c0_9 c0_10 c0_11 c1_0 c1_1 c1_2 c1_3
              refine (tistime_is n b0 b1 b2 b3 T true (by first | exact H5.out | exact ⟨fun _ => H5.out.1 trivial, fun _ => rfl⟩) HT.out hT0 _).mono ?_; rintro e w5 ⟨rfl, hb⟩
              have A5 := A4.below hb
              have B5 := B4.below hb
              have G5 := G4.trans (hb.mono G4.size)
              clear hb A4 B4
              have c0_0 := A5.c0
              have c0_1 := A5.c1
              have c0_2 := A5.c2
              have c0_3 := A5.c3
              have c0_4 := A5.c4
              have c0_5 := A5.c5
              have c0_6 := A5.c6
              have c0_7 := A5.c7
              have c0_8 := A5.c8
              have c0_9 := A5.c9
              have c0_10 := A5.c10
              have c0_11 := A5.c11
              have c1_0 := B5.c0
              have c1_1 := B5.c1
              have c1_2 := B5.c2
              have c1_3 := B5.c3
              go_wp2_with fail
              clear c0_0 c0_1 c0_2 c0_3 c0_4 c0_5 c0_6 c0_7 c0_8 c0_9 c0_10 c0_11 c1_0 c1_1 c1_2 c1_3
              refine (tispitch_is n.st n.al n.oc true (by first | exact H6.out | exact ⟨fun _ => H6.out.1 trivial, fun _ => rfl⟩) _).mono ?_; rintro e w6 ⟨rfl, hb⟩
              have A6 := A5.below hb
              have B6 := B5.below hb
              have G6 := G5.trans (hb.mono G5.size)
              clear hb A5 B5
              have c0_0 := A6.c0
              have c0_1 := A6.c1
              have c0_2 := A6.c2
              have c0_3 := A6.c3
              have c0_4 := A6.c4
              have c0_5 := A6.c5
              have c0_6 := A6.c6
              have c0_7 := A6.c7
              have c0_8 := A6.c8
              have c0_9 := A6.c9
              have c0_10 := A6.c10
              have c0_11 := A6.c11
              have c1_0 := B6.c0
              have c1_1 := B6.c1
              have c1_2 := B6.c2
              have c1_3 := B6.c3
              go_wp2_with fail
              clear c0_0 c0_1 c0_2 c0_3 c0_4 c0_5 c0_6 c0_7 c0_8 c0_9 c0_10 c0_11 c1_0 c1_1 c1_2 c1_3
              go_ret
              exact ⟨rfl, G6⟩
end Go.Proofs.YtbbjifhelbeniaaGreatDoor

/- The walk of notes' Valid: where bars are, and the IDs that have been seen. -/
namespace Go.Proofs.YtbbjifhelbeniaaGreatDoor
open Go.RowKit Go.Maps

namespace No
/-- IDs of notes and of their bars are 64 bit integers. -/
def Wf (l : List Nt) : Prop := ∀ j, j < l.length → (-9223372036854775808 ≤ (atO l j).id ∧ (atO l j).id ≤ 9223372036854775807) ∧ (-9223372036854775808 ≤ (atO l j).ba ∧ (atO l j).ba ≤ 9223372036854775807)
/-- The map holds the IDs of the first i notes. -/
def Seen (l : List Nt) (i : Nat) (D : DataW Unit) : Prop :=
  ∀ id : Int, (Lit.int .i64 id).wf = true → ∃ c : Bool, D.atKey (.int .i64 id) (.lit (.bool false)) = .lit (.bool c) ∧ (c = true ↔ ∃ m, m < i ∧ (atO l m).id = id)
theorem Seen.start (l : List Nt) : Seen l 0 (.map []) := fun id _ => ⟨false, rfl, by simp⟩
theorem Seen.step {l : List Nt} {i : Nat} {D : DataW Unit} (h : Seen l i D) (hD : IsMap D) (hw : (Lit.int .i64 (atO l i).id).wf = true) : Seen l (i + 1) (D.put (.int .i64 (atO l i).id) (.lit (.bool true))) := fun id hid => by
  by_cases e : id = (atO l i).id
  · subst e
    exact ⟨true, atKey_put_same hD (mapK.key (keyOf_int_mk Tryz.underlying3 hid)) _ _, by simp only [true_iff]; exact ⟨i, by omega, rfl⟩⟩
  · obtain ⟨c, h1, h2⟩ := h id hid
    refine ⟨c, ?_, ?_⟩
    · rw [atKey_put_other (fun e2 => e (by simpa using e2))]
      exact h1
    · rw [h2]
      constructor
      · rintro ⟨m, hm, e2⟩
        exact ⟨m, by omega, e2⟩
      · rintro ⟨m, hm, e2⟩
        refine ⟨m, ?_, e2⟩
        rcases Nat.lt_or_eq_of_le (Nat.le_of_lt_succ hm) with h3 | h3
        · exact h3
        · subst h3; exact absurd e2.symm e
theorem okN_iff {bs : List Mt.B} {n : Nt} {T : Int} (h0 : 0 ≤ bix bs n.ba) (hT : Mt.bt (atB bs (bix bs n.ba).toNat) = T) : okN bs n ↔ (isN n.st n.al n.oc ∧ (1 ≤ n.id ∧ n.id ≤ 1000000) ∧ (1 ≤ n.pa ∧ n.pa ≤ 1000000) ∧ (0 ≤ n.vo ∧ n.vo ≤ 9) ∧ (0 ≤ n.os ∧ n.os ≤ 20) ∧ 0 ≤ start n ∧ 0 < leng n ∧ start n + leng n ≤ T) := by
  subst hT
  unfold okN
  constructor
  · rintro ⟨_, a, b1, b2, c1, c2, d1, d2, e1, e2, x, y, z⟩; exact ⟨a, ⟨b1, b2⟩, ⟨c1, c2⟩, ⟨d1, d2⟩, ⟨e1, e2⟩, x, y, z⟩
  · rintro ⟨a, ⟨b1, b2⟩, ⟨c1, c2⟩, ⟨d1, d2⟩, ⟨e1, e2⟩, x, y, z⟩; exact ⟨h0, a, b1, b2, c1, c2, d1, d2, e1, e2, x, y, z⟩
end No

theorem run_look_bool {P : Program} {w : World} (t k e : TypeId) (K : Keyed P k) (ht : P.underlying t = some (.map k e)) (he : P.underlying e = some .bool) (hz : (zeroValue e).run P w = .ok (.bool false) w) {b n : Nat} {D : DataW Unit}
    (hown : w.ownsMap P k (plainElem P e) b n D) {key : Value} {kl : Lit} (hkey : keyOf P k key = some kl) {c : Bool} (hc : D.atKey kl (.lit (.bool false)) = .lit (.bool c)) :
    (Instr.lookup t (.map (some b)) key false).run P w = .ok (.bool c) w := by
  obtain ⟨v, ps, hrun, hv⟩ := hown.lookup K ht hz (plainElem_bool he false) hkey
  rw [hc] at hv
  obtain rfl := plainElem_bool_back he hv
  exact hrun

set_option maxHeartbeats 4000000 in
set_option maxRecDepth 100000 in
theorem tvalid_is (bs : List Mt.B) (l : List No.Nt) (f : Bool) (blen bcap len cap : Nat) (B A : Option Addr) (h : f = true ↔ No.Val bs l) (hbl : bs.length = blen) (hl : l.length = len) (hwb : Mt.Wf bs) (hwn : No.Wf l) (w : World) (hB : SlB w B bs) (hL : SlO w A l) :
    Calls Tryz.prog 78 #[.slice B blen bcap, .slice A len cap] w fun e w' => e = .returned (.bool f) ∧ Below w.heap.size w w' := by
  obtain ⟨g, hg⟩ : ∃ g : Bool, g = true ↔ Mt.Val bs := by classical exact ⟨decide (Mt.Val bs), by simp⟩
  have HG := Lib.hid hg
  have HBL := Lib.hid hbl
  have HN := Lib.hid hl
  have HWB := Lib.hid hwb
  have HWN := Lib.hid hwn
  have HB := Lib.hid hB
  have HL := Lib.hid hL
  have HF := Lib.hid h
  clear h hg hbl hl hwb hwn hB hL
  cases g with
  | false =>
    obtain rfl : f = false := by
      cases f with
      | false => rfl
      | true => exact absurd (HG.out.2 (HF.out.1 rfl).1) (by decide)
    go_enter Tryz.func78, Tryz.ntmps78
    go_wp2_with fail
    refine (mvalid_is bs false blen bcap B HG.out HBL.out HWB.out _ HB.out).mono ?_; rintro e w1 ⟨rfl, hb⟩
    go_wp2_with fail
    go_ret
    exact ⟨rfl, hb⟩
  | true =>
  have hval : Mt.Val bs := HG.out.1 rfl
  have HV := Lib.hid hval
  clear hval
  by_cases h2 : 20000 < len
  · obtain rfl : f = false := by
      cases f with
      | false => rfl
      | true => have := (HF.out.1 rfl).2.1; rw [HN.out] at this; omega
    have h2' : (20000 : Int) < (len : Int) := by omega
    clear h2
    go_enter Tryz.func78, Tryz.ntmps78
    go_wp2_with fail
    refine (mvalid_is bs true blen bcap B ⟨fun _ => HV.out, fun _ => rfl⟩ HBL.out HWB.out _ HB.out).mono ?_; rintro e w1 ⟨rfl, hb⟩
    go_wp2_with fail
    go_ret
    exact ⟨rfl, hb⟩
  have h2' : ¬ (20000 : Int) < (len : Int) := by omega
  have hlen : len ≤ 20000 := by omega
  have HIff : Hid (f = true ↔ (∀ i, i < l.length → No.okN bs (atO l i)) ∧ ∀ i k, i < l.length → k < i → (atO l k).id ≠ (atO l i).id) := Lib.hid (by rw [HF.out]; exact vval_iff HV.out (by rw [HN.out]; exact hlen))
  clear h2 HF
  go_enter Tryz.func78, Tryz.ntmps78
  go_wp2_with fail
  refine (mvalid_is bs true blen bcap B ⟨fun _ => HV.out, fun _ => rfl⟩ HBL.out HWB.out _ HB.out).mono ?_; rintro e w1 ⟨rfl, hb1⟩
  go_wp2_with fail
  refine (tindexes_is bs blen bcap B HBL.out HV.out _ (HB.out.below hb1)).mono ?_; rintro e w2 ⟨rfl, hb2, D1, hown1, hidx⟩
  have HI := Lib.hid hidx
  have G2 : Below w.heap.size w w2 := hb1.trans (hb2.mono hb1.size)
  have s2 : w1.heap.size < w2.heap.size := hown1.lt
  have s1 : w.heap.size ≤ w1.heap.size := hb1.size
  clear hidx hb1 hb2
  have hmm := run_mkHint
  go_wp2_with fail
  go_loopw [26] (fun s26 wr => ∃ (i : Nat) (q : Int), i ≤ len ∧ q = i ∧ s26 = .int .i64 q ∧ Hid ((∀ j, j < i → No.okN bs (atO l j)) ∧ ∀ j k, j < i → k < j → (atO l k).id ≠ (atO l j).id) ∧ (∃ D : DataW Unit, wr.ownsMap Tryz.prog 3 (plainElem Tryz.prog 4) w2.heap.size i D ∧ Hid (No.Seen l i D)) ∧ wr.ownsMap Tryz.prog 3 (plainElem Tryz.prog 3) w1.heap.size blen D1 ∧ Below w.heap.size w wr ∧ w2.heap.size < wr.heap.size) (fun s26 _ => len - (intOf s26).toNat)
  case atStart => exact ⟨0, 0, Nat.zero_le _, rfl, rfl, Lib.hid ⟨fun j hj => absurd hj (Nat.not_lt_zero _), fun j k hj => absurd hj (Nat.not_lt_zero _)⟩, ⟨.map [], World.ownsMap_made _ _ _ _, Lib.hid (No.Seen.start l)⟩, hown1.alloc _, G2.alloc G2.size _, by simp⟩
  case round =>
    clear hmm hown1 G2
    obtain ⟨i, q, hi, hq, rfl, HE, ⟨D, hown, HS⟩, hown1, hG, hsz⟩ := hrel
    by_cases hlt : i < len
    · have hil : i < l.length := by rw [HN.out]; omega
      obtain ⟨bb, off, rfl, hbb, hc⟩ := HL.out (by omega)
      have N0 := (hc i hil).below hG hbb
      obtain ⟨⟨w0, w0'⟩, w1', w1''⟩ := HWN.out i hil
      have hq1 : q < (len : Int) := by omega
      have hq3 : 0 ≤ q := by omega
      have hqn : q.toNat = i := by omega
      have HQ := Lib.hid hq
      have hwfi := Mt.wf_id w0 w0'
      have hwfb := Mt.wf_id w1' w1''
      have HOK : Hid (f = true → No.okN bs (atO l i)) := Lib.hid (fun hf => (HIff.out.1 hf).1 i hil)
      have HDI : Hid (f = true → ∀ m, m < i → (atO l m).id ≠ (atO l i).id) := Lib.hid (fun hf m hm => (HIff.out.1 hf).2 i m hil hm)
      obtain ⟨c, hat, hci⟩ := HS.out _ hwfi
      have HCI := Lib.hid hci
      obtain ⟨hhas, hatI⟩ := HI.out _ hwfb
      have HK : Hid ((∀ m, m < i → (atO l m).id ≠ (atO l i).id) → No.okN bs (atO l i) → (∀ j, j < i + 1 → No.okN bs (atO l j)) ∧ ∀ j m, j < i + 1 → m < j → (atO l m).id ≠ (atO l j).id) := Lib.hid (fun h1 h2 => ⟨fun j hj => by
        by_cases e : j = i
        · subst e; exact h2
        · exact HE.out.1 j (by omega), fun j m hj hm => by
        by_cases e : j = i
        · subst e; exact h1 m hm
        · exact HE.out.2 j m (by omega) hm⟩)
      have HSt : Hid (No.Seen l (i + 1) (D.put (.int .i64 (atO l i).id) (.lit (.bool true)))) := Lib.hid (HS.out.step (hown.tidy mapK).isMap hwfi)
      have hkey : keyOf Tryz.prog 3 (.int .i64 (atO l i).id) = some (.int .i64 (atO l i).id) := keyOf_int_mk Tryz.underlying3 hwfi
      have hkeyb : keyOf Tryz.prog 3 (.int .i64 (atO l i).ba) = some (.int .i64 (atO l i).ba) := keyOf_int_mk Tryz.underlying3 hwfb
      clear hc hq hil hci w0 w0' w1' w1'' hwfi hwfb HE HS
      generalize atO l i = n at *
      obtain ⟨c0, c1, c2, c3, c4, c5, c6, c7, c8, c9, c10, c11⟩ := N0
      replace c0 : wr.cell? ⟨bb, off + i * 12, none⟩ = some (.int .i64 n.id) := c0
      have NB := NtB.new wr n
      have hownI := hown1.alloc (.cells #[.int .i64 n.id, .int .i64 n.pa, .int .i64 n.ba, .int .i64 n.vo, .int .i64 n.os, .int .i64 n.sn, .int .i64 n.sd, .int .i64 n.ln, .int .i64 n.ld, .int .i64 n.st, .int .i64 n.al, .int .i64 n.oc] 51)
      have hownS := hown.alloc (.cells #[.int .i64 n.id, .int .i64 n.pa, .int .i64 n.ba, .int .i64 n.vo, .int .i64 n.os, .int .i64 n.sn, .int .i64 n.sd, .int .i64 n.ln, .int .i64 n.ld, .int .i64 n.st, .int .i64 n.al, .int .i64 n.oc] 51)
      have hGa := hG.alloc hG.size (.cells #[.int .i64 n.id, .int .i64 n.pa, .int .i64 n.ba, .int .i64 n.vo, .int .i64 n.os, .int .i64 n.sn, .int .i64 n.sd, .int .i64 n.ln, .int .i64 n.ld, .int .i64 n.st, .int .i64 n.al, .int .i64 n.oc] 51)
      obtain ⟨r, hr⟩ : ∃ r, No.bix bs n.ba = r := ⟨_, rfl⟩
      rw [hr] at hhas hatI
      have nb2 := NB.c2
      by_cases hr0 : 0 ≤ r
      · rw [if_pos hr0] at hatI
        rw [decide_eq_true hr0] at hhas
        obtain ⟨k, hk⟩ : ∃ k, r.toNat = k := ⟨_, rfl⟩
        have hrl := No.bix_lt bs n.ba
        rw [hr] at hrl
        have hkl : k < bs.length := by omega
        have hrb : r < (blen : Int) := by rw [← HBL.out]; exact hrl
        obtain ⟨b2, off2, rfl, hb2, hcb⟩ := HB.out (by omega)
        obtain ⟨y0, y1, y2, y3⟩ := hcb k hkl
        have z0 := (hGa.cell (p := ⟨b2, off2 + k * 4, none⟩) hb2).trans y0
        have z1 := (hGa.cell (p := ⟨b2, off2 + k * 4 + 1, none⟩) hb2).trans y1
        have z2 := (hGa.cell (p := ⟨b2, off2 + k * 4 + 2, none⟩) hb2).trans y2
        have z3 := (hGa.cell (p := ⟨b2, off2 + k * 4 + 3, none⟩) hb2).trans y3
        have hokb := HV.out.2.2.1 k hkl
        obtain ⟨T, hT⟩ : ∃ T, Mt.bt (atB bs k) = T := ⟨_, rfl⟩
        have HTT : Hid (Mt.tk (atB bs k).2.1 (atB bs k).2.2.1 = T) := Lib.hid hT
        have hT0 : 0 ≤ T := by rw [← hT]; have := hokb.2.2.1; omega
        have HON : Hid (No.okN bs n ↔ _) := Lib.hid (No.okN_iff (T := T) (by rw [hr]; exact hr0) (by rw [hr, hk]; exact hT))
        obtain ⟨fb, hfb⟩ : ∃ fb : Bool, fb = true ↔ No.okN bs n := by classical exact ⟨decide (No.okN bs n), by simp⟩
        have HFB := Lib.hid (hfb.trans HON.out)
        have HFO := Lib.hid hfb
        clear hcb y0 y1 y2 y3 hT hokb hrl hkl hfb HON hr
        generalize (atB bs k).1 = d0 at *
        generalize (atB bs k).2.1 = d1 at *
        generalize (atB bs k).2.2.1 = d2 at *
        generalize (atB bs k).2.2.2 = d3 at *
        go_wp2_with (first | (at_lookup; refine look_int_ok _ rfl _ _ 119 rfl 3 3 mapK Tryz.underlying119 Tryz.underlying3 (Tryz.zeroValue3 _) w1.heap.size blen D1 rfl hownI _ _ rfl hkeyb r hatI true hhas ?_) | fail)
        clear c0 c1 c2 c3 c4 c5 c6 c7 c8 c9 c10 c11 nb2
        obtain ⟨wq, hwq⟩ : ∃ wq, wr.alloc (.cells #[.int .i64 n.id, .int .i64 n.pa, .int .i64 n.ba, .int .i64 n.vo, .int .i64 n.os, .int .i64 n.sn, .int .i64 n.sd, .int .i64 n.ln, .int .i64 n.ld, .int .i64 n.st, .int .i64 n.al, .int .i64 n.oc] 51) = wq := ⟨_, rfl⟩
        have hsq : wq.heap.size = wr.heap.size + 1 := by rw [← hwq]; simp
        rw [hwq] at NB hownI hownS hGa z0 z1 z2 z3 ⊢
        clear hwq
        have xl := fun x : Ext wq => run_look_bool 95 3 4 mapK Tryz.underlying95 Tryz.underlying4 (Tryz.zeroValue4 x.w) (hownS.kept (below_grown' x.h) (by simp)) hkey hat
        have x0 := fun x : Ext wq => x.cell NB.c0
        have x1 := fun x : Ext wq => x.cell NB.c1
        have x2 := fun x : Ext wq => x.cell NB.c2
        have x3 := fun x : Ext wq => x.cell NB.c3
        have x4 := fun x : Ext wq => x.cell NB.c4
        have x5 := fun x : Ext wq => x.cell NB.c5
        have x6 := fun x : Ext wq => x.cell NB.c6
        have x7 := fun x : Ext wq => x.cell NB.c7
        have x8 := fun x : Ext wq => x.cell NB.c8
        have x9 := fun x : Ext wq => x.cell NB.c9
        have x10 := fun x : Ext wq => x.cell NB.c10
        have x11 := fun x : Ext wq => x.cell NB.c11
        have u0 := fun x : Ext wq => x.cell z0
        have u1 := fun x : Ext wq => x.cell z1
        have u2 := fun x : Ext wq => x.cell z2
        have u3 := fun x : Ext wq => x.cell z3
        have hne := Ext.there wq
        clear z0 z1 z2 z3
        cases c with
        | true =>
          obtain rfl : f = false := by
            cases f with
            | false => rfl
            | true =>
              obtain ⟨m, hm, e⟩ := HCI.out.1 rfl
              exact absurd e (HDI.out rfl m hm)
          refine Ext.region (by kernel_rfl) (by kernel_rfl) ?_
          repeat (go_big_quiet_step (fail))
          refine wpQuiet_nil ?_
          rintro _ ⟨xw, rfl⟩
          have G3 := hGa.trans (xw.h.mono hGa.size)
          clear xl x0 x1 x2 x3 x4 x5 x6 x7 x8 x9 x10 x11 u0 u1 u2 u3 hne
          generalize xw.w = w3 at *
          clear xw
          go_wp2_with fail
          go_ret
          exact ⟨rfl, G3⟩
        | false =>
          have hnew : ∀ m, m < i → (atO l m).id ≠ n.id := fun m hm e => by have := HCI.out.2 ⟨m, hm, e⟩; cases this
          cases fb with
          | false =>
            obtain rfl : f = false := by
              cases f with
              | false => rfl
              | true => first | exact absurd (HFO.out.2 (HOK.out rfl)) (by decide) | exact (HFO.out.2 (HOK.out rfl)).elim
            have HFC : Hid (¬ (No.isN n.st n.al n.oc ∧ (1 ≤ n.id ∧ n.id ≤ 1000000) ∧ (1 ≤ n.pa ∧ n.pa ≤ 1000000) ∧ (0 ≤ n.vo ∧ n.vo ≤ 9) ∧ (0 ≤ n.os ∧ n.os ≤ 20) ∧ 0 ≤ No.start n ∧ 0 < No.leng n ∧ No.start n + No.leng n ≤ T)) := Lib.hid (fun h => by first | exact absurd (HFB.out.2 h) (by decide) | exact (HFB.out.2 h).elim)
            refine Ext.region (by kernel_rfl) (by kernel_rfl) ?_
            repeat (go_big_quiet_step ((go_at_call 95; exact Ext.call _ (tisnote_is n d0 d1 d2 d3 T false ⟨fun h => absurd h (by decide), fun h => absurd h HFC.out⟩ HTT.out hT0 _))))
            refine wpQuiet_nil ?_
            rintro _ ⟨xw, rfl⟩
            have G3 := hGa.trans (xw.h.mono hGa.size)
            clear xl x0 x1 x2 x3 x4 x5 x6 x7 x8 x9 x10 x11 u0 u1 u2 u3 hne
            generalize xw.w = w3 at *
            clear xw
            go_wp2_with fail
            go_ret
            exact ⟨rfl, G3⟩
          | true =>
            have HE2 := Lib.hid (HK.out hnew (by first | exact HFO.out.1 rfl | exact HFO.out.1 trivial))
            have HFC : Hid (No.isN n.st n.al n.oc ∧ (1 ≤ n.id ∧ n.id ≤ 1000000) ∧ (1 ≤ n.pa ∧ n.pa ≤ 1000000) ∧ (0 ≤ n.vo ∧ n.vo ≤ 9) ∧ (0 ≤ n.os ∧ n.os ≤ 20) ∧ 0 ≤ No.start n ∧ 0 < No.leng n ∧ No.start n + No.leng n ≤ T) := Lib.hid (by first | exact HFB.out.1 rfl | exact HFB.out.1 trivial)
            refine Ext.region (by kernel_rfl) (by kernel_rfl) ?_
            repeat (go_big_quiet_step ((go_at_call 95; exact Ext.call _ (tisnote_is n d0 d1 d2 d3 T true ⟨fun _ => HFC.out, fun _ => rfl⟩ HTT.out hT0 _))))
            refine wpQuiet_nil ?_
            rintro _ ⟨xw, rfl⟩
            have G3 := hGa.trans (xw.h.mono hGa.size)
            have hs3 := xw.h.size
            have nb0 := x0 xw
            have hownI3 := hownI.kept (below_grown' xw.h) (by simp)
            have hownS3 := hownS.kept (below_grown' xw.h) (by simp)
            clear xl x0 x1 x2 x3 x4 x5 x6 x7 x8 x9 x10 x11 u0 u1 u2 u3 hne hownI hownS hown hown1 NB
            generalize xw.w = w3 at *
            clear xw
            go_wp2_with (first | (at_mapUpdate; refine wpList_mapUpdate_own _ rfl _ _ _ 95 rfl 3 4 mapK Tryz.underlying95 _ w2.heap.size i D rfl hownS3 (by unfold maxLen; omega) _ _ _ rfl rfl hkey _ [] (plainElem_bool Tryz.underlying4 true) ?_; intro w4 hown4 hg4) | fail)
            go_roundw
            case rel => exact ⟨i + 1, q + 1, by omega, (by have := HQ.out; omega), rfl, HE2, ⟨_, hown4, HSt⟩, hownI3.kept hg4 (by simp; omega), G3.grown hg4 G3.size (fun k hk => by cases hk; omega), by have := hg4.size; omega⟩
            case measure => have := HQ.out; simp [intOf]; omega
      · rw [if_neg hr0] at hatI
        rw [decide_eq_false hr0] at hhas
        obtain rfl : f = false := by
          cases f with
          | false => rfl
          | true => have := (HOK.out rfl).1; rw [hr] at this; exact absurd this hr0
        go_wp2_with (first | (at_lookup; refine look_int_ok _ rfl _ _ 119 rfl 3 3 mapK Tryz.underlying119 Tryz.underlying3 (Tryz.zeroValue3 _) w1.heap.size blen D1 rfl hownI _ _ rfl hkeyb 0 hatI false hhas ?_) | fail)
        clear c0 c1 c2 c3 c4 c5 c6 c7 c8 c9 c10 c11 nb2
        generalize wr.alloc (.cells #[.int .i64 n.id, .int .i64 n.pa, .int .i64 n.ba, .int .i64 n.vo, .int .i64 n.os, .int .i64 n.sn, .int .i64 n.sd, .int .i64 n.ln, .int .i64 n.ld, .int .i64 n.st, .int .i64 n.al, .int .i64 n.oc] 51) = wq at *
        have hne := Ext.there wq
        refine Ext.region (by kernel_rfl) (by kernel_rfl) ?_
        repeat (go_big_quiet_step (fail))
        refine wpQuiet_nil ?_
        rintro _ ⟨xw, rfl⟩
        have G3 := hGa.trans (xw.h.mono hGa.size)
        clear hne
        generalize xw.w = w3 at *
        clear xw
        go_wp2_with fail
        go_ret
        exact ⟨rfl, G3⟩
    · obtain rfl : i = len := by omega
      obtain rfl : f = true := HIff.out.2 ⟨fun j hj => HE.out.1 j (by rw [HN.out] at hj; exact hj), fun j k hj => HE.out.2 j k (by rw [HN.out] at hj; exact hj)⟩
      have hq1 : ¬ q < (i : Int) := by omega
      clear hq
      go_wp2_with fail
      go_ret
      exact ⟨rfl, hG⟩
end Go.Proofs.YtbbjifhelbeniaaGreatDoor
