/- The walk of the reference's Same. -/
import Derived.Test.YtakbpgljbbkmkaaVd
namespace Go.Proofs.Ytakbpgljbbkmkaa
open Go.RowKit

theorem fo_ext3 {a b : List Fo.T3} (hl : a.length = b.length) (h : ∀ j, j < a.length → Fo.at3 a j = Fo.at3 b j) : a = b := by
  refine List.ext_getElem hl fun j h1 h2 => ?_
  have := h j h1
  rwa [Fo.at3_eq h1, Fo.at3_eq h2] at this
set_option maxHeartbeats 6400000 in
theorem rsameF_is (ha hb : FH) (fa fb : Fo.Fm) (r : Bool) (hr : r = true ↔ fa = fb) (m1 : ha.rl ≤ 1000000) (m2 : ha.el ≤ 1000000) (m3 : ha.cl ≤ 1000000) (w : World) (hA : SlF w ha fa) (hB : SlF w hb fb) :
    Calls Try.prog 20 #[.agg #[.int .i64 ha.n, .slice ha.R ha.rl ha.rc, .slice ha.E ha.el ha.ec, .int .i64 ha.ja, .int .i64 ha.jt, .int .i64 ha.jf, .slice ha.C ha.cl ha.cc], .agg #[.int .i64 hb.n, .slice hb.R hb.rl hb.rc, .slice hb.E hb.el hb.ec, .int .i64 hb.ja, .int .i64 hb.jt, .int .i64 hb.jf, .slice hb.C hb.cl hb.cc]] w fun e w' => e = .returned (.bool r) ∧ Below w.heap.size w w' := by
  obtain ⟨na, Ra, rla, rca, Ea, ela, eca, jaa, jta, jfa, Ca, cla, cca⟩ := ha
  obtain ⟨nb, Rb, rlb, rcb, Eb, elb, ecb, jab, jtb, jfb, Cb, clb, ccb⟩ := hb
  obtain ⟨a1, a2, a3, a4, a5, a6, a7, a8, a9, a10⟩ := hA
  obtain ⟨b1, b2, b3, b4, b5, b6, b7, b8, b9, b10⟩ := hB
  dsimp only at m1 m2 m3 a1 a2 a3 a4 a5 a6 a7 a8 a9 a10 b1 b2 b3 b4 b5 b6 b7 b8 b9 b10 ⊢
  have B := ((Below.refl w.heap.size w).alloc (Nat.le_refl _) (.cells #[.int .i64 na, .slice Ra rla rca, .slice Ea ela eca, .int .i64 jaa, .int .i64 jta, .int .i64 jfa, .slice Ca cla cca] 28)).alloc (by simp) (.cells #[.int .i64 nb, .slice Rb rlb rcb, .slice Eb elb ecb, .int .i64 jab, .int .i64 jtb, .int .i64 jfb, .slice Cb clb ccb] 28)
  have Q1 := (FB.new w ⟨na, Ra, rla, rca, Ea, ela, eca, jaa, jta, jfa, Ca, cla, cca⟩).alloc (.cells #[.int .i64 nb, .slice Rb rlb rcb, .slice Eb elb ecb, .int .i64 jab, .int .i64 jtb, .int .i64 jfb, .slice Cb clb ccb] 28)
  have Q2 := FB.new (w.alloc (.cells #[.int .i64 na, .slice Ra rla rca, .slice Ea ela eca, .int .i64 jaa, .int .i64 jta, .int .i64 jfa, .slice Ca cla cca] 28)) ⟨nb, Rb, rlb, rcb, Eb, elb, ecb, jab, jtb, jfb, Cb, clb, ccb⟩
  have e0 : (w.alloc (.cells #[.int .i64 na, .slice Ra rla rca, .slice Ea ela eca, .int .i64 jaa, .int .i64 jta, .int .i64 jfa, .slice Ca cla cca] 28)).heap.size = w.heap.size + 1 := by simp
  rw [e0] at Q2
  dsimp only at Q1 Q2
  have S1 := Lib.hid ((a8.alloc (.cells #[.int .i64 na, .slice Ra rla rca, .slice Ea ela eca, .int .i64 jaa, .int .i64 jta, .int .i64 jfa, .slice Ca cla cca] 28)).alloc (.cells #[.int .i64 nb, .slice Rb rlb rcb, .slice Eb elb ecb, .int .i64 jab, .int .i64 jtb, .int .i64 jfb, .slice Cb clb ccb] 28)); have S2 := Lib.hid ((a9.alloc (.cells #[.int .i64 na, .slice Ra rla rca, .slice Ea ela eca, .int .i64 jaa, .int .i64 jta, .int .i64 jfa, .slice Ca cla cca] 28)).alloc (.cells #[.int .i64 nb, .slice Rb rlb rcb, .slice Eb elb ecb, .int .i64 jab, .int .i64 jtb, .int .i64 jfb, .slice Cb clb ccb] 28)); have S3 := Lib.hid ((a10.alloc (.cells #[.int .i64 na, .slice Ra rla rca, .slice Ea ela eca, .int .i64 jaa, .int .i64 jta, .int .i64 jfa, .slice Ca cla cca] 28)).alloc (.cells #[.int .i64 nb, .slice Rb rlb rcb, .slice Eb elb ecb, .int .i64 jab, .int .i64 jtb, .int .i64 jfb, .slice Cb clb ccb] 28))
  have T1 := Lib.hid ((b8.alloc (.cells #[.int .i64 na, .slice Ra rla rca, .slice Ea ela eca, .int .i64 jaa, .int .i64 jta, .int .i64 jfa, .slice Ca cla cca] 28)).alloc (.cells #[.int .i64 nb, .slice Rb rlb rcb, .slice Eb elb ecb, .int .i64 jab, .int .i64 jtb, .int .i64 jfb, .slice Cb clb ccb] 28)); have T2 := Lib.hid ((b9.alloc (.cells #[.int .i64 na, .slice Ra rla rca, .slice Ea ela eca, .int .i64 jaa, .int .i64 jta, .int .i64 jfa, .slice Ca cla cca] 28)).alloc (.cells #[.int .i64 nb, .slice Rb rlb rcb, .slice Eb elb ecb, .int .i64 jab, .int .i64 jtb, .int .i64 jfb, .slice Cb clb ccb] 28)); have T3 := Lib.hid ((b10.alloc (.cells #[.int .i64 na, .slice Ra rla rca, .slice Ea ela eca, .int .i64 jaa, .int .i64 jta, .int .i64 jfa, .slice Ca cla cca] 28)).alloc (.cells #[.int .i64 nb, .slice Rb rlb rcb, .slice Eb elb ecb, .int .i64 jab, .int .i64 jtb, .int .i64 jfb, .slice Cb clb ccb] 28))
  have HR := Lib.hid hr
  have LA := Lib.hid (And.intro a5 (And.intro a6 a7)); have LB := Lib.hid (And.intro b5 (And.intro b6 b7))
  have NA := Lib.hid (And.intro a1 (And.intro a2 (And.intro a3 a4))); have NB := Lib.hid (And.intro b1 (And.intro b2 (And.intro b3 b4)))
  clear hr a1 a2 a3 a4 a5 a6 a7 a8 a9 a10 b1 b2 b3 b4 b5 b6 b7 b8 b9 b10 e0
  obtain ⟨g, hg⟩ : ∃ g : Bool, g = true ↔ (⟨jaa, jta, jfa⟩ : Fo.T3) = ⟨jab, jtb, jfb⟩ := ⟨decide _, decide_eq_true_iff⟩
  have heq := fun W => eqJump ⟨jaa, jta, jfa⟩ ⟨jab, jtb, jfb⟩ g hg W
  dsimp only at heq
  have HG := Lib.hid hg
  clear hg
  by_cases hn : na = nb
  case neg =>
    have hz : r = false := by
      cases r with
      | false => rfl
      | true =>
        have k := HR.out.1 rfl
        have x1 := LA.out; have x2 := LB.out; have x3 := NA.out; have x4 := NB.out
        rw [k] at x1 x3
        exact absurd (by rw [← x3.1, ← x4.1]) hn
    subst hz
    clear S1 S2 S3 T1 T2 T3 Q1 Q2
    go_enter Try.func20, Try.ntmps20
    go_wp2_with (first | (simp only [heq]) | fail)
    go_ret
    exact ⟨rfl, B⟩
  subst hn
  cases g with
  | false =>
    have hz : r = false := by
      cases r with
      | false => rfl
      | true =>
        have k := HR.out.1 rfl
        have x1 := LA.out; have x2 := LB.out; have x3 := NA.out; have x4 := NB.out
        rw [k] at x1 x3
        exact absurd (HG.out.2 (by rw [← x3.2.1, ← x3.2.2.1, ← x3.2.2.2, ← x4.2.1, ← x4.2.2.1, ← x4.2.2.2])) (by simp)
    subst hz
    clear S1 S2 S3 T1 T2 T3 Q1 Q2
    go_enter Try.func20, Try.ntmps20
    go_wp2_with (first | (simp only [heq]) | fail)
    go_ret
    exact ⟨rfl, B⟩
  | true =>
  by_cases hl0 : rla = rlb
  case neg =>
    have hz : r = false := by
      cases r with
      | false => rfl
      | true =>
        have k := HR.out.1 rfl
        have x1 := LA.out; have x2 := LB.out; have x3 := NA.out; have x4 := NB.out
        rw [k] at x1 x3
        exact absurd (by rw [← x1.1, ← x2.1]) hl0
    subst hz
    have hl9 : ¬ (rla : Int) = (rlb : Int) := by omega
    clear S1 S2 S3 T1 T2 T3 Q1 Q2
    go_enter Try.func20, Try.ntmps20
    go_wp2_with (first | (simp only [heq]) | fail)
    go_ret
    exact ⟨rfl, B⟩
  subst hl0
  by_cases hl1 : ela = elb
  case neg =>
    have hz : r = false := by
      cases r with
      | false => rfl
      | true =>
        have k := HR.out.1 rfl
        have x1 := LA.out; have x2 := LB.out; have x3 := NA.out; have x4 := NB.out
        rw [k] at x1 x3
        exact absurd (by rw [← x1.2.1, ← x2.2.1]) hl1
    subst hz
    have hl9 : ¬ (ela : Int) = (elb : Int) := by omega
    clear S1 S2 S3 T1 T2 T3 Q1 Q2
    go_enter Try.func20, Try.ntmps20
    go_wp2_with (first | (simp only [heq]) | fail)
    go_ret
    exact ⟨rfl, B⟩
  subst hl1
  by_cases hl2 : cla = clb
  case neg =>
    have hz : r = false := by
      cases r with
      | false => rfl
      | true =>
        have k := HR.out.1 rfl
        have x1 := LA.out; have x2 := LB.out; have x3 := NA.out; have x4 := NB.out
        rw [k] at x1 x3
        exact absurd (by rw [← x1.2.2, ← x2.2.2]) hl2
    subst hz
    have hl9 : ¬ (cla : Int) = (clb : Int) := by omega
    clear S1 S2 S3 T1 T2 T3 Q1 Q2
    go_enter Try.func20, Try.ntmps20
    go_wp2_with (first | (simp only [heq]) | fail)
    go_ret
    exact ⟨rfl, B⟩
  subst hl2
  have HJJ : Hid (jaa = jab ∧ jta = jtb ∧ jfa = jfb) := Lib.hid (by have k := HG.out.1 rfl; simpa using k)
  clear HG
  go_enter Try.func20, Try.ntmps20
  go_wp2_with (first | (simp only [heq]) | fail)
  clear heq
  obtain ⟨W1, hW1⟩ : ∃ W1, (w.alloc (.cells #[.int .i64 na, .slice Ra rla rca, .slice Ea ela eca, .int .i64 jaa, .int .i64 jta, .int .i64 jfa, .slice Ca cla cca] 28)).alloc (.cells #[.int .i64 na, .slice Rb rla rcb, .slice Eb ela ecb, .int .i64 jab, .int .i64 jtb, .int .i64 jfb, .slice Cb cla ccb] 28) = W1 := ⟨_, rfl⟩
  rw [hW1] at B Q1 Q2 S1 S2 S3 T1 T2 T3
  (try simp only [hW1])
  clear hW1
  have HQ1 := Lib.hid Q1; have HQ2 := Lib.hid Q2; have HB := Lib.hid B
  clear Q1 Q2 B
  go_loopw [5] (fun s5 wr => ∃ (i : Nat), i ≤ rla ∧ s5 = .int .i64 (i : Int) ∧ Hid (∀ j, j < i → Fo.at3 fa.rs j = Fo.at3 fb.rs j) ∧ Below W1.heap.size W1 wr) (fun s5 _ => rla - (intOf s5).toNat)
  case atStart => exact ⟨0, Nat.zero_le _, rfl, Lib.hid (fun j hj => by omega), Below.refl _ _⟩
  case round =>
    obtain ⟨i, hi, rfl, HJ, hR0⟩ := hrel
    have q1 := (HQ1.out.below hR0).c1; have q2 := (HQ2.out.below hR0).c1
    by_cases hlt : i < rla
    case pos =>
      have hia : i < fa.rs.length := by rw [LA.out.1]; exact hlt
      have hib : i < fb.rs.length := by rw [LB.out.1]; exact hlt
      obtain ⟨bA, oA, eA, hbA, hcA⟩ := S1.out (by omega)
      obtain ⟨bD, oD, eD, hbD, hcD⟩ := T1.out (by omega)
      have X := (hcA i hia).below hR0 hbA
      have Y := (hcD i hib).below hR0 hbD
      obtain ⟨x, hx⟩ : ∃ x, Fo.at3 fa.rs i = x := ⟨_, rfl⟩
      obtain ⟨y, hy⟩ : ∃ y, Fo.at3 fb.rs i = y := ⟨_, rfl⟩
      rw [hx] at X
      rw [hy] at Y
      dsimp only at q1 q2
      rw [eA] at q1
      rw [eD] at q2
      have p1 := fun y : Ext wr => y.cell q1; have p2 := fun y : Ext wr => y.cell q2
      have z0 := fun y : Ext wr => y.cell X.c0; have z1 := fun y : Ext wr => y.cell X.c1; have z2 := fun y : Ext wr => y.cell X.c2
      have k0 := fun y : Ext wr => y.cell Y.c0; have k1 := fun y : Ext wr => y.cell Y.c1; have k2 := fun y : Ext wr => y.cell Y.c2
      have hne := Ext.there wr
      have HX := Lib.hid hx; have HY := Lib.hid hy; have HIA := Lib.hid hia
      have hi1 : (i : Int) < (rla : Int) := by omega
      clear hcA hcD hx hy hia hib X Y eA eD
      go_wp2_with fail
      obtain ⟨g, hg⟩ : ∃ g : Bool, g = true ↔ x = y := ⟨decide (x = y), by simp⟩
      have heq := fun W => eqRepeat x y g hg W
      have HG := Lib.hid hg
      clear hg
      refine Ext.region (by kernel_rfl) (by kernel_rfl) ?_
      repeat (go_big_quiet_step (simp only [heq]))
      refine wpQuiet_nil ?_
      rintro _ ⟨xw, rfl⟩
      have hR9 := hR0.trans (xw.h.mono hR0.size)
      clear p1 p2 z0 z1 z2 k0 k1 k2 hne heq q1 q2
      generalize xw.w = w3 at *
      clear xw
      cases g with
      | true =>
        have HJ2 : Hid (∀ j, j < i + 1 → Fo.at3 fa.rs j = Fo.at3 fb.rs j) := Lib.hid (fun j hj => by
          rcases Nat.lt_or_ge j i with h | h
          · exact HJ.out j h
          · rw [show j = i by omega, HX.out, HY.out]; exact HG.out.1 rfl)
        go_wp2_with fail
        go_roundw
        case rel => exact ⟨i + 1, by omega, by simp, HJ2, hR9⟩
        case measure => simp [intOf]; omega
      | false =>
        obtain rfl : r = false := by
          cases r with
          | false => rfl
          | true =>
            have k := HR.out.1 rfl
            have := HG.out.2 (by rw [← HX.out, ← HY.out, k])
            cases this
        go_wp2_with fail
        go_ret
        exact ⟨rfl, HB.out.trans (hR9.mono HB.out.size)⟩
    case neg =>
      obtain rfl : i = rla := by omega
      have E0 : Hid (fa.rs = fb.rs) := Lib.hid (fo_ext3 (by rw [LA.out.1, LB.out.1]) (by rw [LA.out.1]; exact HJ.out))
      go_wp2_with fail
      clear q1 q2
      go_loopw [6] (fun s5 wr => ∃ (i : Nat), i ≤ ela ∧ s5 = .int .i64 (i : Int) ∧ Hid (∀ j, j < i → Fo.at3 fa.es j = Fo.at3 fb.es j) ∧ Below W1.heap.size W1 wr) (fun s5 _ => ela - (intOf s5).toNat)
      case atStart => exact ⟨0, Nat.zero_le _, rfl, Lib.hid (fun j hj => by omega), hR0⟩
      case round =>
        obtain ⟨i, hi, rfl, HJ, hR1⟩ := hrel
        have q1 := (HQ1.out.below hR1).c2; have q2 := (HQ2.out.below hR1).c2
        by_cases hlt : i < ela
        case pos =>
          have hia : i < fa.es.length := by rw [LA.out.2.1]; exact hlt
          have hib : i < fb.es.length := by rw [LB.out.2.1]; exact hlt
          obtain ⟨bA, oA, eA, hbA, hcA⟩ := S2.out (by omega)
          obtain ⟨bD, oD, eD, hbD, hcD⟩ := T2.out (by omega)
          have X := (hcA i hia).below hR1 hbA
          have Y := (hcD i hib).below hR1 hbD
          obtain ⟨x, hx⟩ : ∃ x, Fo.at3 fa.es i = x := ⟨_, rfl⟩
          obtain ⟨y, hy⟩ : ∃ y, Fo.at3 fb.es i = y := ⟨_, rfl⟩
          rw [hx] at X
          rw [hy] at Y
          dsimp only at q1 q2
          rw [eA] at q1
          rw [eD] at q2
          have p1 := fun y : Ext wr => y.cell q1; have p2 := fun y : Ext wr => y.cell q2
          have z0 := fun y : Ext wr => y.cell X.c0; have z1 := fun y : Ext wr => y.cell X.c1; have z2 := fun y : Ext wr => y.cell X.c2
          have k0 := fun y : Ext wr => y.cell Y.c0; have k1 := fun y : Ext wr => y.cell Y.c1; have k2 := fun y : Ext wr => y.cell Y.c2
          have hne := Ext.there wr
          have HX := Lib.hid hx; have HY := Lib.hid hy; have HIA := Lib.hid hia
          have hi1 : (i : Int) < (ela : Int) := by omega
          clear hcA hcD hx hy hia hib X Y eA eD
          go_wp2_with fail
          obtain ⟨g, hg⟩ : ∃ g : Bool, g = true ↔ x = y := ⟨decide (x = y), by simp⟩
          have heq := fun W => eqEnding x y g hg W
          have HG := Lib.hid hg
          clear hg
          refine Ext.region (by kernel_rfl) (by kernel_rfl) ?_
          repeat (go_big_quiet_step (simp only [heq]))
          refine wpQuiet_nil ?_
          rintro _ ⟨xw, rfl⟩
          have hR9 := hR1.trans (xw.h.mono hR1.size)
          clear p1 p2 z0 z1 z2 k0 k1 k2 hne heq q1 q2
          generalize xw.w = w3 at *
          clear xw
          cases g with
          | true =>
            have HJ2 : Hid (∀ j, j < i + 1 → Fo.at3 fa.es j = Fo.at3 fb.es j) := Lib.hid (fun j hj => by
              rcases Nat.lt_or_ge j i with h | h
              · exact HJ.out j h
              · rw [show j = i by omega, HX.out, HY.out]; exact HG.out.1 rfl)
            go_wp2_with fail
            go_roundw
            case rel => exact ⟨i + 1, by omega, by simp, HJ2, hR9⟩
            case measure => simp [intOf]; omega
          | false =>
            obtain rfl : r = false := by
              cases r with
              | false => rfl
              | true =>
                have k := HR.out.1 rfl
                have := HG.out.2 (by rw [← HX.out, ← HY.out, k])
                cases this
            go_wp2_with fail
            go_ret
            exact ⟨rfl, HB.out.trans (hR9.mono HB.out.size)⟩
        case neg =>
          obtain rfl : i = ela := by omega
          have E1 : Hid (fa.es = fb.es) := Lib.hid (fo_ext3 (by rw [LA.out.2.1, LB.out.2.1]) (by rw [LA.out.2.1]; exact HJ.out))
          go_wp2_with fail
          clear q1 q2
          go_loopw [7] (fun s5 wr => ∃ (i : Nat), i ≤ cla ∧ s5 = .int .i64 (i : Int) ∧ Hid (∀ j, j < i → Fo.at3 fa.cs j = Fo.at3 fb.cs j) ∧ Below W1.heap.size W1 wr) (fun s5 _ => cla - (intOf s5).toNat)
          case atStart => exact ⟨0, Nat.zero_le _, rfl, Lib.hid (fun j hj => by omega), hR1⟩
          case round =>
            obtain ⟨i, hi, rfl, HJ, hR2⟩ := hrel
            have q1 := (HQ1.out.below hR2).c6; have q2 := (HQ2.out.below hR2).c6
            by_cases hlt : i < cla
            case pos =>
              have hia : i < fa.cs.length := by rw [LA.out.2.2]; exact hlt
              have hib : i < fb.cs.length := by rw [LB.out.2.2]; exact hlt
              obtain ⟨bA, oA, eA, hbA, hcA⟩ := S3.out (by omega)
              obtain ⟨bD, oD, eD, hbD, hcD⟩ := T3.out (by omega)
              have X := (hcA i hia).below hR2 hbA
              have Y := (hcD i hib).below hR2 hbD
              obtain ⟨x, hx⟩ : ∃ x, Fo.at3 fa.cs i = x := ⟨_, rfl⟩
              obtain ⟨y, hy⟩ : ∃ y, Fo.at3 fb.cs i = y := ⟨_, rfl⟩
              rw [hx] at X
              rw [hy] at Y
              dsimp only at q1 q2
              rw [eA] at q1
              rw [eD] at q2
              have p1 := fun y : Ext wr => y.cell q1; have p2 := fun y : Ext wr => y.cell q2
              have z0 := fun y : Ext wr => y.cell X.c0; have z1 := fun y : Ext wr => y.cell X.c1; have z2 := fun y : Ext wr => y.cell X.c2
              have k0 := fun y : Ext wr => y.cell Y.c0; have k1 := fun y : Ext wr => y.cell Y.c1; have k2 := fun y : Ext wr => y.cell Y.c2
              have hne := Ext.there wr
              have HX := Lib.hid hx; have HY := Lib.hid hy; have HIA := Lib.hid hia
              have hi1 : (i : Int) < (cla : Int) := by omega
              clear hcA hcD hx hy hia hib X Y eA eD
              go_wp2_with fail
              obtain ⟨g, hg⟩ : ∃ g : Bool, g = true ↔ x = y := ⟨decide (x = y), by simp⟩
              have heq := fun W => eqCut x y g hg W
              have HG := Lib.hid hg
              clear hg
              refine Ext.region (by kernel_rfl) (by kernel_rfl) ?_
              repeat (go_big_quiet_step (simp only [heq]))
              refine wpQuiet_nil ?_
              rintro _ ⟨xw, rfl⟩
              have hR9 := hR2.trans (xw.h.mono hR2.size)
              clear p1 p2 z0 z1 z2 k0 k1 k2 hne heq q1 q2
              generalize xw.w = w3 at *
              clear xw
              cases g with
              | true =>
                have HJ2 : Hid (∀ j, j < i + 1 → Fo.at3 fa.cs j = Fo.at3 fb.cs j) := Lib.hid (fun j hj => by
                  rcases Nat.lt_or_ge j i with h | h
                  · exact HJ.out j h
                  · rw [show j = i by omega, HX.out, HY.out]; exact HG.out.1 rfl)
                go_wp2_with fail
                go_roundw
                case rel => exact ⟨i + 1, by omega, by simp, HJ2, hR9⟩
                case measure => simp [intOf]; omega
              | false =>
                obtain rfl : r = false := by
                  cases r with
                  | false => rfl
                  | true =>
                    have k := HR.out.1 rfl
                    have := HG.out.2 (by rw [← HX.out, ← HY.out, k])
                    cases this
                go_wp2_with fail
                go_ret
                exact ⟨rfl, HB.out.trans (hR9.mono HB.out.size)⟩
            case neg =>
              obtain rfl : i = cla := by omega
              have E2 : Hid (fa.cs = fb.cs) := Lib.hid (fo_ext3 (by rw [LA.out.2.2, LB.out.2.2]) (by rw [LA.out.2.2]; exact HJ.out))
              obtain rfl : r = true := HR.out.2 (by
                have x3 := NA.out; have x4 := NB.out; have x5 := HJJ.out
                cases fa; cases fb
                simp only [Fo.Fm.mk.injEq]
                refine ⟨?_, ?_, ?_, ?_, ?_, ?_, ?_⟩ <;> first | exact E0.out | exact E1.out | exact E2.out | (dsimp only at x3 x4; omega))
              go_wp2_with fail
              go_ret
              exact ⟨rfl, HB.out.trans (hR2.mono HB.out.size)⟩
end Go.Proofs.Ytakbpgljbbkmkaa
