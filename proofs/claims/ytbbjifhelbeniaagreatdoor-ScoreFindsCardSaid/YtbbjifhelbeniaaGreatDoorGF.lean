import Derived.Test.YtbbjifhelbeniaaGreatDoorGE
import Derived.Test.YtbbjifhelbeniaaGreatDoorGA
import Derived.LoopTactic
/- The walks of the reference's in, Bar, and of the pitches' IsNote and Sound. -/
namespace Go.Proofs.YtbbjifhelbeniaaGreatDoor
open Go.RowKit

set_option maxHeartbeats 400000 in
theorem rin_is (n lo hi : Int) (f : Bool) (h : decide (lo ≤ n ∧ n ≤ hi) = f) (w : World) :
    Calls Tryz.prog 84 #[.int .i64 n, .int .i64 lo, .int .i64 hi] w fun e w' => e = .returned (.bool f) ∧ Below w.heap.size w w' := by
  by_cases h1 : lo ≤ n
  · by_cases h2 : n ≤ hi
    · obtain rfl : f = true := by rw [← h]; exact decide_eq_true ⟨h1, h2⟩
      clear h
      go_enter Tryz.func84, Tryz.ntmps84
      go_wp2_with fail
      go_ret
      exact ⟨rfl, Below.refl _ _⟩
    · obtain rfl : f = false := by rw [← h]; exact decide_eq_false (fun e => h2 e.2)
      clear h
      go_enter Tryz.func84, Tryz.ntmps84
      go_wp2_with fail
      go_ret
      exact ⟨rfl, Below.refl _ _⟩
  · obtain rfl : f = false := by rw [← h]; exact decide_eq_false (fun e => h1 e.1)
    clear h
    go_enter Tryz.func84, Tryz.ntmps84
    go_wp2_with fail
    go_ret
    exact ⟨rfl, Below.refl _ _⟩

set_option maxHeartbeats 400000 in
theorem pin_is (n lo hi : Int) (f : Bool) (h : decide (lo ≤ n ∧ n ≤ hi) = f) (w : World) :
    Calls Tryz.prog 109 #[.int .i64 n, .int .i64 lo, .int .i64 hi] w fun e w' => e = .returned (.bool f) ∧ Below w.heap.size w w' := by
  by_cases h1 : lo ≤ n
  · by_cases h2 : n ≤ hi
    · obtain rfl : f = true := by rw [← h]; exact decide_eq_true ⟨h1, h2⟩
      clear h
      go_enter Tryz.func109, Tryz.ntmps109
      go_wp2_with fail
      go_ret
      exact ⟨rfl, Below.refl _ _⟩
    · obtain rfl : f = false := by rw [← h]; exact decide_eq_false (fun e => h2 e.2)
      clear h
      go_enter Tryz.func109, Tryz.ntmps109
      go_wp2_with fail
      go_ret
      exact ⟨rfl, Below.refl _ _⟩
  · obtain rfl : f = false := by rw [← h]; exact decide_eq_false (fun e => h1 e.1)
    clear h
    go_enter Tryz.func109, Tryz.ntmps109
    go_wp2_with fail
    go_ret
    exact ⟨rfl, Below.refl _ _⟩

set_option maxHeartbeats 400000 in
theorem rnatural_is (s t : Int) (h : No.nat7 s = t) (h0 : 0 ≤ s) (h1 : s ≤ 6) (w : World) :
    Calls Tryz.prog 60 #[.int .i64 s] w fun e w' => e = .returned (.int .i64 t) ∧ Below w.heap.size w w' := by
  unfold No.nat7 at h
  by_cases h2 : 2 < s
  · rw [if_pos h2] at h
    have HT := Lib.hid h
    clear h
    go_enter Tryz.func60, Tryz.ntmps60
    go_wp2_with fail
    go_ret
    exact ⟨by rw [← HT.out]; rfl, Below.refl _ _⟩
  · rw [if_neg h2] at h
    have HT := Lib.hid h
    clear h
    go_enter Tryz.func60, Tryz.ntmps60
    go_wp2_with fail
    go_ret
    exact ⟨by rw [← HT.out]; rfl, Below.refl _ _⟩
set_option maxHeartbeats 800000 in
theorem rpvalid_is (s a o : Int) (f : Bool) (h : decide ((0 ≤ s ∧ s ≤ 6) ∧ (-4 ≤ a ∧ a ≤ 4) ∧ (-8 ≤ o ∧ o ≤ 20)) = f) (w : World) :
    Calls Tryz.prog 92 #[.agg #[.int .i64 s, .int .i64 a, .int .i64 o]] w fun e w' => e = .returned (.bool f) ∧ Below w.heap.size w w' := by
  have G0 := (Below.refl w.heap.size w).alloc (Nat.le_refl _) (.cells #[.int .i64 s, .int .i64 a, .int .i64 o] 47)
  have A0 : At3 (w.alloc (.cells #[.int .i64 s, .int .i64 a, .int .i64 o] 47)) w.heap.size s a o := At3.new _ _ _ _ _
  obtain ⟨g1, h1⟩ : ∃ g, decide (0 ≤ s ∧ s ≤ 6) = g := ⟨_, rfl⟩
  obtain ⟨g2, h2⟩ : ∃ g, decide (-4 ≤ a ∧ a ≤ 4) = g := ⟨_, rfl⟩
  obtain ⟨g3, h3⟩ : ∃ g, decide (-8 ≤ o ∧ o ≤ 20) = g := ⟨_, rfl⟩
  have hf : (g1 && g2 && g3) = f := by
    rw [Bool.eq_iff_iff, ← h, ← h1, ← h2, ← h3]
    simp only [Bool.and_eq_true, decide_eq_true_eq, and_assoc]
  have H1 := Lib.hid h1
  have H2 := Lib.hid h2
  have H3 := Lib.hid h3
  clear h h1 h2 h3
  cases g1 with
  | false =>
    cases g2 with
    | false =>
      go_enter Tryz.func92, Tryz.ntmps92
      go_wp2_with fail
      refine (pin_is s 0 6 false H1.out _).mono ?_; rintro e w1 ⟨rfl, hb⟩
      have A1 := A0.below hb
      have G1 := G0.trans (hb.mono G0.size)
      obtain ⟨c0, c1, c2⟩ := And.intro A1.c0 (And.intro A1.c1 A1.c2)
      clear hb
      go_wp2_with fail
      clear c0 c1 c2
      refine (pin_is a (-4) 4 false H2.out _).mono ?_; rintro e w2 ⟨rfl, hb⟩
      have A2 := A1.below hb
      have G2 := G1.trans (hb.mono G1.size)
      obtain ⟨c0, c1, c2⟩ := And.intro A2.c0 (And.intro A2.c1 A2.c2)
      clear hb
      go_wp2_with fail
      clear c0 c1 c2
      go_ret
      exact ⟨by rw [← hf]; rfl, G2⟩
    | true =>
      go_enter Tryz.func92, Tryz.ntmps92
      go_wp2_with fail
      refine (pin_is s 0 6 false H1.out _).mono ?_; rintro e w1 ⟨rfl, hb⟩
      have A1 := A0.below hb
      have G1 := G0.trans (hb.mono G0.size)
      obtain ⟨c0, c1, c2⟩ := And.intro A1.c0 (And.intro A1.c1 A1.c2)
      clear hb
      go_wp2_with fail
      clear c0 c1 c2
      refine (pin_is a (-4) 4 true H2.out _).mono ?_; rintro e w2 ⟨rfl, hb⟩
      have A2 := A1.below hb
      have G2 := G1.trans (hb.mono G1.size)
      obtain ⟨c0, c1, c2⟩ := And.intro A2.c0 (And.intro A2.c1 A2.c2)
      clear hb
      go_wp2_with fail
      clear c0 c1 c2
      go_ret
      exact ⟨by rw [← hf]; rfl, G2⟩
  | true =>
    cases g2 with
    | false =>
      go_enter Tryz.func92, Tryz.ntmps92
      go_wp2_with fail
      refine (pin_is s 0 6 true H1.out _).mono ?_; rintro e w1 ⟨rfl, hb⟩
      have A1 := A0.below hb
      have G1 := G0.trans (hb.mono G0.size)
      obtain ⟨c0, c1, c2⟩ := And.intro A1.c0 (And.intro A1.c1 A1.c2)
      clear hb
      go_wp2_with fail
      clear c0 c1 c2
      refine (pin_is a (-4) 4 false H2.out _).mono ?_; rintro e w2 ⟨rfl, hb⟩
      have A2 := A1.below hb
      have G2 := G1.trans (hb.mono G1.size)
      obtain ⟨c0, c1, c2⟩ := And.intro A2.c0 (And.intro A2.c1 A2.c2)
      clear hb
      go_wp2_with fail
      clear c0 c1 c2
      go_ret
      exact ⟨by rw [← hf]; rfl, G2⟩
    | true =>
      go_enter Tryz.func92, Tryz.ntmps92
      go_wp2_with fail
      refine (pin_is s 0 6 true H1.out _).mono ?_; rintro e w1 ⟨rfl, hb⟩
      have A1 := A0.below hb
      have G1 := G0.trans (hb.mono G0.size)
      obtain ⟨c0, c1, c2⟩ := And.intro A1.c0 (And.intro A1.c1 A1.c2)
      clear hb
      go_wp2_with fail
      clear c0 c1 c2
      refine (pin_is a (-4) 4 true H2.out _).mono ?_; rintro e w2 ⟨rfl, hb⟩
      have A2 := A1.below hb
      have G2 := G1.trans (hb.mono G1.size)
      obtain ⟨c0, c1, c2⟩ := And.intro A2.c0 (And.intro A2.c1 A2.c2)
      clear hb
      go_wp2_with fail
      clear c0 c1 c2
      refine (pin_is o (-8) 20 g3 H3.out _).mono ?_; rintro e w3 ⟨rfl, hb⟩
      have G3 := G2.trans (hb.mono G2.size)
      clear hb
      go_wp2_with fail
      go_ret
      exact ⟨by rw [← hf]; rfl, G3⟩
set_option maxHeartbeats 800000 in
theorem risnote_is (s a o : Int) (f : Bool) (h : f = true ↔ No.isN s a o) (w : World) :
    Calls Tryz.prog 83 #[.agg #[.int .i64 s, .int .i64 a, .int .i64 o]] w fun e w' => e = .returned (.bool f) ∧ Below w.heap.size w w' := by
  have G0 := (Below.refl w.heap.size w).alloc (Nat.le_refl _) (.cells #[.int .i64 s, .int .i64 a, .int .i64 o] 47)
  have A0 : At3 (w.alloc (.cells #[.int .i64 s, .int .i64 a, .int .i64 o] 47)) w.heap.size s a o := At3.new _ _ _ _ _
  obtain ⟨g1, h1⟩ : ∃ g, decide ((0 ≤ s ∧ s ≤ 6) ∧ (-4 ≤ a ∧ a ≤ 4) ∧ (-8 ≤ o ∧ o ≤ 20)) = g := ⟨_, rfl⟩
  obtain ⟨g2, h2⟩ : ∃ g, decide (-2 ≤ a ∧ a ≤ 2) = g := ⟨_, rfl⟩
  obtain ⟨g3, h3⟩ : ∃ g, decide (0 ≤ o ∧ o ≤ 9) = g := ⟨_, rfl⟩
  have hf : (g1 && g2 && g3) = f := by
    rw [Bool.eq_iff_iff, h, ← h1, ← h2, ← h3]
    unfold No.isN
    simp only [Bool.and_eq_true, decide_eq_true_eq]
    omega
  have H1 := Lib.hid h1
  have H2 := Lib.hid h2
  have H3 := Lib.hid h3
  clear h h1 h2 h3
  cases g1 with
  | false =>
    go_enter Tryz.func83, Tryz.ntmps83
    go_wp2_with fail
    refine (rpvalid_is s a o false H1.out _).mono ?_; rintro e w1 ⟨rfl, hb⟩
    have A1 := A0.below hb
    have G1 := G0.trans (hb.mono G0.size)
    obtain ⟨c0, c1, c2⟩ := And.intro A1.c0 (And.intro A1.c1 A1.c2)
    clear hb
    go_wp2_with fail
    clear c0 c1 c2
    go_ret
    exact ⟨by rw [← hf]; rfl, G1⟩
  | true =>
    cases g2 with
    | false =>
      go_enter Tryz.func83, Tryz.ntmps83
      go_wp2_with fail
      refine (rpvalid_is s a o true H1.out _).mono ?_; rintro e w1 ⟨rfl, hb⟩
      have A1 := A0.below hb
      have G1 := G0.trans (hb.mono G0.size)
      obtain ⟨c0, c1, c2⟩ := And.intro A1.c0 (And.intro A1.c1 A1.c2)
      clear hb
      go_wp2_with fail
      clear c0 c1 c2
      refine (pin_is a (-2) 2 false H2.out _).mono ?_; rintro e w2 ⟨rfl, hb⟩
      have A2 := A1.below hb
      have G2 := G1.trans (hb.mono G1.size)
      obtain ⟨c0, c1, c2⟩ := And.intro A2.c0 (And.intro A2.c1 A2.c2)
      clear hb
      go_wp2_with fail
      clear c0 c1 c2
      go_ret
      exact ⟨by rw [← hf]; rfl, G2⟩
    | true =>
      go_enter Tryz.func83, Tryz.ntmps83
      go_wp2_with fail
      refine (rpvalid_is s a o true H1.out _).mono ?_; rintro e w1 ⟨rfl, hb⟩
      have A1 := A0.below hb
      have G1 := G0.trans (hb.mono G0.size)
      obtain ⟨c0, c1, c2⟩ := And.intro A1.c0 (And.intro A1.c1 A1.c2)
      clear hb
      go_wp2_with fail
      clear c0 c1 c2
      refine (pin_is a (-2) 2 true H2.out _).mono ?_; rintro e w2 ⟨rfl, hb⟩
      have A2 := A1.below hb
      have G2 := G1.trans (hb.mono G1.size)
      obtain ⟨c0, c1, c2⟩ := And.intro A2.c0 (And.intro A2.c1 A2.c2)
      clear hb
      go_wp2_with fail
      clear c0 c1 c2
      refine (pin_is o 0 9 g3 H3.out _).mono ?_; rintro e w3 ⟨rfl, hb⟩
      have G3 := G2.trans (hb.mono G2.size)
      clear hb
      go_wp2_with fail
      go_ret
      exact ⟨by rw [← hf]; rfl, G3⟩
set_option maxHeartbeats 800000 in
theorem rsound_is (s a o t : Int) (h : 12 * o + No.nat7 s + a = t) (hn : No.isN s a o) (w : World) :
    Calls Tryz.prog 26 #[.agg #[.int .i64 s, .int .i64 a, .int .i64 o]] w fun e w' => e = .returned (.int .i64 t) ∧ Below w.heap.size w w' := by
  have G0 := (Below.refl w.heap.size w).alloc (Nat.le_refl _) (.cells #[.int .i64 s, .int .i64 a, .int .i64 o] 47)
  have A0 : At3 (w.alloc (.cells #[.int .i64 s, .int .i64 a, .int .i64 o] 47)) w.heap.size s a o := At3.new _ _ _ _ _
  obtain ⟨u, hu⟩ : ∃ u, No.nat7 s = u := ⟨_, rfl⟩
  rw [hu] at h
  obtain ⟨s0, s1, a0, a1, o0, o1⟩ := hn
  have hu0 : 0 ≤ u ∧ u ≤ 12 := by rw [← hu]; unfold No.nat7; split <;> omega
  obtain ⟨u0, u1⟩ := hu0
  have HU := Lib.hid hu
  have HT := Lib.hid h
  clear h hu
  go_enter Tryz.func26, Tryz.ntmps26
  go_wp2_with fail
  generalize w.alloc (.cells #[.int .i64 s, .int .i64 a, .int .i64 o] 47) = w2 at *
  have x0 := fun x : Ext w2 => x.cell A0.c0
  have x1 := fun x : Ext w2 => x.cell A0.c1
  have x2 := fun x : Ext w2 => x.cell A0.c2
  have hne := Ext.there w2
  refine Ext.region (by kernel_rfl) (by kernel_rfl) ?_
  repeat (go_big_quiet_step ((go_at_call 60; exact Ext.call _ (rnatural_is s u HU.out s0 s1 _))))
  refine wpQuiet_nil ?_
  rintro _ ⟨xw, rfl⟩
  have G1 := G0.trans (xw.h.mono G0.size)
  clear x0 x1 x2 hne
  generalize xw.w = w3 at *
  clear xw
  go_wp2_with fail
  go_ret
  exact ⟨by rw [← HT.out]; rfl, G1⟩
set_option maxHeartbeats 800000 in
theorem rbar_is (l : List Mt.B) (id r : Int) (len cap : Nat) (A : Option Addr) (h : No.bix l id = r) (hl : l.length = len) (hmax : len ≤ 4000000) (w : World) (hL : SlB w A l) :
    Calls Tryz.prog 47 #[.slice A len cap, .int .i64 id] w fun e w' => e = .returned (.int .i64 r) ∧ w = w' := by
  have HR : Hid (∀ i : Nat, i ≤ l.length → (∀ j, j < i → (atB l j).1 ≠ id) → (if No.bix (l.drop i) id < 0 then -1 else No.bix (l.drop i) id + i) = r) := Lib.hid (fun i hi hj => by
    rw [← h]
    clear h hl hL
    induction i generalizing l with
    | zero => rw [List.drop_zero]; have := No.bix_ge l id; split <;> omega
    | succ i ih =>
      cases l with
      | nil => simp at hi
      | cons b l =>
        have hb : b.1 ≠ id := hj 0 (by omega)
        have h2 := ih l (by simpa using hi) (fun j hj2 => hj (j + 1) (by omega))
        rw [List.drop_succ_cons]
        conv => rhs; unfold No.bix; rw [if_neg hb]
        have h3 := No.bix_ge l id
        split
        · rename_i h4; rw [if_pos h4] at h2; rw [← h2]; simp
        · rename_i h4; rw [if_neg h4] at h2; rw [← h2, if_neg (by have := No.bix_ge (l.drop i) id; omega)]; omega)
  have HN := Lib.hid hl
  have HL := Lib.hid hL
  clear h hl hL
  go_enter Tryz.func47, Tryz.ntmps47
  go_wp2_with fail
  go_loopw [5] (fun s5 wr => ∃ (i : Nat) (q : Int), i ≤ len ∧ q = i ∧ s5 = .int .i64 q ∧ Hid (∀ j, j < i → (atB l j).1 ≠ id) ∧ wr = w) (fun s5 _ => len - (intOf s5).toNat)
  case atStart => exact ⟨0, 0, Nat.zero_le _, rfl, rfl, Lib.hid (fun j hj => by omega), rfl⟩
  case round =>
    obtain ⟨i, q, hi, hq, rfl, HE, rfl⟩ := hrel
    by_cases hlt : i < len
    · have hil : i < l.length := by rw [HN.out]; omega
      obtain ⟨bb, off, rfl, hbb, hc⟩ := HL.out (by omega)
      obtain ⟨c0, _⟩ := hc i hil
      have hq1 : q < (len : Int) := by omega
      have hq3 : 0 ≤ q := by omega
      have hqn : q.toNat = i := by omega
      have HQ := Lib.hid hq
      have HD := Lib.hid (HR.out i (by omega) HE.out)
      obtain ⟨id2, hid2⟩ : ∃ id2, (atB l i).1 = id2 := ⟨_, rfl⟩
      have HI := Lib.hid hid2
      have hgt : (l[i]).1 = id2 := by rw [← hid2, atB_eq hil]
      rw [hid2] at c0
      by_cases he : id2 = id
      · have hr : r = q := by
          have hd := HD.out
          have hz : No.bix (l.drop i) id = 0 := by
            rw [List.drop_eq_getElem_cons hil]
            unfold No.bix
            rw [if_pos (by rw [hgt]; exact he)]
          rw [hz, if_neg (by omega)] at hd
          omega
        subst he hr
        clear hc hq hil hid2 hgt
        go_wp2_with fail
        go_ret
        exact ⟨rfl, rfl⟩
      · have he' : (id2 == id) = false := by simpa using he
        have HE2 : Hid (∀ j, j < i + 1 → (atB l j).1 ≠ id) := Lib.hid (fun j hj => by
          by_cases e : j = i
          · subst e; rw [HI.out]; exact he
          · exact HE.out j (by omega))
        clear hc hq hil hid2 hgt he
        go_wp2_with fail
        go_roundw
        case rel => exact ⟨i + 1, q + 1, by omega, (by have := HQ.out; omega), rfl, HE2, (by first | rfl | trivial)⟩
        case measure => have := HQ.out; simp [intOf]; omega
    · obtain rfl : i = len := by omega
      have hr : r = -1 := by
        have := HR.out i (by rw [HN.out]; exact Nat.le_refl _) HE.out
        rw [List.drop_eq_nil_of_le (by rw [HN.out]; exact Nat.le_refl _)] at this
        unfold No.bix at this
        simpa using this.symm
      subst hr
      have hq1 : ¬ q < (i : Int) := by omega
      clear hq
      go_wp2_with fail
      go_ret
      exact ⟨rfl, rfl⟩
end Go.Proofs.YtbbjifhelbeniaaGreatDoor

/- A note in memory; the walk of the reference's Note. -/
namespace Go.Proofs.YtbbjifhelbeniaaGreatDoor
open Go.RowKit

/-- The twelve cells of a note, from an address on. -/
structure NtAt (w : World) (b o : Nat) (n : No.Nt) : Prop where
  c0 : w.cell? ⟨b, o + 0, none⟩ = some (.int .i64 n.id)
  c1 : w.cell? ⟨b, o + 1, none⟩ = some (.int .i64 n.pa)
  c2 : w.cell? ⟨b, o + 2, none⟩ = some (.int .i64 n.ba)
  c3 : w.cell? ⟨b, o + 3, none⟩ = some (.int .i64 n.vo)
  c4 : w.cell? ⟨b, o + 4, none⟩ = some (.int .i64 n.os)
  c5 : w.cell? ⟨b, o + 5, none⟩ = some (.int .i64 n.sn)
  c6 : w.cell? ⟨b, o + 6, none⟩ = some (.int .i64 n.sd)
  c7 : w.cell? ⟨b, o + 7, none⟩ = some (.int .i64 n.ln)
  c8 : w.cell? ⟨b, o + 8, none⟩ = some (.int .i64 n.ld)
  c9 : w.cell? ⟨b, o + 9, none⟩ = some (.int .i64 n.st)
  c10 : w.cell? ⟨b, o + 10, none⟩ = some (.int .i64 n.al)
  c11 : w.cell? ⟨b, o + 11, none⟩ = some (.int .i64 n.oc)
theorem NtAt.below {w w' : World} {b o B : Nat} {n : No.Nt} (h : NtAt w b o n) (hb : Below B w w') (hlt : b < B) : NtAt w' b o n :=
  ⟨(hb.cell (p := ⟨b, o + 0, none⟩) hlt).trans h.c0, (hb.cell (p := ⟨b, o + 1, none⟩) hlt).trans h.c1, (hb.cell (p := ⟨b, o + 2, none⟩) hlt).trans h.c2, (hb.cell (p := ⟨b, o + 3, none⟩) hlt).trans h.c3, (hb.cell (p := ⟨b, o + 4, none⟩) hlt).trans h.c4, (hb.cell (p := ⟨b, o + 5, none⟩) hlt).trans h.c5, (hb.cell (p := ⟨b, o + 6, none⟩) hlt).trans h.c6, (hb.cell (p := ⟨b, o + 7, none⟩) hlt).trans h.c7, (hb.cell (p := ⟨b, o + 8, none⟩) hlt).trans h.c8, (hb.cell (p := ⟨b, o + 9, none⟩) hlt).trans h.c9, (hb.cell (p := ⟨b, o + 10, none⟩) hlt).trans h.c10, (hb.cell (p := ⟨b, o + 11, none⟩) hlt).trans h.c11⟩
/-- A note in a block of its own. -/
structure NtB (w : World) (b : Nat) (n : No.Nt) : Prop where
  lt : b < w.heap.size
  c0 : w.cell? ⟨b, 0, none⟩ = some (.int .i64 n.id)
  c1 : w.cell? ⟨b, 1, none⟩ = some (.int .i64 n.pa)
  c2 : w.cell? ⟨b, 2, none⟩ = some (.int .i64 n.ba)
  c3 : w.cell? ⟨b, 3, none⟩ = some (.int .i64 n.vo)
  c4 : w.cell? ⟨b, 4, none⟩ = some (.int .i64 n.os)
  c5 : w.cell? ⟨b, 5, none⟩ = some (.int .i64 n.sn)
  c6 : w.cell? ⟨b, 6, none⟩ = some (.int .i64 n.sd)
  c7 : w.cell? ⟨b, 7, none⟩ = some (.int .i64 n.ln)
  c8 : w.cell? ⟨b, 8, none⟩ = some (.int .i64 n.ld)
  c9 : w.cell? ⟨b, 9, none⟩ = some (.int .i64 n.st)
  c10 : w.cell? ⟨b, 10, none⟩ = some (.int .i64 n.al)
  c11 : w.cell? ⟨b, 11, none⟩ = some (.int .i64 n.oc)
theorem NtB.below {w w' : World} {b : Nat} {n : No.Nt} (h : NtB w b n) (hb : Below w.heap.size w w') : NtB w' b n :=
  ⟨Nat.lt_of_lt_of_le h.lt hb.size, (hb.cell (p := ⟨b, 0, none⟩) h.lt).trans h.c0, (hb.cell (p := ⟨b, 1, none⟩) h.lt).trans h.c1, (hb.cell (p := ⟨b, 2, none⟩) h.lt).trans h.c2, (hb.cell (p := ⟨b, 3, none⟩) h.lt).trans h.c3, (hb.cell (p := ⟨b, 4, none⟩) h.lt).trans h.c4, (hb.cell (p := ⟨b, 5, none⟩) h.lt).trans h.c5, (hb.cell (p := ⟨b, 6, none⟩) h.lt).trans h.c6, (hb.cell (p := ⟨b, 7, none⟩) h.lt).trans h.c7, (hb.cell (p := ⟨b, 8, none⟩) h.lt).trans h.c8, (hb.cell (p := ⟨b, 9, none⟩) h.lt).trans h.c9, (hb.cell (p := ⟨b, 10, none⟩) h.lt).trans h.c10, (hb.cell (p := ⟨b, 11, none⟩) h.lt).trans h.c11⟩
theorem NtB.alloc {w : World} {b : Nat} {n : No.Nt} (h : NtB w b n) (o : Obj) : NtB (w.alloc o) b n := h.below ((Below.refl _ _).alloc (Nat.le_refl _) _)
set_option maxHeartbeats 800000 in
theorem NtB.new (w : World) (n : No.Nt) : NtB (w.alloc (.cells #[.int .i64 n.id, .int .i64 n.pa, .int .i64 n.ba, .int .i64 n.vo, .int .i64 n.os, .int .i64 n.sn, .int .i64 n.sd, .int .i64 n.ln, .int .i64 n.ld, .int .i64 n.st, .int .i64 n.al, .int .i64 n.oc] 51)) w.heap.size n :=
  ⟨by simp, by go_simp, by go_simp, by go_simp, by go_simp, by go_simp, by go_simp, by go_simp, by go_simp, by go_simp, by go_simp, by go_simp, by go_simp⟩

theorem risnote_d (s a o : Int) (f : Bool) (h : decide (0 ≤ s ∧ s ≤ 6 ∧ -2 ≤ a ∧ a ≤ 2 ∧ 0 ≤ o ∧ o ≤ 9) = f) (w : World) :
    Calls Tryz.prog 83 #[.agg #[.int .i64 s, .int .i64 a, .int .i64 o]] w fun e w' => e = .returned (.bool f) ∧ Below w.heap.size w w' :=
  risnote_is s a o f (by rw [← h, decide_eq_true_eq]; exact Iff.rfl) w

theorem rbar_b (l : List Mt.B) (id r : Int) (len cap : Nat) (A : Option Addr) (h : No.bix l id = r) (hl : l.length = len) (hmax : len ≤ 4000000) (w : World) (hL : SlB w A l) :
    Calls Tryz.prog 47 #[.slice A len cap, .int .i64 id] w fun e w' => e = .returned (.int .i64 r) ∧ Below w.heap.size w w' :=
  (rbar_is l id r len cap A h hl hmax w hL).mono fun _ _ h => ⟨h.1, h.2 ▸ Below.refl _ _⟩

set_option maxHeartbeats 1600000 in
theorem rnote_is (l : List Mt.B) (n : No.Nt) (f : Bool) (len cap : Nat) (A : Option Addr) (h : f = true ↔ No.okN l n) (hl : l.length = len) (_hok : ∀ b ∈ l, Mt.okB b) (hmax : len ≤ 4000) (w : World) (hL : SlB w A l) :
    Calls Tryz.prog 61 #[.slice A len cap, .agg #[.int .i64 n.id, .int .i64 n.pa, .int .i64 n.ba, .int .i64 n.vo, .int .i64 n.os, .int .i64 n.sn, .int .i64 n.sd, .int .i64 n.ln, .int .i64 n.ld, .int .i64 n.st, .int .i64 n.al, .int .i64 n.oc]] w fun e w' => e = .returned (.bool f) ∧ Below w.heap.size w w' := by
  have G0 := (Below.refl w.heap.size w).alloc (Nat.le_refl _) (.cells #[.int .i64 n.id, .int .i64 n.pa, .int .i64 n.ba, .int .i64 n.vo, .int .i64 n.os, .int .i64 n.sn, .int .i64 n.sd, .int .i64 n.ln, .int .i64 n.ld, .int .i64 n.st, .int .i64 n.al, .int .i64 n.oc] 51)
  have A0 := NtB.new w n
  obtain ⟨r, hr⟩ : ∃ r, No.bix l n.ba = r := ⟨_, rfl⟩
  obtain ⟨g2, h2⟩ : ∃ g, decide (0 ≤ n.st ∧ n.st ≤ 6 ∧ -2 ≤ n.al ∧ n.al ≤ 2 ∧ 0 ≤ n.oc ∧ n.oc ≤ 9) = g := ⟨_, rfl⟩
  obtain ⟨g3, h3⟩ : ∃ g, decide (1 ≤ n.id ∧ n.id ≤ 1000000) = g := ⟨_, rfl⟩
  obtain ⟨g4, h4⟩ : ∃ g, decide (1 ≤ n.pa ∧ n.pa ≤ 1000000) = g := ⟨_, rfl⟩
  obtain ⟨g5, h5⟩ : ∃ g, decide (0 ≤ n.vo ∧ n.vo ≤ 9) = g := ⟨_, rfl⟩
  obtain ⟨g6, h6⟩ : ∃ g, decide (0 ≤ n.os ∧ n.os ≤ 20) = g := ⟨_, rfl⟩
  obtain ⟨t, ht⟩ : ∃ t, Mt.tk n.sn n.sd = t := ⟨_, rfl⟩
  obtain ⟨u, hu⟩ : ∃ u, Mt.tk n.ln n.ld = u := ⟨_, rfl⟩
  have htl := Mt.tk_le n.sn n.sd
  have hul := Mt.tk_le n.ln n.ld
  have htg := Mt.tk_ge n.sn n.sd
  have hug := Mt.tk_ge n.ln n.ld
  rw [ht] at htl htg
  rw [hu] at hul hug
  have HLw := Lib.hid hL
  have HL0 := Lib.hid (hL.alloc (.cells #[.int .i64 n.id, .int .i64 n.pa, .int .i64 n.ba, .int .i64 n.vo, .int .i64 n.os, .int .i64 n.sn, .int .i64 n.sd, .int .i64 n.ln, .int .i64 n.ld, .int .i64 n.st, .int .i64 n.al, .int .i64 n.oc] 51))
  have HR := Lib.hid hr
  have H2 := Lib.hid h2
  have H3 := Lib.hid h3
  have H4 := Lib.hid h4
  have H5 := Lib.hid h5
  have H6 := Lib.hid h6
  have HT := Lib.hid ht
  have HU := Lib.hid hu
  have HN := Lib.hid hl
  have hf : f = true ↔ (0 ≤ r ∧ g2 = true ∧ g3 = true ∧ g4 = true ∧ g5 = true ∧ g6 = true ∧ 0 ≤ t ∧ 0 < u ∧ t + u ≤ Mt.bt (atB l r.toNat)) := by
    rw [h, ← h2, ← h3, ← h4, ← h5, ← h6]
    unfold No.okN No.start No.leng No.isN
    rw [hr, ht, hu]
    simp only [decide_eq_true_eq, and_assoc]
  have HF := Lib.hid hf
  clear h h2 h3 h4 h5 h6 ht hu hf
  by_cases hr0 : r < 0
  · obtain rfl : f = false := by
      cases f with
      | false => rfl
      | true => have := (HF.out.1 rfl).1; omega
    have L0 := HL0.out
    go_enter Tryz.func61, Tryz.ntmps61
    go_wp2_with fail
    refine (rbar_b l n.ba r len cap A HR.out HN.out (by omega) _ L0).mono ?_; rintro e w1 ⟨rfl, hb⟩
    have A1 := A0.below hb
    have L1 := L0.below hb
    have G1 := G0.trans (hb.mono G0.size)
    clear hb A0 L0
    obtain ⟨c0, c1, c2, c3, c4, c5, c6, c7, c8, c9, c10, c11⟩ := And.intro A1.c0 (And.intro A1.c1 (And.intro A1.c2 (And.intro A1.c3 (And.intro A1.c4 (And.intro A1.c5 (And.intro A1.c6 (And.intro A1.c7 (And.intro A1.c8 (And.intro A1.c9 (And.intro A1.c10 A1.c11))))))))))
    go_wp2_with fail
    clear c0 c1 c2 c3 c4 c5 c6 c7 c8 c9 c10 c11
    refine (risnote_d n.st n.al n.oc g2 H2.out _).mono ?_; rintro e w2 ⟨rfl, hb⟩
    have A2 := A1.below hb
    have L2 := L1.below hb
    have G2 := G1.trans (hb.mono G1.size)
    clear hb A1 L1
    obtain ⟨c0, c1, c2, c3, c4, c5, c6, c7, c8, c9, c10, c11⟩ := And.intro A2.c0 (And.intro A2.c1 (And.intro A2.c2 (And.intro A2.c3 (And.intro A2.c4 (And.intro A2.c5 (And.intro A2.c6 (And.intro A2.c7 (And.intro A2.c8 (And.intro A2.c9 (And.intro A2.c10 A2.c11))))))))))
    go_wp2_with fail
    clear c0 c1 c2 c3 c4 c5 c6 c7 c8 c9 c10 c11
    go_ret
    exact ⟨rfl, G2⟩
  have hr1 : ¬ r < 0 := hr0
  cases g2 with
  | false =>
    obtain rfl : f = false := by
      cases f with
      | false => rfl
      | true => have := HF.out.1 rfl; exact absurd this.2.1 (by decide)
    have L0 := HL0.out
    go_enter Tryz.func61, Tryz.ntmps61
    go_wp2_with fail
    refine (rbar_b l n.ba r len cap A HR.out HN.out (by omega) _ L0).mono ?_; rintro e w1 ⟨rfl, hb⟩
    have A1 := A0.below hb
    have L1 := L0.below hb
    have G1 := G0.trans (hb.mono G0.size)
    clear hb A0 L0
    obtain ⟨c0, c1, c2, c3, c4, c5, c6, c7, c8, c9, c10, c11⟩ := And.intro A1.c0 (And.intro A1.c1 (And.intro A1.c2 (And.intro A1.c3 (And.intro A1.c4 (And.intro A1.c5 (And.intro A1.c6 (And.intro A1.c7 (And.intro A1.c8 (And.intro A1.c9 (And.intro A1.c10 A1.c11))))))))))
    go_wp2_with fail
    clear c0 c1 c2 c3 c4 c5 c6 c7 c8 c9 c10 c11
    refine (risnote_d n.st n.al n.oc false H2.out _).mono ?_; rintro e w2 ⟨rfl, hb⟩
    have A2 := A1.below hb
    have L2 := L1.below hb
    have G2 := G1.trans (hb.mono G1.size)
    clear hb A1 L1
    obtain ⟨c0, c1, c2, c3, c4, c5, c6, c7, c8, c9, c10, c11⟩ := And.intro A2.c0 (And.intro A2.c1 (And.intro A2.c2 (And.intro A2.c3 (And.intro A2.c4 (And.intro A2.c5 (And.intro A2.c6 (And.intro A2.c7 (And.intro A2.c8 (And.intro A2.c9 (And.intro A2.c10 A2.c11))))))))))
    go_wp2_with fail
    clear c0 c1 c2 c3 c4 c5 c6 c7 c8 c9 c10 c11
    go_ret
    exact ⟨rfl, G2⟩
  | true =>
    cases g3 with
    | false =>
      obtain rfl : f = false := by
        cases f with
        | false => rfl
        | true => have := HF.out.1 rfl; exact absurd this.2.2.1 (by decide)
      have L0 := HL0.out
      go_enter Tryz.func61, Tryz.ntmps61
      go_wp2_with fail
      refine (rbar_b l n.ba r len cap A HR.out HN.out (by omega) _ L0).mono ?_; rintro e w1 ⟨rfl, hb⟩
      have A1 := A0.below hb
      have L1 := L0.below hb
      have G1 := G0.trans (hb.mono G0.size)
      clear hb A0 L0
      obtain ⟨c0, c1, c2, c3, c4, c5, c6, c7, c8, c9, c10, c11⟩ := And.intro A1.c0 (And.intro A1.c1 (And.intro A1.c2 (And.intro A1.c3 (And.intro A1.c4 (And.intro A1.c5 (And.intro A1.c6 (And.intro A1.c7 (And.intro A1.c8 (And.intro A1.c9 (And.intro A1.c10 A1.c11))))))))))
      go_wp2_with fail
      clear c0 c1 c2 c3 c4 c5 c6 c7 c8 c9 c10 c11
      refine (risnote_d n.st n.al n.oc true H2.out _).mono ?_; rintro e w2 ⟨rfl, hb⟩
      have A2 := A1.below hb
      have L2 := L1.below hb
      have G2 := G1.trans (hb.mono G1.size)
      clear hb A1 L1
      obtain ⟨c0, c1, c2, c3, c4, c5, c6, c7, c8, c9, c10, c11⟩ := And.intro A2.c0 (And.intro A2.c1 (And.intro A2.c2 (And.intro A2.c3 (And.intro A2.c4 (And.intro A2.c5 (And.intro A2.c6 (And.intro A2.c7 (And.intro A2.c8 (And.intro A2.c9 (And.intro A2.c10 A2.c11))))))))))
      go_wp2_with fail
      clear c0 c1 c2 c3 c4 c5 c6 c7 c8 c9 c10 c11
      refine (rin_is n.id 1 1000000 false H3.out _).mono ?_; rintro e w3 ⟨rfl, hb⟩
      have A3 := A2.below hb
      have L3 := L2.below hb
      have G3 := G2.trans (hb.mono G2.size)
      clear hb A2 L2
      obtain ⟨c0, c1, c2, c3, c4, c5, c6, c7, c8, c9, c10, c11⟩ := And.intro A3.c0 (And.intro A3.c1 (And.intro A3.c2 (And.intro A3.c3 (And.intro A3.c4 (And.intro A3.c5 (And.intro A3.c6 (And.intro A3.c7 (And.intro A3.c8 (And.intro A3.c9 (And.intro A3.c10 A3.c11))))))))))
      go_wp2_with fail
      clear c0 c1 c2 c3 c4 c5 c6 c7 c8 c9 c10 c11
      go_ret
      exact ⟨rfl, G3⟩
    | true =>
      cases g4 with
      | false =>
        obtain rfl : f = false := by
          cases f with
          | false => rfl
          | true => have := HF.out.1 rfl; exact absurd this.2.2.2.1 (by decide)
        have L0 := HL0.out
        go_enter Tryz.func61, Tryz.ntmps61
        go_wp2_with fail
        refine (rbar_b l n.ba r len cap A HR.out HN.out (by omega) _ L0).mono ?_; rintro e w1 ⟨rfl, hb⟩
        have A1 := A0.below hb
        have L1 := L0.below hb
        have G1 := G0.trans (hb.mono G0.size)
        clear hb A0 L0
        obtain ⟨c0, c1, c2, c3, c4, c5, c6, c7, c8, c9, c10, c11⟩ := And.intro A1.c0 (And.intro A1.c1 (And.intro A1.c2 (And.intro A1.c3 (And.intro A1.c4 (And.intro A1.c5 (And.intro A1.c6 (And.intro A1.c7 (And.intro A1.c8 (And.intro A1.c9 (And.intro A1.c10 A1.c11))))))))))
        go_wp2_with fail
        clear c0 c1 c2 c3 c4 c5 c6 c7 c8 c9 c10 c11
        refine (risnote_d n.st n.al n.oc true H2.out _).mono ?_; rintro e w2 ⟨rfl, hb⟩
        have A2 := A1.below hb
        have L2 := L1.below hb
        have G2 := G1.trans (hb.mono G1.size)
        clear hb A1 L1
        obtain ⟨c0, c1, c2, c3, c4, c5, c6, c7, c8, c9, c10, c11⟩ := And.intro A2.c0 (And.intro A2.c1 (And.intro A2.c2 (And.intro A2.c3 (And.intro A2.c4 (And.intro A2.c5 (And.intro A2.c6 (And.intro A2.c7 (And.intro A2.c8 (And.intro A2.c9 (And.intro A2.c10 A2.c11))))))))))
        go_wp2_with fail
        clear c0 c1 c2 c3 c4 c5 c6 c7 c8 c9 c10 c11
        refine (rin_is n.id 1 1000000 true H3.out _).mono ?_; rintro e w3 ⟨rfl, hb⟩
        have A3 := A2.below hb
        have L3 := L2.below hb
        have G3 := G2.trans (hb.mono G2.size)
        clear hb A2 L2
        obtain ⟨c0, c1, c2, c3, c4, c5, c6, c7, c8, c9, c10, c11⟩ := And.intro A3.c0 (And.intro A3.c1 (And.intro A3.c2 (And.intro A3.c3 (And.intro A3.c4 (And.intro A3.c5 (And.intro A3.c6 (And.intro A3.c7 (And.intro A3.c8 (And.intro A3.c9 (And.intro A3.c10 A3.c11))))))))))
        go_wp2_with fail
        clear c0 c1 c2 c3 c4 c5 c6 c7 c8 c9 c10 c11
        refine (rin_is n.pa 1 1000000 false H4.out _).mono ?_; rintro e w4 ⟨rfl, hb⟩
        have A4 := A3.below hb
        have L4 := L3.below hb
        have G4 := G3.trans (hb.mono G3.size)
        clear hb A3 L3
        obtain ⟨c0, c1, c2, c3, c4, c5, c6, c7, c8, c9, c10, c11⟩ := And.intro A4.c0 (And.intro A4.c1 (And.intro A4.c2 (And.intro A4.c3 (And.intro A4.c4 (And.intro A4.c5 (And.intro A4.c6 (And.intro A4.c7 (And.intro A4.c8 (And.intro A4.c9 (And.intro A4.c10 A4.c11))))))))))
        go_wp2_with fail
        clear c0 c1 c2 c3 c4 c5 c6 c7 c8 c9 c10 c11
        go_ret
        exact ⟨rfl, G4⟩
      | true =>
        cases g5 with
        | false =>
          obtain rfl : f = false := by
            cases f with
            | false => rfl
            | true => have := HF.out.1 rfl; exact absurd this.2.2.2.2.1 (by decide)
          have L0 := HL0.out
          go_enter Tryz.func61, Tryz.ntmps61
          go_wp2_with fail
          refine (rbar_b l n.ba r len cap A HR.out HN.out (by omega) _ L0).mono ?_; rintro e w1 ⟨rfl, hb⟩
          have A1 := A0.below hb
          have L1 := L0.below hb
          have G1 := G0.trans (hb.mono G0.size)
          clear hb A0 L0
          obtain ⟨c0, c1, c2, c3, c4, c5, c6, c7, c8, c9, c10, c11⟩ := And.intro A1.c0 (And.intro A1.c1 (And.intro A1.c2 (And.intro A1.c3 (And.intro A1.c4 (And.intro A1.c5 (And.intro A1.c6 (And.intro A1.c7 (And.intro A1.c8 (And.intro A1.c9 (And.intro A1.c10 A1.c11))))))))))
          go_wp2_with fail
          clear c0 c1 c2 c3 c4 c5 c6 c7 c8 c9 c10 c11
          refine (risnote_d n.st n.al n.oc true H2.out _).mono ?_; rintro e w2 ⟨rfl, hb⟩
          have A2 := A1.below hb
          have L2 := L1.below hb
          have G2 := G1.trans (hb.mono G1.size)
          clear hb A1 L1
          obtain ⟨c0, c1, c2, c3, c4, c5, c6, c7, c8, c9, c10, c11⟩ := And.intro A2.c0 (And.intro A2.c1 (And.intro A2.c2 (And.intro A2.c3 (And.intro A2.c4 (And.intro A2.c5 (And.intro A2.c6 (And.intro A2.c7 (And.intro A2.c8 (And.intro A2.c9 (And.intro A2.c10 A2.c11))))))))))
          go_wp2_with fail
          clear c0 c1 c2 c3 c4 c5 c6 c7 c8 c9 c10 c11
          refine (rin_is n.id 1 1000000 true H3.out _).mono ?_; rintro e w3 ⟨rfl, hb⟩
          have A3 := A2.below hb
          have L3 := L2.below hb
          have G3 := G2.trans (hb.mono G2.size)
          clear hb A2 L2
          obtain ⟨c0, c1, c2, c3, c4, c5, c6, c7, c8, c9, c10, c11⟩ := And.intro A3.c0 (And.intro A3.c1 (And.intro A3.c2 (And.intro A3.c3 (And.intro A3.c4 (And.intro A3.c5 (And.intro A3.c6 (And.intro A3.c7 (And.intro A3.c8 (And.intro A3.c9 (And.intro A3.c10 A3.c11))))))))))
          go_wp2_with fail
          clear c0 c1 c2 c3 c4 c5 c6 c7 c8 c9 c10 c11
          refine (rin_is n.pa 1 1000000 true H4.out _).mono ?_; rintro e w4 ⟨rfl, hb⟩
          have A4 := A3.below hb
          have L4 := L3.below hb
          have G4 := G3.trans (hb.mono G3.size)
          clear hb A3 L3
          obtain ⟨c0, c1, c2, c3, c4, c5, c6, c7, c8, c9, c10, c11⟩ := And.intro A4.c0 (And.intro A4.c1 (And.intro A4.c2 (And.intro A4.c3 (And.intro A4.c4 (And.intro A4.c5 (And.intro A4.c6 (And.intro A4.c7 (And.intro A4.c8 (And.intro A4.c9 (And.intro A4.c10 A4.c11))))))))))
          go_wp2_with fail
          clear c0 c1 c2 c3 c4 c5 c6 c7 c8 c9 c10 c11
          refine (rin_is n.vo 0 9 false H5.out _).mono ?_; rintro e w5 ⟨rfl, hb⟩
          have A5 := A4.below hb
          have L5 := L4.below hb
          have G5 := G4.trans (hb.mono G4.size)
          clear hb A4 L4
          obtain ⟨c0, c1, c2, c3, c4, c5, c6, c7, c8, c9, c10, c11⟩ := And.intro A5.c0 (And.intro A5.c1 (And.intro A5.c2 (And.intro A5.c3 (And.intro A5.c4 (And.intro A5.c5 (And.intro A5.c6 (And.intro A5.c7 (And.intro A5.c8 (And.intro A5.c9 (And.intro A5.c10 A5.c11))))))))))
          go_wp2_with fail
          clear c0 c1 c2 c3 c4 c5 c6 c7 c8 c9 c10 c11
          go_ret
          exact ⟨rfl, G5⟩
        | true =>
          cases g6 with
          | false =>
            obtain rfl : f = false := by
              cases f with
              | false => rfl
              | true => have := HF.out.1 rfl; exact absurd this.2.2.2.2.2.1 (by decide)
            have L0 := HL0.out
            go_enter Tryz.func61, Tryz.ntmps61
            go_wp2_with fail
            refine (rbar_b l n.ba r len cap A HR.out HN.out (by omega) _ L0).mono ?_; rintro e w1 ⟨rfl, hb⟩
            have A1 := A0.below hb
            have L1 := L0.below hb
            have G1 := G0.trans (hb.mono G0.size)
            clear hb A0 L0
            obtain ⟨c0, c1, c2, c3, c4, c5, c6, c7, c8, c9, c10, c11⟩ := And.intro A1.c0 (And.intro A1.c1 (And.intro A1.c2 (And.intro A1.c3 (And.intro A1.c4 (And.intro A1.c5 (And.intro A1.c6 (And.intro A1.c7 (And.intro A1.c8 (And.intro A1.c9 (And.intro A1.c10 A1.c11))))))))))
            go_wp2_with fail
            clear c0 c1 c2 c3 c4 c5 c6 c7 c8 c9 c10 c11
            refine (risnote_d n.st n.al n.oc true H2.out _).mono ?_; rintro e w2 ⟨rfl, hb⟩
            have A2 := A1.below hb
            have L2 := L1.below hb
            have G2 := G1.trans (hb.mono G1.size)
            clear hb A1 L1
            obtain ⟨c0, c1, c2, c3, c4, c5, c6, c7, c8, c9, c10, c11⟩ := And.intro A2.c0 (And.intro A2.c1 (And.intro A2.c2 (And.intro A2.c3 (And.intro A2.c4 (And.intro A2.c5 (And.intro A2.c6 (And.intro A2.c7 (And.intro A2.c8 (And.intro A2.c9 (And.intro A2.c10 A2.c11))))))))))
            go_wp2_with fail
            clear c0 c1 c2 c3 c4 c5 c6 c7 c8 c9 c10 c11
            refine (rin_is n.id 1 1000000 true H3.out _).mono ?_; rintro e w3 ⟨rfl, hb⟩
            have A3 := A2.below hb
            have L3 := L2.below hb
            have G3 := G2.trans (hb.mono G2.size)
            clear hb A2 L2
            obtain ⟨c0, c1, c2, c3, c4, c5, c6, c7, c8, c9, c10, c11⟩ := And.intro A3.c0 (And.intro A3.c1 (And.intro A3.c2 (And.intro A3.c3 (And.intro A3.c4 (And.intro A3.c5 (And.intro A3.c6 (And.intro A3.c7 (And.intro A3.c8 (And.intro A3.c9 (And.intro A3.c10 A3.c11))))))))))
            go_wp2_with fail
            clear c0 c1 c2 c3 c4 c5 c6 c7 c8 c9 c10 c11
            refine (rin_is n.pa 1 1000000 true H4.out _).mono ?_; rintro e w4 ⟨rfl, hb⟩
            have A4 := A3.below hb
            have L4 := L3.below hb
            have G4 := G3.trans (hb.mono G3.size)
            clear hb A3 L3
            obtain ⟨c0, c1, c2, c3, c4, c5, c6, c7, c8, c9, c10, c11⟩ := And.intro A4.c0 (And.intro A4.c1 (And.intro A4.c2 (And.intro A4.c3 (And.intro A4.c4 (And.intro A4.c5 (And.intro A4.c6 (And.intro A4.c7 (And.intro A4.c8 (And.intro A4.c9 (And.intro A4.c10 A4.c11))))))))))
            go_wp2_with fail
            clear c0 c1 c2 c3 c4 c5 c6 c7 c8 c9 c10 c11
            refine (rin_is n.vo 0 9 true H5.out _).mono ?_; rintro e w5 ⟨rfl, hb⟩
            have A5 := A4.below hb
            have L5 := L4.below hb
            have G5 := G4.trans (hb.mono G4.size)
            clear hb A4 L4
            obtain ⟨c0, c1, c2, c3, c4, c5, c6, c7, c8, c9, c10, c11⟩ := And.intro A5.c0 (And.intro A5.c1 (And.intro A5.c2 (And.intro A5.c3 (And.intro A5.c4 (And.intro A5.c5 (And.intro A5.c6 (And.intro A5.c7 (And.intro A5.c8 (And.intro A5.c9 (And.intro A5.c10 A5.c11))))))))))
            go_wp2_with fail
            clear c0 c1 c2 c3 c4 c5 c6 c7 c8 c9 c10 c11
            refine (rin_is n.os 0 20 false H6.out _).mono ?_; rintro e w6 ⟨rfl, hb⟩
            have A6 := A5.below hb
            have L6 := L5.below hb
            have G6 := G5.trans (hb.mono G5.size)
            clear hb A5 L5
            obtain ⟨c0, c1, c2, c3, c4, c5, c6, c7, c8, c9, c10, c11⟩ := And.intro A6.c0 (And.intro A6.c1 (And.intro A6.c2 (And.intro A6.c3 (And.intro A6.c4 (And.intro A6.c5 (And.intro A6.c6 (And.intro A6.c7 (And.intro A6.c8 (And.intro A6.c9 (And.intro A6.c10 A6.c11))))))))))
            go_wp2_with fail
            clear c0 c1 c2 c3 c4 c5 c6 c7 c8 c9 c10 c11
            go_ret
            exact ⟨rfl, G6⟩
          | true =>
            by_cases ht0 : 0 ≤ t
            · by_cases hu0 : 0 < u
              · have hrl := No.bix_lt l n.ba
                rw [HR.out, HN.out] at hrl
                obtain ⟨j, rfl⟩ := Int.eq_ofNat_of_zero_le (show 0 ≤ r by omega)
                have hjl : j < l.length := by rw [HN.out]; omega
                obtain ⟨v, hv⟩ : ∃ v, Mt.bt (atB l j) = v := ⟨_, rfl⟩
                have HVV : Hid (Mt.tk (atB l j).2.1 (atB l j).2.2.1 = v) := Lib.hid hv
                obtain ⟨bb, off, rfl, hbb, hc⟩ := HLw.out (by omega)
                obtain ⟨_, d1, d2, _⟩ := hc j hjl
                have hf : decide (t + u ≤ v) = f := by
                  rw [Bool.eq_iff_iff, HF.out, Int.toNat_natCast, hv, decide_eq_true_eq]
                  constructor
                  · intro h; exact ⟨by omega, rfl, rfl, rfl, rfl, rfl, ht0, hu0, h⟩
                  · intro h; exact h.2.2.2.2.2.2.2.2
                have HFF := Lib.hid hf
                have D1 := Lib.hid d1
                have D2 := Lib.hid d2
                have hjl2 : j < len := by omega
                clear hc hv hf d1 d2 hjl
                generalize (atB l j).2.1 = n2 at *
                generalize (atB l j).2.2.1 = d2 at *
                have L0 := HL0.out
                go_enter Tryz.func61, Tryz.ntmps61
                go_wp2_with fail
                refine (rbar_b l n.ba (j : Int) len cap _ HR.out HN.out (by omega) _ L0).mono ?_; rintro e w1 ⟨rfl, hb⟩
                have A1 := A0.below hb
                have L1 := L0.below hb
                have G1 := G0.trans (hb.mono G0.size)
                clear hb A0 L0
                obtain ⟨c0, c1, c2, c3, c4, c5, c6, c7, c8, c9, c10, c11⟩ := And.intro A1.c0 (And.intro A1.c1 (And.intro A1.c2 (And.intro A1.c3 (And.intro A1.c4 (And.intro A1.c5 (And.intro A1.c6 (And.intro A1.c7 (And.intro A1.c8 (And.intro A1.c9 (And.intro A1.c10 A1.c11))))))))))
                go_wp2_with fail
                clear c0 c1 c2 c3 c4 c5 c6 c7 c8 c9 c10 c11
                refine (risnote_d n.st n.al n.oc true H2.out _).mono ?_; rintro e w2 ⟨rfl, hb⟩
                have A2 := A1.below hb
                have L2 := L1.below hb
                have G2 := G1.trans (hb.mono G1.size)
                clear hb A1 L1
                obtain ⟨c0, c1, c2, c3, c4, c5, c6, c7, c8, c9, c10, c11⟩ := And.intro A2.c0 (And.intro A2.c1 (And.intro A2.c2 (And.intro A2.c3 (And.intro A2.c4 (And.intro A2.c5 (And.intro A2.c6 (And.intro A2.c7 (And.intro A2.c8 (And.intro A2.c9 (And.intro A2.c10 A2.c11))))))))))
                go_wp2_with fail
                clear c0 c1 c2 c3 c4 c5 c6 c7 c8 c9 c10 c11
                refine (rin_is n.id 1 1000000 true H3.out _).mono ?_; rintro e w3 ⟨rfl, hb⟩
                have A3 := A2.below hb
                have L3 := L2.below hb
                have G3 := G2.trans (hb.mono G2.size)
                clear hb A2 L2
                obtain ⟨c0, c1, c2, c3, c4, c5, c6, c7, c8, c9, c10, c11⟩ := And.intro A3.c0 (And.intro A3.c1 (And.intro A3.c2 (And.intro A3.c3 (And.intro A3.c4 (And.intro A3.c5 (And.intro A3.c6 (And.intro A3.c7 (And.intro A3.c8 (And.intro A3.c9 (And.intro A3.c10 A3.c11))))))))))
                go_wp2_with fail
                clear c0 c1 c2 c3 c4 c5 c6 c7 c8 c9 c10 c11
                refine (rin_is n.pa 1 1000000 true H4.out _).mono ?_; rintro e w4 ⟨rfl, hb⟩
                have A4 := A3.below hb
                have L4 := L3.below hb
                have G4 := G3.trans (hb.mono G3.size)
                clear hb A3 L3
                obtain ⟨c0, c1, c2, c3, c4, c5, c6, c7, c8, c9, c10, c11⟩ := And.intro A4.c0 (And.intro A4.c1 (And.intro A4.c2 (And.intro A4.c3 (And.intro A4.c4 (And.intro A4.c5 (And.intro A4.c6 (And.intro A4.c7 (And.intro A4.c8 (And.intro A4.c9 (And.intro A4.c10 A4.c11))))))))))
                go_wp2_with fail
                clear c0 c1 c2 c3 c4 c5 c6 c7 c8 c9 c10 c11
                refine (rin_is n.vo 0 9 true H5.out _).mono ?_; rintro e w5 ⟨rfl, hb⟩
                have A5 := A4.below hb
                have L5 := L4.below hb
                have G5 := G4.trans (hb.mono G4.size)
                clear hb A4 L4
                obtain ⟨c0, c1, c2, c3, c4, c5, c6, c7, c8, c9, c10, c11⟩ := And.intro A5.c0 (And.intro A5.c1 (And.intro A5.c2 (And.intro A5.c3 (And.intro A5.c4 (And.intro A5.c5 (And.intro A5.c6 (And.intro A5.c7 (And.intro A5.c8 (And.intro A5.c9 (And.intro A5.c10 A5.c11))))))))))
                go_wp2_with fail
                clear c0 c1 c2 c3 c4 c5 c6 c7 c8 c9 c10 c11
                refine (rin_is n.os 0 20 true H6.out _).mono ?_; rintro e w6 ⟨rfl, hb⟩
                have A6 := A5.below hb
                have L6 := L5.below hb
                have G6 := G5.trans (hb.mono G5.size)
                clear hb A5 L5
                obtain ⟨c0, c1, c2, c3, c4, c5, c6, c7, c8, c9, c10, c11⟩ := And.intro A6.c0 (And.intro A6.c1 (And.intro A6.c2 (And.intro A6.c3 (And.intro A6.c4 (And.intro A6.c5 (And.intro A6.c6 (And.intro A6.c7 (And.intro A6.c8 (And.intro A6.c9 (And.intro A6.c10 A6.c11))))))))))
                go_wp2_with fail
                clear c0 c1 c2 c3 c4 c5 c6 c7 c8 c9 c10 c11
                refine (kticks_is n.sn n.sd t HT.out _).mono ?_; rintro e w7 ⟨rfl, hb⟩
                have A7 := A6.below hb
                have L7 := L6.below hb
                have G7 := G6.trans (hb.mono G6.size)
                clear hb A6 L6
                obtain ⟨c0, c1, c2, c3, c4, c5, c6, c7, c8, c9, c10, c11⟩ := And.intro A7.c0 (And.intro A7.c1 (And.intro A7.c2 (And.intro A7.c3 (And.intro A7.c4 (And.intro A7.c5 (And.intro A7.c6 (And.intro A7.c7 (And.intro A7.c8 (And.intro A7.c9 (And.intro A7.c10 A7.c11))))))))))
                go_wp2_with fail
                clear c0 c1 c2 c3 c4 c5 c6 c7 c8 c9 c10 c11
                refine (kticks_is n.ln n.ld u HU.out _).mono ?_; rintro e w8 ⟨rfl, hb⟩
                have A8 := A7.below hb
                have L8 := L7.below hb
                have G8 := G7.trans (hb.mono G7.size)
                clear hb A7 L7
                obtain ⟨c0, c1, c2, c3, c4, c5, c6, c7, c8, c9, c10, c11⟩ := And.intro A8.c0 (And.intro A8.c1 (And.intro A8.c2 (And.intro A8.c3 (And.intro A8.c4 (And.intro A8.c5 (And.intro A8.c6 (And.intro A8.c7 (And.intro A8.c8 (And.intro A8.c9 (And.intro A8.c10 A8.c11))))))))))
                have z1 := (G8.cell (p := ⟨bb, off + j * 4 + 1, none⟩) hbb).trans D1.out
                have z2 := (G8.cell (p := ⟨bb, off + j * 4 + 2, none⟩) hbb).trans D2.out
                go_wp2_with fail
                refine (kticks_is n2 d2 v HVV.out _).mono ?_; rintro e w9 ⟨rfl, hb⟩
                have G9 := G8.trans (hb.mono G8.size)
                clear hb
                go_wp2_with fail
                go_ret
                exact ⟨by rw [← HFF.out]; rfl, G9⟩
              · obtain rfl : f = false := by
                  cases f with
                  | false => rfl
                  | true => have := HF.out.1 rfl; omega
                have L0 := HL0.out
                go_enter Tryz.func61, Tryz.ntmps61
                go_wp2_with fail
                refine (rbar_b l n.ba r len cap A HR.out HN.out (by omega) _ L0).mono ?_; rintro e w1 ⟨rfl, hb⟩
                have A1 := A0.below hb
                have L1 := L0.below hb
                have G1 := G0.trans (hb.mono G0.size)
                clear hb A0 L0
                obtain ⟨c0, c1, c2, c3, c4, c5, c6, c7, c8, c9, c10, c11⟩ := And.intro A1.c0 (And.intro A1.c1 (And.intro A1.c2 (And.intro A1.c3 (And.intro A1.c4 (And.intro A1.c5 (And.intro A1.c6 (And.intro A1.c7 (And.intro A1.c8 (And.intro A1.c9 (And.intro A1.c10 A1.c11))))))))))
                go_wp2_with fail
                clear c0 c1 c2 c3 c4 c5 c6 c7 c8 c9 c10 c11
                refine (risnote_d n.st n.al n.oc true H2.out _).mono ?_; rintro e w2 ⟨rfl, hb⟩
                have A2 := A1.below hb
                have L2 := L1.below hb
                have G2 := G1.trans (hb.mono G1.size)
                clear hb A1 L1
                obtain ⟨c0, c1, c2, c3, c4, c5, c6, c7, c8, c9, c10, c11⟩ := And.intro A2.c0 (And.intro A2.c1 (And.intro A2.c2 (And.intro A2.c3 (And.intro A2.c4 (And.intro A2.c5 (And.intro A2.c6 (And.intro A2.c7 (And.intro A2.c8 (And.intro A2.c9 (And.intro A2.c10 A2.c11))))))))))
                go_wp2_with fail
                clear c0 c1 c2 c3 c4 c5 c6 c7 c8 c9 c10 c11
                refine (rin_is n.id 1 1000000 true H3.out _).mono ?_; rintro e w3 ⟨rfl, hb⟩
                have A3 := A2.below hb
                have L3 := L2.below hb
                have G3 := G2.trans (hb.mono G2.size)
                clear hb A2 L2
                obtain ⟨c0, c1, c2, c3, c4, c5, c6, c7, c8, c9, c10, c11⟩ := And.intro A3.c0 (And.intro A3.c1 (And.intro A3.c2 (And.intro A3.c3 (And.intro A3.c4 (And.intro A3.c5 (And.intro A3.c6 (And.intro A3.c7 (And.intro A3.c8 (And.intro A3.c9 (And.intro A3.c10 A3.c11))))))))))
                go_wp2_with fail
                clear c0 c1 c2 c3 c4 c5 c6 c7 c8 c9 c10 c11
                refine (rin_is n.pa 1 1000000 true H4.out _).mono ?_; rintro e w4 ⟨rfl, hb⟩
                have A4 := A3.below hb
                have L4 := L3.below hb
                have G4 := G3.trans (hb.mono G3.size)
                clear hb A3 L3
                obtain ⟨c0, c1, c2, c3, c4, c5, c6, c7, c8, c9, c10, c11⟩ := And.intro A4.c0 (And.intro A4.c1 (And.intro A4.c2 (And.intro A4.c3 (And.intro A4.c4 (And.intro A4.c5 (And.intro A4.c6 (And.intro A4.c7 (And.intro A4.c8 (And.intro A4.c9 (And.intro A4.c10 A4.c11))))))))))
                go_wp2_with fail
                clear c0 c1 c2 c3 c4 c5 c6 c7 c8 c9 c10 c11
                refine (rin_is n.vo 0 9 true H5.out _).mono ?_; rintro e w5 ⟨rfl, hb⟩
                have A5 := A4.below hb
                have L5 := L4.below hb
                have G5 := G4.trans (hb.mono G4.size)
                clear hb A4 L4
                obtain ⟨c0, c1, c2, c3, c4, c5, c6, c7, c8, c9, c10, c11⟩ := And.intro A5.c0 (And.intro A5.c1 (And.intro A5.c2 (And.intro A5.c3 (And.intro A5.c4 (And.intro A5.c5 (And.intro A5.c6 (And.intro A5.c7 (And.intro A5.c8 (And.intro A5.c9 (And.intro A5.c10 A5.c11))))))))))
                go_wp2_with fail
                clear c0 c1 c2 c3 c4 c5 c6 c7 c8 c9 c10 c11
                refine (rin_is n.os 0 20 true H6.out _).mono ?_; rintro e w6 ⟨rfl, hb⟩
                have A6 := A5.below hb
                have L6 := L5.below hb
                have G6 := G5.trans (hb.mono G5.size)
                clear hb A5 L5
                obtain ⟨c0, c1, c2, c3, c4, c5, c6, c7, c8, c9, c10, c11⟩ := And.intro A6.c0 (And.intro A6.c1 (And.intro A6.c2 (And.intro A6.c3 (And.intro A6.c4 (And.intro A6.c5 (And.intro A6.c6 (And.intro A6.c7 (And.intro A6.c8 (And.intro A6.c9 (And.intro A6.c10 A6.c11))))))))))
                go_wp2_with fail
                clear c0 c1 c2 c3 c4 c5 c6 c7 c8 c9 c10 c11
                refine (kticks_is n.sn n.sd t HT.out _).mono ?_; rintro e w7 ⟨rfl, hb⟩
                have A7 := A6.below hb
                have L7 := L6.below hb
                have G7 := G6.trans (hb.mono G6.size)
                clear hb A6 L6
                obtain ⟨c0, c1, c2, c3, c4, c5, c6, c7, c8, c9, c10, c11⟩ := And.intro A7.c0 (And.intro A7.c1 (And.intro A7.c2 (And.intro A7.c3 (And.intro A7.c4 (And.intro A7.c5 (And.intro A7.c6 (And.intro A7.c7 (And.intro A7.c8 (And.intro A7.c9 (And.intro A7.c10 A7.c11))))))))))
                go_wp2_with fail
                clear c0 c1 c2 c3 c4 c5 c6 c7 c8 c9 c10 c11
                refine (kticks_is n.ln n.ld u HU.out _).mono ?_; rintro e w8 ⟨rfl, hb⟩
                have A8 := A7.below hb
                have L8 := L7.below hb
                have G8 := G7.trans (hb.mono G7.size)
                clear hb A7 L7
                obtain ⟨c0, c1, c2, c3, c4, c5, c6, c7, c8, c9, c10, c11⟩ := And.intro A8.c0 (And.intro A8.c1 (And.intro A8.c2 (And.intro A8.c3 (And.intro A8.c4 (And.intro A8.c5 (And.intro A8.c6 (And.intro A8.c7 (And.intro A8.c8 (And.intro A8.c9 (And.intro A8.c10 A8.c11))))))))))
                go_wp2_with fail
                clear c0 c1 c2 c3 c4 c5 c6 c7 c8 c9 c10 c11
                go_ret
                exact ⟨rfl, G8⟩
            · obtain rfl : f = false := by
                cases f with
                | false => rfl
                | true => have := HF.out.1 rfl; omega
              have L0 := HL0.out
              go_enter Tryz.func61, Tryz.ntmps61
              go_wp2_with fail
              refine (rbar_b l n.ba r len cap A HR.out HN.out (by omega) _ L0).mono ?_; rintro e w1 ⟨rfl, hb⟩
              have A1 := A0.below hb
              have L1 := L0.below hb
              have G1 := G0.trans (hb.mono G0.size)
              clear hb A0 L0
              obtain ⟨c0, c1, c2, c3, c4, c5, c6, c7, c8, c9, c10, c11⟩ := And.intro A1.c0 (And.intro A1.c1 (And.intro A1.c2 (And.intro A1.c3 (And.intro A1.c4 (And.intro A1.c5 (And.intro A1.c6 (And.intro A1.c7 (And.intro A1.c8 (And.intro A1.c9 (And.intro A1.c10 A1.c11))))))))))
              go_wp2_with fail
              clear c0 c1 c2 c3 c4 c5 c6 c7 c8 c9 c10 c11
              refine (risnote_d n.st n.al n.oc true H2.out _).mono ?_; rintro e w2 ⟨rfl, hb⟩
              have A2 := A1.below hb
              have L2 := L1.below hb
              have G2 := G1.trans (hb.mono G1.size)
              clear hb A1 L1
              obtain ⟨c0, c1, c2, c3, c4, c5, c6, c7, c8, c9, c10, c11⟩ := And.intro A2.c0 (And.intro A2.c1 (And.intro A2.c2 (And.intro A2.c3 (And.intro A2.c4 (And.intro A2.c5 (And.intro A2.c6 (And.intro A2.c7 (And.intro A2.c8 (And.intro A2.c9 (And.intro A2.c10 A2.c11))))))))))
              go_wp2_with fail
              clear c0 c1 c2 c3 c4 c5 c6 c7 c8 c9 c10 c11
              refine (rin_is n.id 1 1000000 true H3.out _).mono ?_; rintro e w3 ⟨rfl, hb⟩
              have A3 := A2.below hb
              have L3 := L2.below hb
              have G3 := G2.trans (hb.mono G2.size)
              clear hb A2 L2
              obtain ⟨c0, c1, c2, c3, c4, c5, c6, c7, c8, c9, c10, c11⟩ := And.intro A3.c0 (And.intro A3.c1 (And.intro A3.c2 (And.intro A3.c3 (And.intro A3.c4 (And.intro A3.c5 (And.intro A3.c6 (And.intro A3.c7 (And.intro A3.c8 (And.intro A3.c9 (And.intro A3.c10 A3.c11))))))))))
              go_wp2_with fail
              clear c0 c1 c2 c3 c4 c5 c6 c7 c8 c9 c10 c11
              refine (rin_is n.pa 1 1000000 true H4.out _).mono ?_; rintro e w4 ⟨rfl, hb⟩
              have A4 := A3.below hb
              have L4 := L3.below hb
              have G4 := G3.trans (hb.mono G3.size)
              clear hb A3 L3
              obtain ⟨c0, c1, c2, c3, c4, c5, c6, c7, c8, c9, c10, c11⟩ := And.intro A4.c0 (And.intro A4.c1 (And.intro A4.c2 (And.intro A4.c3 (And.intro A4.c4 (And.intro A4.c5 (And.intro A4.c6 (And.intro A4.c7 (And.intro A4.c8 (And.intro A4.c9 (And.intro A4.c10 A4.c11))))))))))
              go_wp2_with fail
              clear c0 c1 c2 c3 c4 c5 c6 c7 c8 c9 c10 c11
              refine (rin_is n.vo 0 9 true H5.out _).mono ?_; rintro e w5 ⟨rfl, hb⟩
              have A5 := A4.below hb
              have L5 := L4.below hb
              have G5 := G4.trans (hb.mono G4.size)
              clear hb A4 L4
              obtain ⟨c0, c1, c2, c3, c4, c5, c6, c7, c8, c9, c10, c11⟩ := And.intro A5.c0 (And.intro A5.c1 (And.intro A5.c2 (And.intro A5.c3 (And.intro A5.c4 (And.intro A5.c5 (And.intro A5.c6 (And.intro A5.c7 (And.intro A5.c8 (And.intro A5.c9 (And.intro A5.c10 A5.c11))))))))))
              go_wp2_with fail
              clear c0 c1 c2 c3 c4 c5 c6 c7 c8 c9 c10 c11
              refine (rin_is n.os 0 20 true H6.out _).mono ?_; rintro e w6 ⟨rfl, hb⟩
              have A6 := A5.below hb
              have L6 := L5.below hb
              have G6 := G5.trans (hb.mono G5.size)
              clear hb A5 L5
              obtain ⟨c0, c1, c2, c3, c4, c5, c6, c7, c8, c9, c10, c11⟩ := And.intro A6.c0 (And.intro A6.c1 (And.intro A6.c2 (And.intro A6.c3 (And.intro A6.c4 (And.intro A6.c5 (And.intro A6.c6 (And.intro A6.c7 (And.intro A6.c8 (And.intro A6.c9 (And.intro A6.c10 A6.c11))))))))))
              go_wp2_with fail
              clear c0 c1 c2 c3 c4 c5 c6 c7 c8 c9 c10 c11
              refine (kticks_is n.sn n.sd t HT.out _).mono ?_; rintro e w7 ⟨rfl, hb⟩
              have A7 := A6.below hb
              have L7 := L6.below hb
              have G7 := G6.trans (hb.mono G6.size)
              clear hb A6 L6
              obtain ⟨c0, c1, c2, c3, c4, c5, c6, c7, c8, c9, c10, c11⟩ := And.intro A7.c0 (And.intro A7.c1 (And.intro A7.c2 (And.intro A7.c3 (And.intro A7.c4 (And.intro A7.c5 (And.intro A7.c6 (And.intro A7.c7 (And.intro A7.c8 (And.intro A7.c9 (And.intro A7.c10 A7.c11))))))))))
              go_wp2_with fail
              clear c0 c1 c2 c3 c4 c5 c6 c7 c8 c9 c10 c11
              refine (kticks_is n.ln n.ld u HU.out _).mono ?_; rintro e w8 ⟨rfl, hb⟩
              have A8 := A7.below hb
              have L8 := L7.below hb
              have G8 := G7.trans (hb.mono G7.size)
              clear hb A7 L7
              obtain ⟨c0, c1, c2, c3, c4, c5, c6, c7, c8, c9, c10, c11⟩ := And.intro A8.c0 (And.intro A8.c1 (And.intro A8.c2 (And.intro A8.c3 (And.intro A8.c4 (And.intro A8.c5 (And.intro A8.c6 (And.intro A8.c7 (And.intro A8.c8 (And.intro A8.c9 (And.intro A8.c10 A8.c11))))))))))
              go_wp2_with fail
              clear c0 c1 c2 c3 c4 c5 c6 c7 c8 c9 c10 c11
              go_ret
              exact ⟨rfl, G8⟩
end Go.Proofs.YtbbjifhelbeniaaGreatDoor
