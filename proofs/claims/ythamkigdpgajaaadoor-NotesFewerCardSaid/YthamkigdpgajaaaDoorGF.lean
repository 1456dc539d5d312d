import Derived.Test.YthamkigdpgajaaaDoorGE
import Derived.Test.YthamkigdpgajaaaDoorGA
import Derived.LoopTactic
import Derived.Test.YthamkigdpgajaaaDoorGD
import Derived.Laws.AppendOwnNone
/- The walks of the reference's in, Bar, and of the pitches' IsNote and Sound. -/
namespace Go.Proofs.YthamkigdpgajaaaDoor
open Go.RowKit

set_option maxHeartbeats 400000 in
theorem rin_is (n lo hi : Int) (f : Bool) (h : decide (lo ≤ n ∧ n ≤ hi) = f) (w : World) :
    Calls Tryd.prog 40 #[.int .i64 n, .int .i64 lo, .int .i64 hi] w fun e w' => e = .returned (.bool f) ∧ Below w.heap.size w w' := by
  by_cases h1 : lo ≤ n
  · by_cases h2 : n ≤ hi
    · obtain rfl : f = true := by rw [← h]; exact decide_eq_true ⟨h1, h2⟩
      clear h
      go_enter Tryd.func40, Tryd.ntmps40
      go_wp2_with fail
      go_ret
      exact ⟨rfl, Below.refl _ _⟩
    · obtain rfl : f = false := by rw [← h]; exact decide_eq_false (fun e => h2 e.2)
      clear h
      go_enter Tryd.func40, Tryd.ntmps40
      go_wp2_with fail
      go_ret
      exact ⟨rfl, Below.refl _ _⟩
  · obtain rfl : f = false := by rw [← h]; exact decide_eq_false (fun e => h1 e.1)
    clear h
    go_enter Tryd.func40, Tryd.ntmps40
    go_wp2_with fail
    go_ret
    exact ⟨rfl, Below.refl _ _⟩

set_option maxHeartbeats 400000 in
theorem pin_is (n lo hi : Int) (f : Bool) (h : decide (lo ≤ n ∧ n ≤ hi) = f) (w : World) :
    Calls Tryd.prog 75 #[.int .i64 n, .int .i64 lo, .int .i64 hi] w fun e w' => e = .returned (.bool f) ∧ Below w.heap.size w w' := by
  by_cases h1 : lo ≤ n
  · by_cases h2 : n ≤ hi
    · obtain rfl : f = true := by rw [← h]; exact decide_eq_true ⟨h1, h2⟩
      clear h
      go_enter Tryd.func75, Tryd.ntmps75
      go_wp2_with fail
      go_ret
      exact ⟨rfl, Below.refl _ _⟩
    · obtain rfl : f = false := by rw [← h]; exact decide_eq_false (fun e => h2 e.2)
      clear h
      go_enter Tryd.func75, Tryd.ntmps75
      go_wp2_with fail
      go_ret
      exact ⟨rfl, Below.refl _ _⟩
  · obtain rfl : f = false := by rw [← h]; exact decide_eq_false (fun e => h1 e.1)
    clear h
    go_enter Tryd.func75, Tryd.ntmps75
    go_wp2_with fail
    go_ret
    exact ⟨rfl, Below.refl _ _⟩

set_option maxHeartbeats 400000 in
theorem rnatural_is (s t : Int) (h : No.nat7 s = t) (h0 : 0 ≤ s) (h1 : s ≤ 6) (w : World) :
    Calls Tryd.prog 92 #[.int .i64 s] w fun e w' => e = .returned (.int .i64 t) ∧ Below w.heap.size w w' := by
  unfold No.nat7 at h
  by_cases h2 : 2 < s
  · rw [if_pos h2] at h
    have HT := Lib.hid h
    clear h
    go_enter Tryd.func92, Tryd.ntmps92
    go_wp2_with fail
    go_ret
    exact ⟨by rw [← HT.out]; rfl, Below.refl _ _⟩
  · rw [if_neg h2] at h
    have HT := Lib.hid h
    clear h
    go_enter Tryd.func92, Tryd.ntmps92
    go_wp2_with fail
    go_ret
    exact ⟨by rw [← HT.out]; rfl, Below.refl _ _⟩
set_option maxHeartbeats 800000 in
theorem rpvalid_is (s a o : Int) (f : Bool) (h : decide ((0 ≤ s ∧ s ≤ 6) ∧ (-4 ≤ a ∧ a ≤ 4) ∧ (-8 ≤ o ∧ o ≤ 20)) = f) (w : World) :
    Calls Tryd.prog 74 #[.agg #[.int .i64 s, .int .i64 a, .int .i64 o]] w fun e w' => e = .returned (.bool f) ∧ Below w.heap.size w w' := by
  have G0 := (Below.refl w.heap.size w).alloc (Nat.le_refl _) (.cells #[.int .i64 s, .int .i64 a, .int .i64 o] 40)
  have A0 : At3 (w.alloc (.cells #[.int .i64 s, .int .i64 a, .int .i64 o] 40)) w.heap.size s a o := At3.new _ _ _ _ _
  obtain ⟨g1, h1⟩ : ∃ g, decide (0 ≤ s ∧ s ≤ 6) = g := ⟨_, rfl⟩
  obtain ⟨g2, h2⟩ : ∃ g, decide (-4 ≤ a ∧ a ≤ 4) = g := ⟨_, rfl⟩
  obtain ⟨g3, h3⟩ : ∃ g, decide (-8 ≤ o ∧ o ≤ 20) = g := ⟨_, rfl⟩
  have hf : (g1 && g2 && g3) = f := by
    rw [Bool.eq_iff_iff, ← h, ← h1, ← h2, ← h3]
    simp only [Bool.and_eq_true, decide_eq_true_eq, and_assoc]
  have H1 := Lib.hid h1
  have H2 := Lib.hid h2
  have H3 := Lib.hid h3
  clear h h1 h2 h3
  cases g1 with
  | false =>
    cases g2 with
    | false =>
      go_enter Tryd.func74, Tryd.ntmps74
      go_wp2_with fail
      refine (pin_is s 0 6 false H1.out _).mono ?_; rintro e w1 ⟨rfl, hb⟩
      have A1 := A0.below hb
      have G1 := G0.trans (hb.mono G0.size)
      obtain ⟨c0, c1, c2⟩ := And.intro A1.c0 (And.intro A1.c1 A1.c2)
      clear hb
      go_wp2_with fail
      clear c0 c1 c2
      refine (pin_is a (-4) 4 false H2.out _).mono ?_; rintro e w2 ⟨rfl, hb⟩
      have A2 := A1.below hb
      have G2 := G1.trans (hb.mono G1.size)
      obtain ⟨c0, c1, c2⟩ := And.intro A2.c0 (And.intro A2.c1 A2.c2)
      clear hb
      go_wp2_with fail
      clear c0 c1 c2
      go_ret
      exact ⟨by rw [← hf]; rfl, G2⟩
    | true =>
      go_enter Tryd.func74, Tryd.ntmps74
      go_wp2_with fail
      refine (pin_is s 0 6 false H1.out _).mono ?_; rintro e w1 ⟨rfl, hb⟩
      have A1 := A0.below hb
      have G1 := G0.trans (hb.mono G0.size)
      obtain ⟨c0, c1, c2⟩ := And.intro A1.c0 (And.intro A1.c1 A1.c2)
      clear hb
      go_wp2_with fail
      clear c0 c1 c2
      refine (pin_is a (-4) 4 true H2.out _).mono ?_; rintro e w2 ⟨rfl, hb⟩
      have A2 := A1.below hb
      have G2 := G1.trans (hb.mono G1.size)
      obtain ⟨c0, c1, c2⟩ := And.intro A2.c0 (And.intro A2.c1 A2.c2)
      clear hb
      go_wp2_with fail
      clear c0 c1 c2
      go_ret
      exact ⟨by rw [← hf]; rfl, G2⟩
  | true =>
    cases g2 with
    | false =>
      go_enter Tryd.func74, Tryd.ntmps74
      go_wp2_with fail
      refine (pin_is s 0 6 true H1.out _).mono ?_; rintro e w1 ⟨rfl, hb⟩
      have A1 := A0.below hb
      have G1 := G0.trans (hb.mono G0.size)
      obtain ⟨c0, c1, c2⟩ := And.intro A1.c0 (And.intro A1.c1 A1.c2)
      clear hb
      go_wp2_with fail
      clear c0 c1 c2
      refine (pin_is a (-4) 4 false H2.out _).mono ?_; rintro e w2 ⟨rfl, hb⟩
      have A2 := A1.below hb
      have G2 := G1.trans (hb.mono G1.size)
      obtain ⟨c0, c1, c2⟩ := And.intro A2.c0 (And.intro A2.c1 A2.c2)
      clear hb
      go_wp2_with fail
      clear c0 c1 c2
      go_ret
      exact ⟨by rw [← hf]; rfl, G2⟩
    | true =>
      go_enter Tryd.func74, Tryd.ntmps74
      go_wp2_with fail
      refine (pin_is s 0 6 true H1.out _).mono ?_; rintro e w1 ⟨rfl, hb⟩
      have A1 := A0.below hb
      have G1 := G0.trans (hb.mono G0.size)
      obtain ⟨c0, c1, c2⟩ := And.intro A1.c0 (And.intro A1.c1 A1.c2)
      clear hb
      go_wp2_with fail
      clear c0 c1 c2
      refine (pin_is a (-4) 4 true H2.out _).mono ?_; rintro e w2 ⟨rfl, hb⟩
      have A2 := A1.below hb
      have G2 := G1.trans (hb.mono G1.size)
      obtain ⟨c0, c1, c2⟩ := And.intro A2.c0 (And.intro A2.c1 A2.c2)
      clear hb
      go_wp2_with fail
      clear c0 c1 c2
      refine (pin_is o (-8) 20 g3 H3.out _).mono ?_; rintro e w3 ⟨rfl, hb⟩
      have G3 := G2.trans (hb.mono G2.size)
      clear hb
      go_wp2_with fail
      go_ret
      exact ⟨by rw [← hf]; rfl, G3⟩
set_option maxHeartbeats 800000 in
theorem risnote_is (s a o : Int) (f : Bool) (h : f = true ↔ No.isN s a o) (w : World) :
    Calls Tryd.prog 51 #[.agg #[.int .i64 s, .int .i64 a, .int .i64 o]] w fun e w' => e = .returned (.bool f) ∧ Below w.heap.size w w' := by
  have G0 := (Below.refl w.heap.size w).alloc (Nat.le_refl _) (.cells #[.int .i64 s, .int .i64 a, .int .i64 o] 40)
  have A0 : At3 (w.alloc (.cells #[.int .i64 s, .int .i64 a, .int .i64 o] 40)) w.heap.size s a o := At3.new _ _ _ _ _
  obtain ⟨g1, h1⟩ : ∃ g, decide ((0 ≤ s ∧ s ≤ 6) ∧ (-4 ≤ a ∧ a ≤ 4) ∧ (-8 ≤ o ∧ o ≤ 20)) = g := ⟨_, rfl⟩
  obtain ⟨g2, h2⟩ : ∃ g, decide (-2 ≤ a ∧ a ≤ 2) = g := ⟨_, rfl⟩
  obtain ⟨g3, h3⟩ : ∃ g, decide (0 ≤ o ∧ o ≤ 9) = g := ⟨_, rfl⟩
  have hf : (g1 && g2 && g3) = f := by
    rw [Bool.eq_iff_iff, h, ← h1, ← h2, ← h3]
    unfold No.isN
    simp only [Bool.and_eq_true, decide_eq_true_eq]
    omega
  have H1 := Lib.hid h1
  have H2 := Lib.hid h2
  have H3 := Lib.hid h3
  clear h h1 h2 h3
  cases g1 with
  | false =>
    go_enter Tryd.func51, Tryd.ntmps51
    go_wp2_with fail
    refine (rpvalid_is s a o false H1.out _).mono ?_; rintro e w1 ⟨rfl, hb⟩
    have A1 := A0.below hb
    have G1 := G0.trans (hb.mono G0.size)
    obtain ⟨c0, c1, c2⟩ := And.intro A1.c0 (And.intro A1.c1 A1.c2)
    clear hb
    go_wp2_with fail
    clear c0 c1 c2
    go_ret
    exact ⟨by rw [← hf]; rfl, G1⟩
  | true =>
    cases g2 with
    | false =>
      go_enter Tryd.func51, Tryd.ntmps51
      go_wp2_with fail
      refine (rpvalid_is s a o true H1.out _).mono ?_; rintro e w1 ⟨rfl, hb⟩
      have A1 := A0.below hb
      have G1 := G0.trans (hb.mono G0.size)
      obtain ⟨c0, c1, c2⟩ := And.intro A1.c0 (And.intro A1.c1 A1.c2)
      clear hb
      go_wp2_with fail
      clear c0 c1 c2
      refine (pin_is a (-2) 2 false H2.out _).mono ?_; rintro e w2 ⟨rfl, hb⟩
      have A2 := A1.below hb
      have G2 := G1.trans (hb.mono G1.size)
      obtain ⟨c0, c1, c2⟩ := And.intro A2.c0 (And.intro A2.c1 A2.c2)
      clear hb
      go_wp2_with fail
      clear c0 c1 c2
      go_ret
      exact ⟨by rw [← hf]; rfl, G2⟩
    | true =>
      go_enter Tryd.func51, Tryd.ntmps51
      go_wp2_with fail
      refine (rpvalid_is s a o true H1.out _).mono ?_; rintro e w1 ⟨rfl, hb⟩
      have A1 := A0.below hb
      have G1 := G0.trans (hb.mono G0.size)
      obtain ⟨c0, c1, c2⟩ := And.intro A1.c0 (And.intro A1.c1 A1.c2)
      clear hb
      go_wp2_with fail
      clear c0 c1 c2
      refine (pin_is a (-2) 2 true H2.out _).mono ?_; rintro e w2 ⟨rfl, hb⟩
      have A2 := A1.below hb
      have G2 := G1.trans (hb.mono G1.size)
      obtain ⟨c0, c1, c2⟩ := And.intro A2.c0 (And.intro A2.c1 A2.c2)
      clear hb
      go_wp2_with fail
      clear c0 c1 c2
      refine (pin_is o 0 9 g3 H3.out _).mono ?_; rintro e w3 ⟨rfl, hb⟩
      have G3 := G2.trans (hb.mono G2.size)
      clear hb
      go_wp2_with fail
      go_ret
      exact ⟨by rw [← hf]; rfl, G3⟩
set_option maxHeartbeats 800000 in
theorem rsound_is (s a o t : Int) (h : 12 * o + No.nat7 s + a = t) (hn : No.isN s a o) (w : World) :
    Calls Tryd.prog 73 #[.agg #[.int .i64 s, .int .i64 a, .int .i64 o]] w fun e w' => e = .returned (.int .i64 t) ∧ Below w.heap.size w w' := by
  have G0 := (Below.refl w.heap.size w).alloc (Nat.le_refl _) (.cells #[.int .i64 s, .int .i64 a, .int .i64 o] 40)
  have A0 : At3 (w.alloc (.cells #[.int .i64 s, .int .i64 a, .int .i64 o] 40)) w.heap.size s a o := At3.new _ _ _ _ _
  obtain ⟨u, hu⟩ : ∃ u, No.nat7 s = u := ⟨_, rfl⟩
  rw [hu] at h
  obtain ⟨s0, s1, a0, a1, o0, o1⟩ := hn
  have hu0 : 0 ≤ u ∧ u ≤ 12 := by rw [← hu]; unfold No.nat7; split <;> omega
  obtain ⟨u0, u1⟩ := hu0
  have HU := Lib.hid hu
  have HT := Lib.hid h
  clear h hu
  go_enter Tryd.func73, Tryd.ntmps73
  go_wp2_with fail
  generalize w.alloc (.cells #[.int .i64 s, .int .i64 a, .int .i64 o] 40) = w2 at *
  have x0 := fun x : Ext w2 => x.cell A0.c0
  have x1 := fun x : Ext w2 => x.cell A0.c1
  have x2 := fun x : Ext w2 => x.cell A0.c2
  have hne := Ext.there w2
  refine Ext.region (by kernel_rfl) (by kernel_rfl) ?_
  repeat (go_big_quiet_step ((go_at_call 92; exact Ext.call _ (rnatural_is s u HU.out s0 s1 _))))
  refine wpQuiet_nil ?_
  rintro _ ⟨xw, rfl⟩
  have G1 := G0.trans (xw.h.mono G0.size)
  clear x0 x1 x2 hne
  generalize xw.w = w3 at *
  clear xw
  go_wp2_with fail
  go_ret
  exact ⟨by rw [← HT.out]; rfl, G1⟩
set_option maxHeartbeats 800000 in
theorem rbar_is (l : List Mt.B) (id r : Int) (len cap : Nat) (A : Option Addr) (h : No.bix l id = r) (hl : l.length = len) (hmax : len ≤ 4000000) (w : World) (hL : SlB w A l) :
    Calls Tryd.prog 41 #[.slice A len cap, .int .i64 id] w fun e w' => e = .returned (.int .i64 r) ∧ w = w' := by
  have HR : Hid (∀ i : Nat, i ≤ l.length → (∀ j, j < i → (atB l j).1 ≠ id) → (if No.bix (l.drop i) id < 0 then -1 else No.bix (l.drop i) id + i) = r) := Lib.hid (fun i hi hj => by
    rw [← h]
    clear h hl hL
    induction i generalizing l with
    | zero => rw [List.drop_zero]; have := No.bix_ge l id; split <;> omega
    | succ i ih =>
      cases l with
      | nil => simp at hi
      | cons b l =>
        have hb : b.1 ≠ id := hj 0 (by omega)
        have h2 := ih l (by simpa using hi) (fun j hj2 => hj (j + 1) (by omega))
        rw [List.drop_succ_cons]
        conv => rhs; unfold No.bix; rw [if_neg hb]
        have h3 := No.bix_ge l id
        split
        · rename_i h4; rw [if_pos h4] at h2; rw [← h2]; simp
        · rename_i h4; rw [if_neg h4] at h2; rw [← h2, if_neg (by have := No.bix_ge (l.drop i) id; omega)]; omega)
  have HN := Lib.hid hl
  have HL := Lib.hid hL
  clear h hl hL
  go_enter Tryd.func41, Tryd.ntmps41
  go_wp2_with fail
  go_loopw [5] (fun s5 wr => ∃ (i : Nat) (q : Int), i ≤ len ∧ q = i ∧ s5 = .int .i64 q ∧ Hid (∀ j, j < i → (atB l j).1 ≠ id) ∧ wr = w) (fun s5 _ => len - (intOf s5).toNat)
  case atStart => exact ⟨0, 0, Nat.zero_le _, rfl, rfl, Lib.hid (fun j hj => by omega), rfl⟩
  case round =>
    obtain ⟨i, q, hi, hq, rfl, HE, rfl⟩ := hrel
    by_cases hlt : i < len
    · have hil : i < l.length := by rw [HN.out]; omega
      obtain ⟨bb, off, rfl, hbb, hc⟩ := HL.out (by omega)
      obtain ⟨c0, _⟩ := hc i hil
      have hq1 : q < (len : Int) := by omega
      have hq3 : 0 ≤ q := by omega
      have hqn : q.toNat = i := by omega
      have HQ := Lib.hid hq
      have HD := Lib.hid (HR.out i (by omega) HE.out)
      obtain ⟨id2, hid2⟩ : ∃ id2, (atB l i).1 = id2 := ⟨_, rfl⟩
      have HI := Lib.hid hid2
      have hgt : (l[i]).1 = id2 := by rw [← hid2, atB_eq hil]
      rw [hid2] at c0
      by_cases he : id2 = id
      · have hr : r = q := by
          have hd := HD.out
          have hz : No.bix (l.drop i) id = 0 := by
            rw [List.drop_eq_getElem_cons hil]
            unfold No.bix
            rw [if_pos (by rw [hgt]; exact he)]
          rw [hz, if_neg (by omega)] at hd
          omega
        subst he hr
        clear hc hq hil hid2 hgt
        go_wp2_with fail
        go_ret
        exact ⟨rfl, rfl⟩
      · have he' : (id2 == id) = false := by simpa using he
        have HE2 : Hid (∀ j, j < i + 1 → (atB l j).1 ≠ id) := Lib.hid (fun j hj => by
          by_cases e : j = i
          · subst e; rw [HI.out]; exact he
          · exact HE.out j (by omega))
        clear hc hq hil hid2 hgt he
        go_wp2_with fail
        go_roundw
        case rel => exact ⟨i + 1, q + 1, by omega, (by have := HQ.out; omega), rfl, HE2, (by first | rfl | trivial)⟩
        case measure => have := HQ.out; simp [intOf]; omega
    · obtain rfl : i = len := by omega
      have hr : r = -1 := by
        have := HR.out i (by rw [HN.out]; exact Nat.le_refl _) HE.out
        rw [List.drop_eq_nil_of_le (by rw [HN.out]; exact Nat.le_refl _)] at this
        unfold No.bix at this
        simpa using this.symm
      subst hr
      have hq1 : ¬ q < (i : Int) := by omega
      clear hq
      go_wp2_with fail
      go_ret
      exact ⟨rfl, rfl⟩
end Go.Proofs.YthamkigdpgajaaaDoor

/- A note in memory; the walk of the reference's Note. -/
namespace Go.Proofs.YthamkigdpgajaaaDoor
open Go.RowKit

/-- The twelve cells of a note, from an address on. -/
structure NtAt (w : World) (b o : Nat) (n : No.Nt) : Prop where
  c0 : w.cell? ⟨b, o + 0, none⟩ = some (.int .i64 n.id)
  c1 : w.cell? ⟨b, o + 1, none⟩ = some (.int .i64 n.pa)
  c2 : w.cell? ⟨b, o + 2, none⟩ = some (.int .i64 n.ba)
  c3 : w.cell? ⟨b, o + 3, none⟩ = some (.int .i64 n.vo)
  c4 : w.cell? ⟨b, o + 4, none⟩ = some (.int .i64 n.os)
  c5 : w.cell? ⟨b, o + 5, none⟩ = some (.int .i64 n.sn)
  c6 : w.cell? ⟨b, o + 6, none⟩ = some (.int .i64 n.sd)
  c7 : w.cell? ⟨b, o + 7, none⟩ = some (.int .i64 n.ln)
  c8 : w.cell? ⟨b, o + 8, none⟩ = some (.int .i64 n.ld)
  c9 : w.cell? ⟨b, o + 9, none⟩ = some (.int .i64 n.st)
  c10 : w.cell? ⟨b, o + 10, none⟩ = some (.int .i64 n.al)
  c11 : w.cell? ⟨b, o + 11, none⟩ = some (.int .i64 n.oc)
theorem NtAt.below {w w' : World} {b o B : Nat} {n : No.Nt} (h : NtAt w b o n) (hb : Below B w w') (hlt : b < B) : NtAt w' b o n :=
  ⟨(hb.cell (p := ⟨b, o + 0, none⟩) hlt).trans h.c0, (hb.cell (p := ⟨b, o + 1, none⟩) hlt).trans h.c1, (hb.cell (p := ⟨b, o + 2, none⟩) hlt).trans h.c2, (hb.cell (p := ⟨b, o + 3, none⟩) hlt).trans h.c3, (hb.cell (p := ⟨b, o + 4, none⟩) hlt).trans h.c4, (hb.cell (p := ⟨b, o + 5, none⟩) hlt).trans h.c5, (hb.cell (p := ⟨b, o + 6, none⟩) hlt).trans h.c6, (hb.cell (p := ⟨b, o + 7, none⟩) hlt).trans h.c7, (hb.cell (p := ⟨b, o + 8, none⟩) hlt).trans h.c8, (hb.cell (p := ⟨b, o + 9, none⟩) hlt).trans h.c9, (hb.cell (p := ⟨b, o + 10, none⟩) hlt).trans h.c10, (hb.cell (p := ⟨b, o + 11, none⟩) hlt).trans h.c11⟩
/-- A note in a block of its own. -/
structure NtB (w : World) (b : Nat) (n : No.Nt) : Prop where
  lt : b < w.heap.size
  c0 : w.cell? ⟨b, 0, none⟩ = some (.int .i64 n.id)
  c1 : w.cell? ⟨b, 1, none⟩ = some (.int .i64 n.pa)
  c2 : w.cell? ⟨b, 2, none⟩ = some (.int .i64 n.ba)
  c3 : w.cell? ⟨b, 3, none⟩ = some (.int .i64 n.vo)
  c4 : w.cell? ⟨b, 4, none⟩ = some (.int .i64 n.os)
  c5 : w.cell? ⟨b, 5, none⟩ = some (.int .i64 n.sn)
  c6 : w.cell? ⟨b, 6, none⟩ = some (.int .i64 n.sd)
  c7 : w.cell? ⟨b, 7, none⟩ = some (.int .i64 n.ln)
  c8 : w.cell? ⟨b, 8, none⟩ = some (.int .i64 n.ld)
  c9 : w.cell? ⟨b, 9, none⟩ = some (.int .i64 n.st)
  c10 : w.cell? ⟨b, 10, none⟩ = some (.int .i64 n.al)
  c11 : w.cell? ⟨b, 11, none⟩ = some (.int .i64 n.oc)
theorem NtB.below {w w' : World} {b : Nat} {n : No.Nt} (h : NtB w b n) (hb : Below w.heap.size w w') : NtB w' b n :=
  ⟨Nat.lt_of_lt_of_le h.lt hb.size, (hb.cell (p := ⟨b, 0, none⟩) h.lt).trans h.c0, (hb.cell (p := ⟨b, 1, none⟩) h.lt).trans h.c1, (hb.cell (p := ⟨b, 2, none⟩) h.lt).trans h.c2, (hb.cell (p := ⟨b, 3, none⟩) h.lt).trans h.c3, (hb.cell (p := ⟨b, 4, none⟩) h.lt).trans h.c4, (hb.cell (p := ⟨b, 5, none⟩) h.lt).trans h.c5, (hb.cell (p := ⟨b, 6, none⟩) h.lt).trans h.c6, (hb.cell (p := ⟨b, 7, none⟩) h.lt).trans h.c7, (hb.cell (p := ⟨b, 8, none⟩) h.lt).trans h.c8, (hb.cell (p := ⟨b, 9, none⟩) h.lt).trans h.c9, (hb.cell (p := ⟨b, 10, none⟩) h.lt).trans h.c10, (hb.cell (p := ⟨b, 11, none⟩) h.lt).trans h.c11⟩
theorem NtB.alloc {w : World} {b : Nat} {n : No.Nt} (h : NtB w b n) (o : Obj) : NtB (w.alloc o) b n := h.below ((Below.refl _ _).alloc (Nat.le_refl _) _)
set_option maxHeartbeats 800000 in
theorem NtB.new (w : World) (n : No.Nt) : NtB (w.alloc (.cells #[.int .i64 n.id, .int .i64 n.pa, .int .i64 n.ba, .int .i64 n.vo, .int .i64 n.os, .int .i64 n.sn, .int .i64 n.sd, .int .i64 n.ln, .int .i64 n.ld, .int .i64 n.st, .int .i64 n.al, .int .i64 n.oc] 42)) w.heap.size n :=
  ⟨by simp, by go_simp, by go_simp, by go_simp, by go_simp, by go_simp, by go_simp, by go_simp, by go_simp, by go_simp, by go_simp, by go_simp, by go_simp⟩

theorem risnote_d (s a o : Int) (f : Bool) (h : decide (0 ≤ s ∧ s ≤ 6 ∧ -2 ≤ a ∧ a ≤ 2 ∧ 0 ≤ o ∧ o ≤ 9) = f) (w : World) :
    Calls Tryd.prog 51 #[.agg #[.int .i64 s, .int .i64 a, .int .i64 o]] w fun e w' => e = .returned (.bool f) ∧ Below w.heap.size w w' :=
  risnote_is s a o f (by rw [← h, decide_eq_true_eq]; exact Iff.rfl) w

theorem rbar_b (l : List Mt.B) (id r : Int) (len cap : Nat) (A : Option Addr) (h : No.bix l id = r) (hl : l.length = len) (hmax : len ≤ 4000000) (w : World) (hL : SlB w A l) :
    Calls Tryd.prog 41 #[.slice A len cap, .int .i64 id] w fun e w' => e = .returned (.int .i64 r) ∧ Below w.heap.size w w' :=
  (rbar_is l id r len cap A h hl hmax w hL).mono fun _ _ h => ⟨h.1, h.2 ▸ Below.refl _ _⟩

set_option maxHeartbeats 1600000 in
theorem rnote_is (l : List Mt.B) (n : No.Nt) (f : Bool) (len cap : Nat) (A : Option Addr) (h : f = true ↔ No.okN l n) (hl : l.length = len) (_hok : ∀ b ∈ l, Mt.okB b) (hmax : len ≤ 4000) (w : World) (hL : SlB w A l) :
    Calls Tryd.prog 27 #[.slice A len cap, .agg #[.int .i64 n.id, .int .i64 n.pa, .int .i64 n.ba, .int .i64 n.vo, .int .i64 n.os, .int .i64 n.sn, .int .i64 n.sd, .int .i64 n.ln, .int .i64 n.ld, .int .i64 n.st, .int .i64 n.al, .int .i64 n.oc]] w fun e w' => e = .returned (.bool f) ∧ Below w.heap.size w w' := by
  have G0 := (Below.refl w.heap.size w).alloc (Nat.le_refl _) (.cells #[.int .i64 n.id, .int .i64 n.pa, .int .i64 n.ba, .int .i64 n.vo, .int .i64 n.os, .int .i64 n.sn, .int .i64 n.sd, .int .i64 n.ln, .int .i64 n.ld, .int .i64 n.st, .int .i64 n.al, .int .i64 n.oc] 42)
  have A0 := NtB.new w n
  obtain ⟨r, hr⟩ : ∃ r, No.bix l n.ba = r := ⟨_, rfl⟩
  obtain ⟨g2, h2⟩ : ∃ g, decide (0 ≤ n.st ∧ n.st ≤ 6 ∧ -2 ≤ n.al ∧ n.al ≤ 2 ∧ 0 ≤ n.oc ∧ n.oc ≤ 9) = g := ⟨_, rfl⟩
  obtain ⟨g3, h3⟩ : ∃ g, decide (1 ≤ n.id ∧ n.id ≤ 1000000) = g := ⟨_, rfl⟩
  obtain ⟨g4, h4⟩ : ∃ g, decide (1 ≤ n.pa ∧ n.pa ≤ 1000000) = g := ⟨_, rfl⟩
  obtain ⟨g5, h5⟩ : ∃ g, decide (0 ≤ n.vo ∧ n.vo ≤ 9) = g := ⟨_, rfl⟩
  obtain ⟨g6, h6⟩ : ∃ g, decide (0 ≤ n.os ∧ n.os ≤ 20) = g := ⟨_, rfl⟩
  obtain ⟨t, ht⟩ : ∃ t, Mt.tk n.sn n.sd = t := ⟨_, rfl⟩
  obtain ⟨u, hu⟩ : ∃ u, Mt.tk n.ln n.ld = u := ⟨_, rfl⟩
  have htl := Mt.tk_le n.sn n.sd
  have hul := Mt.tk_le n.ln n.ld
  have htg := Mt.tk_ge n.sn n.sd
  have hug := Mt.tk_ge n.ln n.ld
  rw [ht] at htl htg
  rw [hu] at hul hug
  have HLw := Lib.hid hL
  have HL0 := Lib.hid (hL.alloc (.cells #[.int .i64 n.id, .int .i64 n.pa, .int .i64 n.ba, .int .i64 n.vo, .int .i64 n.os, .int .i64 n.sn, .int .i64 n.sd, .int .i64 n.ln, .int .i64 n.ld, .int .i64 n.st, .int .i64 n.al, .int .i64 n.oc] 42))
  have HR := Lib.hid hr
  have H2 := Lib.hid h2
  have H3 := Lib.hid h3
  have H4 := Lib.hid h4
  have H5 := Lib.hid h5
  have H6 := Lib.hid h6
  have HT := Lib.hid ht
  have HU := Lib.hid hu
  have HN := Lib.hid hl
  have hf : f = true ↔ (0 ≤ r ∧ g2 = true ∧ g3 = true ∧ g4 = true ∧ g5 = true ∧ g6 = true ∧ 0 ≤ t ∧ 0 < u ∧ t + u ≤ Mt.bt (atB l r.toNat)) := by
    rw [h, ← h2, ← h3, ← h4, ← h5, ← h6]
    unfold No.okN No.start No.leng No.isN
    rw [hr, ht, hu]
    simp only [decide_eq_true_eq, and_assoc]
  have HF := Lib.hid hf
  clear h h2 h3 h4 h5 h6 ht hu hf
  by_cases hr0 : r < 0
  · obtain rfl : f = false := by
      cases f with
      | false => rfl
      | true => have := (HF.out.1 rfl).1; omega
    have L0 := HL0.out
    go_enter Tryd.func27, Tryd.ntmps27
    go_wp2_with fail
    refine (rbar_b l n.ba r len cap A HR.out HN.out (by omega) _ L0).mono ?_; rintro e w1 ⟨rfl, hb⟩
    have A1 := A0.below hb
    have L1 := L0.below hb
    have G1 := G0.trans (hb.mono G0.size)
    clear hb A0 L0
    obtain ⟨c0, c1, c2, c3, c4, c5, c6, c7, c8, c9, c10, c11⟩ := And.intro A1.c0 (And.intro A1.c1 (And.intro A1.c2 (And.intro A1.c3 (And.intro A1.c4 (And.intro A1.c5 (And.intro A1.c6 (And.intro A1.c7 (And.intro A1.c8 (And.intro A1.c9 (And.intro A1.c10 A1.c11))))))))))
    go_wp2_with fail
    clear c0 c1 c2 c3 c4 c5 c6 c7 c8 c9 c10 c11
    refine (risnote_d n.st n.al n.oc g2 H2.out _).mono ?_; rintro e w2 ⟨rfl, hb⟩
    have A2 := A1.below hb
    have L2 := L1.below hb
    have G2 := G1.trans (hb.mono G1.size)
    clear hb A1 L1
    obtain ⟨c0, c1, c2, c3, c4, c5, c6, c7, c8, c9, c10, c11⟩ := And.intro A2.c0 (And.intro A2.c1 (And.intro A2.c2 (And.intro A2.c3 (And.intro A2.c4 (And.intro A2.c5 (And.intro A2.c6 (And.intro A2.c7 (And.intro A2.c8 (And.intro A2.c9 (And.intro A2.c10 A2.c11))))))))))
    go_wp2_with fail
    clear c0 c1 c2 c3 c4 c5 c6 c7 c8 c9 c10 c11
    go_ret
    exact ⟨rfl, G2⟩
  have hr1 : ¬ r < 0 := hr0
  cases g2 with
  | false =>
    obtain rfl : f = false := by
      cases f with
      | false => rfl
      | true => have := HF.out.1 rfl; exact absurd this.2.1 (by decide)
    have L0 := HL0.out
    go_enter Tryd.func27, Tryd.ntmps27
    go_wp2_with fail
    refine (rbar_b l n.ba r len cap A HR.out HN.out (by omega) _ L0).mono ?_; rintro e w1 ⟨rfl, hb⟩
    have A1 := A0.below hb
    have L1 := L0.below hb
    have G1 := G0.trans (hb.mono G0.size)
    clear hb A0 L0
    obtain ⟨c0, c1, c2, c3, c4, c5, c6, c7, c8, c9, c10, c11⟩ := And.intro A1.c0 (And.intro A1.c1 (And.intro A1.c2 (And.intro A1.c3 (And.intro A1.c4 (And.intro A1.c5 (And.intro A1.c6 (And.intro A1.c7 (And.intro A1.c8 (And.intro A1.c9 (And.intro A1.c10 A1.c11))))))))))
    go_wp2_with fail
    clear c0 c1 c2 c3 c4 c5 c6 c7 c8 c9 c10 c11
    refine (risnote_d n.st n.al n.oc false H2.out _).mono ?_; rintro e w2 ⟨rfl, hb⟩
    have A2 := A1.below hb
    have L2 := L1.below hb
    have G2 := G1.trans (hb.mono G1.size)
    clear hb A1 L1
    obtain ⟨c0, c1, c2, c3, c4, c5, c6, c7, c8, c9, c10, c11⟩ := And.intro A2.c0 (And.intro A2.c1 (And.intro A2.c2 (And.intro A2.c3 (And.intro A2.c4 (And.intro A2.c5 (And.intro A2.c6 (And.intro A2.c7 (And.intro A2.c8 (And.intro A2.c9 (And.intro A2.c10 A2.c11))))))))))
    go_wp2_with fail
    clear c0 c1 c2 c3 c4 c5 c6 c7 c8 c9 c10 c11
    go_ret
    exact ⟨rfl, G2⟩
  | true =>
    cases g3 with
    | false =>
      obtain rfl : f = false := by
        cases f with
        | false => rfl
        | true => have := HF.out.1 rfl; exact absurd this.2.2.1 (by decide)
      have L0 := HL0.out
      go_enter Tryd.func27, Tryd.ntmps27
      go_wp2_with fail
      refine (rbar_b l n.ba r len cap A HR.out HN.out (by omega) _ L0).mono ?_; rintro e w1 ⟨rfl, hb⟩
      have A1 := A0.below hb
      have L1 := L0.below hb
      have G1 := G0.trans (hb.mono G0.size)
      clear hb A0 L0
      obtain ⟨c0, c1, c2, c3, c4, c5, c6, c7, c8, c9, c10, c11⟩ := And.intro A1.c0 (And.intro A1.c1 (And.intro A1.c2 (And.intro A1.c3 (And.intro A1.c4 (And.intro A1.c5 (And.intro A1.c6 (And.intro A1.c7 (And.intro A1.c8 (And.intro A1.c9 (And.intro A1.c10 A1.c11))))))))))
      go_wp2_with fail
      clear c0 c1 c2 c3 c4 c5 c6 c7 c8 c9 c10 c11
      refine (risnote_d n.st n.al n.oc true H2.out _).mono ?_; rintro e w2 ⟨rfl, hb⟩
      have A2 := A1.below hb
      have L2 := L1.below hb
      have G2 := G1.trans (hb.mono G1.size)
      clear hb A1 L1
      obtain ⟨c0, c1, c2, c3, c4, c5, c6, c7, c8, c9, c10, c11⟩ := And.intro A2.c0 (And.intro A2.c1 (And.intro A2.c2 (And.intro A2.c3 (And.intro A2.c4 (And.intro A2.c5 (And.intro A2.c6 (And.intro A2.c7 (And.intro A2.c8 (And.intro A2.c9 (And.intro A2.c10 A2.c11))))))))))
      go_wp2_with fail
      clear c0 c1 c2 c3 c4 c5 c6 c7 c8 c9 c10 c11
      refine (rin_is n.id 1 1000000 false H3.out _).mono ?_; rintro e w3 ⟨rfl, hb⟩
      have A3 := A2.below hb
      have L3 := L2.below hb
      have G3 := G2.trans (hb.mono G2.size)
      clear hb A2 L2
      obtain ⟨c0, c1, c2, c3, c4, c5, c6, c7, c8, c9, c10, c11⟩ := And.intro A3.c0 (And.intro A3.c1 (And.intro A3.c2 (And.intro A3.c3 (And.intro A3.c4 (And.intro A3.c5 (And.intro A3.c6 (And.intro A3.c7 (And.intro A3.c8 (And.intro A3.c9 (And.intro A3.c10 A3.c11))))))))))
      go_wp2_with fail
      clear c0 c1 c2 c3 c4 c5 c6 c7 c8 c9 c10 c11
      go_ret
      exact ⟨rfl, G3⟩
    | true =>
      cases g4 with
      | false =>
        obtain rfl : f = false := by
          cases f with
          | false => rfl
          | true => have := HF.out.1 rfl; exact absurd this.2.2.2.1 (by decide)
        have L0 := HL0.out
        go_enter Tryd.func27, Tryd.ntmps27
        go_wp2_with fail
        refine (rbar_b l n.ba r len cap A HR.out HN.out (by omega) _ L0).mono ?_; rintro e w1 ⟨rfl, hb⟩
        have A1 := A0.below hb
        have L1 := L0.below hb
        have G1 := G0.trans (hb.mono G0.size)
        clear hb A0 L0
        obtain ⟨c0, c1, c2, c3, c4, c5, c6, c7, c8, c9, c10, c11⟩ := And.intro A1.c0 (And.intro A1.c1 (And.intro A1.c2 (And.intro A1.c3 (And.intro A1.c4 (And.intro A1.c5 (And.intro A1.c6 (And.intro A1.c7 (And.intro A1.c8 (And.intro A1.c9 (And.intro A1.c10 A1.c11))))))))))
        go_wp2_with fail
        clear c0 c1 c2 c3 c4 c5 c6 c7 c8 c9 c10 c11
        refine (risnote_d n.st n.al n.oc true H2.out _).mono ?_; rintro e w2 ⟨rfl, hb⟩
        have A2 := A1.below hb
        have L2 := L1.below hb
        have G2 := G1.trans (hb.mono G1.size)
        clear hb A1 L1
        obtain ⟨c0, c1, c2, c3, c4, c5, c6, c7, c8, c9, c10, c11⟩ := And.intro A2.c0 (And.intro A2.c1 (And.intro A2.c2 (And.intro A2.c3 (And.intro A2.c4 (And.intro A2.c5 (And.intro A2.c6 (And.intro A2.c7 (And.intro A2.c8 (And.intro A2.c9 (And.intro A2.c10 A2.c11))))))))))
        go_wp2_with fail
        clear c0 c1 c2 c3 c4 c5 c6 c7 c8 c9 c10 c11
        refine (rin_is n.id 1 1000000 true H3.out _).mono ?_; rintro e w3 ⟨rfl, hb⟩
        have A3 := A2.below hb
        have L3 := L2.below hb
        have G3 := G2.trans (hb.mono G2.size)
        clear hb A2 L2
        obtain ⟨c0, c1, c2, c3, c4, c5, c6, c7, c8, c9, c10, c11⟩ := And.intro A3.c0 (And.intro A3.c1 (And.intro A3.c2 (And.intro A3.c3 (And.intro A3.c4 (And.intro A3.c5 (And.intro A3.c6 (And.intro A3.c7 (And.intro A3.c8 (And.intro A3.c9 (And.intro A3.c10 A3.c11))))))))))
        go_wp2_with fail
        clear c0 c1 c2 c3 c4 c5 c6 c7 c8 c9 c10 c11
        refine (rin_is n.pa 1 1000000 false H4.out _).mono ?_; rintro e w4 ⟨rfl, hb⟩
        have A4 := A3.below hb
        have L4 := L3.below hb
        have G4 := G3.trans (hb.mono G3.size)
        clear hb A3 L3
        obtain ⟨c0, c1, c2, c3, c4, c5, c6, c7, c8, c9, c10, c11⟩ := And.intro A4.c0 (And.intro A4.c1 (And.intro A4.c2 (And.intro A4.c3 (And.intro A4.c4 (And.intro A4.c5 (And.intro A4.c6 (And.intro A4.c7 (And.intro A4.c8 (And.intro A4.c9 (And.intro A4.c10 A4.c11))))))))))
        go_wp2_with fail
        clear c0 c1 c2 c3 c4 c5 c6 c7 c8 c9 c10 c11
        go_ret
        exact ⟨rfl, G4⟩
      | true =>
        cases g5 with
        | false =>
          obtain rfl : f = false := by
            cases f with
            | false => rfl
            | true => have := HF.out.1 rfl; exact absurd this.2.2.2.2.1 (by decide)
          have L0 := HL0.out
          go_enter Tryd.func27, Tryd.ntmps27
          go_wp2_with fail
          refine (rbar_b l n.ba r len cap A HR.out HN.out (by omega) _ L0).mono ?_; rintro e w1 ⟨rfl, hb⟩
          have A1 := A0.below hb
          have L1 := L0.below hb
          have G1 := G0.trans (hb.mono G0.size)
          clear hb A0 L0
          obtain ⟨c0, c1, c2, c3, c4, c5, c6, c7, c8, c9, c10, c11⟩ := And.intro A1.c0 (And.intro A1.c1 (And.intro A1.c2 (And.intro A1.c3 (And.intro A1.c4 (And.intro A1.c5 (And.intro A1.c6 (And.intro A1.c7 (And.intro A1.c8 (And.intro A1.c9 (And.intro A1.c10 A1.c11))))))))))
          go_wp2_with fail
          clear c0 c1 c2 c3 c4 c5 c6 c7 c8 c9 c10 c11
          refine (risnote_d n.st n.al n.oc true H2.out _).mono ?_; rintro e w2 ⟨rfl, hb⟩
          have A2 := A1.below hb
          have L2 := L1.below hb
          have G2 := G1.trans (hb.mono G1.size)
          clear hb A1 L1
          obtain ⟨c0, c1, c2, c3, c4, c5, c6, c7, c8, c9, c10, c11⟩ := And.intro A2.c0 (And.intro A2.c1 (And.intro A2.c2 (And.intro A2.c3 (And.intro A2.c4 (And.intro A2.c5 (And.intro A2.c6 (And.intro A2.c7 (And.intro A2.c8 (And.intro A2.c9 (And.intro A2.c10 A2.c11))))))))))
          go_wp2_with fail
          clear c0 c1 c2 c3 c4 c5 c6 c7 c8 c9 c10 c11
          refine (rin_is n.id 1 1000000 true H3.out _).mono ?_; rintro e w3 ⟨rfl, hb⟩
          have A3 := A2.below hb
          have L3 := L2.below hb
          have G3 := G2.trans (hb.mono G2.size)
          clear hb A2 L2
          obtain ⟨c0, c1, c2, c3, c4, c5, c6, c7, c8, c9, c10, c11⟩ := And.intro A3.c0 (And.intro A3.c1 (And.intro A3.c2 (And.intro A3.c3 (And.intro A3.c4 (And.intro A3.c5 (And.intro A3.c6 (And.intro A3.c7 (And.intro A3.c8 (And.intro A3.c9 (And.intro A3.c10 A3.c11))))))))))
          go_wp2_with fail
          clear c0 c1 c2 c3 c4 c5 c6 c7 c8 c9 c10 c11
          refine (rin_is n.pa 1 1000000 true H4.out _).mono ?_; rintro e w4 ⟨rfl, hb⟩
          have A4 := A3.below hb
          have L4 := L3.below hb
          have G4 := G3.trans (hb.mono G3.size)
          clear hb A3 L3
          obtain ⟨c0, c1, c2, c3, c4, c5, c6, c7, c8, c9, c10, c11⟩ := And.intro A4.c0 (And.intro A4.c1 (And.intro A4.c2 (And.intro A4.c3 (And.intro A4.c4 (And.intro A4.c5 (And.intro A4.c6 (And.intro A4.c7 (And.intro A4.c8 (And.intro A4.c9 (And.intro A4.c10 A4.c11))))))))))
          go_wp2_with fail
          clear c0 c1 c2 c3 c4 c5 c6 c7 c8 c9 c10 c11
          refine (rin_is n.vo 0 9 false H5.out _).mono ?_; rintro e w5 ⟨rfl, hb⟩
          have A5 := A4.below hb
          have L5 := L4.below hb
          have G5 := G4.trans (hb.mono G4.size)
          clear hb A4 L4
          obtain ⟨c0, c1, c2, c3, c4, c5, c6, c7, c8, c9, c10, c11⟩ := And.intro A5.c0 (And.intro A5.c1 (And.intro A5.c2 (And.intro A5.c3 (And.intro A5.c4 (And.intro A5.c5 (And.intro A5.c6 (And.intro A5.c7 (And.intro A5.c8 (And.intro A5.c9 (And.intro A5.c10 A5.c11))))))))))
          go_wp2_with fail
          clear c0 c1 c2 c3 c4 c5 c6 c7 c8 c9 c10 c11
          go_ret
          exact ⟨rfl, G5⟩
        | true =>
          cases g6 with
          | false =>
            obtain rfl : f = false := by
              cases f with
              | false => rfl
              | true => have := HF.out.1 rfl; exact absurd this.2.2.2.2.2.1 (by decide)
            have L0 := HL0.out
            go_enter Tryd.func27, Tryd.ntmps27
            go_wp2_with fail
            refine (rbar_b l n.ba r len cap A HR.out HN.out (by omega) _ L0).mono ?_; rintro e w1 ⟨rfl, hb⟩
            have A1 := A0.below hb
            have L1 := L0.below hb
            have G1 := G0.trans (hb.mono G0.size)
            clear hb A0 L0
            obtain ⟨c0, c1, c2, c3, c4, c5, c6, c7, c8, c9, c10, c11⟩ := And.intro A1.c0 (And.intro A1.c1 (And.intro A1.c2 (And.intro A1.c3 (And.intro A1.c4 (And.intro A1.c5 (And.intro A1.c6 (And.intro A1.c7 (And.intro A1.c8 (And.intro A1.c9 (And.intro A1.c10 A1.c11))))))))))
            go_wp2_with fail
            clear c0 c1 c2 c3 c4 c5 c6 c7 c8 c9 c10 c11
            refine (risnote_d n.st n.al n.oc true H2.out _).mono ?_; rintro e w2 ⟨rfl, hb⟩
            have A2 := A1.below hb
            have L2 := L1.below hb
            have G2 := G1.trans (hb.mono G1.size)
            clear hb A1 L1
            obtain ⟨c0, c1, c2, c3, c4, c5, c6, c7, c8, c9, c10, c11⟩ := And.intro A2.c0 (And.intro A2.c1 (And.intro A2.c2 (And.intro A2.c3 (And.intro A2.c4 (And.intro A2.c5 (And.intro A2.c6 (And.intro A2.c7 (And.intro A2.c8 (And.intro A2.c9 (And.intro A2.c10 A2.c11))))))))))
            go_wp2_with fail
            clear c0 c1 c2 c3 c4 c5 c6 c7 c8 c9 c10 c11
            refine (rin_is n.id 1 1000000 true H3.out _).mono ?_; rintro e w3 ⟨rfl, hb⟩
            have A3 := A2.below hb
            have L3 := L2.below hb
            have G3 := G2.trans (hb.mono G2.size)
            clear hb A2 L2
            obtain ⟨c0, c1, c2, c3, c4, c5, c6, c7, c8, c9, c10, c11⟩ := And.intro A3.c0 (And.intro A3.c1 (And.intro A3.c2 (And.intro A3.c3 (And.intro A3.c4 (And.intro A3.c5 (And.intro A3.c6 (And.intro A3.c7 (And.intro A3.c8 (And.intro A3.c9 (And.intro A3.c10 A3.c11))))))))))
            go_wp2_with fail
            clear c0 c1 c2 c3 c4 c5 c6 c7 c8 c9 c10 c11
            refine (rin_is n.pa 1 1000000 true H4.out _).mono ?_; rintro e w4 ⟨rfl, hb⟩
            have A4 := A3.below hb
            have L4 := L3.below hb
            have G4 := G3.trans (hb.mono G3.size)
            clear hb A3 L3
            obtain ⟨c0, c1, c2, c3, c4, c5, c6, c7, c8, c9, c10, c11⟩ := And.intro A4.c0 (And.intro A4.c1 (And.intro A4.c2 (And.intro A4.c3 (And.intro A4.c4 (And.intro A4.c5 (And.intro A4.c6 (And.intro A4.c7 (And.intro A4.c8 (And.intro A4.c9 (And.intro A4.c10 A4.c11))))))))))
            go_wp2_with fail
            clear c0 c1 c2 c3 c4 c5 c6 c7 c8 c9 c10 c11
            refine (rin_is n.vo 0 9 true H5.out _).mono ?_; rintro e w5 ⟨rfl, hb⟩
            have A5 := A4.below hb
            have L5 := L4.below hb
            have G5 := G4.trans (hb.mono G4.size)
            clear hb A4 L4
            obtain ⟨c0, c1, c2, c3, c4, c5, c6, c7, c8, c9, c10, c11⟩ := And.intro A5.c0 (And.intro A5.c1 (And.intro A5.c2 (And.intro A5.c3 (And.intro A5.c4 (And.intro A5.c5 (And.intro A5.c6 (And.intro A5.c7 (And.intro A5.c8 (And.intro A5.c9 (And.intro A5.c10 A5.c11))))))))))
            go_wp2_with fail
            clear c0 c1 c2 c3 c4 c5 c6 c7 c8 c9 c10 c11
            refine (rin_is n.os 0 20 false H6.out _).mono ?_; rintro e w6 ⟨rfl, hb⟩
            have A6 := A5.below hb
            have L6 := L5.below hb
            have G6 := G5.trans (hb.mono G5.size)
            clear hb A5 L5
            obtain ⟨c0, c1, c2, c3, c4, c5, c6, c7, c8, c9, c10, c11⟩ := And.intro A6.c0 (And.intro A6.c1 (And.intro A6.c2 (And.intro A6.c3 (And.intro A6.c4 (And.intro A6.c5 (And.intro A6.c6 (And.intro A6.c7 (And.intro A6.c8 (And.intro A6.c9 (And.intro A6.c10 A6.c11))))))))))
            go_wp2_with fail
            clear c0 c1 c2 c3 c4 c5 c6 c7 c8 c9 c10 c11
            go_ret
            exact ⟨rfl, G6⟩
          | true =>
            by_cases ht0 : 0 ≤ t
            · by_cases hu0 : 0 < u
              · have hrl := No.bix_lt l n.ba
                rw [HR.out, HN.out] at hrl
                obtain ⟨j, rfl⟩ := Int.eq_ofNat_of_zero_le (show 0 ≤ r by omega)
                have hjl : j < l.length := by rw [HN.out]; omega
                obtain ⟨v, hv⟩ : ∃ v, Mt.bt (atB l j) = v := ⟨_, rfl⟩
                have HVV : Hid (Mt.tk (atB l j).2.1 (atB l j).2.2.1 = v) := Lib.hid hv
                obtain ⟨bb, off, rfl, hbb, hc⟩ := HLw.out (by omega)
                obtain ⟨_, d1, d2, _⟩ := hc j hjl
                have hf : decide (t + u ≤ v) = f := by
                  rw [Bool.eq_iff_iff, HF.out, Int.toNat_natCast, hv, decide_eq_true_eq]
                  constructor
                  · intro h; exact ⟨by omega, rfl, rfl, rfl, rfl, rfl, ht0, hu0, h⟩
                  · intro h; exact h.2.2.2.2.2.2.2.2
                have HFF := Lib.hid hf
                have D1 := Lib.hid d1
                have D2 := Lib.hid d2
                have hjl2 : j < len := by omega
                clear hc hv hf d1 d2 hjl
                generalize (atB l j).2.1 = n2 at *
                generalize (atB l j).2.2.1 = d2 at *
                have L0 := HL0.out
                go_enter Tryd.func27, Tryd.ntmps27
                go_wp2_with fail
                refine (rbar_b l n.ba (j : Int) len cap _ HR.out HN.out (by omega) _ L0).mono ?_; rintro e w1 ⟨rfl, hb⟩
                have A1 := A0.below hb
                have L1 := L0.below hb
                have G1 := G0.trans (hb.mono G0.size)
                clear hb A0 L0
                obtain ⟨c0, c1, c2, c3, c4, c5, c6, c7, c8, c9, c10, c11⟩ := And.intro A1.c0 (And.intro A1.c1 (And.intro A1.c2 (And.intro A1.c3 (And.intro A1.c4 (And.intro A1.c5 (And.intro A1.c6 (And.intro A1.c7 (And.intro A1.c8 (And.intro A1.c9 (And.intro A1.c10 A1.c11))))))))))
                go_wp2_with fail
                clear c0 c1 c2 c3 c4 c5 c6 c7 c8 c9 c10 c11
                refine (risnote_d n.st n.al n.oc true H2.out _).mono ?_; rintro e w2 ⟨rfl, hb⟩
                have A2 := A1.below hb
                have L2 := L1.below hb
                have G2 := G1.trans (hb.mono G1.size)
                clear hb A1 L1
                obtain ⟨c0, c1, c2, c3, c4, c5, c6, c7, c8, c9, c10, c11⟩ := And.intro A2.c0 (And.intro A2.c1 (And.intro A2.c2 (And.intro A2.c3 (And.intro A2.c4 (And.intro A2.c5 (And.intro A2.c6 (And.intro A2.c7 (And.intro A2.c8 (And.intro A2.c9 (And.intro A2.c10 A2.c11))))))))))
                go_wp2_with fail
                clear c0 c1 c2 c3 c4 c5 c6 c7 c8 c9 c10 c11
                refine (rin_is n.id 1 1000000 true H3.out _).mono ?_; rintro e w3 ⟨rfl, hb⟩
                have A3 := A2.below hb
                have L3 := L2.below hb
                have G3 := G2.trans (hb.mono G2.size)
                clear hb A2 L2
                obtain ⟨c0, c1, c2, c3, c4, c5, c6, c7, c8, c9, c10, c11⟩ := And.intro A3.c0 (And.intro A3.c1 (And.intro A3.c2 (And.intro A3.c3 (And.intro A3.c4 (And.intro A3.c5 (And.intro A3.c6 (And.intro A3.c7 (And.intro A3.c8 (And.intro A3.c9 (And.intro A3.c10 A3.c11))))))))))
                go_wp2_with fail
                clear c0 c1 c2 c3 c4 c5 c6 c7 c8 c9 c10 c11
                refine (rin_is n.pa 1 1000000 true H4.out _).mono ?_; rintro e w4 ⟨rfl, hb⟩
                have A4 := A3.below hb
                have L4 := L3.below hb
                have G4 := G3.trans (hb.mono G3.size)
                clear hb A3 L3
                obtain ⟨c0, c1, c2, c3, c4, c5, c6, c7, c8, c9, c10, c11⟩ := And.intro A4.c0 (And.intro A4.c1 (And.intro A4.c2 (And.intro A4.c3 (And.intro A4.c4 (And.intro A4.c5 (And.intro A4.c6 (And.intro A4.c7 (And.intro A4.c8 (And.intro A4.c9 (And.intro A4.c10 A4.c11))))))))))
                go_wp2_with fail
                clear c0 c1 c2 c3 c4 c5 c6 c7 c8 c9 c10 c11
                refine (rin_is n.vo 0 9 true H5.out _).mono ?_; rintro e w5 ⟨rfl, hb⟩
                have A5 := A4.below hb
                have L5 := L4.below hb
                have G5 := G4.trans (hb.mono G4.size)
                clear hb A4 L4
                obtain ⟨c0, c1, c2, c3, c4, c5, c6, c7, c8, c9, c10, c11⟩ := And.intro A5.c0 (And.intro A5.c1 (And.intro A5.c2 (And.intro A5.c3 (And.intro A5.c4 (And.intro A5.c5 (And.intro A5.c6 (And.intro A5.c7 (And.intro A5.c8 (And.intro A5.c9 (And.intro A5.c10 A5.c11))))))))))
                go_wp2_with fail
                clear c0 c1 c2 c3 c4 c5 c6 c7 c8 c9 c10 c11
                refine (rin_is n.os 0 20 true H6.out _).mono ?_; rintro e w6 ⟨rfl, hb⟩
                have A6 := A5.below hb
                have L6 := L5.below hb
                have G6 := G5.trans (hb.mono G5.size)
                clear hb A5 L5
                obtain ⟨c0, c1, c2, c3, c4, c5, c6, c7, c8, c9, c10, c11⟩ := And.intro A6.c0 (And.intro A6.c1 (And.intro A6.c2 (And.intro A6.c3 (And.intro A6.c4 (And.intro A6.c5 (And.intro A6.c6 (And.intro A6.c7 (And.intro A6.c8 (And.intro A6.c9 (And.intro A6.c10 A6.c11))))))))))
                go_wp2_with fail
                clear c0 c1 c2 c3 c4 c5 c6 c7 c8 c9 c10 c11
                refine (kticks_is n.sn n.sd t HT.out _).mono ?_; rintro e w7 ⟨rfl, hb⟩
                have A7 := A6.below hb
                have L7 := L6.below hb
                have G7 := G6.trans (hb.mono G6.size)
                clear hb A6 L6
                obtain ⟨c0, c1, c2, c3, c4, c5, c6, c7, c8, c9, c10, c11⟩ := And.intro A7.c0 (And.intro A7.c1 (And.intro A7.c2 (And.intro A7.c3 (And.intro A7.c4 (And.intro A7.c5 (And.intro A7.c6 (And.intro A7.c7 (And.intro A7.c8 (And.intro A7.c9 (And.intro A7.c10 A7.c11))))))))))
                go_wp2_with fail
                clear c0 c1 c2 c3 c4 c5 c6 c7 c8 c9 c10 c11
                refine (kticks_is n.ln n.ld u HU.out _).mono ?_; rintro e w8 ⟨rfl, hb⟩
                have A8 := A7.below hb
                have L8 := L7.below hb
                have G8 := G7.trans (hb.mono G7.size)
                clear hb A7 L7
                obtain ⟨c0, c1, c2, c3, c4, c5, c6, c7, c8, c9, c10, c11⟩ := And.intro A8.c0 (And.intro A8.c1 (And.intro A8.c2 (And.intro A8.c3 (And.intro A8.c4 (And.intro A8.c5 (And.intro A8.c6 (And.intro A8.c7 (And.intro A8.c8 (And.intro A8.c9 (And.intro A8.c10 A8.c11))))))))))
                have z1 := (G8.cell (p := ⟨bb, off + j * 4 + 1, none⟩) hbb).trans D1.out
                have z2 := (G8.cell (p := ⟨bb, off + j * 4 + 2, none⟩) hbb).trans D2.out
                go_wp2_with fail
                refine (kticks_is n2 d2 v HVV.out _).mono ?_; rintro e w9 ⟨rfl, hb⟩
                have G9 := G8.trans (hb.mono G8.size)
                clear hb
                go_wp2_with fail
                go_ret
                exact ⟨by rw [← HFF.out]; rfl, G9⟩
              · obtain rfl : f = false := by
                  cases f with
                  | false => rfl
                  | true => have := HF.out.1 rfl; omega
                have L0 := HL0.out
                go_enter Tryd.func27, Tryd.ntmps27
                go_wp2_with fail
                refine (rbar_b l n.ba r len cap A HR.out HN.out (by omega) _ L0).mono ?_; rintro e w1 ⟨rfl, hb⟩
                have A1 := A0.below hb
                have L1 := L0.below hb
                have G1 := G0.trans (hb.mono G0.size)
                clear hb A0 L0
                obtain ⟨c0, c1, c2, c3, c4, c5, c6, c7, c8, c9, c10, c11⟩ := And.intro A1.c0 (And.intro A1.c1 (And.intro A1.c2 (And.intro A1.c3 (And.intro A1.c4 (And.intro A1.c5 (And.intro A1.c6 (And.intro A1.c7 (And.intro A1.c8 (And.intro A1.c9 (And.intro A1.c10 A1.c11))))))))))
                go_wp2_with fail
                clear c0 c1 c2 c3 c4 c5 c6 c7 c8 c9 c10 c11
                refine (risnote_d n.st n.al n.oc true H2.out _).mono ?_; rintro e w2 ⟨rfl, hb⟩
                have A2 := A1.below hb
                have L2 := L1.below hb
                have G2 := G1.trans (hb.mono G1.size)
                clear hb A1 L1
                obtain ⟨c0, c1, c2, c3, c4, c5, c6, c7, c8, c9, c10, c11⟩ := And.intro A2.c0 (And.intro A2.c1 (And.intro A2.c2 (And.intro A2.c3 (And.intro A2.c4 (And.intro A2.c5 (And.intro A2.c6 (And.intro A2.c7 (And.intro A2.c8 (And.intro A2.c9 (And.intro A2.c10 A2.c11))))))))))
                go_wp2_with fail
                clear c0 c1 c2 c3 c4 c5 c6 c7 c8 c9 c10 c11
                refine (rin_is n.id 1 1000000 true H3.out _).mono ?_; rintro e w3 ⟨rfl, hb⟩
                have A3 := A2.below hb
                have L3 := L2.below hb
                have G3 := G2.trans (hb.mono G2.size)
                clear hb A2 L2
                obtain ⟨c0, c1, c2, c3, c4, c5, c6, c7, c8, c9, c10, c11⟩ := And.intro A3.c0 (And.intro A3.c1 (And.intro A3.c2 (And.intro A3.c3 (And.intro A3.c4 (And.intro A3.c5 (And.intro A3.c6 (And.intro A3.c7 (And.intro A3.c8 (And.intro A3.c9 (And.intro A3.c10 A3.c11))))))))))
                go_wp2_with fail
                clear c0 c1 c2 c3 c4 c5 c6 c7 c8 c9 c10 c11
                refine (rin_is n.pa 1 1000000 true H4.out _).mono ?_; rintro e w4 ⟨rfl, hb⟩
                have A4 := A3.below hb
                have L4 := L3.below hb
                have G4 := G3.trans (hb.mono G3.size)
                clear hb A3 L3
                obtain ⟨c0, c1, c2, c3, c4, c5, c6, c7, c8, c9, c10, c11⟩ := And.intro A4.c0 (And.intro A4.c1 (And.intro A4.c2 (And.intro A4.c3 (And.intro A4.c4 (And.intro A4.c5 (And.intro A4.c6 (And.intro A4.c7 (And.intro A4.c8 (And.intro A4.c9 (And.intro A4.c10 A4.c11))))))))))
                go_wp2_with fail
                clear c0 c1 c2 c3 c4 c5 c6 c7 c8 c9 c10 c11
                refine (rin_is n.vo 0 9 true H5.out _).mono ?_; rintro e w5 ⟨rfl, hb⟩
                have A5 := A4.below hb
                have L5 := L4.below hb
                have G5 := G4.trans (hb.mono G4.size)
                clear hb A4 L4
                obtain ⟨c0, c1, c2, c3, c4, c5, c6, c7, c8, c9, c10, c11⟩ := And.intro A5.c0 (And.intro A5.c1 (And.intro A5.c2 (And.intro A5.c3 (And.intro A5.c4 (And.intro A5.c5 (And.intro A5.c6 (And.intro A5.c7 (And.intro A5.c8 (And.intro A5.c9 (And.intro A5.c10 A5.c11))))))))))
                go_wp2_with fail
                clear c0 c1 c2 c3 c4 c5 c6 c7 c8 c9 c10 c11
                refine (rin_is n.os 0 20 true H6.out _).mono ?_; rintro e w6 ⟨rfl, hb⟩
                have A6 := A5.below hb
                have L6 := L5.below hb
                have G6 := G5.trans (hb.mono G5.size)
                clear hb A5 L5
                obtain ⟨c0, c1, c2, c3, c4, c5, c6, c7, c8, c9, c10, c11⟩ := And.intro A6.c0 (And.intro A6.c1 (And.intro A6.c2 (And.intro A6.c3 (And.intro A6.c4 (And.intro A6.c5 (And.intro A6.c6 (And.intro A6.c7 (And.intro A6.c8 (And.intro A6.c9 (And.intro A6.c10 A6.c11))))))))))
                go_wp2_with fail
                clear c0 c1 c2 c3 c4 c5 c6 c7 c8 c9 c10 c11
                refine (kticks_is n.sn n.sd t HT.out _).mono ?_; rintro e w7 ⟨rfl, hb⟩
                have A7 := A6.below hb
                have L7 := L6.below hb
                have G7 := G6.trans (hb.mono G6.size)
                clear hb A6 L6
                obtain ⟨c0, c1, c2, c3, c4, c5, c6, c7, c8, c9, c10, c11⟩ := And.intro A7.c0 (And.intro A7.c1 (And.intro A7.c2 (And.intro A7.c3 (And.intro A7.c4 (And.intro A7.c5 (And.intro A7.c6 (And.intro A7.c7 (And.intro A7.c8 (And.intro A7.c9 (And.intro A7.c10 A7.c11))))))))))
                go_wp2_with fail
                clear c0 c1 c2 c3 c4 c5 c6 c7 c8 c9 c10 c11
                refine (kticks_is n.ln n.ld u HU.out _).mono ?_; rintro e w8 ⟨rfl, hb⟩
                have A8 := A7.below hb
                have L8 := L7.below hb
                have G8 := G7.trans (hb.mono G7.size)
                clear hb A7 L7
                obtain ⟨c0, c1, c2, c3, c4, c5, c6, c7, c8, c9, c10, c11⟩ := And.intro A8.c0 (And.intro A8.c1 (And.intro A8.c2 (And.intro A8.c3 (And.intro A8.c4 (And.intro A8.c5 (And.intro A8.c6 (And.intro A8.c7 (And.intro A8.c8 (And.intro A8.c9 (And.intro A8.c10 A8.c11))))))))))
                go_wp2_with fail
                clear c0 c1 c2 c3 c4 c5 c6 c7 c8 c9 c10 c11
                go_ret
                exact ⟨rfl, G8⟩
            · obtain rfl : f = false := by
                cases f with
                | false => rfl
                | true => have := HF.out.1 rfl; omega
              have L0 := HL0.out
              go_enter Tryd.func27, Tryd.ntmps27
              go_wp2_with fail
              refine (rbar_b l n.ba r len cap A HR.out HN.out (by omega) _ L0).mono ?_; rintro e w1 ⟨rfl, hb⟩
              have A1 := A0.below hb
              have L1 := L0.below hb
              have G1 := G0.trans (hb.mono G0.size)
              clear hb A0 L0
              obtain ⟨c0, c1, c2, c3, c4, c5, c6, c7, c8, c9, c10, c11⟩ := And.intro A1.c0 (And.intro A1.c1 (And.intro A1.c2 (And.intro A1.c3 (And.intro A1.c4 (And.intro A1.c5 (And.intro A1.c6 (And.intro A1.c7 (And.intro A1.c8 (And.intro A1.c9 (And.intro A1.c10 A1.c11))))))))))
              go_wp2_with fail
              clear c0 c1 c2 c3 c4 c5 c6 c7 c8 c9 c10 c11
              refine (risnote_d n.st n.al n.oc true H2.out _).mono ?_; rintro e w2 ⟨rfl, hb⟩
              have A2 := A1.below hb
              have L2 := L1.below hb
              have G2 := G1.trans (hb.mono G1.size)
              clear hb A1 L1
              obtain ⟨c0, c1, c2, c3, c4, c5, c6, c7, c8, c9, c10, c11⟩ := And.intro A2.c0 (And.intro A2.c1 (And.intro A2.c2 (And.intro A2.c3 (And.intro A2.c4 (And.intro A2.c5 (And.intro A2.c6 (And.intro A2.c7 (And.intro A2.c8 (And.intro A2.c9 (And.intro A2.c10 A2.c11))))))))))
              go_wp2_with fail
              clear c0 c1 c2 c3 c4 c5 c6 c7 c8 c9 c10 c11
              refine (rin_is n.id 1 1000000 true H3.out _).mono ?_; rintro e w3 ⟨rfl, hb⟩
              have A3 := A2.below hb
              have L3 := L2.below hb
              have G3 := G2.trans (hb.mono G2.size)
              clear hb A2 L2
              obtain ⟨c0, c1, c2, c3, c4, c5, c6, c7, c8, c9, c10, c11⟩ := And.intro A3.c0 (And.intro A3.c1 (And.intro A3.c2 (And.intro A3.c3 (And.intro A3.c4 (And.intro A3.c5 (And.intro A3.c6 (And.intro A3.c7 (And.intro A3.c8 (And.intro A3.c9 (And.intro A3.c10 A3.c11))))))))))
              go_wp2_with fail
              clear c0 c1 c2 c3 c4 c5 c6 c7 c8 c9 c10 c11
              refine (rin_is n.pa 1 1000000 true H4.out _).mono ?_; rintro e w4 ⟨rfl, hb⟩
              have A4 := A3.below hb
              have L4 := L3.below hb
              have G4 := G3.trans (hb.mono G3.size)
              clear hb A3 L3
              obtain ⟨c0, c1, c2, c3, c4, c5, c6, c7, c8, c9, c10, c11⟩ := And.intro A4.c0 (And.intro A4.c1 (And.intro A4.c2 (And.intro A4.c3 (And.intro A4.c4 (And.intro A4.c5 (And.intro A4.c6 (And.intro A4.c7 (And.intro A4.c8 (And.intro A4.c9 (And.intro A4.c10 A4.c11))))))))))
              go_wp2_with fail
              clear c0 c1 c2 c3 c4 c5 c6 c7 c8 c9 c10 c11
              refine (rin_is n.vo 0 9 true H5.out _).mono ?_; rintro e w5 ⟨rfl, hb⟩
              have A5 := A4.below hb
              have L5 := L4.below hb
              have G5 := G4.trans (hb.mono G4.size)
              clear hb A4 L4
              obtain ⟨c0, c1, c2, c3, c4, c5, c6, c7, c8, c9, c10, c11⟩ := And.intro A5.c0 (And.intro A5.c1 (And.intro A5.c2 (And.intro A5.c3 (And.intro A5.c4 (And.intro A5.c5 (And.intro A5.c6 (And.intro A5.c7 (And.intro A5.c8 (And.intro A5.c9 (And.intro A5.c10 A5.c11))))))))))
              go_wp2_with fail
              clear c0 c1 c2 c3 c4 c5 c6 c7 c8 c9 c10 c11
              refine (rin_is n.os 0 20 true H6.out _).mono ?_; rintro e w6 ⟨rfl, hb⟩
              have A6 := A5.below hb
              have L6 := L5.below hb
              have G6 := G5.trans (hb.mono G5.size)
              clear hb A5 L5
              obtain ⟨c0, c1, c2, c3, c4, c5, c6, c7, c8, c9, c10, c11⟩ := And.intro A6.c0 (And.intro A6.c1 (And.intro A6.c2 (And.intro A6.c3 (And.intro A6.c4 (And.intro A6.c5 (And.intro A6.c6 (And.intro A6.c7 (And.intro A6.c8 (And.intro A6.c9 (And.intro A6.c10 A6.c11))))))))))
              go_wp2_with fail
              clear c0 c1 c2 c3 c4 c5 c6 c7 c8 c9 c10 c11
              refine (kticks_is n.sn n.sd t HT.out _).mono ?_; rintro e w7 ⟨rfl, hb⟩
              have A7 := A6.below hb
              have L7 := L6.below hb
              have G7 := G6.trans (hb.mono G6.size)
              clear hb A6 L6
              obtain ⟨c0, c1, c2, c3, c4, c5, c6, c7, c8, c9, c10, c11⟩ := And.intro A7.c0 (And.intro A7.c1 (And.intro A7.c2 (And.intro A7.c3 (And.intro A7.c4 (And.intro A7.c5 (And.intro A7.c6 (And.intro A7.c7 (And.intro A7.c8 (And.intro A7.c9 (And.intro A7.c10 A7.c11))))))))))
              go_wp2_with fail
              clear c0 c1 c2 c3 c4 c5 c6 c7 c8 c9 c10 c11
              refine (kticks_is n.ln n.ld u HU.out _).mono ?_; rintro e w8 ⟨rfl, hb⟩
              have A8 := A7.below hb
              have L8 := L7.below hb
              have G8 := G7.trans (hb.mono G7.size)
              clear hb A7 L7
              obtain ⟨c0, c1, c2, c3, c4, c5, c6, c7, c8, c9, c10, c11⟩ := And.intro A8.c0 (And.intro A8.c1 (And.intro A8.c2 (And.intro A8.c3 (And.intro A8.c4 (And.intro A8.c5 (And.intro A8.c6 (And.intro A8.c7 (And.intro A8.c8 (And.intro A8.c9 (And.intro A8.c10 A8.c11))))))))))
              go_wp2_with fail
              clear c0 c1 c2 c3 c4 c5 c6 c7 c8 c9 c10 c11
              go_ret
              exact ⟨rfl, G8⟩
end Go.Proofs.YthamkigdpgajaaaDoor

/- The walks of the reference's keys and Before. -/
namespace Go.Proofs.YthamkigdpgajaaaDoor
open Go.RowKit

/-- A list of integers at the start of a block. -/
structure KeyAt (w : World) (g : Nat) (k : List Int) : Prop where
  lt : g < w.heap.size
  at_ : ∀ i, i < k.length → w.cell? ⟨g, i, none⟩ = some (.int .i64 (k.getD i 0))
theorem KeyAt.below {w w' : World} {g : Nat} {k : List Int} (h : KeyAt w g k) (hb : Below w.heap.size w w') : KeyAt w' g k :=
  ⟨Nat.lt_of_lt_of_le h.lt hb.size, fun i hi => (hb.cell (p := ⟨g, i, none⟩) h.lt).trans (h.at_ i hi)⟩

def kyC (W : World) (k : List Int) (vs : List Value) (w : World) : Prop := Below W.heap.size W w ∧ match vs with
  | [] => True
  | [v] => ∃ g, v = .slice (some ⟨g, 0, none⟩) 6 6 ∧ KeyAt w g k
  | _ => False
theorem kyC.below {W : World} {k : List Int} {vs : List Value} {w w' : World} (h : kyC W k vs w) (hb : Below w.heap.size w w') : kyC W k vs w' := by
  obtain ⟨h1, h2⟩ := h
  refine ⟨h1.trans (hb.mono h1.size), ?_⟩
  match vs, h2 with
  | [], _ => trivial
  | [v], ⟨g, e, hv⟩ => exact ⟨g, e, hv.below hb⟩

set_option maxHeartbeats 1600000 in
theorem rkeys_is (l : List Mt.B) (n : No.Nt) (r t s : Int) (len cap : Nat) (A : Option Addr) (hr : No.bix l n.ba = r) (ht : No.start n = t) (hs : No.snd n = s) (hn : No.isN n.st n.al n.oc) (hl : l.length = len) (hmax : len ≤ 4000000) (w : World) (hL : SlB w A l) :
    Calls Tryd.prog 49 #[.slice A len cap, .agg #[.int .i64 n.id, .int .i64 n.pa, .int .i64 n.ba, .int .i64 n.vo, .int .i64 n.os, .int .i64 n.sn, .int .i64 n.sd, .int .i64 n.ln, .int .i64 n.ld, .int .i64 n.st, .int .i64 n.al, .int .i64 n.oc]] w fun e w' => ∃ g, e = .returned (.slice (some ⟨g, 0, none⟩) 6 6) ∧ KeyAt w' g [r, n.pa, t, n.vo, s, n.id] ∧ Below w.heap.size w w' := by
  have G0 := (Below.refl w.heap.size w).alloc (Nat.le_refl _) (.cells #[.int .i64 n.id, .int .i64 n.pa, .int .i64 n.ba, .int .i64 n.vo, .int .i64 n.os, .int .i64 n.sn, .int .i64 n.sd, .int .i64 n.ln, .int .i64 n.ld, .int .i64 n.st, .int .i64 n.al, .int .i64 n.oc] 42)
  have A0 := NtB.new w n
  have HL := Lib.hid (hL.alloc (.cells #[.int .i64 n.id, .int .i64 n.pa, .int .i64 n.ba, .int .i64 n.vo, .int .i64 n.os, .int .i64 n.sn, .int .i64 n.sd, .int .i64 n.ln, .int .i64 n.ld, .int .i64 n.st, .int .i64 n.al, .int .i64 n.oc] 42))
  have HR := Lib.hid hr
  have HT := Lib.hid ht
  have HS := Lib.hid hs
  have HN := Lib.hid hl
  have HI := Lib.hid hn
  clear hr ht hs hl hn hL
  go_enter Tryd.func49, Tryd.ntmps49
  go_wp2_with fail
  generalize w.alloc (.cells #[.int .i64 n.id, .int .i64 n.pa, .int .i64 n.ba, .int .i64 n.vo, .int .i64 n.os, .int .i64 n.sn, .int .i64 n.sd, .int .i64 n.ln, .int .i64 n.ld, .int .i64 n.st, .int .i64 n.al, .int .i64 n.oc] 42) = w2 at *
  have hw : ∀ (vs : List Value) (w' : World), kyC w2 [r, n.pa, t, n.vo, s, n.id] vs w' → Below w2.heap.size w2 w' := fun _ _ h => h.1
  have x0 := fun x : PvW (kyC w2 [r, n.pa, t, n.vo, s, n.id]) => (A0.below x.h.1).c0
  have x1 := fun x : PvW (kyC w2 [r, n.pa, t, n.vo, s, n.id]) => (A0.below x.h.1).c1
  have x2 := fun x : PvW (kyC w2 [r, n.pa, t, n.vo, s, n.id]) => (A0.below x.h.1).c2
  have x3 := fun x : PvW (kyC w2 [r, n.pa, t, n.vo, s, n.id]) => (A0.below x.h.1).c3
  have x5 := fun x : PvW (kyC w2 [r, n.pa, t, n.vo, s, n.id]) => (A0.below x.h.1).c5
  have x6 := fun x : PvW (kyC w2 [r, n.pa, t, n.vo, s, n.id]) => (A0.below x.h.1).c6
  have x9 := fun x : PvW (kyC w2 [r, n.pa, t, n.vo, s, n.id]) => (A0.below x.h.1).c9
  have x10 := fun x : PvW (kyC w2 [r, n.pa, t, n.vo, s, n.id]) => (A0.below x.h.1).c10
  have x11 := fun x : PvW (kyC w2 [r, n.pa, t, n.vo, s, n.id]) => (A0.below x.h.1).c11
  have hne : Nonempty (PvW (kyC w2 [r, n.pa, t, n.vo, s, n.id])) := PvW.there ⟨Below.refl _ _, trivial⟩
  refine region_pv (V := fun f _ => if f = 41 then .int .i64 r else if f = 25 then .int .i64 t else .int .i64 s) (cs := [16]) (Cv := kyC w2 [r, n.pa, t, n.vo, s, n.id]) 17 (by kernel_rfl) (by kernel_rfl) (by kernel_rfl) ⟨(Below.refl _ _).drew, trivial⟩ ?_
  simp only [List.take_succ_cons, List.take_zero, List.drop_succ_cons, List.drop_zero]
  iterate 3 (refine pv_quiet (by decide) rfl rfl ?_; intro K' hK'; go_big_quiet_op; go_big_quiet_on)
  refine pv_kept (f := 41) (args := #[.slice A len cap, .int .i64 n.ba]) (by decide) (.int .i64 r) rfl (fun vs' w' hw' => ?_) (if_pos rfl) (fun vs' w' hw' => ?_) ?_
  · simp [go_sem]
  · refine (rbar_b l n.ba r len cap A HR.out HN.out (by omega) w' (HL.out.below hw'.1)).mono ?_
    rintro e w2 ⟨rfl, hb2⟩
    exact ⟨rfl, hw'.below hb2⟩
  simp only [Act.put, List.setIfInBounds_toArray, List.set_cons_succ, List.set_cons_zero]
  iterate 4 (refine pv_quiet (by decide) rfl rfl ?_; intro K' hK'; go_big_quiet_op; go_big_quiet_on)
  refine pv_kept (f := 25) (args := #[.agg #[.int .i64 n.sn, .int .i64 n.sd]]) (by decide) (.int .i64 t) rfl (fun vs' w' hw' => ?_) ((if_neg (by decide)).trans (if_pos rfl)) (fun vs' w' hw' => ?_) ?_
  · simp [go_sem]
  · refine (kticks_is n.sn n.sd t HT.out w').mono ?_
    rintro e w2 ⟨rfl, hb2⟩
    exact ⟨rfl, hw'.below hb2⟩
  simp only [Act.put, List.setIfInBounds_toArray, List.set_cons_succ, List.set_cons_zero]
  iterate 4 (refine pv_quiet (by decide) rfl rfl ?_; intro K' hK'; go_big_quiet_op; go_big_quiet_on)
  refine pv_kept (f := 73) (args := #[.agg #[.int .i64 n.st, .int .i64 n.al, .int .i64 n.oc]]) (by decide) (.int .i64 s) rfl (fun vs' w' hw' => ?_) ((if_neg (by decide)).trans (if_neg (by decide))) (fun vs' w' hw' => ?_) ?_
  · simp [go_sem]
  · refine (rsound_is n.st n.al n.oc s HS.out HI.out w').mono ?_
    rintro e w2 ⟨rfl, hb2⟩
    exact ⟨rfl, hw'.below hb2⟩
  simp only [Act.put, List.setIfInBounds_toArray, List.set_cons_succ, List.set_cons_zero]
  iterate 2 (refine pv_quiet (by decide) rfl rfl ?_; intro K' hK'; go_big_quiet_op; go_big_quiet_on)
  refine pv_made rfl rfl (fun w' hw' => ⟨.slice (some ⟨w'.heap.size, 0, none⟩) 6 6, w'.alloc (.cells #[.int .i64 r, .int .i64 n.pa, .int .i64 t, .int .i64 n.vo, .int .i64 s, .int .i64 n.id] 3), ?_, hw'.1.alloc hw'.1.size _, _, rfl, ?_⟩) ?_
  · go_simp
  · refine ⟨by simp, fun i hi => ?_⟩
    match i, hi with
    | 0, _ => go_simp
    | 1, _ => go_simp
    | 2, _ => go_simp
    | 3, _ => go_simp
    | 4, _ => go_simp
    | 5, _ => go_simp
  rintro _ ⟨_, _, g, rfl, _⟩
  simp only [Act.put, List.setIfInBounds_toArray, List.set_cons_succ, List.set_cons_zero]
  rintro w4 ⟨hb4, g', e', hg⟩
  cases e'
  have G1 := G0.trans (hb4.mono G0.size)
  clear x0 x1 x2 x3 x5 x6 x9 x10 x11 hne hw A0
  go_wp2_with fail
  go_ret
  exact ⟨_, rfl, hg, G1⟩

theorem ltk_at : ∀ (i : Nat) {a b : List Int}, a.length = b.length → i < a.length → (∀ j, j < i → a.getD j 0 = b.getD j 0) → a.getD i 0 ≠ b.getD i 0 → No.ltk a b = decide (a.getD i 0 < b.getD i 0)
  | _, [], _, _, h, _, _ => by simp at h
  | _, _ :: _, [], h, _, _, _ => by simp at h
  | 0, x :: a, y :: b, _, _, _, h => by
    simp only [List.getD_cons_zero] at h ⊢
    unfold No.ltk
    rw [if_neg h]
  | i + 1, x :: a, y :: b, hl, hi, h, hn => by
    have h0 := h 0 (by omega)
    simp only [List.getD_cons_zero] at h0
    simp only [List.getD_cons_succ] at hn ⊢
    unfold No.ltk
    rw [if_pos h0]
    exact ltk_at i (by simpa using hl) (by simpa using hi) (fun j hj => by have := h (j + 1) (by omega); simpa using this) hn
theorem ltk_same : ∀ {a b : List Int}, a.length = b.length → (∀ j, j < a.length → a.getD j 0 = b.getD j 0) → No.ltk a b = false
  | [], _, _, _ => by simp [No.ltk]
  | _ :: _, [], h, _ => by simp at h
  | x :: a, y :: b, hl, h => by
    have h0 := h 0 (by simp)
    simp only [List.getD_cons_zero] at h0
    unfold No.ltk
    rw [if_pos h0]
    exact ltk_same (by simpa using hl) (fun j hj => by have := h (j + 1) (by simp; omega); simpa using this)

set_option maxHeartbeats 1600000 in
theorem rbefore_is (l : List Mt.B) (n m : No.Nt) (f : Bool) (len cap : Nat) (A : Option Addr) (h : No.lt l n m = f) (hn : No.isN n.st n.al n.oc) (hm : No.isN m.st m.al m.oc) (hl : l.length = len) (hmax : len ≤ 4000000) (w : World) (hL : SlB w A l) :
    Calls Tryd.prog 24 #[.slice A len cap, .agg #[.int .i64 n.id, .int .i64 n.pa, .int .i64 n.ba, .int .i64 n.vo, .int .i64 n.os, .int .i64 n.sn, .int .i64 n.sd, .int .i64 n.ln, .int .i64 n.ld, .int .i64 n.st, .int .i64 n.al, .int .i64 n.oc], .agg #[.int .i64 m.id, .int .i64 m.pa, .int .i64 m.ba, .int .i64 m.vo, .int .i64 m.os, .int .i64 m.sn, .int .i64 m.sd, .int .i64 m.ln, .int .i64 m.ld, .int .i64 m.st, .int .i64 m.al, .int .i64 m.oc]] w fun e w' => e = .returned (.bool f) ∧ Below w.heap.size w w' := by
  have G0 := ((Below.refl w.heap.size w).alloc (Nat.le_refl _) (.cells #[.int .i64 n.id, .int .i64 n.pa, .int .i64 n.ba, .int .i64 n.vo, .int .i64 n.os, .int .i64 n.sn, .int .i64 n.sd, .int .i64 n.ln, .int .i64 n.ld, .int .i64 n.st, .int .i64 n.al, .int .i64 n.oc] 42)).alloc (by simp) (.cells #[.int .i64 m.id, .int .i64 m.pa, .int .i64 m.ba, .int .i64 m.vo, .int .i64 m.os, .int .i64 m.sn, .int .i64 m.sd, .int .i64 m.ln, .int .i64 m.ld, .int .i64 m.st, .int .i64 m.al, .int .i64 m.oc] 42)
  have A0 := (NtB.new w n).alloc (.cells #[.int .i64 m.id, .int .i64 m.pa, .int .i64 m.ba, .int .i64 m.vo, .int .i64 m.os, .int .i64 m.sn, .int .i64 m.sd, .int .i64 m.ln, .int .i64 m.ld, .int .i64 m.st, .int .i64 m.al, .int .i64 m.oc] 42)
  have B0 := NtB.new (w.alloc (.cells #[.int .i64 n.id, .int .i64 n.pa, .int .i64 n.ba, .int .i64 n.vo, .int .i64 n.os, .int .i64 n.sn, .int .i64 n.sd, .int .i64 n.ln, .int .i64 n.ld, .int .i64 n.st, .int .i64 n.al, .int .i64 n.oc] 42)) m
  have L0 := (hL.alloc (.cells #[.int .i64 n.id, .int .i64 n.pa, .int .i64 n.ba, .int .i64 n.vo, .int .i64 n.os, .int .i64 n.sn, .int .i64 n.sd, .int .i64 n.ln, .int .i64 n.ld, .int .i64 n.st, .int .i64 n.al, .int .i64 n.oc] 42)).alloc (.cells #[.int .i64 m.id, .int .i64 m.pa, .int .i64 m.ba, .int .i64 m.vo, .int .i64 m.os, .int .i64 m.sn, .int .i64 m.sd, .int .i64 m.ln, .int .i64 m.ld, .int .i64 m.st, .int .i64 m.al, .int .i64 m.oc] 42)
  obtain ⟨a, ha⟩ : ∃ a, No.key l n = a := ⟨_, rfl⟩
  obtain ⟨b, hb⟩ : ∃ b, No.key l m = b := ⟨_, rfl⟩
  have hal : a.length = 6 := by rw [← ha]; rfl
  have hbl : b.length = 6 := by rw [← hb]; rfl
  unfold No.lt at h
  rw [ha, hb] at h
  have HF := Lib.hid h
  have HA := Lib.hid ha
  have HB := Lib.hid hb
  have HAL := Lib.hid hal
  have HBL := Lib.hid hbl
  have HN := Lib.hid hl
  have HI := Lib.hid hn
  have HM := Lib.hid hm
  clear h ha hb hal hbl hl hn hm hL
  go_enter Tryd.func24, Tryd.ntmps24
  go_wp2_with fail
  rw [show (w.alloc (.cells #[.int .i64 n.id, .int .i64 n.pa, .int .i64 n.ba, .int .i64 n.vo, .int .i64 n.os, .int .i64 n.sn, .int .i64 n.sd, .int .i64 n.ln, .int .i64 n.ld, .int .i64 n.st, .int .i64 n.al, .int .i64 n.oc] 42)).heap.size = w.heap.size + 1 by simp] at B0
  generalize (w.alloc (.cells #[.int .i64 n.id, .int .i64 n.pa, .int .i64 n.ba, .int .i64 n.vo, .int .i64 n.os, .int .i64 n.sn, .int .i64 n.sd, .int .i64 n.ln, .int .i64 n.ld, .int .i64 n.st, .int .i64 n.al, .int .i64 n.oc] 42)).alloc (.cells #[.int .i64 m.id, .int .i64 m.pa, .int .i64 m.ba, .int .i64 m.vo, .int .i64 m.os, .int .i64 m.sn, .int .i64 m.sd, .int .i64 m.ln, .int .i64 m.ld, .int .i64 m.st, .int .i64 m.al, .int .i64 m.oc] 42) = w0 at *
  obtain ⟨c0, c1, c2, c3, c4, c5, c6, c7, c8, c9, c10, c11⟩ := And.intro A0.c0 (And.intro A0.c1 (And.intro A0.c2 (And.intro A0.c3 (And.intro A0.c4 (And.intro A0.c5 (And.intro A0.c6 (And.intro A0.c7 (And.intro A0.c8 (And.intro A0.c9 (And.intro A0.c10 A0.c11))))))))))
  go_wp2_with fail
  clear c0 c1 c2 c3 c4 c5 c6 c7 c8 c9 c10 c11
  refine (rkeys_is l n _ _ _ len cap A rfl rfl rfl HI.out HN.out hmax _ L0).mono ?_; rintro e w1 ⟨g1, rfl, hk1, hb⟩
  rw [show [No.bix l n.ba, n.pa, No.start n, n.vo, No.snd n, n.id] = a from HA.out] at hk1
  have B1 := B0.below hb
  have L1 := L0.below hb
  have G1 := G0.trans (hb.mono G0.size)
  clear hb A0 B0 L0
  obtain ⟨c0, c1, c2, c3, c4, c5, c6, c7, c8, c9, c10, c11⟩ := And.intro B1.c0 (And.intro B1.c1 (And.intro B1.c2 (And.intro B1.c3 (And.intro B1.c4 (And.intro B1.c5 (And.intro B1.c6 (And.intro B1.c7 (And.intro B1.c8 (And.intro B1.c9 (And.intro B1.c10 B1.c11))))))))))
  go_wp2_with fail
  clear c0 c1 c2 c3 c4 c5 c6 c7 c8 c9 c10 c11
  refine (rkeys_is l m _ _ _ len cap A rfl rfl rfl HM.out HN.out hmax _ L1).mono ?_; rintro e w2 ⟨g2, rfl, hk2, hb⟩
  rw [show [No.bix l m.ba, m.pa, No.start m, m.vo, No.snd m, m.id] = b from HB.out] at hk2
  replace hk1 := hk1.below hb
  have G2 := G1.trans (hb.mono G1.size)
  clear hb B1 L1
  go_wp2_with fail
  go_loopw [9] (fun s9 wr => ∃ (i : Nat) (q : Int), i ≤ 6 ∧ q = i ∧ s9 = .int .i64 q ∧ Hid (∀ j, j < i → a.getD j 0 = b.getD j 0) ∧ Below w2.heap.size w2 wr) (fun s9 _ => 6 - (intOf s9).toNat)
  case atStart => exact ⟨0, 0, by omega, rfl, rfl, Lib.hid (fun j hj => by omega), Below.refl _ _⟩
  case round =>
    obtain ⟨i, q, hi, hq, rfl, HE, hX⟩ := hrel
    by_cases hlt : i < 6
    · have z1 := hk1.at_ i (by rw [HAL.out]; exact hlt)
      have z2 := hk2.at_ i (by rw [HBL.out]; exact hlt)
      obtain ⟨x, hx⟩ : ∃ x, a.getD i 0 = x := ⟨_, rfl⟩
      obtain ⟨y, hy⟩ : ∃ y, b.getD i 0 = y := ⟨_, rfl⟩
      rw [hx] at z1
      rw [hy] at z2
      have u1 := fun y : Ext wr => y.cell ((hX.cell (p := ⟨g1, i, none⟩) hk1.lt).trans z1)
      have u2 := fun y : Ext wr => y.cell ((hX.cell (p := ⟨g2, i, none⟩) hk2.lt).trans z2)
      have hne := Ext.there wr
      have hp1 : q < 6 := by omega
      have hp3 : 0 ≤ q := by omega
      have hpn : q.toNat = i := by omega
      have HQ := Lib.hid hq
      have HX := Lib.hid hx
      have HY := Lib.hid hy
      clear z1 z2 hq hx hy
      by_cases he : x = y
      · have HE2 : Hid (∀ j, j < i + 1 → a.getD j 0 = b.getD j 0) := Lib.hid (fun j hj => by
          by_cases e : j = i
          · subst e; rw [HX.out, HY.out]; exact he
          · exact HE.out j (by omega))
        have he' : (x == y) = true := by simpa using he
        clear he
        go_wp2_with fail
        refine Ext.region (by kernel_rfl) (by kernel_rfl) ?_
        repeat (go_big_quiet_step (fail))
        refine wpQuiet_nil ?_
        rintro _ ⟨xw, rfl⟩
        replace hX := hX.trans (xw.h.mono hX.size)
        clear u1 u2 hne
        generalize xw.w = w3 at *
        clear xw
        go_wp2_with fail
        go_roundw
        case rel => exact ⟨i + 1, q + 1, by omega, (by have := HQ.out; omega), rfl, HE2, hX⟩
        case measure => have := HQ.out; simp [intOf]; omega
      · have he' : (x == y) = false := by simpa using he
        obtain rfl : decide (x < y) = f := by
          rw [← HF.out, ltk_at i (HAL.out.trans HBL.out.symm) (by rw [HAL.out]; exact hlt) HE.out (by rw [HX.out, HY.out]; exact he), HX.out, HY.out]
        clear he
        go_wp2_with fail
        refine Ext.region (by kernel_rfl) (by kernel_rfl) ?_
        repeat (go_big_quiet_step (fail))
        refine wpQuiet_nil ?_
        rintro _ ⟨xw, rfl⟩
        replace hX := hX.trans (xw.h.mono hX.size)
        have v1 := fun y : Ext xw.w => y.cell (u1 xw)
        have v2 := fun y : Ext xw.w => y.cell (u2 xw)
        have hne2 := Ext.there xw.w
        clear u1 u2 hne
        generalize xw.w = w3 at *
        clear xw
        go_wp2_with fail
        refine Ext.region (by kernel_rfl) (by kernel_rfl) ?_
        repeat (go_big_quiet_step (fail))
        refine wpQuiet_nil ?_
        rintro _ ⟨xw, rfl⟩
        replace hX := hX.trans (xw.h.mono hX.size)
        clear v1 v2 hne2
        generalize xw.w = w4 at *
        clear xw
        go_wp2_with fail
        go_ret
        exact ⟨rfl, G2.trans (hX.mono G2.size)⟩
    · obtain rfl : i = 6 := by omega
      obtain rfl : false = f := by
        rw [← HF.out, ltk_same (HAL.out.trans HBL.out.symm) (by rw [HAL.out]; exact HE.out)]
      have hq1 : ¬ q < 6 := by omega
      clear hq
      go_wp2_with fail
      go_ret
      exact ⟨rfl, G2.trans (hX.mono G2.size)⟩
end Go.Proofs.YthamkigdpgajaaaDoor

/- Slices of notes; the walk of the reference's Valid. -/
namespace Go.Proofs.YthamkigdpgajaaaDoor
open Go.RowKit

def atO (l : List No.Nt) (i : Nat) : No.Nt := l[i]?.getD ⟨0, 0, 0, 0, 0, 0, 0, 0, 0, 0, 0, 0⟩
theorem atO_eq {l : List No.Nt} {i : Nat} (h : i < l.length) : atO l i = l[i] := by unfold atO; rw [List.getElem?_eq_getElem h]; rfl
theorem atO_mem {l : List No.Nt} {i : Nat} (h : i < l.length) : atO l i ∈ l := by rw [atO_eq h]; exact List.getElem_mem h
/-- At this address lie these notes (nothing is said where there are none). -/
def SlO (w : World) (A : Option Addr) (l : List No.Nt) : Prop :=
  0 < l.length → ∃ b off, A = some ⟨b, off, none⟩ ∧ b < w.heap.size ∧ ∀ k, k < l.length → NtAt w b (off + k * 12) (atO l k)
theorem SlO.below {w w' : World} {A : Option Addr} {l : List No.Nt} (h : SlO w A l) (hb : Below w.heap.size w w') : SlO w' A l := fun h0 => by
  obtain ⟨b, off, e, hlt, hc⟩ := h h0
  exact ⟨b, off, e, Nat.lt_of_lt_of_le hlt hb.size, fun k hk => (hc k hk).below hb hlt⟩
theorem SlO.alloc {w : World} {A : Option Addr} {l : List No.Nt} (h : SlO w A l) (o : Obj) : SlO (w.alloc o) A l := h.below ((Below.refl _ _).alloc (Nat.le_refl _) _)
theorem SlO.nil (w : World) (A : Option Addr) : SlO w A [] := fun h => by simp at h
theorem SlO.take {w : World} {A : Option Addr} {l : List No.Nt} (h : SlO w A l) (j : Nat) : SlO w A (l.take j) := fun h0 => by
  rw [List.length_take] at h0
  obtain ⟨b, off, rfl, hb, hc⟩ := h (by omega)
  refine ⟨b, off, rfl, hb, fun i hi => ?_⟩
  rw [List.length_take] at hi
  have e : atO (l.take j) i = atO l i := by unfold atO; rw [List.getElem?_take, if_pos (by omega)]
  rw [e]
  exact hc i (by omega)
theorem SlO.drop {w : World} {A : Option Addr} {l : List No.Nt} (h : SlO w A l) (j : Nat) : SlO w (Option.map (fun x => x.add (j * 12)) A) (l.drop j) := fun h0 => by
  rw [List.length_drop] at h0
  obtain ⟨b, off, rfl, hb, hc⟩ := h (by omega)
  refine ⟨b, off + j * 12, by rw [Option.map_some, baddr_off], hb, fun i hi => ?_⟩
  rw [List.length_drop] at hi
  have e : atO (l.drop j) i = atO l (j + i) := by unfold atO; rw [List.getElem?_drop]
  rw [e, show off + j * 12 + i * 12 = off + (j + i) * 12 by omega]
  exact hc (j + i) (by omega)

theorem vval_iff {bs : List Mt.B} {l : List No.Nt} (hb : Mt.Val bs) (h1 : l.length ≤ 20000) : No.Val bs l ↔ (∀ i, i < l.length → No.okN bs (atO l i)) ∧ ∀ i k, i < l.length → k < i → (atO l k).id ≠ (atO l i).id := by
  unfold No.Val
  constructor
  · rintro ⟨_, _, h3, h4⟩
    refine ⟨fun i hi => h3 _ (atO_mem hi), fun i k hi hk => ?_⟩
    rw [atO_eq hi, atO_eq (by omega)]
    exact List.pairwise_iff_getElem.1 h4 k i (by omega) hi hk
  · rintro ⟨h3, h4⟩
    refine ⟨hb, h1, fun n hn => ?_, List.pairwise_iff_getElem.2 fun i j hi hj hij => ?_⟩
    · obtain ⟨i, hi, rfl⟩ := List.getElem_of_mem hn
      rw [← atO_eq hi]; exact h3 i hi
    · rw [← atO_eq hi, ← atO_eq hj]; exact h4 j i hj hij

set_option maxHeartbeats 1600000 in
theorem rnvalid_is (bs : List Mt.B) (l : List No.Nt) (f : Bool) (blen bcap len cap : Nat) (B A : Option Addr) (h : f = true ↔ No.Val bs l) (hbl : bs.length = blen) (hl : l.length = len) (w : World) (hB : SlB w B bs) (hL : SlO w A l) :
    Calls Tryd.prog 14 #[.slice B blen bcap, .slice A len cap] w fun e w' => e = .returned (.bool f) ∧ Below w.heap.size w w' := by
  have HF := Lib.hid h
  have HN := Lib.hid hl
  have HM := Lib.hid hbl
  have HL := Lib.hid hL
  have HB := Lib.hid hB
  clear h hl hbl hL hB
  obtain ⟨v, hv⟩ : ∃ v : Bool, v = true ↔ Mt.Val bs := by
    by_cases h : Mt.Val bs
    · exact ⟨true, by simp [h]⟩
    · exact ⟨false, by simp [h]⟩
  have HV := Lib.hid hv
  clear hv
  cases v with
  | false =>
    have hf : f = false := by
      cases f with
      | false => rfl
      | true => exact absurd (HV.out.2 (HF.out.1 rfl).1) (by decide)
    subst hf
    go_enter Tryd.func14, Tryd.ntmps14
    go_wp2_with fail
    refine (kvalid_is bs false blen bcap B HV.out HM.out _ HB.out).mono ?_; rintro e w1 ⟨rfl, hb⟩
    go_wp2_with fail
    go_ret
    exact ⟨rfl, hb⟩
  | true =>
  replace HV : Hid (Mt.Val bs) := Lib.hid (HV.out.1 rfl)
  by_cases h2 : 20000 < len
  · have hf : f = false := by
      cases f with
      | false => rfl
      | true => have := (HF.out.1 rfl).2.1; rw [HN.out] at this; omega
    subst hf
    have h2' : (20000 : Int) < (len : Int) := by omega
    go_enter Tryd.func14, Tryd.ntmps14
    go_wp2_with fail
    refine (kvalid_is bs true blen bcap B ⟨fun _ => HV.out, fun _ => rfl⟩ HM.out _ HB.out).mono ?_; rintro e w1 ⟨rfl, hb⟩
    go_wp2_with fail
    go_ret
    exact ⟨rfl, hb⟩
  have h2' : ¬ (20000 : Int) < (len : Int) := by omega
  have hl4 : len ≤ 20000 := by omega
  clear h2
  have HF2 : Hid (f = true ↔ (∀ i, i < len → No.okN bs (atO l i)) ∧ ∀ i k, i < len → k < i → (atO l k).id ≠ (atO l i).id) := Lib.hid (by
    rw [HF.out, vval_iff HV.out (by rw [HN.out]; exact hl4), HN.out])
  have hok : Hid (∀ b ∈ bs, Mt.okB b) := Lib.hid (HV.out.ok)
  have hm4 : blen ≤ 4000 := by rw [← HM.out]; exact HV.out.2.1
  go_enter Tryd.func14, Tryd.ntmps14
  go_wp2_with fail
  refine (kvalid_is bs true blen bcap B ⟨fun _ => HV.out, fun _ => rfl⟩ HM.out _ HB.out).mono ?_; rintro e w1 ⟨rfl, G1⟩
  have B1 := Lib.hid (HB.out.below G1)
  have L1 := Lib.hid (HL.out.below G1)
  clear HB HL
  go_wp2_with fail
  go_loopw [6] (fun s6 wr => ∃ (i : Nat) (q : Int), i ≤ len ∧ q = i ∧ s6 = .int .i64 q ∧ Hid ((∀ j, j < i → No.okN bs (atO l j)) ∧ ∀ j k, j < i → k < j → (atO l k).id ≠ (atO l j).id) ∧ Below w1.heap.size w1 wr) (fun s6 _ => len - (intOf s6).toNat)
  case atStart => exact ⟨0, 0, Nat.zero_le _, rfl, rfl, Lib.hid ⟨fun j hj => by omega, fun j k hj => by omega⟩, Below.refl _ _⟩
  case round =>
    obtain ⟨i, q, hi, hq, rfl, HE, hG⟩ := hrel
    by_cases hlt : i < len
    · have hil : i < l.length := by rw [HN.out]; exact hlt
      obtain ⟨bb, off, rfl, hbb, hc⟩ := L1.out (by omega)
      have HC := Lib.hid hc
      have X := (hc i hil).below hG hbb
      obtain ⟨n, hn⟩ : ∃ n, atO l i = n := ⟨_, rfl⟩
      have HI := Lib.hid hn
      rw [hn] at X
      have hq1 : q < (len : Int) := by omega
      have hq3 : 0 ≤ q := by omega
      have hqn : q.toNat = i := by omega
      have HQ := Lib.hid hq
      have hbr : bb < wr.heap.size := Nat.lt_of_lt_of_le hbb hG.size
      clear hc hn hil hq
      obtain ⟨v, hv⟩ : ∃ v : Bool, v = true ↔ No.okN bs n := by
        by_cases h : No.okN bs n
        · exact ⟨true, by simp [h]⟩
        · exact ⟨false, by simp [h]⟩
      have HW := Lib.hid hv
      clear hv
      obtain ⟨c0, c1, c2, c3, c4, c5, c6, c7, c8, c9, c10, c11⟩ := And.intro X.c0 (And.intro X.c1 (And.intro X.c2 (And.intro X.c3 (And.intro X.c4 (And.intro X.c5 (And.intro X.c6 (And.intro X.c7 (And.intro X.c8 (And.intro X.c9 (And.intro X.c10 X.c11))))))))))
      replace c0 : wr.cell? ⟨bb, off + i * 12, none⟩ = some (.int .i64 n.id) := c0
      cases v with
      | false =>
        have hf : f = false := by
          cases f with
          | false => rfl
          | true => have h9 := (HF2.out.1 rfl).1 i hlt; rw [HI.out] at h9; exact absurd (HW.out.2 h9) (by decide)
        subst hf
        go_wp2_with fail
        clear c0 c1 c2 c3 c4 c5 c6 c7 c8 c9 c10 c11 X
        refine (rnote_is bs n false blen bcap B HW.out HM.out hok.out hm4 _ (B1.out.below hG)).mono ?_; rintro e w2 ⟨rfl, hb⟩
        have G2 := hG.trans (hb.mono hG.size)
        go_wp2_with fail
        go_ret
        exact ⟨rfl, G1.trans (G2.mono G1.size)⟩
      | true =>
        replace HW : Hid (No.okN bs n) := Lib.hid (HW.out.1 rfl)
        go_wp2_with fail
        clear c0 c1 c2 c3 c4 c5 c6 c7 c8 c9 c10 c11
        refine (rnote_is bs n true blen bcap B ⟨fun _ => HW.out, fun _ => rfl⟩ HM.out hok.out hm4 _ (B1.out.below hG)).mono ?_; rintro e w2 ⟨rfl, hb⟩
        have X2 := X.below hb hbr
        have G2 := hG.trans (hb.mono hG.size)
        clear hb X hG hbr
        go_wp2_with fail
        have y0 := X2.c0
        replace y0 : w2.cell? ⟨bb, off + i * 12, none⟩ = some (.int .i64 n.id) := y0
        clear X2
        go_loopw [8] (fun s8 wr => ∃ (k : Nat) (p : Int), k ≤ i ∧ p = k ∧ s8 = .int .i64 p ∧ Hid (∀ m, m < k → (atO l m).id ≠ n.id) ∧ Below w2.heap.size w2 wr) (fun s8 _ => i - (intOf s8).toNat)
        case atStart => exact ⟨0, 0, Nat.zero_le _, rfl, rfl, Lib.hid (fun m hm => by omega), Below.refl _ _⟩
        case round =>
          obtain ⟨k, p, hk, hp, rfl, HK, hX⟩ := hrel
          by_cases hki : k < i
          · have hbb2 : bb < w2.heap.size := Nat.lt_of_lt_of_le hbb G2.size
            have z0 := (((HC.out k (by rw [HN.out]; omega)).below G2 hbb).below hX hbb2).c0
            obtain ⟨id, hid⟩ : ∃ id, n.id = id := ⟨_, rfl⟩
            obtain ⟨id2, hid2⟩ : ∃ id2, (atO l k).id = id2 := ⟨_, rfl⟩
            replace z0 : wr.cell? ⟨bb, off + k * 12, none⟩ = some (.int .i64 (atO l k).id) := z0
            have z1 := (hX.cell (p := ⟨bb, off + i * 12, none⟩) hbb2).trans y0
            rw [hid2] at z0
            rw [hid] at z1
            have u0 := fun y : Ext wr => y.cell z1
            have u1 := fun y : Ext wr => y.cell z0
            have hne := Ext.there wr
            have hp1 : p < q := by have := HQ.out; omega
            have hp3 : 0 ≤ p := by omega
            have hpn : p.toNat = k := by omega
            have hpl : p < (len : Int) := by omega
            have hkl : k < len := by omega
            have HP := Lib.hid hp
            have HY := Lib.hid y0
            clear z0 z1 hp y0
            by_cases he : id2 = id
            · have hf : f = false := by
                cases f with
                | false => rfl
                | true => exact absurd (by rw [hid2, HI.out, hid]; exact he) ((HF2.out.1 rfl).2 i k hlt hki)
              subst hf
              have he' : (id2 == id) = true := by simpa using he
              clear he hid2 hid
              go_wp2_with fail
              refine Ext.region (by kernel_rfl) (by kernel_rfl) ?_
              repeat (go_big_quiet_step (fail))
              refine wpQuiet_nil ?_
              rintro _ ⟨xw, rfl⟩
              have G3 := G2.trans ((hX.trans (xw.h.mono hX.size)).mono G2.size)
              clear u0 u1 hne
              generalize xw.w = w3 at *
              clear xw
              go_wp2_with fail
              go_ret
              exact ⟨rfl, G1.trans (G3.mono G1.size)⟩
            · have HK2 : Hid (∀ m, m < k + 1 → (atO l m).id ≠ n.id) := Lib.hid (fun m hm => by
                by_cases e : m = k
                · subst e; rw [hid2, hid]; exact he
                · exact HK.out m (by omega))
              have he' : (id2 == id) = false := by simpa using he
              clear he hid2 hid
              go_wp2_with fail
              refine Ext.region (by kernel_rfl) (by kernel_rfl) ?_
              repeat (go_big_quiet_step (fail))
              refine wpQuiet_nil ?_
              rintro _ ⟨xw, rfl⟩
              replace hX := hX.trans (xw.h.mono hX.size)
              clear u0 u1 hne
              generalize xw.w = w3 at *
              clear xw
              go_wp2_with fail
              go_roundw
              case rel => exact ⟨k + 1, p + 1, by omega, (by have := HP.out; omega), rfl, HK2, hX⟩
              case measure => have := HP.out; simp [intOf]; omega
          · obtain rfl : k = i := by omega
            have hp1 : ¬ p < q := by have := HQ.out; omega
            have HE2 : Hid ((∀ j, j < k + 1 → No.okN bs (atO l j)) ∧ ∀ j m, j < k + 1 → m < j → (atO l m).id ≠ (atO l j).id) := Lib.hid ⟨fun j hj => by
              by_cases e : j = k
              · subst e; rw [HI.out]; exact HW.out
              · exact HE.out.1 j (by omega), fun j m hj hm => by
              by_cases e : j = k
              · subst e; rw [HI.out]; exact HK.out m hm
              · exact HE.out.2 j m (by omega) hm⟩
            have G3 := G2.trans (hX.mono G2.size)
            clear hp
            go_wp2_with fail
            go_roundw
            case rel => exact ⟨k + 1, q + 1, by omega, (by have := HQ.out; omega), rfl, HE2, G3⟩
            case measure => have := HQ.out; simp [intOf]; omega
    · obtain rfl : i = len := by omega
      have hf : f = true := HF2.out.2 HE.out
      subst hf
      have hq1 : ¬ q < (i : Int) := by omega
      clear hq
      go_wp2_with fail
      go_ret
      exact ⟨rfl, G1.trans (hG.mono G1.size)⟩
end Go.Proofs.YthamkigdpgajaaaDoor

/- A call's own slice of notes: append; the walk of the reference's put. -/
namespace Go.Proofs.YthamkigdpgajaaaDoor
open Go.RowKit

def rowO (n : No.Nt) : List Value := [.int .i64 n.id, .int .i64 n.pa, .int .i64 n.ba, .int .i64 n.vo, .int .i64 n.os, .int .i64 n.sn, .int .i64 n.sd, .int .i64 n.ln, .int .i64 n.ld, .int .i64 n.st, .int .i64 n.al, .int .i64 n.oc]
def vO (l : List No.Nt) : List Value := l.flatMap rowO
theorem rowO_length (n : No.Nt) : (rowO n).length = 12 := rfl
theorem vO_length : ∀ l : List No.Nt, (vO l).length = l.length * 12
  | [] => rfl
  | n :: l => by
    unfold vO
    rw [List.flatMap_cons, List.length_append, rowO_length, show (l.flatMap rowO).length = l.length * 12 from vO_length l, List.length_cons]
    omega
theorem vO_app (a b : List No.Nt) : vO (a ++ b) = vO a ++ vO b := List.flatMap_append ..
theorem vO_one (n : No.Nt) : vO [n] = rowO n := by unfold vO; simp
theorem vO_at : ∀ {l : List No.Nt} {k j : Nat}, k < l.length → j < 12 → (vO l)[k * 12 + j]? = (rowO (atO l k))[j]?
  | [], _, _, h, _ => by simp at h
  | n :: l, 0, j, _, hj => by
    unfold vO
    rw [List.flatMap_cons, Nat.zero_mul, Nat.zero_add, List.getElem?_append_left (by rw [rowO_length]; exact hj)]
    rfl
  | n :: l, k + 1, j, hk, hj => by
    have := vO_at (l := l) (k := k) (j := j) (by simpa using hk) hj
    unfold vO at this ⊢
    rw [List.flatMap_cons, List.getElem?_append_right (by rw [rowO_length]; omega), rowO_length, show (k + 1) * 12 + j - 12 = k * 12 + j by omega, this]
    unfold atO
    rw [List.getElem?_cons_succ]
theorem vO_cells (l : List No.Nt) : ∀ u ∈ vO l, u.oneCell' = true := fun u hu => by
  obtain ⟨n, _, hn⟩ := List.mem_flatMap.1 hu
  unfold rowO at hn
  simp only [List.mem_cons, List.not_mem_nil, or_false] at hn
  rcases hn with rfl | rfl | rfl | rfl | rfl | rfl | rfl | rfl | rfl | rfl | rfl | rfl <;> rfl
/-- Twelve cells, in a row. -/
theorem NtAt.of {w : World} {b o : Nat} {n : No.Nt} (h : ∀ j u, (rowO n)[j]? = some u → w.cell? ⟨b, o + j, none⟩ = some u) : NtAt w b o n :=
  ⟨h 0 _ rfl, h 1 _ rfl, h 2 _ rfl, h 3 _ rfl, h 4 _ rfl, h 5 _ rfl, h 6 _ rfl, h 7 _ rfl, h 8 _ rfl, h 9 _ rfl, h 10 _ rfl, h 11 _ rfl⟩
theorem NtAt.to {w : World} {b o : Nat} {n : No.Nt} (h : NtAt w b o n) : ∀ j u, (rowO n)[j]? = some u → w.cell? ⟨b, o + j, none⟩ = some u := fun j u hj => by
  match j, hj with
  | 0, hj => exact h.c0.trans hj
  | 1, hj => exact h.c1.trans hj
  | 2, hj => exact h.c2.trans hj
  | 3, hj => exact h.c3.trans hj
  | 4, hj => exact h.c4.trans hj
  | 5, hj => exact h.c5.trans hj
  | 6, hj => exact h.c6.trans hj
  | 7, hj => exact h.c7.trans hj
  | 8, hj => exact h.c8.trans hj
  | 9, hj => exact h.c9.trans hj
  | 10, hj => exact h.c10.trans hj
  | 11, hj => exact h.c11.trans hj
  | j + 12, hj => simp [rowO] at hj
theorem SlO.news {w : World} {b o : Nat} {l : List No.Nt} (h : ∀ k, k < l.length → NtAt w b (o + k * 12) (atO l k)) : ∀ j u, (vO l)[j]? = some u → w.cell? ((⟨b, o, none⟩ : Addr).add j) = some u := fun j u hj => by
  have hjl : j < l.length * 12 := by have := (List.getElem?_eq_some_iff.1 hj).1; rwa [vO_length] at this
  have hk : j / 12 < l.length := by omega
  have hm : j % 12 < 12 := Nat.mod_lt _ (by decide)
  have e : j = j / 12 * 12 + j % 12 := by omega
  rw [e, vO_at hk hm] at hj
  rw [baddr_off, e, ← Nat.add_assoc]
  exact (h _ hk).to _ _ hj
/-- What a call's own slice holds. -/
theorem own_o {w : World} {base : Nat} {e : TypeId} {v : Value} {n : Nat} {l : List No.Nt} (h : w.ownsRow base e 12 v n (vO l)) : l.length = n ∧ ∃ A cap, v = .slice A n cap ∧ SlO w A l ∧ (A = none → cap = 0) := by
  have hl : l.length = n := by have := h.1; rw [vO_length] at this; omega
  refine ⟨hl, ?_⟩
  rcases h.2 with ⟨hv, hn⟩ | ⟨b, cap, cur, hv, hb, hg, _⟩
  · subst hn
    exact ⟨none, 0, hv, fun h0 => by omega, fun _ => rfl⟩
  · refine ⟨some ⟨b, 0, none⟩, cap, hv, fun h0 => ⟨b, 0, rfl, (Array.getElem?_eq_some_iff.1 hg).1, fun k hk => NtAt.of fun j u hj => ?_⟩, fun h => by cases h⟩
    have hj12 : j < 12 := (List.getElem?_eq_some_iff.1 hj).1
    have := h.cells (g := b) (by rw [hv]; rfl) (k * 12 + j) u (by rw [vO_at hk hj12]; exact hj)
    rw [baddr_off] at this
    rw [Nat.add_assoc]
    exact this
/-- 'append(own, x...)', x a slice of notes, nil or not. -/
theorem append_slo {P : Program} {w : World} {ops : Array Oper} {rest : List Oper} {o : Oper} {a : Act} {Q : Exit → Act → World → Prop} (hgd : o.guard = none) (s x : Operand) (t : TypeId)
    (ho : o.op = .call { callee := .builtin .append, args := #[s, x], argTypes := #[t, t] })
    (base : Nat) (e : TypeId) (i : TypeInfo) (z : Value) (bytes : Nat) (ht : P.underlying t = some (.slice e)) (hi : P.info? e = some i) (hz : i.zero = some z)
    (hsize : i.size = 12) (hby : i.bytes = bytes) (hzs : z.cells.size = 12)
    (v : Value) (n : Nat) (xs : List Value) (hs : a.eval s = v) (hown : w.ownsRow base e 12 v n xs)
    (A : Option Addr) (m c : Nat) (l : List No.Nt) (hx : a.eval x = .slice A m c) (hA : A = none → c = 0) (hg : l.length = m) (hL : SlO w A l)
    (h63 : n + m ≤ maxLen) (hbytes : (n + m) * bytes ≤ 140737488355328) (hbase : base ≤ w.heap.size)
    (h : ∀ v' w', w'.ownsRow base e 12 v' (n + m) (xs ++ vO l) → w.grownBy w' v.ownBlock → wpList P ops Q rest (a.put o.dst v') w') : wpList P ops Q (o :: rest) a w := by
  subst hg
  cases A with
  | none =>
    obtain rfl := hA rfl
    have h0 : l = [] := by
      cases l with
      | nil => rfl
      | cons y r =>
        obtain ⟨b, off, hb, _⟩ := hL (by simp)
        cases hb
    subst h0
    exact wpList_append_own_none hgd s x t ho base e i 12 ht hi v n xs hs hown hx (h v w (by simpa [vO] using hown) ⟨rfl, rfl, rfl, Nat.le_refl _, fun _ _ _ => rfl⟩)
  | some ad =>
    refine wpList_append_own w hgd s x t ho base e i z 12 bytes ht hi hz hsize hby hzs (by omega) v n xs hs hown ad l.length c (vO l) hx (vO_length l) ?_ (vO_cells l) h63 hbytes hbase fun v' w' h1 h2 _ => h v' w' h1 h2
    cases l with
    | nil => intro j u hj; simp [vO] at hj
    | cons y r =>
      obtain ⟨b, off, hb, _, hc⟩ := hL (by simp)
      cases hb
      exact SlO.news hc
theorem obelow_grown {a b : World} (h : Below a.heap.size a b) (row : Option Nat) : a.grownBy b row :=
  ⟨h.os, h.tape, h.output, h.size, fun i hi _ => h.block i hi⟩
theorem onone_ne {v : Value} : v.ownBlock = none ∨ v.ownBlock ≠ none := by cases v.ownBlock <;> simp
theorem oown_ne {w : World} {base : Nat} {e : TypeId} {size : Nat} {v : Value} {n : Nat} {xs : List Value} (h : w.ownsRow base e size v n xs) : ∀ j, v.ownBlock = some j → base ≤ j := fun j hj => (h.lt j hj).1
theorem infoNote : (Tryd.prog.info? 42).map (fun i => (i.zero, i.size, i.bytes)) = some (some (.agg #[.int .i64 0, .int .i64 0, .int .i64 0, .int .i64 0, .int .i64 0, .int .i64 0, .int .i64 0, .int .i64 0, .int .i64 0, .int .i64 0, .int .i64 0, .int .i64 0]), 12, 96) := by kernel_rfl
end Go.Proofs.YthamkigdpgajaaaDoor
