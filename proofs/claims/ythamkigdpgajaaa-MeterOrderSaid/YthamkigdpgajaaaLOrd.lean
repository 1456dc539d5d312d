/- The walk of the law MeterOrder. -/
import Derived.Test.YthamkigdpgajaaaNl
namespace Go.Proofs.Ythamkigdpgajaaa
open Go.RowKit
namespace Mt
theorem order_1 {l : List B} {b n d b' n' d' : Int} (hval : Val l) (hp : posB l b n d = true) (hq : posB l b' n' d' = true) : ∃ N D N' D' C E, rR (true && true) (oN (before l b.toNat + tk n d).toNat) (oD (before l b.toNat + tk n d).toNat) = (N, D, 0) ∧
    rR (true && true) (oN (before l b'.toNat + tk n' d').toNat) (oD (before l b'.toNat + tk n' d').toNat) = (N', D', 0) ∧ Rt.cmpR N D N' D' = (C, 0) ∧ Rt.cmpR n d n' d' = (E, 0) ∧ (b < b' → C = -1) ∧ (b' < b → C = 1) ∧ (b = b' → C = E) := by
  obtain ⟨h0, h1⟩ := before_tk hval hp
  obtain ⟨k0, k1⟩ := before_tk hval hq
  obtain ⟨hb0, hpos⟩ := posB_iff.1 hp
  obtain ⟨kb0, kpos⟩ := posB_iff.1 hq
  obtain ⟨u, hu⟩ := Int.eq_ofNat_of_zero_le h0
  obtain ⟨v, hv⟩ := Int.eq_ofNat_of_zero_le k0
  obtain ⟨t, ht⟩ := Int.eq_ofNat_of_zero_le hpos.2.1
  obtain ⟨s, hs⟩ := Int.eq_ofNat_of_zero_le kpos.2.1
  obtain ⟨e1, e2⟩ := of_tk (n := n) (d := d) (by omega)
  obtain ⟨e3, e4⟩ := of_tk (n := n') (d := d') (by omega)
  have key : ∀ {b n d b' n' d' : Int}, pos l b.toNat (tk n d) → 0 ≤ b → 0 ≤ b' → pos l b'.toNat (tk n' d') → b < b' → before l b.toNat + tk n d < before l b'.toNat + tk n' d' := fun {b n d b' n' d'} hpos hb0 hb0' kpos hlt => by
    have hkb : b.toNat < l.length := by have := kpos.1; omega
    have h2 := hpos.2.2.2 hkb
    have h3 := before_succ hkb
    have h4 := before_mono hval.ok (i := b.toNat + 1) (j := b'.toNat) (by omega) kpos.1
    have h5 := kpos.2.1
    omega
  rw [hu] at h1
  rw [hv] at k1
  have bu := before_bounds hval.ok _ hpos.1
  have bv := before_bounds hval.ok _ kpos.1
  refine ⟨oN u, oD u, oN v, oD v, Rt.cmpI u v, Rt.cmpI t s, by rw [hu]; rfl, by rw [hv]; rfl, cmp_of (by omega) (by omega), ?_, fun hlt => ?_, fun hlt => ?_, fun he => ?_⟩
  · rw [ht] at e1 e2
    rw [hs] at e3 e4
    rw [Int.toNat_natCast] at e1 e2 e3 e4
    rw [← e1, ← e2, ← e3, ← e4]
    exact cmp_of (by omega) (by omega)
  · have := key hpos hb0 kb0 kpos hlt
    unfold Rt.cmpI
    rw [if_pos (by omega)]
  · have := key kpos kb0 hb0 hpos hlt
    unfold Rt.cmpI
    rw [if_neg (by omega), if_pos (by omega)]
  · subst he
    unfold Rt.cmpI
    have e5 : (u : Int) < (v : Int) ↔ (t : Int) < (s : Int) := by omega
    have e6 : (v : Int) < (u : Int) ↔ (s : Int) < (t : Int) := by omega
    simp only [e5, e6]
end Mt

set_option maxHeartbeats 1600000 in
theorem meterOrder_walk (A0 : Option Addr) (n0 c0 : Nat) (l0 : List Mt.B) (hl0 : l0.length = n0) (hw0 : Mt.Wf l0) (_hc0 : n0 ≤ c0) (b1 x1 y1 : Int) (b2 x2 y2 : Int) (w : World) (L0 : SlB w A0 l0) :
    Calls Try.prog 5 #[.slice A0 n0 c0, .agg #[.int .i64 b1, .int .i64 x1, .int .i64 y1], .agg #[.int .i64 b2, .int .i64 x2, .int .i64 y2]] w fun e w' => e = .returned (.bool true) ∧ Below w.heap.size w w' := by
  obtain ⟨f, hf⟩ : ∃ f : Bool, f = true ↔ (n0 ≤ 60 ∧ Mt.Val l0) := by classical exact ⟨decide (n0 ≤ 60 ∧ Mt.Val l0), by simp⟩
  have HN := Lib.hid hl0
  have HW := Lib.hid hw0
  cases f with
  | false =>
    have HU : Hid (¬ (n0 ≤ 60 ∧ Mt.Val l0)) := Lib.hid (fun h => by have := hf.2 h; cases this)
    clear hf hl0 hw0
    go_enter Try.func5, Try.ntmps5
    go_wp2_with fail
    obtain ⟨w0, ew0⟩ : ∃ w0, ((w.alloc (.cells #[.int .i64 b1, .int .i64 x1, .int .i64 y1] 26)).alloc (.cells #[.int .i64 b2, .int .i64 x2, .int .i64 y2] 26)) = w0 := ⟨_, rfl⟩
    have BASE : Below w.heap.size w w0 := by rw [← ew0]; exact (((Below.refl w.heap.size w).alloc (by first | exact Nat.le_refl _ | (simp <;> omega)) _).alloc (by first | exact Nat.le_refl _ | (simp <;> omega)) _)
    have P1 : At3 w0 (w.heap.size) b1 x1 y1 := by
      have h : At3 ((w.alloc (.cells #[.int .i64 b1, .int .i64 x1, .int .i64 y1] 26)).alloc (.cells #[.int .i64 b2, .int .i64 x2, .int .i64 y2] 26)) w.heap.size b1 x1 y1 := ((At3.new w b1 x1 y1 26).alloc _)
      rw [ew0] at h
      simpa only [World.size_alloc] using h
    have P2 : At3 w0 (w.heap.size + 1) b2 x2 y2 := by
      have h : At3 ((w.alloc (.cells #[.int .i64 b1, .int .i64 x1, .int .i64 y1] 26)).alloc (.cells #[.int .i64 b2, .int .i64 x2, .int .i64 y2] 26)) (w.alloc (.cells #[.int .i64 b1, .int .i64 x1, .int .i64 y1] 26)).heap.size b2 x2 y2 := (At3.new (w.alloc (.cells #[.int .i64 b1, .int .i64 x1, .int .i64 y1] 26)) b2 x2 y2 26)
      rw [ew0] at h
      simpa only [World.size_alloc] using h
    have M0 : SlB w0 A0 l0 := by rw [← ew0]; exact ((L0.alloc _).alloc _)
    have hs0 : w0.heap.size = w.heap.size + 2 := by rw [← ew0]; simp
    rw [ew0]
    clear ew0
    clear L0
    have B := Below.refl w0.heap.size w0
    refine (head_any _).mono ?_; rintro e w1 ⟨rfl, hb⟩
    replace B := B.trans (hb.mono (by have := B.size; simp <;> omega))
    clear hb
    go_wp2_with fail
    refine (lusable_is l0 false n0 c0 A0 (Mt.iff_ff HU.out) HN.out _ (M0.below B)).mono ?_; rintro e w2 ⟨rfl, hb⟩
    replace B := B.trans (hb.mono (by have := B.size; simp <;> omega))
    clear hb
    go_wp2_with fail
    go_ret
    refine ⟨rfl, BASE.trans (Below.mono (B := w0.heap.size) ?_ BASE.size)⟩
    exact B
  | true =>
    have HU := Lib.hid (hf.1 rfl)
    have HVal := Lib.hid (hf.1 rfl).2
    obtain ⟨p, hp⟩ : ∃ p, Mt.posB l0 b1 x1 y1 = p := ⟨_, rfl⟩
    obtain ⟨q, hq⟩ : ∃ q, Mt.posB l0 b2 x2 y2 = q := ⟨_, rfl⟩
    have HP := Lib.hid hp
    have HQ := Lib.hid hq
    clear hf hl0 hw0
    cases p with
    | false =>
      clear hp hq
      go_enter Try.func5, Try.ntmps5
      go_wp2_with fail
      obtain ⟨w0, ew0⟩ : ∃ w0, ((w.alloc (.cells #[.int .i64 b1, .int .i64 x1, .int .i64 y1] 26)).alloc (.cells #[.int .i64 b2, .int .i64 x2, .int .i64 y2] 26)) = w0 := ⟨_, rfl⟩
      have BASE : Below w.heap.size w w0 := by rw [← ew0]; exact (((Below.refl w.heap.size w).alloc (by first | exact Nat.le_refl _ | (simp <;> omega)) _).alloc (by first | exact Nat.le_refl _ | (simp <;> omega)) _)
      have P1 : At3 w0 (w.heap.size) b1 x1 y1 := by
        have h : At3 ((w.alloc (.cells #[.int .i64 b1, .int .i64 x1, .int .i64 y1] 26)).alloc (.cells #[.int .i64 b2, .int .i64 x2, .int .i64 y2] 26)) w.heap.size b1 x1 y1 := ((At3.new w b1 x1 y1 26).alloc _)
        rw [ew0] at h
        simpa only [World.size_alloc] using h
      have P2 : At3 w0 (w.heap.size + 1) b2 x2 y2 := by
        have h : At3 ((w.alloc (.cells #[.int .i64 b1, .int .i64 x1, .int .i64 y1] 26)).alloc (.cells #[.int .i64 b2, .int .i64 x2, .int .i64 y2] 26)) (w.alloc (.cells #[.int .i64 b1, .int .i64 x1, .int .i64 y1] 26)).heap.size b2 x2 y2 := (At3.new (w.alloc (.cells #[.int .i64 b1, .int .i64 x1, .int .i64 y1] 26)) b2 x2 y2 26)
        rw [ew0] at h
        simpa only [World.size_alloc] using h
      have M0 : SlB w0 A0 l0 := by rw [← ew0]; exact ((L0.alloc _).alloc _)
      have hs0 : w0.heap.size = w.heap.size + 2 := by rw [← ew0]; simp
      rw [ew0]
      clear ew0
      clear L0
      have B := Below.refl w0.heap.size w0
      refine (head_any _).mono ?_; rintro e w1 ⟨rfl, hb⟩
      replace B := B.trans (hb.mono (by have := B.size; simp <;> omega))
      clear hb
      go_wp2_with fail
      refine (lusable_is l0 true n0 c0 A0 (Mt.iff_tt HU.out) HN.out _ (M0.below B)).mono ?_; rintro e w2 ⟨rfl, hb⟩
      replace B := B.trans (hb.mono (by have := B.size; simp <;> omega))
      clear hb
      have oP1 := P1.below B; have lP1 := oP1.lt; have cP10 := oP1.c0; have cP11 := oP1.c1; have cP12 := oP1.c2; clear oP1
      go_wp2_with fail
      refine (kposition_is l0 b1 x1 y1 false n0 c0 A0 HP.out HN.out _ (M0.below B)).mono ?_; rintro e w3 ⟨rfl, hb⟩
      replace B := B.trans (hb.mono (by have := B.size; simp <;> omega))
      clear hb lP1 cP10 cP11 cP12
      go_wp2_with fail
      go_ret
      refine ⟨rfl, BASE.trans (Below.mono (B := w0.heap.size) ?_ BASE.size)⟩
      exact B
    | true =>
      cases q with
      | false =>
        clear hp hq
        go_enter Try.func5, Try.ntmps5
        go_wp2_with fail
        obtain ⟨w0, ew0⟩ : ∃ w0, ((w.alloc (.cells #[.int .i64 b1, .int .i64 x1, .int .i64 y1] 26)).alloc (.cells #[.int .i64 b2, .int .i64 x2, .int .i64 y2] 26)) = w0 := ⟨_, rfl⟩
        have BASE : Below w.heap.size w w0 := by rw [← ew0]; exact (((Below.refl w.heap.size w).alloc (by first | exact Nat.le_refl _ | (simp <;> omega)) _).alloc (by first | exact Nat.le_refl _ | (simp <;> omega)) _)
        have P1 : At3 w0 (w.heap.size) b1 x1 y1 := by
          have h : At3 ((w.alloc (.cells #[.int .i64 b1, .int .i64 x1, .int .i64 y1] 26)).alloc (.cells #[.int .i64 b2, .int .i64 x2, .int .i64 y2] 26)) w.heap.size b1 x1 y1 := ((At3.new w b1 x1 y1 26).alloc _)
          rw [ew0] at h
          simpa only [World.size_alloc] using h
        have P2 : At3 w0 (w.heap.size + 1) b2 x2 y2 := by
          have h : At3 ((w.alloc (.cells #[.int .i64 b1, .int .i64 x1, .int .i64 y1] 26)).alloc (.cells #[.int .i64 b2, .int .i64 x2, .int .i64 y2] 26)) (w.alloc (.cells #[.int .i64 b1, .int .i64 x1, .int .i64 y1] 26)).heap.size b2 x2 y2 := (At3.new (w.alloc (.cells #[.int .i64 b1, .int .i64 x1, .int .i64 y1] 26)) b2 x2 y2 26)
          rw [ew0] at h
          simpa only [World.size_alloc] using h
        have M0 : SlB w0 A0 l0 := by rw [← ew0]; exact ((L0.alloc _).alloc _)
        have hs0 : w0.heap.size = w.heap.size + 2 := by rw [← ew0]; simp
        rw [ew0]
        clear ew0
        clear L0
        have B := Below.refl w0.heap.size w0
        refine (head_any _).mono ?_; rintro e w1 ⟨rfl, hb⟩
        replace B := B.trans (hb.mono (by have := B.size; simp <;> omega))
        clear hb
        go_wp2_with fail
        refine (lusable_is l0 true n0 c0 A0 (Mt.iff_tt HU.out) HN.out _ (M0.below B)).mono ?_; rintro e w2 ⟨rfl, hb⟩
        replace B := B.trans (hb.mono (by have := B.size; simp <;> omega))
        clear hb
        have oP1 := P1.below B; have lP1 := oP1.lt; have cP10 := oP1.c0; have cP11 := oP1.c1; have cP12 := oP1.c2; clear oP1
        go_wp2_with fail
        refine (kposition_is l0 b1 x1 y1 true n0 c0 A0 HP.out HN.out _ (M0.below B)).mono ?_; rintro e w3 ⟨rfl, hb⟩
        replace B := B.trans (hb.mono (by have := B.size; simp <;> omega))
        clear hb lP1 cP10 cP11 cP12
        have oP2 := P2.below B; have lP2 := oP2.lt; have cP20 := oP2.c0; have cP21 := oP2.c1; have cP22 := oP2.c2; clear oP2
        go_wp2_with fail
        refine (kposition_is l0 b2 x2 y2 false n0 c0 A0 HQ.out HN.out _ (M0.below B)).mono ?_; rintro e w4 ⟨rfl, hb⟩
        replace B := B.trans (hb.mono (by have := B.size; simp <;> omega))
        clear hb lP2 cP20 cP21 cP22
        go_wp2_with fail
        go_ret
        refine ⟨rfl, BASE.trans (Below.mono (B := w0.heap.size) ?_ BASE.size)⟩
        exact B
      | true =>
        obtain ⟨N, D, N', D', C, E, r1, r2, r3, r4, r5, r6, r7⟩ := Mt.order_1 HVal.out hp hq
        have HR1 := Lib.hid r1
        have HR2 := Lib.hid r2
        have HR3 := Lib.hid r3
        have HR4 := Lib.hid r4
        clear hp hq r1 r2 r3 r4
        rcases Int.lt_trichotomy b1 b2 with hlt | heq | hlt
        · obtain rfl := r5 hlt
          have hng : ¬ b2 < b1 := by omega
          clear r5 r6 r7
          go_enter Try.func5, Try.ntmps5
          go_wp2_with fail
          obtain ⟨w0, ew0⟩ : ∃ w0, ((w.alloc (.cells #[.int .i64 b1, .int .i64 x1, .int .i64 y1] 26)).alloc (.cells #[.int .i64 b2, .int .i64 x2, .int .i64 y2] 26)) = w0 := ⟨_, rfl⟩
          have BASE : Below w.heap.size w w0 := by rw [← ew0]; exact (((Below.refl w.heap.size w).alloc (by first | exact Nat.le_refl _ | (simp <;> omega)) _).alloc (by first | exact Nat.le_refl _ | (simp <;> omega)) _)
          have P1 : At3 w0 (w.heap.size) b1 x1 y1 := by
            have h : At3 ((w.alloc (.cells #[.int .i64 b1, .int .i64 x1, .int .i64 y1] 26)).alloc (.cells #[.int .i64 b2, .int .i64 x2, .int .i64 y2] 26)) w.heap.size b1 x1 y1 := ((At3.new w b1 x1 y1 26).alloc _)
            rw [ew0] at h
            simpa only [World.size_alloc] using h
          have P2 : At3 w0 (w.heap.size + 1) b2 x2 y2 := by
            have h : At3 ((w.alloc (.cells #[.int .i64 b1, .int .i64 x1, .int .i64 y1] 26)).alloc (.cells #[.int .i64 b2, .int .i64 x2, .int .i64 y2] 26)) (w.alloc (.cells #[.int .i64 b1, .int .i64 x1, .int .i64 y1] 26)).heap.size b2 x2 y2 := (At3.new (w.alloc (.cells #[.int .i64 b1, .int .i64 x1, .int .i64 y1] 26)) b2 x2 y2 26)
            rw [ew0] at h
            simpa only [World.size_alloc] using h
          have M0 : SlB w0 A0 l0 := by rw [← ew0]; exact ((L0.alloc _).alloc _)
          have hs0 : w0.heap.size = w.heap.size + 2 := by rw [← ew0]; simp
          rw [ew0]
          clear ew0
          clear L0
          have B := Below.refl w0.heap.size w0
          refine (head_any _).mono ?_; rintro e w1 ⟨rfl, hb⟩
          replace B := B.trans (hb.mono (by have := B.size; simp <;> omega))
          clear hb
          go_wp2_with fail
          refine (lusable_is l0 true n0 c0 A0 (Mt.iff_tt HU.out) HN.out _ (M0.below B)).mono ?_; rintro e w2 ⟨rfl, hb⟩
          replace B := B.trans (hb.mono (by have := B.size; simp <;> omega))
          clear hb
          have oP1 := P1.below B; have lP1 := oP1.lt; have cP10 := oP1.c0; have cP11 := oP1.c1; have cP12 := oP1.c2; clear oP1
          go_wp2_with fail
          refine (kposition_is l0 b1 x1 y1 true n0 c0 A0 HP.out HN.out _ (M0.below B)).mono ?_; rintro e w3 ⟨rfl, hb⟩
          replace B := B.trans (hb.mono (by have := B.size; simp <;> omega))
          clear hb lP1 cP10 cP11 cP12
          have oP2 := P2.below B; have lP2 := oP2.lt; have cP20 := oP2.c0; have cP21 := oP2.c1; have cP22 := oP2.c2; clear oP2
          go_wp2_with fail
          refine (kposition_is l0 b2 x2 y2 true n0 c0 A0 HQ.out HN.out _ (M0.below B)).mono ?_; rintro e w4 ⟨rfl, hb⟩
          replace B := B.trans (hb.mono (by have := B.size; simp <;> omega))
          clear hb lP2 cP20 cP21 cP22
          have oP1 := P1.below B; have lP1 := oP1.lt; have cP10 := oP1.c0; have cP11 := oP1.c1; have cP12 := oP1.c2; clear oP1
          go_wp2_with fail
          refine (mtime_lt l0 b1 x1 y1 true true N D 0 n0 c0 A0 (Mt.iff_tt HVal.out) HP.out HR1.out HN.out HW.out _ (M0.below B)).mono ?_; rintro e w5 ⟨rfl, hb⟩
          replace B := B.trans (hb.mono (by have := B.size; simp <;> omega))
          clear hb lP1 cP10 cP11 cP12
          have oP2 := P2.below B; have lP2 := oP2.lt; have cP20 := oP2.c0; have cP21 := oP2.c1; have cP22 := oP2.c2; clear oP2
          go_wp2_with fail
          refine (mtime_lt l0 b2 x2 y2 true true N' D' 0 n0 c0 A0 (Mt.iff_tt HVal.out) HQ.out HR2.out HN.out HW.out _ (M0.below (B.alloc (by have := B.size; simp <;> omega) _))).mono ?_; rintro e w6 ⟨rfl, hb⟩
          have nb_a : w0.heap.size ≤ w5.heap.size := by have := B.size; omega
          have a := (At2.new _ (N) (D) _).below hb
          replace B := (B.alloc (by have := B.size; simp <;> omega) _).trans (hb.mono (by have := B.size; simp <;> omega))
          clear hb lP2 cP20 cP21 cP22
          have la := a.lt; have ca0 := a.c0; have ca1 := a.c1
          go_wp2_with fail
          refine (compare_is N D N' D' (-1) 0 HR3.out _).mono ?_; rintro e w7 ⟨rfl, hb⟩
          have n_a_b : w5.heap.size < w6.heap.size := by have := a.lt; omega
          have nb_b : w0.heap.size ≤ w6.heap.size := by have := B.size; omega
          replace a := (a.alloc _).below hb
          have b := (At2.new _ (N') (D') _).below hb
          replace B := (B.alloc (by have := B.size; simp <;> omega) _).trans (hb.mono (by have := B.size; simp <;> omega))
          clear hb la ca0 ca1
          have oP1 := P1.below B; have lP1 := oP1.lt; have cP10 := oP1.c0; have cP11 := oP1.c1; have cP12 := oP1.c2; clear oP1
          have oP2 := P2.below B; have lP2 := oP2.lt; have cP20 := oP2.c0; have cP21 := oP2.c1; have cP22 := oP2.c2; clear oP2
          go_wp2_with fail
          refine (compare_is x1 y1 x2 y2 E 0 HR4.out _).mono ?_; rintro e w8 ⟨rfl, hb⟩
          replace a := a.below hb
          replace b := b.below hb
          replace B := B.trans (hb.mono (by have := B.size; simp <;> omega))
          clear hb lP1 cP10 cP11 cP12 lP2 cP20 cP21 cP22
          have oP1 := P1.below B; have lP1 := oP1.lt; have cP10 := oP1.c0; have cP11 := oP1.c1; have cP12 := oP1.c2; clear oP1
          have oP2 := P2.below B; have lP2 := oP2.lt; have cP20 := oP2.c0; have cP21 := oP2.c1; have cP22 := oP2.c2; clear oP2
          go_wp2_with fail
          go_ret
          refine ⟨rfl, BASE.trans (Below.mono (B := w0.heap.size) ?_ BASE.size)⟩
          exact B
        · obtain rfl := r7 heq
          subst heq
          clear r5 r6 r7
          go_enter Try.func5, Try.ntmps5
          go_wp2_with fail
          obtain ⟨w0, ew0⟩ : ∃ w0, ((w.alloc (.cells #[.int .i64 b1, .int .i64 x1, .int .i64 y1] 26)).alloc (.cells #[.int .i64 b1, .int .i64 x2, .int .i64 y2] 26)) = w0 := ⟨_, rfl⟩
          have BASE : Below w.heap.size w w0 := by rw [← ew0]; exact (((Below.refl w.heap.size w).alloc (by first | exact Nat.le_refl _ | (simp <;> omega)) _).alloc (by first | exact Nat.le_refl _ | (simp <;> omega)) _)
          have P1 : At3 w0 (w.heap.size) b1 x1 y1 := by
            have h : At3 ((w.alloc (.cells #[.int .i64 b1, .int .i64 x1, .int .i64 y1] 26)).alloc (.cells #[.int .i64 b1, .int .i64 x2, .int .i64 y2] 26)) w.heap.size b1 x1 y1 := ((At3.new w b1 x1 y1 26).alloc _)
            rw [ew0] at h
            simpa only [World.size_alloc] using h
          have P2 : At3 w0 (w.heap.size + 1) b1 x2 y2 := by
            have h : At3 ((w.alloc (.cells #[.int .i64 b1, .int .i64 x1, .int .i64 y1] 26)).alloc (.cells #[.int .i64 b1, .int .i64 x2, .int .i64 y2] 26)) (w.alloc (.cells #[.int .i64 b1, .int .i64 x1, .int .i64 y1] 26)).heap.size b1 x2 y2 := (At3.new (w.alloc (.cells #[.int .i64 b1, .int .i64 x1, .int .i64 y1] 26)) b1 x2 y2 26)
            rw [ew0] at h
            simpa only [World.size_alloc] using h
          have M0 : SlB w0 A0 l0 := by rw [← ew0]; exact ((L0.alloc _).alloc _)
          have hs0 : w0.heap.size = w.heap.size + 2 := by rw [← ew0]; simp
          rw [ew0]
          clear ew0
          clear L0
          have B := Below.refl w0.heap.size w0
          refine (head_any _).mono ?_; rintro e w1 ⟨rfl, hb⟩
          replace B := B.trans (hb.mono (by have := B.size; simp <;> omega))
          clear hb
          go_wp2_with fail
          refine (lusable_is l0 true n0 c0 A0 (Mt.iff_tt HU.out) HN.out _ (M0.below B)).mono ?_; rintro e w2 ⟨rfl, hb⟩
          replace B := B.trans (hb.mono (by have := B.size; simp <;> omega))
          clear hb
          have oP1 := P1.below B; have lP1 := oP1.lt; have cP10 := oP1.c0; have cP11 := oP1.c1; have cP12 := oP1.c2; clear oP1
          go_wp2_with fail
          refine (kposition_is l0 b1 x1 y1 true n0 c0 A0 HP.out HN.out _ (M0.below B)).mono ?_; rintro e w3 ⟨rfl, hb⟩
          replace B := B.trans (hb.mono (by have := B.size; simp <;> omega))
          clear hb lP1 cP10 cP11 cP12
          have oP2 := P2.below B; have lP2 := oP2.lt; have cP20 := oP2.c0; have cP21 := oP2.c1; have cP22 := oP2.c2; clear oP2
          go_wp2_with fail
          refine (kposition_is l0 b1 x2 y2 true n0 c0 A0 HQ.out HN.out _ (M0.below B)).mono ?_; rintro e w4 ⟨rfl, hb⟩
          replace B := B.trans (hb.mono (by have := B.size; simp <;> omega))
          clear hb lP2 cP20 cP21 cP22
          have oP1 := P1.below B; have lP1 := oP1.lt; have cP10 := oP1.c0; have cP11 := oP1.c1; have cP12 := oP1.c2; clear oP1
          go_wp2_with fail
          refine (mtime_lt l0 b1 x1 y1 true true N D 0 n0 c0 A0 (Mt.iff_tt HVal.out) HP.out HR1.out HN.out HW.out _ (M0.below B)).mono ?_; rintro e w5 ⟨rfl, hb⟩
          replace B := B.trans (hb.mono (by have := B.size; simp <;> omega))
          clear hb lP1 cP10 cP11 cP12
          have oP2 := P2.below B; have lP2 := oP2.lt; have cP20 := oP2.c0; have cP21 := oP2.c1; have cP22 := oP2.c2; clear oP2
          go_wp2_with fail
          refine (mtime_lt l0 b1 x2 y2 true true N' D' 0 n0 c0 A0 (Mt.iff_tt HVal.out) HQ.out HR2.out HN.out HW.out _ (M0.below (B.alloc (by have := B.size; simp <;> omega) _))).mono ?_; rintro e w6 ⟨rfl, hb⟩
          have nb_a : w0.heap.size ≤ w5.heap.size := by have := B.size; omega
          have a := (At2.new _ (N) (D) _).below hb
          replace B := (B.alloc (by have := B.size; simp <;> omega) _).trans (hb.mono (by have := B.size; simp <;> omega))
          clear hb lP2 cP20 cP21 cP22
          have la := a.lt; have ca0 := a.c0; have ca1 := a.c1
          go_wp2_with fail
          refine (compare_is N D N' D' C 0 HR3.out _).mono ?_; rintro e w7 ⟨rfl, hb⟩
          have n_a_b : w5.heap.size < w6.heap.size := by have := a.lt; omega
          have nb_b : w0.heap.size ≤ w6.heap.size := by have := B.size; omega
          replace a := (a.alloc _).below hb
          have b := (At2.new _ (N') (D') _).below hb
          replace B := (B.alloc (by have := B.size; simp <;> omega) _).trans (hb.mono (by have := B.size; simp <;> omega))
          clear hb la ca0 ca1
          have oP1 := P1.below B; have lP1 := oP1.lt; have cP10 := oP1.c0; have cP11 := oP1.c1; have cP12 := oP1.c2; clear oP1
          have oP2 := P2.below B; have lP2 := oP2.lt; have cP20 := oP2.c0; have cP21 := oP2.c1; have cP22 := oP2.c2; clear oP2
          go_wp2_with fail
          refine (compare_is x1 y1 x2 y2 C 0 HR4.out _).mono ?_; rintro e w8 ⟨rfl, hb⟩
          replace a := a.below hb
          replace b := b.below hb
          replace B := B.trans (hb.mono (by have := B.size; simp <;> omega))
          clear hb lP1 cP10 cP11 cP12 lP2 cP20 cP21 cP22
          have oP1 := P1.below B; have lP1 := oP1.lt; have cP10 := oP1.c0; have cP11 := oP1.c1; have cP12 := oP1.c2; clear oP1
          have oP2 := P2.below B; have lP2 := oP2.lt; have cP20 := oP2.c0; have cP21 := oP2.c1; have cP22 := oP2.c2; clear oP2
          go_wp2_with fail
          go_ret
          refine ⟨rfl, BASE.trans (Below.mono (B := w0.heap.size) ?_ BASE.size)⟩
          exact B
        · obtain rfl := r6 hlt
          have hng : ¬ b1 < b2 := by omega
          clear r5 r6 r7
          go_enter Try.func5, Try.ntmps5
          go_wp2_with fail
          obtain ⟨w0, ew0⟩ : ∃ w0, ((w.alloc (.cells #[.int .i64 b1, .int .i64 x1, .int .i64 y1] 26)).alloc (.cells #[.int .i64 b2, .int .i64 x2, .int .i64 y2] 26)) = w0 := ⟨_, rfl⟩
          have BASE : Below w.heap.size w w0 := by rw [← ew0]; exact (((Below.refl w.heap.size w).alloc (by first | exact Nat.le_refl _ | (simp <;> omega)) _).alloc (by first | exact Nat.le_refl _ | (simp <;> omega)) _)
          have P1 : At3 w0 (w.heap.size) b1 x1 y1 := by
            have h : At3 ((w.alloc (.cells #[.int .i64 b1, .int .i64 x1, .int .i64 y1] 26)).alloc (.cells #[.int .i64 b2, .int .i64 x2, .int .i64 y2] 26)) w.heap.size b1 x1 y1 := ((At3.new w b1 x1 y1 26).alloc _)
            rw [ew0] at h
            simpa only [World.size_alloc] using h
          have P2 : At3 w0 (w.heap.size + 1) b2 x2 y2 := by
            have h : At3 ((w.alloc (.cells #[.int .i64 b1, .int .i64 x1, .int .i64 y1] 26)).alloc (.cells #[.int .i64 b2, .int .i64 x2, .int .i64 y2] 26)) (w.alloc (.cells #[.int .i64 b1, .int .i64 x1, .int .i64 y1] 26)).heap.size b2 x2 y2 := (At3.new (w.alloc (.cells #[.int .i64 b1, .int .i64 x1, .int .i64 y1] 26)) b2 x2 y2 26)
            rw [ew0] at h
            simpa only [World.size_alloc] using h
          have M0 : SlB w0 A0 l0 := by rw [← ew0]; exact ((L0.alloc _).alloc _)
          have hs0 : w0.heap.size = w.heap.size + 2 := by rw [← ew0]; simp
          rw [ew0]
          clear ew0
          clear L0
          have B := Below.refl w0.heap.size w0
          refine (head_any _).mono ?_; rintro e w1 ⟨rfl, hb⟩
          replace B := B.trans (hb.mono (by have := B.size; simp <;> omega))
          clear hb
          go_wp2_with fail
          refine (lusable_is l0 true n0 c0 A0 (Mt.iff_tt HU.out) HN.out _ (M0.below B)).mono ?_; rintro e w2 ⟨rfl, hb⟩
          replace B := B.trans (hb.mono (by have := B.size; simp <;> omega))
          clear hb
          have oP1 := P1.below B; have lP1 := oP1.lt; have cP10 := oP1.c0; have cP11 := oP1.c1; have cP12 := oP1.c2; clear oP1
          go_wp2_with fail
          refine (kposition_is l0 b1 x1 y1 true n0 c0 A0 HP.out HN.out _ (M0.below B)).mono ?_; rintro e w3 ⟨rfl, hb⟩
          replace B := B.trans (hb.mono (by have := B.size; simp <;> omega))
          clear hb lP1 cP10 cP11 cP12
          have oP2 := P2.below B; have lP2 := oP2.lt; have cP20 := oP2.c0; have cP21 := oP2.c1; have cP22 := oP2.c2; clear oP2
          go_wp2_with fail
          refine (kposition_is l0 b2 x2 y2 true n0 c0 A0 HQ.out HN.out _ (M0.below B)).mono ?_; rintro e w4 ⟨rfl, hb⟩
          replace B := B.trans (hb.mono (by have := B.size; simp <;> omega))
          clear hb lP2 cP20 cP21 cP22
          have oP1 := P1.below B; have lP1 := oP1.lt; have cP10 := oP1.c0; have cP11 := oP1.c1; have cP12 := oP1.c2; clear oP1
          go_wp2_with fail
          refine (mtime_lt l0 b1 x1 y1 true true N D 0 n0 c0 A0 (Mt.iff_tt HVal.out) HP.out HR1.out HN.out HW.out _ (M0.below B)).mono ?_; rintro e w5 ⟨rfl, hb⟩
          replace B := B.trans (hb.mono (by have := B.size; simp <;> omega))
          clear hb lP1 cP10 cP11 cP12
          have oP2 := P2.below B; have lP2 := oP2.lt; have cP20 := oP2.c0; have cP21 := oP2.c1; have cP22 := oP2.c2; clear oP2
          go_wp2_with fail
          refine (mtime_lt l0 b2 x2 y2 true true N' D' 0 n0 c0 A0 (Mt.iff_tt HVal.out) HQ.out HR2.out HN.out HW.out _ (M0.below (B.alloc (by have := B.size; simp <;> omega) _))).mono ?_; rintro e w6 ⟨rfl, hb⟩
          have nb_a : w0.heap.size ≤ w5.heap.size := by have := B.size; omega
          have a := (At2.new _ (N) (D) _).below hb
          replace B := (B.alloc (by have := B.size; simp <;> omega) _).trans (hb.mono (by have := B.size; simp <;> omega))
          clear hb lP2 cP20 cP21 cP22
          have la := a.lt; have ca0 := a.c0; have ca1 := a.c1
          go_wp2_with fail
          refine (compare_is N D N' D' 1 0 HR3.out _).mono ?_; rintro e w7 ⟨rfl, hb⟩
          have n_a_b : w5.heap.size < w6.heap.size := by have := a.lt; omega
          have nb_b : w0.heap.size ≤ w6.heap.size := by have := B.size; omega
          replace a := (a.alloc _).below hb
          have b := (At2.new _ (N') (D') _).below hb
          replace B := (B.alloc (by have := B.size; simp <;> omega) _).trans (hb.mono (by have := B.size; simp <;> omega))
          clear hb la ca0 ca1
          have oP1 := P1.below B; have lP1 := oP1.lt; have cP10 := oP1.c0; have cP11 := oP1.c1; have cP12 := oP1.c2; clear oP1
          have oP2 := P2.below B; have lP2 := oP2.lt; have cP20 := oP2.c0; have cP21 := oP2.c1; have cP22 := oP2.c2; clear oP2
          go_wp2_with fail
          refine (compare_is x1 y1 x2 y2 E 0 HR4.out _).mono ?_; rintro e w8 ⟨rfl, hb⟩
          replace a := a.below hb
          replace b := b.below hb
          replace B := B.trans (hb.mono (by have := B.size; simp <;> omega))
          clear hb lP1 cP10 cP11 cP12 lP2 cP20 cP21 cP22
          have oP1 := P1.below B; have lP1 := oP1.lt; have cP10 := oP1.c0; have cP11 := oP1.c1; have cP12 := oP1.c2; clear oP1
          have oP2 := P2.below B; have lP2 := oP2.lt; have cP20 := oP2.c0; have cP21 := oP2.c1; have cP22 := oP2.c2; clear oP2
          go_wp2_with fail
          go_ret
          refine ⟨rfl, BASE.trans (Below.mono (B := w0.heap.size) ?_ BASE.size)⟩
          exact B
end Go.Proofs.Ythamkigdpgajaaa
