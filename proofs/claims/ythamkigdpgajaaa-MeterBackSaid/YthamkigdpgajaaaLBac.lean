/- The walk of the law MeterBack. -/
import Derived.Test.YthamkigdpgajaaaNl
namespace Go.Proofs.Ythamkigdpgajaaa
open Go.RowKit
namespace Mt
theorem back_1 {l : List B} {b n d : Int} (hval : Val l) (hp : posB l b n d = true) : ∃ N D, rR (true && true) (oN (before l b.toNat + tk n d).toNat) (oD (before l b.toNat + tk n d).toNat) = (N, D, 0) ∧ decide (0 ≤ tk N D) = true ∧ pC (true && true) (wh l (tk N D)) = (b, n, d, 0) := by
  obtain ⟨h0, h1⟩ := before_tk hval hp
  obtain ⟨hb0, hpos⟩ := posB_iff.1 hp
  obtain ⟨v, hv⟩ := Int.eq_ofNat_of_zero_le h0
  have hw := wh_pos (fun x hx => (hval.ok x hx).2.2.1) hpos
  rw [hv] at hw h1 ⊢
  have ht : tk (oN v) (oD v) = (v : Int) := tk_of (by omega)
  refine ⟨oN v, oD v, rfl, by rw [ht]; exact decide_eq_true (by omega), ?_⟩
  rw [ht, hw]
  obtain ⟨e1, e2⟩ := of_tk (n := n) (d := d) (by have := hpos.2.1; omega)
  show (((b.toNat : Nat) : Int), oN (tk n d).toNat, oD (tk n d).toNat, (0 : Int)) = (b, n, d, 0)
  rw [e1, e2, Int.toNat_of_nonneg hb0]
theorem back_2 {l : List B} {n d : Int} {k : Nat} {t : Int} (hval : Val l) (hw : wh l (tk n d) = some (k, t)) (h0 : 0 ≤ tk n d) :
    posB l (k : Int) (oN t.toNat) (oD t.toNat) = true ∧ rR (true && true) (oN (before l (k : Int).toNat + tk (oN t.toNat) (oD t.toNat)).toNat) (oD (before l (k : Int).toNat + tk (oN t.toNat) (oD t.toNat)).toNat) = (n, d, 0) := by
  obtain ⟨hpos, he⟩ := wh_some (fun x hx => (hval.ok x hx).2.2.1) hw
  have ht0 := hpos.2.1
  have ht1 : t ≤ 40320 := by
    by_cases hk : k < l.length
    · have := hpos.2.2.2 hk
      have := (hval.ok _ (List.getElem_mem hk)).2.2.2.1
      omega
    · have := hpos.2.2.1 (by have := hpos.1; omega)
      omega
  have ht : tk (oN t.toNat) (oD t.toNat) = t := by rw [tk_of (by omega)]; omega
  rw [posB_iff, Int.toNat_natCast, ht]
  refine ⟨⟨by omega, hpos⟩, ?_⟩
  rw [he]
  obtain ⟨e1, e2⟩ := of_tk (n := n) (d := d) (by omega)
  rw [e1, e2]
  rfl
end Mt

set_option maxHeartbeats 1600000 in
theorem meterBack_walk (A0 : Option Addr) (n0 c0 : Nat) (l0 : List Mt.B) (hl0 : l0.length = n0) (hw0 : Mt.Wf l0) (_hc0 : n0 ≤ c0) (b1 x1 y1 : Int) (x2 y2 : Int) (_hx2 : -9223372036854775808 ≤ x2 ∧ x2 ≤ 9223372036854775807) (w : World) (L0 : SlB w A0 l0) :
    Calls Try.prog 4 #[.slice A0 n0 c0, .agg #[.int .i64 b1, .int .i64 x1, .int .i64 y1], .agg #[.int .i64 x2, .int .i64 y2]] w fun e w' => e = .returned (.bool true) ∧ Below w.heap.size w w' := by
  obtain ⟨f, hf⟩ : ∃ f : Bool, f = true ↔ (n0 ≤ 60 ∧ Mt.Val l0) := by classical exact ⟨decide (n0 ≤ 60 ∧ Mt.Val l0), by simp⟩
  have HN := Lib.hid hl0
  have HW := Lib.hid hw0
  cases f with
  | false =>
    have HU : Hid (¬ (n0 ≤ 60 ∧ Mt.Val l0)) := Lib.hid (fun h => by have := hf.2 h; cases this)
    clear hf hl0 hw0
    go_enter Try.func4, Try.ntmps4
    go_wp2_with fail
    obtain ⟨w0, ew0⟩ : ∃ w0, ((w.alloc (.cells #[.int .i64 b1, .int .i64 x1, .int .i64 y1] 26)).alloc (.cells #[.int .i64 x2, .int .i64 y2] 24)) = w0 := ⟨_, rfl⟩
    have BASE : Below w.heap.size w w0 := by rw [← ew0]; exact (((Below.refl w.heap.size w).alloc (by first | exact Nat.le_refl _ | (simp <;> omega)) _).alloc (by first | exact Nat.le_refl _ | (simp <;> omega)) _)
    have P1 : At3 w0 (w.heap.size) b1 x1 y1 := by
      have h : At3 ((w.alloc (.cells #[.int .i64 b1, .int .i64 x1, .int .i64 y1] 26)).alloc (.cells #[.int .i64 x2, .int .i64 y2] 24)) w.heap.size b1 x1 y1 := ((At3.new w b1 x1 y1 26).alloc _)
      rw [ew0] at h
      simpa only [World.size_alloc] using h
    have T2 : At2 w0 (w.heap.size + 1) x2 y2 := by
      have h : At2 ((w.alloc (.cells #[.int .i64 b1, .int .i64 x1, .int .i64 y1] 26)).alloc (.cells #[.int .i64 x2, .int .i64 y2] 24)) (w.alloc (.cells #[.int .i64 b1, .int .i64 x1, .int .i64 y1] 26)).heap.size x2 y2 := (At2.new (w.alloc (.cells #[.int .i64 b1, .int .i64 x1, .int .i64 y1] 26)) x2 y2 24)
      rw [ew0] at h
      simpa only [World.size_alloc] using h
    have M0 : SlB w0 A0 l0 := by rw [← ew0]; exact ((L0.alloc _).alloc _)
    have hs0 : w0.heap.size = w.heap.size + 2 := by rw [← ew0]; simp
    rw [ew0]
    clear ew0
    clear L0
    have B := Below.refl w0.heap.size w0
    refine (head_any _).mono ?_; rintro e w1 ⟨rfl, hb⟩
    replace B := B.trans (hb.mono (by have := B.size; simp <;> omega))
    clear hb
    go_wp2_with fail
    refine (lusable_is l0 false n0 c0 A0 (Mt.iff_ff HU.out) HN.out _ (M0.below B)).mono ?_; rintro e w2 ⟨rfl, hb⟩
    replace B := B.trans (hb.mono (by have := B.size; simp <;> omega))
    clear hb
    go_wp2_with fail
    go_ret
    refine ⟨rfl, BASE.trans (Below.mono (B := w0.heap.size) ?_ BASE.size)⟩
    exact B
  | true =>
    have HU := Lib.hid (hf.1 rfl)
    have HVal := Lib.hid (hf.1 rfl).2
    obtain ⟨p, hp⟩ : ∃ p, Mt.posB l0 b1 x1 y1 = p := ⟨_, rfl⟩
    obtain ⟨q, hq⟩ : ∃ q, decide (0 ≤ Mt.tk x2 y2) = q := ⟨_, rfl⟩
    obtain ⟨O, hO⟩ : ∃ O, Mt.wh l0 (Mt.tk x2 y2) = O := ⟨_, rfl⟩
    have HP := Lib.hid hp
    have HQ := Lib.hid hq
    clear hf hl0 hw0
    cases p with
    | false =>
      clear hp
      cases q with
      | false =>
        clear hq hO
        go_enter Try.func4, Try.ntmps4
        go_wp2_with fail
        obtain ⟨w0, ew0⟩ : ∃ w0, ((w.alloc (.cells #[.int .i64 b1, .int .i64 x1, .int .i64 y1] 26)).alloc (.cells #[.int .i64 x2, .int .i64 y2] 24)) = w0 := ⟨_, rfl⟩
        have BASE : Below w.heap.size w w0 := by rw [← ew0]; exact (((Below.refl w.heap.size w).alloc (by first | exact Nat.le_refl _ | (simp <;> omega)) _).alloc (by first | exact Nat.le_refl _ | (simp <;> omega)) _)
        have P1 : At3 w0 (w.heap.size) b1 x1 y1 := by
          have h : At3 ((w.alloc (.cells #[.int .i64 b1, .int .i64 x1, .int .i64 y1] 26)).alloc (.cells #[.int .i64 x2, .int .i64 y2] 24)) w.heap.size b1 x1 y1 := ((At3.new w b1 x1 y1 26).alloc _)
          rw [ew0] at h
          simpa only [World.size_alloc] using h
        have T2 : At2 w0 (w.heap.size + 1) x2 y2 := by
          have h : At2 ((w.alloc (.cells #[.int .i64 b1, .int .i64 x1, .int .i64 y1] 26)).alloc (.cells #[.int .i64 x2, .int .i64 y2] 24)) (w.alloc (.cells #[.int .i64 b1, .int .i64 x1, .int .i64 y1] 26)).heap.size x2 y2 := (At2.new (w.alloc (.cells #[.int .i64 b1, .int .i64 x1, .int .i64 y1] 26)) x2 y2 24)
          rw [ew0] at h
          simpa only [World.size_alloc] using h
        have M0 : SlB w0 A0 l0 := by rw [← ew0]; exact ((L0.alloc _).alloc _)
        have hs0 : w0.heap.size = w.heap.size + 2 := by rw [← ew0]; simp
        rw [ew0]
        clear ew0
        clear L0
        have B := Below.refl w0.heap.size w0
        refine (head_any _).mono ?_; rintro e w1 ⟨rfl, hb⟩
        replace B := B.trans (hb.mono (by have := B.size; simp <;> omega))
        clear hb
        go_wp2_with fail
        refine (lusable_is l0 true n0 c0 A0 (Mt.iff_tt HU.out) HN.out _ (M0.below B)).mono ?_; rintro e w2 ⟨rfl, hb⟩
        replace B := B.trans (hb.mono (by have := B.size; simp <;> omega))
        clear hb
        have oP1 := P1.below B; have lP1 := oP1.lt; have cP10 := oP1.c0; have cP11 := oP1.c1; have cP12 := oP1.c2; clear oP1
        go_wp2_with fail
        refine (mtime_lt l0 b1 x1 y1 true false 0 0 1 n0 c0 A0 (Mt.iff_tt HVal.out) HP.out rfl HN.out HW.out _ (M0.below B)).mono ?_; rintro e w3 ⟨rfl, hb⟩
        replace B := B.trans (hb.mono (by have := B.size; simp <;> omega))
        clear hb lP1 cP10 cP11 cP12
        have oP1 := P1.below B; have lP1 := oP1.lt; have cP10 := oP1.c0; have cP11 := oP1.c1; have cP12 := oP1.c2; clear oP1
        go_wp2_with fail
        refine (kposition_is l0 b1 x1 y1 false n0 c0 A0 HP.out HN.out _ (M0.below (B.alloc (by have := B.size; simp <;> omega) _))).mono ?_; rintro e w4 ⟨rfl, hb⟩
        have nb_t : w0.heap.size ≤ w3.heap.size := by have := B.size; omega
        have t := (At2.new _ (0) (0) _).below hb
        replace B := (B.alloc (by have := B.size; simp <;> omega) _).trans (hb.mono (by have := B.size; simp <;> omega))
        clear hb lP1 cP10 cP11 cP12
        have oT2 := T2.below B; have lT2 := oT2.lt; have cT20 := oT2.c0; have cT21 := oT2.c1; clear oT2
        go_wp2_with fail
        refine (mwhere_lt l0 x2 y2 true false 0 0 0 1 n0 c0 A0 (Mt.iff_tt HVal.out) HQ.out rfl HN.out HW.out _ (M0.below B)).mono ?_; rintro e w5 ⟨rfl, hb⟩
        replace t := t.below hb
        replace B := B.trans (hb.mono (by have := B.size; simp <;> omega))
        clear hb lT2 cT20 cT21
        have oT2 := T2.below B; have lT2 := oT2.lt; have cT20 := oT2.c0; have cT21 := oT2.c1; clear oT2
        go_wp2_with fail
        go_ret
        refine ⟨rfl, BASE.trans (Below.mono (B := w0.heap.size) ?_ BASE.size)⟩
        exact (B.alloc (by have := B.size; simp <;> omega) _)
      | true =>
        cases O with
        | none =>
          have HO : Hid (Mt.pC (true && true) (Mt.wh l0 (Mt.tk x2 y2)) = (0, 0, 0, 3)) := Lib.hid (by rw [hO]; rfl)
          clear hq hO
          go_enter Try.func4, Try.ntmps4
          go_wp2_with fail
          obtain ⟨w0, ew0⟩ : ∃ w0, ((w.alloc (.cells #[.int .i64 b1, .int .i64 x1, .int .i64 y1] 26)).alloc (.cells #[.int .i64 x2, .int .i64 y2] 24)) = w0 := ⟨_, rfl⟩
          have BASE : Below w.heap.size w w0 := by rw [← ew0]; exact (((Below.refl w.heap.size w).alloc (by first | exact Nat.le_refl _ | (simp <;> omega)) _).alloc (by first | exact Nat.le_refl _ | (simp <;> omega)) _)
          have P1 : At3 w0 (w.heap.size) b1 x1 y1 := by
            have h : At3 ((w.alloc (.cells #[.int .i64 b1, .int .i64 x1, .int .i64 y1] 26)).alloc (.cells #[.int .i64 x2, .int .i64 y2] 24)) w.heap.size b1 x1 y1 := ((At3.new w b1 x1 y1 26).alloc _)
            rw [ew0] at h
            simpa only [World.size_alloc] using h
          have T2 : At2 w0 (w.heap.size + 1) x2 y2 := by
            have h : At2 ((w.alloc (.cells #[.int .i64 b1, .int .i64 x1, .int .i64 y1] 26)).alloc (.cells #[.int .i64 x2, .int .i64 y2] 24)) (w.alloc (.cells #[.int .i64 b1, .int .i64 x1, .int .i64 y1] 26)).heap.size x2 y2 := (At2.new (w.alloc (.cells #[.int .i64 b1, .int .i64 x1, .int .i64 y1] 26)) x2 y2 24)
            rw [ew0] at h
            simpa only [World.size_alloc] using h
          have M0 : SlB w0 A0 l0 := by rw [← ew0]; exact ((L0.alloc _).alloc _)
          have hs0 : w0.heap.size = w.heap.size + 2 := by rw [← ew0]; simp
          rw [ew0]
          clear ew0
          clear L0
          have B := Below.refl w0.heap.size w0
          refine (head_any _).mono ?_; rintro e w1 ⟨rfl, hb⟩
          replace B := B.trans (hb.mono (by have := B.size; simp <;> omega))
          clear hb
          go_wp2_with fail
          refine (lusable_is l0 true n0 c0 A0 (Mt.iff_tt HU.out) HN.out _ (M0.below B)).mono ?_; rintro e w2 ⟨rfl, hb⟩
          replace B := B.trans (hb.mono (by have := B.size; simp <;> omega))
          clear hb
          have oP1 := P1.below B; have lP1 := oP1.lt; have cP10 := oP1.c0; have cP11 := oP1.c1; have cP12 := oP1.c2; clear oP1
          go_wp2_with fail
          refine (mtime_lt l0 b1 x1 y1 true false 0 0 1 n0 c0 A0 (Mt.iff_tt HVal.out) HP.out rfl HN.out HW.out _ (M0.below B)).mono ?_; rintro e w3 ⟨rfl, hb⟩
          replace B := B.trans (hb.mono (by have := B.size; simp <;> omega))
          clear hb lP1 cP10 cP11 cP12
          have oP1 := P1.below B; have lP1 := oP1.lt; have cP10 := oP1.c0; have cP11 := oP1.c1; have cP12 := oP1.c2; clear oP1
          go_wp2_with fail
          refine (kposition_is l0 b1 x1 y1 false n0 c0 A0 HP.out HN.out _ (M0.below (B.alloc (by have := B.size; simp <;> omega) _))).mono ?_; rintro e w4 ⟨rfl, hb⟩
          have nb_t : w0.heap.size ≤ w3.heap.size := by have := B.size; omega
          have t := (At2.new _ (0) (0) _).below hb
          replace B := (B.alloc (by have := B.size; simp <;> omega) _).trans (hb.mono (by have := B.size; simp <;> omega))
          clear hb lP1 cP10 cP11 cP12
          have oT2 := T2.below B; have lT2 := oT2.lt; have cT20 := oT2.c0; have cT21 := oT2.c1; clear oT2
          go_wp2_with fail
          refine (mwhere_lt l0 x2 y2 true true 0 0 0 3 n0 c0 A0 (Mt.iff_tt HVal.out) HQ.out HO.out HN.out HW.out _ (M0.below B)).mono ?_; rintro e w5 ⟨rfl, hb⟩
          replace t := t.below hb
          replace B := B.trans (hb.mono (by have := B.size; simp <;> omega))
          clear hb lT2 cT20 cT21
          have oT2 := T2.below B; have lT2 := oT2.lt; have cT20 := oT2.c0; have cT21 := oT2.c1; clear oT2
          go_wp2_with fail
          go_ret
          refine ⟨rfl, BASE.trans (Below.mono (B := w0.heap.size) ?_ BASE.size)⟩
          exact (B.alloc (by have := B.size; simp <;> omega) _)
        | some kt =>
          obtain ⟨k, t0⟩ := kt
          obtain ⟨p2, r3⟩ := Mt.back_2 HVal.out hO (of_decide_eq_true hq)
          obtain ⟨K, hK⟩ : ∃ K, (k : Int) = K := ⟨_, rfl⟩
          obtain ⟨U, hU⟩ : ∃ U, Mt.oN t0.toNat = U := ⟨_, rfl⟩
          obtain ⟨V, hV⟩ : ∃ V, Mt.oD t0.toNat = V := ⟨_, rfl⟩
          have HO : Hid (Mt.pC (true && true) (Mt.wh l0 (Mt.tk x2 y2)) = (K, U, V, 0)) := Lib.hid (by rw [hO, ← hK, ← hU, ← hV]; rfl)
          rw [hK, hU, hV] at p2 r3
          have HP2 := Lib.hid p2
          have HR3 := Lib.hid r3
          clear hq hO p2 r3 hK hU hV
          go_enter Try.func4, Try.ntmps4
          go_wp2_with fail
          obtain ⟨w0, ew0⟩ : ∃ w0, ((w.alloc (.cells #[.int .i64 b1, .int .i64 x1, .int .i64 y1] 26)).alloc (.cells #[.int .i64 x2, .int .i64 y2] 24)) = w0 := ⟨_, rfl⟩
          have BASE : Below w.heap.size w w0 := by rw [← ew0]; exact (((Below.refl w.heap.size w).alloc (by first | exact Nat.le_refl _ | (simp <;> omega)) _).alloc (by first | exact Nat.le_refl _ | (simp <;> omega)) _)
          have P1 : At3 w0 (w.heap.size) b1 x1 y1 := by
            have h : At3 ((w.alloc (.cells #[.int .i64 b1, .int .i64 x1, .int .i64 y1] 26)).alloc (.cells #[.int .i64 x2, .int .i64 y2] 24)) w.heap.size b1 x1 y1 := ((At3.new w b1 x1 y1 26).alloc _)
            rw [ew0] at h
            simpa only [World.size_alloc] using h
          have T2 : At2 w0 (w.heap.size + 1) x2 y2 := by
            have h : At2 ((w.alloc (.cells #[.int .i64 b1, .int .i64 x1, .int .i64 y1] 26)).alloc (.cells #[.int .i64 x2, .int .i64 y2] 24)) (w.alloc (.cells #[.int .i64 b1, .int .i64 x1, .int .i64 y1] 26)).heap.size x2 y2 := (At2.new (w.alloc (.cells #[.int .i64 b1, .int .i64 x1, .int .i64 y1] 26)) x2 y2 24)
            rw [ew0] at h
            simpa only [World.size_alloc] using h
          have M0 : SlB w0 A0 l0 := by rw [← ew0]; exact ((L0.alloc _).alloc _)
          have hs0 : w0.heap.size = w.heap.size + 2 := by rw [← ew0]; simp
          rw [ew0]
          clear ew0
          clear L0
          have B := Below.refl w0.heap.size w0
          refine (head_any _).mono ?_; rintro e w1 ⟨rfl, hb⟩
          replace B := B.trans (hb.mono (by have := B.size; simp <;> omega))
          clear hb
          go_wp2_with fail
          refine (lusable_is l0 true n0 c0 A0 (Mt.iff_tt HU.out) HN.out _ (M0.below B)).mono ?_; rintro e w2 ⟨rfl, hb⟩
          replace B := B.trans (hb.mono (by have := B.size; simp <;> omega))
          clear hb
          have oP1 := P1.below B; have lP1 := oP1.lt; have cP10 := oP1.c0; have cP11 := oP1.c1; have cP12 := oP1.c2; clear oP1
          go_wp2_with fail
          refine (mtime_lt l0 b1 x1 y1 true false 0 0 1 n0 c0 A0 (Mt.iff_tt HVal.out) HP.out rfl HN.out HW.out _ (M0.below B)).mono ?_; rintro e w3 ⟨rfl, hb⟩
          replace B := B.trans (hb.mono (by have := B.size; simp <;> omega))
          clear hb lP1 cP10 cP11 cP12
          have oP1 := P1.below B; have lP1 := oP1.lt; have cP10 := oP1.c0; have cP11 := oP1.c1; have cP12 := oP1.c2; clear oP1
          go_wp2_with fail
          refine (kposition_is l0 b1 x1 y1 false n0 c0 A0 HP.out HN.out _ (M0.below (B.alloc (by have := B.size; simp <;> omega) _))).mono ?_; rintro e w4 ⟨rfl, hb⟩
          have nb_t : w0.heap.size ≤ w3.heap.size := by have := B.size; omega
          have t := (At2.new _ (0) (0) _).below hb
          replace B := (B.alloc (by have := B.size; simp <;> omega) _).trans (hb.mono (by have := B.size; simp <;> omega))
          clear hb lP1 cP10 cP11 cP12
          have oT2 := T2.below B; have lT2 := oT2.lt; have cT20 := oT2.c0; have cT21 := oT2.c1; clear oT2
          go_wp2_with fail
          refine (mwhere_lt l0 x2 y2 true true K U V 0 n0 c0 A0 (Mt.iff_tt HVal.out) HQ.out HO.out HN.out HW.out _ (M0.below B)).mono ?_; rintro e w5 ⟨rfl, hb⟩
          replace t := t.below hb
          replace B := B.trans (hb.mono (by have := B.size; simp <;> omega))
          clear hb lT2 cT20 cT21
          have oT2 := T2.below B; have lT2 := oT2.lt; have cT20 := oT2.c0; have cT21 := oT2.c1; clear oT2
          go_wp2_with fail
          refine (mtime_lt l0 K U V true true x2 y2 0 n0 c0 A0 (Mt.iff_tt HVal.out) HP2.out HR3.out HN.out HW.out _ (M0.below (B.alloc (by have := B.size; simp <;> omega) _))).mono ?_; rintro e w6 ⟨rfl, hb⟩
          have n_t_x : w3.heap.size < w5.heap.size := by have := t.lt; omega
          have nb_x : w0.heap.size ≤ w5.heap.size := by have := B.size; omega
          replace t := (t.alloc _).below hb
          have x := (At3.new _ (K) (U) (V) _).below hb
          replace B := (B.alloc (by have := B.size; simp <;> omega) _).trans (hb.mono (by have := B.size; simp <;> omega))
          clear hb lT2 cT20 cT21
          have oT2 := T2.below B; have lT2 := oT2.lt; have cT20 := oT2.c0; have cT21 := oT2.c1; clear oT2
          go_wp2_with fail
          go_ret
          refine ⟨rfl, BASE.trans (Below.mono (B := w0.heap.size) ?_ BASE.size)⟩
          exact (B.alloc (by have := B.size; simp <;> omega) _)
    | true =>
      obtain ⟨N, D, r1, d1, r2⟩ := Mt.back_1 HVal.out hp
      have HR1 := Lib.hid r1
      have HD := Lib.hid d1
      have HR2 := Lib.hid r2
      clear r1 d1 r2
      clear hp
      cases q with
      | false =>
        clear hq hO
        go_enter Try.func4, Try.ntmps4
        go_wp2_with fail
        obtain ⟨w0, ew0⟩ : ∃ w0, ((w.alloc (.cells #[.int .i64 b1, .int .i64 x1, .int .i64 y1] 26)).alloc (.cells #[.int .i64 x2, .int .i64 y2] 24)) = w0 := ⟨_, rfl⟩
        have BASE : Below w.heap.size w w0 := by rw [← ew0]; exact (((Below.refl w.heap.size w).alloc (by first | exact Nat.le_refl _ | (simp <;> omega)) _).alloc (by first | exact Nat.le_refl _ | (simp <;> omega)) _)
        have P1 : At3 w0 (w.heap.size) b1 x1 y1 := by
          have h : At3 ((w.alloc (.cells #[.int .i64 b1, .int .i64 x1, .int .i64 y1] 26)).alloc (.cells #[.int .i64 x2, .int .i64 y2] 24)) w.heap.size b1 x1 y1 := ((At3.new w b1 x1 y1 26).alloc _)
          rw [ew0] at h
          simpa only [World.size_alloc] using h
        have T2 : At2 w0 (w.heap.size + 1) x2 y2 := by
          have h : At2 ((w.alloc (.cells #[.int .i64 b1, .int .i64 x1, .int .i64 y1] 26)).alloc (.cells #[.int .i64 x2, .int .i64 y2] 24)) (w.alloc (.cells #[.int .i64 b1, .int .i64 x1, .int .i64 y1] 26)).heap.size x2 y2 := (At2.new (w.alloc (.cells #[.int .i64 b1, .int .i64 x1, .int .i64 y1] 26)) x2 y2 24)
          rw [ew0] at h
          simpa only [World.size_alloc] using h
        have M0 : SlB w0 A0 l0 := by rw [← ew0]; exact ((L0.alloc _).alloc _)
        have hs0 : w0.heap.size = w.heap.size + 2 := by rw [← ew0]; simp
        rw [ew0]
        clear ew0
        clear L0
        have B := Below.refl w0.heap.size w0
        refine (head_any _).mono ?_; rintro e w1 ⟨rfl, hb⟩
        replace B := B.trans (hb.mono (by have := B.size; simp <;> omega))
        clear hb
        go_wp2_with fail
        refine (lusable_is l0 true n0 c0 A0 (Mt.iff_tt HU.out) HN.out _ (M0.below B)).mono ?_; rintro e w2 ⟨rfl, hb⟩
        replace B := B.trans (hb.mono (by have := B.size; simp <;> omega))
        clear hb
        have oP1 := P1.below B; have lP1 := oP1.lt; have cP10 := oP1.c0; have cP11 := oP1.c1; have cP12 := oP1.c2; clear oP1
        go_wp2_with fail
        refine (mtime_lt l0 b1 x1 y1 true true N D 0 n0 c0 A0 (Mt.iff_tt HVal.out) HP.out HR1.out HN.out HW.out _ (M0.below B)).mono ?_; rintro e w3 ⟨rfl, hb⟩
        replace B := B.trans (hb.mono (by have := B.size; simp <;> omega))
        clear hb lP1 cP10 cP11 cP12
        have oP1 := P1.below B; have lP1 := oP1.lt; have cP10 := oP1.c0; have cP11 := oP1.c1; have cP12 := oP1.c2; clear oP1
        go_wp2_with fail
        refine (kposition_is l0 b1 x1 y1 true n0 c0 A0 HP.out HN.out _ (M0.below (B.alloc (by have := B.size; simp <;> omega) _))).mono ?_; rintro e w4 ⟨rfl, hb⟩
        have nb_t : w0.heap.size ≤ w3.heap.size := by have := B.size; omega
        have t := (At2.new _ (N) (D) _).below hb
        replace B := (B.alloc (by have := B.size; simp <;> omega) _).trans (hb.mono (by have := B.size; simp <;> omega))
        clear hb lP1 cP10 cP11 cP12
        have lt := t.lt; have ct0 := t.c0; have ct1 := t.c1
        go_wp2_with fail
        refine (mwhere_lt l0 N D true true b1 x1 y1 0 n0 c0 A0 (Mt.iff_tt HVal.out) HD.out HR2.out HN.out HW.out _ (M0.below B)).mono ?_; rintro e w5 ⟨rfl, hb⟩
        replace t := t.below hb
        replace B := B.trans (hb.mono (by have := B.size; simp <;> omega))
        clear hb lt ct0 ct1
        have oP1 := P1.below B; have lP1 := oP1.lt; have cP10 := oP1.c0; have cP11 := oP1.c1; have cP12 := oP1.c2; clear oP1
        have oT2 := T2.below B; have lT2 := oT2.lt; have cT20 := oT2.c0; have cT21 := oT2.c1; clear oT2
        go_wp2_with fail
        refine (mwhere_lt l0 x2 y2 true false 0 0 0 1 n0 c0 A0 (Mt.iff_tt HVal.out) HQ.out rfl HN.out HW.out _ (M0.below (B.alloc (by have := B.size; simp <;> omega) _))).mono ?_; rintro e w6 ⟨rfl, hb⟩
        have n_t_q : w3.heap.size < w5.heap.size := by have := t.lt; omega
        have nb_q : w0.heap.size ≤ w5.heap.size := by have := B.size; omega
        replace t := (t.alloc _).below hb
        have q := (At3.new _ (b1) (x1) (y1) _).below hb
        replace B := (B.alloc (by have := B.size; simp <;> omega) _).trans (hb.mono (by have := B.size; simp <;> omega))
        clear hb lP1 cP10 cP11 cP12 lT2 cT20 cT21
        have oT2 := T2.below B; have lT2 := oT2.lt; have cT20 := oT2.c0; have cT21 := oT2.c1; clear oT2
        go_wp2_with fail
        go_ret
        refine ⟨rfl, BASE.trans (Below.mono (B := w0.heap.size) ?_ BASE.size)⟩
        exact (B.alloc (by have := B.size; simp <;> omega) _)
      | true =>
        cases O with
        | none =>
          have HO : Hid (Mt.pC (true && true) (Mt.wh l0 (Mt.tk x2 y2)) = (0, 0, 0, 3)) := Lib.hid (by rw [hO]; rfl)
          clear hq hO
          go_enter Try.func4, Try.ntmps4
          go_wp2_with fail
          obtain ⟨w0, ew0⟩ : ∃ w0, ((w.alloc (.cells #[.int .i64 b1, .int .i64 x1, .int .i64 y1] 26)).alloc (.cells #[.int .i64 x2, .int .i64 y2] 24)) = w0 := ⟨_, rfl⟩
          have BASE : Below w.heap.size w w0 := by rw [← ew0]; exact (((Below.refl w.heap.size w).alloc (by first | exact Nat.le_refl _ | (simp <;> omega)) _).alloc (by first | exact Nat.le_refl _ | (simp <;> omega)) _)
          have P1 : At3 w0 (w.heap.size) b1 x1 y1 := by
            have h : At3 ((w.alloc (.cells #[.int .i64 b1, .int .i64 x1, .int .i64 y1] 26)).alloc (.cells #[.int .i64 x2, .int .i64 y2] 24)) w.heap.size b1 x1 y1 := ((At3.new w b1 x1 y1 26).alloc _)
            rw [ew0] at h
            simpa only [World.size_alloc] using h
          have T2 : At2 w0 (w.heap.size + 1) x2 y2 := by
            have h : At2 ((w.alloc (.cells #[.int .i64 b1, .int .i64 x1, .int .i64 y1] 26)).alloc (.cells #[.int .i64 x2, .int .i64 y2] 24)) (w.alloc (.cells #[.int .i64 b1, .int .i64 x1, .int .i64 y1] 26)).heap.size x2 y2 := (At2.new (w.alloc (.cells #[.int .i64 b1, .int .i64 x1, .int .i64 y1] 26)) x2 y2 24)
            rw [ew0] at h
            simpa only [World.size_alloc] using h
          have M0 : SlB w0 A0 l0 := by rw [← ew0]; exact ((L0.alloc _).alloc _)
          have hs0 : w0.heap.size = w.heap.size + 2 := by rw [← ew0]; simp
          rw [ew0]
          clear ew0
          clear L0
          have B := Below.refl w0.heap.size w0
          refine (head_any _).mono ?_; rintro e w1 ⟨rfl, hb⟩
          replace B := B.trans (hb.mono (by have := B.size; simp <;> omega))
          clear hb
          go_wp2_with fail
          refine (lusable_is l0 true n0 c0 A0 (Mt.iff_tt HU.out) HN.out _ (M0.below B)).mono ?_; rintro e w2 ⟨rfl, hb⟩
          replace B := B.trans (hb.mono (by have := B.size; simp <;> omega))
          clear hb
          have oP1 := P1.below B; have lP1 := oP1.lt; have cP10 := oP1.c0; have cP11 := oP1.c1; have cP12 := oP1.c2; clear oP1
          go_wp2_with fail
          refine (mtime_lt l0 b1 x1 y1 true true N D 0 n0 c0 A0 (Mt.iff_tt HVal.out) HP.out HR1.out HN.out HW.out _ (M0.below B)).mono ?_; rintro e w3 ⟨rfl, hb⟩
          replace B := B.trans (hb.mono (by have := B.size; simp <;> omega))
          clear hb lP1 cP10 cP11 cP12
          have oP1 := P1.below B; have lP1 := oP1.lt; have cP10 := oP1.c0; have cP11 := oP1.c1; have cP12 := oP1.c2; clear oP1
          go_wp2_with fail
          refine (kposition_is l0 b1 x1 y1 true n0 c0 A0 HP.out HN.out _ (M0.below (B.alloc (by have := B.size; simp <;> omega) _))).mono ?_; rintro e w4 ⟨rfl, hb⟩
          have nb_t : w0.heap.size ≤ w3.heap.size := by have := B.size; omega
          have t := (At2.new _ (N) (D) _).below hb
          replace B := (B.alloc (by have := B.size; simp <;> omega) _).trans (hb.mono (by have := B.size; simp <;> omega))
          clear hb lP1 cP10 cP11 cP12
          have lt := t.lt; have ct0 := t.c0; have ct1 := t.c1
          go_wp2_with fail
          refine (mwhere_lt l0 N D true true b1 x1 y1 0 n0 c0 A0 (Mt.iff_tt HVal.out) HD.out HR2.out HN.out HW.out _ (M0.below B)).mono ?_; rintro e w5 ⟨rfl, hb⟩
          replace t := t.below hb
          replace B := B.trans (hb.mono (by have := B.size; simp <;> omega))
          clear hb lt ct0 ct1
          have oP1 := P1.below B; have lP1 := oP1.lt; have cP10 := oP1.c0; have cP11 := oP1.c1; have cP12 := oP1.c2; clear oP1
          have oT2 := T2.below B; have lT2 := oT2.lt; have cT20 := oT2.c0; have cT21 := oT2.c1; clear oT2
          go_wp2_with fail
          refine (mwhere_lt l0 x2 y2 true true 0 0 0 3 n0 c0 A0 (Mt.iff_tt HVal.out) HQ.out HO.out HN.out HW.out _ (M0.below (B.alloc (by have := B.size; simp <;> omega) _))).mono ?_; rintro e w6 ⟨rfl, hb⟩
          have n_t_q : w3.heap.size < w5.heap.size := by have := t.lt; omega
          have nb_q : w0.heap.size ≤ w5.heap.size := by have := B.size; omega
          replace t := (t.alloc _).below hb
          have q := (At3.new _ (b1) (x1) (y1) _).below hb
          replace B := (B.alloc (by have := B.size; simp <;> omega) _).trans (hb.mono (by have := B.size; simp <;> omega))
          clear hb lP1 cP10 cP11 cP12 lT2 cT20 cT21
          have oT2 := T2.below B; have lT2 := oT2.lt; have cT20 := oT2.c0; have cT21 := oT2.c1; clear oT2
          go_wp2_with fail
          go_ret
          refine ⟨rfl, BASE.trans (Below.mono (B := w0.heap.size) ?_ BASE.size)⟩
          exact (B.alloc (by have := B.size; simp <;> omega) _)
        | some kt =>
          obtain ⟨k, t0⟩ := kt
          obtain ⟨p2, r3⟩ := Mt.back_2 HVal.out hO (of_decide_eq_true hq)
          obtain ⟨K, hK⟩ : ∃ K, (k : Int) = K := ⟨_, rfl⟩
          obtain ⟨U, hU⟩ : ∃ U, Mt.oN t0.toNat = U := ⟨_, rfl⟩
          obtain ⟨V, hV⟩ : ∃ V, Mt.oD t0.toNat = V := ⟨_, rfl⟩
          have HO : Hid (Mt.pC (true && true) (Mt.wh l0 (Mt.tk x2 y2)) = (K, U, V, 0)) := Lib.hid (by rw [hO, ← hK, ← hU, ← hV]; rfl)
          rw [hK, hU, hV] at p2 r3
          have HP2 := Lib.hid p2
          have HR3 := Lib.hid r3
          clear hq hO p2 r3 hK hU hV
          go_enter Try.func4, Try.ntmps4
          go_wp2_with fail
          obtain ⟨w0, ew0⟩ : ∃ w0, ((w.alloc (.cells #[.int .i64 b1, .int .i64 x1, .int .i64 y1] 26)).alloc (.cells #[.int .i64 x2, .int .i64 y2] 24)) = w0 := ⟨_, rfl⟩
          have BASE : Below w.heap.size w w0 := by rw [← ew0]; exact (((Below.refl w.heap.size w).alloc (by first | exact Nat.le_refl _ | (simp <;> omega)) _).alloc (by first | exact Nat.le_refl _ | (simp <;> omega)) _)
          have P1 : At3 w0 (w.heap.size) b1 x1 y1 := by
            have h : At3 ((w.alloc (.cells #[.int .i64 b1, .int .i64 x1, .int .i64 y1] 26)).alloc (.cells #[.int .i64 x2, .int .i64 y2] 24)) w.heap.size b1 x1 y1 := ((At3.new w b1 x1 y1 26).alloc _)
            rw [ew0] at h
            simpa only [World.size_alloc] using h
          have T2 : At2 w0 (w.heap.size + 1) x2 y2 := by
            have h : At2 ((w.alloc (.cells #[.int .i64 b1, .int .i64 x1, .int .i64 y1] 26)).alloc (.cells #[.int .i64 x2, .int .i64 y2] 24)) (w.alloc (.cells #[.int .i64 b1, .int .i64 x1, .int .i64 y1] 26)).heap.size x2 y2 := (At2.new (w.alloc (.cells #[.int .i64 b1, .int .i64 x1, .int .i64 y1] 26)) x2 y2 24)
            rw [ew0] at h
            simpa only [World.size_alloc] using h
          have M0 : SlB w0 A0 l0 := by rw [← ew0]; exact ((L0.alloc _).alloc _)
          have hs0 : w0.heap.size = w.heap.size + 2 := by rw [← ew0]; simp
          rw [ew0]
          clear ew0
          clear L0
          have B := Below.refl w0.heap.size w0
          refine (head_any _).mono ?_; rintro e w1 ⟨rfl, hb⟩
          replace B := B.trans (hb.mono (by have := B.size; simp <;> omega))
          clear hb
          go_wp2_with fail
          refine (lusable_is l0 true n0 c0 A0 (Mt.iff_tt HU.out) HN.out _ (M0.below B)).mono ?_; rintro e w2 ⟨rfl, hb⟩
          replace B := B.trans (hb.mono (by have := B.size; simp <;> omega))
          clear hb
          have oP1 := P1.below B; have lP1 := oP1.lt; have cP10 := oP1.c0; have cP11 := oP1.c1; have cP12 := oP1.c2; clear oP1
          go_wp2_with fail
          refine (mtime_lt l0 b1 x1 y1 true true N D 0 n0 c0 A0 (Mt.iff_tt HVal.out) HP.out HR1.out HN.out HW.out _ (M0.below B)).mono ?_; rintro e w3 ⟨rfl, hb⟩
          replace B := B.trans (hb.mono (by have := B.size; simp <;> omega))
          clear hb lP1 cP10 cP11 cP12
          have oP1 := P1.below B; have lP1 := oP1.lt; have cP10 := oP1.c0; have cP11 := oP1.c1; have cP12 := oP1.c2; clear oP1
          go_wp2_with fail
          refine (kposition_is l0 b1 x1 y1 true n0 c0 A0 HP.out HN.out _ (M0.below (B.alloc (by have := B.size; simp <;> omega) _))).mono ?_; rintro e w4 ⟨rfl, hb⟩
          have nb_t : w0.heap.size ≤ w3.heap.size := by have := B.size; omega
          have t := (At2.new _ (N) (D) _).below hb
          replace B := (B.alloc (by have := B.size; simp <;> omega) _).trans (hb.mono (by have := B.size; simp <;> omega))
          clear hb lP1 cP10 cP11 cP12
          have lt := t.lt; have ct0 := t.c0; have ct1 := t.c1
          go_wp2_with fail
          refine (mwhere_lt l0 N D true true b1 x1 y1 0 n0 c0 A0 (Mt.iff_tt HVal.out) HD.out HR2.out HN.out HW.out _ (M0.below B)).mono ?_; rintro e w5 ⟨rfl, hb⟩
          replace t := t.below hb
          replace B := B.trans (hb.mono (by have := B.size; simp <;> omega))
          clear hb lt ct0 ct1
          have oP1 := P1.below B; have lP1 := oP1.lt; have cP10 := oP1.c0; have cP11 := oP1.c1; have cP12 := oP1.c2; clear oP1
          have oT2 := T2.below B; have lT2 := oT2.lt; have cT20 := oT2.c0; have cT21 := oT2.c1; clear oT2
          go_wp2_with fail
          refine (mwhere_lt l0 x2 y2 true true K U V 0 n0 c0 A0 (Mt.iff_tt HVal.out) HQ.out HO.out HN.out HW.out _ (M0.below (B.alloc (by have := B.size; simp <;> omega) _))).mono ?_; rintro e w6 ⟨rfl, hb⟩
          have n_t_q : w3.heap.size < w5.heap.size := by have := t.lt; omega
          have nb_q : w0.heap.size ≤ w5.heap.size := by have := B.size; omega
          replace t := (t.alloc _).below hb
          have q := (At3.new _ (b1) (x1) (y1) _).below hb
          replace B := (B.alloc (by have := B.size; simp <;> omega) _).trans (hb.mono (by have := B.size; simp <;> omega))
          clear hb lP1 cP10 cP11 cP12 lT2 cT20 cT21
          have oT2 := T2.below B; have lT2 := oT2.lt; have cT20 := oT2.c0; have cT21 := oT2.c1; clear oT2
          go_wp2_with fail
          refine (mtime_lt l0 K U V true true x2 y2 0 n0 c0 A0 (Mt.iff_tt HVal.out) HP2.out HR3.out HN.out HW.out _ (M0.below (B.alloc (by have := B.size; simp <;> omega) _))).mono ?_; rintro e w7 ⟨rfl, hb⟩
          have n_t_x : w3.heap.size < w6.heap.size := by have := t.lt; omega
          have n_q_x : w5.heap.size < w6.heap.size := by have := q.lt; omega
          have nb_x : w0.heap.size ≤ w6.heap.size := by have := B.size; omega
          replace t := (t.alloc _).below hb
          replace q := (q.alloc _).below hb
          have x := (At3.new _ (K) (U) (V) _).below hb
          replace B := (B.alloc (by have := B.size; simp <;> omega) _).trans (hb.mono (by have := B.size; simp <;> omega))
          clear hb lT2 cT20 cT21
          have oT2 := T2.below B; have lT2 := oT2.lt; have cT20 := oT2.c0; have cT21 := oT2.c1; clear oT2
          go_wp2_with fail
          go_ret
          refine ⟨rfl, BASE.trans (Below.mono (B := w0.heap.size) ?_ BASE.size)⟩
          exact (B.alloc (by have := B.size; simp <;> omega) _)
end Go.Proofs.Ythamkigdpgajaaa
