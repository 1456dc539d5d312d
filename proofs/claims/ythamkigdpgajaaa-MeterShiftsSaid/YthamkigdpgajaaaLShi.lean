/- The walk of the law MeterShifts. -/
import Derived.Test.YthamkigdpgajaaaSv
import Derived.Test.YthamkigdpgajaaaPw
namespace Go.Proofs.Ythamkigdpgajaaa
open Go.RowKit
namespace Mt
theorem shifts_1 {l : List B} {b n d x y : Int} {k : Nat} {t : Int} (hval : Val l) (hp : posB l b n d = true) (h2 : (byT x y).isSome = true) (hO : shO l b n d x y = some (k, t)) :
    posB l (k : Int) (oN t.toNat) (oD t.toNat) = true ∧ before l (k : Int).toNat + tk (oN t.toNat) (oD t.toNat) = before l b.toNat + tk n d + (byT x y).getD 0 ∧ pC true (shO l (k : Int) (oN t.toNat) (oD t.toNat) (-x) y) = (b, n, d, 0) := by
  unfold shO at hO
  obtain ⟨hpos, he⟩ := wh_some (fun z hz => (hval.ok z hz).2.2.1) hO
  obtain ⟨hb0, ppos⟩ := posB_iff.1 hp
  have ht0 := hpos.2.1
  have ht1 : t ≤ 40320 := by
    by_cases hk : k < l.length
    · have := hpos.2.2.2 hk
      have := (hval.ok _ (List.getElem_mem hk)).2.2.2.1
      omega
    · have := hpos.2.2.1 (by have := hpos.1; omega)
      omega
  have ht : tk (oN t.toNat) (oD t.toNat) = t := by rw [tk_of (by omega)]; omega
  obtain ⟨n1, n2⟩ := byT_neg h2
  refine ⟨by rw [posB_iff, Int.toNat_natCast, ht]; exact ⟨by omega, hpos⟩, by rw [Int.toNat_natCast, ht, he], ?_⟩
  unfold shO
  rw [Int.toNat_natCast, ht, n2, he, show before l b.toNat + tk n d + (byT x y).getD 0 + -(byT x y).getD 0 = before l b.toNat + tk n d by omega, wh_pos (fun z hz => (hval.ok z hz).2.2.1) ppos]
  obtain ⟨e1, e2⟩ := of_tk (n := n) (d := d) (by have := ppos.2.1; omega)
  show (((b.toNat : Nat) : Int), oN (tk n d).toNat, oD (tk n d).toNat, (0 : Int)) = (b, n, d, 0)
  rw [e1, e2, Int.toNat_of_nonneg hb0]
theorem shifts_2 {l : List B} {b n d x y K U V u v C D : Int} (he : before l K.toNat + tk U V = before l b.toNat + tk n d + (byT x y).getD 0) (ha : (byT x y).isSome = true) (h : Rt.addR x y u v = (C, D, 0)) :
    pC (true && true && (byT C D).isSome) (shO l b n d C D) = pC (true && true && (byT u v).isSome) (shO l K U V u v) := by
  obtain ⟨h1, h2⟩ := byT_add ha h
  rw [h1]
  cases hb : (byT u v).isSome with
  | false => rfl
  | true =>
    unfold shO
    rw [h2 hb, he, ← Int.add_assoc]
theorem addR_lim {x y u v C D : Int} (h : Rt.addR x y u v = (C, D, 0)) : -9223372036854775808 ≤ C ∧ C ≤ 9223372036854775807 := by
  unfold Rt.addR at h
  cases hv : Rt.vld x y && Rt.vld u v with
  | false =>
    rw [hv] at h
    obtain ⟨e1, e2, e3⟩ := Rt.op_no (x * v + u * y) (y * v)
    rw [e1, e2, e3] at h
    simp at h
  | true =>
    rw [hv] at h
    obtain ⟨e1, e2, e3⟩ := Rt.op_yes (x * v + u * y) (y * v)
    rw [e1, e2, e3] at h
    simp only [Prod.mk.injEq] at h
    obtain ⟨hC, hD, hE⟩ := h
    have := Rt.vld_lim (Rt.red_ok hE).2.1
    rw [hC] at this
    omega
theorem shift_ok {l : List B} {b n d x y : Int} {X Y Z E : Int} (h : pC (true && true && (byT x y).isSome) (shO l b n d x y) = (X, Y, Z, E)) : (X = 0 ∧ Y = 0 ∧ Z = 0 ∧ E ≠ 0) ∨ (E = 0 ∧ (byT x y).isSome = true ∧ ∃ k t, shO l b n d x y = some (k, t) ∧ X = (k : Int) ∧ Y = oN t.toNat ∧ Z = oD t.toNat) := by
  cases hs : (byT x y).isSome with
  | false =>
    rw [hs] at h
    simp only [pC, Bool.and_false, Bool.false_eq_true, if_false, Prod.mk.injEq] at h
    obtain ⟨rfl, rfl, rfl, rfl⟩ := h
    exact .inl ⟨rfl, rfl, rfl, by decide⟩
  | true =>
    rw [hs] at h
    cases hO : shO l b n d x y with
    | none =>
      rw [hO] at h
      simp only [pC, Bool.and_self, if_true, pR, Prod.mk.injEq] at h
      obtain ⟨rfl, rfl, rfl, rfl⟩ := h
      exact .inl ⟨rfl, rfl, rfl, by decide⟩
    | some p =>
      obtain ⟨k, t⟩ := p
      rw [hO] at h
      simp only [pC, Bool.and_self, if_true, pR, Prod.mk.injEq] at h
      obtain ⟨rfl, rfl, rfl, rfl⟩ := h
      exact .inr ⟨rfl, rfl, k, t, rfl, rfl, rfl, rfl⟩
end Mt

set_option maxHeartbeats 1600000 in
theorem meterShifts_walk (A0 : Option Addr) (n0 c0 : Nat) (l0 : List Mt.B) (hl0 : l0.length = n0) (hw0 : Mt.Wf l0) (_hc0 : n0 ≤ c0) (b1 x1 y1 : Int) (x2 y2 : Int) (hx2 : -9223372036854775808 ≤ x2 ∧ x2 ≤ 9223372036854775807) (x3 y3 : Int) (hx3 : -9223372036854775808 ≤ x3 ∧ x3 ≤ 9223372036854775807) (w : World) (L0 : SlB w A0 l0) :
    Calls Try.prog 8 #[.slice A0 n0 c0, .agg #[.int .i64 b1, .int .i64 x1, .int .i64 y1], .agg #[.int .i64 x2, .int .i64 y2], .agg #[.int .i64 x3, .int .i64 y3]] w fun e w' => e = .returned (.bool true) ∧ Below w.heap.size w w' := by
  obtain ⟨f, hf⟩ : ∃ f : Bool, f = true ↔ (n0 ≤ 60 ∧ Mt.Val l0) := by classical exact ⟨decide (n0 ≤ 60 ∧ Mt.Val l0), by simp⟩
  have HN := Lib.hid hl0
  have HW := Lib.hid hw0
  cases f with
  | false =>
    have HU : Hid (¬ (n0 ≤ 60 ∧ Mt.Val l0)) := Lib.hid (fun h => by have := hf.2 h; cases this)
    clear hf hl0 hw0
    go_enter Try.func8, Try.ntmps8
    go_wp2_with fail
    obtain ⟨w0, ew0⟩ : ∃ w0, (((w.alloc (.cells #[.int .i64 b1, .int .i64 x1, .int .i64 y1] 26)).alloc (.cells #[.int .i64 x2, .int .i64 y2] 24)).alloc (.cells #[.int .i64 x3, .int .i64 y3] 24)) = w0 := ⟨_, rfl⟩
    have BASE : Below w.heap.size w w0 := by rw [← ew0]; exact ((((Below.refl w.heap.size w).alloc (by first | exact Nat.le_refl _ | (simp <;> omega)) _).alloc (by first | exact Nat.le_refl _ | (simp <;> omega)) _).alloc (by first | exact Nat.le_refl _ | (simp <;> omega)) _)
    have P1 : At3 w0 (w.heap.size) b1 x1 y1 := by
      have h : At3 (((w.alloc (.cells #[.int .i64 b1, .int .i64 x1, .int .i64 y1] 26)).alloc (.cells #[.int .i64 x2, .int .i64 y2] 24)).alloc (.cells #[.int .i64 x3, .int .i64 y3] 24)) w.heap.size b1 x1 y1 := (((At3.new w b1 x1 y1 26).alloc _).alloc _)
      rw [ew0] at h
      simpa only [World.size_alloc] using h
    have T2 : At2 w0 (w.heap.size + 1) x2 y2 := by
      have h : At2 (((w.alloc (.cells #[.int .i64 b1, .int .i64 x1, .int .i64 y1] 26)).alloc (.cells #[.int .i64 x2, .int .i64 y2] 24)).alloc (.cells #[.int .i64 x3, .int .i64 y3] 24)) (w.alloc (.cells #[.int .i64 b1, .int .i64 x1, .int .i64 y1] 26)).heap.size x2 y2 := ((At2.new (w.alloc (.cells #[.int .i64 b1, .int .i64 x1, .int .i64 y1] 26)) x2 y2 24).alloc _)
      rw [ew0] at h
      simpa only [World.size_alloc] using h
    have T3 : At2 w0 (w.heap.size + 2) x3 y3 := by
      have h : At2 (((w.alloc (.cells #[.int .i64 b1, .int .i64 x1, .int .i64 y1] 26)).alloc (.cells #[.int .i64 x2, .int .i64 y2] 24)).alloc (.cells #[.int .i64 x3, .int .i64 y3] 24)) ((w.alloc (.cells #[.int .i64 b1, .int .i64 x1, .int .i64 y1] 26)).alloc (.cells #[.int .i64 x2, .int .i64 y2] 24)).heap.size x3 y3 := (At2.new ((w.alloc (.cells #[.int .i64 b1, .int .i64 x1, .int .i64 y1] 26)).alloc (.cells #[.int .i64 x2, .int .i64 y2] 24)) x3 y3 24)
      rw [ew0] at h
      simpa only [World.size_alloc] using h
    have M0 : SlB w0 A0 l0 := by rw [← ew0]; exact (((L0.alloc _).alloc _).alloc _)
    have hs0 : w0.heap.size = w.heap.size + 3 := by rw [← ew0]; simp
    rw [ew0]
    clear ew0
    clear L0
    have B := Below.refl w0.heap.size w0
    refine (head_any _).mono ?_; rintro e w1 ⟨rfl, hb⟩
    replace B := B.trans (hb.mono (by have := B.size; simp <;> omega))
    clear hb
    go_wp2_with fail
    refine (lusable_is l0 false n0 c0 A0 (Mt.iff_ff HU.out) HN.out _ (M0.below B)).mono ?_; rintro e w2 ⟨rfl, hb⟩
    replace B := B.trans (hb.mono (by have := B.size; simp <;> omega))
    clear hb
    go_wp2_with fail
    go_ret
    refine ⟨rfl, BASE.trans (Below.mono (B := w0.heap.size) ?_ BASE.size)⟩
    exact B
  | true =>
    have HU := Lib.hid (hf.1 rfl)
    have HVal := Lib.hid (hf.1 rfl).2
    have HX2 := Lib.hid hx2
    have HX3 := Lib.hid hx3
    obtain ⟨p, hp⟩ : ∃ p, Mt.posB l0 b1 x1 y1 = p := ⟨_, rfl⟩
    have HP := Lib.hid hp
    clear hf hl0 hw0 hx2 hx3
    cases p with
    | false =>
      clear hp
      go_enter Try.func8, Try.ntmps8
      go_wp2_with fail
      obtain ⟨w0, ew0⟩ : ∃ w0, (((w.alloc (.cells #[.int .i64 b1, .int .i64 x1, .int .i64 y1] 26)).alloc (.cells #[.int .i64 x2, .int .i64 y2] 24)).alloc (.cells #[.int .i64 x3, .int .i64 y3] 24)) = w0 := ⟨_, rfl⟩
      have BASE : Below w.heap.size w w0 := by rw [← ew0]; exact ((((Below.refl w.heap.size w).alloc (by first | exact Nat.le_refl _ | (simp <;> omega)) _).alloc (by first | exact Nat.le_refl _ | (simp <;> omega)) _).alloc (by first | exact Nat.le_refl _ | (simp <;> omega)) _)
      have P1 : At3 w0 (w.heap.size) b1 x1 y1 := by
        have h : At3 (((w.alloc (.cells #[.int .i64 b1, .int .i64 x1, .int .i64 y1] 26)).alloc (.cells #[.int .i64 x2, .int .i64 y2] 24)).alloc (.cells #[.int .i64 x3, .int .i64 y3] 24)) w.heap.size b1 x1 y1 := (((At3.new w b1 x1 y1 26).alloc _).alloc _)
        rw [ew0] at h
        simpa only [World.size_alloc] using h
      have T2 : At2 w0 (w.heap.size + 1) x2 y2 := by
        have h : At2 (((w.alloc (.cells #[.int .i64 b1, .int .i64 x1, .int .i64 y1] 26)).alloc (.cells #[.int .i64 x2, .int .i64 y2] 24)).alloc (.cells #[.int .i64 x3, .int .i64 y3] 24)) (w.alloc (.cells #[.int .i64 b1, .int .i64 x1, .int .i64 y1] 26)).heap.size x2 y2 := ((At2.new (w.alloc (.cells #[.int .i64 b1, .int .i64 x1, .int .i64 y1] 26)) x2 y2 24).alloc _)
        rw [ew0] at h
        simpa only [World.size_alloc] using h
      have T3 : At2 w0 (w.heap.size + 2) x3 y3 := by
        have h : At2 (((w.alloc (.cells #[.int .i64 b1, .int .i64 x1, .int .i64 y1] 26)).alloc (.cells #[.int .i64 x2, .int .i64 y2] 24)).alloc (.cells #[.int .i64 x3, .int .i64 y3] 24)) ((w.alloc (.cells #[.int .i64 b1, .int .i64 x1, .int .i64 y1] 26)).alloc (.cells #[.int .i64 x2, .int .i64 y2] 24)).heap.size x3 y3 := (At2.new ((w.alloc (.cells #[.int .i64 b1, .int .i64 x1, .int .i64 y1] 26)).alloc (.cells #[.int .i64 x2, .int .i64 y2] 24)) x3 y3 24)
        rw [ew0] at h
        simpa only [World.size_alloc] using h
      have M0 : SlB w0 A0 l0 := by rw [← ew0]; exact (((L0.alloc _).alloc _).alloc _)
      have hs0 : w0.heap.size = w.heap.size + 3 := by rw [← ew0]; simp
      rw [ew0]
      clear ew0
      clear L0
      have B := Below.refl w0.heap.size w0
      refine (head_any _).mono ?_; rintro e w1 ⟨rfl, hb⟩
      replace B := B.trans (hb.mono (by have := B.size; simp <;> omega))
      clear hb
      go_wp2_with fail
      refine (lusable_is l0 true n0 c0 A0 (Mt.iff_tt HU.out) HN.out _ (M0.below B)).mono ?_; rintro e w2 ⟨rfl, hb⟩
      replace B := B.trans (hb.mono (by have := B.size; simp <;> omega))
      clear hb
      have oP1 := P1.below B; have lP1 := oP1.lt; have cP10 := oP1.c0; have cP11 := oP1.c1; have cP12 := oP1.c2; clear oP1
      go_wp2_with fail
      refine (kposition_is l0 b1 x1 y1 false n0 c0 A0 HP.out HN.out _ (M0.below B)).mono ?_; rintro e w3 ⟨rfl, hb⟩
      replace B := B.trans (hb.mono (by have := B.size; simp <;> omega))
      clear hb lP1 cP10 cP11 cP12
      go_wp2_with fail
      go_ret
      refine ⟨rfl, BASE.trans (Below.mono (B := w0.heap.size) ?_ BASE.size)⟩
      exact B
    | true =>
      obtain ⟨⟨K, U, V, E⟩, h1⟩ : ∃ r, Mt.pC (true && true && (Mt.byT x2 y2).isSome) (Mt.shO l0 b1 x1 y1 x2 y2) = r := ⟨_, rfl⟩
      have H1 := Lib.hid h1
      rcases Mt.shift_ok h1 with ⟨rfl, rfl, rfl, hE⟩ | ⟨rfl, hsome, k, t, hO, rK, rU, rV⟩
      · have hEn : (E != 0) = true := by simpa using hE
        clear hp h1 hE
        go_enter Try.func8, Try.ntmps8
        go_wp2_with fail
        obtain ⟨w0, ew0⟩ : ∃ w0, (((w.alloc (.cells #[.int .i64 b1, .int .i64 x1, .int .i64 y1] 26)).alloc (.cells #[.int .i64 x2, .int .i64 y2] 24)).alloc (.cells #[.int .i64 x3, .int .i64 y3] 24)) = w0 := ⟨_, rfl⟩
        have BASE : Below w.heap.size w w0 := by rw [← ew0]; exact ((((Below.refl w.heap.size w).alloc (by first | exact Nat.le_refl _ | (simp <;> omega)) _).alloc (by first | exact Nat.le_refl _ | (simp <;> omega)) _).alloc (by first | exact Nat.le_refl _ | (simp <;> omega)) _)
        have P1 : At3 w0 (w.heap.size) b1 x1 y1 := by
          have h : At3 (((w.alloc (.cells #[.int .i64 b1, .int .i64 x1, .int .i64 y1] 26)).alloc (.cells #[.int .i64 x2, .int .i64 y2] 24)).alloc (.cells #[.int .i64 x3, .int .i64 y3] 24)) w.heap.size b1 x1 y1 := (((At3.new w b1 x1 y1 26).alloc _).alloc _)
          rw [ew0] at h
          simpa only [World.size_alloc] using h
        have T2 : At2 w0 (w.heap.size + 1) x2 y2 := by
          have h : At2 (((w.alloc (.cells #[.int .i64 b1, .int .i64 x1, .int .i64 y1] 26)).alloc (.cells #[.int .i64 x2, .int .i64 y2] 24)).alloc (.cells #[.int .i64 x3, .int .i64 y3] 24)) (w.alloc (.cells #[.int .i64 b1, .int .i64 x1, .int .i64 y1] 26)).heap.size x2 y2 := ((At2.new (w.alloc (.cells #[.int .i64 b1, .int .i64 x1, .int .i64 y1] 26)) x2 y2 24).alloc _)
          rw [ew0] at h
          simpa only [World.size_alloc] using h
        have T3 : At2 w0 (w.heap.size + 2) x3 y3 := by
          have h : At2 (((w.alloc (.cells #[.int .i64 b1, .int .i64 x1, .int .i64 y1] 26)).alloc (.cells #[.int .i64 x2, .int .i64 y2] 24)).alloc (.cells #[.int .i64 x3, .int .i64 y3] 24)) ((w.alloc (.cells #[.int .i64 b1, .int .i64 x1, .int .i64 y1] 26)).alloc (.cells #[.int .i64 x2, .int .i64 y2] 24)).heap.size x3 y3 := (At2.new ((w.alloc (.cells #[.int .i64 b1, .int .i64 x1, .int .i64 y1] 26)).alloc (.cells #[.int .i64 x2, .int .i64 y2] 24)) x3 y3 24)
          rw [ew0] at h
          simpa only [World.size_alloc] using h
        have M0 : SlB w0 A0 l0 := by rw [← ew0]; exact (((L0.alloc _).alloc _).alloc _)
        have hs0 : w0.heap.size = w.heap.size + 3 := by rw [← ew0]; simp
        rw [ew0]
        clear ew0
        clear L0
        have B := Below.refl w0.heap.size w0
        refine (head_any _).mono ?_; rintro e w1 ⟨rfl, hb⟩
        replace B := B.trans (hb.mono (by have := B.size; simp <;> omega))
        clear hb
        go_wp2_with fail
        refine (lusable_is l0 true n0 c0 A0 (Mt.iff_tt HU.out) HN.out _ (M0.below B)).mono ?_; rintro e w2 ⟨rfl, hb⟩
        replace B := B.trans (hb.mono (by have := B.size; simp <;> omega))
        clear hb
        have oP1 := P1.below B; have lP1 := oP1.lt; have cP10 := oP1.c0; have cP11 := oP1.c1; have cP12 := oP1.c2; clear oP1
        go_wp2_with fail
        refine (kposition_is l0 b1 x1 y1 true n0 c0 A0 HP.out HN.out _ (M0.below B)).mono ?_; rintro e w3 ⟨rfl, hb⟩
        replace B := B.trans (hb.mono (by have := B.size; simp <;> omega))
        clear hb lP1 cP10 cP11 cP12
        have oP1 := P1.below B; have lP1 := oP1.lt; have cP10 := oP1.c0; have cP11 := oP1.c1; have cP12 := oP1.c2; clear oP1
        have oT2 := T2.below B; have lT2 := oT2.lt; have cT20 := oT2.c0; have cT21 := oT2.c1; clear oT2
        go_wp2_with fail
        refine (mshift_lt l0 b1 x1 y1 x2 y2 true true _ 0 0 0 E n0 c0 A0 (Mt.iff_tt HVal.out) HP.out rfl H1.out HN.out HW.out HX2.out _ (M0.below B)).mono ?_; rintro e w4 ⟨rfl, hb⟩
        replace B := B.trans (hb.mono (by have := B.size; simp <;> omega))
        clear hb lP1 cP10 cP11 cP12 lT2 cT20 cT21
        go_wp2_with fail
        go_ret
        refine ⟨rfl, BASE.trans (Below.mono (B := w0.heap.size) ?_ BASE.size)⟩
        exact (B.alloc (by have := B.size; simp <;> omega) _)
      · obtain ⟨p2, he, hback⟩ := Mt.shifts_1 HVal.out hp hsome hO
        obtain ⟨_, u2, u3, _⟩ := Mt.byT_units hsome
        rw [← rK, ← rU, ← rV] at p2 he hback
        have HP2 := Lib.hid p2
        have HB := Lib.hid (show Mt.pC (true && true && (Mt.byT (-x2) y2).isSome) (Mt.shO l0 K U V (-x2) y2) = (b1, x1, y1, 0) by rw [(Mt.byT_neg hsome).1]; exact hback)
        obtain ⟨⟨X, Y, Z, G⟩, h2⟩ : ∃ r, Mt.pC (true && true && (Mt.byT x3 y3).isSome) (Mt.shO l0 K U V x3 y3) = r := ⟨_, rfl⟩
        have H2 := Lib.hid h2
        obtain ⟨⟨C, D, H⟩, h3⟩ : ∃ r, Rt.addR x2 y2 x3 y3 = r := ⟨_, rfl⟩
        have H3 := Lib.hid h3
        have HXn : Hid (-9223372036854775808 ≤ -x2 ∧ -x2 ≤ 9223372036854775807) := Lib.hid (by omega)
        have hwr : IntKind.i64.wrap (-x2) = -x2 := by rw [IntKind.wrap_i64]; omega
        by_cases hH : H = 0
        · subst hH
          have H4 := Lib.hid ((Mt.shifts_2 (l := l0) (b := b1) (n := x1) (d := y1) he hsome h3).trans h2)
          have HC := Lib.hid (Mt.addR_lim h3)
          clear hp h1 hsome hO rK rU rV p2 he hback h2 h3
          go_enter Try.func8, Try.ntmps8
          go_wp2_with fail
          obtain ⟨w0, ew0⟩ : ∃ w0, (((w.alloc (.cells #[.int .i64 b1, .int .i64 x1, .int .i64 y1] 26)).alloc (.cells #[.int .i64 x2, .int .i64 y2] 24)).alloc (.cells #[.int .i64 x3, .int .i64 y3] 24)) = w0 := ⟨_, rfl⟩
          have BASE : Below w.heap.size w w0 := by rw [← ew0]; exact ((((Below.refl w.heap.size w).alloc (by first | exact Nat.le_refl _ | (simp <;> omega)) _).alloc (by first | exact Nat.le_refl _ | (simp <;> omega)) _).alloc (by first | exact Nat.le_refl _ | (simp <;> omega)) _)
          have P1 : At3 w0 (w.heap.size) b1 x1 y1 := by
            have h : At3 (((w.alloc (.cells #[.int .i64 b1, .int .i64 x1, .int .i64 y1] 26)).alloc (.cells #[.int .i64 x2, .int .i64 y2] 24)).alloc (.cells #[.int .i64 x3, .int .i64 y3] 24)) w.heap.size b1 x1 y1 := (((At3.new w b1 x1 y1 26).alloc _).alloc _)
            rw [ew0] at h
            simpa only [World.size_alloc] using h
          have T2 : At2 w0 (w.heap.size + 1) x2 y2 := by
            have h : At2 (((w.alloc (.cells #[.int .i64 b1, .int .i64 x1, .int .i64 y1] 26)).alloc (.cells #[.int .i64 x2, .int .i64 y2] 24)).alloc (.cells #[.int .i64 x3, .int .i64 y3] 24)) (w.alloc (.cells #[.int .i64 b1, .int .i64 x1, .int .i64 y1] 26)).heap.size x2 y2 := ((At2.new (w.alloc (.cells #[.int .i64 b1, .int .i64 x1, .int .i64 y1] 26)) x2 y2 24).alloc _)
            rw [ew0] at h
            simpa only [World.size_alloc] using h
          have T3 : At2 w0 (w.heap.size + 2) x3 y3 := by
            have h : At2 (((w.alloc (.cells #[.int .i64 b1, .int .i64 x1, .int .i64 y1] 26)).alloc (.cells #[.int .i64 x2, .int .i64 y2] 24)).alloc (.cells #[.int .i64 x3, .int .i64 y3] 24)) ((w.alloc (.cells #[.int .i64 b1, .int .i64 x1, .int .i64 y1] 26)).alloc (.cells #[.int .i64 x2, .int .i64 y2] 24)).heap.size x3 y3 := (At2.new ((w.alloc (.cells #[.int .i64 b1, .int .i64 x1, .int .i64 y1] 26)).alloc (.cells #[.int .i64 x2, .int .i64 y2] 24)) x3 y3 24)
            rw [ew0] at h
            simpa only [World.size_alloc] using h
          have M0 : SlB w0 A0 l0 := by rw [← ew0]; exact (((L0.alloc _).alloc _).alloc _)
          have hs0 : w0.heap.size = w.heap.size + 3 := by rw [← ew0]; simp
          rw [ew0]
          clear ew0
          clear L0
          have B := Below.refl w0.heap.size w0
          refine (head_any _).mono ?_; rintro e w1 ⟨rfl, hb⟩
          replace B := B.trans (hb.mono (by have := B.size; simp <;> omega))
          clear hb
          go_wp2_with fail
          refine (lusable_is l0 true n0 c0 A0 (Mt.iff_tt HU.out) HN.out _ (M0.below B)).mono ?_; rintro e w2 ⟨rfl, hb⟩
          replace B := B.trans (hb.mono (by have := B.size; simp <;> omega))
          clear hb
          have oP1 := P1.below B; have lP1 := oP1.lt; have cP10 := oP1.c0; have cP11 := oP1.c1; have cP12 := oP1.c2; clear oP1
          go_wp2_with fail
          refine (kposition_is l0 b1 x1 y1 true n0 c0 A0 HP.out HN.out _ (M0.below B)).mono ?_; rintro e w3 ⟨rfl, hb⟩
          replace B := B.trans (hb.mono (by have := B.size; simp <;> omega))
          clear hb lP1 cP10 cP11 cP12
          have oP1 := P1.below B; have lP1 := oP1.lt; have cP10 := oP1.c0; have cP11 := oP1.c1; have cP12 := oP1.c2; clear oP1
          have oT2 := T2.below B; have lT2 := oT2.lt; have cT20 := oT2.c0; have cT21 := oT2.c1; clear oT2
          go_wp2_with fail
          refine (mshift_lt l0 b1 x1 y1 x2 y2 true true _ K U V 0 n0 c0 A0 (Mt.iff_tt HVal.out) HP.out rfl H1.out HN.out HW.out HX2.out _ (M0.below B)).mono ?_; rintro e w4 ⟨rfl, hb⟩
          replace B := B.trans (hb.mono (by have := B.size; simp <;> omega))
          clear hb lP1 cP10 cP11 cP12 lT2 cT20 cT21
          go_wp2_with fail
          have B8 : Below w0.heap.size w0 (w4.alloc (.cells #[.int .i64 K, .int .i64 U, .int .i64 V] 26)) := (B.alloc (by have := B.size; simp <;> omega) _)
          have nb_qv : w0.heap.size ≤ w4.heap.size := B.size
          have qv : At3 (w4.alloc (.cells #[.int .i64 K, .int .i64 U, .int .i64 V] 26)) w4.heap.size K U V := At3.new _ _ _ _ _
          clear B
          obtain ⟨w8, ew8⟩ : ∃ x, w4.alloc (.cells #[.int .i64 K, .int .i64 U, .int .i64 V] 26) = x := ⟨_, rfl⟩
          rw [ew8] at B8 qv ⊢
          clear ew8
          have B := B8
          clear B8
          have oqv := qv
          have xqv0 := fun x : PvW (mkC3 w8 b1 x1 y1) => (x.h.1.cell (p := ⟨w4.heap.size, 0, none⟩) oqv.lt).trans oqv.c0
          have xqv1 := fun x : PvW (mkC3 w8 b1 x1 y1) => (x.h.1.cell (p := ⟨w4.heap.size, 1, none⟩) oqv.lt).trans oqv.c1
          have xqv2 := fun x : PvW (mkC3 w8 b1 x1 y1) => (x.h.1.cell (p := ⟨w4.heap.size, 2, none⟩) oqv.lt).trans oqv.c2
          have oT2 := T2.below B
          have xT20 := fun x : PvW (mkC3 w8 b1 x1 y1) => (x.h.1.cell (p := ⟨w.heap.size + 1, 0, none⟩) oT2.lt).trans oT2.c0
          have xT21 := fun x : PvW (mkC3 w8 b1 x1 y1) => (x.h.1.cell (p := ⟨w.heap.size + 1, 1, none⟩) oT2.lt).trans oT2.c1
          have HM8 := Lib.hid (M0.below B)
          have BW_w8 := B.size
          have hne : Nonempty (PvW (mkC3 w8 b1 x1 y1)) := PvW.there (w := w8.drew) ⟨(Below.refl _ _).drew, trivial⟩
          refine region_pv (V := fun f _ => if f = 24 then .agg #[.int .i64 (-x2), .int .i64 y2] else .tuple #[.agg #[.int .i64 b1, .int .i64 x1, .int .i64 y1], .int .i64 0]) (cs := [12, 13]) (Cv := (mkC3 w8 b1 x1 y1)) 14 (by kernel_rfl) (by kernel_rfl) (by kernel_rfl) ⟨(Below.refl _ _).drew, trivial⟩ ?_
          simp only [List.take_succ_cons, List.take_zero, List.drop_succ_cons, List.drop_zero]
          iterate 7 (refine pv_quiet (by decide) rfl rfl ?_; intro K' hK'; go_big_quiet_op; go_big_quiet_on)
          refine pv_kept (f := 24) (args := #[.int .i64 (-x2), .int .i64 y2]) (by decide) (.agg #[.int .i64 (-x2), .int .i64 y2]) rfl (fun vs' w' hw' => ?_) rfl (fun vs' w' hw' => ?_) ?_
          · simp [go_sem]
          · refine (lrat_is (-x2) y2 _).mono ?_
            rintro e wz ⟨rfl, hbz⟩
            exact ⟨rfl, hw'.below hbz⟩
          simp only [Act.put, List.setIfInBounds_toArray, List.set_cons_succ, List.set_cons_zero]
          refine pv_kept (f := 19) (args := #[.slice A0 n0 c0, .agg #[.int .i64 K, .int .i64 U, .int .i64 V], .agg #[.int .i64 (-x2), .int .i64 y2]]) (by decide) (.tuple #[.agg #[.int .i64 b1, .int .i64 x1, .int .i64 y1], .int .i64 0]) rfl (fun vs' w' hw' => ?_) rfl (fun vs' w' hw' => ?_) ?_
          · simp [go_sem]
          · refine (mshift_lt l0 K U V (-x2) y2 true true _ b1 x1 y1 0 n0 c0 A0 (Mt.iff_tt HVal.out) HP2.out rfl HB.out HN.out HW.out HXn.out _ (HM8.out.below hw'.1)).mono ?_
            rintro e wz ⟨rfl, hbz⟩
            exact ⟨rfl, hw'.below hbz⟩
          simp only [Act.put, List.setIfInBounds_toArray, List.set_cons_succ, List.set_cons_zero]
          iterate 3 (refine pv_quiet (by decide) rfl rfl ?_; intro K' hK'; go_big_quiet_op; go_big_quiet_on)
          refine pv_made rfl rfl (fun w' hw' => ⟨.pointer (some ⟨w'.heap.size, 0, none⟩), w'.alloc (.cells #[.int .i64 0, .int .i64 0, .int .i64 0] 26), ?_, hw'.1.alloc hw'.1.size _, _, rfl, hw'.1.size, Var3.new _ _ _ _ _⟩) ?_
          · go_simp
          rintro _ ⟨_, _, g, rfl, _, _⟩
          simp only [Act.put, List.setIfInBounds_toArray, List.set_cons_succ, List.set_cons_zero]
          refine pv_stored rfl rfl (fun w' hw' => ?_) ?_
          · obtain ⟨hb', g', e', hg', hV'⟩ := hw'
            cases e'
            refine ⟨(((w'.setCell ⟨g, 0, none⟩ (.int .i64 b1)).setCell ⟨g, 1, none⟩ (.int .i64 x1)).setCell ⟨g, 2, none⟩ (.int .i64 y1)), ?_, (((hb'.setCell (p := ⟨g, 0, none⟩) hg' _).setCell (p := ⟨g, 1, none⟩) hg' _).setCell (p := ⟨g, 2, none⟩) hg' _), g, rfl, hg', hV'.put _ _ _⟩
            have l0 := hV'.at3.lt
            have v0 := hV'.at3.c0
            have f0 := hV'.f0
            have v1 := hV'.at3.c1
            have f1 := hV'.f1
            have v2 := hV'.at3.c2
            have f2 := hV'.f2
            go_simp
          rintro _ ⟨_, _, _, _, _, _⟩
          simp only [Act.put]
          rintro w9 ⟨hb, g', e', hg, hV⟩
          cases e'
          have n_qv_bv : w4.heap.size < g := Nat.lt_of_lt_of_le qv.lt hg
          replace qv := qv.below hb
          replace B := B.trans (hb.mono B.size)
          have bv := hV.at3
          clear hb hV hne xqv0 xqv1 xqv2 xT20 xT21 oqv oT2
          have nb_bv : w0.heap.size ≤ g := by have := BW_w8; omega
          have lqv := qv.lt; have cqv0 := qv.c0; have cqv1 := qv.c1; have cqv2 := qv.c2
          have oT3 := T3.below B; have lT3 := oT3.lt; have cT30 := oT3.c0; have cT31 := oT3.c1; clear oT3
          go_wp2_with fail
          refine (mshift_lt l0 K U V x3 y3 true true _ X Y Z G n0 c0 A0 (Mt.iff_tt HVal.out) HP2.out rfl H2.out HN.out HW.out HX3.out _ (M0.below B)).mono ?_; rintro e w10 ⟨rfl, hb⟩
          replace qv := qv.below hb
          replace bv := bv.below hb
          replace B := B.trans (hb.mono (by have := B.size; simp <;> omega))
          clear hb lqv cqv0 cqv1 cqv2 lT3 cT30 cT31
          have oT2 := T2.below B; have lT2 := oT2.lt; have cT20 := oT2.c0; have cT21 := oT2.c1; clear oT2
          have oT3 := T3.below B; have lT3 := oT3.lt; have cT30 := oT3.c0; have cT31 := oT3.c1; clear oT3
          go_wp2_with fail
          refine (add_is x2 y2 x3 y3 C D 0 H3.out _).mono ?_; rintro e w11 ⟨rfl, hb⟩
          have n_qv_xv : w4.heap.size < w10.heap.size := by have := qv.lt; omega
          have n_bv_xv : g < w10.heap.size := by have := bv.lt; omega
          have nb_xv : w0.heap.size ≤ w10.heap.size := by have := B.size; omega
          replace qv := (qv.alloc _).below hb
          replace bv := (bv.alloc _).below hb
          have xv := (At3.new _ (X) (Y) (Z) _).below hb
          replace B := (B.alloc (by have := B.size; simp <;> omega) _).trans (hb.mono (by have := B.size; simp <;> omega))
          clear hb lT2 cT20 cT21 lT3 cT30 cT31
          have lbv := bv.lt; have cbv0 := bv.c0; have cbv1 := bv.c1; have cbv2 := bv.c2
          have oP1 := P1.below B; have lP1 := oP1.lt; have cP10 := oP1.c0; have cP11 := oP1.c1; have cP12 := oP1.c2; clear oP1
          go_wp2_with fail
          refine (mshift_lt l0 b1 x1 y1 C D true true _ X Y Z G n0 c0 A0 (Mt.iff_tt HVal.out) HP.out rfl H4.out HN.out HW.out HC.out _ (M0.below (B.alloc (by have := B.size; simp <;> omega) _))).mono ?_; rintro e w12 ⟨rfl, hb⟩
          have n_qv_cv : w4.heap.size < w11.heap.size := by have := qv.lt; omega
          have n_bv_cv : g < w11.heap.size := by have := bv.lt; omega
          have n_xv_cv : w10.heap.size < w11.heap.size := by have := xv.lt; omega
          have nb_cv : w0.heap.size ≤ w11.heap.size := by have := B.size; omega
          replace qv := (qv.alloc _).below hb
          replace bv := (bv.alloc _).below hb
          replace xv := (xv.alloc _).below hb
          have cv := (At2.new _ (C) (D) _).below hb
          replace B := (B.alloc (by have := B.size; simp <;> omega) _).trans (hb.mono (by have := B.size; simp <;> omega))
          clear hb lbv cbv0 cbv1 cbv2 lP1 cP10 cP11 cP12
          have lxv := xv.lt; have cxv0 := xv.c0; have cxv1 := xv.c1; have cxv2 := xv.c2
          go_wp2_with fail
          go_ret
          refine ⟨rfl, BASE.trans (Below.mono (B := w0.heap.size) ?_ BASE.size)⟩
          exact (B.alloc (by have := B.size; simp <;> omega) _)
        · have hHn : (H != 0) = true := by simpa using hH
          clear hp h1 hsome hO rK rU rV p2 he hback h2 h3 hH
          go_enter Try.func8, Try.ntmps8
          go_wp2_with fail
          obtain ⟨w0, ew0⟩ : ∃ w0, (((w.alloc (.cells #[.int .i64 b1, .int .i64 x1, .int .i64 y1] 26)).alloc (.cells #[.int .i64 x2, .int .i64 y2] 24)).alloc (.cells #[.int .i64 x3, .int .i64 y3] 24)) = w0 := ⟨_, rfl⟩
          have BASE : Below w.heap.size w w0 := by rw [← ew0]; exact ((((Below.refl w.heap.size w).alloc (by first | exact Nat.le_refl _ | (simp <;> omega)) _).alloc (by first | exact Nat.le_refl _ | (simp <;> omega)) _).alloc (by first | exact Nat.le_refl _ | (simp <;> omega)) _)
          have P1 : At3 w0 (w.heap.size) b1 x1 y1 := by
            have h : At3 (((w.alloc (.cells #[.int .i64 b1, .int .i64 x1, .int .i64 y1] 26)).alloc (.cells #[.int .i64 x2, .int .i64 y2] 24)).alloc (.cells #[.int .i64 x3, .int .i64 y3] 24)) w.heap.size b1 x1 y1 := (((At3.new w b1 x1 y1 26).alloc _).alloc _)
            rw [ew0] at h
            simpa only [World.size_alloc] using h
          have T2 : At2 w0 (w.heap.size + 1) x2 y2 := by
            have h : At2 (((w.alloc (.cells #[.int .i64 b1, .int .i64 x1, .int .i64 y1] 26)).alloc (.cells #[.int .i64 x2, .int .i64 y2] 24)).alloc (.cells #[.int .i64 x3, .int .i64 y3] 24)) (w.alloc (.cells #[.int .i64 b1, .int .i64 x1, .int .i64 y1] 26)).heap.size x2 y2 := ((At2.new (w.alloc (.cells #[.int .i64 b1, .int .i64 x1, .int .i64 y1] 26)) x2 y2 24).alloc _)
            rw [ew0] at h
            simpa only [World.size_alloc] using h
          have T3 : At2 w0 (w.heap.size + 2) x3 y3 := by
            have h : At2 (((w.alloc (.cells #[.int .i64 b1, .int .i64 x1, .int .i64 y1] 26)).alloc (.cells #[.int .i64 x2, .int .i64 y2] 24)).alloc (.cells #[.int .i64 x3, .int .i64 y3] 24)) ((w.alloc (.cells #[.int .i64 b1, .int .i64 x1, .int .i64 y1] 26)).alloc (.cells #[.int .i64 x2, .int .i64 y2] 24)).heap.size x3 y3 := (At2.new ((w.alloc (.cells #[.int .i64 b1, .int .i64 x1, .int .i64 y1] 26)).alloc (.cells #[.int .i64 x2, .int .i64 y2] 24)) x3 y3 24)
            rw [ew0] at h
            simpa only [World.size_alloc] using h
          have M0 : SlB w0 A0 l0 := by rw [← ew0]; exact (((L0.alloc _).alloc _).alloc _)
          have hs0 : w0.heap.size = w.heap.size + 3 := by rw [← ew0]; simp
          rw [ew0]
          clear ew0
          clear L0
          have B := Below.refl w0.heap.size w0
          refine (head_any _).mono ?_; rintro e w1 ⟨rfl, hb⟩
          replace B := B.trans (hb.mono (by have := B.size; simp <;> omega))
          clear hb
          go_wp2_with fail
          refine (lusable_is l0 true n0 c0 A0 (Mt.iff_tt HU.out) HN.out _ (M0.below B)).mono ?_; rintro e w2 ⟨rfl, hb⟩
          replace B := B.trans (hb.mono (by have := B.size; simp <;> omega))
          clear hb
          have oP1 := P1.below B; have lP1 := oP1.lt; have cP10 := oP1.c0; have cP11 := oP1.c1; have cP12 := oP1.c2; clear oP1
          go_wp2_with fail
          refine (kposition_is l0 b1 x1 y1 true n0 c0 A0 HP.out HN.out _ (M0.below B)).mono ?_; rintro e w3 ⟨rfl, hb⟩
          replace B := B.trans (hb.mono (by have := B.size; simp <;> omega))
          clear hb lP1 cP10 cP11 cP12
          have oP1 := P1.below B; have lP1 := oP1.lt; have cP10 := oP1.c0; have cP11 := oP1.c1; have cP12 := oP1.c2; clear oP1
          have oT2 := T2.below B; have lT2 := oT2.lt; have cT20 := oT2.c0; have cT21 := oT2.c1; clear oT2
          go_wp2_with fail
          refine (mshift_lt l0 b1 x1 y1 x2 y2 true true _ K U V 0 n0 c0 A0 (Mt.iff_tt HVal.out) HP.out rfl H1.out HN.out HW.out HX2.out _ (M0.below B)).mono ?_; rintro e w4 ⟨rfl, hb⟩
          replace B := B.trans (hb.mono (by have := B.size; simp <;> omega))
          clear hb lP1 cP10 cP11 cP12 lT2 cT20 cT21
          go_wp2_with fail
          have B8 : Below w0.heap.size w0 (w4.alloc (.cells #[.int .i64 K, .int .i64 U, .int .i64 V] 26)) := (B.alloc (by have := B.size; simp <;> omega) _)
          have nb_qv : w0.heap.size ≤ w4.heap.size := B.size
          have qv : At3 (w4.alloc (.cells #[.int .i64 K, .int .i64 U, .int .i64 V] 26)) w4.heap.size K U V := At3.new _ _ _ _ _
          clear B
          obtain ⟨w8, ew8⟩ : ∃ x, w4.alloc (.cells #[.int .i64 K, .int .i64 U, .int .i64 V] 26) = x := ⟨_, rfl⟩
          rw [ew8] at B8 qv ⊢
          clear ew8
          have B := B8
          clear B8
          have oqv := qv
          have xqv0 := fun x : PvW (mkC3 w8 b1 x1 y1) => (x.h.1.cell (p := ⟨w4.heap.size, 0, none⟩) oqv.lt).trans oqv.c0
          have xqv1 := fun x : PvW (mkC3 w8 b1 x1 y1) => (x.h.1.cell (p := ⟨w4.heap.size, 1, none⟩) oqv.lt).trans oqv.c1
          have xqv2 := fun x : PvW (mkC3 w8 b1 x1 y1) => (x.h.1.cell (p := ⟨w4.heap.size, 2, none⟩) oqv.lt).trans oqv.c2
          have oT2 := T2.below B
          have xT20 := fun x : PvW (mkC3 w8 b1 x1 y1) => (x.h.1.cell (p := ⟨w.heap.size + 1, 0, none⟩) oT2.lt).trans oT2.c0
          have xT21 := fun x : PvW (mkC3 w8 b1 x1 y1) => (x.h.1.cell (p := ⟨w.heap.size + 1, 1, none⟩) oT2.lt).trans oT2.c1
          have HM8 := Lib.hid (M0.below B)
          have BW_w8 := B.size
          have hne : Nonempty (PvW (mkC3 w8 b1 x1 y1)) := PvW.there (w := w8.drew) ⟨(Below.refl _ _).drew, trivial⟩
          refine region_pv (V := fun f _ => if f = 24 then .agg #[.int .i64 (-x2), .int .i64 y2] else .tuple #[.agg #[.int .i64 b1, .int .i64 x1, .int .i64 y1], .int .i64 0]) (cs := [12, 13]) (Cv := (mkC3 w8 b1 x1 y1)) 14 (by kernel_rfl) (by kernel_rfl) (by kernel_rfl) ⟨(Below.refl _ _).drew, trivial⟩ ?_
          simp only [List.take_succ_cons, List.take_zero, List.drop_succ_cons, List.drop_zero]
          iterate 7 (refine pv_quiet (by decide) rfl rfl ?_; intro K' hK'; go_big_quiet_op; go_big_quiet_on)
          refine pv_kept (f := 24) (args := #[.int .i64 (-x2), .int .i64 y2]) (by decide) (.agg #[.int .i64 (-x2), .int .i64 y2]) rfl (fun vs' w' hw' => ?_) rfl (fun vs' w' hw' => ?_) ?_
          · simp [go_sem]
          · refine (lrat_is (-x2) y2 _).mono ?_
            rintro e wz ⟨rfl, hbz⟩
            exact ⟨rfl, hw'.below hbz⟩
          simp only [Act.put, List.setIfInBounds_toArray, List.set_cons_succ, List.set_cons_zero]
          refine pv_kept (f := 19) (args := #[.slice A0 n0 c0, .agg #[.int .i64 K, .int .i64 U, .int .i64 V], .agg #[.int .i64 (-x2), .int .i64 y2]]) (by decide) (.tuple #[.agg #[.int .i64 b1, .int .i64 x1, .int .i64 y1], .int .i64 0]) rfl (fun vs' w' hw' => ?_) rfl (fun vs' w' hw' => ?_) ?_
          · simp [go_sem]
          · refine (mshift_lt l0 K U V (-x2) y2 true true _ b1 x1 y1 0 n0 c0 A0 (Mt.iff_tt HVal.out) HP2.out rfl HB.out HN.out HW.out HXn.out _ (HM8.out.below hw'.1)).mono ?_
            rintro e wz ⟨rfl, hbz⟩
            exact ⟨rfl, hw'.below hbz⟩
          simp only [Act.put, List.setIfInBounds_toArray, List.set_cons_succ, List.set_cons_zero]
          iterate 3 (refine pv_quiet (by decide) rfl rfl ?_; intro K' hK'; go_big_quiet_op; go_big_quiet_on)
          refine pv_made rfl rfl (fun w' hw' => ⟨.pointer (some ⟨w'.heap.size, 0, none⟩), w'.alloc (.cells #[.int .i64 0, .int .i64 0, .int .i64 0] 26), ?_, hw'.1.alloc hw'.1.size _, _, rfl, hw'.1.size, Var3.new _ _ _ _ _⟩) ?_
          · go_simp
          rintro _ ⟨_, _, g, rfl, _, _⟩
          simp only [Act.put, List.setIfInBounds_toArray, List.set_cons_succ, List.set_cons_zero]
          refine pv_stored rfl rfl (fun w' hw' => ?_) ?_
          · obtain ⟨hb', g', e', hg', hV'⟩ := hw'
            cases e'
            refine ⟨(((w'.setCell ⟨g, 0, none⟩ (.int .i64 b1)).setCell ⟨g, 1, none⟩ (.int .i64 x1)).setCell ⟨g, 2, none⟩ (.int .i64 y1)), ?_, (((hb'.setCell (p := ⟨g, 0, none⟩) hg' _).setCell (p := ⟨g, 1, none⟩) hg' _).setCell (p := ⟨g, 2, none⟩) hg' _), g, rfl, hg', hV'.put _ _ _⟩
            have l0 := hV'.at3.lt
            have v0 := hV'.at3.c0
            have f0 := hV'.f0
            have v1 := hV'.at3.c1
            have f1 := hV'.f1
            have v2 := hV'.at3.c2
            have f2 := hV'.f2
            go_simp
          rintro _ ⟨_, _, _, _, _, _⟩
          simp only [Act.put]
          rintro w9 ⟨hb, g', e', hg, hV⟩
          cases e'
          have n_qv_bv : w4.heap.size < g := Nat.lt_of_lt_of_le qv.lt hg
          replace qv := qv.below hb
          replace B := B.trans (hb.mono B.size)
          have bv := hV.at3
          clear hb hV hne xqv0 xqv1 xqv2 xT20 xT21 oqv oT2
          have nb_bv : w0.heap.size ≤ g := by have := BW_w8; omega
          have lqv := qv.lt; have cqv0 := qv.c0; have cqv1 := qv.c1; have cqv2 := qv.c2
          have oT3 := T3.below B; have lT3 := oT3.lt; have cT30 := oT3.c0; have cT31 := oT3.c1; clear oT3
          go_wp2_with fail
          refine (mshift_lt l0 K U V x3 y3 true true _ X Y Z G n0 c0 A0 (Mt.iff_tt HVal.out) HP2.out rfl H2.out HN.out HW.out HX3.out _ (M0.below B)).mono ?_; rintro e w10 ⟨rfl, hb⟩
          replace qv := qv.below hb
          replace bv := bv.below hb
          replace B := B.trans (hb.mono (by have := B.size; simp <;> omega))
          clear hb lqv cqv0 cqv1 cqv2 lT3 cT30 cT31
          have oT2 := T2.below B; have lT2 := oT2.lt; have cT20 := oT2.c0; have cT21 := oT2.c1; clear oT2
          have oT3 := T3.below B; have lT3 := oT3.lt; have cT30 := oT3.c0; have cT31 := oT3.c1; clear oT3
          go_wp2_with fail
          refine (add_is x2 y2 x3 y3 C D H H3.out _).mono ?_; rintro e w11 ⟨rfl, hb⟩
          have n_qv_xv : w4.heap.size < w10.heap.size := by have := qv.lt; omega
          have n_bv_xv : g < w10.heap.size := by have := bv.lt; omega
          have nb_xv : w0.heap.size ≤ w10.heap.size := by have := B.size; omega
          replace qv := (qv.alloc _).below hb
          replace bv := (bv.alloc _).below hb
          have xv := (At3.new _ (X) (Y) (Z) _).below hb
          replace B := (B.alloc (by have := B.size; simp <;> omega) _).trans (hb.mono (by have := B.size; simp <;> omega))
          clear hb lT2 cT20 cT21 lT3 cT30 cT31
          have lbv := bv.lt; have cbv0 := bv.c0; have cbv1 := bv.c1; have cbv2 := bv.c2
          have oP1 := P1.below B; have lP1 := oP1.lt; have cP10 := oP1.c0; have cP11 := oP1.c1; have cP12 := oP1.c2; clear oP1
          go_wp2_with fail
          go_ret
          refine ⟨rfl, BASE.trans (Below.mono (B := w0.heap.size) ?_ BASE.size)⟩
          exact (B.alloc (by have := B.size; simp <;> omega) _)
end Go.Proofs.Ythamkigdpgajaaa
