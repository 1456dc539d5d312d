/- The walk of the law MeterParts. -/
import Derived.Test.YthamkigdpgajaaaNl
import Derived.Test.YthamkigdpgajaaaPw
namespace Go.Proofs.Ythamkigdpgajaaa
open Go.RowKit
namespace Mt
theorem atB_take {l : List B} {k i : Nat} (h : i < k) : atB (l.take k) i = atB l i := by unfold atB; rw [List.getElem?_take, if_pos h]
theorem atB_drop (l : List B) (k i : Nat) : atB (l.drop k) i = atB l (k + i) := by unfold atB; rw [List.getElem?_drop]
theorem val_take {l : List B} {k : Nat} (hval : Val l) (h1 : 1 ≤ k) (h2 : k ≤ l.length) : Val (l.take k) := by
  have hl : (l.take k).length = k := by rw [List.length_take]; omega
  refine ⟨by omega, by have := hval.2.1; omega, fun j hj => ?_, fun i j hi hj => ?_⟩
  · rw [hl] at hj; rw [atB_take hj]; exact hval.2.2.1 j (by omega)
  · rw [hl] at hi; rw [atB_take hi, atB_take (by omega)]; exact hval.2.2.2 i j (by omega) hj
theorem val_drop {l : List B} {k : Nat} (hval : Val l) (h2 : k < l.length) : Val (l.drop k) := by
  have hl : (l.drop k).length = l.length - k := List.length_drop
  refine ⟨by omega, by have := hval.2.1; omega, fun j hj => ?_, fun i j hi hj => ?_⟩
  · rw [atB_drop]; exact hval.2.2.1 _ (by omega)
  · rw [atB_drop, atB_drop]; exact hval.2.2.2 _ _ (by omega) (by omega)
theorem val_wf {l : List B} (hval : Val l) : Wf l := fun j hj => by
  obtain ⟨h1, h2, _⟩ := hval.2.2.1 j hj
  exact ⟨by omega, by omega⟩
theorem before_take {l : List B} {k i : Nat} (h : i ≤ k) : before (l.take k) i = before l i := by unfold before; rw [List.take_take, Nat.min_eq_left h]
theorem before_all (l : List B) (k : Nat) : before l l.length = before l k + before (l.drop k) (l.drop k).length := by
  unfold before
  rw [List.take_length, List.take_length]
  conv => lhs; rw [← List.take_append_drop k l]
  rw [List.map_append, List.sum_append]
theorem parts_1 {l : List B} {k : Nat} (hval : Val l) (h1 : 1 ≤ k) (h2 : k < l.length) : ∃ N D N' D' X Y, rR true (totN (l.take k)) (totD (l.take k)) = (N, D, 0) ∧ rR true (totN (l.drop k)) (totD (l.drop k)) = (N', D', 0) ∧ rR true (totN l) (totD l) = (X, Y, 0) ∧ Rt.addR N D N' D' = (X, Y, 0) := by
  have hl : (l.take k).length = k := by rw [List.length_take]; omega
  have hb := before_bounds hval.ok k (by omega)
  have hd := before_bounds (val_drop hval h2).ok (l.drop k).length (Nat.le_refl _)
  have hl4 := hval.2.1
  have hdl : (l.drop k).length = l.length - k := List.length_drop
  obtain ⟨u, hu⟩ := Int.eq_ofNat_of_zero_le hb.1
  obtain ⟨v, hv⟩ := Int.eq_ofNat_of_zero_le hd.1
  have ha := before_all l k
  rw [hu, hv] at ha
  refine ⟨oN u, oD u, oN v, oD v, oN (u + v), oD (u + v), ?_, ?_, ?_, add_of (by omega)⟩
  · unfold totN totD; rw [hl, before_take (Nat.le_refl _), hu]; rfl
  · unfold totN totD; rw [hv]; rfl
  · unfold totN totD; rw [ha, show ((u : Int) + (v : Int)).toNat = u + v by omega]; rfl
theorem parts_2 {l : List B} {k : Nat} {b n d : Int} (hval : Val l) (h2 : k < l.length) (hp : posB (l.take k) b n d = true) :
    posB l b n d = true ∧ before (l.take k) b.toNat + tk n d = before l b.toNat + tk n d := by
  have hl : (l.take k).length = k := by rw [List.length_take]; omega
  obtain ⟨hb0, p1, p2, p3, p4⟩ := posB_iff.1 hp
  rw [hl] at p1 p3
  refine ⟨posB_iff.2 ⟨hb0, by omega, p2, fun e => by omega, fun hb => ?_⟩, by rw [before_take p1]⟩
  by_cases hk : b.toNat < k
  · have := p4 (by omega)
    rw [List.getElem_take] at this
    exact this
  · have := p3 (by omega)
    have := (hval.ok _ (List.getElem_mem hb)).2.2.1
    omega
end Mt
theorem SlB.drop2 {w : World} {b o : Nat} {l : List Mt.B} (h : SlB w (some ⟨b, o, none⟩) l) (k : Nat) : SlB w (some ⟨b, o + k * 4, none⟩) (l.drop k) := by
  have h2 := h.drop k
  rwa [Option.map_some, baddr_off] at h2

set_option maxHeartbeats 1600000 in
theorem meterParts_walk (A0 : Option Addr) (n0 c0 : Nat) (l0 : List Mt.B) (hl0 : l0.length = n0) (hw0 : Mt.Wf l0) (_hc0 : n0 ≤ c0) (a1 : Int) (ha1 : 0 ≤ a1 ∧ a1 < 256) (b2 x2 y2 : Int) (w : World) (L0 : SlB w A0 l0) :
    Calls Try.prog 7 #[.slice A0 n0 c0, .int .u8 a1, .agg #[.int .i64 b2, .int .i64 x2, .int .i64 y2]] w fun e w' => e = .returned (.bool true) ∧ Below w.heap.size w w' := by
  obtain ⟨f, hf⟩ : ∃ f : Bool, f = true ↔ (n0 ≤ 60 ∧ Mt.Val l0) := by classical exact ⟨decide (n0 ≤ 60 ∧ Mt.Val l0), by simp⟩
  have HN := Lib.hid hl0
  have HW := Lib.hid hw0
  cases f with
  | false =>
    have HU : Hid (¬ (n0 ≤ 60 ∧ Mt.Val l0)) := Lib.hid (fun h => by have := hf.2 h; cases this)
    clear hf hl0 hw0 ha1
    go_enter Try.func7, Try.ntmps7
    go_wp2_with fail
    obtain ⟨w0, ew0⟩ : ∃ w0, (w.alloc (.cells #[.int .i64 b2, .int .i64 x2, .int .i64 y2] 26)) = w0 := ⟨_, rfl⟩
    have BASE : Below w.heap.size w w0 := by rw [← ew0]; exact ((Below.refl w.heap.size w).alloc (by first | exact Nat.le_refl _ | (simp <;> omega)) _)
    have P2 : At3 w0 (w.heap.size) b2 x2 y2 := by
      have h : At3 (w.alloc (.cells #[.int .i64 b2, .int .i64 x2, .int .i64 y2] 26)) w.heap.size b2 x2 y2 := (At3.new w b2 x2 y2 26)
      rw [ew0] at h
      simpa only [World.size_alloc] using h
    have M0 : SlB w0 A0 l0 := by rw [← ew0]; exact (L0.alloc _)
    have hs0 : w0.heap.size = w.heap.size + 1 := by rw [← ew0]; simp
    rw [ew0]
    clear ew0
    clear L0
    have B := Below.refl w0.heap.size w0
    refine (head_any _).mono ?_; rintro e w1 ⟨rfl, hb⟩
    replace B := B.trans (hb.mono (by have := B.size; simp <;> omega))
    clear hb
    go_wp2_with fail
    refine (lusable_is l0 false n0 c0 A0 (Mt.iff_ff HU.out) HN.out _ (M0.below B)).mono ?_; rintro e w2 ⟨rfl, hb⟩
    replace B := B.trans (hb.mono (by have := B.size; simp <;> omega))
    clear hb
    go_wp2_with fail
    go_ret
    refine ⟨rfl, BASE.trans (Below.mono (B := w0.heap.size) ?_ BASE.size)⟩
    exact B
  | true =>
    have HU := Lib.hid (hf.1 rfl)
    have HVal := Lib.hid (hf.1 rfl).2
    by_cases h2 : n0 < 2
    · have h2' : (n0 : Int) < 2 := by omega
      clear hf hl0 hw0 ha1
      go_enter Try.func7, Try.ntmps7
      go_wp2_with fail
      obtain ⟨w0, ew0⟩ : ∃ w0, (w.alloc (.cells #[.int .i64 b2, .int .i64 x2, .int .i64 y2] 26)) = w0 := ⟨_, rfl⟩
      have BASE : Below w.heap.size w w0 := by rw [← ew0]; exact ((Below.refl w.heap.size w).alloc (by first | exact Nat.le_refl _ | (simp <;> omega)) _)
      have P2 : At3 w0 (w.heap.size) b2 x2 y2 := by
        have h : At3 (w.alloc (.cells #[.int .i64 b2, .int .i64 x2, .int .i64 y2] 26)) w.heap.size b2 x2 y2 := (At3.new w b2 x2 y2 26)
        rw [ew0] at h
        simpa only [World.size_alloc] using h
      have M0 : SlB w0 A0 l0 := by rw [← ew0]; exact (L0.alloc _)
      have hs0 : w0.heap.size = w.heap.size + 1 := by rw [← ew0]; simp
      rw [ew0]
      clear ew0
      clear L0
      have B := Below.refl w0.heap.size w0
      refine (head_any _).mono ?_; rintro e w1 ⟨rfl, hb⟩
      replace B := B.trans (hb.mono (by have := B.size; simp <;> omega))
      clear hb
      go_wp2_with fail
      refine (lusable_is l0 true n0 c0 A0 (Mt.iff_tt HU.out) HN.out _ (M0.below B)).mono ?_; rintro e w2 ⟨rfl, hb⟩
      replace B := B.trans (hb.mono (by have := B.size; simp <;> omega))
      clear hb
      go_wp2_with fail
      go_ret
      refine ⟨rfl, BASE.trans (Below.mono (B := w0.heap.size) ?_ BASE.size)⟩
      exact B
    have h2' : ¬ (n0 : Int) < 2 := by omega
    obtain ⟨j, hj⟩ : ∃ j, a1.toNat % (n0 - 1) = j := ⟨_, rfl⟩
    have hjn : j < n0 - 1 := by rw [← hj]; exact Nat.mod_lt _ (by omega)
    have hjv : a1 % ((n0 : Int) - 1) = (j : Int) := by rw [← hj, Int.natCast_emod, Int.toNat_of_nonneg ha1.1]; congr 1; omega
    have hjt : a1.tmod ((n0 : Int) - 1) = (j : Int) := by rw [Int.tmod_eq_emod_of_nonneg ha1.1]; exact hjv
    have hnz : ¬ (n0 : Int) - 1 = 0 := by omega
    have hne0 : ((n0 : Int) - 1 == 0) = false := by simp; omega
    have hn60 : n0 ≤ 60 := HU.out.1
    have ha10 := ha1.1
    have ha11 := ha1.2
    obtain ⟨N, D, N', D', X, Y, r1, r2, r3, r4⟩ := Mt.parts_1 (k := 1 + j) HVal.out (by omega) (by omega)
    have HR1 := Lib.hid r1
    have HR2 := Lib.hid r2
    have HR3 := Lib.hid r3
    have HR4 := Lib.hid r4
    have HVT := Lib.hid (Mt.val_take (k := 1 + j) HVal.out (by omega) (by omega))
    have HVD := Lib.hid (Mt.val_drop (k := 1 + j) HVal.out (by omega))
    have HTL : Hid ((l0.take (1 + j)).length = 1 + j) := Lib.hid (by rw [List.length_take]; omega)
    have HDL : Hid ((l0.drop (1 + j)).length = n0 - (1 + j)) := Lib.hid (by rw [List.length_drop]; omega)
    obtain ⟨p, hp⟩ : ∃ p, Mt.posB (l0.take (1 + j)) b2 x2 y2 = p := ⟨_, rfl⟩
    have HP := Lib.hid hp
    obtain ⟨bb, off, rfl, _⟩ := L0 (by omega)
    clear r1 r2 r3 r4
    cases p with
    | false =>
      clear hf hl0 hw0 ha1 hj hp
      go_enter Try.func7, Try.ntmps7
      go_wp2_with fail
      obtain ⟨w0, ew0⟩ : ∃ w0, (w.alloc (.cells #[.int .i64 b2, .int .i64 x2, .int .i64 y2] 26)) = w0 := ⟨_, rfl⟩
      have BASE : Below w.heap.size w w0 := by rw [← ew0]; exact ((Below.refl w.heap.size w).alloc (by first | exact Nat.le_refl _ | (simp <;> omega)) _)
      have P2 : At3 w0 (w.heap.size) b2 x2 y2 := by
        have h : At3 (w.alloc (.cells #[.int .i64 b2, .int .i64 x2, .int .i64 y2] 26)) w.heap.size b2 x2 y2 := (At3.new w b2 x2 y2 26)
        rw [ew0] at h
        simpa only [World.size_alloc] using h
      have M0 : SlB w0 (some ⟨bb, off, none⟩) l0 := by rw [← ew0]; exact (L0.alloc _)
      have hs0 : w0.heap.size = w.heap.size + 1 := by rw [← ew0]; simp
      rw [ew0]
      clear ew0
      clear L0
      have B := Below.refl w0.heap.size w0
      refine (head_any _).mono ?_; rintro e w1 ⟨rfl, hb⟩
      replace B := B.trans (hb.mono (by have := B.size; simp <;> omega))
      clear hb
      go_wp2_with fail
      refine (lusable_is l0 true n0 c0 _ (Mt.iff_tt HU.out) HN.out _ (M0.below B)).mono ?_; rintro e w2 ⟨rfl, hb⟩
      replace B := B.trans (hb.mono (by have := B.size; simp <;> omega))
      clear hb
      go_wp2_with fail
      refine (mtotal_lt (l0.take (1 + j)) true N D 0 (1 + j) c0 _ (Mt.iff_tt HVT.out) HR1.out HTL.out (Mt.val_wf HVT.out) _ (SlB.take (M0.below B) _)).mono ?_; rintro e w3 ⟨rfl, hb⟩
      replace B := B.trans (hb.mono (by have := B.size; simp <;> omega))
      clear hb
      go_wp2_with fail
      refine (mtotal_lt (l0.drop (1 + j)) true N' D' 0 (n0 - (1 + j)) (c0 - (1 + j)) (some ⟨bb, off + (1 + j) * 4, none⟩) (Mt.iff_tt HVD.out) HR2.out HDL.out (Mt.val_wf HVD.out) _ (SlB.drop2 (M0.below (B.alloc (by have := B.size; simp <;> omega) _)) _)).mono ?_; rintro e w4 ⟨rfl, hb⟩
      have nb_a : w0.heap.size ≤ w3.heap.size := by have := B.size; omega
      have a := (At2.new _ (N) (D) _).below hb
      replace B := (B.alloc (by have := B.size; simp <;> omega) _).trans (hb.mono (by have := B.size; simp <;> omega))
      clear hb
      go_wp2_with fail
      refine (mtotal_lt l0 true X Y 0 n0 c0 _ (Mt.iff_tt HVal.out) HR3.out HN.out HW.out _ (M0.below (B.alloc (by have := B.size; simp <;> omega) _))).mono ?_; rintro e w5 ⟨rfl, hb⟩
      have n_a_b : w3.heap.size < w4.heap.size := by have := a.lt; omega
      have nb_b : w0.heap.size ≤ w4.heap.size := by have := B.size; omega
      replace a := (a.alloc _).below hb
      have b := (At2.new _ (N') (D') _).below hb
      replace B := (B.alloc (by have := B.size; simp <;> omega) _).trans (hb.mono (by have := B.size; simp <;> omega))
      clear hb
      have la := a.lt; have ca0 := a.c0; have ca1 := a.c1
      have lb := b.lt; have cb0 := b.c0; have cb1 := b.c1
      go_wp2_with fail
      refine (add_is N D N' D' X Y 0 HR4.out _).mono ?_; rintro e w6 ⟨rfl, hb⟩
      have n_a_c : w3.heap.size < w5.heap.size := by have := a.lt; omega
      have n_b_c : w4.heap.size < w5.heap.size := by have := b.lt; omega
      have nb_c : w0.heap.size ≤ w5.heap.size := by have := B.size; omega
      replace a := (a.alloc _).below hb
      replace b := (b.alloc _).below hb
      have c := (At2.new _ (X) (Y) _).below hb
      replace B := (B.alloc (by have := B.size; simp <;> omega) _).trans (hb.mono (by have := B.size; simp <;> omega))
      clear hb la ca0 ca1 lb cb0 cb1
      have la := a.lt; have ca0 := a.c0; have ca1 := a.c1
      have lb := b.lt; have cb0 := b.c0; have cb1 := b.c1
      have lc := c.lt; have cc0 := c.c0; have cc1 := c.c1
      go_wp2_with fail
      clear la ca0 ca1 lb cb0 cb1 lc cc0 cc1
      have B8 : Below w0.heap.size w0 (w6.alloc (.cells #[.int .i64 X, .int .i64 Y] 24)) := (B.alloc (by have := B.size; simp <;> omega) _)
      clear B a b c
      obtain ⟨w8, ew8⟩ : ∃ x, w6.alloc (.cells #[.int .i64 X, .int .i64 Y] 24) = x := ⟨_, rfl⟩
      rw [ew8] at B8 ⊢
      clear ew8
      have B := B8
      clear B8
      have oP2 := P2.below B
      have xP20 := fun x : Ext w8 => x.cell oP2.c0
      have xP21 := fun x : Ext w8 => x.cell oP2.c1
      have xP22 := fun x : Ext w8 => x.cell oP2.c2
      have hne := Ext.there w8
      have HM8 := Lib.hid (M0.below B)
      refine Ext.region (by kernel_rfl) (by kernel_rfl) ?_
      repeat (go_big_quiet_step ((go_at_call 22; with_reducible exact Ext.call _ (kposition_is (l0.take (1 + j)) b2 x2 y2 false (1 + j) c0 _ HP.out HTL.out _ ((HM8.out.take (1 + j)).below (Ext.h _))))))
      refine wpQuiet_nil ?_
      rintro _ ⟨xw, rfl⟩
      replace B := B.trans (xw.h.mono B.size)
      clear hne xP20 xP21 xP22 oP2
      generalize xw.w = w9 at *
      clear xw
      go_wp2_with fail
      go_ret
      refine ⟨rfl, BASE.trans (Below.mono (B := w0.heap.size) ?_ BASE.size)⟩
      exact B
    | true =>
      obtain ⟨hp2, he⟩ := Mt.parts_2 HVal.out (by omega) hp
      obtain ⟨⟨U, V, E⟩, hR⟩ : ∃ r, Mt.rR (true && true) (Mt.oN (Mt.before l0 b2.toNat + Mt.tk x2 y2).toNat) (Mt.oD (Mt.before l0 b2.toNat + Mt.tk x2 y2).toNat) = r := ⟨_, rfl⟩
      obtain rfl : E = 0 := by have e := congrArg (fun z => z.2.2) hR; exact e.symm
      have HR5 := Lib.hid hR
      rw [← he] at hR
      have HR6 := Lib.hid hR
      have HP2 := Lib.hid hp2
      clear hp2 he hR
      clear hf hl0 hw0 ha1 hj hp
      go_enter Try.func7, Try.ntmps7
      go_wp2_with fail
      obtain ⟨w0, ew0⟩ : ∃ w0, (w.alloc (.cells #[.int .i64 b2, .int .i64 x2, .int .i64 y2] 26)) = w0 := ⟨_, rfl⟩
      have BASE : Below w.heap.size w w0 := by rw [← ew0]; exact ((Below.refl w.heap.size w).alloc (by first | exact Nat.le_refl _ | (simp <;> omega)) _)
      have P2 : At3 w0 (w.heap.size) b2 x2 y2 := by
        have h : At3 (w.alloc (.cells #[.int .i64 b2, .int .i64 x2, .int .i64 y2] 26)) w.heap.size b2 x2 y2 := (At3.new w b2 x2 y2 26)
        rw [ew0] at h
        simpa only [World.size_alloc] using h
      have M0 : SlB w0 (some ⟨bb, off, none⟩) l0 := by rw [← ew0]; exact (L0.alloc _)
      have hs0 : w0.heap.size = w.heap.size + 1 := by rw [← ew0]; simp
      rw [ew0]
      clear ew0
      clear L0
      have B := Below.refl w0.heap.size w0
      refine (head_any _).mono ?_; rintro e w1 ⟨rfl, hb⟩
      replace B := B.trans (hb.mono (by have := B.size; simp <;> omega))
      clear hb
      go_wp2_with fail
      refine (lusable_is l0 true n0 c0 _ (Mt.iff_tt HU.out) HN.out _ (M0.below B)).mono ?_; rintro e w2 ⟨rfl, hb⟩
      replace B := B.trans (hb.mono (by have := B.size; simp <;> omega))
      clear hb
      go_wp2_with fail
      refine (mtotal_lt (l0.take (1 + j)) true N D 0 (1 + j) c0 _ (Mt.iff_tt HVT.out) HR1.out HTL.out (Mt.val_wf HVT.out) _ (SlB.take (M0.below B) _)).mono ?_; rintro e w3 ⟨rfl, hb⟩
      replace B := B.trans (hb.mono (by have := B.size; simp <;> omega))
      clear hb
      go_wp2_with fail
      refine (mtotal_lt (l0.drop (1 + j)) true N' D' 0 (n0 - (1 + j)) (c0 - (1 + j)) (some ⟨bb, off + (1 + j) * 4, none⟩) (Mt.iff_tt HVD.out) HR2.out HDL.out (Mt.val_wf HVD.out) _ (SlB.drop2 (M0.below (B.alloc (by have := B.size; simp <;> omega) _)) _)).mono ?_; rintro e w4 ⟨rfl, hb⟩
      have nb_a : w0.heap.size ≤ w3.heap.size := by have := B.size; omega
      have a := (At2.new _ (N) (D) _).below hb
      replace B := (B.alloc (by have := B.size; simp <;> omega) _).trans (hb.mono (by have := B.size; simp <;> omega))
      clear hb
      go_wp2_with fail
      refine (mtotal_lt l0 true X Y 0 n0 c0 _ (Mt.iff_tt HVal.out) HR3.out HN.out HW.out _ (M0.below (B.alloc (by have := B.size; simp <;> omega) _))).mono ?_; rintro e w5 ⟨rfl, hb⟩
      have n_a_b : w3.heap.size < w4.heap.size := by have := a.lt; omega
      have nb_b : w0.heap.size ≤ w4.heap.size := by have := B.size; omega
      replace a := (a.alloc _).below hb
      have b := (At2.new _ (N') (D') _).below hb
      replace B := (B.alloc (by have := B.size; simp <;> omega) _).trans (hb.mono (by have := B.size; simp <;> omega))
      clear hb
      have la := a.lt; have ca0 := a.c0; have ca1 := a.c1
      have lb := b.lt; have cb0 := b.c0; have cb1 := b.c1
      go_wp2_with fail
      refine (add_is N D N' D' X Y 0 HR4.out _).mono ?_; rintro e w6 ⟨rfl, hb⟩
      have n_a_c : w3.heap.size < w5.heap.size := by have := a.lt; omega
      have n_b_c : w4.heap.size < w5.heap.size := by have := b.lt; omega
      have nb_c : w0.heap.size ≤ w5.heap.size := by have := B.size; omega
      replace a := (a.alloc _).below hb
      replace b := (b.alloc _).below hb
      have c := (At2.new _ (X) (Y) _).below hb
      replace B := (B.alloc (by have := B.size; simp <;> omega) _).trans (hb.mono (by have := B.size; simp <;> omega))
      clear hb la ca0 ca1 lb cb0 cb1
      have la := a.lt; have ca0 := a.c0; have ca1 := a.c1
      have lb := b.lt; have cb0 := b.c0; have cb1 := b.c1
      have lc := c.lt; have cc0 := c.c0; have cc1 := c.c1
      go_wp2_with fail
      clear la ca0 ca1 lb cb0 cb1 lc cc0 cc1
      have B8 : Below w0.heap.size w0 (w6.alloc (.cells #[.int .i64 X, .int .i64 Y] 24)) := (B.alloc (by have := B.size; simp <;> omega) _)
      clear B a b c
      obtain ⟨w8, ew8⟩ : ∃ x, w6.alloc (.cells #[.int .i64 X, .int .i64 Y] 24) = x := ⟨_, rfl⟩
      rw [ew8] at B8 ⊢
      clear ew8
      have B := B8
      clear B8
      have oP2 := P2.below B
      have xP20 := fun x : Ext w8 => x.cell oP2.c0
      have xP21 := fun x : Ext w8 => x.cell oP2.c1
      have xP22 := fun x : Ext w8 => x.cell oP2.c2
      have hne := Ext.there w8
      have HM8 := Lib.hid (M0.below B)
      refine Ext.region (by kernel_rfl) (by kernel_rfl) ?_
      repeat (go_big_quiet_step ((go_at_call 22; with_reducible exact Ext.call _ (kposition_is (l0.take (1 + j)) b2 x2 y2 true (1 + j) c0 _ HP.out HTL.out _ ((HM8.out.take (1 + j)).below (Ext.h _))))))
      refine wpQuiet_nil ?_
      rintro _ ⟨xw, rfl⟩
      replace B := B.trans (xw.h.mono B.size)
      clear hne xP20 xP21 xP22 oP2
      generalize xw.w = w9 at *
      clear xw
      go_wp2_with fail
      have oP2 := P2.below B
      have xP20 := fun x : PvW (mkC2 w9 U V) => (x.h.1.cell (p := ⟨w.heap.size, 0, none⟩) oP2.lt).trans oP2.c0
      have xP21 := fun x : PvW (mkC2 w9 U V) => (x.h.1.cell (p := ⟨w.heap.size, 1, none⟩) oP2.lt).trans oP2.c1
      have xP22 := fun x : PvW (mkC2 w9 U V) => (x.h.1.cell (p := ⟨w.heap.size, 2, none⟩) oP2.lt).trans oP2.c2
      have HM9 := Lib.hid (M0.below B)
      have BW_w9 := B.size
      have hne : Nonempty (PvW (mkC2 w9 U V)) := PvW.there (w := w9.drew) ⟨(Below.refl _ _).drew, trivial⟩
      refine region_pv (V := fun _ _ => .tuple #[.agg #[.int .i64 U, .int .i64 V], .int .i64 0]) (cs := [8, 9]) (Cv := (mkC2 w9 U V)) 10 (by kernel_rfl) (by kernel_rfl) (by kernel_rfl) ⟨(Below.refl _ _).drew, trivial⟩ ?_
      simp only [List.take_succ_cons, List.take_zero, List.drop_succ_cons, List.drop_zero]
      iterate 4 (refine pv_quiet (by decide) rfl rfl ?_; intro K' hK'; go_big_quiet_op; go_big_quiet_on)
      refine pv_kept (f := 15) (args := #[.slice (some ⟨bb, off, none⟩) (1 + j) c0, .agg #[.int .i64 b2, .int .i64 x2, .int .i64 y2]]) (by decide) (.tuple #[.agg #[.int .i64 U, .int .i64 V], .int .i64 0]) rfl (fun vs' w' hw' => ?_) rfl (fun vs' w' hw' => ?_) ?_
      · simp [go_sem]
      · refine (mtime_lt (l0.take (1 + j)) b2 x2 y2 true true U V 0 (1 + j) c0 _ (Mt.iff_tt HVT.out) HP.out HR6.out HTL.out (Mt.val_wf HVT.out) _ ((HM9.out.take (1 + j)).below hw'.1)).mono ?_
        rintro e wz ⟨rfl, hbz⟩
        exact ⟨rfl, hw'.below hbz⟩
      simp only [Act.put, List.setIfInBounds_toArray, List.set_cons_succ, List.set_cons_zero]
      iterate 3 (refine pv_quiet (by decide) rfl rfl ?_; intro K' hK'; go_big_quiet_op; go_big_quiet_on)
      refine pv_made rfl rfl (fun w' hw' => ⟨.pointer (some ⟨w'.heap.size, 0, none⟩), w'.alloc (.cells #[.int .i64 0, .int .i64 0] 24), ?_, hw'.1.alloc hw'.1.size _, _, rfl, hw'.1.size, Var2.new _ _ _ _⟩) ?_
      · go_simp
      rintro _ ⟨_, _, g, rfl, _, _⟩
      simp only [Act.put, List.setIfInBounds_toArray, List.set_cons_succ, List.set_cons_zero]
      refine pv_stored rfl rfl (fun w' hw' => ?_) ?_
      · obtain ⟨hb', g', e', hg', hV'⟩ := hw'
        cases e'
        refine ⟨((w'.setCell ⟨g, 0, none⟩ (.int .i64 U)).setCell ⟨g, 1, none⟩ (.int .i64 V)), ?_, ((hb'.setCell (p := ⟨g, 0, none⟩) hg' _).setCell (p := ⟨g, 1, none⟩) hg' _), g, rfl, hg', hV'.put _ _⟩
        have l0 := hV'.at2.lt
        have v0 := hV'.at2.c0
        have f0 := hV'.f0
        have v1 := hV'.at2.c1
        have f1 := hV'.f1
        go_simp
      rintro _ ⟨_, _, _, _, _, _⟩
      simp only [Act.put]
      rintro w10 ⟨hb, g', e', hg, hV⟩
      cases e'
      replace B := B.trans (hb.mono B.size)
      have xv := hV.at2
      clear hb hV hne xP20 xP21 xP22 oP2
      have nb_xv : w0.heap.size ≤ g := by have := BW_w9; omega
      have oP2 := P2.below B; have lP2 := oP2.lt; have cP20 := oP2.c0; have cP21 := oP2.c1; have cP22 := oP2.c2; clear oP2
      go_wp2_with fail
      refine (mtime_lt l0 b2 x2 y2 true true U V 0 n0 c0 _ (Mt.iff_tt HVal.out) HP2.out HR5.out HN.out HW.out _ (M0.below B)).mono ?_; rintro e w7 ⟨rfl, hb⟩
      replace xv := xv.below hb
      replace B := B.trans (hb.mono (by have := B.size; simp <;> omega))
      clear hb lP2 cP20 cP21 cP22
      have lxv := xv.lt; have cxv0 := xv.c0; have cxv1 := xv.c1
      go_wp2_with fail
      go_ret
      refine ⟨rfl, BASE.trans (Below.mono (B := w0.heap.size) ?_ BASE.size)⟩
      exact (B.alloc (by have := B.size; simp <;> omega) _)
end Go.Proofs.Ythamkigdpgajaaa
