/- The walks of the reference's Shift, Few. -/
import Derived.Test.YthamkigdpgajaaaMf
namespace Go.Proofs.Ythamkigdpgajaaa
open Go.RowKit

namespace Mt
theorem wh_neg : ∀ {l : List B} {n : Int}, (∀ b ∈ l, 1 ≤ bt b) → n < 0 → wh l n = none
  | [], n, _, h => by rw [wh, if_neg (by omega)]
  | b :: r, n, hb, h => by
    have h1 := hb b (by simp)
    rw [wh, if_neg (by omega), wh_neg (l := r) (fun x hx => hb x (by simp [hx])) (by omega)]
    rfl
end Mt
theorem wh_range {l : List Mt.B} (hok : ∀ b ∈ l, Mt.okB b) {n : Int} {p : Nat × Int} (h : Mt.wh l n = some p) : 0 ≤ n := by
  rcases Int.lt_or_le n 0 with h1 | h1
  · rw [Mt.wh_neg (fun b hb => (hok b hb).2.2.1) h1] at h; cases h
  · exact h1

set_option maxHeartbeats 400000 in
theorem kfew_is (n cap : Nat) (A : Option Addr) (f : Bool) (h : decide (n ≤ 60 ∨ 4000 < n ∧ n < 5000) = f) (w : World) :
    Calls Try.prog 10 #[.slice A n cap] w fun e w' => e = .returned (.bool f) ∧ w = w' := by
  by_cases h1 : n ≤ 60
  · have hf : f = true := by rw [← h]; exact decide_eq_true (.inl h1)
    subst hf
    have h1' : (n : Int) ≤ 60 := by omega
    clear h
    go_enter Try.func10, Try.ntmps10
    go_wp2_with fail
    go_ret
    exact ⟨rfl, rfl⟩
  have h1' : ¬ (n : Int) ≤ 60 := by omega
  by_cases h2 : 4000 < n
  · have h2' : (4000 : Int) < (n : Int) := by omega
    by_cases h3 : n < 5000
    · have hf : f = true := by rw [← h]; exact decide_eq_true (.inr ⟨h2, h3⟩)
      subst hf
      have h3' : (n : Int) < 5000 := by omega
      clear h
      go_enter Try.func10, Try.ntmps10
      go_wp2_with fail
      go_ret
      exact ⟨rfl, rfl⟩
    · have hf : f = false := by rw [← h]; exact decide_eq_false (fun hh => by omega)
      subst hf
      have h3' : ¬ (n : Int) < 5000 := by omega
      clear h
      go_enter Try.func10, Try.ntmps10
      go_wp2_with fail
      go_ret
      exact ⟨rfl, rfl⟩
  · have hf : f = false := by rw [← h]; exact decide_eq_false (fun hh => by omega)
    subst hf
    have h2' : ¬ (4000 : Int) < (n : Int) := by omega
    clear h
    go_enter Try.func10, Try.ntmps10
    go_wp2_with fail
    go_ret
    exact ⟨rfl, rfl⟩

/-- How many 1680ths later; none: neither a duration nor the opposite of one. -/
def Mt.byT (bn bd : Int) : Option Int := if 0 ≤ Mt.tk bn bd then some (Mt.tk bn bd) else if 0 ≤ Mt.tk (-bn) bd then some (-Mt.tk (-bn) bd) else none
def Mt.shO (l : List Mt.B) (b n d bn bd : Int) : Option (Nat × Int) := Mt.wh l (Mt.before l b.toNat + Mt.tk n d + (Mt.byT bn bd).getD 0)

set_option maxHeartbeats 3200000 in
theorem kshift_is (l : List Mt.B) (b n d bn bd : Int) (g p q : Bool) (O : Option (Nat × Int)) (len cap : Nat) (A : Option Addr) (hv : g = true ↔ Mt.Val l) (hp : Mt.posB l b n d = p) (hq : (Mt.byT bn bd).isSome = q) (hO : Mt.shO l b n d bn bd = O) (hl : l.length = len) (hbn : -9223372036854775808 ≤ bn ∧ bn ≤ 9223372036854775807) (w : World) (hL : SlB w A l) :
    Calls Try.prog 20 #[.slice A len cap, .agg #[.int .i64 b, .int .i64 n, .int .i64 d], .agg #[.int .i64 bn, .int .i64 bd]] w fun e w' => PosP (g && p && q) O e ∧ Below w.heap.size w w' := by
  have HV := Lib.hid hv
  have HP := Lib.hid hp
  have HN := Lib.hid hl
  -- the opposite, as the program has it
  obtain ⟨m, hm⟩ : ∃ m, IntKind.i64.wrap (-bn) = m := ⟨_, rfl⟩
  have hmt : Mt.tk m bd = Mt.tk (-bn) bd := by
    by_cases h0 : bn = -9223372036854775808
    · subst h0
      have e1 : m = -9223372036854775808 := by rw [← hm]; rfl
      rw [e1]
      unfold Mt.tk
      rw [if_pos (.inr (.inr (.inl (by omega)))), if_pos (.inr (.inr (.inr (.inl (by omega)))))]
    · rw [← hm, IntKind.wrap_i64, show (-bn + 9223372036854775808) % 18446744073709551616 - 9223372036854775808 = -bn by omega]
  have hm2 : Go.RowKit.wrap64 (-bn) = m := by rw [← hm, IntKind.wrap_i64]; unfold Go.RowKit.wrap64; omega
  clear hm
  have G0 := ((((Below.refl w.heap.size w).alloc (Nat.le_refl _) (.cells #[.int .i64 b, .int .i64 n, .int .i64 d] 26)).alloc (by simp) (.cells #[.int .i64 bn, .int .i64 bd] 24)).alloc (by simp; omega) (.cells #[.int .i64 0, .int .i64 0, .int .i64 0] 26)).alloc (by simp; omega) (.cells #[.int .i64 m, .int .i64 bd] 24)
  have P0 := (((At3.new w b n d 26).alloc (.cells #[.int .i64 bn, .int .i64 bd] 24)).alloc (.cells #[.int .i64 0, .int .i64 0, .int .i64 0] 26)).alloc (.cells #[.int .i64 m, .int .i64 bd] 24)
  have Y0 := (((At2.new (w.alloc (.cells #[.int .i64 b, .int .i64 n, .int .i64 d] 26)) bn bd 24).alloc (.cells #[.int .i64 0, .int .i64 0, .int .i64 0] 26)).alloc (.cells #[.int .i64 m, .int .i64 bd] 24))
  have V0 := (Var3.new ((w.alloc (.cells #[.int .i64 b, .int .i64 n, .int .i64 d] 26)).alloc (.cells #[.int .i64 bn, .int .i64 bd] 24)) 0 0 0 26).alloc (.cells #[.int .i64 m, .int .i64 bd] 24)
  have K0 := At2.new (((w.alloc (.cells #[.int .i64 b, .int .i64 n, .int .i64 d] 26)).alloc (.cells #[.int .i64 bn, .int .i64 bd] 24)).alloc (.cells #[.int .i64 0, .int .i64 0, .int .i64 0] 26)) m bd 24
  simp only [World.size_alloc] at Y0 V0 K0
  have L0 := (((hL.alloc (.cells #[.int .i64 b, .int .i64 n, .int .i64 d] 26)).alloc (.cells #[.int .i64 bn, .int .i64 bd] 24)).alloc (.cells #[.int .i64 0, .int .i64 0, .int .i64 0] 26)).alloc (.cells #[.int .i64 m, .int .i64 bd] 24)
  cases g with
  | false =>
    clear hv hp hq hO hl hL hbn hmt
    go_enter Try.func20, Try.ntmps20
    go_wp2_with (first | (go_at_call 14; (with_reducible refine (kvalid_is l false len cap A HV.out HN.out _ L0).mono ?_); rintro e w1 ⟨rfl, hb⟩; have G1 := G0.trans (hb.mono G0.size); have P1 := P0.below hb; have Y1 := Y0.below hb; have V1 := V0.below hb; have K1 := K0.below hb; have L1 := L0.below hb; obtain ⟨pl1, pa1, pb1, pc1⟩ := id P1; obtain ⟨yl1, ya1, yb1⟩ := id Y1; obtain ⟨kl1, ka1, kb1⟩ := id K1; clear hb; obtain ⟨v0, v1, v2, f0, f1, f2⟩ := And.intro V1.at3.c0 (And.intro V1.at3.c1 (And.intro V1.at3.c2 (And.intro V1.f0 (And.intro V1.f1 V1.f2)))); have hs1 := V1.at3.lt) | fail)
    refine bodyPost_ret (v := .tuple #[.agg #[.int .i64 0, .int .i64 0, .int .i64 0], .int .i64 1]) (by simp [results, Try.results20, go_sem, v0, v1, v2]) rfl ⟨rfl, ((G1.setCell (p := ⟨w.heap.size + 1 + 1, 0, none⟩) (by simp; omega) _).setCell (p := ⟨w.heap.size + 1 + 1, 1, none⟩) (by simp; omega) _).setCell (p := ⟨w.heap.size + 1 + 1, 2, none⟩) (by simp; omega) _⟩
  | true =>
    cases p with
    | false =>
      clear hv hp hq hO hl hL hbn hmt
      go_enter Try.func20, Try.ntmps20
      go_wp2_with (first | (go_at_call 14; (with_reducible refine (kvalid_is l true len cap A HV.out HN.out _ L0).mono ?_); rintro e w1 ⟨rfl, hb⟩; have G1 := G0.trans (hb.mono G0.size); have P1 := P0.below hb; have Y1 := Y0.below hb; have V1 := V0.below hb; have K1 := K0.below hb; have L1 := L0.below hb; obtain ⟨pl1, pa1, pb1, pc1⟩ := id P1; obtain ⟨yl1, ya1, yb1⟩ := id Y1; obtain ⟨kl1, ka1, kb1⟩ := id K1; clear hb) | (go_at_call 22; (with_reducible refine (kposition_is l _ n d false len cap A HP.out HN.out _ L1).mono ?_); rintro e w2 ⟨rfl, hb⟩; have G2 := G1.trans (hb.mono G1.size); have P2 := P1.below hb; have Y2 := Y1.below hb; have V2 := V1.below hb; have K2 := K1.below hb; have L2 := L1.below hb; obtain ⟨pl2, pa2, pb2, pc2⟩ := id P2; obtain ⟨yl2, ya2, yb2⟩ := id Y2; obtain ⟨kl2, ka2, kb2⟩ := id K2; clear hb; obtain ⟨v0, v1, v2, f0, f1, f2⟩ := And.intro V2.at3.c0 (And.intro V2.at3.c1 (And.intro V2.at3.c2 (And.intro V2.f0 (And.intro V2.f1 V2.f2)))); have hs2 := V2.at3.lt) | fail)
      refine bodyPost_ret (v := .tuple #[.agg #[.int .i64 0, .int .i64 0, .int .i64 0], .int .i64 1]) (by simp [results, Try.results20, go_sem, v0, v1, v2]) rfl ⟨rfl, ((G2.setCell (p := ⟨w.heap.size + 1 + 1, 0, none⟩) (by simp; omega) _).setCell (p := ⟨w.heap.size + 1 + 1, 1, none⟩) (by simp; omega) _).setCell (p := ⟨w.heap.size + 1 + 1, 2, none⟩) (by simp; omega) _⟩
    | true =>
      have hval := hv.1 rfl
      obtain ⟨hb0, hpos⟩ := Mt.posB_iff.1 hp
      obtain ⟨k, rfl⟩ := Int.eq_ofNat_of_zero_le hb0
      unfold Mt.shO at hO
      rw [Int.toNat_natCast] at hpos hO
      obtain ⟨hk, ht0, _, _⟩ := hpos
      obtain ⟨x, hx⟩ := Int.eq_ofNat_of_zero_le (Mt.before_bounds hval.ok k hk).1
      have hx2 := (Mt.before_bounds hval.ok k hk).2
      obtain ⟨t, ht⟩ := Int.eq_ofNat_of_zero_le ht0
      have htl := Mt.tk_le n d
      have hl4 := hval.2.1
      rw [hx] at hx2 hO
      rw [ht] at htl hO
      rw [hl] at hk hl4
      have hx3 : (x : Int) ≤ 161280000 := by omega
      obtain ⟨u, hu⟩ : ∃ u, Mt.tk bn bd = u := ⟨_, rfl⟩
      obtain ⟨v, hvv⟩ : ∃ v, Mt.tk m bd = v := ⟨_, rfl⟩
      have hul := Mt.tk_le bn bd
      have hvl := Mt.tk_le m bd
      have hug := Mt.tk_ge bn bd
      have hvg := Mt.tk_ge m bd
      rw [hu] at hul hug
      rw [hvv] at hvl hvg
      unfold Mt.byT at hq hO
      rw [← hmt, hu, hvv] at hq hO
      have HX := Lib.hid hx
      have HT := Lib.hid ht
      have HU := Lib.hid hu
      have HVV := Lib.hid hvv
      have HOK := Lib.hid hval.ok
      by_cases D1 : 0 ≤ u
      · rw [if_pos D1] at hq hO
        obtain rfl : q = true := by rw [← hq]; rfl
        have HD1 : Hid (decide (0 ≤ Mt.tk bn bd) = true) := Lib.hid (by rw [hu]; exact decide_eq_true D1)
        simp only [Option.getD_some] at hO
        have HO := Lib.hid hO
        have z0 : -4000000000000 ≤ (x : Int) + (t : Int) + u := by omega
        have z1 : (x : Int) + (t : Int) + u ≤ 4000000000000 := by omega
        have zn0 : ¬ (x : Int) + (t : Int) + u < 0 := by omega
        clear hv hp hq hO hl hL hbn hmt hval hx hx2 ht ht0 hb0 hu hvv
        cases O with
        | none =>
          go_enter Try.func20, Try.ntmps20
          go_wp2_with (first | (go_at_call 14; (with_reducible refine (kvalid_is l true len cap A HV.out HN.out _ L0).mono ?_); rintro e w1 ⟨rfl, hb⟩; have G1 := G0.trans (hb.mono G0.size); have P1 := P0.below hb; have Y1 := Y0.below hb; have V1 := V0.below hb; have K1 := K0.below hb; have L1 := L0.below hb; obtain ⟨pl1, pa1, pb1, pc1⟩ := id P1; obtain ⟨yl1, ya1, yb1⟩ := id Y1; obtain ⟨kl1, ka1, kb1⟩ := id K1; clear hb) | (go_at_call 22; (with_reducible refine (kposition_is l _ n d true len cap A HP.out HN.out _ L1).mono ?_); rintro e w2 ⟨rfl, hb⟩; have G2 := G1.trans (hb.mono G1.size); have P2 := P1.below hb; have Y2 := Y1.below hb; have V2 := V1.below hb; have K2 := K1.below hb; have L2 := L1.below hb; obtain ⟨pl2, pa2, pb2, pc2⟩ := id P2; obtain ⟨yl2, ya2, yb2⟩ := id Y2; obtain ⟨kl2, ka2, kb2⟩ := id K2; clear hb) | (go_at_call 38; (with_reducible refine (kduration_is bn bd true HD1.out _).mono ?_); rintro e w3 ⟨rfl, hb⟩; have G3 := G2.trans (hb.mono G2.size); have P3 := P2.below hb; have Y3 := Y2.below hb; have V3 := V2.below hb; have K3 := K2.below hb; have L3 := L2.below hb; obtain ⟨pl3, pa3, pb3, pc3⟩ := id P3; obtain ⟨yl3, ya3, yb3⟩ := id Y3; obtain ⟨kl3, ka3, kb3⟩ := id K3; clear hb) | fail)
          have x0 := fun y : Ext w3 => y.cell P3.c0
          have x1 := fun y : Ext w3 => y.cell P3.c1
          have x2 := fun y : Ext w3 => y.cell P3.c2
          have hne := Ext.there w3
          have HLL := Lib.hid L3
          refine Ext.region (by kernel_rfl) (by kernel_rfl) ?_
          repeat (go_big_quiet_step ((first | (go_at_call 29; with_reducible exact Ext.call _ (kbefore_is l k (x : Int) len cap A HX.out HN.out hk HOK.out hl4 _ (HLL.out.below (Ext.h _)))) | (go_at_call 31; with_reducible exact Ext.call _ (kticks_is n d (t : Int) HT.out _)))))
          refine wpQuiet_nil ?_
          rintro _ ⟨xw, rfl⟩
          have G4 := G3.trans (xw.h.mono G3.size)
          have P4 := P3.below xw.h
          have Y4 := Y3.below xw.h
          have V4 := V3.below xw.h
          have K4 := K3.below xw.h
          have L4 := L3.below xw.h
          clear x0 x1 x2 hne HLL
          generalize xw.w = w4 at *
          clear xw
          obtain ⟨pl4, pa4, pb4, pc4⟩ := id P4
          obtain ⟨yl4, ya4, yb4⟩ := id Y4
          obtain ⟨kl4, ka4, kb4⟩ := id K4
          go_wp2_with (first | (go_at_call 38; (with_reducible refine (kduration_is bn bd true HD1.out _).mono ?_); rintro e w5 ⟨rfl, hb⟩; have G5 := G4.trans (hb.mono G4.size); have P5 := P4.below hb; have Y5 := Y4.below hb; have V5 := V4.below hb; have K5 := K4.below hb; have L5 := L4.below hb; obtain ⟨pl5, pa5, pb5, pc5⟩ := id P5; obtain ⟨yl5, ya5, yb5⟩ := id Y5; obtain ⟨kl5, ka5, kb5⟩ := id K5; clear hb) | (go_at_call 31; (with_reducible refine (kticks_is bn bd u HU.out _).mono ?_); rintro e w6 ⟨rfl, hb⟩; have G6 := G5.trans (hb.mono G5.size); have P6 := P5.below hb; have Y6 := Y5.below hb; have V6 := V5.below hb; have K6 := K5.below hb; have L6 := L5.below hb; obtain ⟨pl6, pa6, pb6, pc6⟩ := id P6; obtain ⟨yl6, ya6, yb6⟩ := id Y6; obtain ⟨kl6, ka6, kb6⟩ := id K6; clear hb) | (go_at_call 39; (with_reducible refine (kat_is l ((x : Int) + (t : Int) + u) none len cap A HO.out HN.out HOK.out hl4 z0 z1 _ L6).mono ?_); rintro e w7 ⟨rfl, hb⟩; have G7 := G6.trans (hb.mono G6.size); have P7 := P6.below hb; have Y7 := Y6.below hb; have V7 := V6.below hb; have K7 := K6.below hb; have L7 := L6.below hb; obtain ⟨pl7, pa7, pb7, pc7⟩ := id P7; obtain ⟨yl7, ya7, yb7⟩ := id Y7; obtain ⟨kl7, ka7, kb7⟩ := id K7; clear hb; obtain ⟨v0, v1, v2, f0, f1, f2⟩ := And.intro V7.at3.c0 (And.intro V7.at3.c1 (And.intro V7.at3.c2 (And.intro V7.f0 (And.intro V7.f1 V7.f2)))); have hs7 := V7.at3.lt) | fail)
          have r := (put3 V7 0 0 0).alloc (.cells #[.int .i64 0, .int .i64 0, .int .i64 0] 26)
          obtain ⟨_, r0, r1, r2⟩ := r
          refine bodyPost_ret (v := .tuple #[.agg #[.int .i64 0, .int .i64 0, .int .i64 0], .int .i64 3]) (by simp [results, Try.results20, go_sem, r0, r1, r2]) rfl ⟨rfl, ((((G7.setCell (p := ⟨w.heap.size + 1 + 1, 0, none⟩) (by simp; omega) _).setCell (p := ⟨w.heap.size + 1 + 1, 1, none⟩) (by simp; omega) _).setCell (p := ⟨w.heap.size + 1 + 1, 2, none⟩) (by simp; omega) _).alloc (by have := G7.size; simp; omega) _)⟩

        | some pr =>
          obtain ⟨k2, u2⟩ := pr
          have zn : ¬ (x : Int) + (t : Int) + u < 0 := by have := wh_range HOK.out HO.out; omega
          obtain ⟨N, hN⟩ : ∃ N, Mt.oN u2.toNat = N := ⟨_, rfl⟩
          obtain ⟨D, hD⟩ : ∃ D, Mt.oD u2.toNat = D := ⟨_, rfl⟩
          have HAT : Hid (∀ w', SlB w' A l → Calls Try.prog 39 #[.slice A len cap, .int .i64 ((x : Int) + (t : Int) + u)] w' fun e w'' => e = .returned (.tuple #[.agg #[.int .i64 (k2 : Int), .int .i64 N, .int .i64 D], .bool true]) ∧ Below w'.heap.size w' w'') := Lib.hid (fun w' hw => by
            rw [← hN, ← hD]
            exact kat_is l ((x : Int) + (t : Int) + u) (some (k2, u2)) len cap A HO.out HN.out HOK.out hl4 z0 z1 w' hw)
          have HPP : Hid (PosP (true && true && true) (some (k2, u2)) (.returned (.tuple #[.agg #[.int .i64 (k2 : Int), .int .i64 N, .int .i64 D], .int .i64 0]))) := Lib.hid (by rw [← hN, ← hD]; rfl)
          clear hN hD
          go_enter Try.func20, Try.ntmps20
          go_wp2_with (first | (go_at_call 14; (with_reducible refine (kvalid_is l true len cap A HV.out HN.out _ L0).mono ?_); rintro e w1 ⟨rfl, hb⟩; have G1 := G0.trans (hb.mono G0.size); have P1 := P0.below hb; have Y1 := Y0.below hb; have V1 := V0.below hb; have K1 := K0.below hb; have L1 := L0.below hb; obtain ⟨pl1, pa1, pb1, pc1⟩ := id P1; obtain ⟨yl1, ya1, yb1⟩ := id Y1; obtain ⟨kl1, ka1, kb1⟩ := id K1; clear hb) | (go_at_call 22; (with_reducible refine (kposition_is l _ n d true len cap A HP.out HN.out _ L1).mono ?_); rintro e w2 ⟨rfl, hb⟩; have G2 := G1.trans (hb.mono G1.size); have P2 := P1.below hb; have Y2 := Y1.below hb; have V2 := V1.below hb; have K2 := K1.below hb; have L2 := L1.below hb; obtain ⟨pl2, pa2, pb2, pc2⟩ := id P2; obtain ⟨yl2, ya2, yb2⟩ := id Y2; obtain ⟨kl2, ka2, kb2⟩ := id K2; clear hb) | (go_at_call 38; (with_reducible refine (kduration_is bn bd true HD1.out _).mono ?_); rintro e w3 ⟨rfl, hb⟩; have G3 := G2.trans (hb.mono G2.size); have P3 := P2.below hb; have Y3 := Y2.below hb; have V3 := V2.below hb; have K3 := K2.below hb; have L3 := L2.below hb; obtain ⟨pl3, pa3, pb3, pc3⟩ := id P3; obtain ⟨yl3, ya3, yb3⟩ := id Y3; obtain ⟨kl3, ka3, kb3⟩ := id K3; clear hb) | fail)
          have x0 := fun y : Ext w3 => y.cell P3.c0
          have x1 := fun y : Ext w3 => y.cell P3.c1
          have x2 := fun y : Ext w3 => y.cell P3.c2
          have hne := Ext.there w3
          have HLL := Lib.hid L3
          refine Ext.region (by kernel_rfl) (by kernel_rfl) ?_
          repeat (go_big_quiet_step ((first | (go_at_call 29; with_reducible exact Ext.call _ (kbefore_is l k (x : Int) len cap A HX.out HN.out hk HOK.out hl4 _ (HLL.out.below (Ext.h _)))) | (go_at_call 31; with_reducible exact Ext.call _ (kticks_is n d (t : Int) HT.out _)))))
          refine wpQuiet_nil ?_
          rintro _ ⟨xw, rfl⟩
          have G4 := G3.trans (xw.h.mono G3.size)
          have P4 := P3.below xw.h
          have Y4 := Y3.below xw.h
          have V4 := V3.below xw.h
          have K4 := K3.below xw.h
          have L4 := L3.below xw.h
          clear x0 x1 x2 hne HLL
          generalize xw.w = w4 at *
          clear xw
          obtain ⟨pl4, pa4, pb4, pc4⟩ := id P4
          obtain ⟨yl4, ya4, yb4⟩ := id Y4
          obtain ⟨kl4, ka4, kb4⟩ := id K4
          go_wp2_with (first | (go_at_call 38; (with_reducible refine (kduration_is bn bd true HD1.out _).mono ?_); rintro e w5 ⟨rfl, hb⟩; have G5 := G4.trans (hb.mono G4.size); have P5 := P4.below hb; have Y5 := Y4.below hb; have V5 := V4.below hb; have K5 := K4.below hb; have L5 := L4.below hb; obtain ⟨pl5, pa5, pb5, pc5⟩ := id P5; obtain ⟨yl5, ya5, yb5⟩ := id Y5; obtain ⟨kl5, ka5, kb5⟩ := id K5; clear hb) | (go_at_call 31; (with_reducible refine (kticks_is bn bd u HU.out _).mono ?_); rintro e w6 ⟨rfl, hb⟩; have G6 := G5.trans (hb.mono G5.size); have P6 := P5.below hb; have Y6 := Y5.below hb; have V6 := V5.below hb; have K6 := K5.below hb; have L6 := L5.below hb; obtain ⟨pl6, pa6, pb6, pc6⟩ := id P6; obtain ⟨yl6, ya6, yb6⟩ := id Y6; obtain ⟨kl6, ka6, kb6⟩ := id K6; clear hb) | (go_at_call 39; (with_reducible refine (HAT.out _ L6).mono ?_); rintro e w7 ⟨rfl, hb⟩; have G7 := G6.trans (hb.mono G6.size); have P7 := P6.below hb; have Y7 := Y6.below hb; have V7 := V6.below hb; have K7 := K6.below hb; have L7 := L6.below hb; obtain ⟨pl7, pa7, pb7, pc7⟩ := id P7; obtain ⟨yl7, ya7, yb7⟩ := id Y7; obtain ⟨kl7, ka7, kb7⟩ := id K7; clear hb; obtain ⟨v0, v1, v2, f0, f1, f2⟩ := And.intro V7.at3.c0 (And.intro V7.at3.c1 (And.intro V7.at3.c2 (And.intro V7.f0 (And.intro V7.f1 V7.f2)))); have hs7 := V7.at3.lt) | fail)
          have r := (put3 V7 (k2 : Int) N D).alloc (.cells #[.int .i64 (k2 : Int), .int .i64 N, .int .i64 D] 26)
          obtain ⟨_, r0, r1, r2⟩ := r
          refine bodyPost_ret (v := .tuple #[.agg #[.int .i64 (k2 : Int), .int .i64 N, .int .i64 D], .int .i64 0]) (by simp [results, Try.results20, go_sem, r0, r1, r2]) rfl ⟨HPP.out, ((((G7.setCell (p := ⟨w.heap.size + 1 + 1, 0, none⟩) (by simp; omega) _).setCell (p := ⟨w.heap.size + 1 + 1, 1, none⟩) (by simp; omega) _).setCell (p := ⟨w.heap.size + 1 + 1, 2, none⟩) (by simp; omega) _).alloc (by have := G7.size; simp; omega) _)⟩


      · rw [if_neg D1] at hq hO
        have HD1 : Hid (decide (0 ≤ Mt.tk bn bd) = false) := Lib.hid (by rw [hu]; exact decide_eq_false D1)
        by_cases D2 : 0 ≤ v
        · rw [if_pos D2] at hq hO
          obtain rfl : q = true := by rw [← hq]; rfl
          have HD2 : Hid (decide (0 ≤ Mt.tk m bd) = true) := Lib.hid (by rw [hvv]; exact decide_eq_true D2)
          simp only [Option.getD_some] at hO
          rw [show (x : Int) + (t : Int) + -v = (x : Int) + (t : Int) - v by omega] at hO
          have HO := Lib.hid hO
          have z0 : -4000000000000 ≤ (x : Int) + (t : Int) - v := by omega
          have z1 : (x : Int) + (t : Int) - v ≤ 4000000000000 := by omega
          clear hv hp hq hO hl hL hbn hmt hval hx hx2 ht ht0 hb0 hu hvv
          cases O with
          | none =>
            by_cases zn : (x : Int) + (t : Int) - v < 0
            · go_enter Try.func20, Try.ntmps20
              go_wp2_with (first | (go_at_call 14; (with_reducible refine (kvalid_is l true len cap A HV.out HN.out _ L0).mono ?_); rintro e w1 ⟨rfl, hb⟩; have G1 := G0.trans (hb.mono G0.size); have P1 := P0.below hb; have Y1 := Y0.below hb; have V1 := V0.below hb; have K1 := K0.below hb; have L1 := L0.below hb; obtain ⟨pl1, pa1, pb1, pc1⟩ := id P1; obtain ⟨yl1, ya1, yb1⟩ := id Y1; obtain ⟨kl1, ka1, kb1⟩ := id K1; clear hb) | (go_at_call 22; (with_reducible refine (kposition_is l _ n d true len cap A HP.out HN.out _ L1).mono ?_); rintro e w2 ⟨rfl, hb⟩; have G2 := G1.trans (hb.mono G1.size); have P2 := P1.below hb; have Y2 := Y1.below hb; have V2 := V1.below hb; have K2 := K1.below hb; have L2 := L1.below hb; obtain ⟨pl2, pa2, pb2, pc2⟩ := id P2; obtain ⟨yl2, ya2, yb2⟩ := id Y2; obtain ⟨kl2, ka2, kb2⟩ := id K2; clear hb) | (go_at_call 38; (with_reducible refine (kduration_is bn bd false HD1.out _).mono ?_); rintro e w3 ⟨rfl, hb⟩; have G3 := G2.trans (hb.mono G2.size); have P3 := P2.below hb; have Y3 := Y2.below hb; have V3 := V2.below hb; have K3 := K2.below hb; have L3 := L2.below hb; obtain ⟨pl3, pa3, pb3, pc3⟩ := id P3; obtain ⟨yl3, ya3, yb3⟩ := id Y3; obtain ⟨kl3, ka3, kb3⟩ := id K3; clear hb) | (go_at_call 38; (with_reducible refine (kduration_is m bd true HD2.out _).mono ?_); rintro e w4 ⟨rfl, hb⟩; have G4 := G3.trans (hb.mono G3.size); have P4 := P3.below hb; have Y4 := Y3.below hb; have V4 := V3.below hb; have K4 := K3.below hb; have L4 := L3.below hb; obtain ⟨pl4, pa4, pb4, pc4⟩ := id P4; obtain ⟨yl4, ya4, yb4⟩ := id Y4; obtain ⟨kl4, ka4, kb4⟩ := id K4; clear hb) | fail)
              have x0 := fun y : Ext w4 => y.cell P4.c0
              have x1 := fun y : Ext w4 => y.cell P4.c1
              have x2 := fun y : Ext w4 => y.cell P4.c2
              have hne := Ext.there w4
              have HLL := Lib.hid L4
              refine Ext.region (by kernel_rfl) (by kernel_rfl) ?_
              repeat (go_big_quiet_step ((first | (go_at_call 29; with_reducible exact Ext.call _ (kbefore_is l k (x : Int) len cap A HX.out HN.out hk HOK.out hl4 _ (HLL.out.below (Ext.h _)))) | (go_at_call 31; with_reducible exact Ext.call _ (kticks_is n d (t : Int) HT.out _)))))
              refine wpQuiet_nil ?_
              rintro _ ⟨xw, rfl⟩
              have G5 := G4.trans (xw.h.mono G4.size)
              have P5 := P4.below xw.h
              have Y5 := Y4.below xw.h
              have V5 := V4.below xw.h
              have K5 := K4.below xw.h
              have L5 := L4.below xw.h
              clear x0 x1 x2 hne HLL
              generalize xw.w = w5 at *
              clear xw
              obtain ⟨pl5, pa5, pb5, pc5⟩ := id P5
              obtain ⟨yl5, ya5, yb5⟩ := id Y5
              obtain ⟨kl5, ka5, kb5⟩ := id K5
              go_wp2_with (first | (go_at_call 38; (with_reducible refine (kduration_is bn bd false HD1.out _).mono ?_); rintro e w6 ⟨rfl, hb⟩; have G6 := G5.trans (hb.mono G5.size); have P6 := P5.below hb; have Y6 := Y5.below hb; have V6 := V5.below hb; have K6 := K5.below hb; have L6 := L5.below hb; obtain ⟨pl6, pa6, pb6, pc6⟩ := id P6; obtain ⟨yl6, ya6, yb6⟩ := id Y6; obtain ⟨kl6, ka6, kb6⟩ := id K6; clear hb) | (go_at_call 31; (with_reducible refine (kticks_is m bd v HVV.out _).mono ?_); rintro e w7 ⟨rfl, hb⟩; have G7 := G6.trans (hb.mono G6.size); have P7 := P6.below hb; have Y7 := Y6.below hb; have V7 := V6.below hb; have K7 := K6.below hb; have L7 := L6.below hb; obtain ⟨pl7, pa7, pb7, pc7⟩ := id P7; obtain ⟨yl7, ya7, yb7⟩ := id Y7; obtain ⟨kl7, ka7, kb7⟩ := id K7; clear hb) | (go_at_call 39; (with_reducible refine (kat_is l ((x : Int) + (t : Int) - v) none len cap A HO.out HN.out HOK.out hl4 z0 z1 _ L7).mono ?_); rintro e w8 ⟨rfl, hb⟩; have G8 := G7.trans (hb.mono G7.size); have P8 := P7.below hb; have Y8 := Y7.below hb; have V8 := V7.below hb; have K8 := K7.below hb; have L8 := L7.below hb; obtain ⟨pl8, pa8, pb8, pc8⟩ := id P8; obtain ⟨yl8, ya8, yb8⟩ := id Y8; obtain ⟨kl8, ka8, kb8⟩ := id K8; clear hb; obtain ⟨v0, v1, v2, f0, f1, f2⟩ := And.intro V8.at3.c0 (And.intro V8.at3.c1 (And.intro V8.at3.c2 (And.intro V8.f0 (And.intro V8.f1 V8.f2)))); have hs8 := V8.at3.lt) | fail)
              have r := (put3 V8 0 0 0).alloc (.cells #[.int .i64 0, .int .i64 0, .int .i64 0] 26)
              obtain ⟨_, r0, r1, r2⟩ := r
              refine bodyPost_ret (v := .tuple #[.agg #[.int .i64 0, .int .i64 0, .int .i64 0], .int .i64 3]) (by simp [results, Try.results20, go_sem, r0, r1, r2]) rfl ⟨rfl, ((((G8.setCell (p := ⟨w.heap.size + 1 + 1, 0, none⟩) (by simp; omega) _).setCell (p := ⟨w.heap.size + 1 + 1, 1, none⟩) (by simp; omega) _).setCell (p := ⟨w.heap.size + 1 + 1, 2, none⟩) (by simp; omega) _).alloc (by have := G8.size; simp; omega) _)⟩

            · go_enter Try.func20, Try.ntmps20
              go_wp2_with (first | (go_at_call 14; (with_reducible refine (kvalid_is l true len cap A HV.out HN.out _ L0).mono ?_); rintro e w1 ⟨rfl, hb⟩; have G1 := G0.trans (hb.mono G0.size); have P1 := P0.below hb; have Y1 := Y0.below hb; have V1 := V0.below hb; have K1 := K0.below hb; have L1 := L0.below hb; obtain ⟨pl1, pa1, pb1, pc1⟩ := id P1; obtain ⟨yl1, ya1, yb1⟩ := id Y1; obtain ⟨kl1, ka1, kb1⟩ := id K1; clear hb) | (go_at_call 22; (with_reducible refine (kposition_is l _ n d true len cap A HP.out HN.out _ L1).mono ?_); rintro e w2 ⟨rfl, hb⟩; have G2 := G1.trans (hb.mono G1.size); have P2 := P1.below hb; have Y2 := Y1.below hb; have V2 := V1.below hb; have K2 := K1.below hb; have L2 := L1.below hb; obtain ⟨pl2, pa2, pb2, pc2⟩ := id P2; obtain ⟨yl2, ya2, yb2⟩ := id Y2; obtain ⟨kl2, ka2, kb2⟩ := id K2; clear hb) | (go_at_call 38; (with_reducible refine (kduration_is bn bd false HD1.out _).mono ?_); rintro e w3 ⟨rfl, hb⟩; have G3 := G2.trans (hb.mono G2.size); have P3 := P2.below hb; have Y3 := Y2.below hb; have V3 := V2.below hb; have K3 := K2.below hb; have L3 := L2.below hb; obtain ⟨pl3, pa3, pb3, pc3⟩ := id P3; obtain ⟨yl3, ya3, yb3⟩ := id Y3; obtain ⟨kl3, ka3, kb3⟩ := id K3; clear hb) | (go_at_call 38; (with_reducible refine (kduration_is m bd true HD2.out _).mono ?_); rintro e w4 ⟨rfl, hb⟩; have G4 := G3.trans (hb.mono G3.size); have P4 := P3.below hb; have Y4 := Y3.below hb; have V4 := V3.below hb; have K4 := K3.below hb; have L4 := L3.below hb; obtain ⟨pl4, pa4, pb4, pc4⟩ := id P4; obtain ⟨yl4, ya4, yb4⟩ := id Y4; obtain ⟨kl4, ka4, kb4⟩ := id K4; clear hb) | fail)
              have x0 := fun y : Ext w4 => y.cell P4.c0
              have x1 := fun y : Ext w4 => y.cell P4.c1
              have x2 := fun y : Ext w4 => y.cell P4.c2
              have hne := Ext.there w4
              have HLL := Lib.hid L4
              refine Ext.region (by kernel_rfl) (by kernel_rfl) ?_
              repeat (go_big_quiet_step ((first | (go_at_call 29; with_reducible exact Ext.call _ (kbefore_is l k (x : Int) len cap A HX.out HN.out hk HOK.out hl4 _ (HLL.out.below (Ext.h _)))) | (go_at_call 31; with_reducible exact Ext.call _ (kticks_is n d (t : Int) HT.out _)))))
              refine wpQuiet_nil ?_
              rintro _ ⟨xw, rfl⟩
              have G5 := G4.trans (xw.h.mono G4.size)
              have P5 := P4.below xw.h
              have Y5 := Y4.below xw.h
              have V5 := V4.below xw.h
              have K5 := K4.below xw.h
              have L5 := L4.below xw.h
              clear x0 x1 x2 hne HLL
              generalize xw.w = w5 at *
              clear xw
              obtain ⟨pl5, pa5, pb5, pc5⟩ := id P5
              obtain ⟨yl5, ya5, yb5⟩ := id Y5
              obtain ⟨kl5, ka5, kb5⟩ := id K5
              go_wp2_with (first | (go_at_call 38; (with_reducible refine (kduration_is bn bd false HD1.out _).mono ?_); rintro e w6 ⟨rfl, hb⟩; have G6 := G5.trans (hb.mono G5.size); have P6 := P5.below hb; have Y6 := Y5.below hb; have V6 := V5.below hb; have K6 := K5.below hb; have L6 := L5.below hb; obtain ⟨pl6, pa6, pb6, pc6⟩ := id P6; obtain ⟨yl6, ya6, yb6⟩ := id Y6; obtain ⟨kl6, ka6, kb6⟩ := id K6; clear hb) | (go_at_call 31; (with_reducible refine (kticks_is m bd v HVV.out _).mono ?_); rintro e w7 ⟨rfl, hb⟩; have G7 := G6.trans (hb.mono G6.size); have P7 := P6.below hb; have Y7 := Y6.below hb; have V7 := V6.below hb; have K7 := K6.below hb; have L7 := L6.below hb; obtain ⟨pl7, pa7, pb7, pc7⟩ := id P7; obtain ⟨yl7, ya7, yb7⟩ := id Y7; obtain ⟨kl7, ka7, kb7⟩ := id K7; clear hb) | (go_at_call 39; (with_reducible refine (kat_is l ((x : Int) + (t : Int) - v) none len cap A HO.out HN.out HOK.out hl4 z0 z1 _ L7).mono ?_); rintro e w8 ⟨rfl, hb⟩; have G8 := G7.trans (hb.mono G7.size); have P8 := P7.below hb; have Y8 := Y7.below hb; have V8 := V7.below hb; have K8 := K7.below hb; have L8 := L7.below hb; obtain ⟨pl8, pa8, pb8, pc8⟩ := id P8; obtain ⟨yl8, ya8, yb8⟩ := id Y8; obtain ⟨kl8, ka8, kb8⟩ := id K8; clear hb; obtain ⟨v0, v1, v2, f0, f1, f2⟩ := And.intro V8.at3.c0 (And.intro V8.at3.c1 (And.intro V8.at3.c2 (And.intro V8.f0 (And.intro V8.f1 V8.f2)))); have hs8 := V8.at3.lt) | fail)
              have r := (put3 V8 0 0 0).alloc (.cells #[.int .i64 0, .int .i64 0, .int .i64 0] 26)
              obtain ⟨_, r0, r1, r2⟩ := r
              refine bodyPost_ret (v := .tuple #[.agg #[.int .i64 0, .int .i64 0, .int .i64 0], .int .i64 3]) (by simp [results, Try.results20, go_sem, r0, r1, r2]) rfl ⟨rfl, ((((G8.setCell (p := ⟨w.heap.size + 1 + 1, 0, none⟩) (by simp; omega) _).setCell (p := ⟨w.heap.size + 1 + 1, 1, none⟩) (by simp; omega) _).setCell (p := ⟨w.heap.size + 1 + 1, 2, none⟩) (by simp; omega) _).alloc (by have := G8.size; simp; omega) _)⟩

          | some pr =>
            obtain ⟨k2, u2⟩ := pr
            have zn : ¬ (x : Int) + (t : Int) - v < 0 := by have := wh_range HOK.out HO.out; omega
            obtain ⟨N, hN⟩ : ∃ N, Mt.oN u2.toNat = N := ⟨_, rfl⟩
            obtain ⟨D, hD⟩ : ∃ D, Mt.oD u2.toNat = D := ⟨_, rfl⟩
            have HAT : Hid (∀ w', SlB w' A l → Calls Try.prog 39 #[.slice A len cap, .int .i64 ((x : Int) + (t : Int) - v)] w' fun e w'' => e = .returned (.tuple #[.agg #[.int .i64 (k2 : Int), .int .i64 N, .int .i64 D], .bool true]) ∧ Below w'.heap.size w' w'') := Lib.hid (fun w' hw => by
              rw [← hN, ← hD]
              exact kat_is l ((x : Int) + (t : Int) - v) (some (k2, u2)) len cap A HO.out HN.out HOK.out hl4 z0 z1 w' hw)
            have HPP : Hid (PosP (true && true && true) (some (k2, u2)) (.returned (.tuple #[.agg #[.int .i64 (k2 : Int), .int .i64 N, .int .i64 D], .int .i64 0]))) := Lib.hid (by rw [← hN, ← hD]; rfl)
            clear hN hD
            go_enter Try.func20, Try.ntmps20
            go_wp2_with (first | (go_at_call 14; (with_reducible refine (kvalid_is l true len cap A HV.out HN.out _ L0).mono ?_); rintro e w1 ⟨rfl, hb⟩; have G1 := G0.trans (hb.mono G0.size); have P1 := P0.below hb; have Y1 := Y0.below hb; have V1 := V0.below hb; have K1 := K0.below hb; have L1 := L0.below hb; obtain ⟨pl1, pa1, pb1, pc1⟩ := id P1; obtain ⟨yl1, ya1, yb1⟩ := id Y1; obtain ⟨kl1, ka1, kb1⟩ := id K1; clear hb) | (go_at_call 22; (with_reducible refine (kposition_is l _ n d true len cap A HP.out HN.out _ L1).mono ?_); rintro e w2 ⟨rfl, hb⟩; have G2 := G1.trans (hb.mono G1.size); have P2 := P1.below hb; have Y2 := Y1.below hb; have V2 := V1.below hb; have K2 := K1.below hb; have L2 := L1.below hb; obtain ⟨pl2, pa2, pb2, pc2⟩ := id P2; obtain ⟨yl2, ya2, yb2⟩ := id Y2; obtain ⟨kl2, ka2, kb2⟩ := id K2; clear hb) | (go_at_call 38; (with_reducible refine (kduration_is bn bd false HD1.out _).mono ?_); rintro e w3 ⟨rfl, hb⟩; have G3 := G2.trans (hb.mono G2.size); have P3 := P2.below hb; have Y3 := Y2.below hb; have V3 := V2.below hb; have K3 := K2.below hb; have L3 := L2.below hb; obtain ⟨pl3, pa3, pb3, pc3⟩ := id P3; obtain ⟨yl3, ya3, yb3⟩ := id Y3; obtain ⟨kl3, ka3, kb3⟩ := id K3; clear hb) | (go_at_call 38; (with_reducible refine (kduration_is m bd true HD2.out _).mono ?_); rintro e w4 ⟨rfl, hb⟩; have G4 := G3.trans (hb.mono G3.size); have P4 := P3.below hb; have Y4 := Y3.below hb; have V4 := V3.below hb; have K4 := K3.below hb; have L4 := L3.below hb; obtain ⟨pl4, pa4, pb4, pc4⟩ := id P4; obtain ⟨yl4, ya4, yb4⟩ := id Y4; obtain ⟨kl4, ka4, kb4⟩ := id K4; clear hb) | fail)
            have x0 := fun y : Ext w4 => y.cell P4.c0
            have x1 := fun y : Ext w4 => y.cell P4.c1
            have x2 := fun y : Ext w4 => y.cell P4.c2
            have hne := Ext.there w4
            have HLL := Lib.hid L4
            refine Ext.region (by kernel_rfl) (by kernel_rfl) ?_
            repeat (go_big_quiet_step ((first | (go_at_call 29; with_reducible exact Ext.call _ (kbefore_is l k (x : Int) len cap A HX.out HN.out hk HOK.out hl4 _ (HLL.out.below (Ext.h _)))) | (go_at_call 31; with_reducible exact Ext.call _ (kticks_is n d (t : Int) HT.out _)))))
            refine wpQuiet_nil ?_
            rintro _ ⟨xw, rfl⟩
            have G5 := G4.trans (xw.h.mono G4.size)
            have P5 := P4.below xw.h
            have Y5 := Y4.below xw.h
            have V5 := V4.below xw.h
            have K5 := K4.below xw.h
            have L5 := L4.below xw.h
            clear x0 x1 x2 hne HLL
            generalize xw.w = w5 at *
            clear xw
            obtain ⟨pl5, pa5, pb5, pc5⟩ := id P5
            obtain ⟨yl5, ya5, yb5⟩ := id Y5
            obtain ⟨kl5, ka5, kb5⟩ := id K5
            go_wp2_with (first | (go_at_call 38; (with_reducible refine (kduration_is bn bd false HD1.out _).mono ?_); rintro e w6 ⟨rfl, hb⟩; have G6 := G5.trans (hb.mono G5.size); have P6 := P5.below hb; have Y6 := Y5.below hb; have V6 := V5.below hb; have K6 := K5.below hb; have L6 := L5.below hb; obtain ⟨pl6, pa6, pb6, pc6⟩ := id P6; obtain ⟨yl6, ya6, yb6⟩ := id Y6; obtain ⟨kl6, ka6, kb6⟩ := id K6; clear hb) | (go_at_call 31; (with_reducible refine (kticks_is m bd v HVV.out _).mono ?_); rintro e w7 ⟨rfl, hb⟩; have G7 := G6.trans (hb.mono G6.size); have P7 := P6.below hb; have Y7 := Y6.below hb; have V7 := V6.below hb; have K7 := K6.below hb; have L7 := L6.below hb; obtain ⟨pl7, pa7, pb7, pc7⟩ := id P7; obtain ⟨yl7, ya7, yb7⟩ := id Y7; obtain ⟨kl7, ka7, kb7⟩ := id K7; clear hb) | (go_at_call 39; (with_reducible refine (HAT.out _ L7).mono ?_); rintro e w8 ⟨rfl, hb⟩; have G8 := G7.trans (hb.mono G7.size); have P8 := P7.below hb; have Y8 := Y7.below hb; have V8 := V7.below hb; have K8 := K7.below hb; have L8 := L7.below hb; obtain ⟨pl8, pa8, pb8, pc8⟩ := id P8; obtain ⟨yl8, ya8, yb8⟩ := id Y8; obtain ⟨kl8, ka8, kb8⟩ := id K8; clear hb; obtain ⟨v0, v1, v2, f0, f1, f2⟩ := And.intro V8.at3.c0 (And.intro V8.at3.c1 (And.intro V8.at3.c2 (And.intro V8.f0 (And.intro V8.f1 V8.f2)))); have hs8 := V8.at3.lt) | fail)
            have r := (put3 V8 (k2 : Int) N D).alloc (.cells #[.int .i64 (k2 : Int), .int .i64 N, .int .i64 D] 26)
            obtain ⟨_, r0, r1, r2⟩ := r
            refine bodyPost_ret (v := .tuple #[.agg #[.int .i64 (k2 : Int), .int .i64 N, .int .i64 D], .int .i64 0]) (by simp [results, Try.results20, go_sem, r0, r1, r2]) rfl ⟨HPP.out, ((((G8.setCell (p := ⟨w.heap.size + 1 + 1, 0, none⟩) (by simp; omega) _).setCell (p := ⟨w.heap.size + 1 + 1, 1, none⟩) (by simp; omega) _).setCell (p := ⟨w.heap.size + 1 + 1, 2, none⟩) (by simp; omega) _).alloc (by have := G8.size; simp; omega) _)⟩


        · rw [if_neg D2] at hq
          obtain rfl : q = false := by rw [← hq]; rfl
          have HD2 : Hid (decide (0 ≤ Mt.tk m bd) = false) := Lib.hid (by rw [hvv]; exact decide_eq_false D2)
          clear hv hp hq hO hl hL hbn hmt hval hx hx2 ht ht0 hb0 hu hvv
          go_enter Try.func20, Try.ntmps20
          go_wp2_with (first | (go_at_call 14; (with_reducible refine (kvalid_is l true len cap A HV.out HN.out _ L0).mono ?_); rintro e w1 ⟨rfl, hb⟩; have G1 := G0.trans (hb.mono G0.size); have P1 := P0.below hb; have Y1 := Y0.below hb; have V1 := V0.below hb; have K1 := K0.below hb; have L1 := L0.below hb; obtain ⟨pl1, pa1, pb1, pc1⟩ := id P1; obtain ⟨yl1, ya1, yb1⟩ := id Y1; obtain ⟨kl1, ka1, kb1⟩ := id K1; clear hb) | (go_at_call 22; (with_reducible refine (kposition_is l _ n d true len cap A HP.out HN.out _ L1).mono ?_); rintro e w2 ⟨rfl, hb⟩; have G2 := G1.trans (hb.mono G1.size); have P2 := P1.below hb; have Y2 := Y1.below hb; have V2 := V1.below hb; have K2 := K1.below hb; have L2 := L1.below hb; obtain ⟨pl2, pa2, pb2, pc2⟩ := id P2; obtain ⟨yl2, ya2, yb2⟩ := id Y2; obtain ⟨kl2, ka2, kb2⟩ := id K2; clear hb) | (go_at_call 38; (with_reducible refine (kduration_is bn bd false HD1.out _).mono ?_); rintro e w3 ⟨rfl, hb⟩; have G3 := G2.trans (hb.mono G2.size); have P3 := P2.below hb; have Y3 := Y2.below hb; have V3 := V2.below hb; have K3 := K2.below hb; have L3 := L2.below hb; obtain ⟨pl3, pa3, pb3, pc3⟩ := id P3; obtain ⟨yl3, ya3, yb3⟩ := id Y3; obtain ⟨kl3, ka3, kb3⟩ := id K3; clear hb) | (go_at_call 38; (with_reducible refine (kduration_is m bd false HD2.out _).mono ?_); rintro e w4 ⟨rfl, hb⟩; have G4 := G3.trans (hb.mono G3.size); have P4 := P3.below hb; have Y4 := Y3.below hb; have V4 := V3.below hb; have K4 := K3.below hb; have L4 := L3.below hb; obtain ⟨pl4, pa4, pb4, pc4⟩ := id P4; obtain ⟨yl4, ya4, yb4⟩ := id Y4; obtain ⟨kl4, ka4, kb4⟩ := id K4; clear hb; obtain ⟨v0, v1, v2, f0, f1, f2⟩ := And.intro V4.at3.c0 (And.intro V4.at3.c1 (And.intro V4.at3.c2 (And.intro V4.f0 (And.intro V4.f1 V4.f2)))); have hs4 := V4.at3.lt) | fail)
          refine bodyPost_ret (v := .tuple #[.agg #[.int .i64 0, .int .i64 0, .int .i64 0], .int .i64 1]) (by simp [results, Try.results20, go_sem, v0, v1, v2]) rfl ⟨rfl, ((G4.setCell (p := ⟨w.heap.size + 1 + 1, 0, none⟩) (by simp; omega) _).setCell (p := ⟨w.heap.size + 1 + 1, 1, none⟩) (by simp; omega) _).setCell (p := ⟨w.heap.size + 1 + 1, 2, none⟩) (by simp; omega) _⟩


end Go.Proofs.Ythamkigdpgajaaa
