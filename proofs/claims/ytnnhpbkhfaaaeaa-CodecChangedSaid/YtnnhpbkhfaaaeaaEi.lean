/- The walk of the landed codec's Frames. -/
import Derived.Test.YtnnhpbkhfaaaeaaEh
import Derived.Test.YtnnhpbkhfaaaeaaCy
namespace Go.Proofs.Ytnnhpbkhfaaaeaa
open Go.RowKit

theorem frames_limit (len cap : Nat) (A : Option Addr) (hl : 200000 < len) (w : World) :
    Calls Try.prog 18 #[.slice A len cap] w fun e w' => e = .returned (.tuple #[.slice none 0 0, .int .i64 0, .int .i64 2]) ∧ Below w.heap.size w w' := by
  have hl' : (200000 : Int) < (len : Int) := by omega
  go_enter Try.func18, Try.ntmps18
  go_wp2_with fail
  go_ret3
  exact ⟨rfl, Below.refl _ _⟩

set_option maxHeartbeats 1600000 in
theorem frames_is (b : List Nat) (O : List (List Int)) (M K len cap : Nat) (A : Option Addr) (h : Cd.fr b = (O, M)) (hK : O.length = K) (hl : b.length = len) (hcap : len ≤ cap) (hb : Cd.by8 b) (hmax : len ≤ 200000) (w : World) (hL : SlN .u8 w A b) :
    Calls Try.prog 18 #[.slice A len cap] w fun e w' => ∃ D c, e = .returned (.tuple #[.slice D K c, .int .i64 M, .int .i64 0]) ∧ SlL w' D O ∧ (D = none → c = 0) ∧ K ≤ c ∧ Below w.heap.size w w' := by
  have hl' : ¬ (200000 : Int) < (len : Int) := by omega
  have HN := Lib.hid hl
  have HL := Lib.hid hL
  have HB := Lib.hid hb
  have HK := Lib.hid hK
  have H0 : Hid ([] ++ (Cd.fr (b.drop 0)).1 = O ∧ 0 + (Cd.fr (b.drop 0)).2 = M) := Lib.hid (by rw [List.drop_zero, h]; exact ⟨rfl, Nat.zero_add _⟩)
  clear h hl hL hb hK
  obtain ⟨i0, hi, hz0, hz1, hz2⟩ := info_parts infoSl
  go_enter Try.func18, Try.ntmps18
  go_wp2_with fail
  go_loopw [5, 6] (fun s5 s6 wr => ∃ (k at_ : Nat) (acc : List (List Int)) (xs : List Value), at_ ≤ len ∧ k ≤ at_ ∧ s6 = .int .i64 (at_ : Int) ∧ wr.ownsRow w.heap.size 22 1 s5 k xs ∧ Hid (IsL wr xs acc ∧ IsT wr xs) ∧ Hid (acc ++ (Cd.fr (b.drop at_)).1 = O ∧ at_ + (Cd.fr (b.drop at_)).2 = M) ∧ Below w.heap.size w wr) (fun _ s6 _ => len - (intOf s6).toNat)
  case atStart => exact ⟨0, 0, [], [], Nat.zero_le _, Nat.zero_le _, rfl, World.ownsRow_lit (size := 1) w #[] 0 (Nat.le_refl _) (by unfold maxLen; omega) rfl, Lib.hid ⟨⟨rfl, fun i hi => by simp at hi⟩, fun i C n c hi => by simp at hi⟩, H0, (Below.refl _ _).alloc (Nat.le_refl _) _⟩
  case round =>
    clear H0
    obtain ⟨k, at_, acc, xs, hat, hk, rfl, hown, HI, HE, hG⟩ := hrel
    have HND : Hid ((b.drop at_).length = len - at_) := Lib.hid (by rw [List.length_drop, HN.out])
    have HBD : Hid (Cd.by8 (b.drop at_)) := Lib.hid (HB.out.drop at_)
    have hLw := HL.out.below hG
    have HS1 := Lib.hid (hLw.drop at_)
    clear hLw
    have hm9 : len - at_ ≤ 1000000000 := by omega
    have hcd : len - at_ ≤ cap - at_ := by omega
    cases hr : Cd.whole (b.drop at_) with
    | none =>
      have hE := HE.out
      rw [Cd.fr_none hr, List.append_nil, Nat.add_zero] at hE
      obtain ⟨rfl, rfl⟩ := hE
      have HR := Lib.hid hr
      obtain ⟨hlen, D, c, rfl, hsl⟩ := own_l hown HI.out.1
      have hD := own_none hown
      have hkc := own_cap hown
      have hKk : K = k := HK.out.symm.trans hlen
      subst hKk
      clear hr HE
      by_cases hca : cap = at_
      · obtain rfl : at_ = len := by omega
        subst hca
        have HR3 : Hid (Cd.whole [] = none) := Lib.hid rfl
        go_wp2_with (first | (go_at_call 32; (with_reducible refine (first_is [] none 0 0 A HR3.out rfl (Nat.le_refl 0) (by simp [Cd.by8]) (by omega) _ (SlN.nil _ _ _)).mono ?_); rintro e w2 ⟨⟨k2, rfl⟩, hb2⟩) | fail)
        go_ret3
        exact ⟨D, c, rfl, hsl.below hb2, hD, hkc, hG.trans (hb2.mono hG.size)⟩
      · go_wp2_with (first | (go_at_call 32; (with_reducible refine (first_is (b.drop at_) none (len - at_) (cap - at_) (Option.map (fun x => x.add at_) A) HR.out HND.out hcd HBD.out hm9 _ HS1.out).mono ?_); rintro e w2 ⟨⟨k2, rfl⟩, hb2⟩) | fail)
        go_ret3
        exact ⟨D, c, rfl, hsl.below hb2, hD, hkc, hG.trans (hb2.mono hG.size)⟩
    | some p =>
      obtain ⟨g, z⟩ := p
      have hE := HE.out
      rw [Cd.fr_some hr] at hE
      obtain ⟨z0, z1⟩ := Cd.whole_pos hr
      rw [HND.out] at z1
      have HE2 : Hid ((acc ++ [g]) ++ (Cd.fr (b.drop (at_ + z))).1 = O ∧ (at_ + z) + (Cd.fr (b.drop (at_ + z))).2 = M) := Lib.hid (by
        rw [← List.drop_drop]
        simp only at hE
        refine ⟨?_, by rw [Nat.add_assoc]; exact hE.2⟩
        rw [List.append_assoc]
        exact hE.1)
      have HR := Lib.hid hr
      obtain ⟨n, hn⟩ : ∃ n, g.length = n := ⟨_, rfl⟩
      have Hn := Lib.hid hn
      clear hr HE hE hn
      by_cases hca : cap = at_
      · exfalso
        omega
      · go_wp2_with (first | (go_at_call 32; (with_reducible refine (first_is (b.drop at_) (some (g, z)) (len - at_) (cap - at_) (Option.map (fun x => x.add at_) A) HR.out HND.out hcd HBD.out hm9 _ HS1.out).mono ?_); rintro e w2 ⟨⟨D, c, rfl, S2, hD2, hT2⟩, hb2⟩; rw [Hn.out]) | (at_builtin; refine wpList_append_own _ rfl _ _ 32 rfl w.heap.size 22 i0 (.slice none 0 0) 1 24 Try.underlying32 hi hz0 hz1 hz2 rfl (by decide) _ _ _ rfl ((hown.kept (below_grown hb2 none) none_ne).alloc _) ⟨w2.heap.size, 0, none⟩ 1 1 [.slice D n c] rfl rfl (cell_one_new _ _ _) (fun u hu => by simp at hu; subst hu; rfl) (by unfold maxLen; omega) (by omega) (by have := hG.size; have := hb2.size; simp; omega) ?_; intro v4 w4 hown4 hgrow4 hnil4) | fail)
        have hownk := (hown.kept (below_grown hb2 none) none_ne).alloc (.cells #[.slice D n c] 22)
        have hG4 := ((hG.trans (hb2.mono hG.size)).alloc (by have := hG.size; have := hb2.size; omega) _).grown hgrow4 (by have := hG.size; have := hb2.size; simp; omega) (own_ne (hown.kept (below_grown hb2 none) none_ne))
        go_roundw
        case rel => exact ⟨k + 1, at_ + z, acc ++ [g], _, by omega, by omega, by simp, hown4, Lib.hid (by
            have Ba := (Below.refl w2.heap.size w2).alloc (Nat.le_refl _) (.cells #[.slice D n c] 22)
            have hT := ((HI.out.2.below hb2).below Ba).snoc (C := D) (n := n) (c := c) (hT2.below Ba)
            exact ⟨(((HI.out.1.below hb2).below Ba).app (IsL.one Hn.out (S2.below Ba) hD2)).grownT hT hownk hgrow4, hT.grown hownk hgrow4⟩), HE2, hG4⟩
        case measure => simp only [intOf]; omega
end Go.Proofs.Ytnnhpbkhfaaaeaa
