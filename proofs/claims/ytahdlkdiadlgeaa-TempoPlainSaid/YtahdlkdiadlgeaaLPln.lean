import Derived.Test.YtahdlkdiadlgeaaGAX
/- The walk of the law TempoPlain. -/
namespace Go.Proofs.Ytahdlkdiadlgeaa
open Go.RowKit

set_option maxRecDepth 100000 in
set_option maxHeartbeats 25600000 in
theorem tempoPlain_walk (n1 c1 : Nat) (A1 : Option Addr) (bs : List Mt.B) (h1 : bs.length = n1) (n2 c2 : Nat) (A2 : Option Addr) (l : List Fo.T3) (h2 : l.length = n2) (one : Int) (h3 : 0 ≤ one ∧ one < 256) (two : Int) (h4 : 0 ≤ two ∧ two < 256) (hwf : Mt.Wf bs) (w : World) (hB : SlB w A1 bs) (hL : SlT w A2 l) :
    Calls Try.prog 6 #[.slice A1 n1 c1, .slice A2 n2 c2, .int .u8 one, .int .u8 two] w fun e w' => e = .returned (.bool true) ∧ Below w.heap.size w w' := by
  have HWF := Lib.hid hwf
  clear hwf
  obtain ⟨u, hu⟩ : ∃ u : Bool, u = true ↔ useT bs l n1 n2 := ⟨@decide _ (Classical.propDecidable _), @decide_eq_true_iff _ (Classical.propDecidable _)⟩
  have HU := Lib.hid hu; have HN1 := Lib.hid h1; have HN2 := Lib.hid h2; have HB := Lib.hid hB; have HL := Lib.hid hL
  clear hu h1 h2 hB hL
  have B := Below.refl w.heap.size w
  go_enter Try.func6, Try.ntmps6
  go_wp2_with fail
  refine (head_any _).mono ?_; rintro e w1 ⟨rfl, hb⟩
  replace B := B.trans (hb.mono B.size); clear hb
  go_wp2_with fail
  refine (lusable_is bs l u n1 c1 n2 c2 A1 A2 HU.out HN1.out HN2.out _ (HB.out.below B) (HL.out.below B)).mono ?_; rintro e w2 ⟨rfl, hb⟩
  replace B := B.trans (hb.mono B.size); clear hb
  cases u with
  | false =>
    go_wp2_with fail
    go_ret
    exact ⟨rfl, B⟩
  | true =>
  have HV := Lib.hid (HU.out.1 rfl).2.2
  have hn40 : n1 ≤ 40 := (HU.out.1 rfl).1
  obtain ⟨i, hi⟩ : ∃ i : Nat, one % ((n1 : Int) + 1) = (i : Int) := ⟨(one % ((n1 : Int) + 1)).toNat, by have := Int.emod_nonneg one (show (n1 : Int) + 1 ≠ 0 by omega); omega⟩
  have hin : i ≤ n1 := by have := Int.emod_lt_of_pos one (show 0 < (n1 : Int) + 1 by omega); omega
  obtain ⟨k, hk⟩ : ∃ k : Nat, two % ((n1 : Int) + 1 - (i : Int)) = (k : Int) := ⟨(two % ((n1 : Int) + 1 - (i : Int))).toNat, by have := Int.emod_nonneg two (show (n1 : Int) + 1 - (i : Int) ≠ 0 by omega); omega⟩
  have hkn : i + k ≤ n1 := by have := Int.emod_lt_of_pos two (show 0 < (n1 : Int) + 1 - (i : Int) by omega); omega
  have hi2 : one.tmod ((n1 : Int) + 1) = (i : Int) := by rw [Int.tmod_eq_emod_of_nonneg (by omega)]; exact hi
  have hk2 : two.tmod ((n1 : Int) + 1 - (i : Int)) = (k : Int) := by rw [Int.tmod_eq_emod_of_nonneg (by omega)]; exact hk
  have hz1 : ¬ (n1 : Int) + 1 = 0 := by omega
  have hz2 : ¬ (n1 : Int) + 1 - (i : Int) = 0 := by omega
  obtain ⟨N, D, E, S⟩ := Te.secA_ex bs l (i : Int) 0 1 ((i : Int) + (k : Int)) 0 1
  obtain ⟨PA, HE⟩ : Te.PlaA bs l (Te.pf n1) (i : Int) ((i : Int) + (k : Int)) N D E ∧ (E = 0 ∨ E = 3) := by
    have h := Te.plain HV.out (i := i) (j := i + k) (by omega) (by rw [HN1.out]; exact hkn) (N := N) (D := D) (E := E) (by rw [show ((i + k : Nat) : Int) = (i : Int) + (k : Int) by omega]; exact S)
    rw [HN1.out, show ((i + k : Nat) : Int) = (i : Int) + (k : Int) by omega] at h
    exact h
  replace S := Lib.hid S; replace PA := Lib.hid PA; replace HE := Lib.hid HE
  go_wp2_with fail
  refine (wPlayed_is bs l ⟨(n1 : Int), none, 0, 0, none, 0, 0, 0, 0, 0, none, 0, 0⟩ (Te.pf n1) (i : Int) ((i : Int) + (k : Int)) N D E PA.out n1 c1 n2 c2 A1 A2 HN1.out HN2.out HWF.out (fun c hc => by cases hc) _ (HB.out.below B) (HL.out.below B) ⟨rfl, rfl, rfl, rfl, rfl, rfl, rfl, SlT.nil _ _, SlT.nil _ _, SlT.nil _ _⟩).mono ?_; rintro e w3 ⟨rfl, hb⟩
  replace B := B.trans (hb.mono B.size); clear hb
  have RA := Var2.new w3 N D 25
  replace B := B.alloc B.size (.cells #[.int .i64 N, .int .i64 D] 25)
  have ra_0 := RA.at2.c0; have ra_1 := RA.at2.c1; have ra_l := RA.at2.lt
  go_wp2_with fail
  clear ra_0 ra_1 ra_l
  refine (lrat_is 0 1 _).mono ?_; rintro e w4 ⟨rfl, hb⟩
  replace RA := RA.below hb; replace B := B.trans (hb.mono B.size); clear hb
  go_wp2_with fail
  refine (lrat_is 0 1 _).mono ?_; rintro e w5 ⟨rfl, hb⟩
  replace RA := RA.below hb; replace B := B.trans (hb.mono B.size); clear hb
  go_wp2_with fail
  refine (wSeconds_is bs l (i : Int) 0 1 ((i : Int) + (k : Int)) 0 1 N D E S.out n1 c1 n2 c2 A1 A2 HN1.out HN2.out HWF.out _ (HB.out.below B) (HL.out.below B)).mono ?_; rintro e w6 ⟨rfl, hb⟩
  replace RA := RA.below hb; replace B := B.trans (hb.mono B.size); clear hb
  have RB := Var2.new w6 N D 25
  replace RA := RA.alloc (.cells #[.int .i64 N, .int .i64 D] 25); replace B := B.alloc B.size (.cells #[.int .i64 N, .int .i64 D] 25)
  have heq := fun W => eqRatT N D N D true ⟨fun _ => ⟨rfl, rfl⟩, fun _ => rfl⟩ W
  rcases HE.out with rfl | rfl
  all_goals
    have ra_0 := RA.at2.c0; have ra_1 := RA.at2.c1; have ra_l := RA.at2.lt
    have rb_0 := RB.at2.c0; have rb_1 := RB.at2.c1; have rb_l := RB.at2.lt
    go_wp2_with fail
    clear ra_0 ra_1 ra_l rb_0 rb_1 rb_l
    go_ret
    exact ⟨rfl, B⟩
end Go.Proofs.Ytahdlkdiadlgeaa
