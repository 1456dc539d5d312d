/- The walk of the reference's Decimal. -/
import Derived.Test.YtmpimbolhjmapaaDoorDs
import Derived.Lib.AppendStr
import Derived.Laws.BytesArg
import Derived.Lib.ItoaLen
namespace Go.Proofs.YtmpimbolhjmapaaDoor
open Go.RowKit

namespace Dg
/-- The digits of a number that is not 0, and of 0 none. -/
def dR (u : Nat) : List Nat := if u = 0 then [] else (Lib.decDigits u).map UInt8.toNat
theorem dR_zero : dR 0 = [] := rfl
theorem dR_step {u : Nat} (h : u ≠ 0) : dR u = dR (u / 10) ++ [48 + u % 10] := by
  have e : (UInt8.ofNat (48 + u % 10)).toNat = 48 + u % 10 := by simp; omega
  unfold dR
  rw [if_neg h]
  by_cases h1 : u < 10
  · rw [if_pos (by omega), Lib.decDigits_one h1]
    simp
    omega
  · rw [if_neg (by omega), Lib.decDigits, dif_neg h1, List.map_append, List.map_cons, List.map_nil, e]
theorem dR_len {u : Nat} (h : u < 18446744073709551616) : (dR u).length ≤ 20 := by
  unfold dR
  split
  · simp
  · rw [List.length_map, Lib.decDigits_length]; exact Lib.nDigits_le20 u h
theorem dec_zero : dec 0 = [48] := by
  unfold dec
  rw [show (0 : Int) = ((0 : Nat) : Int) from rfl, Lib.itoa_nonneg, Lib.decDigits_one (by omega)]
  simp
theorem dec_pos {n : Int} (h : 0 < n) : dec n = dR n.natAbs := by
  obtain ⟨u, rfl⟩ := Int.eq_ofNat_of_zero_le (Int.le_of_lt h)
  unfold dec dR
  rw [Lib.itoa_nonneg, if_neg (by omega), Int.natAbs_natCast]
theorem dec_neg {n : Int} (h : n < 0) : dec n = 45 :: dR n.natAbs := by
  obtain ⟨u, hu⟩ := Int.eq_ofNat_of_zero_le (a := -n) (by omega)
  obtain rfl : n = -(u : Int) := by omega
  unfold dec dR
  rw [Lib.itoa_neg u (by omega), if_neg (by omega), Int.natAbs_neg, Int.natAbs_natCast, List.map_cons]
  simp
/-- The bytes of an integer's text, as a string. -/
theorem str_dec (n : Int) : strOfNums ((dec n).map fun (x : Nat) => (x : Int)) = ⟨(Lib.itoa n).toArray⟩ := by
  unfold strOfNums dec
  rw [List.map_map, List.map_map]
  congr 2
  conv => rhs; rw [← List.map_id (Lib.itoa n)]
  apply List.map_congr_left
  intro x _
  simp
end Dg
theorem infoByte : (Tryd.prog.info? 5).map (fun i => (i.zero, i.size, i.bytes)) = some (some (.int .u8 0), 1, 1) := by kernel_rfl

/-- One round of the digits' loop: m is what is left, of one sign. -/
theorem digit_facts {m : Int} {M : Nat} (h : m = (M : Int) ∨ m = -(M : Int)) (l0 : -9223372036854775808 ≤ m) (l1 : m ≤ 9223372036854775807) :
    ∃ g m2 : Int, m.tmod 10 = g ∧ m.tdiv 10 = m2 ∧ (m2 = ((M / 10 : Nat) : Int) ∨ m2 = -((M / 10 : Nat) : Int)) ∧ -9 ≤ g ∧ g ≤ 9 ∧ (g = ((M % 10 : Nat) : Int) ∨ g = -((M % 10 : Nat) : Int)) ∧ -9223372036854775808 ≤ m2 ∧ m2 ≤ 9223372036854775807 := by
  rcases h with rfl | rfl
  · have e1 : ((M : Int)).tmod 10 = ((M % 10 : Nat) : Int) := by rw [Int.tmod_eq_emod_of_nonneg (by omega)]; omega
    have e2 : ((M : Int)).tdiv 10 = ((M / 10 : Nat) : Int) := by have := Int.mul_tdiv_add_tmod (M : Int) 10; omega
    exact ⟨_, _, e1, e2, .inl rfl, by omega, by omega, .inl rfl, by omega, by omega⟩
  · have e1 : (-(M : Int)).tmod 10 = -((M % 10 : Nat) : Int) := by rw [Int.neg_tmod, Int.tmod_eq_emod_of_nonneg (by omega)]; omega
    have e2 : (-(M : Int)).tdiv 10 = -((M / 10 : Nat) : Int) := by have := Int.mul_tdiv_add_tmod (-(M : Int)) 10; omega
    exact ⟨_, _, e1, e2, .inr rfl, by omega, by omega, .inr rfl, by omega, by omega⟩

set_option maxHeartbeats 1600000 in
theorem kdecimal_is (n : Int) (l0 : -9223372036854775808 ≤ n) (l1 : n ≤ 9223372036854775807) (S : ByteArray) (hS : S = ⟨(Lib.itoa n).toArray⟩) (w : World) :
    Calls Tryd.prog 21 #[.int .i64 n] w fun e w' => e = .returned (.string S) ∧ Below w.heap.size w w' := by
  have HS : Hid (strOfNums ((Dg.dec n).map fun (x : Nat) => (x : Int)) = S) := Lib.hid (by rw [hS, Dg.str_dec])
  clear hS
  by_cases h0 : n = 0
  · subst h0
    obtain rfl : S = ⟨#[48]⟩ := by rw [← HS.out, Dg.dec_zero]; rfl
    go_enter Tryd.func21, Tryd.ntmps21
    go_wp2
    go_ret
    exact ⟨rfl, Below.refl _ _⟩
  · have h0' : (n == 0) = false := by simpa using h0
    obtain ⟨i0, hi, hz0, hz1, hz2⟩ := info_parts infoByte
    have hN : n.natAbs < 18446744073709551616 := by omega
    have HLN := Lib.hid (Dg.dR_len hN)
    go_enter Tryd.func21, Tryd.ntmps21
    go_wp2
    go_loopw [3, 4, 5] (fun s3 s4 s5 wr => ∃ (m : Int) (M : Nat) (bs : List Nat), s4 = .int .i64 m ∧ (m = (M : Int) ∨ m = -(M : Int)) ∧ M < 18446744073709551616 ∧ -9223372036854775808 ≤ m ∧ m ≤ 9223372036854775807 ∧ bs.length ≤ 20 ∧ wr.ownsRow w.heap.size 5 1 s3 bs.length (vN .u8 bs) ∧ Hid (Dg.dR n.natAbs = Dg.dR M ++ bs.reverse) ∧ Hid (∀ x ∈ bs, x < 256) ∧ Below w.heap.size w wr) (fun _ s4 _ _ => (intOf s4).natAbs)
    case atStart => exact ⟨n, n.natAbs, [], rfl, by omega, hN, l0, l1, by simp, World.ownsRow_nil _ _ _ _, Lib.hid (by simp), Lib.hid (by simp), Below.refl _ _⟩
    case round =>
      obtain ⟨m, M, bs, rfl, hm, hM, m0, m1, hlb, hown, HE, HB, hG⟩ := hrel
      by_cases hz : M = 0
      · have hm0 : m = 0 := by omega
        subst hm0 hz
        have hE := HE.out
        rw [Dg.dR_zero, List.nil_append] at hE
        obtain ⟨hlen, A, cap, rfl, hsl⟩ := own_n hown
        by_cases hsn : n < 0
        · have HC0 : Hid ((bs ++ [45]).reverse = Dg.dec n) := Lib.hid (by rw [Dg.dec_neg hsn, hE]; simp)
          clear hE hsl HE
          obtain ⟨L, hLL⟩ : ∃ L, bs.length + 1 = L := ⟨_, rfl⟩
          go_wp2_with (first | (at_builtin; refine wpList_append_own _ rfl _ _ 22 rfl w.heap.size 5 i0 (.int .u8 0) 1 1 Tryd.underlying22 hi hz0 hz1 hz2 rfl (by decide) _ _ _ rfl (hown.alloc _) ⟨wr.heap.size, 0, none⟩ 1 1 [.int .u8 (45)] rfl rfl (cell_one_new _ _ _) (fun u hu => by simp at hu; subst hu; rfl) (by unfold maxLen; omega) (by omega) (by have := hG.size; simp; omega) ?_; intro v' w4 hown4 hgrow hnil; have hown' : w4.ownsRow w.heap.size 5 1 v' L (vN .u8 (bs ++ [45])) := (by rw [← hLL, vN_app]; exact hown4); obtain ⟨hlen2, A2, cap2, rfl, hsl2⟩ := own_n hown') | fail)
          replace hG := (hG.alloc hG.size _).grown hgrow (by have := hG.size; simp; omega) (own_ne hown)
          have HC := HC0
          clear hown hown4 hown' hgrow hnil HC0 HB hlen
          generalize bs ++ [45] = cs at *
          have HLC := Lib.hid hlen2
          have HSL := Lib.hid hsl2
          clear hlen2 hsl2
          have hLm : L ≤ 21 := by omega
          generalize hwq : w4 = wq at *
          have hL1 : 1 ≤ L := by
            have h1 := congrArg List.length HC.out
            rw [List.length_reverse, HLC.out] at h1
            by_cases hp : n < 0
            · rw [Dg.dec_neg hp] at h1; simp at h1; omega
            · rw [Dg.dec_pos (by omega), Dg.dR_step (by omega)] at h1; simp at h1; omega
          go_loopw [6, 7] (fun s6 s7 wr => ∃ j : Nat, j ≤ L ∧ s7 = .int .i64 ((L : Int) - 1 - j) ∧ wr.ownsRow wq.heap.size 5 1 s6 j (vN .u8 (cs.reverse.take j)) ∧ Below wq.heap.size wq wr) (fun _ s7 _ => (intOf s7 + 1).toNat)
          case atStart => exact ⟨0, Nat.zero_le _, by simp, World.ownsRow_nil _ _ _ _, Below.refl _ _⟩
          case round =>
            obtain ⟨j, hj, rfl, hown5, hQ⟩ := hrel
            by_cases hjl : j < L
            · have hcs : j < cs.reverse.length := by rw [List.length_reverse, HLC.out]; exact hjl
              obtain ⟨b, off, rfl, hb, hc⟩ := HSL.out (by have := HLC.out; omega)
              have x0 := (hQ.cell (p := ⟨b, off + (L - 1 - j), none⟩) hb).trans (hc (L - 1 - j) (by have := HLC.out; omega))
              have ei : (L : Int) - 1 - j = ((L - 1 - j : Nat) : Int) := by omega
              have HT : Hid (vN .u8 (cs.reverse.take j) ++ [.int .u8 (atN cs (L - 1 - j) : Int)] = vN .u8 (cs.reverse.take (j + 1))) := Lib.hid (by
                rw [List.take_succ_eq_append_getElem hcs, vN_app]
                congr 1
                rw [List.getElem_reverse]
                have hk : cs.length - 1 - j = L - 1 - j := by rw [HLC.out]
                show [_] = [_]
                congr 2
                rw [atN_eq (by have := HLC.out; omega)]
                congr 1
                simp only [hk])
              have e1 : ((L - 1 - j : Nat) : Int) - 1 = (L : Int) - 1 - ((j + 1 : Nat) : Int) := by omega
              have hidx : L - 1 - j < L := by omega
              have i0' : (0 : Int) ≤ ((L - 1 - j : Nat) : Int) := by omega
              rw [ei]
              clear ei hc
              generalize hI : L - 1 - j = I at *
              generalize atN cs I = z at *
              go_wp2_with (first | (at_builtin; refine wpList_append_own _ rfl _ _ 22 rfl wq.heap.size 5 i0 (.int .u8 0) 1 1 Tryd.underlying22 hi hz0 hz1 hz2 rfl (by decide) _ _ _ rfl (hown5.alloc _) ⟨wr.heap.size, 0, none⟩ 1 1 [.int .u8 ((z : Int))] rfl rfl (cell_one_new _ _ _) (fun u hu => by simp at hu; subst hu; rfl) (by unfold maxLen; omega) (by omega) (by have := hQ.size; simp; omega) ?_; intro v' w4 hown4 hgrow hnil) | fail)
              go_roundw
              case rel =>
                refine ⟨j + 1, by omega, (by first | (rw [e1]; done) | (congr 1; done) | (congr 1; omega)), ?_, (hQ.alloc hQ.size _).grown hgrow (by have := hQ.size; simp; omega) (own_ne hown5)⟩
                rw [HT.out] at hown4
                exact hown4
              case measure => simp only [intOf]; omega
            · obtain rfl : j = L := by omega
              have hr : cs.reverse.take j = cs.reverse := List.take_of_length_le (by rw [List.length_reverse, HLC.out]; omega)
              rw [hr] at hown5
              obtain ⟨hlr, A5, cap5, rfl, hsl5⟩ := own_n hown5
              obtain ⟨b, off, rfl, hb, hc⟩ := hsl5 (by omega)
              have hcv := run_convert_bytes_arg (P := Tryd.prog) wr 22 5 Tryd.underlying22 Tryd.underlying5 b off j cap5 (cs.reverse.map fun (x : Nat) => (x : Int)) (by rw [List.length_map, hlr]) (fun i hi => by
                rw [hc i (by omega)]
                congr 2
                rw [List.getD_eq_getElem?_getD, List.getElem?_map, atN_eq (by omega), List.getElem?_eq_getElem (by omega)]
                rfl) 9 Tryd.underlying9
              rw [HC.out, HS.out] at hcv
              have em : ¬ (0 : Int) ≤ (j : Int) - 1 - j := by omega
              go_wp2_with fail
              go_ret
              exact ⟨rfl, hG.trans (hQ.mono hG.size)⟩
        · have HC : Hid (bs.reverse = Dg.dec n) := Lib.hid (by rw [Dg.dec_pos (by omega), hE])
          clear hE hown HE HB
          generalize bs = cs at *
          generalize hLL : cs.length = L at *
          have HLC := Lib.hid hLL
          have HSL := Lib.hid hsl
          clear hsl hLL hlen
          have hLm : L ≤ 21 := by omega
          generalize hwq : wr = wq at *
          go_wp2_with fail
          have hL1 : 1 ≤ L := by
            have h1 := congrArg List.length HC.out
            rw [List.length_reverse, HLC.out] at h1
            by_cases hp : n < 0
            · rw [Dg.dec_neg hp] at h1; simp at h1; omega
            · rw [Dg.dec_pos (by omega), Dg.dR_step (by omega)] at h1; simp at h1; omega
          go_loopw [6, 7] (fun s6 s7 wr => ∃ j : Nat, j ≤ L ∧ s7 = .int .i64 ((L : Int) - 1 - j) ∧ wr.ownsRow wq.heap.size 5 1 s6 j (vN .u8 (cs.reverse.take j)) ∧ Below wq.heap.size wq wr) (fun _ s7 _ => (intOf s7 + 1).toNat)
          case atStart => exact ⟨0, Nat.zero_le _, by simp, World.ownsRow_nil _ _ _ _, Below.refl _ _⟩
          case round =>
            obtain ⟨j, hj, rfl, hown5, hQ⟩ := hrel
            by_cases hjl : j < L
            · have hcs : j < cs.reverse.length := by rw [List.length_reverse, HLC.out]; exact hjl
              obtain ⟨b, off, rfl, hb, hc⟩ := HSL.out (by have := HLC.out; omega)
              have x0 := (hQ.cell (p := ⟨b, off + (L - 1 - j), none⟩) hb).trans (hc (L - 1 - j) (by have := HLC.out; omega))
              have ei : (L : Int) - 1 - j = ((L - 1 - j : Nat) : Int) := by omega
              have HT : Hid (vN .u8 (cs.reverse.take j) ++ [.int .u8 (atN cs (L - 1 - j) : Int)] = vN .u8 (cs.reverse.take (j + 1))) := Lib.hid (by
                rw [List.take_succ_eq_append_getElem hcs, vN_app]
                congr 1
                rw [List.getElem_reverse]
                have hk : cs.length - 1 - j = L - 1 - j := by rw [HLC.out]
                show [_] = [_]
                congr 2
                rw [atN_eq (by have := HLC.out; omega)]
                congr 1
                simp only [hk])
              have e1 : ((L - 1 - j : Nat) : Int) - 1 = (L : Int) - 1 - ((j + 1 : Nat) : Int) := by omega
              have hidx : L - 1 - j < L := by omega
              have i0' : (0 : Int) ≤ ((L - 1 - j : Nat) : Int) := by omega
              rw [ei]
              clear ei hc
              generalize hI : L - 1 - j = I at *
              generalize atN cs I = z at *
              go_wp2_with (first | (at_builtin; refine wpList_append_own _ rfl _ _ 22 rfl wq.heap.size 5 i0 (.int .u8 0) 1 1 Tryd.underlying22 hi hz0 hz1 hz2 rfl (by decide) _ _ _ rfl (hown5.alloc _) ⟨wr.heap.size, 0, none⟩ 1 1 [.int .u8 ((z : Int))] rfl rfl (cell_one_new _ _ _) (fun u hu => by simp at hu; subst hu; rfl) (by unfold maxLen; omega) (by omega) (by have := hQ.size; simp; omega) ?_; intro v' w4 hown4 hgrow hnil) | fail)
              go_roundw
              case rel =>
                refine ⟨j + 1, by omega, (by first | (rw [e1]; done) | (congr 1; done) | (congr 1; omega)), ?_, (hQ.alloc hQ.size _).grown hgrow (by have := hQ.size; simp; omega) (own_ne hown5)⟩
                rw [HT.out] at hown4
                exact hown4
              case measure => simp only [intOf]; omega
            · obtain rfl : j = L := by omega
              have hr : cs.reverse.take j = cs.reverse := List.take_of_length_le (by rw [List.length_reverse, HLC.out]; omega)
              rw [hr] at hown5
              obtain ⟨hlr, A5, cap5, rfl, hsl5⟩ := own_n hown5
              obtain ⟨b, off, rfl, hb, hc⟩ := hsl5 (by omega)
              have hcv := run_convert_bytes_arg (P := Tryd.prog) wr 22 5 Tryd.underlying22 Tryd.underlying5 b off j cap5 (cs.reverse.map fun (x : Nat) => (x : Int)) (by rw [List.length_map, hlr]) (fun i hi => by
                rw [hc i (by omega)]
                congr 2
                rw [List.getD_eq_getElem?_getD, List.getElem?_map, atN_eq (by omega), List.getElem?_eq_getElem (by omega)]
                rfl) 9 Tryd.underlying9
              rw [HC.out, HS.out] at hcv
              have em : ¬ (0 : Int) ≤ (j : Int) - 1 - j := by omega
              go_wp2_with fail
              go_ret
              exact ⟨rfl, hG.trans (hQ.mono hG.size)⟩
      · obtain ⟨g, m2, e1, e2, hm2, g0, g1, hg, k0, k1⟩ := digit_facts hm m0 m1
        have hmz : (m == 0) = false := by simp; omega
        have HE2 : Hid (Dg.dR n.natAbs = Dg.dR (M / 10) ++ (bs ++ [48 + M % 10]).reverse) := Lib.hid (by rw [HE.out, Dg.dR_step hz]; simp)
        have hlb2 : bs.length + 1 ≤ 20 := by
          have h1 := congrArg List.length HE2.out
          have h2 := HLN.out
          simp at h1
          omega
        have hM10 : M % 10 < 10 := by omega
        have hdec : (intOf (.int .i64 m2)).natAbs < (intOf (.int .i64 m)).natAbs := by simp only [intOf]; omega
        have HB2 : Hid (∀ x ∈ bs ++ [48 + M % 10], x < 256) := Lib.hid (fun x hx => by
          rcases List.mem_append.1 hx with h | h
          · exact HB.out x h
          · simp at h; omega)
        have e4 : ((48 + ((M % 10 : Nat) : Int)) % 256) = ((48 + M % 10 : Nat) : Int) := by omega
        have hvn : Hid (vN .u8 bs ++ [.int .u8 ((48 + M % 10 : Nat) : Int)] = vN .u8 (bs ++ [48 + M % 10])) := Lib.hid (by rw [vN_app]; rfl)
        have hM2 : M / 10 < 18446744073709551616 := by omega
        clear HE hM HLN
        generalize M / 10 = M2 at *
        generalize hG0 : M % 10 = G at *
        by_cases hneg : g < 0
        · have e3 : -g = (G : Int) := by omega
          go_wp2_with (first | (at_builtin; refine wpList_append_own _ rfl _ _ 22 rfl w.heap.size 5 i0 (.int .u8 0) 1 1 Tryd.underlying22 hi hz0 hz1 hz2 rfl (by decide) _ _ _ rfl (hown.alloc _) ⟨wr.heap.size, 0, none⟩ 1 1 [.int .u8 (((48 + G : Nat) : Int))] rfl rfl (cell_one_new _ _ _) (fun u hu => by simp at hu; subst hu; rfl) (by unfold maxLen; omega) (by omega) (by have := hG.size; simp; omega) ?_; intro v' w4 hown4 hgrow hnil) | fail)
          go_roundw
          case rel =>
            refine ⟨m2, M2, bs ++ [48 + G], rfl, hm2, hM2, k0, k1, by simp; omega, ?_, HE2, HB2, (hG.alloc hG.size _).grown hgrow (by have := hG.size; simp; omega) (own_ne hown)⟩
            rw [hvn.out] at hown4
            rw [List.length_append]
            exact hown4
          case measure => exact hdec
        · have e3 : g = (G : Int) := by omega
          subst e3
          go_wp2_with (first | (at_builtin; refine wpList_append_own _ rfl _ _ 22 rfl w.heap.size 5 i0 (.int .u8 0) 1 1 Tryd.underlying22 hi hz0 hz1 hz2 rfl (by decide) _ _ _ rfl (hown.alloc _) ⟨wr.heap.size, 0, none⟩ 1 1 [.int .u8 (((48 + G : Nat) : Int))] rfl rfl (cell_one_new _ _ _) (fun u hu => by simp at hu; subst hu; rfl) (by unfold maxLen; omega) (by omega) (by have := hG.size; simp; omega) ?_; intro v' w4 hown4 hgrow hnil) | fail)
          go_roundw
          case rel =>
            refine ⟨m2, M2, bs ++ [48 + G], rfl, hm2, hM2, k0, k1, by simp; omega, ?_, HE2, HB2, (hG.alloc hG.size _).grown hgrow (by have := hG.size; simp; omega) (own_ne hown)⟩
            rw [hvn.out] at hown4
            rw [List.length_append]
            exact hown4
          case measure => exact hdec
end Go.Proofs.YtmpimbolhjmapaaDoor
