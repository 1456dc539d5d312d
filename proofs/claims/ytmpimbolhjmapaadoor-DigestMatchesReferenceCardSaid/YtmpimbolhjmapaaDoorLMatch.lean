/- The walk of DigestMatchesReference. -/
import Derived.Test.YtmpimbolhjmapaaDoorDh
namespace Go.Proofs.YtmpimbolhjmapaaDoor
open Go.RowKit

set_option maxHeartbeats 1600000 in
theorem digestMatchesReference_walk (B0 : Option Addr) (lb cb : Nat) (b : List Nat) (hlb : b.length = lb) (hb8 : ∀ x ∈ b, x < 256) (d : Int) (hd : 0 ≤ d ∧ d < 18446744073709551616) (A : Option Addr) (len cap : Nat) (l : List Int) (hl : l.length = len) (hw : ∀ x ∈ l, -9223372036854775808 ≤ x ∧ x ≤ 9223372036854775807) (C : Option Addr) (n cc : Nat) (c : List (List Int)) (hc : c.length = n) (hn : n ≤ 9223372036854775807) (hcw : ∀ g ∈ c, ∀ x ∈ g, -9223372036854775808 ≤ x ∧ x ≤ 9223372036854775807) (w : World) (hG : GK w) (hR : SlN .u8 w B0 b) (hL : SlK .i64 w A l) (hS : SlL w C c) :
    Calls Tryd.prog 3 #[.slice B0 lb cb, .int .u64 d, .slice A len cap, .slice C n cc] w fun e w' => e = .returned (.bool true) ∧ Below w.heap.size w w' := by
  obtain ⟨D, rfl⟩ := Int.eq_ofNat_of_zero_le hd.1
  have hD : D < 18446744073709551616 := by omega
  have HNb := Lib.hid hlb
  have HB8 := Lib.hid hb8
  have HN := Lib.hid hl
  have HW := Lib.hid hw
  have HC := Lib.hid hc
  clear hd hl hw hlb hb8 hc
  by_cases z1 : (500 : Int) < (lb : Int)
  ·
    go_enter Tryd.func3, Tryd.ntmps3
    go_wp2_with fail
    have B := Below.refl w.heap.size w
    refine (head_any _ hG).mono ?_; rintro e w1 ⟨rfl, hb⟩
    replace hG := hG.below hb
    replace B := B.trans (hb.mono (by have := B.size; simp <;> omega))
    clear hb
    go_wp2_with fail
    go_ret
    exact ⟨rfl, B⟩
  by_cases z2 : (40 : Int) < (len : Int)
  ·
    go_enter Tryd.func3, Tryd.ntmps3
    go_wp2_with fail
    have B := Below.refl w.heap.size w
    refine (head_any _ hG).mono ?_; rintro e w1 ⟨rfl, hb⟩
    replace hG := hG.below hb
    replace B := B.trans (hb.mono (by have := B.size; simp <;> omega))
    clear hb
    go_wp2_with fail
    go_ret
    exact ⟨rfl, B⟩
  cases hF : Dg.few c with
  | false =>
    have HF := Lib.hid hF
    clear hF hcw
    go_enter Tryd.func3, Tryd.ntmps3
    go_wp2_with fail
    have B := Below.refl w.heap.size w
    refine (head_any _ hG).mono ?_; rintro e w1 ⟨rfl, hb⟩
    replace hS := hS.below hb
    replace hG := hG.below hb
    replace B := B.trans (hb.mono (by have := B.size; simp <;> omega))
    clear hb
    go_wp2_with fail
    refine (kfew_is c false n cc C HF.out HC.out (by omega) _ hS).mono ?_; rintro e w2 ⟨rfl, rfl⟩
    go_wp2_with fail
    go_ret
    exact ⟨rfl, B⟩
  | true =>
    have HF := Lib.hid hF
    obtain ⟨k1, k2⟩ := Dg.few_parts hF
    rw [HC.out] at k1
    have HCW : Hid (∀ g ∈ c, g.length ≤ 100000 ∧ ∀ x ∈ g, -9223372036854775808 ≤ x ∧ x ≤ 9223372036854775807) := Lib.hid (fun g hg => ⟨by have := k2 g hg; omega, hcw g hg⟩)
    clear hF hcw k2
    obtain ⟨s1, hs1⟩ : ∃ q, Dg.sum b = q := ⟨_, rfl⟩
    obtain ⟨s2, hs2⟩ : ∃ q, Dg.next D l = q := ⟨_, rfl⟩
    obtain ⟨s3, hs3⟩ : ∃ q, Dg.chain c = q := ⟨_, rfl⟩
    have HS1 := Lib.hid hs1
    have HS2 := Lib.hid hs2
    have HS3 := Lib.hid hs3
    clear hs1 hs2 hs3
    go_enter Tryd.func3, Tryd.ntmps3
    go_wp2_with fail
    have B := Below.refl w.heap.size w
    refine (head_any _ hG).mono ?_; rintro e w1 ⟨rfl, hb⟩
    replace hL := hL.below hb
    replace hR := hR.below hb
    replace hS := hS.below hb
    replace hG := hG.below hb
    replace B := B.trans (hb.mono (by have := B.size; simp <;> omega))
    clear hb
    go_wp2_with fail
    refine (kfew_is c true n cc C HF.out HC.out (by omega) _ hS).mono ?_; rintro e w2 ⟨rfl, rfl⟩
    go_wp2_with fail
    refine (dsum_is b lb cb B0 s1 HS1.out HNb.out HB8.out (by omega) _ hR hG).mono ?_; rintro e w2 ⟨rfl, hb⟩
    replace hL := hL.below hb
    replace hR := hR.below hb
    replace hS := hS.below hb
    replace hG := hG.below hb
    replace B := B.trans (hb.mono (by have := B.size; simp <;> omega))
    clear hb
    go_wp2_with fail
    refine (ksum_is b lb cb B0 s1 HS1.out HNb.out HB8.out (by omega) _ hR).mono ?_; rintro e w3 ⟨rfl, hb⟩
    replace hL := hL.below hb
    replace hR := hR.below hb
    replace hS := hS.below hb
    replace hG := hG.below hb
    replace B := B.trans (hb.mono (by have := B.size; simp <;> omega))
    clear hb
    go_wp2_with fail
    refine (dnext_is D l s2 len cap A HS2.out hD HN.out (by omega) HW.out _ hL hG).mono ?_; rintro e w4 ⟨rfl, hb⟩
    replace hL := hL.below hb
    replace hR := hR.below hb
    replace hS := hS.below hb
    replace hG := hG.below hb
    replace B := B.trans (hb.mono (by have := B.size; simp <;> omega))
    clear hb
    go_wp2_with fail
    refine (knext_is D l s2 len cap A HS2.out hD HN.out (by omega) HW.out _ hL).mono ?_; rintro e w5 ⟨rfl, hb⟩
    replace hL := hL.below hb
    replace hR := hR.below hb
    replace hS := hS.below hb
    replace hG := hG.below hb
    replace B := B.trans (hb.mono (by have := B.size; simp <;> omega))
    clear hb
    go_wp2_with fail
    refine (dchain_is c s3 n cc C HS3.out HC.out (by omega) HCW.out _ hS hG).mono ?_; rintro e w6 ⟨rfl, hb⟩
    replace hL := hL.below hb
    replace hR := hR.below hb
    replace hS := hS.below hb
    replace hG := hG.below hb
    replace B := B.trans (hb.mono (by have := B.size; simp <;> omega))
    clear hb
    go_wp2_with fail
    refine (kchain_is c s3 n cc C HS3.out HC.out (by omega) HCW.out _ hS).mono ?_; rintro e w7 ⟨rfl, hb⟩
    replace hL := hL.below hb
    replace hR := hR.below hb
    replace hS := hS.below hb
    replace hG := hG.below hb
    replace B := B.trans (hb.mono (by have := B.size; simp <;> omega))
    clear hb
    go_wp2_with fail
    go_ret
    exact ⟨rfl, B⟩
end Go.Proofs.YtmpimbolhjmapaaDoor
