/- The walk of DigestTexts. -/
import Derived.Test.YtmpimbolhjmapaaDoorDh
import Derived.Test.YtmpimbolhjmapaaDoorDt
namespace Go.Proofs.YtmpimbolhjmapaaDoor
open Go.RowKit

set_option maxHeartbeats 1600000 in
theorem digestTexts_walk (d : Int) (hd : 0 ≤ d ∧ d < 18446744073709551616) (A : Option Addr) (len cap : Nat) (l : List Int) (hl : l.length = len) (hw : ∀ x ∈ l, -9223372036854775808 ≤ x ∧ x ≤ 9223372036854775807) (hA : A = none → cap = 0) (p : Int) (hp : 0 ≤ p ∧ p < 65536) (t : Int) (ht : 0 ≤ t ∧ t < 256) (w : World) (hG : GK w) (hL : SlK .i64 w A l) :
    Calls Tryd.prog 6 #[.int .u64 d, .slice A len cap, .int .u16 p, .int .u8 t] w fun e w' => e = .returned (.bool true) ∧ Below w.heap.size w w' := by
  obtain ⟨D, rfl⟩ := Int.eq_ofNat_of_zero_le hd.1
  obtain ⟨P, rfl⟩ := Int.eq_ofNat_of_zero_le hp.1
  obtain ⟨T, rfl⟩ := Int.eq_ofNat_of_zero_le ht.1
  have hD : D < 18446744073709551616 := by omega
  have hP : P < 65536 := by omega
  have hT : T < 256 := by omega
  have HN := Lib.hid hl
  have HW := Lib.hid hw
  have HA := Lib.hid hA
  clear hd hp ht hl hA
  by_cases z1 : (40 : Int) < (len : Int)
  ·
    go_enter Tryd.func6, Tryd.ntmps6
    go_wp2_with fail
    have B := Below.refl w.heap.size w
    refine (head_any _ hG).mono ?_; rintro e w1 ⟨rfl, hb⟩
    replace hG := hG.below hb
    replace B := B.trans (hb.mono (by have := B.size; simp <;> omega))
    clear hb
    go_wp2_with fail
    go_ret
    exact ⟨rfl, B⟩
  have HTX : Hid (∃ X q n, Dg.txt D l = X ∧ X.length = n ∧ Dg.next D l = q ∧ Dg.sum X = q ∧ n ≤ 1000000000000 ∧ ∀ x ∈ X, x < 256) := Lib.hid ⟨_, _, _, rfl, rfl, rfl, rfl, by have := Dg.txt_len (d := D) hw; rw [HN.out] at this; omega, Dg.txt_lt D l⟩
  clear hw
  obtain ⟨X, q, n, h1, h2, h3, h4, h5, h6⟩ := HTX.out
  have H1 := Lib.hid h1
  have H2 := Lib.hid h2
  have H3 := Lib.hid h3
  have H4 := Lib.hid h4
  have H6 := Lib.hid h6
  clear h1 h2 h3 h4 h6 HTX
  cases hR : Dg.tn l P T with
  | none =>
    have HR := Lib.hid hR
    clear hR
    go_enter Tryd.func6, Tryd.ntmps6
    go_wp2_with fail
    have B := Below.refl w.heap.size w
    refine (head_any _ hG).mono ?_; rintro e w1 ⟨rfl, hb⟩
    replace hL := hL.below hb
    replace hG := hG.below hb
    replace B := B.trans (hb.mono (by have := B.size; simp <;> omega))
    clear hb
    go_wp2_with fail
    refine (dnext_is D l q len cap A H3.out hD HN.out (by omega) HW.out _ hL hG).mono ?_; rintro e w2 ⟨rfl, hb⟩
    replace hL := hL.below hb
    replace hG := hG.below hb
    replace B := B.trans (hb.mono (by have := B.size; simp <;> omega))
    clear hb
    go_wp2_with fail
    refine (ktext_is D l X len cap A H1.out hD HN.out (by omega) HW.out _ hL).mono ?_; rintro e w3 ⟨D3, c3, rfl, SX, hb⟩
    replace hL := hL.below hb
    replace hG := hG.below hb
    replace B := B.trans (hb.mono (by have := B.size; simp <;> omega))
    clear hb
    simp only [H2.out]
    go_wp2_with fail
    refine (dsum_is X n c3 D3 q H4.out H2.out H6.out h5 _ SX hG).mono ?_; rintro e w4 ⟨rfl, hb⟩
    replace hL := hL.below hb
    replace SX := SX.below hb
    replace hG := hG.below hb
    replace B := B.trans (hb.mono (by have := B.size; simp <;> omega))
    clear hb
    go_wp2_with fail
    clear SX
    refine (turned_none l P T len cap A HR.out hP hT HN.out (by omega) _ HA.out hL).mono ?_; rintro e w5 ⟨rfl, hb⟩
    replace hL := hL.below hb
    replace hG := hG.below hb
    replace B := B.trans (hb.mono (by have := B.size; simp <;> omega))
    clear hb
    go_wp2_with fail
    go_ret
    exact ⟨rfl, B⟩
  | some m =>
    have HR := Lib.hid hR
    obtain ⟨q2, hq2⟩ : ∃ q2, Dg.next D m = q2 := ⟨_, rfl⟩
    have hne := Dg.next_tn (d := D) hR
    rw [H3.out, hq2] at hne
    have hE : ((q : Int) != (q2 : Int)) = true := by simp; omega
    have HQ2 := Lib.hid hq2
    have HML : Hid (m.length = len) := Lib.hid (by rw [Dg.tn_len hR]; exact HN.out)
    have HWM := Lib.hid (Dg.tn_word hR HW.out)
    clear hR hq2
    go_enter Tryd.func6, Tryd.ntmps6
    go_wp2_with fail
    have B := Below.refl w.heap.size w
    refine (head_any _ hG).mono ?_; rintro e w1 ⟨rfl, hb⟩
    replace hL := hL.below hb
    replace hG := hG.below hb
    replace B := B.trans (hb.mono (by have := B.size; simp <;> omega))
    clear hb
    go_wp2_with fail
    refine (dnext_is D l q len cap A H3.out hD HN.out (by omega) HW.out _ hL hG).mono ?_; rintro e w2 ⟨rfl, hb⟩
    replace hL := hL.below hb
    replace hG := hG.below hb
    replace B := B.trans (hb.mono (by have := B.size; simp <;> omega))
    clear hb
    go_wp2_with fail
    refine (ktext_is D l X len cap A H1.out hD HN.out (by omega) HW.out _ hL).mono ?_; rintro e w3 ⟨D3, c3, rfl, SX, hb⟩
    replace hL := hL.below hb
    replace hG := hG.below hb
    replace B := B.trans (hb.mono (by have := B.size; simp <;> omega))
    clear hb
    simp only [H2.out]
    go_wp2_with fail
    refine (dsum_is X n c3 D3 q H4.out H2.out H6.out h5 _ SX hG).mono ?_; rintro e w4 ⟨rfl, hb⟩
    replace hL := hL.below hb
    replace SX := SX.below hb
    replace hG := hG.below hb
    replace B := B.trans (hb.mono (by have := B.size; simp <;> omega))
    clear hb
    go_wp2_with fail
    clear SX
    refine (turned_some l P T m len cap A HR.out hP hT HN.out (by omega) _ HA.out hL).mono ?_; rintro e w5 ⟨DM, cM, rfl, SM, hcM, hb⟩
    replace hL := hL.below hb
    replace hG := hG.below hb
    replace B := B.trans (hb.mono (by have := B.size; simp <;> omega))
    clear hb
    go_wp2_with fail
    refine (dnext_is D l q len cap A H3.out hD HN.out (by omega) HW.out _ hL hG).mono ?_; rintro e w6 ⟨rfl, hb⟩
    replace hL := hL.below hb
    replace SM := SM.below hb
    replace hG := hG.below hb
    replace B := B.trans (hb.mono (by have := B.size; simp <;> omega))
    clear hb
    go_wp2_with fail
    refine (dnext_is D m q2 len cM DM HQ2.out hD HML.out (by omega) HWM.out _ SM hG).mono ?_; rintro e w7 ⟨rfl, hb⟩
    replace hL := hL.below hb
    replace SM := SM.below hb
    replace hG := hG.below hb
    replace B := B.trans (hb.mono (by have := B.size; simp <;> omega))
    clear hb
    go_wp2_with fail
    go_ret
    exact ⟨rfl, B⟩
end Go.Proofs.YtmpimbolhjmapaaDoor
