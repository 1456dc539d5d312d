/- The walk of DigestChains. -/
import Derived.Test.YtmpimbolhjmapaaDoorDh
import Derived.Test.YtmpimbolhjmapaaDoorDt
import Derived.Test.YtmpimbolhjmapaaDoorLLast
namespace Go.Proofs.YtmpimbolhjmapaaDoor
open Go.RowKit

set_option maxHeartbeats 3200000 in
theorem digestChains_walk (A : Option Addr) (la ca : Nat) (a : List (List Int)) (hca : a.length = la) (hna : la ≤ 9223372036854775807) (hwa : ∀ g ∈ a, ∀ x ∈ g, -9223372036854775808 ≤ x ∧ x ≤ 9223372036854775807) (hAa : A = none → ca = 0) (B0 : Option Addr) (lb cb : Nat) (b : List (List Int)) (hcb : b.length = lb) (hnb : lb ≤ 9223372036854775807) (hwb : ∀ g ∈ b, ∀ x ∈ g, -9223372036854775808 ≤ x ∧ x ≤ 9223372036854775807) (hAb : B0 = none → cb = 0) (M : Option Addr) (lm cm : Nat) (m : List (List Int)) (hcm : m.length = lm) (hnm : lm ≤ 9223372036854775807) (hwm : ∀ g ∈ m, ∀ x ∈ g, -9223372036854775808 ≤ x ∧ x ≤ 9223372036854775807) (hAm : M = none → cm = 0) (L : Option Addr) (len cap : Nat) (l : List Int) (hl : l.length = len) (hw : ∀ x ∈ l, -9223372036854775808 ≤ x ∧ x ≤ 9223372036854775807) (hLn : L = none → cap = 0) (w : World) (hG : GK w) (hSa : SlL w A a) (hSb : SlL w B0 b) (hSm : SlL w M m) (hL : SlK .i64 w L l) :
    Calls Tryd.prog 7 #[.slice A la ca, .slice B0 lb cb, .slice M lm cm, .slice L len cap] w fun e w' => e = .returned (.bool true) ∧ Below w.heap.size w w' := by
  have HCa := Lib.hid hca
  have HCb := Lib.hid hcb
  have HCm := Lib.hid hcm
  have HNa := Lib.hid hAa
  have HNb := Lib.hid hAb
  have HNm := Lib.hid hAm
  have HN := Lib.hid hl
  have HA := Lib.hid hLn
  clear hca hcb hcm hAa hAb hAm hl hLn
  cases hFa : Dg.few a with
  | false =>
    have HFa := Lib.hid hFa
    clear hFa
    go_enter Tryd.func7, Tryd.ntmps7
    go_wp2_with fail
    have B := Below.refl w.heap.size w
    refine (head_any _ hG).mono ?_; rintro e w1 ⟨rfl, hb⟩
    replace hSa := hSa.below hb
    replace hSb := hSb.below hb
    replace hSm := hSm.below hb
    replace hL := hL.below hb
    replace hG := hG.below hb
    replace B := B.trans (hb.mono (by have := B.size; simp <;> omega))
    clear hb
    go_wp2_with fail
    refine (kfew_is a false la ca A HFa.out HCa.out (by omega) _ hSa).mono ?_; rintro e w2 ⟨rfl, rfl⟩
    go_wp2_with fail
    go_ret
    exact ⟨rfl, B⟩
  | true =>
  have HFa := Lib.hid hFa
  cases hFb : Dg.few b with
  | false =>
    have HFb := Lib.hid hFb
    clear hFb
    go_enter Tryd.func7, Tryd.ntmps7
    go_wp2_with fail
    have B := Below.refl w.heap.size w
    refine (head_any _ hG).mono ?_; rintro e w1 ⟨rfl, hb⟩
    replace hSa := hSa.below hb
    replace hSb := hSb.below hb
    replace hSm := hSm.below hb
    replace hL := hL.below hb
    replace hG := hG.below hb
    replace B := B.trans (hb.mono (by have := B.size; simp <;> omega))
    clear hb
    go_wp2_with fail
    refine (kfew_is a true la ca A HFa.out HCa.out (by omega) _ hSa).mono ?_; rintro e w2 ⟨rfl, rfl⟩
    go_wp2_with fail
    refine (kfew_is b false lb cb B0 HFb.out HCb.out (by omega) _ hSb).mono ?_; rintro e w3 ⟨rfl, rfl⟩
    go_wp2_with fail
    go_ret
    exact ⟨rfl, B⟩
  | true =>
  have HFb := Lib.hid hFb
  cases hFm : Dg.few m with
  | false =>
    have HFm := Lib.hid hFm
    clear hFm
    go_enter Tryd.func7, Tryd.ntmps7
    go_wp2_with fail
    have B := Below.refl w.heap.size w
    refine (head_any _ hG).mono ?_; rintro e w1 ⟨rfl, hb⟩
    replace hSa := hSa.below hb
    replace hSb := hSb.below hb
    replace hSm := hSm.below hb
    replace hL := hL.below hb
    replace hG := hG.below hb
    replace B := B.trans (hb.mono (by have := B.size; simp <;> omega))
    clear hb
    go_wp2_with fail
    refine (kfew_is a true la ca A HFa.out HCa.out (by omega) _ hSa).mono ?_; rintro e w2 ⟨rfl, rfl⟩
    go_wp2_with fail
    refine (kfew_is b true lb cb B0 HFb.out HCb.out (by omega) _ hSb).mono ?_; rintro e w3 ⟨rfl, rfl⟩
    go_wp2_with fail
    refine (kfew_is m false lm cm M HFm.out HCm.out (by omega) _ hSm).mono ?_; rintro e w4 ⟨rfl, rfl⟩
    go_wp2_with fail
    go_ret
    exact ⟨rfl, B⟩
  | true =>
  have HFm := Lib.hid hFm
  by_cases z1 : (40 : Int) < (len : Int)
  ·
    go_enter Tryd.func7, Tryd.ntmps7
    go_wp2_with fail
    have B := Below.refl w.heap.size w
    refine (head_any _ hG).mono ?_; rintro e w1 ⟨rfl, hb⟩
    replace hSa := hSa.below hb
    replace hSb := hSb.below hb
    replace hSm := hSm.below hb
    replace hL := hL.below hb
    replace hG := hG.below hb
    replace B := B.trans (hb.mono (by have := B.size; simp <;> omega))
    clear hb
    go_wp2_with fail
    refine (kfew_is a true la ca A HFa.out HCa.out (by omega) _ hSa).mono ?_; rintro e w2 ⟨rfl, rfl⟩
    go_wp2_with fail
    refine (kfew_is b true lb cb B0 HFb.out HCb.out (by omega) _ hSb).mono ?_; rintro e w3 ⟨rfl, rfl⟩
    go_wp2_with fail
    refine (kfew_is m true lm cm M HFm.out HCm.out (by omega) _ hSm).mono ?_; rintro e w4 ⟨rfl, rfl⟩
    go_wp2_with fail
    go_ret
    exact ⟨rfl, B⟩
  obtain ⟨ka, ja⟩ := Dg.few_parts hFa
  obtain ⟨kb, jb⟩ := Dg.few_parts hFb
  obtain ⟨km, jm⟩ := Dg.few_parts hFm
  rw [HCa.out] at ka
  rw [HCb.out] at kb
  rw [HCm.out] at km
  have hlen40 : len ≤ 40 := by omega
  have WA : ∀ g ∈ a, g.length ≤ 100000 ∧ ∀ x ∈ g, -9223372036854775808 ≤ x ∧ x ≤ 9223372036854775807 := fun g h => ⟨by have := ja g h; omega, hwa g h⟩
  have WB : ∀ g ∈ b, g.length ≤ 100000 ∧ ∀ x ∈ g, -9223372036854775808 ≤ x ∧ x ≤ 9223372036854775807 := fun g h => ⟨by have := jb g h; omega, hwb g h⟩
  have WM : ∀ g ∈ m, g.length ≤ 100000 ∧ ∀ x ∈ g, -9223372036854775808 ≤ x ∧ x ≤ 9223372036854775807 := fun g h => ⟨by have := jm g h; omega, hwm g h⟩
  have W1 : Hid (∀ g ∈ a ++ [l], g.length ≤ 100000 ∧ ∀ x ∈ g, -9223372036854775808 ≤ x ∧ x ≤ 9223372036854775807) := Lib.hid (fun g hg => (List.mem_append.1 hg).elim (WA g) (fun h => by rw [List.mem_singleton.1 h]; exact ⟨by rw [HN.out]; omega, hw⟩))
  have WX : Hid (∀ g ∈ a ++ m, g.length ≤ 100000 ∧ ∀ x ∈ g, -9223372036854775808 ≤ x ∧ x ≤ 9223372036854775807) := Lib.hid (fun g hg => (List.mem_append.1 hg).elim (WA g) (WM g))
  have WY : Hid (∀ g ∈ b ++ m, g.length ≤ 100000 ∧ ∀ x ∈ g, -9223372036854775808 ≤ x ∧ x ≤ 9223372036854775807) := Lib.hid (fun g hg => (List.mem_append.1 hg).elim (WB g) (WM g))
  have WI : Hid (∀ x ∈ (len : Int) :: l, -9223372036854775808 ≤ x ∧ x ≤ 9223372036854775807) := Lib.hid (fun x hx => (List.mem_cons.1 hx).elim (fun h => by omega) (hw x))
  replace WA := Lib.hid WA
  replace WB := Lib.hid WB
  have L1 : Hid ((a ++ [l]).length = la + 1) := Lib.hid (by rw [List.length_append, HCa.out]; rfl)
  have LX : Hid ((a ++ m).length = la + lm) := Lib.hid (by rw [List.length_append, HCa.out, HCm.out])
  have LY : Hid ((b ++ m).length = lb + lm) := Lib.hid (by rw [List.length_append, HCb.out, HCm.out])
  obtain ⟨q1, hq1⟩ : ∃ q, Dg.chain a = q := ⟨_, rfl⟩
  obtain ⟨q2, hq2⟩ : ∃ q, Dg.chain b = q := ⟨_, rfl⟩
  obtain ⟨q3, hq3⟩ : ∃ q, Dg.chain (a ++ [l]) = q := ⟨_, rfl⟩
  obtain ⟨q4, hq4⟩ : ∃ q, Dg.chain (a ++ m) = q := ⟨_, rfl⟩
  have hq5 : Dg.next q1 ((len : Int) :: l) = q3 := by rw [← hq3, Dg.chain_last, hq1, HN.out]
  have hq1l : q1 < 18446744073709551616 := by rw [← hq1]; exact Dg.chain_lt _
  have hq6 : Hid (q1 = q2 → Dg.chain (b ++ m) = q4) := Lib.hid (fun h => by rw [← hq4]; exact (Dg.chain_behind (by rw [hq1, hq2, h])).symm)
  have Q1 := Lib.hid hq1
  have Q2 := Lib.hid hq2
  have Q3 := Lib.hid hq3
  have Q4 := Lib.hid hq4
  have Q5 := Lib.hid hq5
  clear hFa hFb hFm ja jb jm hwa hwb hwm hw WM hq1 hq2 hq3 hq4 hq5
  obtain ⟨i0, hi, hz0, hz1, hz2⟩ := info_parts infoSl
  obtain ⟨j0, hj, hj0, hj1, hj2⟩ := info_parts infoInt
  go_enter Tryd.func7, Tryd.ntmps7
  go_wp2_with fail
  have B := Below.refl w.heap.size w
  refine (head_any _ hG).mono ?_; rintro e w1 ⟨rfl, hb⟩
  replace hSa := hSa.below hb
  replace hSb := hSb.below hb
  replace hSm := hSm.below hb
  replace hL := hL.below hb
  replace hG := hG.below hb
  replace B := B.trans (hb.mono (by have := B.size; simp <;> omega))
  clear hb
  go_wp2_with fail
  refine (kfew_is a true la ca A HFa.out HCa.out (by omega) _ hSa).mono ?_; rintro e w2 ⟨rfl, rfl⟩
  go_wp2_with fail
  refine (kfew_is b true lb cb B0 HFb.out HCb.out (by omega) _ hSb).mono ?_; rintro e w3 ⟨rfl, rfl⟩
  go_wp2_with fail
  refine (kfew_is m true lm cm M HFm.out HCm.out (by omega) _ hSm).mono ?_; rintro e w4 ⟨rfl, rfl⟩
  obtain ⟨xa, hIa0, hVa0⟩ := hSa.values
  have hIa := Lib.hid hIa0
  have hVaH := Lib.hid hVa0
  have hIalen : xa.length = la := hIa0.1.trans HCa.out
  have xanone := Lib.hid (hSa.none_len HCa.out HNa.out)
  have hOne := Lib.hid (hIa0.app (IsL.one HN.out hL HA.out))
  have hFX := hIa0
  clear hIa0 hVa0
  have HLw := Lib.hid hL
  go_wp2_with (first | (at_builtin; refine append_vals rfl _ _ 25 rfl w4.heap.size 24 i0 (.slice none 0 0) 24 Tryd.underlying25 hi hz0 hz1 hz2 rfl (.slice (some ⟨w4.heap.size, 0, none⟩) 0 0) 0 [] rfl (World.ownsRow_made _ #[] 0 (Nat.le_refl _) (by unfold maxLen; omega) rfl) A la ca xa rfl xanone.out hIalen (fun ad e => hVaH.out ad e _ ((Below.refl _ _).alloc (Nat.le_refl _) _)) (hIa.out.oneCell) (by unfold maxLen; omega) (by omega) (by simp) ?_; intro v5 w5 hown5 hgrow5; rw [Nat.zero_add, List.nil_append] at hown5; have B5 : Below w4.heap.size w4 w5 := ((Below.refl _ w4).alloc (Nat.le_refl _) _).grown hgrow5 (by simp) (fun j hj => by cases hj; exact Nat.le_refl _)) | (at_builtin; refine wpList_append_own _ rfl _ _ 25 rfl w4.heap.size 24 i0 (.slice none 0 0) 1 24 Tryd.underlying25 hi hz0 hz1 hz2 rfl (by decide) v5 la xa rfl (hown5.alloc _) ⟨w5.heap.size, 0, none⟩ 1 1 [.slice L len cap] rfl rfl (cell_one_new _ _ _) (fun u hu => by simp at hu; subst hu; rfl) (by unfold maxLen; omega) (by omega) (by have := B5.size; simp; omega) ?_; intro v6 w6 hown6 hgrow6 hnil6; have B6 : Below w4.heap.size w4 w6 := (B5.alloc B5.size _).grown hgrow6 (by have := B5.size; simp; omega) (own_ne hown5); obtain ⟨hl6, X, cX, rfl, SX⟩ := own_l hown6 (hOne.out.below B6); have HSX := Lib.hid SX) | (at_builtin; refine append_slk .i64 rfl _ _ 24 rfl w6.heap.size 3 j0 (.int .i64 0) 8 Tryd.underlying24 hj hj0 hj1 hj2 rfl (.slice (some ⟨w6.heap.size, 0, none⟩) 1 1) 1 [.int .i64 (len : Int)] rfl (World.ownsRow_lit w6 #[.int .i64 (len : Int)] 1 (Nat.le_refl _) (by unfold maxLen; omega) rfl) L len cap l rfl HA.out HN.out ((HLw.out.below B6).alloc _) (by unfold maxLen; omega) (by omega) (by simp) ?_; intro v7 w7 hown7 hgrow7; have B7 : Below w6.heap.size w6 w7 := ((Below.refl _ w6).alloc (Nat.le_refl _) _).grown hgrow7 (by simp) (fun j hj => by cases hj; exact Nat.le_refl _); have hown7' : w7.ownsRow w6.heap.size 3 1 v7 (1 + len) (vK .i64 ((len : Int) :: l)) := hown7; obtain ⟨hl7, I7, c7, rfl, SI⟩ := own_k hown7') | fail)
  have hb := B6.trans (B7.mono B6.size)
  replace SX := HSX.out.below B7
  have HL7 := Lib.hid hl7
  clear B5 B6 B7 hown5 hown6 hown7 hown7' hgrow5 hgrow6 hgrow7 hnil6 hl6 hl7 HSX HLw hIa hIalen hVaH xanone hOne
  replace hSa := hSa.below hb
  replace hSb := hSb.below hb
  replace hSm := hSm.below hb
  replace hL := hL.below hb
  replace hG := hG.below hb
  replace B := B.trans (hb.mono (by have := B.size; simp <;> omega))
  clear hb
  refine (dchain_is (a ++ [l]) q3 (la + 1) cX X Q3.out L1.out (by omega) W1.out _ SX hG).mono ?_; rintro e w8 ⟨rfl, hb⟩
  replace hSa := hSa.below hb
  replace hSb := hSb.below hb
  replace hSm := hSm.below hb
  replace hL := hL.below hb
  replace SX := SX.below hb
  replace SI := SI.below hb
  replace hG := hG.below hb
  replace B := B.trans (hb.mono (by have := B.size; simp <;> omega))
  clear hb
  go_wp2_with fail
  refine (dchain_is a q1 la ca A Q1.out HCa.out (by omega) WA.out _ hSa hG).mono ?_; rintro e w9 ⟨rfl, hb⟩
  replace hSa := hSa.below hb
  replace hSb := hSb.below hb
  replace hSm := hSm.below hb
  replace hL := hL.below hb
  replace SX := SX.below hb
  replace SI := SI.below hb
  replace hG := hG.below hb
  replace B := B.trans (hb.mono (by have := B.size; simp <;> omega))
  clear hb
  go_wp2_with fail
  refine (dnext_is q1 ((len : Int) :: l) q3 (1 + len) c7 I7 Q5.out hq1l HL7.out (by omega) WI.out _ SI hG).mono ?_; rintro e w10 ⟨rfl, hb⟩
  replace hSa := hSa.below hb
  replace hSb := hSb.below hb
  replace hSm := hSm.below hb
  replace hL := hL.below hb
  replace SX := SX.below hb
  replace SI := SI.below hb
  replace hG := hG.below hb
  replace B := B.trans (hb.mono (by have := B.size; simp <;> omega))
  clear hb
  obtain ⟨xa, hIa0, hVa0⟩ := hSa.values
  have hIa := Lib.hid hIa0
  have hVaH := Lib.hid hVa0
  have hIalen : xa.length = la := hIa0.1.trans HCa.out
  have xanone := Lib.hid (hSa.none_len HCa.out HNa.out)
  clear hIa0 hVa0
  obtain ⟨xb, hIb0, hVb0⟩ := hSb.values
  have hIb := Lib.hid hIb0
  have hVbH := Lib.hid hVb0
  have hIblen : xb.length = lb := hIb0.1.trans HCb.out
  have xbnone := Lib.hid (hSb.none_len HCb.out HNb.out)
  clear hIb0 hVb0
  obtain ⟨xm, hIm0, hVm0⟩ := hSm.values
  have hIm := Lib.hid hIm0
  have hVmH := Lib.hid hVm0
  have hImlen : xm.length = lm := hIm0.1.trans HCm.out
  have xmnone := Lib.hid (hSm.none_len HCm.out HNm.out)
  clear hIm0 hVm0
  have fX := Lib.hid (hIa.out.app hIm.out)
  have fY := Lib.hid (hIb.out.app hIm.out)
  go_wp2_with (first | (at_builtin; refine append_vals rfl _ _ 25 rfl w10.heap.size 24 i0 (.slice none 0 0) 24 Tryd.underlying25 hi hz0 hz1 hz2 rfl (.slice (some ⟨w10.heap.size, 0, none⟩) 0 0) 0 [] rfl (World.ownsRow_made _ #[] 0 (Nat.le_refl _) (by unfold maxLen; omega) rfl) A la ca xa rfl xanone.out hIalen (fun ad e => hVaH.out ad e _ ((Below.refl _ _).alloc (Nat.le_refl _) _)) (hIa.out.oneCell) (by unfold maxLen; omega) (by omega) (by simp) ?_; intro v11 w11 hown11 hgrow11; rw [Nat.zero_add, List.nil_append] at hown11; have B11 : Below w10.heap.size w10 w11 := ((Below.refl _ w10).alloc (Nat.le_refl _) _).grown hgrow11 (by simp) (fun j hj => by cases hj; exact Nat.le_refl _)) | (at_builtin; refine append_vals rfl _ _ 25 rfl w10.heap.size 24 i0 (.slice none 0 0) 24 Tryd.underlying25 hi hz0 hz1 hz2 rfl v11 la xa rfl hown11 M lm cm xm rfl xmnone.out hImlen (fun ad e => hVmH.out ad e _ B11) (hIm.out.oneCell) (by unfold maxLen; omega) (by omega) (by have := B11.size; omega) ?_; intro v12 w12 hown12 hgrow12; have B12 : Below w10.heap.size w10 w12 := B11.grown hgrow12 (by have := B11.size; omega) (own_ne hown11); obtain ⟨hl12, Y, cY, rfl, SY⟩ := own_l hown12 (fX.out.below B12); have HSY := Lib.hid SY) | (at_builtin; refine append_vals rfl _ _ 25 rfl w12.heap.size 24 i0 (.slice none 0 0) 24 Tryd.underlying25 hi hz0 hz1 hz2 rfl (.slice (some ⟨w12.heap.size, 0, none⟩) 0 0) 0 [] rfl (World.ownsRow_made _ #[] 0 (Nat.le_refl _) (by unfold maxLen; omega) rfl) B0 lb cb xb rfl xbnone.out hIblen (fun ad e => hVbH.out ad e _ (B12.alloc B12.size _)) (hIb.out.oneCell) (by unfold maxLen; omega) (by omega) (by simp) ?_; intro v13 w13 hown13 hgrow13; rw [Nat.zero_add, List.nil_append] at hown13; have B13 : Below w12.heap.size w12 w13 := ((Below.refl _ w12).alloc (Nat.le_refl _) _).grown hgrow13 (by simp) (fun j hj => by cases hj; exact Nat.le_refl _)) | (at_builtin; refine append_vals rfl _ _ 25 rfl w12.heap.size 24 i0 (.slice none 0 0) 24 Tryd.underlying25 hi hz0 hz1 hz2 rfl v13 lb xb rfl hown13 M lm cm xm rfl xmnone.out hImlen (fun ad e => hVmH.out ad e _ (B12.trans (B13.mono B12.size))) (hIm.out.oneCell) (by unfold maxLen; omega) (by omega) (by have := B13.size; omega) ?_; intro v14 w14 hown14 hgrow14; have B14 : Below w12.heap.size w12 w14 := B13.grown hgrow14 (by have := B13.size; omega) (own_ne hown13); obtain ⟨hl14, Z, cZ, rfl, SZ⟩ := own_l hown14 (fY.out.below (B12.trans (B14.mono B12.size))); have HSZ := Lib.hid SZ) | fail)
  have hb := B12.trans (B14.mono B12.size)
  replace SY := HSY.out.below B14
  clear B11 B12 B13 B14 hown11 hown12 hown13 hown14 hgrow11 hgrow12 hgrow13 hgrow14 hl12 hl14 HSY HSZ hIa hIalen hVaH xanone hIb hIblen hVbH xbnone hIm hImlen hVmH xmnone fX fY
  replace hSa := hSa.below hb
  replace hSb := hSb.below hb
  replace hSm := hSm.below hb
  replace hL := hL.below hb
  replace SX := SX.below hb
  replace SI := SI.below hb
  replace hG := hG.below hb
  replace B := B.trans (hb.mono (by have := B.size; simp <;> omega))
  clear hb
  refine (dchain_is a q1 la ca A Q1.out HCa.out (by omega) WA.out _ hSa hG).mono ?_; rintro e w15 ⟨rfl, hb⟩
  replace hSa := hSa.below hb
  replace hSb := hSb.below hb
  replace hSm := hSm.below hb
  replace hL := hL.below hb
  replace SX := SX.below hb
  replace SI := SI.below hb
  replace SY := SY.below hb
  replace SZ := SZ.below hb
  replace hG := hG.below hb
  replace B := B.trans (hb.mono (by have := B.size; simp <;> omega))
  clear hb
  go_wp2_with fail
  refine (dchain_is b q2 lb cb B0 Q2.out HCb.out (by omega) WB.out _ hSb hG).mono ?_; rintro e w16 ⟨rfl, hb⟩
  replace hSa := hSa.below hb
  replace hSb := hSb.below hb
  replace hSm := hSm.below hb
  replace hL := hL.below hb
  replace SX := SX.below hb
  replace SI := SI.below hb
  replace SY := SY.below hb
  replace SZ := SZ.below hb
  replace hG := hG.below hb
  replace B := B.trans (hb.mono (by have := B.size; simp <;> omega))
  clear hb
  by_cases e12 : q1 = q2
  · have t12 : ((q1 : Int) != (q2 : Int)) = false := by simp; omega
    have Q6 := Lib.hid (hq6.out e12)
    clear hq6 e12
    go_wp2_with fail
    refine (dchain_is (a ++ m) q4 (la + lm) cY Y Q4.out LX.out (by omega) WX.out _ SY hG).mono ?_; rintro e w17 ⟨rfl, hb⟩
    replace hSa := hSa.below hb
    replace hSb := hSb.below hb
    replace hSm := hSm.below hb
    replace hL := hL.below hb
    replace SX := SX.below hb
    replace SI := SI.below hb
    replace SY := SY.below hb
    replace SZ := SZ.below hb
    replace hG := hG.below hb
    replace B := B.trans (hb.mono (by have := B.size; simp <;> omega))
    clear hb
    go_wp2_with fail
    refine (dchain_is (b ++ m) q4 (lb + lm) cZ Z Q6.out LY.out (by omega) WY.out _ SZ hG).mono ?_; rintro e w18 ⟨rfl, hb⟩
    replace hSa := hSa.below hb
    replace hSb := hSb.below hb
    replace hSm := hSm.below hb
    replace hL := hL.below hb
    replace SX := SX.below hb
    replace SI := SI.below hb
    replace SY := SY.below hb
    replace SZ := SZ.below hb
    replace hG := hG.below hb
    replace B := B.trans (hb.mono (by have := B.size; simp <;> omega))
    clear hb
    go_wp2_with fail
    go_ret
    exact ⟨rfl, B⟩
  · have t12 : ((q1 : Int) != (q2 : Int)) = true := by simp; omega
    go_wp2_with fail
    go_ret
    exact ⟨rfl, B⟩
end Go.Proofs.YtmpimbolhjmapaaDoor
