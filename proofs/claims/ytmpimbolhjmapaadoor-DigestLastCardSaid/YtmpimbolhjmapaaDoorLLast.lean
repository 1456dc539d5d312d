/- The walk of DigestLast. -/
import Derived.Test.YtmpimbolhjmapaaDoorDh
import Derived.Test.YtmpimbolhjmapaaDoorDt
namespace Go.Proofs.YtmpimbolhjmapaaDoor
open Go.RowKit

theorem infoSl : (Tryd.prog.info? 24).map (fun i => (i.zero, i.size, i.bytes)) = some (some (.slice none 0 0), 1, 24) := by kernel_rfl

set_option maxHeartbeats 1600000 in
theorem digestLast_walk (C : Option Addr) (n cc : Nat) (c : List (List Int)) (hc : c.length = n) (hn : n ≤ 9223372036854775807) (hcw : ∀ g ∈ c, ∀ x ∈ g, -9223372036854775808 ≤ x ∧ x ≤ 9223372036854775807) (hC : C = none → cc = 0) (L : Option Addr) (len cap : Nat) (l : List Int) (hl : l.length = len) (hmax : len ≤ 17592186044416) (hw : ∀ x ∈ l, -9223372036854775808 ≤ x ∧ x ≤ 9223372036854775807) (hLn : L = none → cap = 0) (p : Int) (hp : 0 ≤ p ∧ p < 65536) (t : Int) (ht : 0 ≤ t ∧ t < 256) (w : World) (hG : GK w) (hS : SlL w C c) (hL : SlK .i64 w L l) :
    Calls Tryd.prog 8 #[.slice C n cc, .slice L len cap, .int .u16 p, .int .u8 t] w fun e w' => e = .returned (.bool true) ∧ Below w.heap.size w w' := by
  obtain ⟨P, rfl⟩ := Int.eq_ofNat_of_zero_le hp.1
  obtain ⟨T, rfl⟩ := Int.eq_ofNat_of_zero_le ht.1
  have hP : P < 65536 := by omega
  have hT : T < 256 := by omega
  have HC := Lib.hid hc
  have HN := Lib.hid hl
  have HA := Lib.hid hLn
  have HCn := Lib.hid hC
  clear hp ht hc hl hLn hC
  cases hR : Dg.tn l P T with
  | none =>
    have HR := Lib.hid hR
    clear hR hw hcw
    cases hF : Dg.few c with
    | false =>
      have HF := Lib.hid hF
      clear hF
      go_enter Tryd.func8, Tryd.ntmps8
      go_wp2_with fail
      have B := Below.refl w.heap.size w
      refine (head_any _ hG).mono ?_; rintro e w1 ⟨rfl, hb⟩
      replace hS := hS.below hb
      replace hL := hL.below hb
      replace hG := hG.below hb
      replace B := B.trans (hb.mono (by have := B.size; simp <;> omega))
      clear hb
      go_wp2_with fail
      refine (turned_none l P T len cap L HR.out hP hT HN.out (by omega) _ HA.out hL).mono ?_; rintro e w2 ⟨rfl, hb⟩
      replace hS := hS.below hb
      replace hL := hL.below hb
      replace hG := hG.below hb
      replace B := B.trans (hb.mono (by have := B.size; simp <;> omega))
      clear hb
      go_wp2_with fail
      refine (kfew_is c false n cc C HF.out HC.out (by omega) _ hS).mono ?_; rintro e w3 ⟨rfl, rfl⟩
      go_wp2_with fail
      go_ret
      exact ⟨rfl, B⟩
    | true =>
      have HF := Lib.hid hF
      clear hF
      by_cases z1 : (40 : Int) < (len : Int)
      ·
        go_enter Tryd.func8, Tryd.ntmps8
        go_wp2_with fail
        have B := Below.refl w.heap.size w
        refine (head_any _ hG).mono ?_; rintro e w1 ⟨rfl, hb⟩
        replace hS := hS.below hb
        replace hL := hL.below hb
        replace hG := hG.below hb
        replace B := B.trans (hb.mono (by have := B.size; simp <;> omega))
        clear hb
        go_wp2_with fail
        refine (turned_none l P T len cap L HR.out hP hT HN.out (by omega) _ HA.out hL).mono ?_; rintro e w2 ⟨rfl, hb⟩
        replace hS := hS.below hb
        replace hL := hL.below hb
        replace hG := hG.below hb
        replace B := B.trans (hb.mono (by have := B.size; simp <;> omega))
        clear hb
        go_wp2_with fail
        refine (kfew_is c true n cc C HF.out HC.out (by omega) _ hS).mono ?_; rintro e w3 ⟨rfl, rfl⟩
        go_wp2_with fail
        go_ret
        exact ⟨rfl, B⟩
      ·
        go_enter Tryd.func8, Tryd.ntmps8
        go_wp2_with fail
        have B := Below.refl w.heap.size w
        refine (head_any _ hG).mono ?_; rintro e w1 ⟨rfl, hb⟩
        replace hS := hS.below hb
        replace hL := hL.below hb
        replace hG := hG.below hb
        replace B := B.trans (hb.mono (by have := B.size; simp <;> omega))
        clear hb
        go_wp2_with fail
        refine (turned_none l P T len cap L HR.out hP hT HN.out (by omega) _ HA.out hL).mono ?_; rintro e w2 ⟨rfl, hb⟩
        replace hS := hS.below hb
        replace hL := hL.below hb
        replace hG := hG.below hb
        replace B := B.trans (hb.mono (by have := B.size; simp <;> omega))
        clear hb
        go_wp2_with fail
        refine (kfew_is c true n cc C HF.out HC.out (by omega) _ hS).mono ?_; rintro e w3 ⟨rfl, rfl⟩
        go_wp2_with fail
        go_ret
        exact ⟨rfl, B⟩
  | some m =>
    have HR := Lib.hid hR
    cases hF : Dg.few c with
    | false =>
      have HF := Lib.hid hF
      clear hF
      clear hR hw hcw
      go_enter Tryd.func8, Tryd.ntmps8
      go_wp2_with fail
      have B := Below.refl w.heap.size w
      refine (head_any _ hG).mono ?_; rintro e w1 ⟨rfl, hb⟩
      replace hS := hS.below hb
      replace hL := hL.below hb
      replace hG := hG.below hb
      replace B := B.trans (hb.mono (by have := B.size; simp <;> omega))
      clear hb
      go_wp2_with fail
      refine (turned_some l P T m len cap L HR.out hP hT HN.out (by omega) _ HA.out hL).mono ?_; rintro e w2 ⟨DM, cM, rfl, SM, hcM, hb⟩
      replace hS := hS.below hb
      replace hL := hL.below hb
      replace hG := hG.below hb
      replace B := B.trans (hb.mono (by have := B.size; simp <;> omega))
      clear hb
      go_wp2_with fail
      refine (kfew_is c false n cc C HF.out HC.out (by omega) _ hS).mono ?_; rintro e w3 ⟨rfl, rfl⟩
      go_wp2_with fail
      go_ret
      exact ⟨rfl, B⟩
    | true =>
      have HF := Lib.hid hF
      by_cases z1 : (40 : Int) < (len : Int)
      · clear hF hR hw hcw
        go_enter Tryd.func8, Tryd.ntmps8
        go_wp2_with fail
        have B := Below.refl w.heap.size w
        refine (head_any _ hG).mono ?_; rintro e w1 ⟨rfl, hb⟩
        replace hS := hS.below hb
        replace hL := hL.below hb
        replace hG := hG.below hb
        replace B := B.trans (hb.mono (by have := B.size; simp <;> omega))
        clear hb
        go_wp2_with fail
        refine (turned_some l P T m len cap L HR.out hP hT HN.out (by omega) _ HA.out hL).mono ?_; rintro e w2 ⟨DM, cM, rfl, SM, hcM, hb⟩
        replace hS := hS.below hb
        replace hL := hL.below hb
        replace hG := hG.below hb
        replace B := B.trans (hb.mono (by have := B.size; simp <;> omega))
        clear hb
        go_wp2_with fail
        refine (kfew_is c true n cc C HF.out HC.out (by omega) _ hS).mono ?_; rintro e w3 ⟨rfl, rfl⟩
        go_wp2_with fail
        go_ret
        exact ⟨rfl, B⟩
      obtain ⟨k1, k2⟩ := Dg.few_parts hF
      rw [HC.out] at k1
      have hlen40 : len ≤ 40 := by omega
      have hml : m.length = len := by rw [Dg.tn_len hR]; exact HN.out
      have hmw := Dg.tn_word hR hw
      have HCW : Hid (∀ g ∈ c ++ [l], g.length ≤ 100000 ∧ ∀ x ∈ g, -9223372036854775808 ≤ x ∧ x ≤ 9223372036854775807) := Lib.hid (fun g hg => by
        rcases List.mem_append.1 hg with h | h
        · exact ⟨by have := k2 g h; omega, hcw g h⟩
        · rw [List.mem_singleton.1 h]; exact ⟨by rw [HN.out]; omega, hw⟩)
      have HCM : Hid (∀ g ∈ c ++ [m], g.length ≤ 100000 ∧ ∀ x ∈ g, -9223372036854775808 ≤ x ∧ x ≤ 9223372036854775807) := Lib.hid (fun g hg => by
        rcases List.mem_append.1 hg with h | h
        · exact ⟨by have := k2 g h; omega, hcw g h⟩
        · rw [List.mem_singleton.1 h]; exact ⟨by rw [hml]; omega, hmw⟩)
      have HXl : Hid ((c ++ [l]).length = n + 1) := Lib.hid (by rw [List.length_append, HC.out]; rfl)
      have HYl : Hid ((c ++ [m]).length = n + 1) := Lib.hid (by rw [List.length_append, HC.out]; rfl)
      have HML := Lib.hid hml
      obtain ⟨q1, hq1⟩ : ∃ q, Dg.chain (c ++ [l]) = q := ⟨_, rfl⟩
      obtain ⟨q2, hq2⟩ : ∃ q, Dg.chain (c ++ [m]) = q := ⟨_, rfl⟩
      have hne := Dg.chain_tn (c := c) hR
      rw [hq1, hq2] at hne
      have hE : ((q1 : Int) != (q2 : Int)) = true := by simp; omega
      have HQ1 := Lib.hid hq1
      have HQ2 := Lib.hid hq2
      clear hF hR hw hcw hq1 hq2 hmw hml k2 hne
      obtain ⟨i0, hi, hz0, hz1, hz2⟩ := info_parts infoSl
      go_enter Tryd.func8, Tryd.ntmps8
      go_wp2_with fail
      have B := Below.refl w.heap.size w
      refine (head_any _ hG).mono ?_; rintro e w1 ⟨rfl, hb⟩
      replace hS := hS.below hb
      replace hL := hL.below hb
      replace hG := hG.below hb
      replace B := B.trans (hb.mono (by have := B.size; simp <;> omega))
      clear hb
      go_wp2_with fail
      refine (turned_some l P T m len cap L HR.out hP hT HN.out (by omega) _ HA.out hL).mono ?_; rintro e w2 ⟨DM, cM, rfl, SM, hcM, hb⟩
      replace hS := hS.below hb
      replace hL := hL.below hb
      replace hG := hG.below hb
      replace B := B.trans (hb.mono (by have := B.size; simp <;> omega))
      clear hb
      go_wp2_with fail
      refine (kfew_is c true n cc C HF.out HC.out (by omega) _ hS).mono ?_; rintro e w3 ⟨rfl, rfl⟩
      obtain ⟨xs, hI0, hV0⟩ := hS.values
      have hI := Lib.hid hI0
      have hVH := Lib.hid hV0
      have hIlen : xs.length = n := hI0.1.trans HC.out
      have xsnone := Lib.hid (hS.none_len HC.out HCn.out)
      have hOne := Lib.hid (hI0.app (IsL.one HN.out hL HA.out))
      clear hI0 hV0
      go_wp2_with (first | (at_builtin; refine append_vals rfl _ _ 25 rfl w3.heap.size 24 i0 (.slice none 0 0) 24 Tryd.underlying25 hi hz0 hz1 hz2 rfl (.slice (some ⟨w3.heap.size, 0, none⟩) 0 0) 0 [] rfl (World.ownsRow_made _ #[] 0 (Nat.le_refl _) (by unfold maxLen; omega) rfl) C n cc xs rfl xsnone.out hIlen (fun ad e => hVH.out ad e _ ((Below.refl _ _).alloc (Nat.le_refl _) _)) (hI.out.oneCell) (by unfold maxLen; omega) (by omega) (by simp) ?_; intro v4 w4 hown4 hgrow4; rw [Nat.zero_add, List.nil_append] at hown4; have B4 : Below w3.heap.size w3 w4 := ((Below.refl _ w3).alloc (Nat.le_refl _) _).grown hgrow4 (by simp) (fun j hj => by cases hj; exact Nat.le_refl _)) | (at_builtin; refine wpList_append_own _ rfl _ _ 25 rfl w3.heap.size 24 i0 (.slice none 0 0) 1 24 Tryd.underlying25 hi hz0 hz1 hz2 rfl (by decide) v4 n xs rfl (hown4.alloc _) ⟨w4.heap.size, 0, none⟩ 1 1 [.slice L len cap] rfl rfl (cell_one_new _ _ _) (fun u hu => by simp at hu; subst hu; rfl) (by unfold maxLen; omega) (by omega) (by have := B4.size; simp; omega) ?_; intro v5 w5 hown5 hgrow5 hnil5; have B5 : Below w3.heap.size w3 w5 := (B4.alloc B4.size _).grown hgrow5 (by have := B4.size; simp; omega) (own_ne hown4); obtain ⟨hl5, X, cX, rfl, SX⟩ := own_l hown5 (hOne.out.below B5)) | fail)
      have hb := B5
      clear B4 B5 hown4 hown5 hgrow4 hgrow5 hl5 hnil5
      replace hS := hS.below hb
      replace hL := hL.below hb
      replace SM := SM.below hb
      replace hG := hG.below hb
      replace B := B.trans (hb.mono (by have := B.size; simp <;> omega))
      clear hb
      clear hI hVH hIlen xsnone hOne
      refine (dchain_is (c ++ [l]) q1 (n + 1) cX X HQ1.out HXl.out (by omega) HCW.out _ SX hG).mono ?_; rintro e w6 ⟨rfl, hb⟩
      replace hS := hS.below hb
      replace hL := hL.below hb
      replace SM := SM.below hb
      replace SX := SX.below hb
      replace hG := hG.below hb
      replace B := B.trans (hb.mono (by have := B.size; simp <;> omega))
      clear hb
      obtain ⟨ys, hI0, hV0⟩ := hS.values
      have hI := Lib.hid hI0
      have hVH := Lib.hid hV0
      have hIlen : ys.length = n := hI0.1.trans HC.out
      have ysnone := Lib.hid (hS.none_len HC.out HCn.out)
      have hOne := Lib.hid (hI0.app (IsL.one HML.out SM hcM))
      clear hI0 hV0
      go_wp2_with (first | (at_builtin; refine append_vals rfl _ _ 25 rfl w6.heap.size 24 i0 (.slice none 0 0) 24 Tryd.underlying25 hi hz0 hz1 hz2 rfl (.slice (some ⟨w6.heap.size, 0, none⟩) 0 0) 0 [] rfl (World.ownsRow_made _ #[] 0 (Nat.le_refl _) (by unfold maxLen; omega) rfl) C n cc ys rfl ysnone.out hIlen (fun ad e => hVH.out ad e _ ((Below.refl _ _).alloc (Nat.le_refl _) _)) (hI.out.oneCell) (by unfold maxLen; omega) (by omega) (by simp) ?_; intro v7 w7 hown7 hgrow7; rw [Nat.zero_add, List.nil_append] at hown7; have B7 : Below w6.heap.size w6 w7 := ((Below.refl _ w6).alloc (Nat.le_refl _) _).grown hgrow7 (by simp) (fun j hj => by cases hj; exact Nat.le_refl _)) | (at_builtin; refine wpList_append_own _ rfl _ _ 25 rfl w6.heap.size 24 i0 (.slice none 0 0) 1 24 Tryd.underlying25 hi hz0 hz1 hz2 rfl (by decide) v7 n ys rfl (hown7.alloc _) ⟨w7.heap.size, 0, none⟩ 1 1 [.slice DM len cM] rfl rfl (cell_one_new _ _ _) (fun u hu => by simp at hu; subst hu; rfl) (by unfold maxLen; omega) (by omega) (by have := B7.size; simp; omega) ?_; intro v8 w8 hown8 hgrow8 hnil8; have B8 : Below w6.heap.size w6 w8 := (B7.alloc B7.size _).grown hgrow8 (by have := B7.size; simp; omega) (own_ne hown7); obtain ⟨hl8, Y, cY, rfl, SY⟩ := own_l hown8 (hOne.out.below B8)) | fail)
      have hb := B8
      clear B7 B8 hown7 hown8 hgrow7 hgrow8 hl8 hnil8
      replace hS := hS.below hb
      replace hL := hL.below hb
      replace SM := SM.below hb
      replace SX := SX.below hb
      replace hG := hG.below hb
      replace B := B.trans (hb.mono (by have := B.size; simp <;> omega))
      clear hb
      clear hI hVH hIlen ysnone hOne
      refine (dchain_is (c ++ [m]) q2 (n + 1) cY Y HQ2.out HYl.out (by omega) HCM.out _ SY hG).mono ?_; rintro e w9 ⟨rfl, hb⟩
      replace hS := hS.below hb
      replace hL := hL.below hb
      replace SM := SM.below hb
      replace SX := SX.below hb
      replace SY := SY.below hb
      replace hG := hG.below hb
      replace B := B.trans (hb.mono (by have := B.size; simp <;> omega))
      clear hb
      go_wp2_with fail
      go_ret
      exact ⟨rfl, B⟩
end Go.Proofs.YtmpimbolhjmapaaDoor
