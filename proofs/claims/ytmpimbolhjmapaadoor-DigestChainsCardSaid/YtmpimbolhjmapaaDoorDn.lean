/- The walks of the reference's Next, Chain, Few. -/
import Derived.Test.YtmpimbolhjmapaaDoorDx
namespace Go.Proofs.YtmpimbolhjmapaaDoor
open Go.RowKit

namespace Dg
theorem txt_len {d : Nat} {l : List Int} (h : ∀ n ∈ l, -9223372036854775808 ≤ n ∧ n ≤ 9223372036854775807) : (txt d l).length ≤ 8 + 22 * l.length := by
  have := txs_len h
  unfold txt
  rw [List.length_append]
  have : (be8 d).length = 8 := by simp [be8]
  omega
theorem chain_snoc {l : List (List Int)} {i : Nat} (h : i < l.length) : chain (l.take (i + 1)) = next (chain (l.take i)) ((l[i].length : Int) :: l[i]) := by
  rw [List.take_succ_eq_append_getElem h, chain_last]
/-- Lists of integers, not too many and not too long. -/
def few (l : List (List Int)) : Bool := l.all (fun x => decide (x.length ≤ 40)) && decide (l.length ≤ 40)
end Dg

theorem knext_is (d : Nat) (l : List Int) (D : Nat) (len cap : Nat) (A : Option Addr) (h : Dg.next d l = D) (hd : d < 18446744073709551616) (hl : l.length = len) (hmax : len ≤ 1000000) (hw : ∀ n ∈ l, -9223372036854775808 ≤ n ∧ n ≤ 9223372036854775807) (w : World) (hL : SlK .i64 w A l) :
    Calls Tryd.prog 14 #[.int .u64 (d : Int), .slice A len cap] w fun e w' => e = .returned (.int .u64 (D : Int)) ∧ Below w.heap.size w w' := by
  have HT : Hid (Dg.sum (Dg.txt d l) = D ∧ (Dg.txt d l).length ≤ 1000000000000 ∧ ∀ x ∈ Dg.txt d l, x < 256) := Lib.hid ⟨h, by have := Dg.txt_len (d := d) hw; omega, Dg.txt_lt d l⟩
  have HK := Lib.hid (ktext_is d l (Dg.txt d l) len cap A rfl hd hl hmax hw w hL)
  clear hL hw hl h
  generalize Dg.txt d l = T at *
  generalize hTl : T.length = L at *
  have HTl := Lib.hid hTl
  clear hTl
  go_enter Tryd.func14, Tryd.ntmps14
  go_wp2_with (first | (go_at_call 17; refine HK.out.mono ?_; rintro e w2 ⟨D2, c2, rfl, hT, hb2⟩) | (go_at_call 12; refine (ksum_is T L c2 D2 D HT.out.1 HTl.out HT.out.2.2 HT.out.2.1 _ hT).mono ?_; rintro e w3 ⟨rfl, hb3⟩) | fail)
  go_ret
  exact ⟨rfl, hb2.trans (hb3.mono hb2.size)⟩

theorem infoInt : (Tryd.prog.info? 3).map (fun i => (i.zero, i.size, i.bytes)) = some (some (.int .i64 0), 1, 8) := by kernel_rfl

set_option maxHeartbeats 1600000 in
theorem kchain_is (l : List (List Int)) (d : Nat) (n cap : Nat) (A : Option Addr) (h : Dg.chain l = d) (hl : l.length = n) (hmax : n ≤ 1000000) (hw : ∀ g ∈ l, g.length ≤ 100000 ∧ ∀ x ∈ g, -9223372036854775808 ≤ x ∧ x ≤ 9223372036854775807) (w : World) (hL : SlL w A l) :
    Calls Tryd.prog 16 #[.slice A n cap] w fun e w' => e = .returned (.int .u64 (d : Int)) ∧ Below w.heap.size w w' := by
  have HD := Lib.hid h
  have HN := Lib.hid hl
  have HL := Lib.hid hL
  have HW := Lib.hid hw
  clear h hl hL hw
  obtain ⟨i0, hi, hz0, hz1, hz2⟩ := info_parts infoInt
  go_enter Tryd.func16, Tryd.ntmps16
  go_wp2_with (first | (go_at_call 12; refine (ksum_is [] 0 0 none Dg.beg rfl rfl (by simp) (by omega) _ (SlN.nil _ _ _)).mono ?_; rintro e w2 ⟨rfl, hb2⟩) | fail)
  have h0 : Dg.beg < 18446744073709551616 := by decide
  have h1 : Hid (Dg.chain [] = Dg.beg) := Lib.hid rfl
  generalize Dg.beg = beg at *
  go_loopw [3, 4] (fun s3 s4 wr => ∃ i e : Nat, i ≤ n ∧ s4 = .int .i64 i ∧ s3 = .int .u64 (e : Int) ∧ e < 18446744073709551616 ∧ Hid (Dg.chain (l.take i) = e) ∧ Below w.heap.size w wr) (fun _ s4 _ => n - (intOf s4).toNat)
  case atStart => exact ⟨0, beg, Nat.zero_le _, rfl, rfl, h0, Lib.hid (by rw [List.take_zero]; exact h1.out), hb2⟩
  case round =>
    clear hb2
    obtain ⟨i, e, hi9, rfl, rfl, he, HE, hG⟩ := hrel
    by_cases hlt : i < n
    · have hil : i < l.length := by have := HN.out; omega
      obtain ⟨bb, off, rfl, hbb, hc⟩ := HL.out (by omega)
      obtain ⟨C, cc, x0, hC, hCn⟩ := hc i hil
      replace x0 := (hG.cell (p := ⟨bb, off + i, none⟩) hbb).trans x0
      replace hC := hC.below (hG)
      obtain ⟨g40, g0⟩ := HW.out _ (List.getElem_mem hil)
      have hS := Dg.chain_snoc hil
      rw [← atL_eq hil] at g40 g0 hS
      rw [HE.out] at hS
      clear hc HE
      generalize atL l i = g at *
      obtain ⟨m, hm⟩ : ∃ m, g.length = m := ⟨_, rfl⟩
      rw [hm] at g40 hS x0
      obtain ⟨e2, he2⟩ : ∃ e2, Dg.next e ((m : Int) :: g) = e2 := ⟨_, rfl⟩
      have he3 : e2 < 18446744073709551616 := by rw [← he2]; exact Dg.next_lt _ _
      rw [he2] at hS
      have HS := Lib.hid hS
      have HM := Lib.hid hm
      have HG0 : Hid (∀ x ∈ (m : Int) :: g, -9223372036854775808 ≤ x ∧ x ≤ 9223372036854775807) := Lib.hid (fun x hx => by
        rcases List.mem_cons.1 hx with rfl | h
        · omega
        · exact g0 x h)
      have HE2 := Lib.hid he2
      have HC := Lib.hid hC
      have HCn := Lib.hid hCn
      clear hS hm g0 he2 hC hCn
      have hb1 : bb < wr.heap.size := Nat.lt_of_lt_of_le hbb hG.size
      go_wp2_with (first | (at_builtin; refine append_slk .i64 rfl _ _ 24 rfl wr.heap.size 3 i0 (.int .i64 0) 8 Tryd.underlying24 hi hz0 hz1 hz2 rfl (.slice (some ⟨wr.heap.size, 0, none⟩) 1 1) 1 [.int .i64 (m : Int)] rfl (World.ownsRow_lit wr #[.int .i64 (m : Int)] 1 (Nat.le_refl _) (by unfold maxLen; omega) rfl) C m cc g rfl HCn.out HM.out (HC.out.alloc _) (by unfold maxLen; omega) (by omega) (by simp) ?_; intro v4 w4 hown4 hgrow4; have hown5 : w4.ownsRow wr.heap.size 3 1 v4 (1 + m) (vK .i64 ((m : Int) :: g)) := hown4; obtain ⟨hlen4, A4, cap4, rfl, hsl4⟩ := own_k hown5) | (go_at_call 14; refine (knext_is e ((m : Int) :: g) e2 (1 + m) cap4 A4 HE2.out he hlen4 (by omega) HG0.out _ hsl4).mono ?_; rintro e5 w5 ⟨rfl, hb5⟩) | fail)
      go_roundw
      case rel =>
        refine ⟨i + 1, e2, by omega, by simp, rfl, he3, HS, ?_⟩
        have := hG.size
        have := hb5.size
        have hG4 := (hG.alloc hG.size _).grown hgrow4 (by simp; omega) (fun j hj => by cases hj; omega)
        exact hG4.trans (hb5.mono hG4.size)
      case measure => simp [intOf]; omega
    · obtain rfl : i = n := by omega
      have hT : l.take i = l := List.take_of_length_le (by rw [HN.out]; omega)
      have hE := HE.out
      rw [hT, HD.out] at hE
      subst hE
      go_wp2_with fail
      go_ret
      exact ⟨rfl, hG⟩

namespace Dg
theorem few_step {l : List (List Int)} {i : Nat} (h : i < l.length) : l.drop i = l[i] :: l.drop (i + 1) := List.drop_eq_getElem_cons h
end Dg
set_option maxHeartbeats 800000 in
theorem kfew_is (l : List (List Int)) (f : Bool) (n cap : Nat) (A : Option Addr) (h : Dg.few l = f) (hl : l.length = n) (hmax : n ≤ 9223372036854775807) (w : World) (hL : SlL w A l) :
    Calls Tryd.prog 10 #[.slice A n cap] w fun e w' => e = .returned (.bool f) ∧ w' = w := by
  have HF := Lib.hid h
  have HN := Lib.hid hl
  have HL := Lib.hid hL
  clear h hl hL
  go_enter Tryd.func10, Tryd.ntmps10
  go_wp2
  go_loopw [2, 3] (fun s2 s3 wr => ∃ i : Nat, i ≤ n ∧ s2 = .bool false ∧ s3 = .int .i64 i ∧ Hid ((l.take i).all (fun x => decide (x.length ≤ 40)) = true) ∧ wr = w) (fun _ s3 _ => n - (intOf s3).toNat)
  case atStart => exact ⟨0, Nat.zero_le _, rfl, rfl, Lib.hid (by simp), rfl⟩
  case round =>
    obtain ⟨i, hi9, rfl, rfl, HA, rfl⟩ := hrel
    by_cases hlt : i < n
    · have hil : i < l.length := by have := HN.out; omega
      obtain ⟨bb, off, rfl, hbb, hc⟩ := HL.out (by omega)
      obtain ⟨C, cc, x0, hC, hCn⟩ := hc i hil
      have HG := Lib.hid (atL_eq hil)
      have HS : Hid ((l.take (i + 1)).all (fun x => decide (x.length ≤ 40)) = decide ((atL l i).length ≤ 40)) := Lib.hid (by
        rw [List.take_succ_eq_append_getElem hil, List.all_append, HA.out, HG.out]; simp)
      have HX : Hid (¬ (atL l i).length ≤ 40 → f = false) := Lib.hid (fun h => by
        rw [← HF.out]
        unfold Dg.few
        rw [Bool.and_eq_false_iff]
        left
        rw [List.all_eq_false]
        exact ⟨l[i], List.getElem_mem hil, by rw [← HG.out]; simpa using h⟩)
      clear hc HG hC hCn
      generalize (atL l i).length = m at *
      by_cases hm : m ≤ 40
      · go_wp2_with fail
        go_roundw
        case rel => exact ⟨i + 1, by omega, rfl, by simp, Lib.hid (by rw [HS.out]; simpa using hm), (by first | rfl | trivial)⟩
        case measure => simp [intOf]; omega
      · obtain rfl := HX.out hm
        go_wp2_with fail
        go_ret
        exact ⟨rfl, rfl⟩
    · obtain rfl : i = n := by omega
      have hT : l.take i = l := List.take_of_length_le (by rw [HN.out]; omega)
      have hF := HF.out
      rw [hT] at HA
      unfold Dg.few at hF
      rw [HA.out, HN.out, Bool.true_and] at hF
      subst hF
      have e41 : decide (i ≤ 40) = decide ((i : Int) ≤ 40) := decide_eq_decide.2 (by omega)
      go_wp2_with fail
      go_ret
      exact ⟨by rw [e41]; rfl, rfl⟩
end Go.Proofs.YtmpimbolhjmapaaDoor
