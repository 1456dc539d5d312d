/- The walks of the reference's bytes, Put. -/
import Derived.Test.YtnnhpbkhfaaaeaaCb
namespace Go.Proofs.Ytnnhpbkhfaaaeaa
open Go.RowKit

namespace Cd
theorem ones_snoc {l : List Int} {i : Nat} (h : i < l.length) : ones (l.take (i + 1)) = ones (l.take i) ++ one l[i] := by
  rw [List.take_succ_eq_append_getElem h, ones_app]
  simp [ones]
end Cd

set_option maxHeartbeats 3200000 in
theorem kbytes_is (d : Nat) (hd : d < 18446744073709551616) (w : World) :
    Calls Try.prog 26 #[.int .u64 (d : Int)] w fun e w' => ∃ D c, e = .returned (.slice D 8 c) ∧ SlN .u8 w' D (Dg.be8 d) ∧ (D = none → c = 0) ∧ Below w.heap.size w w' := by
  obtain ⟨i0, hi, hz0, hz1, hz2⟩ := info_parts infoByte
  go_enter Try.func26, Try.ntmps26
  go_wp2
  go_loopw [3, 4] (fun s3 s4 wr => ∃ (i : Nat) (q : Int), i ≤ 8 ∧ q = i ∧ s4 = .int .i64 q ∧ wr.ownsRow w.heap.size 5 1 s3 i (vN .u8 ((Dg.be8 d).take i)) ∧ Below w.heap.size w wr) (fun _ s4 _ => 8 - (intOf s4).toNat)
  case atStart => exact ⟨0, 0, by omega, rfl, rfl, World.ownsRow_nil _ _ _ _, Below.refl _ _⟩
  case round =>
    obtain ⟨i, q, hi8, hq, rfl, hown, hG⟩ := hrel
    by_cases hlt : i < 8
    · have c8 : i = 0 ∨ i = 1 ∨ i = 2 ∨ i = 3 ∨ i = 4 ∨ i = 5 ∨ i = 6 ∨ i = 7 := by omega
      clear hi8 hlt
      rcases c8 with rfl | rfl | rfl | rfl | rfl | rfl | rfl | rfl
      · obtain rfl : q = 0 := hq
        have f0 : (d : Int) / 72057594037927936 % 256 = ((d / 72057594037927936 % 256 : Nat) : Int) := by omega
        have f1 : (d : Int) / 72057594037927936 = ((d / 72057594037927936 % 256 : Nat) : Int) := by omega
        have HT : Hid (vN .u8 ((Dg.be8 d).take 0) ++ [.int .u8 ((d / 72057594037927936 % 256 : Nat) : Int)] = vN .u8 ((Dg.be8 d).take 1)) := Lib.hid (by simp [Dg.be8, vN])
        generalize d / 72057594037927936 % 256 = x at *
        go_wp2_with (first | (at_builtin; refine wpList_append_own _ rfl _ _ 23 rfl w.heap.size 5 i0 (.int .u8 0) 1 1 Try.underlying23 hi hz0 hz1 hz2 rfl (by decide) _ _ _ rfl (hown.alloc _) ⟨wr.heap.size, 0, none⟩ 1 1 [.int .u8 (x : Int)] rfl rfl (cell_one_new _ _ _) (fun u hu => by simp at hu; subst hu; rfl) (by unfold maxLen; omega) (by omega) (by have := hG.size; simp; omega) ?_; intro v' w4 hown4 hgrow hnil) | fail)
        go_roundw
        case rel => exact ⟨1, 1, by omega, rfl, rfl, (by rw [HT.out] at hown4; exact hown4), (hG.alloc hG.size _).grown hgrow (by have := hG.size; simp; omega) (own_ne hown)⟩
        case measure => simp [intOf]
      · obtain rfl : q = 1 := hq
        have f0 : (d : Int) / 281474976710656 % 256 = ((d / 281474976710656 % 256 : Nat) : Int) := by omega
        have HT : Hid (vN .u8 ((Dg.be8 d).take 1) ++ [.int .u8 ((d / 281474976710656 % 256 : Nat) : Int)] = vN .u8 ((Dg.be8 d).take 2)) := Lib.hid (by simp [Dg.be8, vN])
        generalize d / 281474976710656 % 256 = x at *
        go_wp2_with (first | (at_builtin; refine wpList_append_own _ rfl _ _ 23 rfl w.heap.size 5 i0 (.int .u8 0) 1 1 Try.underlying23 hi hz0 hz1 hz2 rfl (by decide) _ _ _ rfl (hown.alloc _) ⟨wr.heap.size, 0, none⟩ 1 1 [.int .u8 (x : Int)] rfl rfl (cell_one_new _ _ _) (fun u hu => by simp at hu; subst hu; rfl) (by unfold maxLen; omega) (by omega) (by have := hG.size; simp; omega) ?_; intro v' w4 hown4 hgrow hnil) | fail)
        go_roundw
        case rel => exact ⟨2, 2, by omega, rfl, rfl, (by rw [HT.out] at hown4; exact hown4), (hG.alloc hG.size _).grown hgrow (by have := hG.size; simp; omega) (own_ne hown)⟩
        case measure => simp [intOf]
      · obtain rfl : q = 2 := hq
        have f0 : (d : Int) / 1099511627776 % 256 = ((d / 1099511627776 % 256 : Nat) : Int) := by omega
        have HT : Hid (vN .u8 ((Dg.be8 d).take 2) ++ [.int .u8 ((d / 1099511627776 % 256 : Nat) : Int)] = vN .u8 ((Dg.be8 d).take 3)) := Lib.hid (by simp [Dg.be8, vN])
        generalize d / 1099511627776 % 256 = x at *
        go_wp2_with (first | (at_builtin; refine wpList_append_own _ rfl _ _ 23 rfl w.heap.size 5 i0 (.int .u8 0) 1 1 Try.underlying23 hi hz0 hz1 hz2 rfl (by decide) _ _ _ rfl (hown.alloc _) ⟨wr.heap.size, 0, none⟩ 1 1 [.int .u8 (x : Int)] rfl rfl (cell_one_new _ _ _) (fun u hu => by simp at hu; subst hu; rfl) (by unfold maxLen; omega) (by omega) (by have := hG.size; simp; omega) ?_; intro v' w4 hown4 hgrow hnil) | fail)
        go_roundw
        case rel => exact ⟨3, 3, by omega, rfl, rfl, (by rw [HT.out] at hown4; exact hown4), (hG.alloc hG.size _).grown hgrow (by have := hG.size; simp; omega) (own_ne hown)⟩
        case measure => simp [intOf]
      · obtain rfl : q = 3 := hq
        have f0 : (d : Int) / 4294967296 % 256 = ((d / 4294967296 % 256 : Nat) : Int) := by omega
        have HT : Hid (vN .u8 ((Dg.be8 d).take 3) ++ [.int .u8 ((d / 4294967296 % 256 : Nat) : Int)] = vN .u8 ((Dg.be8 d).take 4)) := Lib.hid (by simp [Dg.be8, vN])
        generalize d / 4294967296 % 256 = x at *
        go_wp2_with (first | (at_builtin; refine wpList_append_own _ rfl _ _ 23 rfl w.heap.size 5 i0 (.int .u8 0) 1 1 Try.underlying23 hi hz0 hz1 hz2 rfl (by decide) _ _ _ rfl (hown.alloc _) ⟨wr.heap.size, 0, none⟩ 1 1 [.int .u8 (x : Int)] rfl rfl (cell_one_new _ _ _) (fun u hu => by simp at hu; subst hu; rfl) (by unfold maxLen; omega) (by omega) (by have := hG.size; simp; omega) ?_; intro v' w4 hown4 hgrow hnil) | fail)
        go_roundw
        case rel => exact ⟨4, 4, by omega, rfl, rfl, (by rw [HT.out] at hown4; exact hown4), (hG.alloc hG.size _).grown hgrow (by have := hG.size; simp; omega) (own_ne hown)⟩
        case measure => simp [intOf]
      · obtain rfl : q = 4 := hq
        have f0 : (d : Int) / 16777216 % 256 = ((d / 16777216 % 256 : Nat) : Int) := by omega
        have HT : Hid (vN .u8 ((Dg.be8 d).take 4) ++ [.int .u8 ((d / 16777216 % 256 : Nat) : Int)] = vN .u8 ((Dg.be8 d).take 5)) := Lib.hid (by simp [Dg.be8, vN])
        generalize d / 16777216 % 256 = x at *
        go_wp2_with (first | (at_builtin; refine wpList_append_own _ rfl _ _ 23 rfl w.heap.size 5 i0 (.int .u8 0) 1 1 Try.underlying23 hi hz0 hz1 hz2 rfl (by decide) _ _ _ rfl (hown.alloc _) ⟨wr.heap.size, 0, none⟩ 1 1 [.int .u8 (x : Int)] rfl rfl (cell_one_new _ _ _) (fun u hu => by simp at hu; subst hu; rfl) (by unfold maxLen; omega) (by omega) (by have := hG.size; simp; omega) ?_; intro v' w4 hown4 hgrow hnil) | fail)
        go_roundw
        case rel => exact ⟨5, 5, by omega, rfl, rfl, (by rw [HT.out] at hown4; exact hown4), (hG.alloc hG.size _).grown hgrow (by have := hG.size; simp; omega) (own_ne hown)⟩
        case measure => simp [intOf]
      · obtain rfl : q = 5 := hq
        have f0 : (d : Int) / 65536 % 256 = ((d / 65536 % 256 : Nat) : Int) := by omega
        have HT : Hid (vN .u8 ((Dg.be8 d).take 5) ++ [.int .u8 ((d / 65536 % 256 : Nat) : Int)] = vN .u8 ((Dg.be8 d).take 6)) := Lib.hid (by simp [Dg.be8, vN])
        generalize d / 65536 % 256 = x at *
        go_wp2_with (first | (at_builtin; refine wpList_append_own _ rfl _ _ 23 rfl w.heap.size 5 i0 (.int .u8 0) 1 1 Try.underlying23 hi hz0 hz1 hz2 rfl (by decide) _ _ _ rfl (hown.alloc _) ⟨wr.heap.size, 0, none⟩ 1 1 [.int .u8 (x : Int)] rfl rfl (cell_one_new _ _ _) (fun u hu => by simp at hu; subst hu; rfl) (by unfold maxLen; omega) (by omega) (by have := hG.size; simp; omega) ?_; intro v' w4 hown4 hgrow hnil) | fail)
        go_roundw
        case rel => exact ⟨6, 6, by omega, rfl, rfl, (by rw [HT.out] at hown4; exact hown4), (hG.alloc hG.size _).grown hgrow (by have := hG.size; simp; omega) (own_ne hown)⟩
        case measure => simp [intOf]
      · obtain rfl : q = 6 := hq
        have f0 : (d : Int) / 256 % 256 = ((d / 256 % 256 : Nat) : Int) := by omega
        have HT : Hid (vN .u8 ((Dg.be8 d).take 6) ++ [.int .u8 ((d / 256 % 256 : Nat) : Int)] = vN .u8 ((Dg.be8 d).take 7)) := Lib.hid (by simp [Dg.be8, vN])
        generalize d / 256 % 256 = x at *
        go_wp2_with (first | (at_builtin; refine wpList_append_own _ rfl _ _ 23 rfl w.heap.size 5 i0 (.int .u8 0) 1 1 Try.underlying23 hi hz0 hz1 hz2 rfl (by decide) _ _ _ rfl (hown.alloc _) ⟨wr.heap.size, 0, none⟩ 1 1 [.int .u8 (x : Int)] rfl rfl (cell_one_new _ _ _) (fun u hu => by simp at hu; subst hu; rfl) (by unfold maxLen; omega) (by omega) (by have := hG.size; simp; omega) ?_; intro v' w4 hown4 hgrow hnil) | fail)
        go_roundw
        case rel => exact ⟨7, 7, by omega, rfl, rfl, (by rw [HT.out] at hown4; exact hown4), (hG.alloc hG.size _).grown hgrow (by have := hG.size; simp; omega) (own_ne hown)⟩
        case measure => simp [intOf]
      · obtain rfl : q = 7 := hq
        have f0 : (d : Int) % 256 = ((d % 256 : Nat) : Int) := by omega
        have HT : Hid (vN .u8 ((Dg.be8 d).take 7) ++ [.int .u8 ((d % 256 : Nat) : Int)] = vN .u8 ((Dg.be8 d).take 8)) := Lib.hid (by simp [Dg.be8, vN])
        generalize d % 256 = x at *
        go_wp2_with (first | (at_builtin; refine wpList_append_own _ rfl _ _ 23 rfl w.heap.size 5 i0 (.int .u8 0) 1 1 Try.underlying23 hi hz0 hz1 hz2 rfl (by decide) _ _ _ rfl (hown.alloc _) ⟨wr.heap.size, 0, none⟩ 1 1 [.int .u8 (x : Int)] rfl rfl (cell_one_new _ _ _) (fun u hu => by simp at hu; subst hu; rfl) (by unfold maxLen; omega) (by omega) (by have := hG.size; simp; omega) ?_; intro v' w4 hown4 hgrow hnil) | fail)
        go_roundw
        case rel => exact ⟨8, 8, by omega, rfl, rfl, (by rw [HT.out] at hown4; exact hown4), (hG.alloc hG.size _).grown hgrow (by have := hG.size; simp; omega) (own_ne hown)⟩
        case measure => simp [intOf]
    · obtain rfl : i = 8 := by omega
      obtain rfl : q = 8 := hq
      have h8 : (Dg.be8 d).take 8 = Dg.be8 d := by simp [Dg.be8]
      rw [h8] at hown
      obtain ⟨hlen, D, c, rfl, hsl, hD⟩ := own_b hown
      clear hown h8
      have HS := Lib.hid hsl
      clear hsl
      go_wp2_with fail
      go_ret
      exact ⟨D, c, rfl, HS.out, hD, hG⟩

theorem kput_limit (len cap : Nat) (A : Option Addr) (hl : 4000 < len) (w : World) :
    Calls Try.prog 11 #[.slice A len cap] w fun e w' => e = .returned (.tuple #[.slice none 0 0, .int .i64 2]) ∧ Below w.heap.size w w' := by
  have hl' : (4000 : Int) < (len : Int) := by omega
  go_enter Try.func11, Try.ntmps11
  go_wp2_with fail
  go_ret2
  exact ⟨rfl, Below.refl _ _⟩

set_option maxHeartbeats 1600000 in
theorem kput_is (l : List Int) (T : List Nat) (N len cap : Nat) (A : Option Addr) (h : Cd.put l = T) (hT : T.length = N) (hl : l.length = len) (h4 : len ≤ 4000) (hw : Cd.wds l) (w : World) (hL : SlK .i64 w A l) :
    Calls Try.prog 11 #[.slice A len cap] w fun e w' => ∃ D c, e = .returned (.tuple #[.slice D N c, .int .i64 0]) ∧ SlN .u8 w' D T ∧ (D = none → c = 0) ∧ Below w.heap.size w w' := by
  have hl' : ¬ (4000 : Int) < (len : Int) := by omega
  have hlw : Cd.wd (len : Int) := by unfold Cd.wd; omega
  have HN := Lib.hid hl
  have HL := Lib.hid hL
  have HW := Lib.hid hw
  have HT : Hid (Cd.one (len : Int) ++ Cd.ones l = T) := Lib.hid (by rw [← hl]; exact h)
  have HTN := Lib.hid hT
  clear hl hL hw h hT
  obtain ⟨i0, hi, hz0, hz1, hz2⟩ := info_parts infoByte
  obtain ⟨B, hB⟩ : ∃ B, Cd.one (len : Int) = B := ⟨_, rfl⟩
  obtain ⟨b, hb⟩ : ∃ b, B.length = b := ⟨_, rfl⟩
  have hb10 : b ≤ 10 := by rw [← hb, ← hB]; exact Cd.one_len hlw
  have HB := Lib.hid hB
  have Hb := Lib.hid hb
  rw [hB] at HT
  clear hB hb
  go_enter Try.func11, Try.ntmps11
  go_wp2_with (first | (go_at_call 24; refine (kone_is (len : Int) B b HB.out Hb.out hlw _).mono ?_; rintro e w1 ⟨v1, rfl, hown1, hb1⟩) | fail)
  go_loopw [4, 5] (fun s4 s5 wr => ∃ i M : Nat, i ≤ len ∧ M ≤ 10 + 10 * i ∧ s5 = .int .i64 i ∧ Hid ((B ++ Cd.ones (l.take i)).length = M) ∧ wr.ownsRow w.heap.size 5 1 s4 M (vN .u8 (B ++ Cd.ones (l.take i))) ∧ Below w.heap.size w wr) (fun _ s5 _ => len - (intOf s5).toNat)
  case atStart => exact ⟨0, b, by omega, by omega, rfl, Lib.hid (by simp [Cd.ones, Hb.out]), (by simpa [Cd.ones] using hown1), hb1⟩
  case round =>
    clear hown1 hb1
    obtain ⟨i, M, hi9, hM9, rfl, HM, hown, hG⟩ := hrel
    by_cases hlt : i < len
    · have hil : i < l.length := by have := HN.out; omega
      obtain ⟨bb, off, rfl, hbb, hc⟩ := HL.out (by omega)
      have x0 := (hG.cell (p := ⟨bb, off + i, none⟩) hbb).trans (hc i hil)
      have hn := HW.out _ (List.getElem_mem hil)
      have hTx := Cd.ones_snoc hil
      rw [← atI_eq hil] at hn hTx
      clear hc
      generalize atI l i = n at *
      obtain ⟨U, hU⟩ : ∃ U, Cd.one n = U := ⟨_, rfl⟩
      obtain ⟨u, hu⟩ : ∃ u, U.length = u := ⟨_, rfl⟩
      have hu10 : u ≤ 10 := by rw [← hu, ← hU]; exact Cd.one_len hn
      rw [hU] at hTx
      have HT2 : Hid (vN .u8 (B ++ Cd.ones (l.take i)) ++ vN .u8 U = vN .u8 (B ++ Cd.ones (l.take (i + 1)))) := Lib.hid (by rw [hTx, ← vN_app, List.append_assoc])
      have HM2 : Hid ((B ++ Cd.ones (l.take (i + 1))).length = M + u) := Lib.hid (by
        have := HM.out
        rw [hTx]
        simp only [List.length_append] at this ⊢
        omega)
      have HU := Lib.hid hU
      have Hu := Lib.hid hu
      have HNn := Lib.hid hn
      clear hTx hU hu hn
      generalize B ++ Cd.ones (l.take i) = G at *
      go_wp2_with (first | (go_at_call 24; refine (kone_is n U u HU.out Hu.out HNn.out _).mono ?_; rintro e w2 ⟨v2, rfl, hown2, hb2⟩; obtain ⟨hl2, A2, c2, rfl, S2, hA2⟩ := own_b hown2; have hownk := hown.kept (below_grown hb2 none) none_ne) | (at_builtin; refine append_sln .u8 rfl _ _ 23 rfl w.heap.size 5 i0 (.int .u8 0) 1 Try.underlying23 hi hz0 hz1 hz2 rfl _ M (vN .u8 G) rfl hownk A2 u c2 U rfl hA2 Hu.out S2 (by unfold maxLen; omega) (by omega) (by have := hG.size; have := hb2.size; omega) ?_; intro v4 w4 hown4 hgrow4) | fail)
      go_roundw
      case rel => exact ⟨i + 1, M + u, by omega, by omega, by simp, HM2, (by rw [HT2.out] at hown4; exact hown4), (hG.trans (hb2.mono hG.size)).grown hgrow4 (by have := hG.size; have := hb2.size; omega) (own_ne hownk)⟩
      case measure => simp [intOf]; omega
    · obtain rfl : i = len := by omega
      have hTk : l.take i = l := List.take_of_length_le (by rw [HN.out]; omega)
      rw [hTk, HT.out] at hown HM
      have hMN : M = N := HM.out.symm.trans HTN.out
      subst hMN
      obtain ⟨hlen, D, c, rfl, hsl, hD⟩ := own_b hown
      clear hown HM hTk
      go_wp2_with fail
      go_ret2
      exact ⟨D, c, rfl, hsl, hD, hG⟩
end Go.Proofs.Ytnnhpbkhfaaaeaa
