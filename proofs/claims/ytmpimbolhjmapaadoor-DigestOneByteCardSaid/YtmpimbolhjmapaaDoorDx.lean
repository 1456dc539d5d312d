/- The walks of the reference's Text, Next. -/
import Derived.Test.YtmpimbolhjmapaaDoorDd
namespace Go.Proofs.YtmpimbolhjmapaaDoor
open Go.RowKit

namespace Dg
theorem dec_len {n : Int} (l0 : -9223372036854775808 ≤ n) (l1 : n ≤ 9223372036854775807) : (dec n).length ≤ 21 := by
  unfold dec
  rw [List.length_map]
  exact Lib.itoa_length_le n l0 l1
theorem txs_len {l : List Int} (h : ∀ n ∈ l, -9223372036854775808 ≤ n ∧ n ≤ 9223372036854775807) : (txs l).length ≤ 22 * l.length := by
  induction l with
  | nil => simp [txs]
  | cons n r ih =>
    have h1 := dec_len (h n (by simp)).1 (h n (by simp)).2
    have h2 := ih fun m hm => h m (by simp [hm])
    rw [txs_cons]
    simp
    omega
theorem txs_snoc {l : List Int} {i : Nat} (h : i < l.length) : txs (l.take (i + 1)) = txs (l.take i) ++ dec l[i] ++ [32] := by
  rw [List.take_succ_eq_append_getElem h, txs_app]
  simp [txs]
theorem be8_lt (d : Nat) : ∀ x ∈ be8 d, x < 256 := fun x hx => by
  simp [be8] at hx
  omega
theorem txt_lt (d : Nat) (l : List Int) : ∀ x ∈ txt d l, x < 256 := fun x hx => by
  rcases List.mem_append.1 hx with h | h
  · exact be8_lt d x h
  · exact txs_lt l x h
theorem dec_cells (n : Int) : Lib.strCells ⟨(Lib.itoa n).toArray⟩ = vN .u8 (dec n) := by
  unfold Lib.strCells vN dec
  rw [List.map_map]
  rfl
theorem dec_size (n : Int) : (⟨(Lib.itoa n).toArray⟩ : ByteArray).size = (dec n).length := by
  show (Lib.itoa n).toArray.size = _
  unfold dec
  simp
end Dg

set_option maxHeartbeats 3200000 in
theorem ktext_is (d : Nat) (l : List Int) (T : List Nat) (len cap : Nat) (A : Option Addr) (h : Dg.txt d l = T) (hd : d < 18446744073709551616) (hl : l.length = len) (hmax : len ≤ 1000000) (hw : ∀ n ∈ l, -9223372036854775808 ≤ n ∧ n ≤ 9223372036854775807) (w : World) (hL : SlK .i64 w A l) :
    Calls Tryd.prog 17 #[.int .u64 (d : Int), .slice A len cap] w fun e w' => ∃ D c, e = .returned (.slice D T.length c) ∧ SlN .u8 w' D T ∧ Below w.heap.size w w' := by
  have HT0 : Hid (Dg.be8 d ++ Dg.txs l = T) := Lib.hid h
  clear h
  have HN := Lib.hid hl
  have HL := Lib.hid hL
  have HW := Lib.hid hw
  clear hl hL hw
  obtain ⟨i0, hi, hz0, hz1, hz2⟩ := info_parts infoByte
  go_enter Tryd.func17, Tryd.ntmps17
  go_wp2
  go_loopw [5, 6] (fun s5 s6 wr => ∃ (i : Nat) (q : Int), i ≤ 8 ∧ q = i ∧ s6 = .int .i64 q ∧ wr.ownsRow w.heap.size 5 1 s5 i (vN .u8 ((Dg.be8 d).take i)) ∧ Below w.heap.size w wr) (fun _ s6 _ => 8 - (intOf s6).toNat)
  case atStart => exact ⟨0, 0, by omega, rfl, rfl, World.ownsRow_nil _ _ _ _, Below.refl _ _⟩
  case round =>
    obtain ⟨i, q, hi8, hq, rfl, hown, hG⟩ := hrel
    by_cases hlt : i < 8
    · have c8 : i = 0 ∨ i = 1 ∨ i = 2 ∨ i = 3 ∨ i = 4 ∨ i = 5 ∨ i = 6 ∨ i = 7 := by omega
      clear hi8 hlt
      rcases c8 with rfl | rfl | rfl | rfl | rfl | rfl | rfl | rfl
      · obtain rfl : q = 0 := hq
        have f0 : (d : Int) / 72057594037927936 % 256 = ((d / 72057594037927936 % 256 : Nat) : Int) := by omega
        have f1 : (d : Int) / 72057594037927936 = ((d / 72057594037927936 % 256 : Nat) : Int) := by omega
        have HT : Hid (vN .u8 ((Dg.be8 d).take 0) ++ [.int .u8 ((d / 72057594037927936 % 256 : Nat) : Int)] = vN .u8 ((Dg.be8 d).take 1)) := Lib.hid (by simp [Dg.be8, vN])
        generalize d / 72057594037927936 % 256 = x at *
        go_wp2_with (first | (at_builtin; refine wpList_append_own _ rfl _ _ 22 rfl w.heap.size 5 i0 (.int .u8 0) 1 1 Tryd.underlying22 hi hz0 hz1 hz2 rfl (by decide) _ _ _ rfl (hown.alloc _) ⟨wr.heap.size, 0, none⟩ 1 1 [.int .u8 (x : Int)] rfl rfl (cell_one_new _ _ _) (fun u hu => by simp at hu; subst hu; rfl) (by unfold maxLen; omega) (by omega) (by have := hG.size; simp; omega) ?_; intro v' w4 hown4 hgrow hnil) | fail)
        go_roundw
        case rel => exact ⟨1, 1, by omega, rfl, rfl, (by rw [HT.out] at hown4; exact hown4), (hG.alloc hG.size _).grown hgrow (by have := hG.size; simp; omega) (own_ne hown)⟩
        case measure => simp [intOf]
      · obtain rfl : q = 1 := hq
        have f0 : (d : Int) / 281474976710656 % 256 = ((d / 281474976710656 % 256 : Nat) : Int) := by omega
        have HT : Hid (vN .u8 ((Dg.be8 d).take 1) ++ [.int .u8 ((d / 281474976710656 % 256 : Nat) : Int)] = vN .u8 ((Dg.be8 d).take 2)) := Lib.hid (by simp [Dg.be8, vN])
        generalize d / 281474976710656 % 256 = x at *
        go_wp2_with (first | (at_builtin; refine wpList_append_own _ rfl _ _ 22 rfl w.heap.size 5 i0 (.int .u8 0) 1 1 Tryd.underlying22 hi hz0 hz1 hz2 rfl (by decide) _ _ _ rfl (hown.alloc _) ⟨wr.heap.size, 0, none⟩ 1 1 [.int .u8 (x : Int)] rfl rfl (cell_one_new _ _ _) (fun u hu => by simp at hu; subst hu; rfl) (by unfold maxLen; omega) (by omega) (by have := hG.size; simp; omega) ?_; intro v' w4 hown4 hgrow hnil) | fail)
        go_roundw
        case rel => exact ⟨2, 2, by omega, rfl, rfl, (by rw [HT.out] at hown4; exact hown4), (hG.alloc hG.size _).grown hgrow (by have := hG.size; simp; omega) (own_ne hown)⟩
        case measure => simp [intOf]
      · obtain rfl : q = 2 := hq
        have f0 : (d : Int) / 1099511627776 % 256 = ((d / 1099511627776 % 256 : Nat) : Int) := by omega
        have HT : Hid (vN .u8 ((Dg.be8 d).take 2) ++ [.int .u8 ((d / 1099511627776 % 256 : Nat) : Int)] = vN .u8 ((Dg.be8 d).take 3)) := Lib.hid (by simp [Dg.be8, vN])
        generalize d / 1099511627776 % 256 = x at *
        go_wp2_with (first | (at_builtin; refine wpList_append_own _ rfl _ _ 22 rfl w.heap.size 5 i0 (.int .u8 0) 1 1 Tryd.underlying22 hi hz0 hz1 hz2 rfl (by decide) _ _ _ rfl (hown.alloc _) ⟨wr.heap.size, 0, none⟩ 1 1 [.int .u8 (x : Int)] rfl rfl (cell_one_new _ _ _) (fun u hu => by simp at hu; subst hu; rfl) (by unfold maxLen; omega) (by omega) (by have := hG.size; simp; omega) ?_; intro v' w4 hown4 hgrow hnil) | fail)
        go_roundw
        case rel => exact ⟨3, 3, by omega, rfl, rfl, (by rw [HT.out] at hown4; exact hown4), (hG.alloc hG.size _).grown hgrow (by have := hG.size; simp; omega) (own_ne hown)⟩
        case measure => simp [intOf]
      · obtain rfl : q = 3 := hq
        have f0 : (d : Int) / 4294967296 % 256 = ((d / 4294967296 % 256 : Nat) : Int) := by omega
        have HT : Hid (vN .u8 ((Dg.be8 d).take 3) ++ [.int .u8 ((d / 4294967296 % 256 : Nat) : Int)] = vN .u8 ((Dg.be8 d).take 4)) := Lib.hid (by simp [Dg.be8, vN])
        generalize d / 4294967296 % 256 = x at *
        go_wp2_with (first | (at_builtin; refine wpList_append_own _ rfl _ _ 22 rfl w.heap.size 5 i0 (.int .u8 0) 1 1 Tryd.underlying22 hi hz0 hz1 hz2 rfl (by decide) _ _ _ rfl (hown.alloc _) ⟨wr.heap.size, 0, none⟩ 1 1 [.int .u8 (x : Int)] rfl rfl (cell_one_new _ _ _) (fun u hu => by simp at hu; subst hu; rfl) (by unfold maxLen; omega) (by omega) (by have := hG.size; simp; omega) ?_; intro v' w4 hown4 hgrow hnil) | fail)
        go_roundw
        case rel => exact ⟨4, 4, by omega, rfl, rfl, (by rw [HT.out] at hown4; exact hown4), (hG.alloc hG.size _).grown hgrow (by have := hG.size; simp; omega) (own_ne hown)⟩
        case measure => simp [intOf]
      · obtain rfl : q = 4 := hq
        have f0 : (d : Int) / 16777216 % 256 = ((d / 16777216 % 256 : Nat) : Int) := by omega
        have HT : Hid (vN .u8 ((Dg.be8 d).take 4) ++ [.int .u8 ((d / 16777216 % 256 : Nat) : Int)] = vN .u8 ((Dg.be8 d).take 5)) := Lib.hid (by simp [Dg.be8, vN])
        generalize d / 16777216 % 256 = x at *
        go_wp2_with (first | (at_builtin; refine wpList_append_own _ rfl _ _ 22 rfl w.heap.size 5 i0 (.int .u8 0) 1 1 Tryd.underlying22 hi hz0 hz1 hz2 rfl (by decide) _ _ _ rfl (hown.alloc _) ⟨wr.heap.size, 0, none⟩ 1 1 [.int .u8 (x : Int)] rfl rfl (cell_one_new _ _ _) (fun u hu => by simp at hu; subst hu; rfl) (by unfold maxLen; omega) (by omega) (by have := hG.size; simp; omega) ?_; intro v' w4 hown4 hgrow hnil) | fail)
        go_roundw
        case rel => exact ⟨5, 5, by omega, rfl, rfl, (by rw [HT.out] at hown4; exact hown4), (hG.alloc hG.size _).grown hgrow (by have := hG.size; simp; omega) (own_ne hown)⟩
        case measure => simp [intOf]
      · obtain rfl : q = 5 := hq
        have f0 : (d : Int) / 65536 % 256 = ((d / 65536 % 256 : Nat) : Int) := by omega
        have HT : Hid (vN .u8 ((Dg.be8 d).take 5) ++ [.int .u8 ((d / 65536 % 256 : Nat) : Int)] = vN .u8 ((Dg.be8 d).take 6)) := Lib.hid (by simp [Dg.be8, vN])
        generalize d / 65536 % 256 = x at *
        go_wp2_with (first | (at_builtin; refine wpList_append_own _ rfl _ _ 22 rfl w.heap.size 5 i0 (.int .u8 0) 1 1 Tryd.underlying22 hi hz0 hz1 hz2 rfl (by decide) _ _ _ rfl (hown.alloc _) ⟨wr.heap.size, 0, none⟩ 1 1 [.int .u8 (x : Int)] rfl rfl (cell_one_new _ _ _) (fun u hu => by simp at hu; subst hu; rfl) (by unfold maxLen; omega) (by omega) (by have := hG.size; simp; omega) ?_; intro v' w4 hown4 hgrow hnil) | fail)
        go_roundw
        case rel => exact ⟨6, 6, by omega, rfl, rfl, (by rw [HT.out] at hown4; exact hown4), (hG.alloc hG.size _).grown hgrow (by have := hG.size; simp; omega) (own_ne hown)⟩
        case measure => simp [intOf]
      · obtain rfl : q = 6 := hq
        have f0 : (d : Int) / 256 % 256 = ((d / 256 % 256 : Nat) : Int) := by omega
        have HT : Hid (vN .u8 ((Dg.be8 d).take 6) ++ [.int .u8 ((d / 256 % 256 : Nat) : Int)] = vN .u8 ((Dg.be8 d).take 7)) := Lib.hid (by simp [Dg.be8, vN])
        generalize d / 256 % 256 = x at *
        go_wp2_with (first | (at_builtin; refine wpList_append_own _ rfl _ _ 22 rfl w.heap.size 5 i0 (.int .u8 0) 1 1 Tryd.underlying22 hi hz0 hz1 hz2 rfl (by decide) _ _ _ rfl (hown.alloc _) ⟨wr.heap.size, 0, none⟩ 1 1 [.int .u8 (x : Int)] rfl rfl (cell_one_new _ _ _) (fun u hu => by simp at hu; subst hu; rfl) (by unfold maxLen; omega) (by omega) (by have := hG.size; simp; omega) ?_; intro v' w4 hown4 hgrow hnil) | fail)
        go_roundw
        case rel => exact ⟨7, 7, by omega, rfl, rfl, (by rw [HT.out] at hown4; exact hown4), (hG.alloc hG.size _).grown hgrow (by have := hG.size; simp; omega) (own_ne hown)⟩
        case measure => simp [intOf]
      · obtain rfl : q = 7 := hq
        have f0 : (d : Int) % 256 = ((d % 256 : Nat) : Int) := by omega
        have HT : Hid (vN .u8 ((Dg.be8 d).take 7) ++ [.int .u8 ((d % 256 : Nat) : Int)] = vN .u8 ((Dg.be8 d).take 8)) := Lib.hid (by simp [Dg.be8, vN])
        generalize d % 256 = x at *
        go_wp2_with (first | (at_builtin; refine wpList_append_own _ rfl _ _ 22 rfl w.heap.size 5 i0 (.int .u8 0) 1 1 Tryd.underlying22 hi hz0 hz1 hz2 rfl (by decide) _ _ _ rfl (hown.alloc _) ⟨wr.heap.size, 0, none⟩ 1 1 [.int .u8 (x : Int)] rfl rfl (cell_one_new _ _ _) (fun u hu => by simp at hu; subst hu; rfl) (by unfold maxLen; omega) (by omega) (by have := hG.size; simp; omega) ?_; intro v' w4 hown4 hgrow hnil) | fail)
        go_roundw
        case rel => exact ⟨8, 8, by omega, rfl, rfl, (by rw [HT.out] at hown4; exact hown4), (hG.alloc hG.size _).grown hgrow (by have := hG.size; simp; omega) (own_ne hown)⟩
        case measure => simp [intOf]
    · obtain rfl : i = 8 := by omega
      obtain rfl : q = 8 := hq
      have h8 : (Dg.be8 d).take 8 = Dg.be8 d := by simp [Dg.be8]
      rw [h8] at hown
      have hBl : (Dg.be8 d).length = 8 := by simp [Dg.be8]
      clear h8 hlt hi8
      generalize Dg.be8 d = B at *
      go_wp2_with fail
      go_loopw [5, 7] (fun s5 s7 wr => ∃ i M : Nat, i ≤ len ∧ M ≤ 8 + 22 * i ∧ s7 = .int .i64 i ∧ Hid ((B ++ Dg.txs (l.take i)).length = M) ∧ wr.ownsRow w.heap.size 5 1 s5 M (vN .u8 (B ++ Dg.txs (l.take i))) ∧ Below w.heap.size w wr) (fun _ s7 _ => len - (intOf s7).toNat)
      case atStart => exact ⟨0, 8, by omega, by omega, rfl, Lib.hid (by simp [Dg.txs, hBl]), (by simpa [Dg.txs] using hown), hG⟩
      case round =>
        clear hown hG
        obtain ⟨i, M, hi9, hM9, rfl, HM, hown, hG⟩ := hrel
        by_cases hlt : i < len
        · have hil : i < l.length := by have := HN.out; omega
          obtain ⟨bb, off, rfl, hbb, hc⟩ := HL.out (by omega)
          have x0 := (hG.cell (p := ⟨bb, off + i, none⟩) hbb).trans (hc i hil)
          obtain ⟨n0, n1⟩ := HW.out _ (List.getElem_mem hil)
          have hTx := Dg.txs_snoc hil
          rw [← atI_eq hil] at n0 n1 hTx
          clear hc
          generalize atI l i = n at *
          obtain ⟨S, hS⟩ : ∃ S : ByteArray, S = ⟨(Lib.itoa n).toArray⟩ := ⟨_, rfl⟩
          have hSz : S.size = (Dg.dec n).length := by rw [hS, Dg.dec_size]
          have hSc : Lib.strCells S = vN .u8 (Dg.dec n) := by rw [hS, Dg.dec_cells]
          have hS21 : S.size ≤ 21 := by rw [hSz]; exact Dg.dec_len n0 n1
          have HT : Hid (vN .u8 (B ++ Dg.txs (l.take i)) ++ Lib.strCells S ++ [.int .u8 32] = vN .u8 (B ++ Dg.txs (l.take (i + 1)))) := Lib.hid (by
            rw [hTx, hSc]; simp only [vN_app, List.append_assoc]; rfl)
          have HM2 : Hid ((B ++ Dg.txs (l.take (i + 1))).length = M + S.size + 1) := Lib.hid (by
            have := HM.out
            rw [hTx, hSz]
            simp only [List.length_append, List.length_cons, List.length_nil] at this ⊢
            omega)
          clear hTx hSz hSc
          generalize B ++ Dg.txs (l.take i) = G at *
          have HS := Lib.hid hS
          clear hS
          go_wp2_with (first | (go_at_call 21; refine (kdecimal_is _ n0 n1 S HS.out _).mono ?_; rintro e w2 ⟨rfl, hb2⟩; have hown2 := hown.kept (below_grown hb2 none) none_ne) | (at_builtin; refine Lib.wpList_append_own_string _ rfl _ _ 22 9 rfl w.heap.size 5 i0 Tryd.underlying22 Tryd.underlying9 hi hz0 hz1 hz2 _ _ _ rfl hown2 S rfl (by unfold maxLen; omega) (by omega) (by have := hG.size; have := hb2.size; omega) ?_; intro v4 w4 hown4 hgrow4 hnil4; have hG2 := (hG.trans (hb2.mono hG.size)).grown hgrow4 (by have := hG.size; have := hb2.size; omega) (own_ne hown2)) | (at_builtin; refine wpList_append_own _ rfl _ _ 22 rfl w.heap.size 5 i0 (.int .u8 0) 1 1 Tryd.underlying22 hi hz0 hz1 hz2 rfl (by decide) _ _ _ rfl (hown4.alloc _) ⟨w4.heap.size, 0, none⟩ 1 1 [.int .u8 32] rfl rfl (cell_one_new _ _ _) (fun u hu => by simp at hu; subst hu; rfl) (by unfold maxLen; omega) (by omega) (by have := hG2.size; simp; omega) ?_; intro v5 w5 hown5 hgrow5 hnil5) | fail)
          go_roundw
          case rel => exact ⟨i + 1, M + S.size + 1, by omega, by omega, by simp, HM2, (by rw [HT.out] at hown5; exact hown5), (hG2.alloc hG2.size _).grown hgrow5 (by have := hG2.size; simp; omega) (own_ne hown4)⟩
          case measure => simp [intOf]; omega
        · obtain rfl : i = len := by omega
          have hTk : l.take i = l := List.take_of_length_le (by rw [HN.out]; omega)
          rw [hTk] at hown HM
          obtain ⟨hlen, D, c, rfl, hsl⟩ := own_n hown
          clear hown HM
          rw [HT0.out] at hlen hsl
          go_wp2_with fail
          go_ret
          exact ⟨D, c, by rw [hlen]; rfl, hsl, hG⟩
end Go.Proofs.YtmpimbolhjmapaaDoor
