/- The walks of the landed digest's Next, Chain. -/
import Derived.Test.YtmpimbolhjmapaaDoorGi
namespace Go.Proofs.YtmpimbolhjmapaaDoor
open Go.RowKit

namespace Dg
theorem append_mk (a b : List UInt8) : (⟨a.toArray⟩ : ByteArray) ++ ⟨b.toArray⟩ = ⟨(a ++ b).toArray⟩ := by
  apply ByteArray.ext; simp
theorem dR_low (u : Nat) : ∀ x ∈ dR u, x < 128 := by
  induction u using Nat.strongRecOn with
  | ind u ih =>
    by_cases h : u = 0
    · subst h; rw [dR_zero]; intro x hx; simp at hx
    · rw [dR_step h]
      intro x hx
      rcases List.mem_append.1 hx with h1 | h1
      · exact ih (u / 10) (by omega) x h1
      · simp at h1; omega
theorem dec_low (n : Int) : ∀ x ∈ dec n, x < 128 := by
  by_cases h : n = 0
  · subst h; rw [dec_zero]; intro x hx; simp at hx; omega
  · by_cases h1 : 0 < n
    · rw [dec_pos h1]; exact dR_low _
    · rw [dec_neg (by omega)]
      intro x hx
      rcases List.mem_cons.1 hx with rfl | h2
      · omega
      · exact dR_low _ x h2
/-- The text of an integer, with a blank behind it, as a string: its letters. -/
theorem str_at (n : Int) (s : ByteArray) (hs : (⟨(Lib.itoa n).toArray⟩ : ByteArray) ++ ⟨#[32]⟩ = s) : s.size = (dec n ++ [32]).length ∧ ∀ pos (h : pos < s.size), (s[pos]'h).toNat = atN (dec n ++ [32]) pos ∧ atN (dec n ++ [32]) pos < 128 := by
  have e : s = ⟨(Lib.itoa n ++ [32]).toArray⟩ := by rw [← hs]; exact append_mk (Lib.itoa n) [32]
  have hl : s.size = (dec n ++ [32]).length := by
    rw [e]
    show (Lib.itoa n ++ [32]).toArray.size = _
    unfold dec
    simp
  refine ⟨hl, fun pos h => ?_⟩
  have h2 : pos < (dec n ++ [32]).length := by omega
  refine ⟨?_, ?_⟩
  · rw [atN_eq h2]
    subst e
    show (((Lib.itoa n ++ [32]).toArray)[pos]).toNat = _
    have : dec n ++ [32] = (Lib.itoa n ++ [32]).map UInt8.toNat := by unfold dec; simp
    rw [List.getElem_of_eq this (by omega), List.getElem_map]
    rfl
  · rw [atN_eq h2]
    have := List.getElem_mem h2
    rcases List.mem_append.1 this with h3 | h3
    · exact dec_low n _ h3
    · simp at h3; omega
end Dg
theorem VarU.iterAt {w : World} {b k x : Nat} (h : VarU w b x) (s : ByteArray) (pos : Nat) (hne : b ≠ k) : VarU (w.iterAt k s pos) b x := by
  have hb := Lib.iterAt_other w k b s pos hne
  exact ⟨by rw [Lib.iterAt_size]; exact h.lt, (World.cell?_of_block (w := w) hb).trans h.c0, (World.frozen?_of_block (w := w) hb).trans h.f0⟩
theorem iter_set {w : World} {k b o : Nat} {v : Value} {x : Obj} (h : w.heap[k]? = some x) (hne : k ≠ b) : (w.setCell ⟨b, o, none⟩ v).heap[k]? = some x :=
  (Below.heap_setCell w ⟨b, o, none⟩ v k hne).trans h

set_option maxHeartbeats 3200000 in
theorem dnext_is (d : Nat) (l : List Int) (D : Nat) (len cap : Nat) (A : Option Addr) (h : Dg.next d l = D) (hd : d < 18446744073709551616) (hl : l.length = len) (hmax : len ≤ 1000000) (hw : ∀ n ∈ l, -9223372036854775808 ≤ n ∧ n ≤ 9223372036854775807) (w : World) (hL : SlK .i64 w A l) (hG : GK w) :
    Calls Tryd.prog 13 #[.int .u64 (d : Int), .slice A len cap] w fun e w' => e = .returned (.int .u64 (D : Int)) ∧ Below w.heap.size w w' := by
  have HD : Hid (Dg.fnv (Dg.fnv Dg.beg (Dg.be8 d)) (Dg.txs l) = D) := Lib.hid (by rw [← h, ← Dg.fnv_app]; rfl)
  have HN := Lib.hid hl
  have HL := Lib.hid hL
  have HW := Lib.hid hw
  have HG := Lib.hid hG
  have hbg : Dg.beg < 18446744073709551616 := by decide
  clear hl hL hw h hG
  go_enter Tryd.func13, Tryd.ntmps13
  go_wp2_with fail
  refine (start_is _).mono ?_; rintro e0 w1 ⟨v, rfl, hv, V, hb1⟩
  generalize Dg.beg = beg at *
  go_wp2_with fail
  go_loopw [7] (fun s7 wr => ∃ (i : Nat) (q : Int), i ≤ 8 ∧ q = 56 - 8 * i ∧ s7 = .int .i64 q ∧ ∃ e : Nat, VarU wr v e ∧ e < 18446744073709551616 ∧ Hid (Dg.fnv (Dg.fnv e ((Dg.be8 d).drop i)) (Dg.txs l) = D) ∧ Below w.heap.size w wr) (fun s7 _ => (intOf s7 + 8).toNat)
  case atStart => exact ⟨0, 56, by omega, by omega, rfl, beg, V, hbg, HD, hb1⟩
  case round =>
    clear V hb1 hbg HD
    obtain ⟨i, q, hi8, hq, rfl, e, V, he, HE, hG⟩ := hrel
    by_cases hlt : i < 8
    · have c8 : i = 0 ∨ i = 1 ∨ i = 2 ∨ i = 3 ∨ i = 4 ∨ i = 5 ∨ i = 6 ∨ i = 7 := by omega
      clear hi8 hlt
      rcases c8 with rfl | rfl | rfl | rfl | rfl | rfl | rfl | rfl
      · obtain rfl : q = 56 := by omega
        clear hq
        have f0 : (d : Int) / 72057594037927936 % 256 = ((d / 72057594037927936 % 256 : Nat) : Int) := by omega
        have f1 : (d : Int) / 72057594037927936 = ((d / 72057594037927936 % 256 : Nat) : Int) := by omega
        have hx : d / 72057594037927936 % 256 < 256 := by omega
        have HS : Hid (Dg.fnv (Dg.fnv (Dg.stp e (d / 72057594037927936 % 256)) ((Dg.be8 d).drop 1)) (Dg.txs l) = D) := Lib.hid (by rw [← HE.out, show (Dg.be8 d).drop 0 = (d / 72057594037927936 % 256) :: (Dg.be8 d).drop 1 from rfl, Dg.fnv_cons])
        generalize d / 72057594037927936 % 256 = x at *
        obtain ⟨e2, he2⟩ : ∃ e2, Dg.stp e x = e2 := ⟨_, rfl⟩
        have hlt2 := Dg.stp_lt e x
        rw [he2] at HS hlt2
        have HE2 := Lib.hid he2
        clear he2 HE
        go_wp2_with fail
        refine (carry_is v e x e2 HE2.out he hx _ V).mono ?_; rintro e3 w3 ⟨rfl, V3, hw3⟩
        have hG3 : Below w.heap.size w w3 := by rw [hw3]; exact hG.setCell hv _
        clear hw3 V hG f0
        go_wp2
        go_roundw
        case rel => exact ⟨1, 48, by omega, by omega, rfl, e2, V3, hlt2, HS, hG3⟩
        case measure => simp [intOf]
      · obtain rfl : q = 48 := by omega
        clear hq
        have f0 : (d : Int) / 281474976710656 % 256 = ((d / 281474976710656 % 256 : Nat) : Int) := by omega
        have hx : d / 281474976710656 % 256 < 256 := by omega
        have HS : Hid (Dg.fnv (Dg.fnv (Dg.stp e (d / 281474976710656 % 256)) ((Dg.be8 d).drop 2)) (Dg.txs l) = D) := Lib.hid (by rw [← HE.out, show (Dg.be8 d).drop 1 = (d / 281474976710656 % 256) :: (Dg.be8 d).drop 2 from rfl, Dg.fnv_cons])
        generalize d / 281474976710656 % 256 = x at *
        obtain ⟨e2, he2⟩ : ∃ e2, Dg.stp e x = e2 := ⟨_, rfl⟩
        have hlt2 := Dg.stp_lt e x
        rw [he2] at HS hlt2
        have HE2 := Lib.hid he2
        clear he2 HE
        go_wp2_with fail
        refine (carry_is v e x e2 HE2.out he hx _ V).mono ?_; rintro e3 w3 ⟨rfl, V3, hw3⟩
        have hG3 : Below w.heap.size w w3 := by rw [hw3]; exact hG.setCell hv _
        clear hw3 V hG f0
        go_wp2
        go_roundw
        case rel => exact ⟨2, 40, by omega, by omega, rfl, e2, V3, hlt2, HS, hG3⟩
        case measure => simp [intOf]
      · obtain rfl : q = 40 := by omega
        clear hq
        have f0 : (d : Int) / 1099511627776 % 256 = ((d / 1099511627776 % 256 : Nat) : Int) := by omega
        have hx : d / 1099511627776 % 256 < 256 := by omega
        have HS : Hid (Dg.fnv (Dg.fnv (Dg.stp e (d / 1099511627776 % 256)) ((Dg.be8 d).drop 3)) (Dg.txs l) = D) := Lib.hid (by rw [← HE.out, show (Dg.be8 d).drop 2 = (d / 1099511627776 % 256) :: (Dg.be8 d).drop 3 from rfl, Dg.fnv_cons])
        generalize d / 1099511627776 % 256 = x at *
        obtain ⟨e2, he2⟩ : ∃ e2, Dg.stp e x = e2 := ⟨_, rfl⟩
        have hlt2 := Dg.stp_lt e x
        rw [he2] at HS hlt2
        have HE2 := Lib.hid he2
        clear he2 HE
        go_wp2_with fail
        refine (carry_is v e x e2 HE2.out he hx _ V).mono ?_; rintro e3 w3 ⟨rfl, V3, hw3⟩
        have hG3 : Below w.heap.size w w3 := by rw [hw3]; exact hG.setCell hv _
        clear hw3 V hG f0
        go_wp2
        go_roundw
        case rel => exact ⟨3, 32, by omega, by omega, rfl, e2, V3, hlt2, HS, hG3⟩
        case measure => simp [intOf]
      · obtain rfl : q = 32 := by omega
        clear hq
        have f0 : (d : Int) / 4294967296 % 256 = ((d / 4294967296 % 256 : Nat) : Int) := by omega
        have hx : d / 4294967296 % 256 < 256 := by omega
        have HS : Hid (Dg.fnv (Dg.fnv (Dg.stp e (d / 4294967296 % 256)) ((Dg.be8 d).drop 4)) (Dg.txs l) = D) := Lib.hid (by rw [← HE.out, show (Dg.be8 d).drop 3 = (d / 4294967296 % 256) :: (Dg.be8 d).drop 4 from rfl, Dg.fnv_cons])
        generalize d / 4294967296 % 256 = x at *
        obtain ⟨e2, he2⟩ : ∃ e2, Dg.stp e x = e2 := ⟨_, rfl⟩
        have hlt2 := Dg.stp_lt e x
        rw [he2] at HS hlt2
        have HE2 := Lib.hid he2
        clear he2 HE
        go_wp2_with fail
        refine (carry_is v e x e2 HE2.out he hx _ V).mono ?_; rintro e3 w3 ⟨rfl, V3, hw3⟩
        have hG3 : Below w.heap.size w w3 := by rw [hw3]; exact hG.setCell hv _
        clear hw3 V hG f0
        go_wp2
        go_roundw
        case rel => exact ⟨4, 24, by omega, by omega, rfl, e2, V3, hlt2, HS, hG3⟩
        case measure => simp [intOf]
      · obtain rfl : q = 24 := by omega
        clear hq
        have f0 : (d : Int) / 16777216 % 256 = ((d / 16777216 % 256 : Nat) : Int) := by omega
        have hx : d / 16777216 % 256 < 256 := by omega
        have HS : Hid (Dg.fnv (Dg.fnv (Dg.stp e (d / 16777216 % 256)) ((Dg.be8 d).drop 5)) (Dg.txs l) = D) := Lib.hid (by rw [← HE.out, show (Dg.be8 d).drop 4 = (d / 16777216 % 256) :: (Dg.be8 d).drop 5 from rfl, Dg.fnv_cons])
        generalize d / 16777216 % 256 = x at *
        obtain ⟨e2, he2⟩ : ∃ e2, Dg.stp e x = e2 := ⟨_, rfl⟩
        have hlt2 := Dg.stp_lt e x
        rw [he2] at HS hlt2
        have HE2 := Lib.hid he2
        clear he2 HE
        go_wp2_with fail
        refine (carry_is v e x e2 HE2.out he hx _ V).mono ?_; rintro e3 w3 ⟨rfl, V3, hw3⟩
        have hG3 : Below w.heap.size w w3 := by rw [hw3]; exact hG.setCell hv _
        clear hw3 V hG f0
        go_wp2
        go_roundw
        case rel => exact ⟨5, 16, by omega, by omega, rfl, e2, V3, hlt2, HS, hG3⟩
        case measure => simp [intOf]
      · obtain rfl : q = 16 := by omega
        clear hq
        have f0 : (d : Int) / 65536 % 256 = ((d / 65536 % 256 : Nat) : Int) := by omega
        have hx : d / 65536 % 256 < 256 := by omega
        have HS : Hid (Dg.fnv (Dg.fnv (Dg.stp e (d / 65536 % 256)) ((Dg.be8 d).drop 6)) (Dg.txs l) = D) := Lib.hid (by rw [← HE.out, show (Dg.be8 d).drop 5 = (d / 65536 % 256) :: (Dg.be8 d).drop 6 from rfl, Dg.fnv_cons])
        generalize d / 65536 % 256 = x at *
        obtain ⟨e2, he2⟩ : ∃ e2, Dg.stp e x = e2 := ⟨_, rfl⟩
        have hlt2 := Dg.stp_lt e x
        rw [he2] at HS hlt2
        have HE2 := Lib.hid he2
        clear he2 HE
        go_wp2_with fail
        refine (carry_is v e x e2 HE2.out he hx _ V).mono ?_; rintro e3 w3 ⟨rfl, V3, hw3⟩
        have hG3 : Below w.heap.size w w3 := by rw [hw3]; exact hG.setCell hv _
        clear hw3 V hG f0
        go_wp2
        go_roundw
        case rel => exact ⟨6, 8, by omega, by omega, rfl, e2, V3, hlt2, HS, hG3⟩
        case measure => simp [intOf]
      · obtain rfl : q = 8 := by omega
        clear hq
        have f0 : (d : Int) / 256 % 256 = ((d / 256 % 256 : Nat) : Int) := by omega
        have hx : d / 256 % 256 < 256 := by omega
        have HS : Hid (Dg.fnv (Dg.fnv (Dg.stp e (d / 256 % 256)) ((Dg.be8 d).drop 7)) (Dg.txs l) = D) := Lib.hid (by rw [← HE.out, show (Dg.be8 d).drop 6 = (d / 256 % 256) :: (Dg.be8 d).drop 7 from rfl, Dg.fnv_cons])
        generalize d / 256 % 256 = x at *
        obtain ⟨e2, he2⟩ : ∃ e2, Dg.stp e x = e2 := ⟨_, rfl⟩
        have hlt2 := Dg.stp_lt e x
        rw [he2] at HS hlt2
        have HE2 := Lib.hid he2
        clear he2 HE
        go_wp2_with fail
        refine (carry_is v e x e2 HE2.out he hx _ V).mono ?_; rintro e3 w3 ⟨rfl, V3, hw3⟩
        have hG3 : Below w.heap.size w w3 := by rw [hw3]; exact hG.setCell hv _
        clear hw3 V hG f0
        go_wp2
        go_roundw
        case rel => exact ⟨7, 0, by omega, by omega, rfl, e2, V3, hlt2, HS, hG3⟩
        case measure => simp [intOf]
      · obtain rfl : q = 0 := by omega
        clear hq
        have f0 : (d : Int) % 256 = ((d % 256 : Nat) : Int) := by omega
        have hx : d % 256 < 256 := by omega
        have HS : Hid (Dg.fnv (Dg.fnv (Dg.stp e (d % 256)) ((Dg.be8 d).drop 8)) (Dg.txs l) = D) := Lib.hid (by rw [← HE.out, show (Dg.be8 d).drop 7 = (d % 256) :: (Dg.be8 d).drop 8 from rfl, Dg.fnv_cons])
        generalize d % 256 = x at *
        obtain ⟨e2, he2⟩ : ∃ e2, Dg.stp e x = e2 := ⟨_, rfl⟩
        have hlt2 := Dg.stp_lt e x
        rw [he2] at HS hlt2
        have HE2 := Lib.hid he2
        clear he2 HE
        go_wp2_with fail
        refine (carry_is v e x e2 HE2.out he hx _ V).mono ?_; rintro e3 w3 ⟨rfl, V3, hw3⟩
        have hG3 : Below w.heap.size w w3 := by rw [hw3]; exact hG.setCell hv _
        clear hw3 V hG f0
        go_wp2
        go_roundw
        case rel => exact ⟨8, -8, by omega, by omega, rfl, e2, V3, hlt2, HS, hG3⟩
        case measure => simp [intOf]
    · obtain rfl : i = 8 := by omega
      obtain rfl : q = -8 := by omega
      have HE2 : Hid (Dg.fnv e (Dg.txs l) = D) := Lib.hid HE.out
      clear HE hlt hi8 hq
      go_wp2_with fail
      go_loopw [28] (fun s28 wr => ∃ i : Nat, i ≤ len ∧ s28 = .int .i64 i ∧ ∃ e : Nat, VarU wr v e ∧ e < 18446744073709551616 ∧ Hid (Dg.fnv e (Dg.txs (l.drop i)) = D) ∧ Below w.heap.size w wr) (fun s28 _ => len - (intOf s28).toNat)
      case atStart => exact ⟨0, Nat.zero_le _, rfl, e, V, he, HE2, hG⟩
      case round =>
        clear V hG HE2 he
        obtain ⟨i, hi9, rfl, e, V, he, HE, hG⟩ := hrel
        by_cases hlt : i < len
        · have hil : i < l.length := by have := HN.out; omega
          obtain ⟨bb, off, rfl, hbb, hc⟩ := HL.out (by omega)
          have x0 := (hG.cell (p := ⟨bb, off + i, none⟩) hbb).trans (hc i hil)
          obtain ⟨n0, n1⟩ := HW.out _ (List.getElem_mem hil)
          have hE := HE.out
          rw [List.drop_eq_getElem_cons hil, Dg.txs_cons, ← List.append_assoc, Dg.fnv_app] at hE
          rw [← atI_eq hil] at n0 n1 hE
          clear hc HE
          generalize atI l i = n at *
          obtain ⟨S, hS⟩ : ∃ S : ByteArray, ⟨(Lib.itoa n).toArray⟩ = S := ⟨_, rfl⟩
          obtain ⟨s, hs⟩ : ∃ s : ByteArray, S ++ (⟨#[32]⟩ : ByteArray) = s := ⟨_, rfl⟩
          obtain ⟨hsz, hat⟩ := Dg.str_at n s (by rw [hS]; exact hs)
          have hsl : S.size ≤ 21 := by rw [← hS, Dg.dec_size]; exact Dg.dec_len n0 n1
          obtain ⟨E, hE1⟩ : ∃ E, Dg.fnv e (Dg.dec n ++ [32]) = E := ⟨_, rfl⟩
          have hElt : E < 18446744073709551616 := by rw [← hE1]; exact Dg.fnv_lt he _
          rw [hE1] at hE
          have HE := Lib.hid hE
          have HE1 := Lib.hid hE1
          have HS := Lib.hid hS
          have HA := Lib.hid hat
          have HZ := Lib.hid hsz
          clear hE hE1 hS hat hsz
          generalize Dg.dec n ++ [32] = U at *
          go_wp2_with fail
          refine (ditoa_is n S n0 n1 HS.out _ (HG.out.below hG)).mono ?_; rintro e3 w2 ⟨rfl, hb2⟩
          replace V := V.below hb2
          replace hG := hG.trans (hb2.mono hG.size)
          clear hb2 x0
          go_wp2_with fail
          go_loopw [11] (fun _ wr => ∃ pos e : Nat, pos ≤ s.size ∧ wr.heap[w2.heap.size]? = some (.stringIter s pos) ∧ VarU wr v e ∧ e < 18446744073709551616 ∧ Hid (Dg.fnv e (U.drop pos) = E) ∧ Below w.heap.size w wr) (fun _ wr => s.size - wr.iterPos w2.heap.size)
          case atStart =>
            refine ⟨0, e, Nat.zero_le _, ?_, V.alloc _, he, HE1, hG.alloc hG.size _⟩
            exact World.iter_heap w2 s 0
          case round =>
            have hvl := V.lt
            clear V hG he HE1
            obtain ⟨pos, e, hp9, hit, V, he, HE1, hG⟩ := hrel
            by_cases hp : pos < s.size
            · obtain ⟨hx1, hx2⟩ := HA.out pos hp
              have hnx : ∀ ty, (Instr.next (.pointer (some ⟨w2.heap.size, 0, none⟩)) true ty).run Tryd.prog wr = _ := fun ty => Lib.run_next_ascii_at wr w2.heap.size s pos ty hit hp (by rw [hx1]; exact hx2)
              simp only [hx1] at hnx
              have hpu : pos < U.length := by have := HZ.out; omega
              have HS1 : Hid (Dg.fnv (Dg.stp e (atN U pos)) (U.drop (pos + 1)) = E) := Lib.hid (by rw [← HE1.out, List.drop_eq_getElem_cons hpu, Dg.fnv_cons, atN_eq hpu])
              generalize atN U pos = x at *
              obtain ⟨e2, he2⟩ : ∃ e2, Dg.stp e x = e2 := ⟨_, rfl⟩
              have hlt2 := Dg.stp_lt e x
              rw [he2] at HS1 hlt2
              have HE2 := Lib.hid he2
              have f0 : (x : Int) % 256 = (x : Int) := by omega
              have V2 := V.iterAt s (pos + 1) (k := w2.heap.size) (by omega)
              have it2 := Lib.iterAt_heap wr w2.heap.size s pos (pos + 1) hit
              have hG2 := Lib.below_iterAt hG (k := w2.heap.size) (by have := hv; omega) s (pos + 1)
              have HIT := Lib.hid hit
              clear he2 HE1 V hG hit
              generalize wr.iterAt w2.heap.size s (pos + 1) = wi at *
              go_wp2_with fail
              refine (carry_is v e x e2 HE2.out he (by omega) _ V2).mono ?_; rintro e3 w3 ⟨rfl, V3, hw3⟩
              have hG3 : Below w.heap.size w w3 := by rw [hw3]; exact hG2.setCell hv _
              have it3 : w3.heap[w2.heap.size]? = some (.stringIter s (pos + 1)) := by rw [hw3]; exact iter_set it2 (by omega)
              clear hw3 V2 hG2 it2 f0 hnx
              go_wp2
              go_roundw
              case rel => exact ⟨pos + 1, e2, by omega, it3, V3, hlt2, HS1, hG3⟩
              case measure =>
                simp only [World.iterPos, it3, HIT.out]
                omega
            · have hnx : ∀ ty, (Instr.next (.pointer (some ⟨w2.heap.size, 0, none⟩)) true ty).run Tryd.prog wr = _ := fun ty => Lib.run_next_end_at wr w2.heap.size s pos ty hit hp
              have hE1 := HE1.out
              rw [List.drop_eq_nil_of_le (by have := HZ.out; omega)] at hE1
              obtain rfl : e = E := hE1
              clear HE1
              go_wp2_with fail
              go_roundw
              case rel => exact ⟨i + 1, by omega, by simp, e, V, he, HE, hG⟩
              case measure => simp [intOf] <;> omega
        · obtain rfl : i = len := by omega
          have hE := HE.out
          rw [List.drop_eq_nil_of_le (by have := HN.out; omega)] at hE
          obtain rfl : e = D := hE
          go_wp2_with fail
          refine (tell_is v e _ V).mono ?_; rintro e3 w3 ⟨rfl, rfl⟩
          go_wp2_with fail
          go_ret
          exact ⟨rfl, hG⟩

theorem dsum_is (b : List Nat) (n cap : Nat) (A : Option Addr) (d : Nat) (h : Dg.sum b = d) (hb : b.length = n) (hlt : ∀ x ∈ b, x < 256) (hmax : n ≤ 1000000000000) (w : World) (hL : SlN .u8 w A b) (_hG : GK w) :
    Calls Tryd.prog 11 #[.slice A n cap] w fun e w' => e = .returned (.int .u64 (d : Int)) ∧ Below w.heap.size w w' :=
  dsum_any b n cap A d h hb hlt hmax w hL

set_option maxHeartbeats 1600000 in
theorem dchain_is (l : List (List Int)) (d : Nat) (n cap : Nat) (A : Option Addr) (h : Dg.chain l = d) (hl : l.length = n) (hmax : n ≤ 1000000) (hw : ∀ g ∈ l, g.length ≤ 100000 ∧ ∀ x ∈ g, -9223372036854775808 ≤ x ∧ x ≤ 9223372036854775807) (w : World) (hL : SlL w A l) (hK : GK w) :
    Calls Tryd.prog 15 #[.slice A n cap] w fun e w' => e = .returned (.int .u64 (d : Int)) ∧ Below w.heap.size w w' := by
  have HD := Lib.hid h
  have HN := Lib.hid hl
  have HL := Lib.hid hL
  have HW := Lib.hid hw
  clear h hl hL hw
  obtain ⟨i0, hi, hz0, hz1, hz2⟩ := info_parts infoInt
  go_enter Tryd.func15, Tryd.ntmps15
  have HK := Lib.hid hK
  clear hK
  go_wp2_with fail
  have h0 : Dg.beg < 18446744073709551616 := by decide
  have h1 : Hid (Dg.chain [] = Dg.beg) := Lib.hid rfl
  have hb14 : (14695981039346656037 : Int) = ((Dg.beg : Nat) : Int) := rfl
  rw [hb14]
  clear hb14
  generalize Dg.beg = beg at *
  go_loopw [3, 8] (fun s3 s4 wr => ∃ i e : Nat, i ≤ n ∧ s4 = .int .i64 i ∧ s3 = .int .u64 (e : Int) ∧ e < 18446744073709551616 ∧ Hid (Dg.chain (l.take i) = e) ∧ Below w.heap.size w wr) (fun _ s4 _ => n - (intOf s4).toNat)
  case atStart => exact ⟨0, beg, Nat.zero_le _, rfl, rfl, h0, Lib.hid (by rw [List.take_zero]; exact h1.out), Below.refl _ _⟩
  case round =>
    obtain ⟨i, e, hi9, rfl, rfl, he, HE, hG⟩ := hrel
    by_cases hlt : i < n
    · have hil : i < l.length := by have := HN.out; omega
      obtain ⟨bb, off, rfl, hbb, hc⟩ := HL.out (by omega)
      obtain ⟨C, cc, x0, hC, hCn⟩ := hc i hil
      replace x0 := (hG.cell (p := ⟨bb, off + i, none⟩) hbb).trans x0
      replace hC := hC.below (hG)
      obtain ⟨g40, g0⟩ := HW.out _ (List.getElem_mem hil)
      have hS := Dg.chain_snoc hil
      rw [← atL_eq hil] at g40 g0 hS
      rw [HE.out] at hS
      clear hc HE
      generalize atL l i = g at *
      obtain ⟨m, hm⟩ : ∃ m, g.length = m := ⟨_, rfl⟩
      rw [hm] at g40 hS x0
      obtain ⟨e2, he2⟩ : ∃ e2, Dg.next e ((m : Int) :: g) = e2 := ⟨_, rfl⟩
      have he3 : e2 < 18446744073709551616 := by rw [← he2]; exact Dg.next_lt _ _
      rw [he2] at hS
      have HS := Lib.hid hS
      have HM := Lib.hid hm
      have HG0 : Hid (∀ x ∈ (m : Int) :: g, -9223372036854775808 ≤ x ∧ x ≤ 9223372036854775807) := Lib.hid (fun x hx => by
        rcases List.mem_cons.1 hx with rfl | h
        · omega
        · exact g0 x h)
      have HE2 := Lib.hid he2
      have HC := Lib.hid hC
      have HCn := Lib.hid hCn
      clear hS hm g0 he2 hC hCn
      have HKr := HK.out.below hG
      have hb1 : bb < wr.heap.size := Nat.lt_of_lt_of_le hbb hG.size
      go_wp2_with (first | (at_builtin; refine append_slk .i64 rfl _ _ 24 rfl wr.heap.size 3 i0 (.int .i64 0) 8 Tryd.underlying24 hi hz0 hz1 hz2 rfl (.slice (some ⟨wr.heap.size, 0, none⟩) 1 1) 1 [.int .i64 (m : Int)] rfl (World.ownsRow_lit wr #[.int .i64 (m : Int)] 1 (Nat.le_refl _) (by unfold maxLen; omega) rfl) C m cc g rfl HCn.out HM.out (HC.out.alloc _) (by unfold maxLen; omega) (by omega) (by simp) ?_; intro v4 w4 hown4 hgrow4; have hown5 : w4.ownsRow wr.heap.size 3 1 v4 (1 + m) (vK .i64 ((m : Int) :: g)) := hown4; obtain ⟨hlen4, A4, cap4, rfl, hsl4⟩ := own_k hown5; have hK4 : GK w4 := HKr.below (((Below.refl wr.heap.size wr).alloc (Nat.le_refl _) _).grown hgrow4 (by simp) (fun j hj => by cases hj; exact Nat.le_refl _))) | (go_at_call 13; refine (dnext_is e ((m : Int) :: g) e2 (1 + m) cap4 A4 HE2.out he hlen4 (by omega) HG0.out _ hsl4 hK4).mono ?_; rintro e5 w5 ⟨rfl, hb5⟩) | fail)
      go_roundw
      case rel =>
        refine ⟨i + 1, e2, by omega, by simp, rfl, he3, HS, ?_⟩
        have := hG.size
        have := hb5.size
        have hG4 := (hG.alloc hG.size _).grown hgrow4 (by simp; omega) (fun j hj => by cases hj; omega)
        exact hG4.trans (hb5.mono hG4.size)
      case measure => simp [intOf]; omega
    · obtain rfl : i = n := by omega
      have hT : l.take i = l := List.take_of_length_le (by rw [HN.out]; omega)
      have hE := HE.out
      rw [hT, HD.out] at hE
      subst hE
      go_wp2_with fail
      go_ret
      exact ⟨rfl, hG⟩

end Go.Proofs.YtmpimbolhjmapaaDoor
