/- The walk of the landed codec's Frame. -/
import Derived.Test.YtnnhpbkhfaaaeaaEf
namespace Go.Proofs.Ytnnhpbkhfaaaeaa
open Go.RowKit

theorem own_slice {w : World} {base : Nat} {e : TypeId} {v : Value} {n : Nat} {xs : List Value} (h : w.ownsRow base e 1 v n xs) (h0 : 0 < n) : ∃ S c, v = .slice (some ⟨S, 0, none⟩) n c ∧ base ≤ S := by
  rcases h.2 with ⟨_, hn⟩ | ⟨b, cap, cur, rfl, hb, _⟩
  · omega
  · exact ⟨b, cap, rfl, hb⟩
theorem grown_setRow (w : World) (S : Nat) (cs : Array Value) : w.grownBy (w.setRow S cs) (some S) :=
  ⟨rfl, rfl, rfl, by rw [setRow_size]; exact Nat.le_refl _, fun k _ hk => setRow_block w S k cs (fun e => hk (by rw [e]))⟩
def hdr (n i : Nat) : List Nat := (Cd.hd3 n).take i ++ zer (3 - i)
theorem hdr3 (n : Nat) : hdr n 3 = Cd.hd3 n := rfl

theorem frame_limit (len cap : Nat) (A : Option Addr) (hl : 4000 < len) (w : World) :
    Calls Try.prog 13 #[.slice A len cap] w fun e w' => e = .returned (.tuple #[.slice none 0 0, .int .i64 2]) ∧ Below w.heap.size w w' := by
  have hl' : (4000 : Int) < (len : Int) := by omega
  go_enter Try.func13, Try.ntmps13
  go_wp2_with fail
  go_ret2
  exact ⟨rfl, Below.refl _ _⟩

set_option maxHeartbeats 3200000 in
theorem frame_is (l : List Int) (T : List Nat) (N len cap : Nat) (A : Option Addr) (h : Cd.frame l = T) (hT : T.length = N) (hl : l.length = len) (hok : Cd.ok l) (w : World) (hL : SlK .i64 w A l) :
    Calls Try.prog 13 #[.slice A len cap] w fun e w' => ∃ D c, e = .returned (.tuple #[.slice D N c, .int .i64 0]) ∧ SlN .u8 w' D T ∧ (D = none → c = 0) ∧ N ≤ c ∧ Below w.heap.size w w' := by
  obtain ⟨P, hP⟩ : ∃ P, Cd.put l = P := ⟨_, rfl⟩
  obtain ⟨n, hn⟩ : ∃ n, P.length = n := ⟨_, rfl⟩
  have hn24 : n < 16777216 := by rw [← hn, ← hP]; exact Cd.put_small hok
  obtain ⟨Y, hY⟩ : ∃ Y, Cd.body l = Y := ⟨_, rfl⟩
  have hYP : Cd.hd3 n ++ P = Y := by rw [← hY, ← hn, ← hP]; rfl
  have hYl : Y.length = 3 + n := by rw [← hY, Cd.body_len, hP, hn]
  have hYb : ∀ x ∈ Y, x < 256 := by rw [← hY]; exact Cd.body_by8 hok
  obtain ⟨s, hs⟩ : ∃ s, Dg.sum Y = s := ⟨_, rfl⟩
  have hTY : Y ++ Dg.be8 s = T := by rw [← hs, ← hY]; exact h
  have hNn : 3 + n + 8 = N := by rw [← hT, ← hTY, List.length_append, hYl, Cd.be8_len]
  have HP := Lib.hid hP
  have Hn := Lib.hid hn
  have HYP := Lib.hid hYP
  have HYl := Lib.hid hYl
  have HYb := Lib.hid hYb
  have HS := Lib.hid hs
  have HTY := Lib.hid hTY
  have HN := Lib.hid hl
  have hl4 : len ≤ 4000 := by rw [← hl]; exact hok.1
  have HK := Lib.hid hok.2
  have HL := Lib.hid hL
  have HLO : Hid (∀ a, A = some a → 0 < len → a.block < w.heap.size) := Lib.hid (fun a ha h0 => by
    obtain ⟨b, off, e, hb, _⟩ := hL (by omega)
    rw [ha] at e
    cases e
    exact hb)
  clear h hT hP hn hY hYP hYl hYb hs hTY hl hok hL
  obtain ⟨i0, hi, hz0, hz1, hz2⟩ := info_parts infoByte
  have hl' : ¬ (4000 : Int) < (len : Int) := by omega
  have hsub : (3 + (n : Int) - 3) = (n : Int) := by omega
  go_enter Try.func13, Try.ntmps13
  go_wp2_with (first | (at_make; refine wpList_make_full _ rfl _ _ 23 rfl w.heap.size 5 i0 (.int .u8 0) 1 Try.underlying23 hi hz0 hz1 .i64 .i64 _ _ 3 rfl rfl rfl rfl (by rw [hz2]; omega) (by unfold maxLen; omega) (Nat.le_refl _) ?_; intro w1 hrow hg1; have hrow1 : w1.ownsRow w.heap.size 5 1 (.slice (some ⟨w.heap.size, 0, none⟩) 3 3) 3 (vN .u8 (zer 3)) := (by rw [show (Value.int IntKind.u8 0).cells = #[Value.int .u8 0] from rfl, toList_madeCells_one, Nat.mul_one] at hrow; simpa [vN, zer] using hrow); have hb1 : Below w.heap.size w w1 := ⟨hg1.os, hg1.tape, hg1.output, hg1.size, fun k hk => hg1.block k hk (by simp)⟩; clear hrow hg1) | (go_at_call 23; refine (appendList_is l (zer 3) P 3 n len cap A w.heap.size _ HP.out Hn.out HN.out hl4 HK.out (by omega) _ (HL.out.below hb1) HLO.out hrow1 hb1.size).mono ?_; rintro e w2 ⟨v2, rfl, hown2, hb2⟩; have B2 := hb1.trans hb2; obtain ⟨S, c, rfl, hS⟩ := own_slice hown2 (by omega)) | fail)
  go_loopw [17] (fun s17 wr => ∃ (i : Nat) (q : Int), i ≤ 3 ∧ q = i ∧ s17 = .int .i64 q ∧ Hid (wr.ownsRow w.heap.size 5 1 (.slice (some ⟨S, 0, none⟩) (3 + n) c) (3 + n) (vN .u8 (hdr n i ++ P))) ∧ Below w.heap.size w wr) (fun s17 _ => 3 - (intOf s17).toNat)
  case atStart => exact ⟨0, 0, by omega, rfl, rfl, Lib.hid hown2, B2⟩
  case round =>
    clear hown2 B2 hb1 hb2 hrow1
    obtain ⟨i, q, hi3, hq, rfl, HW, hG⟩ := hrel
    by_cases hlt : i < 3
    · have c3 : i = 0 ∨ i = 1 ∨ i = 2 := by omega
      clear hi3 hlt
      rcases c3 with rfl | rfl | rfl
      · obtain rfl : q = 0 := hq
        have f0 : (n : Int) / 65536 % 256 = ((n / 65536 : Nat) : Int) := by omega
        have f1 : (n : Int) / 65536 = ((n / 65536 : Nat) : Int) := by omega
        have hc := HW.out.cells (g := S) rfl 0 _ rfl
        rw [addr_add] at hc
        have hf := HW.out.frozenAt 0
        obtain ⟨st1, _⟩ := HW.out.stored 0 (.int .u8 ((n / 65536 : Nat) : Int))
        have HW2 : Hid ((wr.setCell ⟨S, 0, none⟩ (.int .u8 ((n / 65536 : Nat) : Int))).ownsRow w.heap.size 5 1 (.slice (some ⟨S, 0, none⟩) (3 + n) c) (3 + n) (vN .u8 (hdr n 1 ++ P))) := Lib.hid st1
        have hG2 := hG.setCell (p := ⟨S, 0, none⟩) hS (.int .u8 ((n / 65536 : Nat) : Int))
        clear st1 HW
        generalize n / 65536 = x at *
        go_wp2_with fail
        go_roundw
        case rel => exact ⟨1, 1, by omega, rfl, rfl, HW2, hG2⟩
        case measure => simp [intOf]
      · obtain rfl : q = 1 := hq
        have f0 : (n : Int) / 256 % 256 = ((n / 256 % 256 : Nat) : Int) := by omega
        have hc := HW.out.cells (g := S) rfl 1 _ rfl
        rw [addr_add] at hc
        have hf := HW.out.frozenAt 1
        obtain ⟨st1, _⟩ := HW.out.stored 1 (.int .u8 ((n / 256 % 256 : Nat) : Int))
        have HW2 : Hid ((wr.setCell ⟨S, 1, none⟩ (.int .u8 ((n / 256 % 256 : Nat) : Int))).ownsRow w.heap.size 5 1 (.slice (some ⟨S, 0, none⟩) (3 + n) c) (3 + n) (vN .u8 (hdr n 2 ++ P))) := Lib.hid st1
        have hG2 := hG.setCell (p := ⟨S, 1, none⟩) hS (.int .u8 ((n / 256 % 256 : Nat) : Int))
        clear st1 HW
        generalize n / 256 % 256 = x at *
        go_wp2_with fail
        go_roundw
        case rel => exact ⟨2, 2, by omega, rfl, rfl, HW2, hG2⟩
        case measure => simp [intOf]
      · obtain rfl : q = 2 := hq
        have f0 : (n : Int) % 256 = ((n % 256 : Nat) : Int) := by omega
        have hc := HW.out.cells (g := S) rfl 2 _ rfl
        rw [addr_add] at hc
        have hf := HW.out.frozenAt 2
        obtain ⟨st1, _⟩ := HW.out.stored 2 (.int .u8 ((n % 256 : Nat) : Int))
        have HW2 : Hid ((wr.setCell ⟨S, 2, none⟩ (.int .u8 ((n % 256 : Nat) : Int))).ownsRow w.heap.size 5 1 (.slice (some ⟨S, 0, none⟩) (3 + n) c) (3 + n) (vN .u8 (hdr n 3 ++ P))) := Lib.hid st1
        have hG2 := hG.setCell (p := ⟨S, 2, none⟩) hS (.int .u8 ((n % 256 : Nat) : Int))
        clear st1 HW
        generalize n % 256 = x at *
        go_wp2_with fail
        go_roundw
        case rel => exact ⟨3, 3, by omega, rfl, rfl, HW2, hG2⟩
        case measure => simp [intOf]
    · obtain rfl : i = 3 := by omega
      obtain rfl : q = 3 := hq
      have hown := HW.out
      rw [hdr3, HYP.out] at hown
      obtain ⟨hl2, D2, c2, e2, S2, _⟩ := own_b hown
      cases e2
      clear HW
      have HS2 := Lib.hid S2
      have HOW := Lib.hid hown
      clear hown S2
      have HLT := Lib.hid (HOW.out.lt S rfl).2
      go_wp2_with (first | (go_at_call 25; refine (seal_is Y (3 + n) c (some ⟨S, 0, none⟩) s HS.out HYl.out HYb.out (by omega) _ HS2.out).mono ?_; rintro e w3 ⟨rfl, hb3⟩; have hlit := World.ownsRow_lit (size := 1) (base := w3.heap.size) (e := 47) w3 #[.int .u8 0, .int .u8 0, .int .u8 0, .int .u8 0, .int .u8 0, .int .u8 0, .int .u8 0, .int .u8 0] 8 (Nat.le_refl _) (by unfold maxLen; omega) rfl; have hst := store47 (g := Dg.be8 s) (k := zer 8) (base := w3.heap.size) rfl rfl hlit; have hrow := own_setRow (g := Dg.be8 s) (k := zer 8) rfl hlit; have hB3 := hG.trans (hb3.mono hG.size); have hB4 := Below.setRow (hB3.alloc hB3.size (.cells #[.int .u8 0, .int .u8 0, .int .u8 0, .int .u8 0, .int .u8 0, .int .u8 0, .int .u8 0, .int .u8 0] 47)) (S := w3.heap.size) hB3.size (vN .u8 (Dg.be8 s)).toArray; have hown4 := ((HOW.out.kept (below_grown hb3 none) none_ne).alloc (.cells #[.int .u8 0, .int .u8 0, .int .u8 0, .int .u8 0, .int .u8 0, .int .u8 0, .int .u8 0, .int .u8 0] 47)).kept (grown_setRow (w3.alloc (.cells #[.int .u8 0, .int .u8 0, .int .u8 0, .int .u8 0, .int .u8 0, .int .u8 0, .int .u8 0, .int .u8 0] 47)) w3.heap.size (vN .u8 (Dg.be8 s)).toArray) (.inr (fun e => by have h1 := HLT.out; have h2 := hb3.size; have h3 : S = w3.heap.size := Option.some.inj e; omega)); obtain ⟨W4, hW4⟩ : ∃ W4, (w3.alloc (.cells #[.int .u8 0, .int .u8 0, .int .u8 0, .int .u8 0, .int .u8 0, .int .u8 0, .int .u8 0, .int .u8 0] 47)).setRow w3.heap.size (vN .u8 (Dg.be8 s)).toArray = W4 := ⟨_, rfl⟩; rw [hW4] at hst hrow hB4 hown4; obtain ⟨_, A4, c4, e4, S4⟩ := own_n hrow; cases e4; clear hlit hrow hW4 hb3 hB3) | ((with_reducible refine wpList_store_is rfl _ _ _ rfl ⟨w3.heap.size, 0, none⟩ _ hst ?_ ?_ ?_); (· rfl); (· rfl)) | (at_builtin; refine append_sln .u8 rfl _ _ 23 rfl w.heap.size 5 i0 (.int .u8 0) 1 Try.underlying23 hi hz0 hz1 hz2 rfl _ (3 + n) (vN .u8 Y) rfl hown4 (some ⟨w3.heap.size, 0, none⟩) 8 8 (Dg.be8 s) rfl (fun e => by cases e) rfl S4 (by unfold maxLen; omega) (by omega) hB4.size ?_; intro v5 w5 hown5 hgrow5; rw [← vN_app, HTY.out, hNn] at hown5; obtain ⟨hl5, D5, c5, rfl, S5, hD5⟩ := own_b hown5; have hcap5 := own_cap hown5; have B5 := hB4.grown hgrow5 hB4.size (own_ne hown4)) | fail)
      go_ret2
      exact ⟨D5, c5, rfl, S5, hD5, hcap5, B5⟩
end Go.Proofs.Ytnnhpbkhfaaaeaa
