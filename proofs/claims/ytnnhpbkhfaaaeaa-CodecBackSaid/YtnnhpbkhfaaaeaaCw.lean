/- The walk of the reference's Frame. -/
import Derived.Test.YtnnhpbkhfaaaeaaCe
namespace Go.Proofs.Ytnnhpbkhfaaaeaa
open Go.RowKit

theorem kframe_limit (len cap : Nat) (A : Option Addr) (hl : 4000 < len) (w : World) :
    Calls Try.prog 14 #[.slice A len cap] w fun e w' => e = .returned (.tuple #[.slice none 0 0, .int .i64 2]) ∧ Below w.heap.size w w' := by
  go_enter Try.func14, Try.ntmps14
  go_wp2_with (first | (go_at_call 11; refine (kput_limit len cap A hl _).mono ?_; rintro e w1 ⟨rfl, hb1⟩) | fail)
  go_ret2
  exact ⟨rfl, hb1⟩

set_option maxHeartbeats 1600000 in
theorem kframe_is (l : List Int) (T : List Nat) (N len cap : Nat) (A : Option Addr) (h : Cd.frame l = T) (hT : T.length = N) (hl : l.length = len) (hok : Cd.ok l) (w : World) (hL : SlK .i64 w A l) :
    Calls Try.prog 14 #[.slice A len cap] w fun e w' => ∃ D c, e = .returned (.tuple #[.slice D N c, .int .i64 0]) ∧ SlN .u8 w' D T ∧ (D = none → c = 0) ∧ Below w.heap.size w w' := by
  obtain ⟨P, hP⟩ : ∃ P, Cd.put l = P := ⟨_, rfl⟩
  obtain ⟨n, hn⟩ : ∃ n, P.length = n := ⟨_, rfl⟩
  have hn24 : n < 16777216 := by rw [← hn, ← hP]; exact Cd.put_small hok
  obtain ⟨Y, hY⟩ : ∃ Y, Cd.body l = Y := ⟨_, rfl⟩
  have hYP : Cd.hd3 n ++ P = Y := by rw [← hY, ← hn, ← hP]; rfl
  have hYl : Y.length = 3 + n := by rw [← hY, Cd.body_len, hP, hn]
  have hYb : ∀ x ∈ Y, x < 256 := by rw [← hY]; exact Cd.body_by8 hok
  obtain ⟨s, hs⟩ : ∃ s, Dg.sum Y = s := ⟨_, rfl⟩
  have hsl : s < 18446744073709551616 := by rw [← hs]; exact Dg.sum_lt _
  have hTY : Y ++ Dg.be8 s = T := by rw [← hs, ← hY]; exact h
  have hNn : 3 + n + 8 = N := by rw [← hT, ← hTY, List.length_append, hYl, Cd.be8_len]
  have HP := Lib.hid hP
  have Hn := Lib.hid hn
  have HYP := Lib.hid hYP
  have HYl := Lib.hid hYl
  have HYb := Lib.hid hYb
  have HS := Lib.hid hs
  have HTY := Lib.hid hTY
  have HN := Lib.hid hl
  have hl4 : len ≤ 4000 := by rw [← hl]; exact hok.1
  have HK := Lib.hid hok.2
  have HL := Lib.hid hL
  clear h hT hP hn hY hYP hYl hYb hs hTY hl hok hL
  have e1 : (n : Int) / 65536 = ((n / 65536 : Nat) : Int) := by omega
  have e2 : (n : Int) / 256 % 256 = ((n / 256 % 256 : Nat) : Int) := by omega
  have e3 : (n : Int) % 256 = ((n % 256 : Nat) : Int) := by omega
  have e4 : ((n / 65536 : Nat) : Int) % 256 = ((n / 65536 : Nat) : Int) := by omega
  have e5 : ((n / 256 % 256 : Nat) : Int) % 256 = ((n / 256 % 256 : Nat) : Int) := by omega
  have e6 : ((n % 256 : Nat) : Int) % 256 = ((n % 256 : Nat) : Int) := by omega
  have HV : Hid (vN .u8 (Cd.hd3 n) = [.int .u8 ((n / 65536 : Nat) : Int), .int .u8 ((n / 256 % 256 : Nat) : Int), .int .u8 ((n % 256 : Nat) : Int)]) := Lib.hid rfl
  generalize Cd.hd3 n = H3 at *
  generalize n / 65536 = x1 at *
  generalize n / 256 % 256 = x2 at *
  generalize n % 256 = x3 at *
  obtain ⟨i0, hi, hz0, hz1, hz2⟩ := info_parts infoByte
  go_enter Try.func14, Try.ntmps14
  go_wp2_with (first | (go_at_call 11; refine (kput_is l P n len cap A HP.out Hn.out HN.out hl4 HK.out _ HL.out).mono ?_; rintro e w1 ⟨D1, c1, rfl, S1, hD1, hb1⟩) | (at_builtin; refine append_sln .u8 rfl _ _ 23 rfl w1.heap.size 5 i0 (.int .u8 0) 1 Try.underlying23 hi hz0 hz1 hz2 rfl (.slice (some ⟨w1.heap.size, 0, none⟩) 3 3) 3 (vN .u8 H3) rfl (by rw [HV.out]; exact World.ownsRow_lit w1 #[.int .u8 (x1 : Int), .int .u8 (x2 : Int), .int .u8 (x3 : Int)] 3 (Nat.le_refl _) (by unfold maxLen; omega) rfl) D1 n c1 P rfl hD1 Hn.out (S1.alloc _) (by unfold maxLen; omega) (by omega) (by simp) ?_; intro v2 w2 hown2 hgrow2; rw [← vN_app, HYP.out] at hown2; obtain ⟨hl2, D2, c2, rfl, S2, hD2⟩ := own_b hown2; have B2 : Below w1.heap.size w1 w2 := ((Below.refl _ w1).alloc (Nat.le_refl _) _).grown hgrow2 (by simp) (fun j hj => by cases hj; exact Nat.le_refl _)) | (go_at_call 27; refine (ksum_is Y (3 + n) c2 D2 s HS.out HYl.out HYb.out (by omega) _ S2).mono ?_; rintro e w3 ⟨rfl, hb3⟩) | (go_at_call 26; refine (kbytes_is s hsl _).mono ?_; rintro e w4 ⟨D4, c4, rfl, S4, hD4, hb4⟩; have B4 := B2.trans ((hb3.trans (hb4.mono hb3.size)).mono B2.size); have hown4 := hown2.kept (below_grown (hb3.trans (hb4.mono hb3.size)) none) none_ne) | (at_builtin; refine append_sln .u8 rfl _ _ 23 rfl w1.heap.size 5 i0 (.int .u8 0) 1 Try.underlying23 hi hz0 hz1 hz2 rfl _ (3 + n) (vN .u8 Y) rfl hown4 D4 8 c4 (Dg.be8 s) rfl hD4 rfl S4 (by unfold maxLen; omega) (by omega) (by have := B4.size; omega) ?_; intro v5 w5 hown5 hgrow5; rw [← vN_app, HTY.out, hNn] at hown5; obtain ⟨hl5, D5, c5, rfl, S5, hD5⟩ := own_b hown5; have B5 : Below w1.heap.size w1 w5 := B4.grown hgrow5 B4.size (own_ne hown4)) | fail)
  go_ret2
  exact ⟨D5, c5, rfl, S5, hD5, hb1.trans (B5.mono hb1.size)⟩
end Go.Proofs.Ytnnhpbkhfaaaeaa
