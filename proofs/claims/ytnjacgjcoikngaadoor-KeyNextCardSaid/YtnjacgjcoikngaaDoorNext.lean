/-
  Of any key and the next one all steps but one are altered in the same way, and this one by 1 more, and the key 0 alters none: the law KeyNext returns true for every integer, and leaves it as it was.
  Conditions: what the listed package variables hold when the call begins (the card ties it to the program's text).
-/
import Derived.Test.YtnjacgjcoikngaaDoorKz
namespace Go.Proofs.YtnjacgjcoikngaaDoor
open Go.RowKit

namespace Ky
/-- By how much the first steps are altered more by the next key. -/
def cntN (k : Int) : Nat → Int
  | 0 => 0
  | n + 1 => cntN k n + (alt (k + 1) n - alt k n)
theorem cnt_all : ∀ k : Fin 14, cntN ((k : Int) - 7) 7 = 1 ∧ ∀ n : Fin 7, alt 0 (n : Int) = 0 ∧ (alt ((k : Int) - 7 + 1) (n : Int) = alt ((k : Int) - 7) (n : Int) ∨ alt ((k : Int) - 7 + 1) (n : Int) = alt ((k : Int) - 7) (n : Int) + 1) ∧ 0 ≤ cntN ((k : Int) - 7) n ∧ cntN ((k : Int) - 7) n ≤ 7 := by decide +kernel
theorem cnt_key {k : Int} (h0 : -7 ≤ k) (h1 : k ≤ 6) : cntN k 7 = 1 ∧ ∀ n : Nat, n < 7 → alt 0 n = 0 ∧ (alt (k + 1) n = alt k n ∨ alt (k + 1) n = alt k n + 1) ∧ 0 ≤ cntN k n ∧ cntN k n ≤ 7 := by
  have h := cnt_all ⟨(k + 7).toNat, by omega⟩
  have e : (((⟨(k + 7).toNat, by omega⟩ : Fin 14) : Nat) : Int) - 7 = k := by show (((k + 7).toNat : Nat) : Int) - 7 = k; omega
  rw [e] at h
  exact ⟨h.1, fun n hn => h.2 ⟨n, hn⟩⟩
theorem altR_of {k s : Int} (hk : kv k = true) (h0 : 0 ≤ s) (h1 : s ≤ 6) : altR k s = (alt k s, 0) := by
  unfold altR
  rw [if_pos (by rw [hk]; simp; omega)]
end Ky

set_option maxHeartbeats 1600000 in
set_option maxRecDepth 100000 in
theorem keyNext_walk (k : Int) (w : World) (hG : GK w) :
    Calls Tryd.prog 4 #[.int .i64 k] w fun e w' => e = .returned (.bool true) ∧ Below w.heap.size w w' := by
  obtain ⟨v1, hv1⟩ : ∃ v, Ky.kv k = v := ⟨_, rfl⟩
  have V1 := Lib.hid hv1
  cases v1 with
  | false =>
    clear hv1
    go_enter Tryd.func4, Tryd.ntmps4
    go_wp2_with fail
    have B := Below.refl w.heap.size w
    refine (head_any _ hG).mono ?_; rintro e w1 ⟨rfl, hb⟩
    replace hG := hG.below hb
    replace B := B.trans (hb.mono (by have := B.size; simp <;> omega))
    clear hb
    go_wp2_with fail
    refine (kkey_is _ _ V1.out _).mono ?_; rintro e w9 ⟨rfl, rfl⟩
    go_wp2_with fail
    go_ret
    exact ⟨rfl, B⟩
  | true =>
    obtain ⟨q0, q1⟩ := Ky.kv_iff.1 hv1
    obtain ⟨v2, hv2⟩ : ∃ v, Ky.kv (k + 1) = v := ⟨_, rfl⟩
    have V2 := Lib.hid hv2
    cases v2 with
    | false =>
      clear hv1 hv2
      go_enter Tryd.func4, Tryd.ntmps4
      go_wp2_with fail
      have B := Below.refl w.heap.size w
      refine (head_any _ hG).mono ?_; rintro e w1 ⟨rfl, hb⟩
      replace hG := hG.below hb
      replace B := B.trans (hb.mono (by have := B.size; simp <;> omega))
      clear hb
      go_wp2_with fail
      refine (kkey_is _ _ V1.out _).mono ?_; rintro e w9 ⟨rfl, rfl⟩
      go_wp2_with fail
      refine (kkey_is _ _ V2.out _).mono ?_; rintro e w9 ⟨rfl, rfl⟩
      go_wp2_with fail
      go_ret
      exact ⟨rfl, B⟩
    | true =>
      obtain ⟨r0, r1⟩ := Ky.kv_iff.1 hv2
      have HC := Lib.hid (Ky.cnt_key q0 (by omega))
      clear hv1 hv2
      go_enter Tryd.func4, Tryd.ntmps4
      go_wp2_with fail
      have B := Below.refl w.heap.size w
      refine (head_any _ hG).mono ?_; rintro e w1 ⟨rfl, hb⟩
      replace hG := hG.below hb
      replace B := B.trans (hb.mono (by have := B.size; simp <;> omega))
      clear hb
      go_wp2_with fail
      refine (kkey_is _ _ V1.out _).mono ?_; rintro e w9 ⟨rfl, rfl⟩
      go_wp2_with fail
      refine (kkey_is _ _ V2.out _).mono ?_; rintro e w9 ⟨rfl, rfl⟩
      go_wp2_with fail
      go_loopw [4, 5] (fun s4 s5 wr => ∃ n : Nat, n ≤ 7 ∧ s5 = .int .i64 n ∧ s4 = .int .i64 (Ky.cntN k n) ∧ GK wr ∧ Below w.heap.size w wr) (fun _ s5 _ => 7 - (intOf s5).toNat)
      case atStart => exact ⟨0, by omega, rfl, rfl, hG, B⟩
      case round =>
        clear hG B
        obtain ⟨n, hn, rfl, rfl, hG, B⟩ := hrel
        by_cases hlt : n < 7
        · obtain ⟨h0, hd, c0, c1⟩ := HC.out.2 n hlt
          have A1 : Hid (Ky.altR k n = (Ky.alt k n, 0)) := Lib.hid (Ky.altR_of V1.out (by omega) (by omega))
          have A2 : Hid (Ky.altR (k + 1) n = (Ky.alt (k + 1) n, 0)) := Lib.hid (Ky.altR_of V2.out (by omega) (by omega))
          have A3 : Hid (Ky.altR 0 n = (0, 0)) := Lib.hid (by rw [Ky.altR_of rfl (by omega) (by omega), h0])
          have HS : Hid (Ky.cntN k (n + 1) = Ky.cntN k n + (Ky.alt (k + 1) n - Ky.alt k n)) := Lib.hid rfl
          have i1 := Ky.alt_in k n
          obtain ⟨i0, i1⟩ := i1
          clear h0
          generalize Ky.cntN k n = C at *
          generalize Ky.alt (k + 1) n = b at *
          generalize Ky.alt k n = a at *
          rcases hd with rfl | rfl
          all_goals
            go_wp2_with fail
            refine (alter_is _ _ _ _ A1.out _ hG).mono ?_; rintro e w2 ⟨rfl, hb⟩
            replace hG := hG.below hb; replace B := B.trans (hb.mono B.size); clear hb
            go_wp2_with fail
            refine (alter_is _ _ _ _ A2.out _ hG).mono ?_; rintro e w3 ⟨rfl, hb⟩
            replace hG := hG.below hb; replace B := B.trans (hb.mono B.size); clear hb
            go_wp2_with fail
            refine (alter_is _ _ _ _ A3.out _ hG).mono ?_; rintro e w4 ⟨rfl, hb⟩
            replace hG := hG.below hb; replace B := B.trans (hb.mono B.size); clear hb
            go_wp2_with fail
            go_roundw
            case rel => exact ⟨n + 1, by omega, by simp, (by first | (rw [HS.out]; congr 1; omega) | rw [HS.out]), hG, B⟩
            case measure => simp [intOf] <;> omega
        · obtain rfl : n = 7 := by omega
          have e7 := HC.out.1
          go_wp2_with fail
          go_ret
          exact ⟨rfl, B⟩
end Go.Proofs.YtnjacgjcoikngaaDoor
