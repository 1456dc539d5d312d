/- The walks of the reference's within, inside, starts, played. -/
import Derived.Test.YtakbpgljbbkmkaaVb
namespace Go.Proofs.Ytakbpgljbbkmkaa
open Go.RowKit

theorem fo_some {l : List Fo.T3} {P : Fo.T3 → Prop} {i : Nat} (h : i < l.length) (hp : P (Fo.at3 l i)) : ∃ x ∈ l, P x := ⟨_, Fo.at3_mem h, hp⟩
theorem fo_none {l : List Fo.T3} {P : Fo.T3 → Prop} (h : ∀ j, j < l.length → ¬ P (Fo.at3 l j)) : ¬ ∃ x ∈ l, P x := fun ⟨x, hx, hp⟩ => by
  obtain ⟨j, hj, rfl⟩ := List.mem_iff_getElem.1 hx
  exact h j hj (by rw [Fo.at3_eq hj]; exact hp)
set_option maxHeartbeats 800000 in
theorem rwithin_is (l : List Fo.T3) (bar : Int) (f : Bool) (len cap : Nat) (A : Option Addr) (hf : f = true ↔ Fo.wi l bar) (hl : l.length = len) (hmax : len ≤ 1000000) (w : World) (hL : SlT w A l) :
    Calls Try.prog 66 #[.slice A len cap, .int .i64 bar] w fun e w' => e = .returned (.bool f) ∧ w' = w := by
  have HF := Lib.hid hf; have HN := Lib.hid hl; have HL := Lib.hid hL
  clear hf hl hL
  go_enter Try.func66, Try.ntmps66
  go_wp2_with fail
  go_loopw [5] (fun s5 wr => ∃ (i : Nat), i ≤ len ∧ s5 = .int .i64 (i : Int) ∧ Hid (∀ j, j < i → ¬ ((Fo.at3 l j).a < bar ∧ bar < (Fo.at3 l j).b)) ∧ wr = w) (fun s5 _ => len - (intOf s5).toNat)
  case atStart => exact ⟨0, Nat.zero_le _, rfl, Lib.hid (fun j hj => by omega), rfl⟩
  case round =>
    obtain ⟨i, hi, rfl, HJ, rfl⟩ := hrel
    by_cases hlt : i < len
    · have hil : i < l.length := by rw [HN.out]; exact hlt
      obtain ⟨b, off, rfl, hb, hc⟩ := HL.out (by omega)
      have X := hc i hil
      obtain ⟨x, hx⟩ : ∃ x, Fo.at3 l i = x := ⟨_, rfl⟩
      rw [hx] at X
      obtain ⟨c0, c1, c2⟩ := X
      have HX := Lib.hid hx; have HIL := Lib.hid hil
      have hi1 : (i : Int) < (len : Int) := by omega
      clear hc hx hil
      by_cases h1 : x.a < bar
      · by_cases h2 : bar < x.b
        · obtain rfl : f = true := HF.out.2 (fo_some HIL.out (by rw [HX.out]; exact ⟨h1, h2⟩))
          go_wp2_with fail
          go_ret
          exact ⟨rfl, rfl⟩
        · have HJ2 : Hid (∀ j, j < i + 1 → ¬ ((Fo.at3 l j).a < bar ∧ bar < (Fo.at3 l j).b)) := Lib.hid (fun j hj => by
            rcases Nat.lt_or_ge j i with h | h
            · exact HJ.out j h
            · rw [show j = i by omega, HX.out]; exact fun h => h2 h.2)
          go_wp2_with fail
          go_roundw
          case rel => exact ⟨i + 1, by omega, by simp, HJ2, (by first | rfl | trivial)⟩
          case measure => simp [intOf]; omega
      · have HJ2 : Hid (∀ j, j < i + 1 → ¬ ((Fo.at3 l j).a < bar ∧ bar < (Fo.at3 l j).b)) := Lib.hid (fun j hj => by
          rcases Nat.lt_or_ge j i with h | h
          · exact HJ.out j h
          · rw [show j = i by omega, HX.out]; exact fun h => h1 h.1)
        go_wp2_with fail
        go_roundw
        case rel => exact ⟨i + 1, by omega, by simp, HJ2, (by first | rfl | trivial)⟩
        case measure => simp [intOf]; omega
    · obtain rfl : i = len := by omega
      obtain rfl : f = false := by
        cases f with
        | false => rfl
        | true => exact absurd (HF.out.1 rfl) (fo_none (fun j hj => HJ.out j (by rw [← HN.out]; exact hj)))
      go_wp2_with fail
      go_ret
      exact ⟨rfl, rfl⟩
set_option maxHeartbeats 800000 in
theorem rinside_is (l : List Fo.T3) (lo ub : Int) (f : Bool) (len cap : Nat) (A : Option Addr) (hf : f = true ↔ Fo.ins l lo ub) (hl : l.length = len) (hmax : len ≤ 1000000) (w : World) (hL : SlT w A l) :
    Calls Try.prog 65 #[.slice A len cap, .int .i64 lo, .int .i64 ub] w fun e w' => e = .returned (.bool f) ∧ w' = w := by
  have HF := Lib.hid hf; have HN := Lib.hid hl; have HL := Lib.hid hL
  clear hf hl hL
  go_enter Try.func65, Try.ntmps65
  go_wp2_with fail
  go_loopw [7] (fun s5 wr => ∃ (i : Nat), i ≤ len ∧ s5 = .int .i64 (i : Int) ∧ Hid (∀ j, j < i → ¬ ((Fo.at3 l j).a ≤ lo ∧ ub ≤ (Fo.at3 l j).b)) ∧ wr = w) (fun s5 _ => len - (intOf s5).toNat)
  case atStart => exact ⟨0, Nat.zero_le _, rfl, Lib.hid (fun j hj => by omega), rfl⟩
  case round =>
    obtain ⟨i, hi, rfl, HJ, rfl⟩ := hrel
    by_cases hlt : i < len
    · have hil : i < l.length := by rw [HN.out]; exact hlt
      obtain ⟨b, off, rfl, hb, hc⟩ := HL.out (by omega)
      have X := hc i hil
      obtain ⟨x, hx⟩ : ∃ x, Fo.at3 l i = x := ⟨_, rfl⟩
      rw [hx] at X
      obtain ⟨c0, c1, c2⟩ := X
      have HX := Lib.hid hx; have HIL := Lib.hid hil
      have hi1 : (i : Int) < (len : Int) := by omega
      clear hc hx hil
      by_cases h1 : x.a ≤ lo
      · by_cases h2 : ub ≤ x.b
        · obtain rfl : f = true := HF.out.2 (fo_some HIL.out (by rw [HX.out]; exact ⟨h1, h2⟩))
          go_wp2_with fail
          go_ret
          exact ⟨rfl, rfl⟩
        · have HJ2 : Hid (∀ j, j < i + 1 → ¬ ((Fo.at3 l j).a ≤ lo ∧ ub ≤ (Fo.at3 l j).b)) := Lib.hid (fun j hj => by
            rcases Nat.lt_or_ge j i with h | h
            · exact HJ.out j h
            · rw [show j = i by omega, HX.out]; exact fun h => h2 h.2)
          go_wp2_with fail
          go_roundw
          case rel => exact ⟨i + 1, by omega, by simp, HJ2, (by first | rfl | trivial)⟩
          case measure => simp [intOf]; omega
      · have HJ2 : Hid (∀ j, j < i + 1 → ¬ ((Fo.at3 l j).a ≤ lo ∧ ub ≤ (Fo.at3 l j).b)) := Lib.hid (fun j hj => by
          rcases Nat.lt_or_ge j i with h | h
          · exact HJ.out j h
          · rw [show j = i by omega, HX.out]; exact fun h => h1 h.1)
        go_wp2_with fail
        go_roundw
        case rel => exact ⟨i + 1, by omega, by simp, HJ2, (by first | rfl | trivial)⟩
        case measure => simp [intOf]; omega
    · obtain rfl : i = len := by omega
      obtain rfl : f = false := by
        cases f with
        | false => rfl
        | true => exact absurd (HF.out.1 rfl) (fo_none (fun j hj => HJ.out j (by rw [← HN.out]; exact hj)))
      go_wp2_with fail
      go_ret
      exact ⟨rfl, rfl⟩
set_option maxHeartbeats 800000 in
theorem rstarts_is (h : FH) (f : Fo.Fm) (bar r : Int) (hr : Fo.six f.rs bar = r) (hmax : h.rl ≤ 1000000) (w : World) (hS : SlF w h f) :
    Calls Try.prog 78 #[.agg #[.int .i64 h.n, .slice h.R h.rl h.rc, .slice h.E h.el h.ec, .int .i64 h.ja, .int .i64 h.jt, .int .i64 h.jf, .slice h.C h.cl h.cc], .int .i64 bar] w fun e w' => e = .returned (.int .i64 r) ∧ Below w.heap.size w w' := by
  have HF := Lib.hid hr; have HN := Lib.hid hS.rl; have HL := Lib.hid hS.sr
  have B := (Below.refl w.heap.size w).alloc (Nat.le_refl _) (.cells #[.int .i64 h.n, .slice h.R h.rl h.rc, .slice h.E h.el h.ec, .int .i64 h.ja, .int .i64 h.jt, .int .i64 h.jf, .slice h.C h.cl h.cc] 28)
  have Q := FB.new w h
  clear hr hS
  go_enter Try.func78, Try.ntmps78
  go_wp2_with fail
  obtain ⟨W1, hW1⟩ : ∃ W1, w.alloc (.cells #[.int .i64 h.n, .slice h.R h.rl h.rc, .slice h.E h.el h.ec, .int .i64 h.ja, .int .i64 h.jt, .int .i64 h.jf, .slice h.C h.cl h.cc] 28) = W1 := ⟨_, rfl⟩
  rw [hW1] at B Q ⊢
  clear hW1
  have q1 := Q.c1; have ql := Q.lt
  go_loopw [5] (fun s5 wr => ∃ (i : Nat), i ≤ h.rl ∧ s5 = .int .i64 (i : Int) ∧ Hid (∀ j, j < i → (Fo.at3 f.rs j).a ≠ bar) ∧ wr = W1) (fun s5 _ => h.rl - (intOf s5).toNat)
  case atStart => exact ⟨0, Nat.zero_le _, rfl, Lib.hid (fun j hj => by omega), rfl⟩
  case round =>
    obtain ⟨i, hi, rfl, HJ, rfl⟩ := hrel
    by_cases hlt : i < h.rl
    · have hil : i < f.rs.length := by rw [HN.out]; exact hlt
      obtain ⟨b, off, hRe, hb, hc⟩ := HL.out (by omega)
      have X := (hc i hil).below B hb
      obtain ⟨x, hx⟩ : ∃ x, Fo.at3 f.rs i = x := ⟨_, rfl⟩
      rw [hx] at X
      obtain ⟨c0, -, -⟩ := X
      have HX := Lib.hid hx; have HIL := Lib.hid hil
      have hi1 : (i : Int) < (h.rl : Int) := by omega
      rw [hRe] at q1
      clear hc hx hil hRe
      by_cases h1 : x.a = bar
      · obtain rfl : (i : Int) = r := by
          rw [← HF.out]
          exact (Fo.six_first HIL.out (by rw [HX.out]; exact h1) HJ.out).symm
        have hbe : (x.a == bar) = true := by simpa using h1
        clear h1
        go_wp2_with fail
        go_ret
        exact ⟨rfl, B⟩
      · have HJ2 : Hid (∀ j, j < i + 1 → (Fo.at3 f.rs j).a ≠ bar) := Lib.hid (fun j hj => by
          rcases Nat.lt_or_ge j i with h | h
          · exact HJ.out j h
          · rw [show j = i by omega, HX.out]; exact h1)
        have hbe : (x.a == bar) = false := by simpa using h1
        clear h1
        go_wp2_with fail
        go_roundw
        case rel => exact ⟨i + 1, by omega, by simp, HJ2, (by first | rfl | trivial)⟩
        case measure => simp [intOf]; omega
    · obtain rfl : i = h.rl := by omega
      obtain rfl : r = -1 := by
        rw [← HF.out]
        by_cases h0 : 0 ≤ Fo.six f.rs bar
        · have h1 := Fo.six_at h0
          have h2 := Fo.six_lt f.rs bar
          exact absurd h1 (HJ.out _ (by rw [← HN.out]; omega))
        · have := Fo.six_ge f.rs bar; omega
      go_wp2_with fail
      go_ret
      exact ⟨rfl, B⟩
set_option maxHeartbeats 1600000 in
theorem rplayed_is (h : FH) (f : Fo.Fm) (bar pass : Int) (r : Bool) (hr : r = true ↔ Fo.pld f.es bar pass) (hmax : h.el ≤ 1000000) (w : World) (hS : SlF w h f) :
    Calls Try.prog 79 #[.agg #[.int .i64 h.n, .slice h.R h.rl h.rc, .slice h.E h.el h.ec, .int .i64 h.ja, .int .i64 h.jt, .int .i64 h.jf, .slice h.C h.cl h.cc], .int .i64 bar, .int .i64 pass] w fun e w' => e = .returned (.bool r) ∧ Below w.heap.size w w' := by
  have HF := Lib.hid hr; have HN := Lib.hid hS.el; have HL := Lib.hid hS.se
  have B := (Below.refl w.heap.size w).alloc (Nat.le_refl _) (.cells #[.int .i64 h.n, .slice h.R h.rl h.rc, .slice h.E h.el h.ec, .int .i64 h.ja, .int .i64 h.jt, .int .i64 h.jf, .slice h.C h.cl h.cc] 28)
  have Q := FB.new w h
  clear hr hS
  go_enter Try.func79, Try.ntmps79
  go_wp2_with fail
  obtain ⟨W1, hW1⟩ : ∃ W1, w.alloc (.cells #[.int .i64 h.n, .slice h.R h.rl h.rc, .slice h.E h.el h.ec, .int .i64 h.ja, .int .i64 h.jt, .int .i64 h.jf, .slice h.C h.cl h.cc] 28) = W1 := ⟨_, rfl⟩
  rw [hW1] at B Q ⊢
  clear hW1
  have HQ := Lib.hid Q; have HB := Lib.hid B
  clear Q B
  go_loopw [7] (fun s7 wr => ∃ (i : Nat), i ≤ h.el ∧ s7 = .int .i64 (i : Int) ∧ Hid (∀ j, j < i → Fo.inn (Fo.at3 f.es j) bar → (Fo.at3 f.es j).c = pass) ∧ Below W1.heap.size W1 wr) (fun s7 _ => h.el - (intOf s7).toNat)
  case atStart => exact ⟨0, Nat.zero_le _, rfl, Lib.hid (fun j hj => by omega), Below.refl _ _⟩
  case round =>
    obtain ⟨i, hi, rfl, HJ, hR⟩ := hrel
    have Q := HQ.out.below hR
    have q2 := Q.c2; have ql := Q.lt
    by_cases hlt : i < h.el
    · have hil : i < f.es.length := by rw [HN.out]; exact hlt
      obtain ⟨b, off, hRe, hb, hc⟩ := HL.out (by omega)
      have X := (hc i hil).below (HB.out.trans (hR.mono HB.out.size)) hb
      obtain ⟨x, hx⟩ : ∃ x, Fo.at3 f.es i = x := ⟨_, rfl⟩
      rw [hx] at X
      obtain ⟨c0, c1, c2⟩ := X
      have HX := Lib.hid hx; have HIL := Lib.hid hil
      have hi1 : (i : Int) < (h.el : Int) := by omega
      have hR2 := hR.alloc hR.size (.cells #[.int .i64 x.a, .int .i64 x.b, .int .i64 x.c] 73)
      rw [hRe] at q2
      clear hc hx hil hRe
      by_cases hin : x.a ≤ bar ∧ bar < x.b ∧ x.c ≠ pass
      · obtain ⟨h1, h2, h3⟩ := hin
        obtain rfl : r = false := by
          cases r with
          | false => rfl
          | true => exact absurd (HF.out.1 rfl x (by rw [← HX.out]; exact Fo.at3_mem HIL.out) ⟨h1, h2⟩) h3
        have hbe : (x.c != pass) = true := by simpa using h3
        clear h3
        go_wp2_with fail
        go_ret
        exact ⟨rfl, HB.out.trans (hR2.mono HB.out.size)⟩
      · have HJ2 : Hid (∀ j, j < i + 1 → Fo.inn (Fo.at3 f.es j) bar → (Fo.at3 f.es j).c = pass) := Lib.hid (fun j hj hn => by
          rcases Nat.lt_or_ge j i with h | h
          · exact HJ.out j h hn
          · rw [show j = i by omega, HX.out] at hn ⊢
            by_cases h3 : x.c = pass
            · exact h3
            · exact absurd ⟨hn.1, hn.2, h3⟩ hin)
        by_cases h1 : x.a ≤ bar
        · by_cases h2 : bar < x.b
          · have hbe : (x.c != pass) = false := by
              by_cases h3 : x.c = pass
              · simpa using h3
              · exact absurd ⟨h1, h2, h3⟩ hin
            clear hin
            go_wp2_with fail
            go_roundw
            case rel => exact ⟨i + 1, by omega, by simp, HJ2, hR2⟩
            case measure => simp [intOf]; omega
          · clear hin
            go_wp2_with fail
            go_roundw
            case rel => exact ⟨i + 1, by omega, by simp, HJ2, hR2⟩
            case measure => simp [intOf]; omega
        · clear hin
          go_wp2_with fail
          go_roundw
          case rel => exact ⟨i + 1, by omega, by simp, HJ2, hR2⟩
          case measure => simp [intOf]; omega
    · obtain rfl : i = h.el := by omega
      obtain rfl : r = true := HF.out.2 (fun x hx hn => by
        obtain ⟨j, hj, rfl⟩ := List.mem_iff_getElem.1 hx
        have := HJ.out j (by rw [← HN.out]; exact hj)
        rw [Fo.at3_eq hj] at this
        exact this hn)
      go_wp2_with fail
      go_ret
      exact ⟨rfl, HB.out.trans (hR.mono HB.out.size)⟩
end Go.Proofs.Ytakbpgljbbkmkaa
