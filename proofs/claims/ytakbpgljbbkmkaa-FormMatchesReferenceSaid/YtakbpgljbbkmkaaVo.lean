/- The walk of the reference's Find. -/
import Derived.Test.YtakbpgljbbkmkaaVn
namespace Go.Proofs.Ytakbpgljbbkmkaa
open Go.RowKit

namespace Fo
/-- Where a visit stands; -1: nowhere. -/
def vix : List V2 → V2 → Int
  | [], _ => -1
  | x :: l, c => if x = c then 0 else if vix l c < 0 then -1 else vix l c + 1
theorem vix_ge : ∀ (l : List V2) (c : V2), -1 ≤ vix l c
  | [], _ => Int.le_refl _
  | b :: l, c => by
    have := vix_ge l c
    unfold vix
    split
    · omega
    · split <;> omega
theorem vix_lt : ∀ (l : List V2) (c : V2), vix l c < l.length
  | [], _ => by unfold vix; simp
  | b :: l, c => by
    have := vix_lt l c
    unfold vix
    simp only [List.length_cons]
    split
    · omega
    · split <;> omega
theorem vix_at : ∀ {l : List V2} {c : V2}, 0 ≤ vix l c → atV l (vix l c).toNat = c
  | [], c, h => by unfold vix at h; omega
  | b :: l, c, h => by
    unfold vix at h ⊢
    split
    · rename_i e; exact e
    · rename_i e
      rw [if_neg e] at h
      split
      · rename_i h1; rw [if_pos h1] at h; omega
      · rename_i h1
        have ih := vix_at (l := l) (c := c) (by omega)
        rw [show (vix l c + 1).toNat = (vix l c).toNat + 1 by omega]
        exact ih
theorem vix_neg : ∀ {l : List V2} {c : V2}, vix l c < 0 ↔ c ∉ l
  | [], c => by unfold vix; simp
  | b :: l, c => by
    have ih := vix_neg (l := l) (c := c)
    have hg := vix_ge l c
    unfold vix
    by_cases e : b = c
    · rw [if_pos e]; simp [e]
    · rw [if_neg e, List.mem_cons, not_or]
      by_cases h : vix l c < 0
      · rw [if_pos h]; exact ⟨fun _ => ⟨fun h2 => e h2.symm, ih.1 h⟩, fun _ => by omega⟩
      · rw [if_neg h]; exact ⟨fun h2 => by omega, fun h2 => absurd (ih.2 h2.2) h⟩
theorem vix_first : ∀ {l : List V2} {c : V2} {i : Nat}, i < l.length → atV l i = c → (∀ k, k < i → atV l k ≠ c) → vix l c = i
  | [], _, _, hi, _, _ => by simp at hi
  | b :: l, c, 0, _, h, _ => by unfold vix; rw [if_pos (show b = c from h)]; rfl
  | b :: l, c, i + 1, hi, h, hk => by
    have e : b ≠ c := hk 0 (by omega)
    have ih := vix_first (l := l) (c := c) (i := i) (by simpa using hi) h (fun k hk2 => hk (k + 1) (by omega))
    unfold vix
    rw [if_neg e, if_neg (by omega), ih]
    rfl
end Fo
structure BV (w : World) (b : Nat) (x : Fo.V2) : Prop where
  lt : b < w.heap.size
  c0 : w.cell? ⟨b, 0, none⟩ = some (.int .i64 x.b)
  c1 : w.cell? ⟨b, 1, none⟩ = some (.int .i64 x.p)
theorem BV.below {w w' : World} {b : Nat} {x : Fo.V2} (s : BV w b x) (hb : Below w.heap.size w w') : BV w' b x :=
  ⟨Nat.lt_of_lt_of_le s.lt hb.size, (hb.cell (p := ⟨b, 0, none⟩) s.lt).trans s.c0, (hb.cell (p := ⟨b, 1, none⟩) s.lt).trans s.c1⟩
theorem BV.new (w : World) (x : Fo.V2) (t : TypeId) : BV (w.alloc (.cells #[.int .i64 x.b, .int .i64 x.p] t)) w.heap.size x := ⟨by simp, by go_simp, by go_simp⟩
theorem rfind_no (h : FH) (f : Fo.Fm) (v : Fo.V2) (hV : ¬ Fo.Val f) (hcap : h.cl ≤ h.cc) (w : World) (hS : SlF w h f) :
    Calls Try.prog 17 #[.agg #[.int .i64 h.n, .slice h.R h.rl h.rc, .slice h.E h.el h.ec, .int .i64 h.ja, .int .i64 h.jt, .int .i64 h.jf, .slice h.C h.cl h.cc], .agg #[.int .i64 v.b, .int .i64 v.p]] w fun e w' => Below w.heap.size w w' ∧ e = .returned (.tuple #[.int .i64 0, .bool false, .int .i64 1]) := by
  have B := ((Below.refl w.heap.size w).alloc (Nat.le_refl _) (.cells #[.int .i64 h.n, .slice h.R h.rl h.rc, .slice h.E h.el h.ec, .int .i64 h.ja, .int .i64 h.jt, .int .i64 h.jf, .slice h.C h.cl h.cc] 28)).alloc (by simp) (.cells #[.int .i64 v.b, .int .i64 v.p] 30)
  have HSS := Lib.hid ((hS.alloc (.cells #[.int .i64 h.n, .slice h.R h.rl h.rc, .slice h.E h.el h.ec, .int .i64 h.ja, .int .i64 h.jt, .int .i64 h.jf, .slice h.C h.cl h.cc] 28)).alloc (.cells #[.int .i64 v.b, .int .i64 v.p] 30))
  have HV := Lib.hid hV; have HCAP := Lib.hid hcap
  clear hS hV hcap
  go_enter Try.func17, Try.ntmps17
  go_wp2_with fail
  refine (runfold_no h f HV.out HCAP.out _ HSS.out).mono ?_; rintro e w2 ⟨hb, rfl⟩
  replace B := B.trans (hb.mono B.size)
  clear hb
  go_wp2_with fail
  refine bodyPost_ret (v := .tuple #[.int .i64 0, .bool false, .int .i64 1]) (by simp [results, Try.results17, go_sem]) rfl ⟨B, rfl⟩
set_option maxHeartbeats 3200000 in
theorem rfind_is (h : FH) (f : Fo.Fm) (v : Fo.V2) (r : Int) (V : Fo.Val f) (hr : Fo.vix (Fo.unf f) v = r) (hcap : h.cl ≤ h.cc) (w : World) (hS : SlF w h f) :
    Calls Try.prog 17 #[.agg #[.int .i64 h.n, .slice h.R h.rl h.rc, .slice h.E h.el h.ec, .int .i64 h.ja, .int .i64 h.jt, .int .i64 h.jf, .slice h.C h.cl h.cc], .agg #[.int .i64 v.b, .int .i64 v.p]] w fun e w' => Below w.heap.size w w' ∧ e = .returned (.tuple #[.int .i64 (if r < 0 then 0 else r), .bool (decide (0 ≤ r)), .int .i64 0]) := by
  have B := ((Below.refl w.heap.size w).alloc (Nat.le_refl _) (.cells #[.int .i64 h.n, .slice h.R h.rl h.rc, .slice h.E h.el h.ec, .int .i64 h.ja, .int .i64 h.jt, .int .i64 h.jf, .slice h.C h.cl h.cc] 28)).alloc (by simp) (.cells #[.int .i64 v.b, .int .i64 v.p] 30)
  have Q := BV.new (w.alloc (.cells #[.int .i64 h.n, .slice h.R h.rl h.rc, .slice h.E h.el h.ec, .int .i64 h.ja, .int .i64 h.jt, .int .i64 h.jf, .slice h.C h.cl h.cc] 28)) v 30
  have e0 : (w.alloc (.cells #[.int .i64 h.n, .slice h.R h.rl h.rc, .slice h.E h.el h.ec, .int .i64 h.ja, .int .i64 h.jt, .int .i64 h.jf, .slice h.C h.cl h.cc] 28)).heap.size = w.heap.size + 1 := by simp
  rw [e0] at Q
  have HSS := Lib.hid ((hS.alloc (.cells #[.int .i64 h.n, .slice h.R h.rl h.rc, .slice h.E h.el h.ec, .int .i64 h.ja, .int .i64 h.jt, .int .i64 h.jf, .slice h.C h.cl h.cc] 28)).alloc (.cells #[.int .i64 v.b, .int .i64 v.p] 30))
  have HV := Lib.hid V; have HCAP := Lib.hid hcap; have HR := Lib.hid hr
  clear hS V hcap hr e0
  go_enter Try.func17, Try.ntmps17
  go_wp2_with fail
  obtain ⟨W1, hW1⟩ : ∃ W1, (w.alloc (.cells #[.int .i64 h.n, .slice h.R h.rl h.rc, .slice h.E h.el h.ec, .int .i64 h.ja, .int .i64 h.jt, .int .i64 h.jf, .slice h.C h.cl h.cc] 28)).alloc (.cells #[.int .i64 v.b, .int .i64 v.p] 30) = W1 := ⟨_, rfl⟩
  rw [hW1] at B Q HSS
  (try simp only [hW1])
  clear hW1
  refine (runfold_is h f HV.out HCAP.out _ HSS.out).mono ?_; rintro e w2 ⟨hb, v0, rfl, hown⟩
  obtain ⟨-, A, cap, rfl, hsl, -⟩ := own_V hown
  have hm : (Fo.unf f).length ≤ 20000 := by
    unfold Fo.unf
    refine Nat.le_trans (List.length_filter_le _ _) ?_
    rw [Fo.vis_length]
    exact HV.out.most
  obtain ⟨l, hl⟩ : ∃ l, Fo.unf f = l := ⟨_, rfl⟩
  rw [hl] at hsl hm HR ⊢
  obtain ⟨len, hle⟩ : ∃ len, l.length = len := ⟨_, rfl⟩
  rw [hle] at hm ⊢
  have HN := Lib.hid hle; have HSL := Lib.hid hsl
  have HB := Lib.hid (B.trans (hb.mono B.size)); have HQ := Lib.hid (Q.below hb)
  clear hown hsl hb hl hle HSS B Q
  go_wp2_with fail
  go_loopw [9] (fun s9 wr => ∃ (i : Nat), i ≤ len ∧ s9 = .int .i64 (i : Int) ∧ Hid (∀ j, j < i → atV l j ≠ v) ∧ Below w2.heap.size w2 wr) (fun s9 _ => len - (intOf s9).toNat)
  case atStart => exact ⟨0, Nat.zero_le _, rfl, Lib.hid (fun j hj => by omega), Below.refl _ _⟩
  case round =>
    obtain ⟨i, hi, rfl, HJ, hR⟩ := hrel
    by_cases hlt : i < len
    · have hil : i < l.length := by rw [HN.out]; exact hlt
      obtain ⟨b, off, rfl, hb, hc⟩ := HSL.out (by omega)
      have X := (hc i hil).below hR hb
      obtain ⟨x, hx⟩ : ∃ x, atV l i = x := ⟨_, rfl⟩
      rw [hx] at X
      have Q := HQ.out.below hR
      have z0 := fun y : Ext wr => y.cell X.c0; have z1 := fun y : Ext wr => y.cell X.c1
      have k0 := fun y : Ext wr => y.cell Q.c0; have k1 := fun y : Ext wr => y.cell Q.c1
      have hne := Ext.there wr
      have HX := Lib.hid hx; have HIL := Lib.hid hil
      have hi1 : (i : Int) < (len : Int) := by omega
      clear hc hx hil X Q
      go_wp2_with fail
      obtain ⟨g, hg⟩ : ∃ g : Bool, g = true ↔ x = v := ⟨decide (x = v), by simp⟩
      have heq := fun W => eqVisit x v g hg W
      have HG := Lib.hid hg
      clear hg
      refine Ext.region (by kernel_rfl) (by kernel_rfl) ?_
      repeat (go_big_quiet_step (simp only [heq]))
      refine wpQuiet_nil ?_
      rintro _ ⟨xw, rfl⟩
      have hR2 := hR.trans (xw.h.mono hR.size)
      clear z0 z1 k0 k1 hne heq
      generalize xw.w = w3 at *
      clear xw
      cases g with
      | true =>
        obtain rfl : (i : Int) = r := by
          rw [← HR.out]
          exact (Fo.vix_first HIL.out (by rw [HX.out]; exact HG.out.1 rfl) HJ.out).symm
        go_wp2_with fail
        refine bodyPost_ret (v := .tuple #[.int .i64 (i : Int), .bool true, .int .i64 0]) (by simp [results, Try.results17, go_sem]) rfl ⟨HB.out.trans (hR2.mono HB.out.size), by first | rfl | (rw [if_neg (by omega), decide_eq_true (by omega)])⟩
      | false =>
        have HJ2 : Hid (∀ j, j < i + 1 → atV l j ≠ v) := Lib.hid (fun j hj => by
          rcases Nat.lt_or_ge j i with h | h
          · exact HJ.out j h
          · rw [show j = i by omega, HX.out]; exact fun e => by have := HG.out.2 e; cases this)
        go_wp2_with fail
        go_roundw
        case rel => exact ⟨i + 1, by omega, by simp, HJ2, hR2⟩
        case measure => simp [intOf]; omega
    · obtain rfl : i = len := by omega
      obtain rfl : r = -1 := by
        rw [← HR.out]
        by_cases h0 : 0 ≤ Fo.vix l v
        · have h1 := Fo.vix_at h0
          have h2 := Fo.vix_lt l v
          exact absurd h1 (HJ.out _ (by rw [← HN.out]; omega))
        · have := Fo.vix_ge l v; omega
      go_wp2_with fail
      refine bodyPost_ret (v := .tuple #[.int .i64 0, .bool false, .int .i64 0]) (by simp [results, Try.results17, go_sem]) rfl ⟨HB.out.trans (hR.mono HB.out.size), rfl⟩
end Go.Proofs.Ytakbpgljbbkmkaa
