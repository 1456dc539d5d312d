/- Visits compared; the walks of the reference's Leaves, Few, SameVisits. -/
import Derived.Test.YtakbpgljbbkmkaaVd
namespace Go.Proofs.Ytakbpgljbbkmkaa
open Go.RowKit

set_option maxRecDepth 100000 in
theorem eqVisit (x y : Fo.V2) (g : Bool) (h : g = true ↔ x = y) (w : World) : (Go.Op.equalIn 10000 30 (.agg #[.int .i64 x.b, .int .i64 x.p]) (.agg #[.int .i64 y.b, .int .i64 y.p])).run Try.prog w = .ok g w := by
  have hg : g = ((x.b == y.b) && ((x.p == y.p) && true)) := by
    rw [Bool.eq_iff_iff, h]
    cases x; cases y
    simp only [Fo.V2.mk.injEq, Bool.and_eq_true, beq_iff_eq, and_true]
  rw [hg, run_equalIn_struct w 9999 30 _ _ (by kernel_rfl) (by kernel_rfl)]
  have hm : (Try.prog.fieldsOf 30).toList.map (fun f => (f.name, f.type, f.offset)) = [("Bar", 3, 0), ("Pass", 3, 1)] := by kernel_rfl
  generalize (Try.prog.fieldsOf 30).toList = L at hm ⊢
  rcases L with _ | ⟨f1, _ | ⟨f2, _ | ⟨f3, L⟩⟩⟩ <;> simp only [List.map_cons, List.map_nil, List.cons.injEq, Prod.mk.injEq, and_true, reduceCtorEq, and_false] at hm
  obtain ⟨⟨n1, t1, o1⟩, n2, t2, o2⟩ := hm
  refine eqFT (by rw [n1]; decide) (u := .int .i64 x.b) (v := .int .i64 y.b) (by rw [t1, o1]; exact run_part_plain w (by kernel_rfl) rfl) (by rw [t1, o1]; exact run_part_plain w (by kernel_rfl) rfl) (by rw [t1]; exact run_equalIn_int w 9998 3 .i64 .i64 x.b y.b Try.underlying3) ?_
  refine eqFT (by rw [n2]; decide) (u := .int .i64 x.p) (v := .int .i64 y.p) (by rw [t2, o2]; exact run_part_plain w (by kernel_rfl) rfl) (by rw [t2, o2]; exact run_part_plain w (by kernel_rfl) rfl) (by rw [t2]; exact run_equalIn_int w 9998 3 .i64 .i64 x.p y.p Try.underlying3) ?_
  rfl
set_option maxHeartbeats 1600000 in
theorem rleaves_is (c : Fo.T3) (v : Fo.V2) (r : Bool) (hr : r = true ↔ Fo.lvs c v) (w : World) :
    Calls Try.prog 34 #[.agg #[.int .i64 c.a, .int .i64 c.b, .int .i64 c.c], .agg #[.int .i64 v.b, .int .i64 v.p]] w fun e w' => e = .returned (.bool r) ∧ Below w.heap.size w w' := by
  have B := ((Below.refl w.heap.size w).alloc (Nat.le_refl _) (.cells #[.int .i64 c.a, .int .i64 c.b, .int .i64 c.c] 32)).alloc (by simp) (.cells #[.int .i64 v.b, .int .i64 v.p] 30)
  unfold Fo.lvs Fo.inn at hr
  by_cases h1 : c.a ≤ v.b
  case neg =>
    have hz : r = false := by 
      cases r with
      | false => rfl
      | true => have k := hr.1 rfl; obtain ⟨⟨k1, k2⟩, k3⟩ := k; omega
    subst hz
    clear hr
    go_enter Try.func34, Try.ntmps34
    go_wp2_with fail
    go_ret
    exact ⟨rfl, by first | exact B | (rw [h3] at B; exact B) | (rw [h4] at B; exact B)⟩
  by_cases h2 : v.b < c.b
  case neg =>
    have hz : r = false := by 
      cases r with
      | false => rfl
      | true => have k := hr.1 rfl; obtain ⟨⟨k1, k2⟩, k3⟩ := k; omega
    subst hz
    clear hr
    go_enter Try.func34, Try.ntmps34
    go_wp2_with fail
    go_ret
    exact ⟨rfl, by first | exact B | (rw [h3] at B; exact B) | (rw [h4] at B; exact B)⟩
  by_cases h3 : c.c = 0
  case pos =>
    have hz : r = true := by exact hr.2 ⟨⟨by omega, by omega⟩, by omega⟩
    subst hz
    clear hr
    go_enter Try.func34, Try.ntmps34
    go_wp2_with fail
    go_ret
    exact ⟨rfl, by first | exact B | (rw [h3] at B; exact B) | (rw [h4] at B; exact B)⟩
  by_cases h4 : c.c = v.p
  case pos =>
    have hz : r = true := by exact hr.2 ⟨⟨by omega, by omega⟩, by omega⟩
    subst hz
    clear hr
    go_enter Try.func34, Try.ntmps34
    go_wp2_with fail
    go_ret
    exact ⟨rfl, by first | exact B | (rw [h3] at B; exact B) | (rw [h4] at B; exact B)⟩
  case neg =>
    have b3 : (c.c == 0) = false := by simpa using h3
    have b4 : (c.c == v.p) = false := by simpa using h4
    have hz : r = false := by 
      cases r with
      | false => rfl
      | true => have k := hr.1 rfl; obtain ⟨⟨k1, k2⟩, k3⟩ := k; omega
    subst hz
    clear hr
    go_enter Try.func34, Try.ntmps34
    go_wp2_with fail
    go_ret
    exact ⟨rfl, by first | exact B | (rw [h3] at B; exact B) | (rw [h4] at B; exact B)⟩

/-- A form that is not too large to be looked at. -/
def fewH (h : FH) : Prop := h.n ≤ 60 ∧ h.rl ≤ 110 ∧ h.el ≤ 60 ∧ h.cl ≤ 110
set_option maxHeartbeats 1600000 in
theorem rfew_is (h : FH) (r : Bool) (hr : r = true ↔ fewH h) (w : World) :
    Calls Try.prog 10 #[.agg #[.int .i64 h.n, .slice h.R h.rl h.rc, .slice h.E h.el h.ec, .int .i64 h.ja, .int .i64 h.jt, .int .i64 h.jf, .slice h.C h.cl h.cc]] w fun e w' => e = .returned (.bool r) ∧ Below w.heap.size w w' := by
  have B := (Below.refl w.heap.size w).alloc (Nat.le_refl _) (.cells #[.int .i64 h.n, .slice h.R h.rl h.rc, .slice h.E h.el h.ec, .int .i64 h.ja, .int .i64 h.jt, .int .i64 h.jf, .slice h.C h.cl h.cc] 28)
  unfold fewH at hr
  by_cases h0 : h.n ≤ 60
  case neg =>
    have hz : r = false := by
      cases r with
      | false => rfl
      | true => have k := hr.1 rfl; omega
    subst hz
    clear hr
    go_enter Try.func10, Try.ntmps10
    go_wp2_with fail
    go_ret
    exact ⟨rfl, B⟩
  by_cases h1 : (h.rl : Int) ≤ 110
  case neg =>
    have hz : r = false := by
      cases r with
      | false => rfl
      | true => have k := hr.1 rfl; omega
    subst hz
    clear hr
    go_enter Try.func10, Try.ntmps10
    go_wp2_with fail
    go_ret
    exact ⟨rfl, B⟩
  by_cases h2 : (h.el : Int) ≤ 60
  case neg =>
    have hz : r = false := by
      cases r with
      | false => rfl
      | true => have k := hr.1 rfl; omega
    subst hz
    clear hr
    go_enter Try.func10, Try.ntmps10
    go_wp2_with fail
    go_ret
    exact ⟨rfl, B⟩
  by_cases h3 : (h.cl : Int) ≤ 110
  case neg =>
    have hz : r = false := by
      cases r with
      | false => rfl
      | true => have k := hr.1 rfl; omega
    subst hz
    clear hr
    go_enter Try.func10, Try.ntmps10
    go_wp2_with fail
    go_ret
    exact ⟨rfl, B⟩
  have hz : r = true := hr.2 (by omega)
  subst hz
  clear hr
  go_enter Try.func10, Try.ntmps10
  go_wp2_with fail
  go_ret
  exact ⟨rfl, B⟩
theorem fo_ext {a b : List Fo.V2} (hl : a.length = b.length) (h : ∀ j, j < a.length → atV a j = atV b j) : a = b := by
  refine List.ext_getElem hl fun j h1 h2 => ?_
  have := h j h1
  rwa [atV_eq h1, atV_eq h2] at this
set_option maxHeartbeats 1600000 in
theorem rsameV_is (a b : List Fo.V2) (r : Bool) (la ca lb cb : Nat) (A D : Option Addr) (hr : r = true ↔ a = b) (ha : a.length = la) (hb : b.length = lb) (hmax : la ≤ 1000000) (w : World) (hA : SlV w A a) (hD : SlV w D b) :
    Calls Try.prog 15 #[.slice A la ca, .slice D lb cb] w fun e w' => e = .returned (.bool r) ∧ Below w.heap.size w w' := by
  have HF := Lib.hid hr; have HNa := Lib.hid ha; have HNb := Lib.hid hb; have HA := Lib.hid hA; have HD := Lib.hid hD
  clear hr ha hb hA hD
  by_cases hll : la = lb
  case neg =>
    have hz : r = false := by
      cases r with
      | false => rfl
      | true => have k := HF.out.1 rfl; have e1 := HNa.out; have e2 := HNb.out; rw [k, e2] at e1; omega
    have hll2 : ¬ (la : Int) = (lb : Int) := by omega
    subst hz
    clear hll HF HNa HNb HA HD
    go_enter Try.func15, Try.ntmps15
    go_wp2_with fail
    go_ret
    exact ⟨rfl, Below.refl _ _⟩
  subst hll
  go_enter Try.func15, Try.ntmps15
  go_wp2_with fail
  go_loopw [5] (fun s5 wr => ∃ (i : Nat), i ≤ la ∧ s5 = .int .i64 (i : Int) ∧ Hid (∀ j, j < i → atV a j = atV b j) ∧ Below w.heap.size w wr) (fun s5 _ => la - (intOf s5).toNat)
  case atStart => exact ⟨0, Nat.zero_le _, rfl, Lib.hid (fun j hj => by omega), Below.refl _ _⟩
  case round =>
    obtain ⟨i, hi, rfl, HJ, hR⟩ := hrel
    by_cases hlt : i < la
    · have hia : i < a.length := by rw [HNa.out]; exact hlt
      have hib : i < b.length := by rw [HNb.out]; exact hlt
      obtain ⟨bA, oA, rfl, hbA, hcA⟩ := HA.out (by omega)
      obtain ⟨bD, oD, rfl, hbD, hcD⟩ := HD.out (by omega)
      have X := (hcA i hia).below hR hbA
      have Y := (hcD i hib).below hR hbD
      obtain ⟨x, hx⟩ : ∃ x, atV a i = x := ⟨_, rfl⟩
      obtain ⟨y, hy⟩ : ∃ y, atV b i = y := ⟨_, rfl⟩
      rw [hx] at X
      rw [hy] at Y
      have z0 := fun y : Ext wr => y.cell X.c0; have z1 := fun y : Ext wr => y.cell X.c1
      have k0 := fun y : Ext wr => y.cell Y.c0; have k1 := fun y : Ext wr => y.cell Y.c1
      have hne := Ext.there wr
      have HX := Lib.hid hx; have HY := Lib.hid hy; have HIA := Lib.hid hia
      have hi1 : (i : Int) < (la : Int) := by omega
      clear hcA hcD hx hy hia hib X Y
      go_wp2_with fail
      obtain ⟨g, hg⟩ : ∃ g : Bool, g = true ↔ x = y := ⟨decide (x = y), by simp⟩
      have heq := fun W => eqVisit x y g hg W
      have HG := Lib.hid hg
      clear hg
      refine Ext.region (by kernel_rfl) (by kernel_rfl) ?_
      repeat (go_big_quiet_step (simp only [heq]))
      refine wpQuiet_nil ?_
      rintro _ ⟨xw, rfl⟩
      have hR2 := hR.trans (xw.h.mono hR.size)
      clear z0 z1 k0 k1 hne heq
      generalize xw.w = w3 at *
      clear xw
      cases g with
      | true =>
        have HJ2 : Hid (∀ j, j < i + 1 → atV a j = atV b j) := Lib.hid (fun j hj => by
          rcases Nat.lt_or_ge j i with h | h
          · exact HJ.out j h
          · rw [show j = i by omega, HX.out, HY.out]; exact HG.out.1 rfl)
        go_wp2_with fail
        go_roundw
        case rel => exact ⟨i + 1, by omega, by simp, HJ2, hR2⟩
        case measure => simp [intOf]; omega
      | false =>
        obtain rfl : r = false := by
          cases r with
          | false => rfl
          | true =>
            have k := HF.out.1 rfl
            have := HG.out.2 (by rw [← HX.out, ← HY.out, k])
            cases this
        go_wp2_with fail
        go_ret
        exact ⟨rfl, hR2⟩
    · obtain rfl : i = la := by omega
      obtain rfl : r = true := HF.out.2 (fo_ext (by rw [HNa.out, HNb.out]) (by rw [HNa.out]; exact HJ.out))
      go_wp2_with fail
      go_ret
      exact ⟨rfl, hR⟩
end Go.Proofs.Ytakbpgljbbkmkaa
