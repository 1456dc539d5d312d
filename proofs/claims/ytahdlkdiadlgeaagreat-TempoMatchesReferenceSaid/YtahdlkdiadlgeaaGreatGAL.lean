import Derived.Test.YtahdlkdiadlgeaaGreatGAI
import Derived.ChangeKeysEq
/- Triples compared; the walks of the reference's cut, has, repeats, endings, jump. -/
namespace Go.Proofs.YtahdlkdiadlgeaaGreat
open Go.RowKit

theorem eqFT {P : Program} {w : World} {d : Nat} {xs ys : Array Value} {f : Field} {fs : List Field} {u v : Value} {b r : Bool} (hn : f.name ≠ "_") (px : (part f.type xs f.offset).run P w = .ok u w) (py : (part f.type ys f.offset).run P w = .ok v w)
    (q : (Op.equalIn d f.type u v).run P w = .ok b w) (hr : (Op.eqFields d xs ys fs).run P w = .ok r w) : (Op.eqFields d xs ys (f :: fs)).run P w = .ok (b && r) w := by
  unfold Op.eqFields
  rw [if_pos hn]
  simp only [Sem.run_bind, px, py, q, Result.andThen_ok]
  cases b <;> simp [hr]
set_option maxRecDepth 100000 in
theorem eqCut (x y : Fo.T3) (g : Bool) (h : g = true ↔ x = y) (w : World) : (Go.Op.equalIn 10000 91 (.agg #[.int .i64 x.a, .int .i64 x.b, .int .i64 x.c]) (.agg #[.int .i64 y.a, .int .i64 y.b, .int .i64 y.c])).run Tryz.prog w = .ok g w := by
  have hg : g = ((x.a == y.a) && ((x.b == y.b) && ((x.c == y.c) && true))) := by
    rw [Bool.eq_iff_iff, h]
    cases x; cases y
    simp only [Fo.T3.mk.injEq, Bool.and_eq_true, beq_iff_eq, and_true]
  rw [hg, run_equalIn_struct w 9999 91 _ _ (by kernel_rfl) (by kernel_rfl)]
  have hm : (Tryz.prog.fieldsOf 91).toList.map (fun f => (f.name, f.type, f.offset)) = [("From", 3, 0), ("Until", 3, 1), ("Pass", 3, 2)] := by kernel_rfl
  generalize (Tryz.prog.fieldsOf 91).toList = L at hm ⊢
  rcases L with _ | ⟨f1, _ | ⟨f2, _ | ⟨f3, _ | ⟨f4, L⟩⟩⟩⟩ <;> simp only [List.map_cons, List.map_nil, List.cons.injEq, Prod.mk.injEq, and_true, reduceCtorEq, and_false] at hm
  obtain ⟨⟨n1, t1, o1⟩, ⟨n2, t2, o2⟩, n3, t3, o3⟩ := hm
  refine eqFT (by rw [n1]; decide) (u := .int .i64 x.a) (v := .int .i64 y.a) (by rw [t1, o1]; exact run_part_plain w (by kernel_rfl) rfl) (by rw [t1, o1]; exact run_part_plain w (by kernel_rfl) rfl) (by rw [t1]; exact run_equalIn_int w 9998 3 .i64 .i64 x.a y.a Tryz.underlying3) ?_
  refine eqFT (by rw [n2]; decide) (u := .int .i64 x.b) (v := .int .i64 y.b) (by rw [t2, o2]; exact run_part_plain w (by kernel_rfl) rfl) (by rw [t2, o2]; exact run_part_plain w (by kernel_rfl) rfl) (by rw [t2]; exact run_equalIn_int w 9998 3 .i64 .i64 x.b y.b Tryz.underlying3) ?_
  refine eqFT (by rw [n3]; decide) (u := .int .i64 x.c) (v := .int .i64 y.c) (by rw [t3, o3]; exact run_part_plain w (by kernel_rfl) rfl) (by rw [t3, o3]; exact run_part_plain w (by kernel_rfl) rfl) (by rw [t3]; exact run_equalIn_int w 9998 3 .i64 .i64 x.c y.c Tryz.underlying3) ?_
  rfl
set_option maxRecDepth 100000 in
theorem eqRepeat (x y : Fo.T3) (g : Bool) (h : g = true ↔ x = y) (w : World) : (Go.Op.equalIn 10000 50 (.agg #[.int .i64 x.a, .int .i64 x.b, .int .i64 x.c]) (.agg #[.int .i64 y.a, .int .i64 y.b, .int .i64 y.c])).run Tryz.prog w = .ok g w := by
  have hg : g = ((x.a == y.a) && ((x.b == y.b) && ((x.c == y.c) && true))) := by
    rw [Bool.eq_iff_iff, h]
    cases x; cases y
    simp only [Fo.T3.mk.injEq, Bool.and_eq_true, beq_iff_eq, and_true]
  rw [hg, run_equalIn_struct w 9999 50 _ _ (by kernel_rfl) (by kernel_rfl)]
  have hm : (Tryz.prog.fieldsOf 50).toList.map (fun f => (f.name, f.type, f.offset)) = [("From", 3, 0), ("Until", 3, 1), ("Times", 3, 2)] := by kernel_rfl
  generalize (Tryz.prog.fieldsOf 50).toList = L at hm ⊢
  rcases L with _ | ⟨f1, _ | ⟨f2, _ | ⟨f3, _ | ⟨f4, L⟩⟩⟩⟩ <;> simp only [List.map_cons, List.map_nil, List.cons.injEq, Prod.mk.injEq, and_true, reduceCtorEq, and_false] at hm
  obtain ⟨⟨n1, t1, o1⟩, ⟨n2, t2, o2⟩, n3, t3, o3⟩ := hm
  refine eqFT (by rw [n1]; decide) (u := .int .i64 x.a) (v := .int .i64 y.a) (by rw [t1, o1]; exact run_part_plain w (by kernel_rfl) rfl) (by rw [t1, o1]; exact run_part_plain w (by kernel_rfl) rfl) (by rw [t1]; exact run_equalIn_int w 9998 3 .i64 .i64 x.a y.a Tryz.underlying3) ?_
  refine eqFT (by rw [n2]; decide) (u := .int .i64 x.b) (v := .int .i64 y.b) (by rw [t2, o2]; exact run_part_plain w (by kernel_rfl) rfl) (by rw [t2, o2]; exact run_part_plain w (by kernel_rfl) rfl) (by rw [t2]; exact run_equalIn_int w 9998 3 .i64 .i64 x.b y.b Tryz.underlying3) ?_
  refine eqFT (by rw [n3]; decide) (u := .int .i64 x.c) (v := .int .i64 y.c) (by rw [t3, o3]; exact run_part_plain w (by kernel_rfl) rfl) (by rw [t3, o3]; exact run_part_plain w (by kernel_rfl) rfl) (by rw [t3]; exact run_equalIn_int w 9998 3 .i64 .i64 x.c y.c Tryz.underlying3) ?_
  rfl
set_option maxRecDepth 100000 in
theorem eqEnding (x y : Fo.T3) (g : Bool) (h : g = true ↔ x = y) (w : World) : (Go.Op.equalIn 10000 113 (.agg #[.int .i64 x.a, .int .i64 x.b, .int .i64 x.c]) (.agg #[.int .i64 y.a, .int .i64 y.b, .int .i64 y.c])).run Tryz.prog w = .ok g w := by
  have hg : g = ((x.a == y.a) && ((x.b == y.b) && ((x.c == y.c) && true))) := by
    rw [Bool.eq_iff_iff, h]
    cases x; cases y
    simp only [Fo.T3.mk.injEq, Bool.and_eq_true, beq_iff_eq, and_true]
  rw [hg, run_equalIn_struct w 9999 113 _ _ (by kernel_rfl) (by kernel_rfl)]
  have hm : (Tryz.prog.fieldsOf 113).toList.map (fun f => (f.name, f.type, f.offset)) = [("From", 3, 0), ("Until", 3, 1), ("Pass", 3, 2)] := by kernel_rfl
  generalize (Tryz.prog.fieldsOf 113).toList = L at hm ⊢
  rcases L with _ | ⟨f1, _ | ⟨f2, _ | ⟨f3, _ | ⟨f4, L⟩⟩⟩⟩ <;> simp only [List.map_cons, List.map_nil, List.cons.injEq, Prod.mk.injEq, and_true, reduceCtorEq, and_false] at hm
  obtain ⟨⟨n1, t1, o1⟩, ⟨n2, t2, o2⟩, n3, t3, o3⟩ := hm
  refine eqFT (by rw [n1]; decide) (u := .int .i64 x.a) (v := .int .i64 y.a) (by rw [t1, o1]; exact run_part_plain w (by kernel_rfl) rfl) (by rw [t1, o1]; exact run_part_plain w (by kernel_rfl) rfl) (by rw [t1]; exact run_equalIn_int w 9998 3 .i64 .i64 x.a y.a Tryz.underlying3) ?_
  refine eqFT (by rw [n2]; decide) (u := .int .i64 x.b) (v := .int .i64 y.b) (by rw [t2, o2]; exact run_part_plain w (by kernel_rfl) rfl) (by rw [t2, o2]; exact run_part_plain w (by kernel_rfl) rfl) (by rw [t2]; exact run_equalIn_int w 9998 3 .i64 .i64 x.b y.b Tryz.underlying3) ?_
  refine eqFT (by rw [n3]; decide) (u := .int .i64 x.c) (v := .int .i64 y.c) (by rw [t3, o3]; exact run_part_plain w (by kernel_rfl) rfl) (by rw [t3, o3]; exact run_part_plain w (by kernel_rfl) rfl) (by rw [t3]; exact run_equalIn_int w 9998 3 .i64 .i64 x.c y.c Tryz.underlying3) ?_
  rfl
set_option maxRecDepth 100000 in
theorem eqJump (x y : Fo.T3) (g : Bool) (h : g = true ↔ x = y) (w : World) : (Go.Op.equalIn 10000 31 (.agg #[.int .i64 x.a, .int .i64 x.b, .int .i64 x.c]) (.agg #[.int .i64 y.a, .int .i64 y.b, .int .i64 y.c])).run Tryz.prog w = .ok g w := by
  have hg : g = ((x.a == y.a) && ((x.b == y.b) && ((x.c == y.c) && true))) := by
    rw [Bool.eq_iff_iff, h]
    cases x; cases y
    simp only [Fo.T3.mk.injEq, Bool.and_eq_true, beq_iff_eq, and_true]
  rw [hg, run_equalIn_struct w 9999 31 _ _ (by kernel_rfl) (by kernel_rfl)]
  have hm : (Tryz.prog.fieldsOf 31).toList.map (fun f => (f.name, f.type, f.offset)) = [("At", 3, 0), ("To", 3, 1), ("Fine", 3, 2)] := by kernel_rfl
  generalize (Tryz.prog.fieldsOf 31).toList = L at hm ⊢
  rcases L with _ | ⟨f1, _ | ⟨f2, _ | ⟨f3, _ | ⟨f4, L⟩⟩⟩⟩ <;> simp only [List.map_cons, List.map_nil, List.cons.injEq, Prod.mk.injEq, and_true, reduceCtorEq, and_false] at hm
  obtain ⟨⟨n1, t1, o1⟩, ⟨n2, t2, o2⟩, n3, t3, o3⟩ := hm
  refine eqFT (by rw [n1]; decide) (u := .int .i64 x.a) (v := .int .i64 y.a) (by rw [t1, o1]; exact run_part_plain w (by kernel_rfl) rfl) (by rw [t1, o1]; exact run_part_plain w (by kernel_rfl) rfl) (by rw [t1]; exact run_equalIn_int w 9998 3 .i64 .i64 x.a y.a Tryz.underlying3) ?_
  refine eqFT (by rw [n2]; decide) (u := .int .i64 x.b) (v := .int .i64 y.b) (by rw [t2, o2]; exact run_part_plain w (by kernel_rfl) rfl) (by rw [t2, o2]; exact run_part_plain w (by kernel_rfl) rfl) (by rw [t2]; exact run_equalIn_int w 9998 3 .i64 .i64 x.b y.b Tryz.underlying3) ?_
  refine eqFT (by rw [n3]; decide) (u := .int .i64 x.c) (v := .int .i64 y.c) (by rw [t3, o3]; exact run_part_plain w (by kernel_rfl) rfl) (by rw [t3, o3]; exact run_part_plain w (by kernel_rfl) rfl) (by rw [t3]; exact run_equalIn_int w 9998 3 .i64 .i64 x.c y.c Tryz.underlying3) ?_
  rfl
set_option maxHeartbeats 1600000 in
theorem rcut_is (h : FH) (c : Fo.T3) (r : Bool) (hr : r = true ↔ Fo.okC h.n c) (w : World) :
    Calls Tryz.prog 76 #[.agg #[.int .i64 h.n, .slice h.R h.rl h.rc, .slice h.E h.el h.ec, .int .i64 h.ja, .int .i64 h.jt, .int .i64 h.jf, .slice h.C h.cl h.cc], .agg #[.int .i64 c.a, .int .i64 c.b, .int .i64 c.c]] w fun e w' => e = .returned (.bool r) ∧ Below w.heap.size w w' := by
  have B := ((Below.refl w.heap.size w).alloc (Nat.le_refl _) (.cells #[.int .i64 h.n, .slice h.R h.rl h.rc, .slice h.E h.el h.ec, .int .i64 h.ja, .int .i64 h.jt, .int .i64 h.jf, .slice h.C h.cl h.cc] 34)).alloc (by simp) (.cells #[.int .i64 c.a, .int .i64 c.b, .int .i64 c.c] 91)
  unfold Fo.okC at hr
  by_cases q0 : 0 ≤ c.a
  case neg =>
    obtain rfl : r = false := by
      cases r with
      | false => rfl
      | true => exact absurd (hr.1 rfl).1 q0
    clear hr
    go_enter Tryz.func76, Tryz.ntmps76
    go_wp2_with fail
    go_ret
    exact ⟨rfl, B⟩
  by_cases q1 : c.a < c.b
  case neg =>
    obtain rfl : r = false := by
      cases r with
      | false => rfl
      | true => exact absurd (hr.1 rfl).2.1 q1
    clear hr
    go_enter Tryz.func76, Tryz.ntmps76
    go_wp2_with fail
    go_ret
    exact ⟨rfl, B⟩
  by_cases q2 : c.b ≤ h.n
  case neg =>
    obtain rfl : r = false := by
      cases r with
      | false => rfl
      | true => exact absurd (hr.1 rfl).2.2.1 q2
    clear hr
    go_enter Tryz.func76, Tryz.ntmps76
    go_wp2_with fail
    go_ret
    exact ⟨rfl, B⟩
  by_cases q3 : 0 ≤ c.c
  case neg =>
    obtain rfl : r = false := by
      cases r with
      | false => rfl
      | true => exact absurd (hr.1 rfl).2.2.2.1 q3
    clear hr
    go_enter Tryz.func76, Tryz.ntmps76
    go_wp2_with fail
    go_ret
    exact ⟨rfl, B⟩
  by_cases q4 : c.c ≤ 20
  case neg =>
    obtain rfl : r = false := by
      cases r with
      | false => rfl
      | true => exact absurd (hr.1 rfl).2.2.2.2 q4
    clear hr
    go_enter Tryz.func76, Tryz.ntmps76
    go_wp2_with fail
    go_ret
    exact ⟨rfl, B⟩
  obtain rfl : r = true := hr.2 ⟨q0, q1, q2, q3, q4⟩
  clear hr
  go_enter Tryz.func76, Tryz.ntmps76
  go_wp2_with fail
  go_ret
  exact ⟨rfl, B⟩
namespace Fo
def cix : List T3 → T3 → Int
  | [], _ => -1
  | x :: l, c => if x = c then 0 else if cix l c < 0 then -1 else cix l c + 1
theorem cix_ge : ∀ (l : List T3) (c : T3), -1 ≤ cix l c
  | [], _ => Int.le_refl _
  | b :: l, c => by
    have := cix_ge l c
    unfold cix
    split
    · omega
    · split <;> omega
theorem cix_lt : ∀ (l : List T3) (c : T3), cix l c < l.length
  | [], _ => by unfold cix; simp
  | b :: l, c => by
    have := cix_lt l c
    unfold cix
    simp only [List.length_cons]
    split
    · omega
    · split <;> omega
theorem cix_at : ∀ {l : List T3} {c : T3}, 0 ≤ cix l c → at3 l (cix l c).toNat = c
  | [], c, h => by unfold cix at h; omega
  | b :: l, c, h => by
    unfold cix at h ⊢
    split
    · rename_i e; exact e
    · rename_i e
      rw [if_neg e] at h
      split
      · rename_i h1; rw [if_pos h1] at h; omega
      · rename_i h1
        have ih := cix_at (l := l) (c := c) (by omega)
        rw [show (cix l c + 1).toNat = (cix l c).toNat + 1 by omega]
        exact ih
theorem cix_neg : ∀ {l : List T3} {c : T3}, cix l c < 0 ↔ c ∉ l
  | [], c => by unfold cix; simp
  | b :: l, c => by
    have ih := cix_neg (l := l) (c := c)
    have hg := cix_ge l c
    unfold cix
    by_cases e : b = c
    · rw [if_pos e]; simp [e]
    · rw [if_neg e, List.mem_cons, not_or]
      by_cases h : cix l c < 0
      · rw [if_pos h]; exact ⟨fun _ => ⟨fun h2 => e h2.symm, ih.1 h⟩, fun _ => by omega⟩
      · rw [if_neg h]; exact ⟨fun h2 => by omega, fun h2 => absurd (ih.2 h2.2) h⟩
theorem cix_first : ∀ {l : List T3} {c : T3} {i : Nat}, i < l.length → at3 l i = c → (∀ k, k < i → at3 l k ≠ c) → cix l c = i
  | [], _, _, hi, _, _ => by simp at hi
  | b :: l, c, 0, _, h, _ => by unfold cix; rw [if_pos (show b = c from h)]; rfl
  | b :: l, c, i + 1, hi, h, hk => by
    have e : b ≠ c := hk 0 (by omega)
    have ih := cix_first (l := l) (c := c) (i := i) (by simpa using hi) h (fun k hk2 => hk (k + 1) (by omega))
    unfold cix
    rw [if_neg e, if_neg (by omega), ih]
    rfl
theorem drop_at {l : List T3} {i : Nat} (h : i < l.length) : l.drop i = at3 l i :: l.drop (i + 1) := by rw [List.drop_eq_getElem_cons h, at3_eq h]
end Fo
set_option maxHeartbeats 1600000 in
theorem rhas_is (l : List Fo.T3) (c : Fo.T3) (r : Int) (len cap : Nat) (A : Option Addr) (hr : Fo.cix l c = r) (hl : l.length = len) (hmax : len ≤ 1000000) (w : World) (hL : SlT w A l) :
    Calls Tryz.prog 77 #[.slice A len cap, .agg #[.int .i64 c.a, .int .i64 c.b, .int .i64 c.c]] w fun e w' => e = .returned (.int .i64 r) ∧ Below w.heap.size w w' := by
  have HF := Lib.hid hr; have HN := Lib.hid hl; have HL := Lib.hid hL
  have B := (Below.refl w.heap.size w).alloc (Nat.le_refl _) (.cells #[.int .i64 c.a, .int .i64 c.b, .int .i64 c.c] 91)
  have Q := TB.new w c 91
  clear hr hl hL
  go_enter Tryz.func77, Tryz.ntmps77
  go_wp2_with fail
  obtain ⟨W1, hW1⟩ : ∃ W1, w.alloc (.cells #[.int .i64 c.a, .int .i64 c.b, .int .i64 c.c] 91) = W1 := ⟨_, rfl⟩
  rw [hW1] at B Q ⊢
  clear hW1
  have HQ := Lib.hid Q; have HB := Lib.hid B
  clear Q B
  go_loopw [5] (fun s5 wr => ∃ (i : Nat), i ≤ len ∧ s5 = .int .i64 (i : Int) ∧ Hid (∀ j, j < i → Fo.at3 l j ≠ c) ∧ Below W1.heap.size W1 wr) (fun s5 _ => len - (intOf s5).toNat)
  case atStart => exact ⟨0, Nat.zero_le _, rfl, Lib.hid (fun j hj => by omega), Below.refl _ _⟩
  case round =>
    obtain ⟨i, hi, rfl, HJ, hR⟩ := hrel
    by_cases hlt : i < len
    · have hil : i < l.length := by rw [HN.out]; exact hlt
      obtain ⟨b, off, rfl, hb, hc⟩ := HL.out (by omega)
      have X := (hc i hil).below (HB.out.trans (hR.mono HB.out.size)) hb
      obtain ⟨x, hx⟩ : ∃ x, Fo.at3 l i = x := ⟨_, rfl⟩
      rw [hx] at X
      have Q := HQ.out.below hR
      have z0 := fun y : Ext wr => y.cell X.c0; have z1 := fun y : Ext wr => y.cell X.c1; have z2 := fun y : Ext wr => y.cell X.c2
      have k0 := fun y : Ext wr => y.cell Q.c0; have k1 := fun y : Ext wr => y.cell Q.c1; have k2 := fun y : Ext wr => y.cell Q.c2
      have hne := Ext.there wr
      have HX := Lib.hid hx; have HIL := Lib.hid hil
      have hi1 : (i : Int) < (len : Int) := by omega
      clear hc hx hil X Q
      go_wp2_with fail
      obtain ⟨g, hg⟩ : ∃ g : Bool, g = true ↔ x = c := ⟨decide (x = c), by simp⟩
      have heq := fun W => eqCut x c g hg W
      have HG := Lib.hid hg
      clear hg
      refine Ext.region (by kernel_rfl) (by kernel_rfl) ?_
      repeat (go_big_quiet_step (simp only [heq]))
      refine wpQuiet_nil ?_
      rintro _ ⟨xw, rfl⟩
      have hR2 := hR.trans (xw.h.mono hR.size)
      clear z0 z1 z2 k0 k1 k2 hne heq
      generalize xw.w = w3 at *
      clear xw
      cases g with
      | true =>
        obtain rfl : (i : Int) = r := by
          rw [← HF.out]
          exact (Fo.cix_first HIL.out (by rw [HX.out]; exact HG.out.1 rfl) HJ.out).symm
        go_wp2_with fail
        go_ret
        exact ⟨rfl, HB.out.trans (hR2.mono HB.out.size)⟩
      | false =>
        have HJ2 : Hid (∀ j, j < i + 1 → Fo.at3 l j ≠ c) := Lib.hid (fun j hj => by
          rcases Nat.lt_or_ge j i with h | h
          · exact HJ.out j h
          · rw [show j = i by omega, HX.out]; exact fun e => by have := HG.out.2 e; cases this)
        go_wp2_with fail
        go_roundw
        case rel => exact ⟨i + 1, by omega, by simp, HJ2, hR2⟩
        case measure => simp [intOf]; omega
    · obtain rfl : i = len := by omega
      obtain rfl : r = -1 := by
        rw [← HF.out]
        by_cases h0 : 0 ≤ Fo.cix l c
        · have h1 := Fo.cix_at h0
          have h2 := Fo.cix_lt l c
          exact absurd h1 (HJ.out _ (by rw [← HN.out]; omega))
        · have := Fo.cix_ge l c; omega
      go_wp2_with fail
      go_ret
      exact ⟨rfl, HB.out.trans (hR.mono HB.out.size)⟩
set_option maxHeartbeats 3200000 in
theorem rrepeats_is (l : List Fo.T3) (bars : Int) (f : Bool) (len cap : Nat) (A : Option Addr) (hf : f = true ↔ l.length ≤ 100 ∧ Fo.chR bars 0 l) (hl : l.length = len) (w : World) (hL : SlT w A l) :
    Calls Tryz.prog 73 #[.slice A len cap, .int .i64 bars] w fun e w' => e = .returned (.bool f) ∧ Below w.heap.size w w' := by
  by_cases h100 : len ≤ 100
  case neg =>
    obtain rfl : f = false := by
      cases f with
      | false => rfl
      | true => exact absurd (hf.1 rfl).1 (by omega)
    have h1 : (len : Int) > 100 := by omega
    clear hf hl hL h100
    go_enter Tryz.func73, Tryz.ntmps73
    go_wp2_with fail
    go_ret
    exact ⟨rfl, Below.refl _ _⟩
  have HF : Hid (f = true ↔ Fo.chR bars 0 l) := Lib.hid (hf.trans ⟨fun h => h.2, fun h => ⟨by omega, h⟩⟩)
  have HN := Lib.hid hl; have HL := Lib.hid hL
  have h1 : ¬ (len : Int) > 100 := by omega
  clear hf hl hL
  go_enter Tryz.func73, Tryz.ntmps73
  go_wp2_with fail
  go_loopw [5, 6] (fun s5 s6 wr => ∃ (i : Nat) (last : Int), i ≤ len ∧ s6 = .int .i64 (i : Int) ∧ s5 = .int .i64 last ∧ Hid (Fo.chR bars 0 l ↔ Fo.chR bars last (l.drop i)) ∧ Below w.heap.size w wr) (fun _ s6 _ => len - (intOf s6).toNat)
  case atStart => exact ⟨0, 0, Nat.zero_le _, rfl, rfl, Lib.hid (by rw [List.drop_zero]), Below.refl _ _⟩
  case round =>
    obtain ⟨i, last, hi, rfl, rfl, HJ, hR⟩ := hrel
    by_cases hlt : i < len
    · have hil : i < l.length := by rw [HN.out]; exact hlt
      obtain ⟨b, off, rfl, hb, hc⟩ := HL.out (by omega)
      have X := (hc i hil).below hR hb
      obtain ⟨x, hx⟩ : ∃ x, Fo.at3 l i = x := ⟨_, rfl⟩
      rw [hx] at X
      have hd := Fo.drop_at hil
      rw [hx] at hd
      replace HJ : Hid (Fo.chR bars 0 l ↔ (last ≤ x.a ∧ x.a < x.b ∧ x.b ≤ bars ∧ 1 ≤ x.c ∧ x.c ≤ 9) ∧ Fo.chR bars x.b (l.drop (i + 1))) := Lib.hid (by have h := HJ.out; rw [hd] at h; exact h)
      have z0 := fun y : Ext wr => y.cell X.c0; have z1 := fun y : Ext wr => y.cell X.c1; have z2 := fun y : Ext wr => y.cell X.c2
      have hne := Ext.there wr
      have hi1 : (i : Int) < (len : Int) := by omega
      have HX2 := Lib.hid X; have HB := Lib.hid hb
      clear hc hx hil X hd hb
      by_cases q0 : x.a < last
      · obtain rfl : f = false := by
          cases f with
          | false => rfl
          | true => have h := HJ.out.1 (HF.out.1 rfl); have := h.1; omega
        have d0 : decide (x.a < last) = true := decide_eq_true q0
        go_wp2_with fail
        refine Ext.region (by kernel_rfl) (by kernel_rfl) ?_
        repeat (go_big_quiet_step (fail))
        refine wpQuiet_nil ?_
        rintro _ ⟨xw, rfl⟩
        have hR2 := hR.trans (xw.h.mono hR.size)
        have X := HX2.out.below xw.h (Nat.lt_of_lt_of_le HB.out hR.size)
        clear z0 z1 z2 hne
        generalize xw.w = w3 at *
        clear xw
        clear X
        go_wp2_with fail
        go_ret
        exact ⟨rfl, hR2⟩
      by_cases q1 : x.b ≤ x.a
      · obtain rfl : f = false := by
          cases f with
          | false => rfl
          | true => have h := HJ.out.1 (HF.out.1 rfl); have := h.1; omega
        have d0 : decide (x.a < last) = false := decide_eq_false q0
        have d1 : decide (x.b ≤ x.a) = true := decide_eq_true q1
        go_wp2_with fail
        refine Ext.region (by kernel_rfl) (by kernel_rfl) ?_
        repeat (go_big_quiet_step (fail))
        refine wpQuiet_nil ?_
        rintro _ ⟨xw, rfl⟩
        have hR2 := hR.trans (xw.h.mono hR.size)
        have X := HX2.out.below xw.h (Nat.lt_of_lt_of_le HB.out hR.size)
        clear z0 z1 z2 hne
        generalize xw.w = w3 at *
        clear xw
        clear X
        go_wp2_with fail
        go_ret
        exact ⟨rfl, hR2⟩
      by_cases q2 : bars < x.b
      · obtain rfl : f = false := by
          cases f with
          | false => rfl
          | true => have h := HJ.out.1 (HF.out.1 rfl); have := h.1; omega
        have d0 : decide (x.a < last) = false := decide_eq_false q0
        have d1 : decide (x.b ≤ x.a) = false := decide_eq_false q1
        have d2 : decide (bars < x.b) = true := decide_eq_true q2
        go_wp2_with fail
        refine Ext.region (by kernel_rfl) (by kernel_rfl) ?_
        repeat (go_big_quiet_step (fail))
        refine wpQuiet_nil ?_
        rintro _ ⟨xw, rfl⟩
        have hR2 := hR.trans (xw.h.mono hR.size)
        have X := HX2.out.below xw.h (Nat.lt_of_lt_of_le HB.out hR.size)
        clear z0 z1 z2 hne
        generalize xw.w = w3 at *
        clear xw
        clear X
        go_wp2_with fail
        go_ret
        exact ⟨rfl, hR2⟩
      by_cases q3 : x.c < 1
      · obtain rfl : f = false := by
          cases f with
          | false => rfl
          | true => have h := HJ.out.1 (HF.out.1 rfl); have := h.1; omega
        have d0 : decide (x.a < last) = false := decide_eq_false q0
        have d1 : decide (x.b ≤ x.a) = false := decide_eq_false q1
        have d2 : decide (bars < x.b) = false := decide_eq_false q2
        have d3 : decide (x.c < 1) = true := decide_eq_true q3
        go_wp2_with fail
        refine Ext.region (by kernel_rfl) (by kernel_rfl) ?_
        repeat (go_big_quiet_step (fail))
        refine wpQuiet_nil ?_
        rintro _ ⟨xw, rfl⟩
        have hR2 := hR.trans (xw.h.mono hR.size)
        have X := HX2.out.below xw.h (Nat.lt_of_lt_of_le HB.out hR.size)
        clear z0 z1 z2 hne
        generalize xw.w = w3 at *
        clear xw
        clear X
        go_wp2_with fail
        go_ret
        exact ⟨rfl, hR2⟩
      by_cases q4 : 9 < x.c
      · obtain rfl : f = false := by
          cases f with
          | false => rfl
          | true => have h := HJ.out.1 (HF.out.1 rfl); have := h.1; omega
        have d0 : decide (x.a < last) = false := decide_eq_false q0
        have d1 : decide (x.b ≤ x.a) = false := decide_eq_false q1
        have d2 : decide (bars < x.b) = false := decide_eq_false q2
        have d3 : decide (x.c < 1) = false := decide_eq_false q3
        have d4 : decide (9 < x.c) = true := decide_eq_true q4
        go_wp2_with fail
        refine Ext.region (by kernel_rfl) (by kernel_rfl) ?_
        repeat (go_big_quiet_step (fail))
        refine wpQuiet_nil ?_
        rintro _ ⟨xw, rfl⟩
        have hR2 := hR.trans (xw.h.mono hR.size)
        have X := HX2.out.below xw.h (Nat.lt_of_lt_of_le HB.out hR.size)
        clear z0 z1 z2 hne
        generalize xw.w = w3 at *
        clear xw
        clear X
        go_wp2_with fail
        go_ret
        exact ⟨rfl, hR2⟩
      have HJ2 : Hid (Fo.chR bars 0 l ↔ Fo.chR bars x.b (l.drop (i + 1))) := Lib.hid (HJ.out.trans ⟨fun h => h.2, fun h => ⟨by omega, h⟩⟩)
      have d0 : decide (x.a < last) = false := decide_eq_false q0
      have d1 : decide (x.b ≤ x.a) = false := decide_eq_false q1
      have d2 : decide (bars < x.b) = false := decide_eq_false q2
      have d3 : decide (x.c < 1) = false := decide_eq_false q3
      have d4 : decide (9 < x.c) = false := decide_eq_false q4
      go_wp2_with fail
      refine Ext.region (by kernel_rfl) (by kernel_rfl) ?_
      repeat (go_big_quiet_step (fail))
      refine wpQuiet_nil ?_
      rintro _ ⟨xw, rfl⟩
      have hR2 := hR.trans (xw.h.mono hR.size)
      have X := HX2.out.below xw.h (Nat.lt_of_lt_of_le HB.out hR.size)
      clear z0 z1 z2 hne
      generalize xw.w = w3 at *
      clear xw
      have c1 := X.c1
      clear X
      go_wp2_with fail
      go_roundw
      case rel => exact ⟨i + 1, x.b, by omega, by simp, rfl, HJ2, hR2⟩
      case measure => simp [intOf]; omega
    · obtain rfl : i = len := by omega
      obtain rfl : f = true := HF.out.2 (HJ.out.2 (by rw [List.drop_of_length_le (by rw [HN.out]; exact Nat.le_refl _)]; exact trivial))
      go_wp2_with fail
      go_ret
      exact ⟨rfl, hR⟩
end Go.Proofs.YtahdlkdiadlgeaaGreat

/- The walks of the reference's endings, jump. -/
namespace Go.Proofs.YtahdlkdiadlgeaaGreat
open Go.RowKit

set_option maxHeartbeats 3200000 in
theorem rendings_is (h : FH) (f : Fo.Fm) (r : Bool) (hr : r = true ↔ f.es.length ≤ 100 ∧ Fo.chE f.rs 0 f.es) (hmax : h.rl ≤ 100) (w : World) (hS : SlF w h f) :
    Calls Tryz.prog 74 #[.agg #[.int .i64 h.n, .slice h.R h.rl h.rc, .slice h.E h.el h.ec, .int .i64 h.ja, .int .i64 h.jt, .int .i64 h.jf, .slice h.C h.cl h.cc]] w fun e w' => e = .returned (.bool r) ∧ Below w.heap.size w w' := by
  have B := (Below.refl w.heap.size w).alloc (Nat.le_refl _) (.cells #[.int .i64 h.n, .slice h.R h.rl h.rc, .slice h.E h.el h.ec, .int .i64 h.ja, .int .i64 h.jt, .int .i64 h.jf, .slice h.C h.cl h.cc] 34)
  have Q := FB.new w h
  by_cases h100 : h.el ≤ 100
  case neg =>
    obtain rfl : r = false := by
      cases r with
      | false => rfl
      | true => exact absurd (hr.1 rfl).1 (by rw [hS.el]; exact h100)
    have h1 : (h.el : Int) > 100 := by omega
    clear hr hS h100 Q
    go_enter Tryz.func74, Tryz.ntmps74
    go_wp2_with fail
    go_ret
    exact ⟨rfl, B⟩
  have HF : Hid (r = true ↔ Fo.chE f.rs 0 f.es) := Lib.hid (hr.trans ⟨fun h => h.2, fun k => ⟨by rw [hS.el]; exact h100, k⟩⟩)
  have HN := Lib.hid hS.el; have HL := Lib.hid hS.se; have HRL := Lib.hid hS.rl; have HRS := Lib.hid hS.sr; have HMX := Lib.hid hmax
  have h1 : ¬ (h.el : Int) > 100 := by omega
  have h2 : (h.el : Int) ≤ 100 := by omega
  clear hr hS hmax
  go_enter Tryz.func74, Tryz.ntmps74
  go_wp2_with fail
  obtain ⟨W1, hW1⟩ : ∃ W1, w.alloc (.cells #[.int .i64 h.n, .slice h.R h.rl h.rc, .slice h.E h.el h.ec, .int .i64 h.ja, .int .i64 h.jt, .int .i64 h.jf, .slice h.C h.cl h.cc] 34) = W1 := ⟨_, rfl⟩
  rw [hW1] at B Q ⊢
  clear hW1
  have HQ := Lib.hid Q; have HB := Lib.hid B
  clear Q B
  go_loopw [3, 4] (fun s3 s4 wr => ∃ (i : Nat) (last : Int), i ≤ h.el ∧ s4 = .int .i64 (i : Int) ∧ s3 = .int .i64 last ∧ Hid (Fo.chE f.rs 0 f.es ↔ Fo.chE f.rs last (f.es.drop i)) ∧ Below W1.heap.size W1 wr) (fun _ s4 _ => h.el - (intOf s4).toNat)
  case atStart => exact ⟨0, 0, Nat.zero_le _, rfl, rfl, Lib.hid (by rw [List.drop_zero]), Below.refl _ _⟩
  case round =>
    obtain ⟨i, last, hi, rfl, rfl, HJ, hR⟩ := hrel
    have Q := HQ.out.below hR
    have q_1 := Q.c1; have q_2 := Q.c2; have ql := Q.lt
    by_cases hlt : i < h.el
    · have hil : i < f.es.length := by rw [HN.out]; exact hlt
      obtain ⟨b, off, hRe, hb, hc⟩ := HL.out (by omega)
      have X := (hc i hil).below (HB.out.trans (hR.mono HB.out.size)) hb
      obtain ⟨x, hx⟩ : ∃ x, Fo.at3 f.es i = x := ⟨_, rfl⟩
      rw [hx] at X
      have hd := Fo.drop_at hil
      rw [hx] at hd
      replace HJ : Hid (Fo.chE f.rs 0 f.es ↔ (last ≤ x.a ∧ x.a < x.b ∧ Fo.ins f.rs x.a x.b ∧ 1 ≤ x.c ∧ x.c ≤ 9) ∧ Fo.chE f.rs x.b (f.es.drop (i + 1))) := Lib.hid (by have h := HJ.out; rw [hd] at h; exact h)
      obtain ⟨c0, c1, c2⟩ := X
      have hi1 : (i : Int) < (h.el : Int) := by omega
      have hR2 := hR.alloc hR.size (.cells #[.int .i64 x.a, .int .i64 x.b, .int .i64 x.c] 113)
      rw [hRe] at q_2
      clear hc hx hil hd hb hRe
      by_cases q0 : x.a < last
      case pos =>
        obtain rfl : r = false := by
          cases r with
          | false => rfl
          | true => have h := (HJ.out.1 (HF.out.1 rfl)).1; omega
        go_wp2_with fail
        go_ret
        exact ⟨rfl, HB.out.trans (hR2.mono HB.out.size)⟩
      by_cases q1 : x.b ≤ x.a
      case pos =>
        obtain rfl : r = false := by
          cases r with
          | false => rfl
          | true => have h := (HJ.out.1 (HF.out.1 rfl)).1; omega
        go_wp2_with fail
        go_ret
        exact ⟨rfl, HB.out.trans (hR2.mono HB.out.size)⟩
      by_cases q2 : Fo.ins f.rs x.a x.b
      case neg =>
        have HGI : Hid (¬ Fo.ins f.rs x.a x.b) := Lib.hid q2
        obtain rfl : r = false := by
          cases r with
          | false => rfl
          | true => have h := (HJ.out.1 (HF.out.1 rfl)).1; exact absurd h.2.2.1 q2
        go_wp2_with fail
        refine (rinside_is f.rs x.a x.b false _ _ _ ⟨(fun h => by cases h), fun h => absurd h HGI.out⟩ HRL.out (by have := HMX.out; omega) _ ((HRS.out.below HB.out).below hR2)).mono ?_; rintro e w3 ⟨rfl, rfl⟩
        go_wp2_with fail
        go_ret
        exact ⟨rfl, HB.out.trans (hR2.mono HB.out.size)⟩
      have HGI : Hid (Fo.ins f.rs x.a x.b) := Lib.hid q2
      clear q2
      by_cases q3 : x.c < 1
      case pos =>
        obtain rfl : r = false := by
          cases r with
          | false => rfl
          | true => have h := (HJ.out.1 (HF.out.1 rfl)).1; omega
        go_wp2_with fail
        refine (rinside_is f.rs x.a x.b true _ _ _ ⟨fun _ => HGI.out, fun _ => rfl⟩ HRL.out (by have := HMX.out; omega) _ ((HRS.out.below HB.out).below hR2)).mono ?_; rintro e w3 ⟨rfl, rfl⟩
        go_wp2_with fail
        go_ret
        exact ⟨rfl, HB.out.trans (hR2.mono HB.out.size)⟩
      by_cases q4 : 9 < x.c
      case pos =>
        obtain rfl : r = false := by
          cases r with
          | false => rfl
          | true => have h := (HJ.out.1 (HF.out.1 rfl)).1; omega
        go_wp2_with fail
        refine (rinside_is f.rs x.a x.b true _ _ _ ⟨fun _ => HGI.out, fun _ => rfl⟩ HRL.out (by have := HMX.out; omega) _ ((HRS.out.below HB.out).below hR2)).mono ?_; rintro e w3 ⟨rfl, rfl⟩
        go_wp2_with fail
        go_ret
        exact ⟨rfl, HB.out.trans (hR2.mono HB.out.size)⟩
      have HJ2 : Hid (Fo.chE f.rs 0 f.es ↔ Fo.chE f.rs x.b (f.es.drop (i + 1))) := Lib.hid (HJ.out.trans ⟨fun h => h.2, fun h => ⟨⟨by omega, by omega, HGI.out, by omega, by omega⟩, h⟩⟩)
      go_wp2_with fail
      refine (rinside_is f.rs x.a x.b true _ _ _ ⟨fun _ => HGI.out, fun _ => rfl⟩ HRL.out (by have := HMX.out; omega) _ ((HRS.out.below HB.out).below hR2)).mono ?_; rintro e w3 ⟨rfl, rfl⟩
      go_wp2_with fail
      go_roundw
      case rel => exact ⟨i + 1, x.b, by omega, by simp, rfl, HJ2, hR2⟩
      case measure => simp [intOf]; omega
    · obtain rfl : i = h.el := by omega
      obtain rfl : r = true := HF.out.2 (HJ.out.2 (by rw [List.drop_of_length_le (by rw [HN.out]; exact Nat.le_refl _)]; exact trivial))
      go_wp2_with fail
      go_ret
      exact ⟨rfl, HB.out.trans (hR.mono HB.out.size)⟩
/-- A jump is none, or as it should be. -/
def okJH (h : FH) (rs : List Fo.T3) : Prop := (h.ja = 0 ∧ h.jt = 0 ∧ h.jf = 0) ∨ ((1 ≤ h.ja ∧ h.ja ≤ h.n ∧ 0 ≤ h.jt ∧ h.jt < h.ja ∧ h.jt < h.jf ∧ h.jf ≤ h.n) ∧ ¬ Fo.wi rs h.ja ∧ ¬ Fo.wi rs h.jt ∧ ¬ Fo.wi rs h.jf)
set_option maxHeartbeats 3200000 in
theorem rjump_is (h : FH) (f : Fo.Fm) (r : Bool) (hr : r = true ↔ okJH h f.rs) (hmax : h.rl ≤ 100) (w : World) (hS : SlF w h f) :
    Calls Tryz.prog 75 #[.agg #[.int .i64 h.n, .slice h.R h.rl h.rc, .slice h.E h.el h.ec, .int .i64 h.ja, .int .i64 h.jt, .int .i64 h.jf, .slice h.C h.cl h.cc]] w fun e w' => e = .returned (.bool r) ∧ Below w.heap.size w w' := by
  have B := (Below.refl w.heap.size w).alloc (Nat.le_refl _) (.cells #[.int .i64 h.n, .slice h.R h.rl h.rc, .slice h.E h.el h.ec, .int .i64 h.ja, .int .i64 h.jt, .int .i64 h.jf, .slice h.C h.cl h.cc] 34)
  have BJ := B.alloc (by simp) (.cells #[.int .i64 h.ja, .int .i64 h.jt, .int .i64 h.jf] 31)
  have hL := (hS.sr.alloc (.cells #[.int .i64 h.n, .slice h.R h.rl h.rc, .slice h.E h.el h.ec, .int .i64 h.ja, .int .i64 h.jt, .int .i64 h.jf, .slice h.C h.cl h.cc] 34)).alloc (.cells #[.int .i64 h.ja, .int .i64 h.jt, .int .i64 h.jf] 31)
  have hl := hS.rl
  have heq := fun W => eqJump ⟨h.ja, h.jt, h.jf⟩ ⟨0, 0, 0⟩ (decide ((⟨h.ja, h.jt, h.jf⟩ : Fo.T3) = ⟨0, 0, 0⟩)) (by simp) W
  dsimp only at heq
  by_cases h0 : (⟨h.ja, h.jt, h.jf⟩ : Fo.T3) = ⟨0, 0, 0⟩
  case pos =>
    obtain ⟨e1, e2, e3⟩ : h.ja = 0 ∧ h.jt = 0 ∧ h.jf = 0 := by simpa using h0
    obtain rfl : r = true := hr.2 (.inl ⟨e1, e2, e3⟩)
    have hd := decide_eq_true h0
    rw [hd] at heq
    clear hr hS hL hl h0 e1 e2 e3 hd
    go_enter Tryz.func75, Tryz.ntmps75
    go_wp2_with (first | (simp only [heq]) | fail)
    go_ret
    exact ⟨rfl, BJ⟩
  have hd := decide_eq_false h0
  rw [hd] at heq
  have hr2 : r = true ↔ ((1 ≤ h.ja ∧ h.ja ≤ h.n ∧ 0 ≤ h.jt ∧ h.jt < h.ja ∧ h.jt < h.jf ∧ h.jf ≤ h.n) ∧ ¬ Fo.wi f.rs h.ja ∧ ¬ Fo.wi f.rs h.jt ∧ ¬ Fo.wi f.rs h.jf) := hr.trans ⟨fun k => k.elim (fun k => absurd (by rw [k.1, k.2.1, k.2.2]) h0) id, .inr⟩
  have HR := Lib.hid hr2; have HLL := Lib.hid hL; have HLE := Lib.hid hl; have HMX := Lib.hid hmax
  clear hr hr2 hS hL hl h0 hd hmax B
  by_cases q0 : h.ja < 1
  case pos =>
    obtain rfl : r = false := by
      cases r with
      | false => rfl
      | true => have h := (HR.out.1 rfl).1; omega
    go_enter Tryz.func75, Tryz.ntmps75
    go_wp2_with (first | (simp only [heq]) | fail)
    go_ret
    exact ⟨rfl, BJ⟩
  by_cases q1 : h.n < h.ja
  case pos =>
    obtain rfl : r = false := by
      cases r with
      | false => rfl
      | true => have h := (HR.out.1 rfl).1; omega
    go_enter Tryz.func75, Tryz.ntmps75
    go_wp2_with (first | (simp only [heq]) | fail)
    go_ret
    exact ⟨rfl, BJ⟩
  by_cases q2 : h.jt < 0
  case pos =>
    obtain rfl : r = false := by
      cases r with
      | false => rfl
      | true => have h := (HR.out.1 rfl).1; omega
    go_enter Tryz.func75, Tryz.ntmps75
    go_wp2_with (first | (simp only [heq]) | fail)
    go_ret
    exact ⟨rfl, BJ⟩
  by_cases q3 : h.ja ≤ h.jt
  case pos =>
    obtain rfl : r = false := by
      cases r with
      | false => rfl
      | true => have h := (HR.out.1 rfl).1; omega
    go_enter Tryz.func75, Tryz.ntmps75
    go_wp2_with (first | (simp only [heq]) | fail)
    go_ret
    exact ⟨rfl, BJ⟩
  by_cases q4 : h.jf ≤ h.jt
  case pos =>
    obtain rfl : r = false := by
      cases r with
      | false => rfl
      | true => have h := (HR.out.1 rfl).1; omega
    go_enter Tryz.func75, Tryz.ntmps75
    go_wp2_with (first | (simp only [heq]) | fail)
    go_ret
    exact ⟨rfl, BJ⟩
  by_cases q5 : h.n < h.jf
  case pos =>
    obtain rfl : r = false := by
      cases r with
      | false => rfl
      | true => have h := (HR.out.1 rfl).1; omega
    go_enter Tryz.func75, Tryz.ntmps75
    go_wp2_with (first | (simp only [heq]) | fail)
    go_ret
    exact ⟨rfl, BJ⟩
  have HQ := Lib.hid (show 1 ≤ h.ja ∧ h.ja ≤ h.n ∧ 0 ≤ h.jt ∧ h.jt < h.ja ∧ h.jt < h.jf ∧ h.jf ≤ h.n by omega)
  by_cases p0 : Fo.wi f.rs h.ja
  case pos =>
    obtain rfl : r = false := by
      cases r with
      | false => rfl
      | true => exact absurd p0 (HR.out.1 rfl).2.1
    have HW0 : Hid (Fo.wi f.rs h.ja) := Lib.hid p0
    clear p0
    go_enter Tryz.func75, Tryz.ntmps75
    go_wp2_with (first | (simp only [heq]) | fail)
    refine (rwithin_is f.rs h.ja true _ _ _ ⟨fun _ => HW0.out, fun _ => rfl⟩ HLE.out (by have := HMX.out; omega) _ HLL.out).mono ?_; rintro e w0 ⟨rfl, rfl⟩
    go_wp2_with fail
    go_ret
    exact ⟨rfl, BJ⟩
  have HW0 : Hid (¬ Fo.wi f.rs h.ja) := Lib.hid p0
  by_cases p1 : Fo.wi f.rs h.jt
  case pos =>
    obtain rfl : r = false := by
      cases r with
      | false => rfl
      | true => exact absurd p1 (HR.out.1 rfl).2.2.1
    have HW1 : Hid (Fo.wi f.rs h.jt) := Lib.hid p1
    clear p1
    go_enter Tryz.func75, Tryz.ntmps75
    go_wp2_with (first | (simp only [heq]) | fail)
    refine (rwithin_is f.rs h.ja false _ _ _ ⟨(fun h => by cases h), fun h => absurd h HW0.out⟩ HLE.out (by have := HMX.out; omega) _ HLL.out).mono ?_; rintro e w0 ⟨rfl, rfl⟩
    go_wp2_with fail
    refine (rwithin_is f.rs h.jt true _ _ _ ⟨fun _ => HW1.out, fun _ => rfl⟩ HLE.out (by have := HMX.out; omega) _ HLL.out).mono ?_; rintro e w1 ⟨rfl, rfl⟩
    go_wp2_with fail
    go_ret
    exact ⟨rfl, BJ⟩
  have HW1 : Hid (¬ Fo.wi f.rs h.jt) := Lib.hid p1
  by_cases p2 : Fo.wi f.rs h.jf
  case pos =>
    obtain rfl : r = false := by
      cases r with
      | false => rfl
      | true => exact absurd p2 (HR.out.1 rfl).2.2.2
    have HW2 : Hid (Fo.wi f.rs h.jf) := Lib.hid p2
    clear p2
    go_enter Tryz.func75, Tryz.ntmps75
    go_wp2_with (first | (simp only [heq]) | fail)
    refine (rwithin_is f.rs h.ja false _ _ _ ⟨(fun h => by cases h), fun h => absurd h HW0.out⟩ HLE.out (by have := HMX.out; omega) _ HLL.out).mono ?_; rintro e w0 ⟨rfl, rfl⟩
    go_wp2_with fail
    refine (rwithin_is f.rs h.jt false _ _ _ ⟨(fun h => by cases h), fun h => absurd h HW1.out⟩ HLE.out (by have := HMX.out; omega) _ HLL.out).mono ?_; rintro e w1 ⟨rfl, rfl⟩
    go_wp2_with fail
    refine (rwithin_is f.rs h.jf true _ _ _ ⟨fun _ => HW2.out, fun _ => rfl⟩ HLE.out (by have := HMX.out; omega) _ HLL.out).mono ?_; rintro e w2 ⟨rfl, rfl⟩
    go_wp2_with fail
    go_ret
    exact ⟨rfl, BJ⟩
  have HW2 : Hid (¬ Fo.wi f.rs h.jf) := Lib.hid p2
  obtain rfl : r = true := HR.out.2 ⟨HQ.out, p0, p1, p2⟩
  clear p0 p1 p2
  go_enter Tryz.func75, Tryz.ntmps75
  go_wp2_with (first | (simp only [heq]) | fail)
  refine (rwithin_is f.rs h.ja false _ _ _ ⟨(fun h => by cases h), fun h => absurd h HW0.out⟩ HLE.out (by have := HMX.out; omega) _ HLL.out).mono ?_; rintro e w0 ⟨rfl, rfl⟩
  go_wp2_with fail
  refine (rwithin_is f.rs h.jt false _ _ _ ⟨(fun h => by cases h), fun h => absurd h HW1.out⟩ HLE.out (by have := HMX.out; omega) _ HLL.out).mono ?_; rintro e w1 ⟨rfl, rfl⟩
  go_wp2_with fail
  refine (rwithin_is f.rs h.jf false _ _ _ ⟨(fun h => by cases h), fun h => absurd h HW2.out⟩ HLE.out (by have := HMX.out; omega) _ HLL.out).mono ?_; rintro e w2 ⟨rfl, rfl⟩
  go_wp2_with fail
  go_ret
  exact ⟨rfl, BJ⟩
end Go.Proofs.YtahdlkdiadlgeaaGreat

/- Visits compared; the walks of the reference's Leaves, Few, SameVisits. -/
namespace Go.Proofs.YtahdlkdiadlgeaaGreat
open Go.RowKit

set_option maxRecDepth 100000 in
theorem eqVisit (x y : Fo.V2) (g : Bool) (h : g = true ↔ x = y) (w : World) : (Go.Op.equalIn 10000 74 (.agg #[.int .i64 x.b, .int .i64 x.p]) (.agg #[.int .i64 y.b, .int .i64 y.p])).run Tryz.prog w = .ok g w := by
  have hg : g = ((x.b == y.b) && ((x.p == y.p) && true)) := by
    rw [Bool.eq_iff_iff, h]
    cases x; cases y
    simp only [Fo.V2.mk.injEq, Bool.and_eq_true, beq_iff_eq, and_true]
  rw [hg, run_equalIn_struct w 9999 74 _ _ (by kernel_rfl) (by kernel_rfl)]
  have hm : (Tryz.prog.fieldsOf 74).toList.map (fun f => (f.name, f.type, f.offset)) = [("Bar", 3, 0), ("Pass", 3, 1)] := by kernel_rfl
  generalize (Tryz.prog.fieldsOf 74).toList = L at hm ⊢
  rcases L with _ | ⟨f1, _ | ⟨f2, _ | ⟨f3, L⟩⟩⟩ <;> simp only [List.map_cons, List.map_nil, List.cons.injEq, Prod.mk.injEq, and_true, reduceCtorEq, and_false] at hm
  obtain ⟨⟨n1, t1, o1⟩, n2, t2, o2⟩ := hm
  refine eqFT (by rw [n1]; decide) (u := .int .i64 x.b) (v := .int .i64 y.b) (by rw [t1, o1]; exact run_part_plain w (by kernel_rfl) rfl) (by rw [t1, o1]; exact run_part_plain w (by kernel_rfl) rfl) (by rw [t1]; exact run_equalIn_int w 9998 3 .i64 .i64 x.b y.b Tryz.underlying3) ?_
  refine eqFT (by rw [n2]; decide) (u := .int .i64 x.p) (v := .int .i64 y.p) (by rw [t2, o2]; exact run_part_plain w (by kernel_rfl) rfl) (by rw [t2, o2]; exact run_part_plain w (by kernel_rfl) rfl) (by rw [t2]; exact run_equalIn_int w 9998 3 .i64 .i64 x.p y.p Tryz.underlying3) ?_
  rfl
set_option maxHeartbeats 1600000 in
theorem rleaves_is (c : Fo.T3) (v : Fo.V2) (r : Bool) (hr : r = true ↔ Fo.lvs c v) (w : World) :
    Calls Tryz.prog 52 #[.agg #[.int .i64 c.a, .int .i64 c.b, .int .i64 c.c], .agg #[.int .i64 v.b, .int .i64 v.p]] w fun e w' => e = .returned (.bool r) ∧ Below w.heap.size w w' := by
  have B := ((Below.refl w.heap.size w).alloc (Nat.le_refl _) (.cells #[.int .i64 c.a, .int .i64 c.b, .int .i64 c.c] 91)).alloc (by simp) (.cells #[.int .i64 v.b, .int .i64 v.p] 74)
  unfold Fo.lvs Fo.inn at hr
  by_cases h1 : c.a ≤ v.b
  case neg =>
    have hz : r = false := by 
      cases r with
      | false => rfl
      | true => have k := hr.1 rfl; obtain ⟨⟨k1, k2⟩, k3⟩ := k; omega
    subst hz
    clear hr
    go_enter Tryz.func52, Tryz.ntmps52
    go_wp2_with fail
    go_ret
    exact ⟨rfl, by first | exact B | (rw [h3] at B; exact B) | (rw [h4] at B; exact B)⟩
  by_cases h2 : v.b < c.b
  case neg =>
    have hz : r = false := by 
      cases r with
      | false => rfl
      | true => have k := hr.1 rfl; obtain ⟨⟨k1, k2⟩, k3⟩ := k; omega
    subst hz
    clear hr
    go_enter Tryz.func52, Tryz.ntmps52
    go_wp2_with fail
    go_ret
    exact ⟨rfl, by first | exact B | (rw [h3] at B; exact B) | (rw [h4] at B; exact B)⟩
  by_cases h3 : c.c = 0
  case pos =>
    have hz : r = true := by exact hr.2 ⟨⟨by omega, by omega⟩, by omega⟩
    subst hz
    clear hr
    go_enter Tryz.func52, Tryz.ntmps52
    go_wp2_with fail
    go_ret
    exact ⟨rfl, by first | exact B | (rw [h3] at B; exact B) | (rw [h4] at B; exact B)⟩
  by_cases h4 : c.c = v.p
  case pos =>
    have hz : r = true := by exact hr.2 ⟨⟨by omega, by omega⟩, by omega⟩
    subst hz
    clear hr
    go_enter Tryz.func52, Tryz.ntmps52
    go_wp2_with fail
    go_ret
    exact ⟨rfl, by first | exact B | (rw [h3] at B; exact B) | (rw [h4] at B; exact B)⟩
  case neg =>
    have b3 : (c.c == 0) = false := by simpa using h3
    have b4 : (c.c == v.p) = false := by simpa using h4
    have hz : r = false := by 
      cases r with
      | false => rfl
      | true => have k := hr.1 rfl; obtain ⟨⟨k1, k2⟩, k3⟩ := k; omega
    subst hz
    clear hr
    go_enter Tryz.func52, Tryz.ntmps52
    go_wp2_with fail
    go_ret
    exact ⟨rfl, by first | exact B | (rw [h3] at B; exact B) | (rw [h4] at B; exact B)⟩

/-- A form that is not too large to be looked at. -/
def fewH (h : FH) : Prop := h.n ≤ 60 ∧ h.rl ≤ 110 ∧ h.el ≤ 60 ∧ h.cl ≤ 110
set_option maxHeartbeats 1600000 in
theorem rfew_is (h : FH) (r : Bool) (hr : r = true ↔ fewH h) (w : World) :
    Calls Tryz.prog 15 #[.agg #[.int .i64 h.n, .slice h.R h.rl h.rc, .slice h.E h.el h.ec, .int .i64 h.ja, .int .i64 h.jt, .int .i64 h.jf, .slice h.C h.cl h.cc]] w fun e w' => e = .returned (.bool r) ∧ Below w.heap.size w w' := by
  have B := (Below.refl w.heap.size w).alloc (Nat.le_refl _) (.cells #[.int .i64 h.n, .slice h.R h.rl h.rc, .slice h.E h.el h.ec, .int .i64 h.ja, .int .i64 h.jt, .int .i64 h.jf, .slice h.C h.cl h.cc] 34)
  unfold fewH at hr
  by_cases h0 : h.n ≤ 60
  case neg =>
    have hz : r = false := by
      cases r with
      | false => rfl
      | true => have k := hr.1 rfl; omega
    subst hz
    clear hr
    go_enter Tryz.func15, Tryz.ntmps15
    go_wp2_with fail
    go_ret
    exact ⟨rfl, B⟩
  by_cases h1 : (h.rl : Int) ≤ 110
  case neg =>
    have hz : r = false := by
      cases r with
      | false => rfl
      | true => have k := hr.1 rfl; omega
    subst hz
    clear hr
    go_enter Tryz.func15, Tryz.ntmps15
    go_wp2_with fail
    go_ret
    exact ⟨rfl, B⟩
  by_cases h2 : (h.el : Int) ≤ 60
  case neg =>
    have hz : r = false := by
      cases r with
      | false => rfl
      | true => have k := hr.1 rfl; omega
    subst hz
    clear hr
    go_enter Tryz.func15, Tryz.ntmps15
    go_wp2_with fail
    go_ret
    exact ⟨rfl, B⟩
  by_cases h3 : (h.cl : Int) ≤ 110
  case neg =>
    have hz : r = false := by
      cases r with
      | false => rfl
      | true => have k := hr.1 rfl; omega
    subst hz
    clear hr
    go_enter Tryz.func15, Tryz.ntmps15
    go_wp2_with fail
    go_ret
    exact ⟨rfl, B⟩
  have hz : r = true := hr.2 (by omega)
  subst hz
  clear hr
  go_enter Tryz.func15, Tryz.ntmps15
  go_wp2_with fail
  go_ret
  exact ⟨rfl, B⟩
theorem fo_ext {a b : List Fo.V2} (hl : a.length = b.length) (h : ∀ j, j < a.length → atV a j = atV b j) : a = b := by
  refine List.ext_getElem hl fun j h1 h2 => ?_
  have := h j h1
  rwa [atV_eq h1, atV_eq h2] at this
end Go.Proofs.YtahdlkdiadlgeaaGreat

/- The walk of the reference's Same. -/
namespace Go.Proofs.YtahdlkdiadlgeaaGreat
open Go.RowKit

theorem fo_ext3 {a b : List Fo.T3} (hl : a.length = b.length) (h : ∀ j, j < a.length → Fo.at3 a j = Fo.at3 b j) : a = b := by
  refine List.ext_getElem hl fun j h1 h2 => ?_
  have := h j h1
  rwa [Fo.at3_eq h1, Fo.at3_eq h2] at this
end Go.Proofs.YtahdlkdiadlgeaaGreat
