import Derived.Test.YtahdlkdiadlgeaaGAJ
import Derived.ChangeKeysEq
/- Triples compared; the walks of the reference's cut, has, repeats, endings, jump. -/
namespace Go.Proofs.Ytahdlkdiadlgeaa
open Go.RowKit

theorem eqFT {P : Program} {w : World} {d : Nat} {xs ys : Array Value} {f : Field} {fs : List Field} {u v : Value} {b r : Bool} (hn : f.name ≠ "_") (px : (part f.type xs f.offset).run P w = .ok u w) (py : (part f.type ys f.offset).run P w = .ok v w)
    (q : (Op.equalIn d f.type u v).run P w = .ok b w) (hr : (Op.eqFields d xs ys fs).run P w = .ok r w) : (Op.eqFields d xs ys (f :: fs)).run P w = .ok (b && r) w := by
  unfold Op.eqFields
  rw [if_pos hn]
  simp only [Sem.run_bind, px, py, q, Result.andThen_ok]
  cases b <;> simp [hr]
set_option maxRecDepth 100000 in
theorem eqCut (x y : Fo.T3) (g : Bool) (h : g = true ↔ x = y) (w : World) : (Go.Op.equalIn 10000 106 (.agg #[.int .i64 x.a, .int .i64 x.b, .int .i64 x.c]) (.agg #[.int .i64 y.a, .int .i64 y.b, .int .i64 y.c])).run Try.prog w = .ok g w := by
  have hg : g = ((x.a == y.a) && ((x.b == y.b) && ((x.c == y.c) && true))) := by
    rw [Bool.eq_iff_iff, h]
    cases x; cases y
    simp only [Fo.T3.mk.injEq, Bool.and_eq_true, beq_iff_eq, and_true]
  rw [hg, run_equalIn_struct w 9999 106 _ _ (by kernel_rfl) (by kernel_rfl)]
  have hm : (Try.prog.fieldsOf 106).toList.map (fun f => (f.name, f.type, f.offset)) = [("From", 3, 0), ("Until", 3, 1), ("Pass", 3, 2)] := by kernel_rfl
  generalize (Try.prog.fieldsOf 106).toList = L at hm ⊢
  rcases L with _ | ⟨f1, _ | ⟨f2, _ | ⟨f3, _ | ⟨f4, L⟩⟩⟩⟩ <;> simp only [List.map_cons, List.map_nil, List.cons.injEq, Prod.mk.injEq, and_true, reduceCtorEq, and_false] at hm
  obtain ⟨⟨n1, t1, o1⟩, ⟨n2, t2, o2⟩, n3, t3, o3⟩ := hm
  refine eqFT (by rw [n1]; decide) (u := .int .i64 x.a) (v := .int .i64 y.a) (by rw [t1, o1]; exact run_part_plain w (by kernel_rfl) rfl) (by rw [t1, o1]; exact run_part_plain w (by kernel_rfl) rfl) (by rw [t1]; exact run_equalIn_int w 9998 3 .i64 .i64 x.a y.a Try.underlying3) ?_
  refine eqFT (by rw [n2]; decide) (u := .int .i64 x.b) (v := .int .i64 y.b) (by rw [t2, o2]; exact run_part_plain w (by kernel_rfl) rfl) (by rw [t2, o2]; exact run_part_plain w (by kernel_rfl) rfl) (by rw [t2]; exact run_equalIn_int w 9998 3 .i64 .i64 x.b y.b Try.underlying3) ?_
  refine eqFT (by rw [n3]; decide) (u := .int .i64 x.c) (v := .int .i64 y.c) (by rw [t3, o3]; exact run_part_plain w (by kernel_rfl) rfl) (by rw [t3, o3]; exact run_part_plain w (by kernel_rfl) rfl) (by rw [t3]; exact run_equalIn_int w 9998 3 .i64 .i64 x.c y.c Try.underlying3) ?_
  rfl
set_option maxRecDepth 100000 in
theorem eqRepeat (x y : Fo.T3) (g : Bool) (h : g = true ↔ x = y) (w : World) : (Go.Op.equalIn 10000 66 (.agg #[.int .i64 x.a, .int .i64 x.b, .int .i64 x.c]) (.agg #[.int .i64 y.a, .int .i64 y.b, .int .i64 y.c])).run Try.prog w = .ok g w := by
  have hg : g = ((x.a == y.a) && ((x.b == y.b) && ((x.c == y.c) && true))) := by
    rw [Bool.eq_iff_iff, h]
    cases x; cases y
    simp only [Fo.T3.mk.injEq, Bool.and_eq_true, beq_iff_eq, and_true]
  rw [hg, run_equalIn_struct w 9999 66 _ _ (by kernel_rfl) (by kernel_rfl)]
  have hm : (Try.prog.fieldsOf 66).toList.map (fun f => (f.name, f.type, f.offset)) = [("From", 3, 0), ("Until", 3, 1), ("Times", 3, 2)] := by kernel_rfl
  generalize (Try.prog.fieldsOf 66).toList = L at hm ⊢
  rcases L with _ | ⟨f1, _ | ⟨f2, _ | ⟨f3, _ | ⟨f4, L⟩⟩⟩⟩ <;> simp only [List.map_cons, List.map_nil, List.cons.injEq, Prod.mk.injEq, and_true, reduceCtorEq, and_false] at hm
  obtain ⟨⟨n1, t1, o1⟩, ⟨n2, t2, o2⟩, n3, t3, o3⟩ := hm
  refine eqFT (by rw [n1]; decide) (u := .int .i64 x.a) (v := .int .i64 y.a) (by rw [t1, o1]; exact run_part_plain w (by kernel_rfl) rfl) (by rw [t1, o1]; exact run_part_plain w (by kernel_rfl) rfl) (by rw [t1]; exact run_equalIn_int w 9998 3 .i64 .i64 x.a y.a Try.underlying3) ?_
  refine eqFT (by rw [n2]; decide) (u := .int .i64 x.b) (v := .int .i64 y.b) (by rw [t2, o2]; exact run_part_plain w (by kernel_rfl) rfl) (by rw [t2, o2]; exact run_part_plain w (by kernel_rfl) rfl) (by rw [t2]; exact run_equalIn_int w 9998 3 .i64 .i64 x.b y.b Try.underlying3) ?_
  refine eqFT (by rw [n3]; decide) (u := .int .i64 x.c) (v := .int .i64 y.c) (by rw [t3, o3]; exact run_part_plain w (by kernel_rfl) rfl) (by rw [t3, o3]; exact run_part_plain w (by kernel_rfl) rfl) (by rw [t3]; exact run_equalIn_int w 9998 3 .i64 .i64 x.c y.c Try.underlying3) ?_
  rfl
set_option maxRecDepth 100000 in
theorem eqEnding (x y : Fo.T3) (g : Bool) (h : g = true ↔ x = y) (w : World) : (Go.Op.equalIn 10000 116 (.agg #[.int .i64 x.a, .int .i64 x.b, .int .i64 x.c]) (.agg #[.int .i64 y.a, .int .i64 y.b, .int .i64 y.c])).run Try.prog w = .ok g w := by
  have hg : g = ((x.a == y.a) && ((x.b == y.b) && ((x.c == y.c) && true))) := by
    rw [Bool.eq_iff_iff, h]
    cases x; cases y
    simp only [Fo.T3.mk.injEq, Bool.and_eq_true, beq_iff_eq, and_true]
  rw [hg, run_equalIn_struct w 9999 116 _ _ (by kernel_rfl) (by kernel_rfl)]
  have hm : (Try.prog.fieldsOf 116).toList.map (fun f => (f.name, f.type, f.offset)) = [("From", 3, 0), ("Until", 3, 1), ("Pass", 3, 2)] := by kernel_rfl
  generalize (Try.prog.fieldsOf 116).toList = L at hm ⊢
  rcases L with _ | ⟨f1, _ | ⟨f2, _ | ⟨f3, _ | ⟨f4, L⟩⟩⟩⟩ <;> simp only [List.map_cons, List.map_nil, List.cons.injEq, Prod.mk.injEq, and_true, reduceCtorEq, and_false] at hm
  obtain ⟨⟨n1, t1, o1⟩, ⟨n2, t2, o2⟩, n3, t3, o3⟩ := hm
  refine eqFT (by rw [n1]; decide) (u := .int .i64 x.a) (v := .int .i64 y.a) (by rw [t1, o1]; exact run_part_plain w (by kernel_rfl) rfl) (by rw [t1, o1]; exact run_part_plain w (by kernel_rfl) rfl) (by rw [t1]; exact run_equalIn_int w 9998 3 .i64 .i64 x.a y.a Try.underlying3) ?_
  refine eqFT (by rw [n2]; decide) (u := .int .i64 x.b) (v := .int .i64 y.b) (by rw [t2, o2]; exact run_part_plain w (by kernel_rfl) rfl) (by rw [t2, o2]; exact run_part_plain w (by kernel_rfl) rfl) (by rw [t2]; exact run_equalIn_int w 9998 3 .i64 .i64 x.b y.b Try.underlying3) ?_
  refine eqFT (by rw [n3]; decide) (u := .int .i64 x.c) (v := .int .i64 y.c) (by rw [t3, o3]; exact run_part_plain w (by kernel_rfl) rfl) (by rw [t3, o3]; exact run_part_plain w (by kernel_rfl) rfl) (by rw [t3]; exact run_equalIn_int w 9998 3 .i64 .i64 x.c y.c Try.underlying3) ?_
  rfl
set_option maxRecDepth 100000 in
theorem eqJump (x y : Fo.T3) (g : Bool) (h : g = true ↔ x = y) (w : World) : (Go.Op.equalIn 10000 44 (.agg #[.int .i64 x.a, .int .i64 x.b, .int .i64 x.c]) (.agg #[.int .i64 y.a, .int .i64 y.b, .int .i64 y.c])).run Try.prog w = .ok g w := by
  have hg : g = ((x.a == y.a) && ((x.b == y.b) && ((x.c == y.c) && true))) := by
    rw [Bool.eq_iff_iff, h]
    cases x; cases y
    simp only [Fo.T3.mk.injEq, Bool.and_eq_true, beq_iff_eq, and_true]
  rw [hg, run_equalIn_struct w 9999 44 _ _ (by kernel_rfl) (by kernel_rfl)]
  have hm : (Try.prog.fieldsOf 44).toList.map (fun f => (f.name, f.type, f.offset)) = [("At", 3, 0), ("To", 3, 1), ("Fine", 3, 2)] := by kernel_rfl
  generalize (Try.prog.fieldsOf 44).toList = L at hm ⊢
  rcases L with _ | ⟨f1, _ | ⟨f2, _ | ⟨f3, _ | ⟨f4, L⟩⟩⟩⟩ <;> simp only [List.map_cons, List.map_nil, List.cons.injEq, Prod.mk.injEq, and_true, reduceCtorEq, and_false] at hm
  obtain ⟨⟨n1, t1, o1⟩, ⟨n2, t2, o2⟩, n3, t3, o3⟩ := hm
  refine eqFT (by rw [n1]; decide) (u := .int .i64 x.a) (v := .int .i64 y.a) (by rw [t1, o1]; exact run_part_plain w (by kernel_rfl) rfl) (by rw [t1, o1]; exact run_part_plain w (by kernel_rfl) rfl) (by rw [t1]; exact run_equalIn_int w 9998 3 .i64 .i64 x.a y.a Try.underlying3) ?_
  refine eqFT (by rw [n2]; decide) (u := .int .i64 x.b) (v := .int .i64 y.b) (by rw [t2, o2]; exact run_part_plain w (by kernel_rfl) rfl) (by rw [t2, o2]; exact run_part_plain w (by kernel_rfl) rfl) (by rw [t2]; exact run_equalIn_int w 9998 3 .i64 .i64 x.b y.b Try.underlying3) ?_
  refine eqFT (by rw [n3]; decide) (u := .int .i64 x.c) (v := .int .i64 y.c) (by rw [t3, o3]; exact run_part_plain w (by kernel_rfl) rfl) (by rw [t3, o3]; exact run_part_plain w (by kernel_rfl) rfl) (by rw [t3]; exact run_equalIn_int w 9998 3 .i64 .i64 x.c y.c Try.underlying3) ?_
  rfl
namespace Fo
def cix : List T3 → T3 → Int
  | [], _ => -1
  | x :: l, c => if x = c then 0 else if cix l c < 0 then -1 else cix l c + 1
theorem cix_ge : ∀ (l : List T3) (c : T3), -1 ≤ cix l c
  | [], _ => Int.le_refl _
  | b :: l, c => by
    have := cix_ge l c
    unfold cix
    split
    · omega
    · split <;> omega
theorem cix_lt : ∀ (l : List T3) (c : T3), cix l c < l.length
  | [], _ => by unfold cix; simp
  | b :: l, c => by
    have := cix_lt l c
    unfold cix
    simp only [List.length_cons]
    split
    · omega
    · split <;> omega
theorem cix_at : ∀ {l : List T3} {c : T3}, 0 ≤ cix l c → at3 l (cix l c).toNat = c
  | [], c, h => by unfold cix at h; omega
  | b :: l, c, h => by
    unfold cix at h ⊢
    split
    · rename_i e; exact e
    · rename_i e
      rw [if_neg e] at h
      split
      · rename_i h1; rw [if_pos h1] at h; omega
      · rename_i h1
        have ih := cix_at (l := l) (c := c) (by omega)
        rw [show (cix l c + 1).toNat = (cix l c).toNat + 1 by omega]
        exact ih
theorem cix_neg : ∀ {l : List T3} {c : T3}, cix l c < 0 ↔ c ∉ l
  | [], c => by unfold cix; simp
  | b :: l, c => by
    have ih := cix_neg (l := l) (c := c)
    have hg := cix_ge l c
    unfold cix
    by_cases e : b = c
    · rw [if_pos e]; simp [e]
    · rw [if_neg e, List.mem_cons, not_or]
      by_cases h : cix l c < 0
      · rw [if_pos h]; exact ⟨fun _ => ⟨fun h2 => e h2.symm, ih.1 h⟩, fun _ => by omega⟩
      · rw [if_neg h]; exact ⟨fun h2 => by omega, fun h2 => absurd (ih.2 h2.2) h⟩
theorem cix_first : ∀ {l : List T3} {c : T3} {i : Nat}, i < l.length → at3 l i = c → (∀ k, k < i → at3 l k ≠ c) → cix l c = i
  | [], _, _, hi, _, _ => by simp at hi
  | b :: l, c, 0, _, h, _ => by unfold cix; rw [if_pos (show b = c from h)]; rfl
  | b :: l, c, i + 1, hi, h, hk => by
    have e : b ≠ c := hk 0 (by omega)
    have ih := cix_first (l := l) (c := c) (i := i) (by simpa using hi) h (fun k hk2 => hk (k + 1) (by omega))
    unfold cix
    rw [if_neg e, if_neg (by omega), ih]
    rfl
theorem drop_at {l : List T3} {i : Nat} (h : i < l.length) : l.drop i = at3 l i :: l.drop (i + 1) := by rw [List.drop_eq_getElem_cons h, at3_eq h]
end Fo
end Go.Proofs.Ytahdlkdiadlgeaa

/- The walks of the reference's endings, jump. -/
namespace Go.Proofs.Ytahdlkdiadlgeaa
open Go.RowKit

/-- A jump is none, or as it should be. -/
def okJH (h : FH) (rs : List Fo.T3) : Prop := (h.ja = 0 ∧ h.jt = 0 ∧ h.jf = 0) ∨ ((1 ≤ h.ja ∧ h.ja ≤ h.n ∧ 0 ≤ h.jt ∧ h.jt < h.ja ∧ h.jt < h.jf ∧ h.jf ≤ h.n) ∧ ¬ Fo.wi rs h.ja ∧ ¬ Fo.wi rs h.jt ∧ ¬ Fo.wi rs h.jf)
end Go.Proofs.Ytahdlkdiadlgeaa

/- Visits compared; the walks of the reference's Leaves, Few, SameVisits. -/
namespace Go.Proofs.Ytahdlkdiadlgeaa
open Go.RowKit

set_option maxRecDepth 100000 in
theorem eqVisit (x y : Fo.V2) (g : Bool) (h : g = true ↔ x = y) (w : World) : (Go.Op.equalIn 10000 55 (.agg #[.int .i64 x.b, .int .i64 x.p]) (.agg #[.int .i64 y.b, .int .i64 y.p])).run Try.prog w = .ok g w := by
  have hg : g = ((x.b == y.b) && ((x.p == y.p) && true)) := by
    rw [Bool.eq_iff_iff, h]
    cases x; cases y
    simp only [Fo.V2.mk.injEq, Bool.and_eq_true, beq_iff_eq, and_true]
  rw [hg, run_equalIn_struct w 9999 55 _ _ (by kernel_rfl) (by kernel_rfl)]
  have hm : (Try.prog.fieldsOf 55).toList.map (fun f => (f.name, f.type, f.offset)) = [("Bar", 3, 0), ("Pass", 3, 1)] := by kernel_rfl
  generalize (Try.prog.fieldsOf 55).toList = L at hm ⊢
  rcases L with _ | ⟨f1, _ | ⟨f2, _ | ⟨f3, L⟩⟩⟩ <;> simp only [List.map_cons, List.map_nil, List.cons.injEq, Prod.mk.injEq, and_true, reduceCtorEq, and_false] at hm
  obtain ⟨⟨n1, t1, o1⟩, n2, t2, o2⟩ := hm
  refine eqFT (by rw [n1]; decide) (u := .int .i64 x.b) (v := .int .i64 y.b) (by rw [t1, o1]; exact run_part_plain w (by kernel_rfl) rfl) (by rw [t1, o1]; exact run_part_plain w (by kernel_rfl) rfl) (by rw [t1]; exact run_equalIn_int w 9998 3 .i64 .i64 x.b y.b Try.underlying3) ?_
  refine eqFT (by rw [n2]; decide) (u := .int .i64 x.p) (v := .int .i64 y.p) (by rw [t2, o2]; exact run_part_plain w (by kernel_rfl) rfl) (by rw [t2, o2]; exact run_part_plain w (by kernel_rfl) rfl) (by rw [t2]; exact run_equalIn_int w 9998 3 .i64 .i64 x.p y.p Try.underlying3) ?_
  rfl
/-- A form that is not too large to be looked at. -/
def fewH (h : FH) : Prop := h.n ≤ 60 ∧ h.rl ≤ 110 ∧ h.el ≤ 60 ∧ h.cl ≤ 110
set_option maxHeartbeats 1600000 in
theorem rfew_is (h : FH) (r : Bool) (hr : r = true ↔ fewH h) (w : World) :
    Calls Try.prog 17 #[.agg #[.int .i64 h.n, .slice h.R h.rl h.rc, .slice h.E h.el h.ec, .int .i64 h.ja, .int .i64 h.jt, .int .i64 h.jf, .slice h.C h.cl h.cc]] w fun e w' => e = .returned (.bool r) ∧ Below w.heap.size w w' := by
  have B := (Below.refl w.heap.size w).alloc (Nat.le_refl _) (.cells #[.int .i64 h.n, .slice h.R h.rl h.rc, .slice h.E h.el h.ec, .int .i64 h.ja, .int .i64 h.jt, .int .i64 h.jf, .slice h.C h.cl h.cc] 47)
  unfold fewH at hr
  by_cases h0 : h.n ≤ 60
  case neg =>
    have hz : r = false := by
      cases r with
      | false => rfl
      | true => have k := hr.1 rfl; omega
    subst hz
    clear hr
    go_enter Try.func17, Try.ntmps17
    go_wp2_with fail
    go_ret
    exact ⟨rfl, B⟩
  by_cases h1 : (h.rl : Int) ≤ 110
  case neg =>
    have hz : r = false := by
      cases r with
      | false => rfl
      | true => have k := hr.1 rfl; omega
    subst hz
    clear hr
    go_enter Try.func17, Try.ntmps17
    go_wp2_with fail
    go_ret
    exact ⟨rfl, B⟩
  by_cases h2 : (h.el : Int) ≤ 60
  case neg =>
    have hz : r = false := by
      cases r with
      | false => rfl
      | true => have k := hr.1 rfl; omega
    subst hz
    clear hr
    go_enter Try.func17, Try.ntmps17
    go_wp2_with fail
    go_ret
    exact ⟨rfl, B⟩
  by_cases h3 : (h.cl : Int) ≤ 110
  case neg =>
    have hz : r = false := by
      cases r with
      | false => rfl
      | true => have k := hr.1 rfl; omega
    subst hz
    clear hr
    go_enter Try.func17, Try.ntmps17
    go_wp2_with fail
    go_ret
    exact ⟨rfl, B⟩
  have hz : r = true := hr.2 (by omega)
  subst hz
  clear hr
  go_enter Try.func17, Try.ntmps17
  go_wp2_with fail
  go_ret
  exact ⟨rfl, B⟩
theorem fo_ext {a b : List Fo.V2} (hl : a.length = b.length) (h : ∀ j, j < a.length → atV a j = atV b j) : a = b := by
  refine List.ext_getElem hl fun j h1 h2 => ?_
  have := h j h1
  rwa [atV_eq h1, atV_eq h2] at this
end Go.Proofs.Ytahdlkdiadlgeaa

/- The walk of the reference's Same. -/
namespace Go.Proofs.Ytahdlkdiadlgeaa
open Go.RowKit

theorem fo_ext3 {a b : List Fo.T3} (hl : a.length = b.length) (h : ∀ j, j < a.length → Fo.at3 a j = Fo.at3 b j) : a = b := by
  refine List.ext_getElem hl fun j h1 h2 => ?_
  have := h j h1
  rwa [Fo.at3_eq h1, Fo.at3_eq h2] at this
end Go.Proofs.Ytahdlkdiadlgeaa
