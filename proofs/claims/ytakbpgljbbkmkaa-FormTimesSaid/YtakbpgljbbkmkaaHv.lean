/- The mathematics of FormVisits: the last pass of each bar; a form without its cuts. -/
import Derived.Test.YtakbpgljbbkmkaaLu
namespace Go.Proofs.Ytakbpgljbbkmkaa
open Go.RowKit Go.Maps

namespace Fo
/-- The pass of the last visit of a bar. -/
def lastP (P : List V2) (x : Int) : Int := P.foldl (fun a y => if y.b = x then y.p else a) 0
theorem lastP_snoc (P : List V2) (y : V2) (x : Int) : lastP (P ++ [y]) x = if y.b = x then y.p else lastP P x := by simp [lastP, List.foldl_append]
theorem lastP_in (x : Int) : ∀ (P : List V2) (a : Int), P.foldl (fun a y => if y.b = x then y.p else a) a = a ∨ ∃ z ∈ P, z.b = x ∧ z.p = P.foldl (fun a y => if y.b = x then y.p else a) a
  | [], a => .inl rfl
  | y :: P, a => by
    rw [List.foldl_cons]
    by_cases h : y.b = x
    · rw [if_pos h]
      rcases lastP_in x P y.p with h2 | ⟨z, h2, h3, h4⟩
      · exact .inr ⟨y, by simp, h, h2.symm⟩
      · exact .inr ⟨z, by simp [h2], h3, h4⟩
    · rw [if_neg h]
      rcases lastP_in x P a with h2 | ⟨z, h2, h3, h4⟩
      · exact .inl h2
      · exact .inr ⟨z, by simp [h2], h3, h4⟩
theorem lastP_lt {l : List V2} {i : Nat} (h : i < l.length) (hr : l.Pairwise fun x y => x.b = y.b → x.p < y.p) (h1 : ∀ y ∈ l, 1 ≤ y.p) : lastP (l.take i) (atV l i).b < (atV l i).p := by
  rcases lastP_in (atV l i).b (l.take i) 0 with h2 | ⟨z, h2, h3, h4⟩
  · have := h1 _ (atV_mem h)
    unfold lastP
    rw [h2]
    omega
  · have e : lastP (l.take i) (atV l i).b = z.p := h4.symm
    rw [e]
    rw [← List.take_append_drop i l, List.pairwise_append] at hr
    refine hr.2.2 z h2 (atV l i) ?_ h3
    rw [List.drop_eq_getElem_cons h, atV_eq h]
    exact List.mem_cons_self
/-- The map says the last pass of each bar. -/
def Lst (P : List V2) (D : DataW Unit) : Prop := ∀ x, i64 x → D.atKey (.int .i64 x) (.lit (.int .i64 0)) = .lit (.int .i64 (lastP P x))
theorem Lst.start : Lst [] (.map []) := fun _ _ => rfl
theorem Lst.step {P : List V2} {D : DataW Unit} {y : V2} (h : Lst P D) (hD : IsMap D) (_hy : i64 y.b) : Lst (P ++ [y]) (D.put (.int .i64 y.b) (.lit (.int .i64 y.p))) := fun x hx => by
  rw [lastP_snoc]
  by_cases e : x = y.b
  · subst e
    rw [atKey_put_same hD (intK.key (int_key hx)), if_pos rfl]
  · rw [atKey_put_other (fun e2 => e (by simpa using e2)), h x hx, if_neg (fun e2 => e e2.symm)]
theorem vis_in {l : List Int} {x : V2} (h : x ∈ vis l) : x.b ∈ l := by
  have := vis_le l x h
  exact List.count_pos_iff.1 (by omega)
theorem vis_at {L : List Int} {i : Nat} (h : i < L.length) : atV (vis L) i = ⟨L[i], ((L.take i).count L[i] : Int) + 1⟩ := by
  have hp := vis_prefix (List.take_prefix (i + 1) L)
  rw [List.take_succ_eq_append_getElem h, vis_snoc] at hp
  have hl : (vis (L.take i)).length = i := by rw [vis_length, List.length_take]; omega
  obtain ⟨r, hr⟩ := hp
  have : (vis L)[i]? = some ⟨L[i], ((L.take i).count L[i] : Int) + 1⟩ := by
    rw [← hr, List.append_assoc, List.getElem?_append_right (by omega), hl, Nat.sub_self]
    rfl
  unfold atV
  rw [this]
  rfl
/-- A form without its cuts. -/
def unc (f : Fm) : Fm := {f with cs := []}
theorem prt_unc (f : Fm) (again : Bool) (hi : Int) : ∀ (k : Nat) (bar : Int), prt (unc f) again hi k bar = prt f again hi k bar
  | 0, _ => by unfold prt; rfl
  | k + 1, bar => by
    unfold prt
    rw [prt_unc f again hi k]
    rfl
theorem whl_unc (f : Fm) : whl (unc f) = whl f := by
  unfold whl par
  rw [prt_unc, prt_unc, prt_unc]
  rfl
theorem Val.unc {f : Fm} (V : Val f) : Val (unc f) := ⟨V.n, V.rl, V.rs, V.el, V.es, V.j, by show (0 : Nat) ≤ 100; omega, fun c hc => (by cases hc), List.nodup_nil, by rw [whl_unc]; exact V.most⟩
theorem unf_unc (f : Fm) : unf (Fo.unc f) = vis (whl f) := by
  unfold unf
  rw [whl_unc]
  refine List.filter_eq_self.2 fun v _ => ?_
  have : ¬ lft (Fo.unc f).cs v := fun ⟨c, hc, _⟩ => by cases hc
  simp [this]
theorem unf_le (f : Fm) : (unf f).length ≤ (vis (whl f)).length := List.length_filter_le _ _
theorem Val.unf_in {f : Fm} (V : Val f) {x : V2} (h : x ∈ unf f) : 0 ≤ x.b ∧ x.b < f.n ∧ 1 ≤ x.p ∧ x.p ≤ 20000 := by
  have h1 : x ∈ vis (whl f) := (List.mem_filter.1 h).1
  have h2 := V.bars x.b (vis_in h1)
  have h3 := vis_le _ x h1
  have h4 := List.count_le_length (a := x.b) (l := whl f)
  have := V.most
  omega
end Fo
theorem SlF.unc {w : World} {h : FH} {f : Fo.Fm} (s : SlF w h f) (C : Option Addr) (cc : Nat) : SlF w {h with C := C, cl := 0, cc := cc} (Fo.unc f) := ⟨s.n, s.ja, s.jt, s.jf, s.rl, s.el, rfl, s.sr, s.se, SlT.nil _ _⟩
theorem run_mkNoneI (w : World) : (Instr.makeMap 47 none).run Try.prog w = .ok (.map (some w.heap.size)) (w.alloc (.map #[] 0)) := by
  simp [Instr.makeMap, Result.andThen]
end Go.Proofs.Ytakbpgljbbkmkaa
