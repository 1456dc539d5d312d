/- Mathematics of the chapter's example. -/
import Derived.Test.YtakbpgljbbkmkaaHa
namespace Go.Proofs.Ytakbpgljbbkmkaa
open Go.RowKit

def exJ : Fo.Fm := ⟨8, exR, exE, 8, 0, 2, []⟩
def exCut : Fo.T3 := ⟨2, 4, 2⟩
def exC : Fo.Fm := ⟨8, exR, exE, 8, 0, 2, [] ++ [exCut]⟩
def exU1 : List Fo.V2 := [⟨0, 1⟩, ⟨1, 1⟩, ⟨2, 1⟩, ⟨3, 1⟩, ⟨4, 1⟩, ⟨2, 2⟩, ⟨3, 2⟩, ⟨5, 1⟩, ⟨6, 1⟩, ⟨7, 1⟩]
def exU2 : List Fo.V2 := [⟨0, 1⟩, ⟨1, 1⟩, ⟨2, 1⟩, ⟨3, 1⟩, ⟨4, 1⟩, ⟨2, 2⟩, ⟨3, 2⟩, ⟨5, 1⟩, ⟨6, 1⟩, ⟨7, 1⟩, ⟨0, 2⟩, ⟨1, 2⟩]
def exU3 : List Fo.V2 := [⟨0, 1⟩, ⟨1, 1⟩, ⟨2, 1⟩, ⟨3, 1⟩, ⟨4, 1⟩, ⟨5, 1⟩, ⟨6, 1⟩, ⟨7, 1⟩, ⟨0, 2⟩, ⟨1, 2⟩]
theorem exF_unf : Fo.unf exF = exU1 := by decide +kernel
theorem exJ_unf : Fo.unf exJ = exU2 := by decide +kernel
theorem exC_unf : Fo.unf exC = exU3 := by decide +kernel
theorem exR_ok : Fo.chR 8 0 exR := ⟨by decide, trivial⟩
theorem exE_ok : Fo.chE exR 0 exE := ⟨by decide, by decide, trivial⟩
theorem exF_val : Fo.Val exF := ⟨by decide, by decide, exR_ok, by decide, exE_ok, .inl ⟨rfl, rfl, rfl⟩, by decide, fun c hc => (by cases hc), List.nodup_nil, by decide +kernel⟩
theorem exJ_val : Fo.Val exJ := ⟨by decide, by decide, exR_ok, by decide, exE_ok, .inr ⟨by decide, by decide, by decide, by decide⟩, by decide, fun c hc => (by cases hc), List.nodup_nil, by decide +kernel⟩
theorem exC_val : Fo.Val exC := ⟨by decide, by decide, exR_ok, by decide, exE_ok, .inr ⟨by decide, by decide, by decide, by decide⟩, by decide, fun c hc => (by (have : c = exCut := by simpa [exC] using hc); subst this; unfold Fo.okC; decide), by simp [exC], by decide +kernel⟩
theorem exF_wf : ∀ c ∈ exF.cs, Fo.wf3 c := fun c hc => by cases hc
theorem exJ_wf : ∀ c ∈ exJ.cs, Fo.wf3 c := fun c hc => by cases hc
theorem exC_wf : ∀ c ∈ exC.cs, Fo.wf3 c := fun c hc => by (have : c = exCut := by simpa [exC] using hc); subst this; unfold Fo.wf3 i64 exCut; decide
theorem exC_f1 : Fo.vix (Fo.unf exC) ⟨1, 2⟩ = 9 := by rw [exC_unf]; decide +kernel
theorem exC_f2 : Fo.vix (Fo.unf exC) ⟨3, 2⟩ = -1 := by rw [exC_unf]; decide +kernel
theorem exZ_no : ¬ Fo.Val ⟨0, [], [], 0, 0, 0, []⟩ := fun V => by have := V.n; simp at this
theorem exB_no : ¬ Fo.Val ⟨8, [], [], 8, 8, 8, []⟩ := fun V => by
  rcases V.j with ⟨h, _⟩ | ⟨⟨_, _, _, h, _⟩, _⟩
  · simp at h
  · simp at h
theorem FW.jump {w : World} {b : Nat} {s : FH} (h : FW w b s) (x y z : Int) : FW (((w.setCell ⟨b, 3, none⟩ (.int .i64 x)).setCell ⟨b, 4, none⟩ (.int .i64 y)).setCell ⟨b, 5, none⟩ (.int .i64 z)) b {s with ja := x, jt := y, jf := z} := by
  obtain ⟨⟨l, c0, c1, c2, c3, c4, c5, c6⟩, hf⟩ := h
  refine ⟨⟨by simpa using l, ?_, ?_, ?_, ?_, ?_, ?_, ?_⟩, fun j => by simp only [World.frozen?_setCell]; exact hf j⟩
  all_goals go_simp
theorem slk_lit (w : World) (t : TypeId) (l : List Int) : SlK .i64 (w.alloc (.cells (vK .i64 l).toArray t)) (some ⟨w.heap.size, 0, none⟩) l := fun _ =>
  ⟨w.heap.size, 0, rfl, by simp, fun i hi => by
    have h := heap_alloc_new w (.cells (vK .i64 l).toArray t)
    unfold World.cell?
    rw [h, Nat.zero_add]
    simpa using vK_at hi⟩
theorem SlF.zero (w : World) : SlF w .zero ⟨0, [], [], 0, 0, 0, []⟩ := ⟨rfl, rfl, rfl, rfl, rfl, rfl, rfl, SlT.nil _ _, SlT.nil _ _, SlT.nil _ _⟩
theorem SlF.bad (w : World) : SlF w (⟨8, none, 0, 0, none, 0, 0, 8, 8, 8, none, 0, 0⟩ : FH) ⟨8, [], [], 8, 8, 8, []⟩ := ⟨rfl, rfl, rfl, rfl, rfl, rfl, rfl, SlT.nil _ _, SlT.nil _ _, SlT.nil _ _⟩
end Go.Proofs.Ytakbpgljbbkmkaa
