/- A loop over a function whose loop variable may lie in a block of its own, and whose rounds end, break or return. -/
import Derived.Test.YtakbpgljbbkmkaaRf
namespace Go.Proofs.Ytakbpgljbbkmkaa
open Go.RowKit

/-- How a round's body is left: at its end, or by the one break, or by a return. -/
def roundEndsJ {α : Type} (B : Nat) (isRet : Bool) (id : Nat) (Kp : World → World → Prop) (I Ix : List α → World → Prop) (xs : List α) (X : World) : Exit → Act → World → Prop
  | .normal, _, Y => KeepsFrom B X Y ∧ Kp X Y ∧ I xs Y
  | .exit i, _, Y => isRet = false ∧ i = id ∧ KeepsFrom B X Y ∧ Ix xs Y
  | .ret, _, Y => isRet = true ∧ KeepsFrom B X Y ∧ Ix xs Y
  | _, _, _ => False

theorem wp_rangedJ {α : Type} {P : Program} {g : Operand} {ps : Array Tmp} {assign body : Code} {Q : Exit → Act → World → Prop} {a : Act} {w : World}
    {gf : Nat} {lb : Array Value} (hg : a.eval g = .func (.func gf) #[] lb) (eg : ∀ args w, (callFunc gf args).run P w = .ok (.enter gf args) w)
    {encs : α → Array Value} {Kp : World → World → Prop} {full : List α} {w0 : World} (hseq : Ranged P gf lb encs Kp full w0) (hb0 : Below w0.heap.size w0 w)
    (hKt : ∀ {X Y Z : World}, Kp X Y → Kp Y Z → Kp X Z) (hKb : ∀ (X : World) (l : Nat) (o o' : Obj), w.heap.size ≤ l → X.heap[l]? = some o → o.isCells = false → Kp X (X.putObj l o')) (hps : ∀ x, (encs x).size = ps.size)
    (I Ix : List α → World → Prop) (isRet : Bool) (id : Nat) (hI : ∀ s X Y, I s X → Below w.heap.size X Y → I s Y) (hIx : ∀ s X Y, Ix s X → Below w.heap.size X Y → Ix s Y) (h0 : I [] w) (Ax : α → Act → World → Prop)
    (hAx : ∀ x a' X o o', Ax x a' X → X.heap[w.heap.size + 1]? = some o → o.isCells = false → Ax x a' (X.putObj (w.heap.size + 1) o'))
    (hassign : ∀ (l : Nat) (pre : List α) (x : α) (X : World), pre ++ [x] <+: full → I pre X → w.heap.size < X.heap.size →
      assign.wpIn (Fence.wide.inRound l) 7 P (Exit.then (fun a' Y => KeepsFrom w.heap.size X Y ∧ Kp X Y ∧ I pre Y ∧ Ax x a' Y) (fun _ _ _ => False)) { tmps := (ps.zip (encs x)).foldl (fun t (p, v) => t.setIfInBounds p v) a.tmps, defers := [] } X)
    (hbody : ∀ (l : Nat) (pre : List α) (x : α) (a' : Act) (X : World), pre ++ [x] <+: full → I pre X → Ax x a' X → w.heap.size < X.heap.size → body.wpIn (Fence.wide.inRound l) 7 P (roundEndsJ w.heap.size isRet id Kp I Ix (pre ++ [x]) X) a' X)
    (hdone : ∀ (D : Nat) (X : World), w.heap.size ≤ D → I full X → X.heap[D]? = some (.deferred (some [])) → Q .normal { a with defers := { target := .collected D, args := #[] } :: a.defers } X)
    (hstop : ∀ (D : Nat) (pre : List α) (X : World), w.heap.size ≤ D → pre <+: full → Ix pre X → X.heap[D]? = some (.deferred (some [])) → Q (if isRet then .ret else .exit id) { a with defers := { target := .collected D, args := #[] } :: a.defers } X) :
    (Code.rangeFunc g ps assign body).wp P Q a w := by
  refine (wpIn_wide (n := 9)).1 (wpIn_rangeFunc ?_)
  intro fn hfn
  obtain ⟨rec, hrec⟩ : ∃ rec : LoopState → Option Code → Loop, rec = fun st pe => { state := st, pending := pe, fn, tmps := a.tmps, params := ps, assign, body, defers := w.heap.size } := ⟨_, rfl⟩
  obtain ⟨W1, hW1⟩ : ∃ W1, (w.alloc (.deferred (some []))).alloc (.loop (rec .ready none)) = W1 := ⟨_, rfl⟩
  have hs1 : W1.heap.size = w.heap.size + 2 := by rw [← hW1]; simp
  have hB1 : Below w.heap.size w W1 := by rw [← hW1]; exact ((Below.refl _ w).alloc (Nat.le_refl _) _).alloc (by simp) _
  have hL1 : W1.heap[w.heap.size + 1]? = some (.loop (rec .ready none)) := by
    have h := World.alloc_heap_new (w.alloc (.deferred (some []))) (.loop (rec .ready none))
    rw [World.size_alloc, hW1] at h
    exact h
  have hK1 : W1.heap[w.heap.size]? = some (.deferred (some [])) := by
    rw [← hW1]
    exact (Below.heap_alloc _ _ _ (by simp)).trans (World.alloc_heap_new w _)
  have hput : ∀ (X : World) (o o' : Obj), X.heap[w.heap.size + 1]? = some o → Below w.heap.size X (X.putObj (w.heap.size + 1) o') := fun X o o' h =>
    putObj_below (Nat.le_succ _) (by have := (Array.getElem?_eq_some_iff.1 h).1; omega)
  refine ⟨w.heap.size + 1, [{ target := .collected w.heap.size, args := #[] }], W1, { target := .fn (.func gf) lb, args := #[.func (.yield (w.heap.size + 1)) #[] #[]] }, W1, gf, #[.func (.yield (w.heap.size + 1)) #[] #[]] ++ lb, W1, ?_, ?_, fun _ _ => trivial, ?_, fun _ => by omega, ?_⟩
  · rw [← hW1, hrec]
    exact run_enterLoop_outer _ _ _ _ _
  · simp only [resolve, hg]
    simp [go_sem]
  · simp [invoke, go_sem, eg]
  refine (hseq (w.heap.size + 1)
    (fun pre X => I pre X ∧ X.heap[w.heap.size + 1]? = some (.loop (rec .ready none)) ∧ X.heap[w.heap.size]? = some (.deferred (some [])))
    (fun pre X => Ix pre X ∧ X.heap[w.heap.size + 1]? = some (.loop (rec .done (some (if isRet then Code.ret else Code.exit id)))) ∧ X.heap[w.heap.size]? = some (.deferred (some [])))
    W1 (hb0.trans (hB1.mono hb0.size))
    (fun s X Y h hb => ⟨hI s X Y h.1 (hb.mono (by omega)), (hb.block _ (by omega)).trans h.2.1, (hb.block _ (by omega)).trans h.2.2⟩)
    (fun s X Y h hb => ⟨hIx s X Y h.1 (hb.mono (by omega)), (hb.block _ (by omega)).trans h.2.1, (hb.block _ (by omega)).trans h.2.2⟩)
    ?_ ⟨hI _ _ _ h0 hB1, hL1, hK1⟩).mono ?_
  · -- one round
    rintro pre x X hpre ⟨hi, hl, hk⟩
    have hlt : w.heap.size + 1 < X.heap.size := (Array.getElem?_eq_some_iff.1 hl).1
    have hy := run_yield (P := P) (args := encs x) hl (by rw [hrec]; exact hps x)
    rw [hrec] at hy
    refine ⟨fn, _, assign, body, hy, roundIn_of_wpIn hfn (wpIn_mono (hassign _ pre x X hpre hi (by omega)) ?_)⟩
    rintro e a' Y hp
    cases e with
    | exit i => exact hp.elim
    | ret => exact hp.elim
    | goto t => exact hp.elim
    | panic ch => exact hp.elim
    | outgrown => exact hp.elim
    | normal =>
    obtain ⟨hkY, hpY, hiY, hAY⟩ := hp
    have hlY : Y.heap[w.heap.size + 1]? = some (.loop (rec .ready none)) := hkY.same (w.heap.size + 1) (.loop (rec .ready none)) (Nat.le_succ _) hl rfl
    have hkY' : Y.heap[w.heap.size]? = some (.deferred (some [])) := hkY.same w.heap.size (.deferred (some [])) (Nat.le_refl _) hk rfl
    refine ⟨_, run_beginRound hlY (by rw [hrec]), ?_⟩
    have hlt : w.heap.size + 1 < Y.heap.size := (Array.getElem?_eq_some_iff.1 hlY).1
    have hl := hlY
    have hk := hkY'
    have hi := hiY
    have hw2 : Kp X (Y.putObj (w.heap.size + 1) (.loop { rec .ready none with state := .busy })) := hKt hpY (hKb _ _ _ _ (Nat.le_succ _) hlY rfl)
    have hA2 : Ax x a' (Y.putObj (w.heap.size + 1) (.loop { rec .ready none with state := .busy })) := hAx _ _ _ _ _ hAY hlY rfl
    obtain ⟨X2, hX2⟩ : ∃ X2, Y.putObj (w.heap.size + 1) (.loop { rec .ready none with state := .busy }) = X2 := ⟨_, rfl⟩
    have hl2 : X2.heap[w.heap.size + 1]? = some (.loop { rec .ready none with state := .busy }) := by rw [← hX2]; exact World.putObj_heap_same hlt
    have hk2 : X2.heap[w.heap.size]? = some (.deferred (some [])) := by rw [← hX2]; exact (World.putObj_heap_other (by omega)).trans hk
    rw [hX2] at hw2 hA2
    have hi2 : I pre X2 := by rw [← hX2]; exact hI _ _ _ hi (hput Y _ _ hl)
    have hz2 : w.heap.size < X2.heap.size := by have := (Array.getElem?_eq_some_iff.1 hl2).1; omega
    have fin : ∀ (jump : Option Code) (Y : World), KeepsFrom w.heap.size X2 Y →
        (Instr.endRound (w.heap.size + 1) jump).run P Y = .ok (.bool jump.isNone) (Y.putObj (w.heap.size + 1) (.loop (rec (if jump.isNone then .ready else .done) jump))) ∧
        Y.heap[w.heap.size + 1]? = some (.loop { rec .ready none with state := .busy }) ∧
        (Y.putObj (w.heap.size + 1) (.loop (rec (if jump.isNone then .ready else .done) jump))).heap[w.heap.size + 1]? = some (.loop (rec (if jump.isNone then .ready else .done) jump)) ∧
        (Y.putObj (w.heap.size + 1) (.loop (rec (if jump.isNone then .ready else .done) jump))).heap[w.heap.size]? = some (.deferred (some [])) := fun jump Y hY => by
      have hl3 := hY.same _ _ (Nat.le_succ _) hl2 rfl
      have hr := run_endRound (P := P) jump hl3
      rw [hrec] at hr ⊢
      rw [hrec] at hl3
      exact ⟨hr, hl3, World.putObj_heap_same (Array.getElem?_eq_some_iff.1 hl3).1, (World.putObj_heap_other (by omega)).trans (hY.same _ _ (Nat.le_refl _) hk2 rfl)⟩
    rw [hX2]
    refine wpIn_mono (hbody _ pre x a' X2 hpre hi2 hA2 hz2) ?_
    rintro e a3 Y hp
    cases e with
    | normal =>
      obtain ⟨hk3, hkp, hi3⟩ := hp
      obtain ⟨hr, hl3, hl4, hk4⟩ := fin none Y hk3
      exact ⟨_, _, hr, .inl ⟨rfl, ⟨hI _ _ _ hi3 (hput Y _ _ hl3), hl4, hk4⟩, hKt (hKt hw2 hkp) (hKb _ _ _ _ (Nat.le_succ _) hl3 rfl)⟩⟩
    | exit i =>
      obtain ⟨rfl, rfl, hk3, hi3⟩ := hp
      obtain ⟨hr, hl3, hl4, hk4⟩ := fin (some (.exit i)) Y hk3
      exact ⟨_, _, hr, .inr ⟨rfl, hIx _ _ _ hi3 (hput Y _ _ hl3), hl4, hk4⟩⟩
    | ret =>
      obtain ⟨rfl, hk3, hi3⟩ := hp
      obtain ⟨hr, hl3, hl4, hk4⟩ := fin (some .ret) Y hk3
      exact ⟨_, _, hr, .inr ⟨rfl, hIx _ _ _ hi3 (hput Y _ _ hl3), hl4, hk4⟩⟩
    | goto t => exact hp.elim
    | panic ch => exact hp.elim
    | outgrown => exact hp.elim
  · -- behind the function
    rintro e X ⟨⟨v, rfl⟩, ⟨hi, hl, hk⟩ | ⟨pre, hpre, hi, hl, hk⟩⟩
    · have hr := run_endLoop (P := P) hl (by rw [hrec]; simp)
      refine ⟨none, _, by rw [hrec] at hr; exact hr, hdone _ _ (Nat.le_refl _) (hI _ _ _ hi (hput X _ _ hl)) ((World.putObj_heap_other (by omega)).trans hk)⟩
    · have hr := run_endLoop (P := P) hl (by rw [hrec]; simp)
      refine ⟨some (if isRet then Code.ret else Code.exit id), _, by rw [hrec] at hr; exact hr, wpIn_wide.2 ?_⟩
      cases isRet with
      | true => exact wp_ret (hstop _ _ _ (Nat.le_refl _) hpre (hIx _ _ _ hi (hput X _ _ hl)) ((World.putObj_heap_other (by omega)).trans hk))
      | false => exact wp_exit (hstop _ _ _ (Nat.le_refl _) hpre (hIx _ _ _ hi (hput X _ _ hl)) ((World.putObj_heap_other (by omega)).trans hk))
end Go.Proofs.Ytakbpgljbbkmkaa
