import Derived.Test.YtahdlkdiadlgeaaGreatGAE
import Derived.RangeFuncNested
/- A loop over a function ('for x := range f(..)'), where the function keeps variables of its own between two rounds, and the loop's body ends or breaks. -/
namespace Go.Proofs.YtahdlkdiadlgeaaGreat
open Go.RowKit

/-- What a function that is ranged over promises: it hands 'full' to the rounds, one after the other, as long as they ask for more. The rounds keep Kp; what the caller holds (J, Jx) it holds through whatever leaves alone what lay when the function was called. -/
def Ranged {α : Type} (P : Program) (g : Nat) (lb : Array Value) (encs : α → Array Value) (Kp : World → World → Prop) (full : List α) (w : World) : Prop :=
  ∀ (l : Nat) (J Jx : List α → World → Prop) (W : World), Below w.heap.size w W → (∀ s X Y, J s X → Below W.heap.size X Y → J s Y) → (∀ s X Y, Jx s X → Below W.heap.size X Y → Jx s Y) →
    (∀ pre x X, pre ++ [x] <+: full → J pre X → YieldAt Fence.wide 7 P l (encs x) X fun e Y =>
      (e = .returned (.bool true) ∧ J (pre ++ [x]) Y ∧ Kp X Y) ∨ (e = .returned (.bool false) ∧ Jx (pre ++ [x]) Y)) →
    J [] W →
    CallsIn Fence.wide 8 P g (#[.func (.yield l) #[] #[]] ++ lb) W fun e Y => (∃ v, e = .returned v) ∧ (J full Y ∨ ∃ pre, pre <+: full ∧ Jx pre Y)

/-- How a round's body is left: at its end, or by the one break. -/
def roundEnds {α : Type} (B id : Nat) (Kp : World → World → Prop) (I Ix : List α → World → Prop) (xs : List α) (X : World) : Exit → Act → World → Prop
  | .normal, _, Y => KeepsFrom B X Y ∧ Kp X Y ∧ I xs Y
  | .exit i, _, Y => i = id ∧ KeepsFrom B X Y ∧ Ix xs Y
  | _, _, _ => False

theorem putObj_below {B : Nat} {X : World} {l : Nat} {o' : Obj} (hB : B ≤ l) (hs : B ≤ X.heap.size) : Below B X (X.putObj l o') :=
  (Below.refl B X).grown (grownBy_putObj' X l o') hs (fun k e => by cases e; exact hB)

theorem wp_ranged {α : Type} {P : Program} {g : Operand} {ps : Array Tmp} {assign body : Code} {Q : Exit → Act → World → Prop} {a : Act} {w : World}
    {gf : Nat} {lb : Array Value} (hg : a.eval g = .func (.func gf) #[] lb) (eg : ∀ args w, (callFunc gf args).run P w = .ok (.enter gf args) w)
    {encs : α → Array Value} {Kp : World → World → Prop} {full : List α} {w0 : World} (hseq : Ranged P gf lb encs Kp full w0) (hb0 : Below w0.heap.size w0 w)
    (hKt : ∀ {X Y Z : World}, Kp X Y → Kp Y Z → Kp X Z) (hKb : ∀ (X : World) (l : Nat) (o o' : Obj), w.heap.size ≤ l → X.heap[l]? = some o → o.isCells = false → Kp X (X.putObj l o')) (hps : ∀ x, (encs x).size = ps.size)
    (I Ix : List α → World → Prop) (id : Nat) (hI : ∀ s X Y, I s X → Below w.heap.size X Y → I s Y) (hIx : ∀ s X Y, Ix s X → Below w.heap.size X Y → Ix s Y) (h0 : I [] w) (a₁ : α → Act)
    (hassign : ∀ (l : Nat) (x : α) (X : World) (K : Act → World → Prop), K (a₁ x) X →
      assign.wpIn (Fence.wide.inRound l) 7 P (Exit.then K (fun _ _ _ => False)) { tmps := (ps.zip (encs x)).foldl (fun t (p, v) => t.setIfInBounds p v) a.tmps, defers := [] } X)
    (hbody : ∀ (l : Nat) (pre : List α) (x : α) (X : World), pre ++ [x] <+: full → I pre X → w.heap.size ≤ X.heap.size → body.wpIn (Fence.wide.inRound l) 7 P (roundEnds w.heap.size id Kp I Ix (pre ++ [x]) X) (a₁ x) X)
    (hdone : ∀ (D : Nat) (X : World), w.heap.size ≤ D → I full X → X.heap[D]? = some (.deferred (some [])) → Q .normal { a with defers := { target := .collected D, args := #[] } :: a.defers } X)
    (hstop : ∀ (D : Nat) (pre : List α) (X : World), w.heap.size ≤ D → pre <+: full → Ix pre X → X.heap[D]? = some (.deferred (some [])) → Q (.exit id) { a with defers := { target := .collected D, args := #[] } :: a.defers } X) :
    (Code.rangeFunc g ps assign body).wp P Q a w := by
  refine (wpIn_wide (n := 9)).1 (wpIn_rangeFunc ?_)
  intro fn hfn
  obtain ⟨rec, hrec⟩ : ∃ rec : LoopState → Option Code → Loop, rec = fun st pe => { state := st, pending := pe, fn, tmps := a.tmps, params := ps, assign, body, defers := w.heap.size } := ⟨_, rfl⟩
  obtain ⟨W1, hW1⟩ : ∃ W1, (w.alloc (.deferred (some []))).alloc (.loop (rec .ready none)) = W1 := ⟨_, rfl⟩
  have hs1 : W1.heap.size = w.heap.size + 2 := by rw [← hW1]; simp
  have hB1 : Below w.heap.size w W1 := by rw [← hW1]; exact ((Below.refl _ w).alloc (Nat.le_refl _) _).alloc (by simp) _
  have hL1 : W1.heap[w.heap.size + 1]? = some (.loop (rec .ready none)) := by
    have h := World.alloc_heap_new (w.alloc (.deferred (some []))) (.loop (rec .ready none))
    rw [World.size_alloc, hW1] at h
    exact h
  have hK1 : W1.heap[w.heap.size]? = some (.deferred (some [])) := by
    rw [← hW1]
    exact (Below.heap_alloc _ _ _ (by simp)).trans (World.alloc_heap_new w _)
  have hput : ∀ (X : World) (o o' : Obj), X.heap[w.heap.size + 1]? = some o → Below w.heap.size X (X.putObj (w.heap.size + 1) o') := fun X o o' h =>
    putObj_below (Nat.le_succ _) (by have := (Array.getElem?_eq_some_iff.1 h).1; omega)
  refine ⟨w.heap.size + 1, [{ target := .collected w.heap.size, args := #[] }], W1, { target := .fn (.func gf) lb, args := #[.func (.yield (w.heap.size + 1)) #[] #[]] }, W1, gf, #[.func (.yield (w.heap.size + 1)) #[] #[]] ++ lb, W1, ?_, ?_, fun _ _ => trivial, ?_, fun _ => by omega, ?_⟩
  · rw [← hW1, hrec]
    exact run_enterLoop_outer _ _ _ _ _
  · simp only [resolve, hg]
    simp [go_sem]
  · simp [invoke, go_sem, eg]
  refine (hseq (w.heap.size + 1)
    (fun pre X => I pre X ∧ X.heap[w.heap.size + 1]? = some (.loop (rec .ready none)) ∧ X.heap[w.heap.size]? = some (.deferred (some [])))
    (fun pre X => Ix pre X ∧ X.heap[w.heap.size + 1]? = some (.loop (rec .done (some (.exit id)))) ∧ X.heap[w.heap.size]? = some (.deferred (some [])))
    W1 (hb0.trans (hB1.mono hb0.size))
    (fun s X Y h hb => ⟨hI s X Y h.1 (hb.mono (by omega)), (hb.block _ (by omega)).trans h.2.1, (hb.block _ (by omega)).trans h.2.2⟩)
    (fun s X Y h hb => ⟨hIx s X Y h.1 (hb.mono (by omega)), (hb.block _ (by omega)).trans h.2.1, (hb.block _ (by omega)).trans h.2.2⟩)
    ?_ ⟨hI _ _ _ h0 hB1, hL1, hK1⟩).mono ?_
  · -- one round
    rintro pre x X hpre ⟨hi, hl, hk⟩
    have hlt : w.heap.size + 1 < X.heap.size := (Array.getElem?_eq_some_iff.1 hl).1
    have hy := run_yield (P := P) (args := encs x) hl (by rw [hrec]; exact hps x)
    rw [hrec] at hy
    refine ⟨fn, _, assign, body, hy, roundIn_of_wpIn hfn (hassign _ x X _ ⟨_, run_beginRound hl (by rw [hrec]), ?_⟩)⟩
    obtain ⟨X2, hX2⟩ : ∃ X2, X.putObj (w.heap.size + 1) (.loop { rec .ready none with state := .busy }) = X2 := ⟨_, rfl⟩
    have hl2 : X2.heap[w.heap.size + 1]? = some (.loop { rec .ready none with state := .busy }) := by rw [← hX2]; exact World.putObj_heap_same hlt
    have hk2 : X2.heap[w.heap.size]? = some (.deferred (some [])) := by rw [← hX2]; exact (World.putObj_heap_other (by omega)).trans hk
    have hw2 : Kp X X2 := by rw [← hX2]; exact hKb _ _ _ _ (Nat.le_succ _) hl rfl
    have hi2 : I pre X2 := by rw [← hX2]; exact hI _ _ _ hi (hput X _ _ hl)
    have hz2 : w.heap.size ≤ X2.heap.size := by have := (Array.getElem?_eq_some_iff.1 hl2).1; omega
    have fin : ∀ (jump : Option Code) (Y : World), KeepsFrom w.heap.size X2 Y →
        (Instr.endRound (w.heap.size + 1) jump).run P Y = .ok (.bool jump.isNone) (Y.putObj (w.heap.size + 1) (.loop (rec (if jump.isNone then .ready else .done) jump))) ∧
        Y.heap[w.heap.size + 1]? = some (.loop { rec .ready none with state := .busy }) ∧
        (Y.putObj (w.heap.size + 1) (.loop (rec (if jump.isNone then .ready else .done) jump))).heap[w.heap.size + 1]? = some (.loop (rec (if jump.isNone then .ready else .done) jump)) ∧
        (Y.putObj (w.heap.size + 1) (.loop (rec (if jump.isNone then .ready else .done) jump))).heap[w.heap.size]? = some (.deferred (some [])) := fun jump Y hY => by
      have hl3 := hY.same _ _ (Nat.le_succ _) hl2 rfl
      have hr := run_endRound (P := P) jump hl3
      rw [hrec] at hr ⊢
      rw [hrec] at hl3
      exact ⟨hr, hl3, World.putObj_heap_same (Array.getElem?_eq_some_iff.1 hl3).1, (World.putObj_heap_other (by omega)).trans (hY.same _ _ (Nat.le_refl _) hk2 rfl)⟩
    rw [hX2]
    refine wpIn_mono (hbody _ pre x X2 hpre hi2 hz2) ?_
    rintro e a3 Y hp
    cases e with
    | normal =>
      obtain ⟨hk3, hkp, hi3⟩ := hp
      obtain ⟨hr, hl3, hl4, hk4⟩ := fin none Y hk3
      exact ⟨_, _, hr, .inl ⟨rfl, ⟨hI _ _ _ hi3 (hput Y _ _ hl3), hl4, hk4⟩, hKt (hKt hw2 hkp) (hKb _ _ _ _ (Nat.le_succ _) hl3 rfl)⟩⟩
    | exit i =>
      obtain ⟨rfl, hk3, hi3⟩ := hp
      obtain ⟨hr, hl3, hl4, hk4⟩ := fin (some (.exit i)) Y hk3
      exact ⟨_, _, hr, .inr ⟨rfl, hIx _ _ _ hi3 (hput Y _ _ hl3), hl4, hk4⟩⟩
    | ret => exact hp.elim
    | goto t => exact hp.elim
    | panic ch => exact hp.elim
    | outgrown => exact hp.elim
  · -- behind the function
    rintro e X ⟨⟨v, rfl⟩, ⟨hi, hl, hk⟩ | ⟨pre, hpre, hi, hl, hk⟩⟩
    · have hr := run_endLoop (P := P) hl (by rw [hrec]; simp)
      refine ⟨none, _, by rw [hrec] at hr; exact hr, hdone _ _ (Nat.le_refl _) (hI _ _ _ hi (hput X _ _ hl)) ((World.putObj_heap_other (by omega)).trans hk)⟩
    · have hr := run_endLoop (P := P) hl (by rw [hrec]; simp)
      refine ⟨some (.exit id), _, by rw [hrec] at hr; exact hr, wpIn_wide.2 (wp_exit (hstop _ _ _ (Nat.le_refl _) hpre (hIx _ _ _ hi (hput X _ _ hl)) ((World.putObj_heap_other (by omega)).trans hk)))⟩
end Go.Proofs.YtahdlkdiadlgeaaGreat

/- A loop over a function whose loop variable may lie in a block of its own, and whose rounds end, break or return. -/
namespace Go.Proofs.YtahdlkdiadlgeaaGreat
open Go.RowKit

/-- How a round's body is left: at its end, or by the one break, or by a return. -/
def roundEndsJ {α : Type} (B : Nat) (isRet : Bool) (id : Nat) (Kp : World → World → Prop) (I Ix : List α → World → Prop) (xs : List α) (X : World) : Exit → Act → World → Prop
  | .normal, _, Y => KeepsFrom B X Y ∧ Kp X Y ∧ I xs Y
  | .exit i, _, Y => isRet = false ∧ i = id ∧ KeepsFrom B X Y ∧ Ix xs Y
  | .ret, _, Y => isRet = true ∧ KeepsFrom B X Y ∧ Ix xs Y
  | _, _, _ => False

theorem wp_rangedJ {α : Type} {P : Program} {g : Operand} {ps : Array Tmp} {assign body : Code} {Q : Exit → Act → World → Prop} {a : Act} {w : World}
    {gf : Nat} {lb : Array Value} (hg : a.eval g = .func (.func gf) #[] lb) (eg : ∀ args w, (callFunc gf args).run P w = .ok (.enter gf args) w)
    {encs : α → Array Value} {Kp : World → World → Prop} {full : List α} {w0 : World} (hseq : Ranged P gf lb encs Kp full w0) (hb0 : Below w0.heap.size w0 w)
    (hKt : ∀ {X Y Z : World}, Kp X Y → Kp Y Z → Kp X Z) (hKb : ∀ (X : World) (l : Nat) (o o' : Obj), w.heap.size ≤ l → X.heap[l]? = some o → o.isCells = false → Kp X (X.putObj l o')) (hps : ∀ x, (encs x).size = ps.size)
    (I Ix : List α → World → Prop) (isRet : Bool) (id : Nat) (hI : ∀ s X Y, I s X → Below w.heap.size X Y → I s Y) (hIx : ∀ s X Y, Ix s X → Below w.heap.size X Y → Ix s Y) (h0 : I [] w) (Ax : α → Act → World → Prop)
    (hAx : ∀ x a' X o o', Ax x a' X → X.heap[w.heap.size + 1]? = some o → o.isCells = false → Ax x a' (X.putObj (w.heap.size + 1) o'))
    (hassign : ∀ (l : Nat) (pre : List α) (x : α) (X : World), pre ++ [x] <+: full → I pre X → w.heap.size < X.heap.size →
      assign.wpIn (Fence.wide.inRound l) 7 P (Exit.then (fun a' Y => KeepsFrom w.heap.size X Y ∧ Kp X Y ∧ I pre Y ∧ Ax x a' Y) (fun _ _ _ => False)) { tmps := (ps.zip (encs x)).foldl (fun t (p, v) => t.setIfInBounds p v) a.tmps, defers := [] } X)
    (hbody : ∀ (l : Nat) (pre : List α) (x : α) (a' : Act) (X : World), pre ++ [x] <+: full → I pre X → Ax x a' X → w.heap.size < X.heap.size → body.wpIn (Fence.wide.inRound l) 7 P (roundEndsJ w.heap.size isRet id Kp I Ix (pre ++ [x]) X) a' X)
    (hdone : ∀ (D : Nat) (X : World), w.heap.size ≤ D → I full X → X.heap[D]? = some (.deferred (some [])) → Q .normal { a with defers := { target := .collected D, args := #[] } :: a.defers } X)
    (hstop : ∀ (D : Nat) (pre : List α) (X : World), w.heap.size ≤ D → pre <+: full → Ix pre X → X.heap[D]? = some (.deferred (some [])) → Q (if isRet then .ret else .exit id) { a with defers := { target := .collected D, args := #[] } :: a.defers } X) :
    (Code.rangeFunc g ps assign body).wp P Q a w := by
  refine (wpIn_wide (n := 9)).1 (wpIn_rangeFunc ?_)
  intro fn hfn
  obtain ⟨rec, hrec⟩ : ∃ rec : LoopState → Option Code → Loop, rec = fun st pe => { state := st, pending := pe, fn, tmps := a.tmps, params := ps, assign, body, defers := w.heap.size } := ⟨_, rfl⟩
  obtain ⟨W1, hW1⟩ : ∃ W1, (w.alloc (.deferred (some []))).alloc (.loop (rec .ready none)) = W1 := ⟨_, rfl⟩
  have hs1 : W1.heap.size = w.heap.size + 2 := by rw [← hW1]; simp
  have hB1 : Below w.heap.size w W1 := by rw [← hW1]; exact ((Below.refl _ w).alloc (Nat.le_refl _) _).alloc (by simp) _
  have hL1 : W1.heap[w.heap.size + 1]? = some (.loop (rec .ready none)) := by
    have h := World.alloc_heap_new (w.alloc (.deferred (some []))) (.loop (rec .ready none))
    rw [World.size_alloc, hW1] at h
    exact h
  have hK1 : W1.heap[w.heap.size]? = some (.deferred (some [])) := by
    rw [← hW1]
    exact (Below.heap_alloc _ _ _ (by simp)).trans (World.alloc_heap_new w _)
  have hput : ∀ (X : World) (o o' : Obj), X.heap[w.heap.size + 1]? = some o → Below w.heap.size X (X.putObj (w.heap.size + 1) o') := fun X o o' h =>
    putObj_below (Nat.le_succ _) (by have := (Array.getElem?_eq_some_iff.1 h).1; omega)
  refine ⟨w.heap.size + 1, [{ target := .collected w.heap.size, args := #[] }], W1, { target := .fn (.func gf) lb, args := #[.func (.yield (w.heap.size + 1)) #[] #[]] }, W1, gf, #[.func (.yield (w.heap.size + 1)) #[] #[]] ++ lb, W1, ?_, ?_, fun _ _ => trivial, ?_, fun _ => by omega, ?_⟩
  · rw [← hW1, hrec]
    exact run_enterLoop_outer _ _ _ _ _
  · simp only [resolve, hg]
    simp [go_sem]
  · simp [invoke, go_sem, eg]
  refine (hseq (w.heap.size + 1)
    (fun pre X => I pre X ∧ X.heap[w.heap.size + 1]? = some (.loop (rec .ready none)) ∧ X.heap[w.heap.size]? = some (.deferred (some [])))
    (fun pre X => Ix pre X ∧ X.heap[w.heap.size + 1]? = some (.loop (rec .done (some (if isRet then Code.ret else Code.exit id)))) ∧ X.heap[w.heap.size]? = some (.deferred (some [])))
    W1 (hb0.trans (hB1.mono hb0.size))
    (fun s X Y h hb => ⟨hI s X Y h.1 (hb.mono (by omega)), (hb.block _ (by omega)).trans h.2.1, (hb.block _ (by omega)).trans h.2.2⟩)
    (fun s X Y h hb => ⟨hIx s X Y h.1 (hb.mono (by omega)), (hb.block _ (by omega)).trans h.2.1, (hb.block _ (by omega)).trans h.2.2⟩)
    ?_ ⟨hI _ _ _ h0 hB1, hL1, hK1⟩).mono ?_
  · -- one round
    rintro pre x X hpre ⟨hi, hl, hk⟩
    have hlt : w.heap.size + 1 < X.heap.size := (Array.getElem?_eq_some_iff.1 hl).1
    have hy := run_yield (P := P) (args := encs x) hl (by rw [hrec]; exact hps x)
    rw [hrec] at hy
    refine ⟨fn, _, assign, body, hy, roundIn_of_wpIn hfn (wpIn_mono (hassign _ pre x X hpre hi (by omega)) ?_)⟩
    rintro e a' Y hp
    cases e with
    | exit i => exact hp.elim
    | ret => exact hp.elim
    | goto t => exact hp.elim
    | panic ch => exact hp.elim
    | outgrown => exact hp.elim
    | normal =>
    obtain ⟨hkY, hpY, hiY, hAY⟩ := hp
    have hlY : Y.heap[w.heap.size + 1]? = some (.loop (rec .ready none)) := hkY.same (w.heap.size + 1) (.loop (rec .ready none)) (Nat.le_succ _) hl rfl
    have hkY' : Y.heap[w.heap.size]? = some (.deferred (some [])) := hkY.same w.heap.size (.deferred (some [])) (Nat.le_refl _) hk rfl
    refine ⟨_, run_beginRound hlY (by rw [hrec]), ?_⟩
    have hlt : w.heap.size + 1 < Y.heap.size := (Array.getElem?_eq_some_iff.1 hlY).1
    have hl := hlY
    have hk := hkY'
    have hi := hiY
    have hw2 : Kp X (Y.putObj (w.heap.size + 1) (.loop { rec .ready none with state := .busy })) := hKt hpY (hKb _ _ _ _ (Nat.le_succ _) hlY rfl)
    have hA2 : Ax x a' (Y.putObj (w.heap.size + 1) (.loop { rec .ready none with state := .busy })) := hAx _ _ _ _ _ hAY hlY rfl
    obtain ⟨X2, hX2⟩ : ∃ X2, Y.putObj (w.heap.size + 1) (.loop { rec .ready none with state := .busy }) = X2 := ⟨_, rfl⟩
    have hl2 : X2.heap[w.heap.size + 1]? = some (.loop { rec .ready none with state := .busy }) := by rw [← hX2]; exact World.putObj_heap_same hlt
    have hk2 : X2.heap[w.heap.size]? = some (.deferred (some [])) := by rw [← hX2]; exact (World.putObj_heap_other (by omega)).trans hk
    rw [hX2] at hw2 hA2
    have hi2 : I pre X2 := by rw [← hX2]; exact hI _ _ _ hi (hput Y _ _ hl)
    have hz2 : w.heap.size < X2.heap.size := by have := (Array.getElem?_eq_some_iff.1 hl2).1; omega
    have fin : ∀ (jump : Option Code) (Y : World), KeepsFrom w.heap.size X2 Y →
        (Instr.endRound (w.heap.size + 1) jump).run P Y = .ok (.bool jump.isNone) (Y.putObj (w.heap.size + 1) (.loop (rec (if jump.isNone then .ready else .done) jump))) ∧
        Y.heap[w.heap.size + 1]? = some (.loop { rec .ready none with state := .busy }) ∧
        (Y.putObj (w.heap.size + 1) (.loop (rec (if jump.isNone then .ready else .done) jump))).heap[w.heap.size + 1]? = some (.loop (rec (if jump.isNone then .ready else .done) jump)) ∧
        (Y.putObj (w.heap.size + 1) (.loop (rec (if jump.isNone then .ready else .done) jump))).heap[w.heap.size]? = some (.deferred (some [])) := fun jump Y hY => by
      have hl3 := hY.same _ _ (Nat.le_succ _) hl2 rfl
      have hr := run_endRound (P := P) jump hl3
      rw [hrec] at hr ⊢
      rw [hrec] at hl3
      exact ⟨hr, hl3, World.putObj_heap_same (Array.getElem?_eq_some_iff.1 hl3).1, (World.putObj_heap_other (by omega)).trans (hY.same _ _ (Nat.le_refl _) hk2 rfl)⟩
    rw [hX2]
    refine wpIn_mono (hbody _ pre x a' X2 hpre hi2 hA2 hz2) ?_
    rintro e a3 Y hp
    cases e with
    | normal =>
      obtain ⟨hk3, hkp, hi3⟩ := hp
      obtain ⟨hr, hl3, hl4, hk4⟩ := fin none Y hk3
      exact ⟨_, _, hr, .inl ⟨rfl, ⟨hI _ _ _ hi3 (hput Y _ _ hl3), hl4, hk4⟩, hKt (hKt hw2 hkp) (hKb _ _ _ _ (Nat.le_succ _) hl3 rfl)⟩⟩
    | exit i =>
      obtain ⟨rfl, rfl, hk3, hi3⟩ := hp
      obtain ⟨hr, hl3, hl4, hk4⟩ := fin (some (.exit i)) Y hk3
      exact ⟨_, _, hr, .inr ⟨rfl, hIx _ _ _ hi3 (hput Y _ _ hl3), hl4, hk4⟩⟩
    | ret =>
      obtain ⟨rfl, hk3, hi3⟩ := hp
      obtain ⟨hr, hl3, hl4, hk4⟩ := fin (some .ret) Y hk3
      exact ⟨_, _, hr, .inr ⟨rfl, hIx _ _ _ hi3 (hput Y _ _ hl3), hl4, hk4⟩⟩
    | goto t => exact hp.elim
    | panic ch => exact hp.elim
    | outgrown => exact hp.elim
  · -- behind the function
    rintro e X ⟨⟨v, rfl⟩, ⟨hi, hl, hk⟩ | ⟨pre, hpre, hi, hl, hk⟩⟩
    · have hr := run_endLoop (P := P) hl (by rw [hrec]; simp)
      refine ⟨none, _, by rw [hrec] at hr; exact hr, hdone _ _ (Nat.le_refl _) (hI _ _ _ hi (hput X _ _ hl)) ((World.putObj_heap_other (by omega)).trans hk)⟩
    · have hr := run_endLoop (P := P) hl (by rw [hrec]; simp)
      refine ⟨some (if isRet then Code.ret else Code.exit id), _, by rw [hrec] at hr; exact hr, wpIn_wide.2 ?_⟩
      cases isRet with
      | true => exact wp_ret (hstop _ _ _ (Nat.le_refl _) hpre (hIx _ _ _ hi (hput X _ _ hl)) ((World.putObj_heap_other (by omega)).trans hk))
      | false => exact wp_exit (hstop _ _ _ (Nat.le_refl _) hpre (hIx _ _ _ hi (hput X _ _ hl)) ((World.putObj_heap_other (by omega)).trans hk))
end Go.Proofs.YtahdlkdiadlgeaaGreat

/- A loop over a function, for functions that keep memory of their own of any size: the blocks that the rounds have made are told apart, all others are the function's. -/
namespace Go.Proofs.YtahdlkdiadlgeaaGreat
open Go.RowKit

/-- What the function does between two rounds: it leaves alone what lay before n, and what the rounds have made. -/
structure Ac (n : Nat) (R : Nat → Prop) (X Y : World) : Prop where
  os : Y.os = X.os
  tape : Y.tape = X.tape
  output : Y.output = X.output
  size : X.heap.size ≤ Y.heap.size
  same : ∀ k, k < X.heap.size → (k < n ∨ R k) → Y.heap[k]? = X.heap[k]?
theorem Ac.refl (n : Nat) (R : Nat → Prop) (X : World) : Ac n R X X := ⟨rfl, rfl, rfl, Nat.le_refl _, fun _ _ _ => rfl⟩
theorem Ac.trans {n : Nat} {R : Nat → Prop} {X Y Z : World} (h : Ac n R X Y) (k : Ac n R Y Z) : Ac n R X Z :=
  ⟨k.os.trans h.os, k.tape.trans h.tape, k.output.trans h.output, Nat.le_trans h.size k.size, fun i hi hn => (k.same i (Nat.lt_of_lt_of_le hi h.size) hn).trans (h.same i hi hn)⟩
theorem Ac.ofBelow {n : Nat} {R : Nat → Prop} {X Y : World} (h : Below X.heap.size X Y) : Ac n R X Y := ⟨h.os, h.tape, h.output, h.size, fun i hi _ => h.block i hi⟩
theorem Ac.alloc {n : Nat} {R : Nat → Prop} {X Y : World} (h : Ac n R X Y) (o : Obj) : Ac n R X (Y.alloc o) := h.trans (.ofBelow ((Below.refl _ _).alloc (Nat.le_refl _) _))
theorem Ac.less {n m : Nat} {R R2 : Nat → Prop} {X Y : World} (h : Ac n R X Y) (hn : m ≤ n) (hR : ∀ k, R2 k → k < n ∨ R k) : Ac m R2 X Y :=
  ⟨h.os, h.tape, h.output, h.size, fun i hi hk => h.same i hi (hk.elim (fun h => .inl (by omega)) (hR i))⟩
theorem Ac.putObj {n : Nat} {R : Nat → Prop} {X : World} {l : Nat} (h1 : n ≤ l) (h2 : ¬ R l) (o : Obj) : Ac n R X (X.putObj l o) :=
  ⟨rfl, rfl, rfl, by simp, fun k _ hk => World.putObj_heap_other (fun e => by subst e; rcases hk with hk | hk; omega; exact h2 hk)⟩
theorem Ac.setCell {n : Nat} {R : Nat → Prop} {X : World} {p : Addr} (h1 : n ≤ p.block) (h2 : ¬ R p.block) (v : Value) : Ac n R X (X.setCell p v) :=
  ⟨rfl, rfl, rfl, by simp [World.setCell], fun k _ hk => Below.heap_setCell X p v k (fun e => by subst e; rcases hk with hk | hk; omega; exact h2 hk)⟩
theorem Ac.grown {n : Nat} {R : Nat → Prop} {X Y : World} {row : Option Nat} (hg : X.grownBy Y row) (hr : ∀ j, row = some j → n ≤ j ∧ ¬ R j) : Ac n R X Y :=
  ⟨hg.os, hg.tape, hg.output, hg.size, fun k hk hn => hg.block k hk (fun e => by have := hr k e.symm; rcases hn with hn | hn; omega; exact this.2 hn)⟩
theorem Ac.cell {n : Nat} {R : Nat → Prop} {X Y : World} (h : Ac n R X Y) {p : Addr} {v : Value} (hp : p.block < n ∨ R p.block) (hc : X.cell? p = some v) : Y.cell? p = some v :=
  (World.cell?_of_block (w := X) (h.same p.block (World.block_lt_of_cell? _ _ hc) hp)).trans hc
theorem Ac.frozen {n : Nat} {R : Nat → Prop} {X Y : World} (h : Ac n R X Y) {p : Addr} {v : Value} (hp : p.block < n ∨ R p.block) (hc : X.cell? p = some v) : Y.frozen? p = X.frozen? p :=
  World.frozen?_of_block (w := X) (h.same p.block (World.block_lt_of_cell? _ _ hc) hp)
/-- What a round leaves alone: the blocks of a set, and from n on all that the rounds haven't made. -/
structure KrR (S : Nat → Prop) (n : Nat) (R : Nat → Prop) (X Y : World) : Prop where
  os : Y.os = X.os
  tape : Y.tape = X.tape
  output : Y.output = X.output
  size : X.heap.size ≤ Y.heap.size
  same : ∀ k, k < X.heap.size → (S k ∨ n ≤ k ∧ ¬ R k) → Y.heap[k]? = X.heap[k]?
theorem KrR.refl (S : Nat → Prop) (n : Nat) (R : Nat → Prop) (X : World) : KrR S n R X X := ⟨rfl, rfl, rfl, Nat.le_refl _, fun _ _ _ => rfl⟩
theorem KrR.trans {S : Nat → Prop} {n : Nat} {R : Nat → Prop} {X Y Z : World} (h : KrR S n R X Y) (k : KrR S n R Y Z) : KrR S n R X Z :=
  ⟨k.os.trans h.os, k.tape.trans h.tape, k.output.trans h.output, Nat.le_trans h.size k.size, fun i hi hn => (k.same i (Nat.lt_of_lt_of_le hi h.size) hn).trans (h.same i hi hn)⟩
theorem KrR.ofBelow {S : Nat → Prop} {n : Nat} {R : Nat → Prop} {X Y : World} (h : Below X.heap.size X Y) : KrR S n R X Y := ⟨h.os, h.tape, h.output, h.size, fun i hi _ => h.block i hi⟩
theorem KrR.alloc {S : Nat → Prop} {n : Nat} {R : Nat → Prop} {X Y : World} (h : KrR S n R X Y) (o : Obj) : KrR S n R X (Y.alloc o) := h.trans (.ofBelow ((Below.refl _ _).alloc (Nat.le_refl _) _))
theorem KrR.wide {S T : Nat → Prop} {n m : Nat} {R R2 : Nat → Prop} {X Y : World} (h : KrR S m R2 X Y) (hS : ∀ k, k < X.heap.size → T k → S k ∨ m ≤ k ∧ ¬ R2 k) (hR : ∀ k, k < X.heap.size → n ≤ k → ¬ R k → S k ∨ m ≤ k ∧ ¬ R2 k) : KrR T n R X Y :=
  ⟨h.os, h.tape, h.output, h.size, fun i hi hn => h.same i hi (hn.elim (hS i hi) (fun hn => hR i hi hn.1 hn.2))⟩
theorem KrR.setCell {S : Nat → Prop} {n : Nat} {R : Nat → Prop} {X Y : World} {p : Addr} (h : KrR S n R X Y) (h1 : ¬ S p.block) (h2 : p.block < n ∨ R p.block ∨ X.heap.size ≤ p.block) (v : Value) : KrR S n R X (Y.setCell p v) :=
  ⟨h.os, h.tape, h.output, by have := h.size; simpa using this, fun k hk hn => (Below.heap_setCell Y p v k (fun e => by
    subst e
    rcases hn with hn | ⟨hn, hr⟩
    · exact h1 hn
    · rcases h2 with h2 | h2 | h2
      · omega
      · exact hr h2
      · omega)).trans (h.same k hk hn)⟩
theorem KrR.grown {S : Nat → Prop} {n : Nat} {R : Nat → Prop} {X Y Z : World} {row : Option Nat} (h : KrR S n R X Y) (hg : Y.grownBy Z row) (hr : ∀ j, row = some j → ¬ S j ∧ (j < n ∨ R j ∨ X.heap.size ≤ j)) : KrR S n R X Z :=
  ⟨hg.os.trans h.os, hg.tape.trans h.tape, hg.output.trans h.output, Nat.le_trans h.size hg.size, fun k hk hn => (hg.block k (Nat.lt_of_lt_of_le hk h.size) (fun e => by
    obtain ⟨a, b⟩ := hr k e.symm
    rcases hn with hn | ⟨hn, hr⟩
    · exact a hn
    · rcases b with b | b | b
      · omega
      · exact hr b
      · omega)).trans (h.same k hk hn)⟩
theorem KrR.cell {S : Nat → Prop} {n : Nat} {R : Nat → Prop} {X Y : World} (h : KrR S n R X Y) {p : Addr} {v : Value} (hp : S p.block ∨ n ≤ p.block ∧ ¬ R p.block) (hc : X.cell? p = some v) : Y.cell? p = some v :=
  (World.cell?_of_block (w := X) (h.same p.block (World.block_lt_of_cell? _ _ hc) hp)).trans hc
theorem KrR.frozen {S : Nat → Prop} {n : Nat} {R : Nat → Prop} {X Y : World} (h : KrR S n R X Y) {p : Addr} {v : Value} (hp : S p.block ∨ n ≤ p.block ∧ ¬ R p.block) (hc : X.cell? p = some v) : Y.frozen? p = X.frozen? p :=
  World.frozen?_of_block (w := X) (h.same p.block (World.block_lt_of_cell? _ _ hc) hp)
/-- The blocks of a set are as they were. -/
structure Stay (S : Nat → Prop) (X Y : World) : Prop where
  size : X.heap.size ≤ Y.heap.size
  same : ∀ k, k < X.heap.size → S k → Y.heap[k]? = X.heap[k]?
theorem Stay.refl (S : Nat → Prop) (X : World) : Stay S X X := ⟨Nat.le_refl _, fun _ _ _ => rfl⟩
theorem Stay.trans {S : Nat → Prop} {X Y Z : World} (h : Stay S X Y) (k : Stay S Y Z) : Stay S X Z :=
  ⟨Nat.le_trans h.size k.size, fun i hi hn => (k.same i (Nat.lt_of_lt_of_le hi h.size) hn).trans (h.same i hi hn)⟩
theorem Stay.ofBelow {S : Nat → Prop} {X Y : World} (h : Below X.heap.size X Y) : Stay S X Y := ⟨h.size, fun i hi _ => h.block i hi⟩
theorem Stay.alloc {S : Nat → Prop} {X Y : World} (h : Stay S X Y) (o : Obj) : Stay S X (Y.alloc o) :=
  h.trans (.ofBelow ((Below.refl _ _).alloc (Nat.le_refl _) _))
theorem KrR.stay {S : Nat → Prop} {n : Nat} {R : Nat → Prop} {X Y : World} (h : KrR S n R X Y) : Stay S X Y :=
  ⟨h.size, fun i hi hn => h.same i hi (.inl hn)⟩
theorem Ac.stay {S : Nat → Prop} {n : Nat} {R : Nat → Prop} {X Y : World} (h : Ac n R X Y) (hS : ∀ k, S k → k < n) : Stay S X Y :=
  ⟨h.size, fun i hi hn => h.same i hi (.inl (hS i hn))⟩
theorem Ac.below {n m : Nat} {R : Nat → Prop} {X Y : World} (h : Ac n R X Y) (hm : m ≤ n) (hX : m ≤ X.heap.size) : Below m X Y :=
  ⟨h.os, h.tape, h.output, h.size, fun i hi => h.same i (by omega) (.inl (by omega))⟩
/-- With what one more round has made. -/
def grow (R : Nat → Prop) (X Y : World) : Nat → Prop := fun k => R k ∨ X.heap.size ≤ k ∧ k < Y.heap.size

/-- What a function that is ranged over promises: it hands 'full' to the rounds, one after the other, as long as they ask for more. -/
def SeqR {α : Type} (P : Program) (g : Nat) (lb : Array Value) (encs : α → Array Value) (S : Nat → Prop) (full : List α) (w : World) : Prop :=
  ∀ (l : Nat) (J Jx : (Nat → Prop) → List α → World → Prop) (W : World), Below w.heap.size w W → (∀ R s X Y, J R s X → Ac W.heap.size R X Y → J R s Y) → (∀ R s X Y, Jx R s X → Ac W.heap.size R X Y → Jx R s Y) →
    (∀ (R : Nat → Prop) pre x X, pre ++ [x] <+: full → (∀ k, R k → W.heap.size ≤ k ∧ k < X.heap.size) → J R pre X → W.heap.size ≤ X.heap.size → YieldAt Fence.wide 7 P l (encs x) X fun e Y =>
      (e = .returned (.bool true) ∧ J (grow R X Y) (pre ++ [x]) Y ∧ KrR S W.heap.size R X Y) ∨ (e = .returned (.bool false) ∧ Jx (grow R X Y) (pre ++ [x]) Y ∧ KrR S W.heap.size R X Y)) →
    J (fun _ => False) [] W →
    CallsIn Fence.wide 8 P g (#[.func (.yield l) #[] #[]] ++ lb) W fun e Y => (∃ v, e = .returned v) ∧ ((W.heap.size ≤ Y.heap.size ∧ ∃ R : Nat → Prop, (∀ k, R k → W.heap.size ≤ k ∧ k < Y.heap.size) ∧ J R full Y) ∨ ∃ (R : Nat → Prop) (pre : List α), pre <+: full ∧ (∀ k, R k → W.heap.size ≤ k ∧ k < Y.heap.size) ∧ Jx R pre Y)

/-- How a round's body is left: at its end, or by the one break, or by a return. -/
def roundEndsR {α : Type} (S : Nat → Prop) (n : Nat) (R : Nat → Prop) (isRet : Bool) (id : Nat) (I Ix : (Nat → Prop) → List α → World → Prop) (xs : List α) (X : World) : Exit → Act → World → Prop
  | .normal, _, Y => KrR S n R X Y ∧ I (grow R X Y) xs Y
  | .exit i, _, Y => isRet = false ∧ i = id ∧ KrR S n R X Y ∧ Ix (grow R X Y) xs Y
  | .ret, _, Y => isRet = true ∧ KrR S n R X Y ∧ Ix (grow R X Y) xs Y
  | _, _, _ => False

theorem wp_seqR {α : Type} {P : Program} {g : Operand} {ps : Array Tmp} {assign body : Code} {Q : Exit → Act → World → Prop} {a : Act} {w : World}
    {gf : Nat} {lb : Array Value} (hg : a.eval g = .func (.func gf) #[] lb) (eg : ∀ args w, (callFunc gf args).run P w = .ok (.enter gf args) w)
    {encs : α → Array Value} {S : Nat → Prop} {full : List α} {w0 : World} (hseq : SeqR P gf lb encs S full w0) (hS : ∀ k, S k → k < w.heap.size) (hb0 : Below w0.heap.size w0 w)
    (hps : ∀ x, (encs x).size = ps.size)
    (I Ix : (Nat → Prop) → List α → World → Prop) (isRet : Bool) (id : Nat) (hmono : ∀ R R2 s X, (∀ k : Nat, R k → R2 k) → I R s X → I R2 s X) (hmonox : ∀ R R2 s X, (∀ k : Nat, R k → R2 k) → Ix R s X → Ix R2 s X) (hI : ∀ R s X Y, I R s X → Ac w.heap.size R X Y → I R s Y) (hIx : ∀ R s X Y, Ix R s X → Ac w.heap.size R X Y → Ix R s Y) (h0 : I (fun _ => False) [] w) (Ax : (Nat → Prop) → α → Act → World → Prop)
    (hAx : ∀ R x a' X o o', ¬ R (w.heap.size + 1) → Ax R x a' X → X.heap[w.heap.size + 1]? = some o → o.isCells = false → Ax R x a' (X.putObj (w.heap.size + 1) o'))
    (hassign : ∀ (l : Nat) (R : Nat → Prop) (pre : List α) (x : α) (X : World), pre ++ [x] <+: full → (∀ k, R k → w.heap.size + 2 ≤ k ∧ k < X.heap.size) → I R pre X → w.heap.size + 2 ≤ X.heap.size →
      assign.wpIn (Fence.wide.inRound l) 7 P (Exit.then (fun a' Y => KrR S w.heap.size R X Y ∧ I R pre Y ∧ Ax (grow R X Y) x a' Y) (fun _ _ _ => False)) { tmps := (ps.zip (encs x)).foldl (fun t (p, v) => t.setIfInBounds p v) a.tmps, defers := [] } X)
    (hbody : ∀ (l : Nat) (R : Nat → Prop) (pre : List α) (x : α) (a' : Act) (X : World), pre ++ [x] <+: full → (∀ k, R k → w.heap.size + 2 ≤ k ∧ k < X.heap.size) → I R pre X → Ax R x a' X → w.heap.size + 2 ≤ X.heap.size → body.wpIn (Fence.wide.inRound l) 7 P (roundEndsR S w.heap.size R isRet id I Ix (pre ++ [x]) X) a' X)
    (hdone : ∀ (D : Nat) (X : World), D = w.heap.size → w.heap.size + 2 ≤ X.heap.size → (∃ R : Nat → Prop, (∀ k, R k → w.heap.size + 2 ≤ k ∧ k < X.heap.size) ∧ I R full X) → X.heap[D]? = some (.deferred (some [])) → Q .normal { a with defers := { target := .collected D, args := #[] } :: a.defers } X)
    (hstop : ∀ (D : Nat) (R : Nat → Prop) (pre : List α) (X : World), D = w.heap.size → pre <+: full → (∀ k, R k → w.heap.size + 2 ≤ k ∧ k < X.heap.size) → Ix R pre X → X.heap[D]? = some (.deferred (some [])) → Q (if isRet then .ret else .exit id) { a with defers := { target := .collected D, args := #[] } :: a.defers } X) :
    (Code.rangeFunc g ps assign body).wp P Q a w := by
  refine (wpIn_wide (n := 9)).1 (wpIn_rangeFunc ?_)
  intro fn hfn
  obtain ⟨rec, hrec⟩ : ∃ rec : LoopState → Option Code → Loop, rec = fun st pe => { state := st, pending := pe, fn, tmps := a.tmps, params := ps, assign, body, defers := w.heap.size } := ⟨_, rfl⟩
  obtain ⟨W1, hW1⟩ : ∃ W1, (w.alloc (.deferred (some []))).alloc (.loop (rec .ready none)) = W1 := ⟨_, rfl⟩
  have hs1 : W1.heap.size = w.heap.size + 2 := by rw [← hW1]; simp
  have hB1 : Below w.heap.size w W1 := by rw [← hW1]; exact ((Below.refl _ w).alloc (Nat.le_refl _) _).alloc (by simp) _
  have hL1 : W1.heap[w.heap.size + 1]? = some (.loop (rec .ready none)) := by
    have h := World.alloc_heap_new (w.alloc (.deferred (some []))) (.loop (rec .ready none))
    rw [World.size_alloc, hW1] at h
    exact h
  have hK1 : W1.heap[w.heap.size]? = some (.deferred (some [])) := by
    rw [← hW1]
    exact (Below.heap_alloc _ _ _ (by simp)).trans (World.alloc_heap_new w _)
  have hput : ∀ (R : Nat → Prop) (X : World) (o' : Obj), ¬ R (w.heap.size + 1) → Ac w.heap.size R X (X.putObj (w.heap.size + 1) o') := fun R X o' hR => Ac.putObj (Nat.le_succ _) hR _
  have hpk : ∀ (R : Nat → Prop) (X Y : World) (o' : Obj), KrR S w.heap.size R X Y → KrR S W1.heap.size R X (Y.putObj (w.heap.size + 1) o') := fun R X Y o' h =>
    ⟨h.os, h.tape, h.output, by have := h.size; simpa using this, fun k hk hn => (World.putObj_heap_other (by
      rcases hn with hn | hn
      · have := hS k hn; omega
      · omega)).trans (h.same k hk (hn.imp (fun h => h) (fun hn => ⟨by omega, hn.2⟩)))⟩
  refine ⟨w.heap.size + 1, [{ target := .collected w.heap.size, args := #[] }], W1, { target := .fn (.func gf) lb, args := #[.func (.yield (w.heap.size + 1)) #[] #[]] }, W1, gf, #[.func (.yield (w.heap.size + 1)) #[] #[]] ++ lb, W1, ?_, ?_, fun _ _ => trivial, ?_, fun _ => by omega, ?_⟩
  · rw [← hW1, hrec]
    exact run_enterLoop_outer _ _ _ _ _
  · simp only [resolve, hg]
    simp [go_sem]
  · simp [invoke, go_sem, eg]
  refine (hseq (w.heap.size + 1)
    (fun R pre X => I R pre X ∧ X.heap[w.heap.size + 1]? = some (.loop (rec .ready none)) ∧ X.heap[w.heap.size]? = some (.deferred (some [])))
    (fun R pre X => Ix R pre X ∧ X.heap[w.heap.size + 1]? = some (.loop (rec .done (some (if isRet then Code.ret else Code.exit id)))) ∧ X.heap[w.heap.size]? = some (.deferred (some [])))
    W1 (hb0.trans (hB1.mono hb0.size))
    (fun R s X Y h hb => ⟨hI R s X Y h.1 (hb.less (by omega) (fun k hk => .inr hk)), (hb.same _ (Array.getElem?_eq_some_iff.1 h.2.1).1 (.inl (by omega))).trans h.2.1, (hb.same _ (Array.getElem?_eq_some_iff.1 h.2.2).1 (.inl (by omega))).trans h.2.2⟩)
    (fun R s X Y h hb => ⟨hIx R s X Y h.1 (hb.less (by omega) (fun k hk => .inr hk)), (hb.same _ (Array.getElem?_eq_some_iff.1 h.2.1).1 (.inl (by omega))).trans h.2.1, (hb.same _ (Array.getElem?_eq_some_iff.1 h.2.2).1 (.inl (by omega))).trans h.2.2⟩)
    ?_ ⟨hI _ _ _ _ h0 (.ofBelow hB1), hL1, hK1⟩).mono ?_
  · -- one round
    rintro R pre x X hpre hRb ⟨hi, hl, hk⟩ hzX
    rw [hs1] at hRb hzX
    have hlt : w.heap.size + 1 < X.heap.size := (Array.getElem?_eq_some_iff.1 hl).1
    have hy := run_yield (P := P) (args := encs x) hl (by rw [hrec]; exact hps x)
    rw [hrec] at hy
    have hRn : ¬ R (w.heap.size + 1) := fun h => by have := hRb _ h; omega
    have hRn0 : ¬ R w.heap.size := fun h => by have := hRb _ h; omega
    refine ⟨fn, _, assign, body, hy, roundIn_of_wpIn hfn (wpIn_mono (hassign _ R pre x X hpre hRb hi hzX) ?_)⟩
    rintro e a' Y hp
    cases e with
    | exit i => exact hp.elim
    | ret => exact hp.elim
    | goto t => exact hp.elim
    | panic ch => exact hp.elim
    | outgrown => exact hp.elim
    | normal =>
    obtain ⟨hkY, hiY, hAY⟩ := hp
    have hsY := hkY.size
    have hlY : Y.heap[w.heap.size + 1]? = some (.loop (rec .ready none)) := (hkY.same (w.heap.size + 1) (Array.getElem?_eq_some_iff.1 hl).1 (.inr ⟨Nat.le_succ _, hRn⟩)).trans hl
    have hkY' : Y.heap[w.heap.size]? = some (.deferred (some [])) := (hkY.same w.heap.size (Array.getElem?_eq_some_iff.1 hk).1 (.inr ⟨Nat.le_refl _, hRn0⟩)).trans hk
    refine ⟨_, run_beginRound hlY (by rw [hrec]), ?_⟩
    have hltY : w.heap.size + 1 < Y.heap.size := (Array.getElem?_eq_some_iff.1 hlY).1
    have hR1b : ∀ k, grow R X Y k → w.heap.size + 2 ≤ k ∧ k < Y.heap.size := fun k hk => by
      rcases hk with hk | hk
      · have := hRb k hk; omega
      · omega
    have hR1n : ¬ grow R X Y (w.heap.size + 1) := fun h => by have := hR1b _ h; omega
    have hR1n0 : ¬ grow R X Y w.heap.size := fun h => by have := hR1b _ h; omega
    have hA2 : Ax (grow R X Y) x a' (Y.putObj (w.heap.size + 1) (.loop { rec .ready none with state := .busy })) := hAx _ _ _ _ _ _ hR1n hAY hlY rfl
    obtain ⟨X2, hX2⟩ : ∃ X2, Y.putObj (w.heap.size + 1) (.loop { rec .ready none with state := .busy }) = X2 := ⟨_, rfl⟩
    have hsX2 : X2.heap.size = Y.heap.size := by rw [← hX2]; simp
    have hl2 : X2.heap[w.heap.size + 1]? = some (.loop { rec .ready none with state := .busy }) := by rw [← hX2]; exact World.putObj_heap_same hltY
    have hk2 : X2.heap[w.heap.size]? = some (.deferred (some [])) := by rw [← hX2]; exact (World.putObj_heap_other (by omega)).trans hkY'
    rw [hX2] at hA2
    have hKX : KrR S W1.heap.size R X X2 := by rw [← hX2]; exact hpk _ _ _ _ hkY
    have hi2 : I (grow R X Y) pre X2 := by rw [← hX2]; exact hI _ _ _ _ (hmono _ _ _ _ (fun k hk => .inl hk) hiY) (hput _ Y _ hR1n)
    have hgr : ∀ (Z : World) (k : Nat), Y.heap.size ≤ Z.heap.size → grow (grow R X Y) X2 Z k → grow R X Z k := fun Z k hz hk => by
      rcases hk with (hk | hk) | hk
      · exact .inl hk
      · exact .inr ⟨hk.1, by omega⟩
      · exact .inr ⟨by omega, hk.2⟩
    have fin : ∀ (jump : Option Code) (Z : World), KrR S w.heap.size (grow R X Y) X2 Z →
        (Instr.endRound (w.heap.size + 1) jump).run P Z = .ok (.bool jump.isNone) (Z.putObj (w.heap.size + 1) (.loop (rec (if jump.isNone then .ready else .done) jump))) ∧
        Z.heap[w.heap.size + 1]? = some (.loop { rec .ready none with state := .busy }) ∧
        (Z.putObj (w.heap.size + 1) (.loop (rec (if jump.isNone then .ready else .done) jump))).heap[w.heap.size + 1]? = some (.loop (rec (if jump.isNone then .ready else .done) jump)) ∧
        (Z.putObj (w.heap.size + 1) (.loop (rec (if jump.isNone then .ready else .done) jump))).heap[w.heap.size]? = some (.deferred (some [])) ∧
        KrR S W1.heap.size R X (Z.putObj (w.heap.size + 1) (.loop (rec (if jump.isNone then .ready else .done) jump))) := fun jump Z hZ => by
      have hl3 := (hZ.same (w.heap.size + 1) (Array.getElem?_eq_some_iff.1 hl2).1 (.inr ⟨Nat.le_succ _, hR1n⟩)).trans hl2
      have hr := run_endRound (P := P) jump hl3
      rw [hrec] at hr ⊢
      rw [hrec] at hl3
      refine ⟨hr, hl3, World.putObj_heap_same (Array.getElem?_eq_some_iff.1 hl3).1, (World.putObj_heap_other (by omega)).trans ((hZ.same w.heap.size (Array.getElem?_eq_some_iff.1 hk2).1 (.inr ⟨Nat.le_refl _, hR1n0⟩)).trans hk2), ?_⟩
      have hZ2 := hpk _ _ _ (.loop { state := if jump.isNone then .ready else .done, pending := jump, fn, tmps := a.tmps, params := ps, assign, body, defers := w.heap.size }) hZ
      refine ⟨hZ2.os.trans hKX.os, hZ2.tape.trans hKX.tape, hZ2.output.trans hKX.output, Nat.le_trans hKX.size hZ2.size, fun k hk hn => (hZ2.same k (Nat.lt_of_lt_of_le hk hKX.size) (hn.imp (fun h => h) (fun hn => ⟨hn.1, fun h => ?_⟩))).trans (hKX.same k hk hn)⟩
      rcases h with h | h
      · exact hn.2 h
      · omega
    rw [hX2]
    refine wpIn_mono (hbody _ (grow R X Y) pre x a' X2 hpre (fun k hk => by rw [hsX2]; exact hR1b k hk) hi2 hA2 (by omega)) ?_
    rintro e a3 Z hp
    cases e with
    | normal =>
      obtain ⟨hk3, hi3⟩ := hp
      obtain ⟨hr, hl3, hl4, hk4, hK⟩ := fin none Z hk3
      have hz3 : Y.heap.size ≤ Z.heap.size := by have := hk3.size; omega
      refine ⟨_, _, hr, .inl ⟨rfl, ⟨hmono _ _ _ _ (fun k hk => ?_) (hI _ _ _ _ hi3 (hput _ Z _ (fun h => ?_))), hl4, hk4⟩, hK⟩⟩
      · have := hgr Z k hz3 hk
        rcases this with h | h
        · exact .inl h
        · exact .inr ⟨h.1, by simpa using h.2⟩
      · rcases hgr Z _ hz3 h with h | h
        · exact hRn h
        · omega
    | exit i =>
      obtain ⟨rfl, rfl, hk3, hi3⟩ := hp
      obtain ⟨hr, hl3, hl4, hk4, hK⟩ := fin (some (.exit i)) Z hk3
      have hz3 : Y.heap.size ≤ Z.heap.size := by have := hk3.size; omega
      refine ⟨_, _, hr, .inr ⟨rfl, ⟨hmonox _ _ _ _ (fun k hk => ?_) (hIx _ _ _ _ hi3 (hput _ Z _ (fun h => ?_))), hl4, hk4⟩, hK⟩⟩
      · have := hgr Z k hz3 hk
        rcases this with h | h
        · exact .inl h
        · exact .inr ⟨h.1, by simpa using h.2⟩
      · rcases hgr Z _ hz3 h with h | h
        · exact hRn h
        · omega
    | ret =>
      obtain ⟨rfl, hk3, hi3⟩ := hp
      obtain ⟨hr, hl3, hl4, hk4, hK⟩ := fin (some .ret) Z hk3
      have hz3 : Y.heap.size ≤ Z.heap.size := by have := hk3.size; omega
      refine ⟨_, _, hr, .inr ⟨rfl, ⟨hmonox _ _ _ _ (fun k hk => ?_) (hIx _ _ _ _ hi3 (hput _ Z _ (fun h => ?_))), hl4, hk4⟩, hK⟩⟩
      · have := hgr Z k hz3 hk
        rcases this with h | h
        · exact .inl h
        · exact .inr ⟨h.1, by simpa using h.2⟩
      · rcases hgr Z _ hz3 h with h | h
        · exact hRn h
        · omega
    | goto t => exact hp.elim
    | panic ch => exact hp.elim
    | outgrown => exact hp.elim
  · -- behind the function
    rintro e X ⟨⟨v, rfl⟩, ⟨hzE, R, hRb, hi, hl, hk⟩ | ⟨R, pre, hpre, hRb, hi, hl, hk⟩⟩
    · rw [hs1] at hRb
      have hr := run_endLoop (P := P) hl (by rw [hrec]; simp)
      refine ⟨none, _, by rw [hrec] at hr; exact hr, hdone _ _ rfl (by simp; omega) ⟨R, fun k hk => by have := hRb k hk; simpa using this, hI _ _ _ _ hi (hput _ X _ (fun h => by have := hRb _ h; omega))⟩ ((World.putObj_heap_other (by omega)).trans hk)⟩
    · rw [hs1] at hRb
      have hr := run_endLoop (P := P) hl (by rw [hrec]; simp)
      refine ⟨some (if isRet then Code.ret else Code.exit id), _, by rw [hrec] at hr; exact hr, wpIn_wide.2 ?_⟩
      cases isRet with
      | true => exact wp_ret (hstop _ R _ _ rfl hpre (fun k hk => by have := hRb k hk; simpa using this) (hIx _ _ _ _ hi (hput _ X _ (fun h => by have := hRb _ h; omega))) ((World.putObj_heap_other (by omega)).trans hk))
      | false => exact wp_exit (hstop _ R _ _ rfl hpre (fun k hk => by have := hRb k hk; simpa using this) (hIx _ _ _ _ hi (hput _ X _ (fun h => by have := hRb _ h; omega))) ((World.putObj_heap_other (by omega)).trans hk))
end Go.Proofs.YtahdlkdiadlgeaaGreat
