import Derived.Test.YtbbjifhelbeniaaGreatDoorGD
import Derived.Test.YtbbjifhelbeniaaGreatDoorZo
import Derived.Test.YtbbjifhelbeniaaGreatDoorGK
import Derived.Maps.OwnIn
import Derived.OneCell
/- A loop over a function, as in Rh, for functions whose own memory lies anywhere: a set of blocks that the rounds keep. -/
namespace Go.Proofs.YtbbjifhelbeniaaGreatDoor
open Go.RowKit

/-- What a round leaves alone: the blocks of a set, those from n1 to before n2, and those from m on (made since the last round). -/
structure KrS (S : Nat → Prop) (n1 n2 m : Nat) (X Y : World) : Prop where
  os : Y.os = X.os
  tape : Y.tape = X.tape
  output : Y.output = X.output
  size : X.heap.size ≤ Y.heap.size
  same : ∀ k, k < X.heap.size → (S k ∨ n1 ≤ k ∧ k < n2 ∨ m ≤ k) → Y.heap[k]? = X.heap[k]?
theorem KrS.refl (S : Nat → Prop) (n1 n2 m : Nat) (X : World) : KrS S n1 n2 m X X := ⟨rfl, rfl, rfl, Nat.le_refl _, fun _ _ _ => rfl⟩
theorem KrS.trans {S : Nat → Prop} {n1 n2 m : Nat} {X Y Z : World} (h : KrS S n1 n2 m X Y) (k : KrS S n1 n2 m Y Z) : KrS S n1 n2 m X Z :=
  ⟨k.os.trans h.os, k.tape.trans h.tape, k.output.trans h.output, Nat.le_trans h.size k.size, fun i hi hn => (k.same i (Nat.lt_of_lt_of_le hi h.size) hn).trans (h.same i hi hn)⟩
theorem KrS.wide {S : Nat → Prop} {n1 n2 m m1 m2 m' : Nat} {X Y : World} (h : KrS S m1 m2 m' X Y) (h1 : m1 ≤ n1) (h2 : n2 ≤ m2) (h3 : m' ≤ m) : KrS S n1 n2 m X Y :=
  ⟨h.os, h.tape, h.output, h.size, fun i hi hn => h.same i hi (hn.imp id fun _ => by omega)⟩
theorem KrS.ofBelow {S : Nat → Prop} {n1 n2 m : Nat} {X Y : World} (h : Below X.heap.size X Y) : KrS S n1 n2 m X Y := ⟨h.os, h.tape, h.output, h.size, fun i hi _ => h.block i hi⟩
theorem KrS.alloc {S : Nat → Prop} {n1 n2 m : Nat} {X Y : World} (h : KrS S n1 n2 m X Y) (o : Obj) : KrS S n1 n2 m X (Y.alloc o) :=
  h.trans (.ofBelow ((Below.refl _ _).alloc (Nat.le_refl _) _))
theorem KrS.setCell {S : Nat → Prop} {n1 n2 m : Nat} {X Y : World} {p : Addr} (h : KrS S n1 n2 m X Y) (h1 : ¬ S p.block) (h2 : p.block < n1 ∨ n2 ≤ p.block) (h3 : p.block < m) (v : Value) : KrS S n1 n2 m X (Y.setCell p v) :=
  h.trans ⟨rfl, rfl, rfl, by simp [World.setCell], fun k _ hn => Below.heap_setCell Y p v k (by
    rcases hn with hn | hn
    · rintro rfl; exact h1 hn
    · omega)⟩
theorem KrS.grown {S : Nat → Prop} {n1 n2 m : Nat} {X Y Z : World} {row : Option Nat} (h : KrS S n1 n2 m X Y) (hg : Y.grownBy Z row) (hr : ∀ j, row = some j → ¬ S j ∧ (j < n1 ∨ n2 ≤ j) ∧ j < m) : KrS S n1 n2 m X Z :=
  h.trans ⟨hg.os, hg.tape, hg.output, hg.size, fun k hk hn => hg.block k hk (fun e => by
    have := hr k e.symm
    rcases hn with hn | hn
    · exact this.1 hn
    · omega)⟩
theorem KrS.cell {S : Nat → Prop} {n1 n2 m : Nat} {X Y : World} (h : KrS S n1 n2 m X Y) {p : Addr} {v : Value} (hp : S p.block ∨ n1 ≤ p.block ∧ p.block < n2 ∨ m ≤ p.block) (hc : X.cell? p = some v) : Y.cell? p = some v :=
  (World.cell?_of_block (w := X) (h.same p.block (World.block_lt_of_cell? _ _ hc) hp)).trans hc
theorem KrS.frozen {S : Nat → Prop} {n1 n2 m : Nat} {X Y : World} (h : KrS S n1 n2 m X Y) {p : Addr} {v : Value} (hp : S p.block ∨ n1 ≤ p.block ∧ p.block < n2 ∨ m ≤ p.block) (hc : X.cell? p = some v) : Y.frozen? p = X.frozen? p :=
  World.frozen?_of_block (w := X) (h.same p.block (World.block_lt_of_cell? _ _ hc) hp)
/-- The blocks of a set are as they were. -/
structure Stay (S : Nat → Prop) (X Y : World) : Prop where
  size : X.heap.size ≤ Y.heap.size
  same : ∀ k, k < X.heap.size → S k → Y.heap[k]? = X.heap[k]?
theorem Stay.refl (S : Nat → Prop) (X : World) : Stay S X X := ⟨Nat.le_refl _, fun _ _ _ => rfl⟩
theorem Stay.trans {S : Nat → Prop} {X Y Z : World} (h : Stay S X Y) (k : Stay S Y Z) : Stay S X Z :=
  ⟨Nat.le_trans h.size k.size, fun i hi hn => (k.same i (Nat.lt_of_lt_of_le hi h.size) hn).trans (h.same i hi hn)⟩
theorem Stay.ofBelow {S : Nat → Prop} {X Y : World} (h : Below X.heap.size X Y) : Stay S X Y := ⟨h.size, fun i hi _ => h.block i hi⟩
theorem Stay.alloc {S : Nat → Prop} {X Y : World} (h : Stay S X Y) (o : Obj) : Stay S X (Y.alloc o) :=
  h.trans (.ofBelow ((Below.refl _ _).alloc (Nat.le_refl _) _))
theorem Stay.cell {S : Nat → Prop} {X Y : World} (h : Stay S X Y) {p : Addr} {v : Value} (hp : S p.block) (hc : X.cell? p = some v) : Y.cell? p = some v :=
  (World.cell?_of_block (w := X) (h.same p.block (World.block_lt_of_cell? _ _ hc) hp)).trans hc
theorem KrS.stay {S : Nat → Prop} {n1 n2 m : Nat} {X Y : World} (h : KrS S n1 n2 m X Y) : Stay S X Y :=
  ⟨h.size, fun i hi hn => h.same i hi (.inl hn)⟩

/-- What a function that is ranged over promises: it hands 'full' to the rounds, one after the other, as long as they ask for more; its own variables are the first d blocks that it makes. The rounds keep these, the blocks of a set, and what was made since the last round (from m on). -/
def SeqS {α : Type} (P : Program) (g : Nat) (lb : Array Value) (encs : α → Array Value) (S : Nat → Prop) (d : Nat) (full : List α) (w : World) : Prop :=
  ∀ (l : Nat) (J : Nat → List α → World → Prop) (Jx : List α → World → Prop) (W : World), Below w.heap.size w W → (∀ m s X Y, J m s X → Acts W.heap.size (W.heap.size + d) X Y → J m s Y) → (∀ s X Y, Jx s X → Acts W.heap.size (W.heap.size + d) X Y → Jx s Y) →
    (∀ m pre x X, pre ++ [x] <+: full → W.heap.size ≤ m → m ≤ X.heap.size → J m pre X → W.heap.size + d ≤ X.heap.size → YieldAt Fence.wide 7 P l (encs x) X fun e Y =>
      (e = .returned (.bool true) ∧ J Y.heap.size (pre ++ [x]) Y ∧ KrS S W.heap.size (W.heap.size + d) m X Y) ∨ (e = .returned (.bool false) ∧ Jx (pre ++ [x]) Y ∧ KrS S W.heap.size (W.heap.size + d) m X Y)) →
    J W.heap.size [] W →
    CallsIn Fence.wide 8 P g (#[.func (.yield l) #[] #[]] ++ lb) W fun e Y => (∃ v, e = .returned v) ∧ ((W.heap.size + d ≤ Y.heap.size ∧ ∃ m, m ≤ Y.heap.size ∧ J m full Y) ∨ ∃ pre, pre <+: full ∧ Jx pre Y)

/-- How a round's body is left: at its end, or by the one break, or by a return. -/
def roundEndsS {α : Type} (S : Nat → Prop) (n1 n2 m : Nat) (isRet : Bool) (id : Nat) (I : Nat → List α → World → Prop) (Ix : List α → World → Prop) (xs : List α) (X : World) : Exit → Act → World → Prop
  | .normal, _, Y => KrS S n1 n2 m X Y ∧ I Y.heap.size xs Y
  | .exit i, _, Y => isRet = false ∧ i = id ∧ KrS S n1 n2 m X Y ∧ Ix xs Y
  | .ret, _, Y => isRet = true ∧ KrS S n1 n2 m X Y ∧ Ix xs Y
  | _, _, _ => False

theorem wp_seqS {α : Type} {P : Program} {g : Operand} {ps : Array Tmp} {assign body : Code} {Q : Exit → Act → World → Prop} {a : Act} {w : World}
    {gf : Nat} {lb : Array Value} (hg : a.eval g = .func (.func gf) #[] lb) (eg : ∀ args w, (callFunc gf args).run P w = .ok (.enter gf args) w)
    {encs : α → Array Value} {S : Nat → Prop} {d : Nat} {full : List α} {w0 : World} (hseq : SeqS P gf lb encs S d full w0) (hS : ∀ k, S k → k < w.heap.size) (hb0 : Below w0.heap.size w0 w)
    (hps : ∀ x, (encs x).size = ps.size)
    (I : Nat → List α → World → Prop) (Ix : List α → World → Prop) (isRet : Bool) (id : Nat) (hmono : ∀ m m2 s X, m ≤ m2 → I m s X → I m2 s X) (hI : ∀ m s X Y, I m s X → Acts w.heap.size (w.heap.size + 2 + d) X Y → I m s Y) (hIx : ∀ s X Y, Ix s X → Acts w.heap.size (w.heap.size + 2 + d) X Y → Ix s Y) (h0 : I w.heap.size [] w) (Ax : Nat → α → Act → World → Prop)
    (hAx : ∀ m x a' X o o', Ax m x a' X → X.heap[w.heap.size + 1]? = some o → o.isCells = false → Ax m x a' (X.putObj (w.heap.size + 1) o'))
    (hassign : ∀ (l m : Nat) (pre : List α) (x : α) (X : World), pre ++ [x] <+: full → w.heap.size < m → m ≤ X.heap.size → I m pre X → w.heap.size + 2 + d ≤ X.heap.size →
      assign.wpIn (Fence.wide.inRound l) 7 P (Exit.then (fun a' Y => KrS S w.heap.size (w.heap.size + 2 + d) m X Y ∧ I m pre Y ∧ Ax m x a' Y) (fun _ _ _ => False)) { tmps := (ps.zip (encs x)).foldl (fun t (p, v) => t.setIfInBounds p v) a.tmps, defers := [] } X)
    (hbody : ∀ (l m : Nat) (pre : List α) (x : α) (a' : Act) (X : World), pre ++ [x] <+: full → w.heap.size < m → m ≤ X.heap.size → I m pre X → Ax m x a' X → w.heap.size + 2 + d ≤ X.heap.size → body.wpIn (Fence.wide.inRound l) 7 P (roundEndsS S w.heap.size (w.heap.size + 2 + d) m isRet id I Ix (pre ++ [x]) X) a' X)
    (hdone : ∀ (D : Nat) (X : World), D = w.heap.size → w.heap.size + 2 + d ≤ X.heap.size → (∃ m, m ≤ X.heap.size ∧ I m full X) → X.heap[D]? = some (.deferred (some [])) → Q .normal { a with defers := { target := .collected D, args := #[] } :: a.defers } X)
    (hstop : ∀ (D : Nat) (pre : List α) (X : World), D = w.heap.size → pre <+: full → Ix pre X → X.heap[D]? = some (.deferred (some [])) → Q (if isRet then .ret else .exit id) { a with defers := { target := .collected D, args := #[] } :: a.defers } X) :
    (Code.rangeFunc g ps assign body).wp P Q a w := by
  refine (wpIn_wide (n := 9)).1 (wpIn_rangeFunc ?_)
  intro fn hfn
  obtain ⟨rec, hrec⟩ : ∃ rec : LoopState → Option Code → Loop, rec = fun st pe => { state := st, pending := pe, fn, tmps := a.tmps, params := ps, assign, body, defers := w.heap.size } := ⟨_, rfl⟩
  obtain ⟨W1, hW1⟩ : ∃ W1, (w.alloc (.deferred (some []))).alloc (.loop (rec .ready none)) = W1 := ⟨_, rfl⟩
  have hs1 : W1.heap.size = w.heap.size + 2 := by rw [← hW1]; simp
  have hB1 : Below w.heap.size w W1 := by rw [← hW1]; exact ((Below.refl _ w).alloc (Nat.le_refl _) _).alloc (by simp) _
  have hL1 : W1.heap[w.heap.size + 1]? = some (.loop (rec .ready none)) := by
    have h := World.alloc_heap_new (w.alloc (.deferred (some []))) (.loop (rec .ready none))
    rw [World.size_alloc, hW1] at h
    exact h
  have hK1 : W1.heap[w.heap.size]? = some (.deferred (some [])) := by
    rw [← hW1]
    exact (Below.heap_alloc _ _ _ (by simp)).trans (World.alloc_heap_new w _)
  have hput : ∀ (X : World) (o' : Obj), Acts w.heap.size (w.heap.size + 2 + d) X (X.putObj (w.heap.size + 1) o') := fun X o' => Acts.putObj (Nat.le_succ _) (by omega) _
  have hpk : ∀ (m : Nat) (X Y : World) (o' : Obj), w.heap.size + 2 ≤ m → KrS S w.heap.size (w.heap.size + 2 + d) m X Y → KrS S W1.heap.size (W1.heap.size + d) m X (Y.putObj (w.heap.size + 1) o') := fun m X Y o' hm h => (h.wide (by omega) (by omega) (Nat.le_refl _)).trans ⟨rfl, rfl, rfl, by simp, fun k _ hn => World.putObj_heap_other (by
    rcases hn with hn | hn
    · have := hS k hn; omega
    · omega)⟩
  refine ⟨w.heap.size + 1, [{ target := .collected w.heap.size, args := #[] }], W1, { target := .fn (.func gf) lb, args := #[.func (.yield (w.heap.size + 1)) #[] #[]] }, W1, gf, #[.func (.yield (w.heap.size + 1)) #[] #[]] ++ lb, W1, ?_, ?_, fun _ _ => trivial, ?_, fun _ => by omega, ?_⟩
  · rw [← hW1, hrec]
    exact run_enterLoop_outer _ _ _ _ _
  · simp only [resolve, hg]
    simp [go_sem]
  · simp [invoke, go_sem, eg]
  refine (hseq (w.heap.size + 1)
    (fun m pre X => I m pre X ∧ X.heap[w.heap.size + 1]? = some (.loop (rec .ready none)) ∧ X.heap[w.heap.size]? = some (.deferred (some [])))
    (fun pre X => Ix pre X ∧ X.heap[w.heap.size + 1]? = some (.loop (rec .done (some (if isRet then Code.ret else Code.exit id)))) ∧ X.heap[w.heap.size]? = some (.deferred (some [])))
    W1 (hb0.trans (hB1.mono hb0.size))
    (fun m s X Y h hb => ⟨hI m s X Y h.1 (hb.wide (by omega) (by omega)), (hb.same _ (Array.getElem?_eq_some_iff.1 h.2.1).1 (.inl (by omega))).trans h.2.1, (hb.same _ (Array.getElem?_eq_some_iff.1 h.2.2).1 (.inl (by omega))).trans h.2.2⟩)
    (fun s X Y h hb => ⟨hIx s X Y h.1 (hb.wide (by omega) (by omega)), (hb.same _ (Array.getElem?_eq_some_iff.1 h.2.1).1 (.inl (by omega))).trans h.2.1, (hb.same _ (Array.getElem?_eq_some_iff.1 h.2.2).1 (.inl (by omega))).trans h.2.2⟩)
    ?_ ⟨hmono _ _ _ _ (by omega) (hI _ _ _ _ h0 (.ofBelow hB1)), hL1, hK1⟩).mono ?_
  · -- one round
    rintro m pre x X hpre hm1 hm2 ⟨hi, hl, hk⟩ hzX
    have hlt : w.heap.size + 1 < X.heap.size := (Array.getElem?_eq_some_iff.1 hl).1
    have hy := run_yield (P := P) (args := encs x) hl (by rw [hrec]; exact hps x)
    rw [hrec] at hy
    refine ⟨fn, _, assign, body, hy, roundIn_of_wpIn hfn (wpIn_mono (hassign _ m pre x X hpre (by omega) hm2 hi (by omega)) ?_)⟩
    rintro e a' Y hp
    cases e with
    | exit i => exact hp.elim
    | ret => exact hp.elim
    | goto t => exact hp.elim
    | panic ch => exact hp.elim
    | outgrown => exact hp.elim
    | normal =>
    obtain ⟨hkY, hiY, hAY⟩ := hp
    have hlY : Y.heap[w.heap.size + 1]? = some (.loop (rec .ready none)) := (hkY.same (w.heap.size + 1) (Array.getElem?_eq_some_iff.1 hl).1 (.inr (.inl ⟨Nat.le_succ _, by omega⟩))).trans hl
    have hkY' : Y.heap[w.heap.size]? = some (.deferred (some [])) := (hkY.same w.heap.size (Array.getElem?_eq_some_iff.1 hk).1 (.inr (.inl ⟨Nat.le_refl _, by omega⟩))).trans hk
    refine ⟨_, run_beginRound hlY (by rw [hrec]), ?_⟩
    have hlt : w.heap.size + 1 < Y.heap.size := (Array.getElem?_eq_some_iff.1 hlY).1
    have hl := hlY
    have hk := hkY'
    have hi := hiY
    have hA2 : Ax m x a' (Y.putObj (w.heap.size + 1) (.loop { rec .ready none with state := .busy })) := hAx _ _ _ _ _ _ hAY hlY rfl
    obtain ⟨X2, hX2⟩ : ∃ X2, Y.putObj (w.heap.size + 1) (.loop { rec .ready none with state := .busy }) = X2 := ⟨_, rfl⟩
    have hl2 : X2.heap[w.heap.size + 1]? = some (.loop { rec .ready none with state := .busy }) := by rw [← hX2]; exact World.putObj_heap_same hlt
    have hk2 : X2.heap[w.heap.size]? = some (.deferred (some [])) := by rw [← hX2]; exact (World.putObj_heap_other (by omega)).trans hk
    rw [hX2] at hA2
    have hKX : KrS S W1.heap.size (W1.heap.size + d) m X X2 := by rw [← hX2]; exact hpk _ _ _ _ (by omega) hkY
    have hm3 : m ≤ X2.heap.size := by have := hKX.size; omega
    have hi2 : I m pre X2 := by rw [← hX2]; exact hI _ _ _ _ hi (hput Y _)
    have hz2 : w.heap.size + 2 + d ≤ X2.heap.size := by have := hKX.size; omega
    have fin : ∀ (jump : Option Code) (Y : World), KrS S w.heap.size (w.heap.size + 2 + d) m X2 Y →
        (Instr.endRound (w.heap.size + 1) jump).run P Y = .ok (.bool jump.isNone) (Y.putObj (w.heap.size + 1) (.loop (rec (if jump.isNone then .ready else .done) jump))) ∧
        Y.heap[w.heap.size + 1]? = some (.loop { rec .ready none with state := .busy }) ∧
        (Y.putObj (w.heap.size + 1) (.loop (rec (if jump.isNone then .ready else .done) jump))).heap[w.heap.size + 1]? = some (.loop (rec (if jump.isNone then .ready else .done) jump)) ∧
        (Y.putObj (w.heap.size + 1) (.loop (rec (if jump.isNone then .ready else .done) jump))).heap[w.heap.size]? = some (.deferred (some [])) := fun jump Y hY => by
      have hl3 := (hY.same (w.heap.size + 1) (Array.getElem?_eq_some_iff.1 hl2).1 (.inr (.inl ⟨Nat.le_succ _, by omega⟩))).trans hl2
      have hr := run_endRound (P := P) jump hl3
      rw [hrec] at hr ⊢
      rw [hrec] at hl3
      exact ⟨hr, hl3, World.putObj_heap_same (Array.getElem?_eq_some_iff.1 hl3).1, (World.putObj_heap_other (by omega)).trans ((hY.same w.heap.size (Array.getElem?_eq_some_iff.1 hk2).1 (.inr (.inl ⟨Nat.le_refl _, by omega⟩))).trans hk2)⟩
    rw [hX2]
    refine wpIn_mono (hbody _ m pre x a' X2 hpre (by omega) hm3 hi2 hA2 hz2) ?_
    rintro e a3 Y hp
    cases e with
    | normal =>
      obtain ⟨hk3, hi3⟩ := hp
      obtain ⟨hr, hl3, hl4, hk4⟩ := fin none Y hk3
      exact ⟨_, _, hr, .inl ⟨rfl, ⟨hmono _ _ _ _ (by simp) (hI _ _ _ _ hi3 (hput Y _)), hl4, hk4⟩, hKX.trans (hpk _ _ _ _ (by omega) hk3)⟩⟩
    | exit i =>
      obtain ⟨rfl, rfl, hk3, hi3⟩ := hp
      obtain ⟨hr, hl3, hl4, hk4⟩ := fin (some (.exit i)) Y hk3
      exact ⟨_, _, hr, .inr ⟨rfl, ⟨hIx _ _ _ hi3 (hput Y _), hl4, hk4⟩, hKX.trans (hpk _ _ _ _ (by omega) hk3)⟩⟩
    | ret =>
      obtain ⟨rfl, hk3, hi3⟩ := hp
      obtain ⟨hr, hl3, hl4, hk4⟩ := fin (some .ret) Y hk3
      exact ⟨_, _, hr, .inr ⟨rfl, ⟨hIx _ _ _ hi3 (hput Y _), hl4, hk4⟩, hKX.trans (hpk _ _ _ _ (by omega) hk3)⟩⟩
    | goto t => exact hp.elim
    | panic ch => exact hp.elim
    | outgrown => exact hp.elim
  · -- behind the function
    rintro e X ⟨⟨v, rfl⟩, ⟨hzE, m, hmE, hi, hl, hk⟩ | ⟨pre, hpre, hi, hl, hk⟩⟩
    · have hr := run_endLoop (P := P) hl (by rw [hrec]; simp)
      refine ⟨none, _, by rw [hrec] at hr; exact hr, hdone _ _ rfl (by simp; omega) ⟨m, by simpa using hmE, hI _ _ _ _ hi (hput X _)⟩ ((World.putObj_heap_other (by omega)).trans hk)⟩
    · have hr := run_endLoop (P := P) hl (by rw [hrec]; simp)
      refine ⟨some (if isRet then Code.ret else Code.exit id), _, by rw [hrec] at hr; exact hr, wpIn_wide.2 ?_⟩
      cases isRet with
      | true => exact wp_ret (hstop _ _ _ rfl hpre (hIx _ _ _ hi (hput X _)) ((World.putObj_heap_other (by omega)).trans hk))
      | false => exact wp_exit (hstop _ _ _ rfl hpre (hIx _ _ _ hi (hput X _)) ((World.putObj_heap_other (by omega)).trans hk))
end Go.Proofs.YtbbjifhelbeniaaGreatDoor

/- What a part plays: mathematics; the walk of the function that score's plays gives. -/
namespace Go.Proofs.YtbbjifhelbeniaaGreatDoor
open Go.RowKit Go.Shelf

attribute [local go_sem] Oper.semAt_some

namespace Sc
theorem play_snoc (p : Pt) (l : List No.Nt) (n : No.Nt) : play p (l ++ [n]) = play p l ++ (if n.pa = src p then [asP p n] else []) := by
  unfold play
  rw [List.filter_append, List.map_append]
  by_cases h : n.pa = src p
  · rw [if_pos h]; simp [h]
  · rw [if_neg h]; simp [h]
theorem play_take {p : Pt} {l : List No.Nt} {k : Nat} (h : k < l.length) : play p (l.take (k + 1)) = play p (l.take k) ++ (if (atO l k).pa = src p then [asP p (atO l k)] else []) := by
  rw [List.take_succ_eq_append_getElem h, play_snoc, atO_eq h]
theorem play_prefix (p : Pt) (l : List No.Nt) (k : Nat) : play p (l.take k) <+: play p l := by
  conv => rhs; rw [← List.take_append_drop k l]
  unfold play
  rw [List.filter_append, List.map_append]
  exact List.prefix_append _ _
theorem play_len (p : Pt) (l : List No.Nt) : (play p l).length ≤ l.length := by
  unfold play
  rw [List.length_map]
  exact List.length_filter_le _ _
end Sc
theorem NtAt.stay {w w' : World} {b o : Nat} {n : No.Nt} {S : Nat → Prop} (h : NtAt w b o n) (hs : Stay S w w') (hb : S b) : NtAt w' b o n :=
  NtAt.of fun j u hj => hs.cell (p := ⟨b, o + j, none⟩) hb (h.to j u hj)

set_option maxHeartbeats 4000000 in
set_option maxRecDepth 100000 in
theorem splays_in (p : Sc.Pt) (l : List No.Nt) (len cap : Nat) (A : Option Addr) (L Bl Bp Bq : Nat) (S : Nat → Prop) (hl : l.length = len) (hmax : len ≤ 1000000) (hoc : ∀ n ∈ l, 0 ≤ n.oc ∧ n.oc ≤ 9) (hpc : -2 ≤ p.oc ∧ p.oc ≤ 2) (J : Nat → List No.Nt → World → Prop) (Jx : List No.Nt → World → Prop) (W : World)
    (hJ : ∀ m s X Y, J m s X → Acts W.heap.size (W.heap.size + 0) X Y → J m s Y) (hB : S Bl ∧ S Bp ∧ S Bq) (hS : ∀ k, S k → k < W.heap.size) (hBl : W.cell? ⟨Bl, 0, none⟩ = some (.slice A len cap)) (hBp : W.cell? ⟨Bp, 0, none⟩ = some (.int .i64 (Sc.src p))) (hq0 : W.cell? ⟨Bq, 0, none⟩ = some (.int .i64 p.id)) (hq3 : W.cell? ⟨Bq, 3, none⟩ = some (.int .i64 p.oc)) (hA : 0 < l.length → ∀ b off, A = some ⟨b, off, none⟩ → S b) (hL : SlO W A l)
    (hY : ∀ m pre x X, pre ++ [x] <+: Sc.play p l → W.heap.size ≤ m → m ≤ X.heap.size → J m pre X → W.heap.size + 0 ≤ X.heap.size → YieldAt Fence.wide 7 Tryz.prog L #[.agg #[.int .i64 x.id, .int .i64 x.pa, .int .i64 x.ba, .int .i64 x.vo, .int .i64 x.os, .int .i64 x.sn, .int .i64 x.sd, .int .i64 x.ln, .int .i64 x.ld, .int .i64 x.st, .int .i64 x.al, .int .i64 x.oc]] X fun e Y =>
      (e = .returned (.bool true) ∧ J Y.heap.size (pre ++ [x]) Y ∧ KrS S W.heap.size (W.heap.size + 0) m X Y) ∨ (e = .returned (.bool false) ∧ Jx (pre ++ [x]) Y ∧ KrS S W.heap.size (W.heap.size + 0) m X Y))
    (h0 : J W.heap.size [] W) :
    CallsIn Fence.wide 8 Tryz.prog 77 #[.func (.yield L) #[] #[], .pointer (some ⟨Bl, 0, none⟩), .pointer (some ⟨Bp, 0, none⟩), .pointer (some ⟨Bq, 0, none⟩)] W fun e Y => (∃ v, e = .returned v) ∧ ((W.heap.size + 0 ≤ Y.heap.size ∧ ∃ m, m ≤ Y.heap.size ∧ J m (Sc.play p l) Y) ∨ ∃ pre, pre <+: Sc.play p l ∧ Jx pre Y) := by
  have HN := Lib.hid hl
  have HL := Lib.hid hL
  have HJ := Lib.hid hJ
  have HY := Lib.hid hY
  have HA := Lib.hid hA
  have HOC := Lib.hid hoc
  have HB := Lib.hid hB
  have HS := Lib.hid hS
  obtain ⟨pid, hpid⟩ : ∃ z, p.id = z := ⟨_, rfl⟩
  obtain ⟨poc, hpoc⟩ : ∃ z, p.oc = z := ⟨_, rfl⟩
  obtain ⟨ps, hps⟩ : ∃ z, Sc.src p = z := ⟨_, rfl⟩
  have HID := Lib.hid hpid
  have HPC := Lib.hid hpoc
  have HPS := Lib.hid hps
  rw [hpid] at hq0
  rw [hpoc] at hq3 hpc
  rw [hps] at hBp
  have HBP := Lib.hid hBp
  have HQ0 := Lib.hid hq0
  have HQ3 := Lib.hid hq3
  obtain ⟨hpc1, hpc2⟩ := hpc
  clear hl hL hJ hY hA hoc hpid hpoc hps hBp hq0 hq3 hB hS
  refine callsIn_of_wp Tryz.func77 rfl trivial ?_ rfl
  simp only [Tryz.ntmps77, List.size_toArray, List.length_cons, List.length_nil, Nat.reduceAdd, Nat.reduceSub, Array.replicate_succ, Array.replicate_zero, List.push_toArray, List.append_toArray, List.nil_append, List.cons_append]
  have hn7 : 1 ≤ 8 := by omega
  gi_wp2
  gi_loopw [9] (fun s9 wr => ∃ (k m : Nat) (q : Int), k ≤ len ∧ q = k ∧ s9 = .int .i64 q ∧ (W.heap.size ≤ m ∧ m ≤ wr.heap.size) ∧ Hid (J m (Sc.play p (l.take k)) wr) ∧ Stay S W wr ∧ W.heap.size ≤ wr.heap.size) (fun s9 _ => len - (intOf s9).toNat)
  case atStart => exact ⟨0, W.heap.size, 0, Nat.zero_le _, rfl, rfl, ⟨Nat.le_refl _, Nat.le_refl _⟩, Lib.hid h0, Stay.refl _ _, Nat.le_refl _⟩
  case round =>
    clear h0 hBl
    obtain ⟨k, m, q, hk, hq, rfl, ⟨hm1, hm2⟩, HJs, hG, hsz⟩ := hrel
    by_cases hlt : k < len
    · have hil : k < l.length := by rw [HN.out]; omega
      obtain ⟨bb, off, rfl, hbb, hcc⟩ := HL.out (by omega)
      have hbc := HA.out (by omega) bb off rfl
      have N0 := (hcc k hil).stay hG hbc
      have hoc := HOC.out _ (atO_mem hil)
      have hpt := Sc.play_take (p := p) hil
      have hpp := Sc.play_prefix p l (k + 1)
      rw [HPS.out] at hpt
      obtain ⟨x, hx⟩ : ∃ x, atO l k = x := ⟨_, rfl⟩
      rw [hx] at N0 hoc hpt
      obtain ⟨ho1, ho2⟩ := hoc
      have hq1 : q < (len : Int) := by omega
      have hq3 : 0 ≤ q := by omega
      have hqn : q.toNat = k := by omega
      have hq4 : q ≤ 1000000 := by omega
      have HQ := Lib.hid hq
      obtain ⟨c0, c1', c2, c3, c4, c5, c6, c7, c8, c9, c10, c11⟩ := N0
      replace c0 : wr.cell? ⟨bb, off + k * 12, none⟩ = some (.int .i64 x.id) := c0
      have b0 := hG.cell (p := ⟨Bp, 0, none⟩) HB.out.2.1 HBP.out
      have hbp : Bp < wr.heap.size := by have := HS.out _ HB.out.2.1; omega
      have hbp2 : ¬ Bp = wr.heap.size := by omega
      have hbq : Bq < wr.heap.size := by have := HS.out _ HB.out.2.2; omega
      have hbq2 : ¬ Bq = wr.heap.size := by omega
      by_cases he : x.pa = ps
      · rw [if_pos he] at hpt
        have HP : Hid (Sc.play p (l.take (k + 1)) = Sc.play p (l.take k) ++ [Sc.asP p x]) := Lib.hid hpt
        rw [hpt] at hpp
        have HPP := Lib.hid hpp
        have hbe : (x.pa != ps) = false := by simpa using he
        have e0 := hG.cell (p := ⟨Bq, 0, none⟩) HB.out.2.2 HQ0.out
        have e3 := hG.cell (p := ⟨Bq, 3, none⟩) HB.out.2.2 HQ3.out
        clear hq hcc hil hx he hpt hpp
        have hJ2 := HJ.out _ _ _ _ HJs.out ((Acts.refl _ _ wr).alloc (.cells #[.int .i64 x.id, .int .i64 pid, .int .i64 x.ba, .int .i64 x.vo, .int .i64 x.os, .int .i64 x.sn, .int .i64 x.sd, .int .i64 x.ln, .int .i64 x.ld, .int .i64 x.st, .int .i64 x.al, .int .i64 (x.oc + poc)] 51))
        have GA := hG.alloc (.cells #[.int .i64 x.id, .int .i64 pid, .int .i64 x.ba, .int .i64 x.vo, .int .i64 x.os, .int .i64 x.sn, .int .i64 x.sd, .int .i64 x.ln, .int .i64 x.ld, .int .i64 x.st, .int .i64 x.al, .int .i64 (x.oc + poc)] 51)
        have zA : (wr.alloc (.cells #[.int .i64 x.id, .int .i64 pid, .int .i64 x.ba, .int .i64 x.vo, .int .i64 x.os, .int .i64 x.sn, .int .i64 x.sd, .int .i64 x.ln, .int .i64 x.ld, .int .i64 x.st, .int .i64 x.al, .int .i64 (x.oc + poc)] 51)).heap.size = wr.heap.size + 1 := by simp
        obtain ⟨fn, tmps, assign, body, hy, hR⟩ := HY.out m _ (Sc.asP p x) _ HPP.out hm1 (by omega) hJ2 (by omega)
        dsimp only [Sc.asP] at hy
        rw [HID.out, HPC.out] at hy
        have HR := Lib.hid hR
        clear hR hJ2 HJs
        gi_wp2
        refine HR.out.mono ?_
        clear HR hy c0 c1' c2 c3 c4 c5 c6 c7 c8 c9 c10 c11 e0 e3 b0
        rintro e Y (⟨rfl, hJ3, hK3⟩ | ⟨rfl, hJx3, hKx⟩)
        · have hGY : Stay S W Y := GA.trans hK3.stay
          have hszY : W.heap.size ≤ Y.heap.size := by have := hK3.size; omega
          have HJ3 := Lib.hid hJ3
          clear hJ3 hK3 GA
          gi_wp2
          go_roundw
          case rel => exact ⟨k + 1, Y.heap.size, q + 1, by omega, (by have := HQ.out; omega), rfl, ⟨hszY, Nat.le_refl _⟩, Lib.hid (by rw [HP.out]; exact HJ3.out), hGY, hszY⟩
          case measure => have := HQ.out; simp [intOf]; omega
        · gi_wp2
          refine bodyPost_ret (results_none rfl _ _ _) rfl ?_
          exact ⟨⟨_, rfl⟩, .inr ⟨_, HPP.out, hJx3⟩⟩
      · rw [if_neg he, List.append_nil] at hpt
        have HJ2 : Hid (J m (Sc.play p (l.take (k + 1))) wr) := Lib.hid (by rw [hpt]; exact HJs.out)
        have hbe : (x.pa != ps) = true := by simpa using he
        have J2 := HJ.out _ _ _ _ HJ2.out ((Acts.refl _ _ wr).alloc (.cells #[.int .i64 x.id, .int .i64 x.pa, .int .i64 x.ba, .int .i64 x.vo, .int .i64 x.os, .int .i64 x.sn, .int .i64 x.sd, .int .i64 x.ln, .int .i64 x.ld, .int .i64 x.st, .int .i64 x.al, .int .i64 x.oc] 51))
        have HJ3 := Lib.hid J2
        have hG2 := hG.alloc (.cells #[.int .i64 x.id, .int .i64 x.pa, .int .i64 x.ba, .int .i64 x.vo, .int .i64 x.os, .int .i64 x.sn, .int .i64 x.sd, .int .i64 x.ln, .int .i64 x.ld, .int .i64 x.st, .int .i64 x.al, .int .i64 x.oc] 51)
        clear hq hcc hil hx hpt hpp HJs HJ2 J2
        gi_wp2_with fail
        go_roundw
        case rel => exact ⟨k + 1, m, q + 1, by omega, (by have := HQ.out; omega), rfl, ⟨hm1, by simp; omega⟩, HJ3, hG2, by simp; omega⟩
        case measure => have := HQ.out; simp [intOf]; omega
    · obtain rfl : k = len := by omega
      have hq1 : ¬ q < (k : Int) := by omega
      have HJ3 : Hid (J m (Sc.play p l) wr) := Lib.hid (by have h := HJs.out; rwa [List.take_of_length_le (by rw [HN.out]; exact Nat.le_refl _)] at h)
      clear hq HJs
      gi_wp2
      go_end0
      exact ⟨⟨_, rfl⟩, .inl ⟨hsz, m, hm2, HJ3.out⟩⟩

/-- All that a part plays, one after the other. -/
theorem splays_seq (p : Sc.Pt) (l : List No.Nt) (len cap : Nat) (A : Option Addr) (Bl Bp Bq : Nat) (S : Nat → Prop) (hl : l.length = len) (hmax : len ≤ 1000000) (hoc : ∀ n ∈ l, 0 ≤ n.oc ∧ n.oc ≤ 9) (hpc : -2 ≤ p.oc ∧ p.oc ≤ 2) (w : World) (hB : S Bl ∧ S Bp ∧ S Bq) (hS : ∀ k, S k → k < w.heap.size) (hBl : w.cell? ⟨Bl, 0, none⟩ = some (.slice A len cap)) (hBp : w.cell? ⟨Bp, 0, none⟩ = some (.int .i64 (Sc.src p))) (hq0 : w.cell? ⟨Bq, 0, none⟩ = some (.int .i64 p.id)) (hq3 : w.cell? ⟨Bq, 3, none⟩ = some (.int .i64 p.oc)) (hA : 0 < l.length → ∀ b off, A = some ⟨b, off, none⟩ → S b) (hL : SlO w A l) :
    SeqS Tryz.prog 77 #[.pointer (some ⟨Bl, 0, none⟩), .pointer (some ⟨Bp, 0, none⟩), .pointer (some ⟨Bq, 0, none⟩)] (fun x : No.Nt => #[Value.agg #[.int .i64 x.id, .int .i64 x.pa, .int .i64 x.ba, .int .i64 x.vo, .int .i64 x.os, .int .i64 x.sn, .int .i64 x.sd, .int .i64 x.ln, .int .i64 x.ld, .int .i64 x.st, .int .i64 x.al, .int .i64 x.oc]]) S 0 (Sc.play p l) w := fun L J Jx W hW hJ _ hY h0 =>
  splays_in p l len cap A L Bl Bp Bq S hl hmax hoc hpc J Jx W hJ hB (fun k hk => Nat.lt_of_lt_of_le (hS k hk) hW.size) ((hW.cell (p := ⟨Bl, 0, none⟩) (hS _ hB.1)).trans hBl) ((hW.cell (p := ⟨Bp, 0, none⟩) (hS _ hB.2.1)).trans hBp) ((hW.cell (p := ⟨Bq, 0, none⟩) (hS _ hB.2.2)).trans hq0) ((hW.cell (p := ⟨Bq, 3, none⟩) (hS _ hB.2.2)).trans hq3) hA (hL.below hW) hY h0

set_option maxHeartbeats 800000 in
theorem splays_is (p : Sc.Pt) (A : Option Addr) (len cap : Nat) (w : World) :
    Calls Tryz.prog 54 #[.slice A len cap, .agg #[.int .i64 p.id, .int .i64 p.se, .int .i64 p.f, .int .i64 p.oc, .int .i64 p.de, .int .i64 p.ss, .int .i64 p.sm, .int .i64 p.ls, .int .i64 p.la, .int .i64 p.lo, .int .i64 p.hs, .int .i64 p.ha, .int .i64 p.ho]] w fun e w' => Below w.heap.size w w' ∧ ∃ Bl Bp Bq, (w.heap.size ≤ Bl ∧ w.heap.size ≤ Bp ∧ w.heap.size ≤ Bq) ∧ e = .returned (.func (.func 77) #[] #[.pointer (some ⟨Bl, 0, none⟩), .pointer (some ⟨Bp, 0, none⟩), .pointer (some ⟨Bq, 0, none⟩)]) ∧ (Bl < w'.heap.size ∧ Bp < w'.heap.size ∧ Bq < w'.heap.size) ∧ w'.cell? ⟨Bl, 0, none⟩ = some (.slice A len cap) ∧ w'.cell? ⟨Bp, 0, none⟩ = some (.int .i64 (Sc.src p)) ∧ w'.cell? ⟨Bq, 0, none⟩ = some (.int .i64 p.id) ∧ w'.cell? ⟨Bq, 3, none⟩ = some (.int .i64 p.oc) := by
  by_cases h : p.f = 0
  · have hs : Sc.src p = p.id := by unfold Sc.src; rw [if_pos h]
    have hbe : (p.f != 0) = false := by simpa using h
    rw [hs]
    clear h hs
    have G := (((Below.refl w.heap.size w).alloc (Nat.le_refl _) (.cells #[.slice A len cap] 24)).alloc (by simp) (.cells #[.int .i64 p.id, .int .i64 p.se, .int .i64 p.f, .int .i64 p.oc, .int .i64 p.de, .int .i64 p.ss, .int .i64 p.sm, .int .i64 p.ls, .int .i64 p.la, .int .i64 p.lo, .int .i64 p.hs, .int .i64 p.ha, .int .i64 p.ho] 49)).alloc (by simp; omega) (.cells #[.int .i64 p.id] 3)
    go_enter Tryz.func54, Tryz.ntmps54
    go_wp2_with fail
    go_ret
    exact ⟨G, _, _, _, by simp; omega, rfl, by simp; omega, by go_simp, by go_simp, by go_simp, by go_simp⟩
  · have hs : Sc.src p = p.f := by unfold Sc.src; rw [if_neg h]
    have hbe : (p.f != 0) = true := by simpa using h
    rw [hs]
    clear h hs
    have G := (((Below.refl w.heap.size w).alloc (Nat.le_refl _) (.cells #[.slice A len cap] 24)).alloc (by simp) (.cells #[.int .i64 p.id, .int .i64 p.se, .int .i64 p.f, .int .i64 p.oc, .int .i64 p.de, .int .i64 p.ss, .int .i64 p.sm, .int .i64 p.ls, .int .i64 p.la, .int .i64 p.lo, .int .i64 p.hs, .int .i64 p.ha, .int .i64 p.ho] 49)).alloc (by simp; omega) (.cells #[.int .i64 p.f] 3)
    go_enter Tryz.func54, Tryz.ntmps54
    go_wp2_with fail
    go_ret
    exact ⟨G, _, _, _, by simp; omega, rfl, by simp; omega, by go_simp, by go_simp, by go_simp, by go_simp⟩
end Go.Proofs.YtbbjifhelbeniaaGreatDoor

/- What a part plays: the walks of score's Plays, of the reference's Source, Played, Plays. -/
namespace Go.Proofs.YtbbjifhelbeniaaGreatDoor
open Go.RowKit Go.Shelf

attribute [local go_sem] Oper.semAt_some

theorem own_actsE {B n1 n2 : Nat} {X Y : World} {e : TypeId} {size : Nat} {v : Value} {n : Nat} {xs : List Value} (h : X.ownsRow B e size v n xs) (hb : Acts n1 n2 X Y) (hv : ∀ j, v.ownBlock = some j → j < n1 ∨ n2 ≤ j) : Y.ownsRow B e size v n xs := by
  refine ⟨h.1, ?_⟩
  rcases h.2 with h2 | ⟨g, cap, cur, h1, h2, h3, h4⟩
  · exact .inl h2
  · exact .inr ⟨g, cap, cur, h1, h2, (hb.same g (Array.getElem?_eq_some_iff.1 h3).1 (hv g (by rw [h1]; rfl))).trans h3, h4⟩
theorem own_emptyQ (w : World) (base : Nat) (h : base ≤ w.heap.size) : (w.alloc (.cells #[] 51)).ownsRow base 51 12 (.slice (some ⟨w.heap.size, 0, none⟩) 0 0) 0 [] :=
  ⟨rfl, .inr ⟨w.heap.size, 0, #[], rfl, h, heap_alloc_new w _, Nat.le_refl _, by unfold maxLen; omega, rfl, rfl⟩⟩

set_option maxRecDepth 100000 in
set_option maxHeartbeats 2400000 in
theorem splaysAll_is (s : SH) (bs : List Mt.B) (ps : List Sc.Pt) (ns : List No.Nt) (id r : Int) (h : Sc.pix ps id = r) (hwf : WfS bs ps ns) (w : World) (hG : Glob w) (hS : SlS w s bs ps ns) :
    Calls Tryz.prog 19 #[.agg #[.int .i64 s.v, .slice s.B s.bl s.bc, .slice s.P s.pl s.pc, .slice s.N s.nl s.nc], .int .i64 id] w fun y w' => Below w.heap.size w w' ∧ ((¬ Sc.Val s.v bs ps ns ∧ y = .returned (.tuple #[.slice none 0 0, .int .i64 1])) ∨ (Sc.Val s.v bs ps ns ∧ r < 0 ∧ y = .returned (.tuple #[.slice none 0 0, .int .i64 22])) ∨ (Sc.Val s.v bs ps ns ∧ 0 ≤ r ∧ ∃ v, y = .returned (.tuple #[v, .int .i64 0]) ∧ w'.ownsRow w.heap.size 51 12 v (Sc.play (atQ ps r.toNat) ns).length (vO (Sc.play (atQ ps r.toNat) ns)))) := by
  have HW := Lib.hid hwf
  have HR := Lib.hid h
  have HL := Lib.hid (And.intro hS.bl (And.intro hS.pl hS.nl))
  have HNB : Hid (0 < ns.length → ∀ b off, s.N = some ⟨b, off, none⟩ → b < w.heap.size) := Lib.hid (fun h0 b off e => by
    obtain ⟨b', off', e', hlt, _⟩ := hS.sn h0
    rw [e] at e'
    cases e'
    exact hlt)
  clear hwf h
  by_cases q1 : Sc.Val s.v bs ps ns
  case neg =>
    have HV := Lib.hid q1
    clear q1
    go_enter Tryz.func19, Tryz.ntmps19
    go_wp2_with fail
    have B := Below.refl w.heap.size w
    refine (svalid_is s bs ps ns false ⟨(fun h => by cases h), fun h => absurd h HV.out⟩ HW.out _ (hG.alloc _) (hS.alloc _)).mono ?_; rintro e w1 ⟨rfl, hb⟩
    replace hS := (hS.alloc _).below hb
    have A := (ScB.new _ s).below hb
    replace hG := (hG.alloc _).below hb
    replace B := (B.alloc (by have := B.size; simp <;> omega) _).trans (hb.mono (by have := B.size; simp <;> omega))
    clear hb
    have lA := A.lt; have cA0 := A.c0; have cA1 := A.c1; have cA2 := A.c2; have cA3 := A.c3
    go_wp2_with fail
    refine bodyPost_ret (v := .tuple #[.slice none 0 0, .int .i64 1]) (by simp [results, Tryz.results19, go_sem]) rfl ⟨B, .inl ⟨HV.out, rfl⟩⟩
  have HV := Lib.hid q1
  have hpm : s.pl ≤ 60 := by have h1 := q1.parts.1.2; have h2 := hS.pl; omega
  have hnm : s.nl ≤ 20000 := by have h1 := q1.notes.2.1; have h2 := hS.nl; omega
  by_cases q2 : 0 ≤ r
  case neg =>
    have hf : Fnd r 0 false := .inr ⟨by omega, rfl, rfl⟩
    have HF := Lib.hid hf
    clear q1 hf
    go_enter Tryz.func19, Tryz.ntmps19
    go_wp2_with fail
    have B := Below.refl w.heap.size w
    refine (svalid_is s bs ps ns true ⟨fun _ => HV.out, fun _ => rfl⟩ HW.out _ (hG.alloc _) (hS.alloc _)).mono ?_; rintro e w1 ⟨rfl, hb⟩
    replace hS := (hS.alloc _).below hb
    have A := (ScB.new _ s).below hb
    replace hG := (hG.alloc _).below hb
    replace B := (B.alloc (by have := B.size; simp <;> omega) _).trans (hb.mono (by have := B.size; simp <;> omega))
    clear hb
    have lA := A.lt; have cA0 := A.c0; have cA1 := A.c1; have cA2 := A.c2; have cA3 := A.c3
    go_wp2_with fail
    refine (sindexP_is ps id r 0 false _ _ _ HR.out HF.out HL.out.2.1 (by omega) _ hS.sp).mono ?_; rintro e w2 ⟨rfl, hb⟩
    replace hS := hS.below hb
    replace A := A.below hb
    replace hG := hG.below hb
    replace B := B.trans (hb.mono (by have := B.size; simp <;> omega))
    clear hb lA cA0 cA1 cA2 cA3
    have lA := A.lt; have cA0 := A.c0; have cA1 := A.c1; have cA2 := A.c2; have cA3 := A.c3
    go_wp2_with fail
    refine bodyPost_ret (v := .tuple #[.slice none 0 0, .int .i64 22]) (by simp [results, Tryz.results19, go_sem]) rfl ⟨B, .inr (.inl ⟨HV.out, by omega, rfl⟩)⟩
  case pos =>
    obtain ⟨i, rfl⟩ : ∃ i : Nat, r = i := ⟨r.toNat, by omega⟩
    have hil : i < ps.length := by have := Sc.pix_lt ps id; have := HR.out; omega
    have his : i < s.pl := by have := hS.pl; omega
    have hf : Fnd (i : Int) (i : Int) true := .inl ⟨by omega, rfl, rfl⟩
    have HF := Lib.hid hf
    have HOC : Hid (∀ n ∈ ns, 0 ≤ n.oc ∧ n.oc ≤ 9) := Lib.hid (fun n hn => (q1.notes.2.2.1 n hn).2.1.2.2.2.2)
    have hok := q1.parts.2.1 _ (atQ_mem hil)
    have HPC : Hid (-2 ≤ (atQ ps i).oc ∧ (atQ ps i).oc ≤ 2) := Lib.hid (by
      have h1 := hok.2.2.2.1
      unfold Sc.dbl at h1
      split at h1
      · omega
      · exact h1.2.2)
    rw [Int.toNat_natCast]
    obtain ⟨p, hp⟩ : ∃ p, atQ ps i = p := ⟨_, rfl⟩
    rw [hp] at HPC
    rw [hp]
    have HP := Lib.hid hp
    have HIL := Lib.hid hil
    have hi1 : (i : Int) < (s.pl : Int) := by omega
    clear q1 hf hok hp hil q2
    refine (callsIn_wide (n := 10)).1 (callsIn_of_wp_marks Tryz.func19 rfl trivial (wpIn_wide.2 ?_) rfl)
    simp only [Tryz.ntmps19, List.size_toArray, List.length_cons, List.length_nil, Nat.reduceAdd, Nat.reduceSub, Array.replicate_succ, Array.replicate_zero, List.push_toArray, List.append_toArray, List.nil_append, List.cons_append]
    go_wp2_with fail
    have B := Below.refl w.heap.size w
    refine (svalid_is s bs ps ns true ⟨fun _ => HV.out, fun _ => rfl⟩ HW.out _ (hG.alloc _) (hS.alloc _)).mono ?_; rintro e w1 ⟨rfl, hb⟩
    replace hS := (hS.alloc _).below hb
    have A := (ScB.new _ s).below hb
    replace hG := (hG.alloc _).below hb
    replace B := (B.alloc (by have := B.size; simp <;> omega) _).trans (hb.mono (by have := B.size; simp <;> omega))
    clear hb
    have lA := A.lt; have cA0 := A.c0; have cA1 := A.c1; have cA2 := A.c2; have cA3 := A.c3
    go_wp2_with fail
    refine (sindexP_is ps id i i true _ _ _ HR.out HF.out HL.out.2.1 (by omega) _ hS.sp).mono ?_; rintro e w2 ⟨rfl, hb⟩
    replace hS := hS.below hb
    replace A := A.below hb
    replace hG := hG.below hb
    replace B := B.trans (hb.mono (by have := B.size; simp <;> omega))
    clear hb lA cA0 cA1 cA2 cA3
    have lA := A.lt; have cA0 := A.c0; have cA1 := A.c1; have cA2 := A.c2; have cA3 := A.c3
    go_wp2_with fail
    have hon := own_emptyQ w2 w2.heap.size (Nat.le_refl _)
    have hE1 : w.heap.size < w2.heap.size := lA
    obtain ⟨E, hE⟩ : ∃ E, w2.heap.size = E := ⟨_, rfl⟩
    obtain ⟨w3, hw3⟩ : ∃ w3, (w2.alloc (.cells #[] 51)).alloc (.cells #[.slice (some ⟨w2.heap.size, 0, none⟩) 0 0] 24) = w3 := ⟨_, rfl⟩
    have hs3 : w3.heap.size = E + 2 := by rw [← hw3, ← hE]; simp
    have G3 : Below w2.heap.size w2 w3 := by rw [← hw3]; exact ((Below.refl _ _).alloc (Nat.le_refl _) _).alloc (by simp) _
    have B3 : w3.cell? ⟨E + 1, 0, none⟩ = some (.slice (some ⟨E, 0, none⟩) 0 0) ∧ w3.frozen? ⟨E + 1, 0, none⟩ = false := by
      rw [← hw3, ← hE]
      have h := new1 (w2.alloc (.cells #[] 51)) (.slice (some ⟨w2.heap.size, 0, none⟩) 0 0) 24
      rwa [World.size_alloc] at h
    have hon3 : w3.ownsRow E 51 12 (.slice (some ⟨E, 0, none⟩) 0 0) 0 [] := by
      rw [← hw3, ← hE]
      exact hon.alloc _
    have hS3 := hS.below G3
    have A3 := A.below G3
    have GB3 := B.trans (G3.mono B.size)
    rw [hw3, hE]
    clear hw3 hon hS A hG B G3 cA0 cA1 cA2 cA3
    obtain ⟨pb, po, hPe, hpb, hpc⟩ := hS3.sp (by have := HIL.out; omega)
    have X := hpc i HIL.out
    rw [HP.out] at X
    obtain ⟨d0, d1, d2, d3, d4, d5, d6, d7, d8, d9, d10, d11, d12⟩ := X
    rw [Nat.add_zero] at d0
    have k2 := A3.c2
    rw [hPe] at k2
    have k3 := A3.c3
    have x2 := fun x : Ext w3 => x.cell k2
    have x3 := fun x : Ext w3 => x.cell k3
    have y0 := fun x : Ext w3 => x.cell d0; have y1 := fun x : Ext w3 => x.cell d1; have y2 := fun x : Ext w3 => x.cell d2; have y3 := fun x : Ext w3 => x.cell d3; have y4 := fun x : Ext w3 => x.cell d4; have y5 := fun x : Ext w3 => x.cell d5; have y6 := fun x : Ext w3 => x.cell d6; have y7 := fun x : Ext w3 => x.cell d7; have y8 := fun x : Ext w3 => x.cell d8; have y9 := fun x : Ext w3 => x.cell d9; have y10 := fun x : Ext w3 => x.cell d10; have y11 := fun x : Ext w3 => x.cell d11; have y12 := fun x : Ext w3 => x.cell d12
    have hne := Ext.there w3
    have HS3 := Lib.hid hS3
    clear d0 d1 d2 d3 d4 d5 d6 d7 d8 d9 d10 d11 d12 k2 k3 hpc hPe hS3
    refine Ext.tail 7 (by kernel_rfl) (by kernel_rfl) ?_
    simp only [List.take_succ_cons, List.take_zero, List.drop_succ_cons, List.drop_zero]
    repeat (go_big_quiet_step (fail))
    refine wpQuiet_nil ?_
    rintro _ ⟨xw, rfl⟩
    obtain ⟨w4, hb4⟩ := xw
    clear y0 y1 y2 y3 y4 y5 y6 y7 y8 y9 y10 y11 y12 x2 x3 hne
    dsimp only
    go_wp2_with fail
    refine (splays_is p _ _ _ _).mono ?_; rintro e w5 ⟨hb5, Bl, Bp, Bq, hlo, rfl, hhi, kl, kp, kq0, kq3⟩
    go_wp2_with fail
    have hs34 := hb4.size
    have hs45 := hb5.size
    have G5 : Below w3.heap.size w3 w5 := hb4.trans (hb5.mono hb4.size)
    have c5 := (G5.cell (p := ⟨E + 1, 0, none⟩) (by show E + 1 < _; omega)).trans B3.1
    have f5 := (G5.frozen (p := ⟨E + 1, 0, none⟩) (by show E + 1 < _; omega)).trans B3.2
    have ho5 := own_actsE hon3 (Acts.ofBelow (n1 := 0) (n2 := 0) G5) (fun j _ => .inr (Nat.zero_le _))
    have hS5 := HS3.out.sn.below G5
    have GB5 := GB3.trans (G5.mono GB3.size)
    obtain ⟨i0, hi, hz0, hz1, hz2⟩ := info_parts infoNote
    obtain ⟨S, hSd⟩ : ∃ S : Nat → Prop, S = fun k => (k = Bl ∨ k = Bp ∨ k = Bq) ∨ (0 < ns.length ∧ ∃ off, s.N = some ⟨k, off, none⟩) := ⟨_, rfl⟩
    have hS1 : ∀ k, S k → k < w5.heap.size ∧ k ≠ E ∧ k ≠ E + 1 := fun k hk => by
      rw [hSd] at hk
      rcases hk with hk | ⟨h0, off, he⟩
      · omega
      · have := HNB.out h0 k off he; omega
    have hSB : S Bl ∧ S Bp ∧ S Bq := by rw [hSd]; exact ⟨.inl (.inl rfl), .inl (.inr (.inl rfl)), .inl (.inr (.inr rfl))⟩
    have hSA : 0 < ns.length → ∀ b off, s.N = some ⟨b, off, none⟩ → S b := fun h0 b off he => by rw [hSd]; exact .inr ⟨h0, off, he⟩
    have HS1 := Lib.hid hS1
    clear hSd hb4 hb5 hon3 B3 G5 A3 GB3 lA hpb
    refine wp_seqS (gf := 77) (lb := #[.pointer (some ⟨Bl, 0, none⟩), .pointer (some ⟨Bp, 0, none⟩), .pointer (some ⟨Bq, 0, none⟩)]) rfl (enters_of Tryz.func77 (by kernel_rfl) rfl)
      (splays_seq p ns s.nl s.nc s.N Bl Bp Bq S HL.out.2.2 (by omega) HOC.out HPC.out w5 hSB (fun k hk => (hS1 k hk).1) kl kp kq0 kq3 hSA hS5) (fun k hk => (hS1 k hk).1) (Below.refl _ _)
      (fun _ => rfl)
      (fun m pre X => (∃ v, (∀ j, v.ownBlock = some j → j < m ∧ (j = E ∨ w5.heap.size + 2 ≤ j)) ∧ X.cell? ⟨E + 1, 0, none⟩ = some v ∧ X.ownsRow E 51 12 v pre.length (vO pre)) ∧ X.frozen? ⟨E + 1, 0, none⟩ = false ∧ Below w.heap.size w X)
      (fun _ _ => False) false 0 ?hmono ?hI (fun _ _ _ h _ => h) ?h0
      (fun _ x a' X => ∃ b, w5.heap.size + 2 + 0 ≤ b ∧ NtB X b x ∧ a' = { tmps := #[.agg #[.int .i64 s.v, .slice s.B s.bl s.bc, .slice s.P s.pl s.pc, .slice s.N s.nl s.nc], .int .i64 id, .pointer (some ⟨w.heap.size, 0, none⟩), undef, .slice none 0 0, .int .i64 0, .int .i64 (i : Int), .bool true, .pointer (some ⟨E + 1, 0, none⟩), .pointer (some ⟨b, 0, none⟩), .agg #[.int .i64 s.v, .slice s.B s.bl s.bc, .slice s.P s.pl s.pc, .slice s.N s.nl s.nc], .bool true, .bool false, .tuple #[.int .i64 (i : Int), .bool true], .pointer (some ⟨w.heap.size, 2, none⟩), .slice s.P s.pl s.pc, .int .i64 id, .tuple #[.int .i64 (i : Int), .bool true], .int .i64 (i : Int), .bool true, .bool true, .bool false, .slice (some ⟨E, 0, none⟩) 0 0, .pointer (some ⟨w.heap.size, 3, none⟩), .slice s.N s.nl s.nc, .pointer (some ⟨w.heap.size, 2, none⟩), .slice (some ⟨pb, po, none⟩) s.pl s.pc, .int .i64 (i : Int), .pointer (some ⟨pb, po + i * 13, none⟩), .agg #[.int .i64 p.id, .int .i64 p.se, .int .i64 p.f, .int .i64 p.oc, .int .i64 p.de, .int .i64 p.ss, .int .i64 p.sm, .int .i64 p.ls, .int .i64 p.la, .int .i64 p.lo, .int .i64 p.hs, .int .i64 p.ha, .int .i64 p.ho], .func (.func 77) #[] #[.pointer (some ⟨Bl, 0, none⟩), .pointer (some ⟨Bp, 0, none⟩), .pointer (some ⟨Bq, 0, none⟩)], .agg #[.int .i64 x.id, .int .i64 x.pa, .int .i64 x.ba, .int .i64 x.vo, .int .i64 x.os, .int .i64 x.sn, .int .i64 x.sd, .int .i64 x.ln, .int .i64 x.ld, .int .i64 x.st, .int .i64 x.al, .int .i64 x.oc], undef, undef, undef, undef, undef], defers := [] })
      ?hAx ?assign ?body ?done ?stop
    case hmono =>
      rintro m m2 s X hm ⟨⟨v, hv, hc, ho⟩, hf, hG⟩
      exact ⟨⟨v, fun j hj => ⟨Nat.lt_of_lt_of_le (hv j hj).1 hm, (hv j hj).2⟩, hc, ho⟩, hf, hG⟩
    case hI =>
      rintro m s X Y ⟨⟨v, hv, hc, ho⟩, hf, hG⟩ hb
      exact ⟨⟨v, hv, hb.cell (.inl (by show E + 1 < _; omega)) hc, own_actsE ho hb (fun j hj => by have := (hv j hj).2; omega)⟩, (hb.frozen (.inl (by show E + 1 < _; omega)) hc).trans hf, hG.trans (hb.below (by omega) hG.size)⟩
    case h0 => exact ⟨⟨_, fun j hj => (by have : j = E := (by cases hj; rfl); subst this; exact ⟨by omega, .inl rfl⟩), c5, ho5⟩, f5, GB5⟩
    case hAx =>
      rintro m x a' X o o' ⟨b, hb, NB, rfl⟩ _ _
      exact ⟨b, hb, NB.put (by omega) _, rfl⟩
    case assign =>
      rintro L m pre x X hpre hm1 hm2 ⟨⟨v, hv, hc, ho⟩, hf, hG⟩ hz
      gi_wp2
      refine ⟨(KrS.refl _ _ _ _ _).alloc _, ⟨⟨v, hv, keep_alloc hc _, ho.alloc _⟩, ?_, hG.alloc hG.size _⟩, X.heap.size, hz, NtB.new X x, rfl⟩
      exact (((Below.refl X.heap.size X).alloc (Nat.le_refl _) _).frozen (p := ⟨E + 1, 0, none⟩) (World.block_lt_of_cell? _ _ hc)).trans hf
    case body =>
      rintro L m pre x a' X hpre hm1 hm2 ⟨⟨v, hv, hc, ho⟩, hf, hG⟩ ⟨b, hb, NB, rfl⟩ hz
      have hpl : pre.length + 1 ≤ 20000 := by
        have := hpre.length_le
        have := Sc.play_len p ns
        have := HL.out.2.2
        rw [List.length_append, List.length_singleton] at *
        omega
      obtain ⟨c0, c1, c2, c3, c4, c5, c6, c7, c8, c9, c10, c11⟩ := And.intro NB.c0 (And.intro NB.c1 (And.intro NB.c2 (And.intro NB.c3 (And.intro NB.c4 (And.intro NB.c5 (And.intro NB.c6 (And.intro NB.c7 (And.intro NB.c8 (And.intro NB.c9 (And.intro NB.c10 NB.c11))))))))))
      have hlt : E + 1 < X.heap.size := World.block_lt_of_cell? _ _ hc
      have K0 : KrS S w5.heap.size (w5.heap.size + 2 + 0) m X (X.alloc (.cells #[.int .i64 x.id, .int .i64 x.pa, .int .i64 x.ba, .int .i64 x.vo, .int .i64 x.os, .int .i64 x.sn, .int .i64 x.sd, .int .i64 x.ln, .int .i64 x.ld, .int .i64 x.st, .int .i64 x.al, .int .i64 x.oc] 51)) := (KrS.refl _ _ _ _ _).alloc _
      have hcA := keep_alloc hc (.cells #[.int .i64 x.id, .int .i64 x.pa, .int .i64 x.ba, .int .i64 x.vo, .int .i64 x.os, .int .i64 x.sn, .int .i64 x.sd, .int .i64 x.ln, .int .i64 x.ld, .int .i64 x.st, .int .i64 x.al, .int .i64 x.oc] 51)
      have hfA := (((Below.refl X.heap.size X).alloc (Nat.le_refl _) (.cells #[.int .i64 x.id, .int .i64 x.pa, .int .i64 x.ba, .int .i64 x.vo, .int .i64 x.os, .int .i64 x.sn, .int .i64 x.sd, .int .i64 x.ln, .int .i64 x.ld, .int .i64 x.st, .int .i64 x.al, .int .i64 x.oc] 51)).frozen (p := ⟨E + 1, 0, none⟩) hlt).trans hf
      have hGA := hG.alloc hG.size (.cells #[.int .i64 x.id, .int .i64 x.pa, .int .i64 x.ba, .int .i64 x.vo, .int .i64 x.os, .int .i64 x.sn, .int .i64 x.sd, .int .i64 x.ln, .int .i64 x.ld, .int .i64 x.st, .int .i64 x.al, .int .i64 x.oc] 51)
      have hoA := ho.alloc (.cells #[.int .i64 x.id, .int .i64 x.pa, .int .i64 x.ba, .int .i64 x.vo, .int .i64 x.os, .int .i64 x.sn, .int .i64 x.sd, .int .i64 x.ln, .int .i64 x.ld, .int .i64 x.st, .int .i64 x.al, .int .i64 x.oc] 51)
      have zA : (X.alloc (.cells #[.int .i64 x.id, .int .i64 x.pa, .int .i64 x.ba, .int .i64 x.vo, .int .i64 x.os, .int .i64 x.sn, .int .i64 x.sd, .int .i64 x.ln, .int .i64 x.ld, .int .i64 x.st, .int .i64 x.al, .int .i64 x.oc] 51)).heap.size = X.heap.size + 1 := by simp
      have HVV := Lib.hid hv
      clear ho hf hG NB hv
      gi_wp2_with (first | (gi_at_builtin; refine wpListIn_append_own_at _ rfl _ _ 24 rfl E 51 i0 (.agg #[.int .i64 0, .int .i64 0, .int .i64 0, .int .i64 0, .int .i64 0, .int .i64 0, .int .i64 0, .int .i64 0, .int .i64 0, .int .i64 0, .int .i64 0, .int .i64 0]) 12 96 Tryz.underlying24 hi hz0 hz1 hz2 rfl (by decide) v pre.length (vO pre) rfl hoA ⟨X.heap.size, 0, none⟩ 1 1 (rowO x) rfl rfl (newO X x) (rowO_cells x) (by unfold maxLen; omega) (by omega) (by omega) ?_; intro v' w1 hown' hgrow _ hat; have hv1 := HVV.out; have K1 := K0.grown hgrow (fun j hj => by have h1 := hv1 j hj; exact ⟨fun h => (by have := HS1.out j h; omega), by omega, by omega⟩); have hG1 := hGA.grown hgrow hGA.size (fun j hj => by have := hv1 j hj; omega); have hne1 : some (E + 1) ≠ v.ownBlock := (fun e => by have := hv1 _ e.symm; omega); have hc1 := (World.cell?_of_block (w := X.alloc (.cells #[.int .i64 x.id, .int .i64 x.pa, .int .i64 x.ba, .int .i64 x.vo, .int .i64 x.os, .int .i64 x.sn, .int .i64 x.sd, .int .i64 x.ln, .int .i64 x.ld, .int .i64 x.st, .int .i64 x.al, .int .i64 x.oc] 51)) (w' := w1) (a := ⟨E + 1, 0, none⟩) (hgrow.block (E + 1) (by omega) hne1)).trans hcA; have hf1 := (World.frozen?_of_block (w := X.alloc (.cells #[.int .i64 x.id, .int .i64 x.pa, .int .i64 x.ba, .int .i64 x.vo, .int .i64 x.os, .int .i64 x.sn, .int .i64 x.sd, .int .i64 x.ln, .int .i64 x.ld, .int .i64 x.st, .int .i64 x.al, .int .i64 x.oc] 51)) (w' := w1) (a := ⟨E + 1, 0, none⟩) (hgrow.block (E + 1) (by omega) hne1)).trans hfA; have hv2 : ∀ j, v'.ownBlock = some j → j < w1.heap.size ∧ (j = E ∨ w5.heap.size + 2 ≤ j) := (fun j hj => ⟨(hown'.lt j hj).2, hat.elim (fun h => (hv1 j (h.symm.trans hj)).2) (fun h => .inr (by have e := h.symm.trans hj; cases e; omega))⟩); obtain ⟨g', cap', rfl⟩ := ownsRow_succ hown'))
      refine ⟨K1.setCell (p := ⟨E + 1, 0, none⟩) (fun h => (HS1.out _ h).2.2 rfl) (.inl (by show E + 1 < _; omega)) (by show E + 1 < _; omega) _, ⟨_, ?_, World.cell?_setCell_same' _ _ _ (by rw [hc1]; rfl), ?_⟩, by rw [World.frozen?_setCell]; exact hf1, hG1.setCell (p := ⟨E + 1, 0, none⟩) (by show w.heap.size ≤ E + 1; omega) _⟩
      · intro j hj; have := hv2 j hj; simpa using this
      rw [List.length_append, List.length_singleton, vO_app, vO_one]
      exact ownsRow_setCell_other hown' (fun e => by have := (hv2 (E + 1) e).2; omega) _
    case done =>
      rintro D X hD _ ⟨m, _, ⟨v, hv, hc, ho⟩, hf, hG⟩ hK
      have HOW := Lib.hid ho
      clear ho
      go_wp2_with fail
      refine ⟨by simp, .inl ⟨_, _, rfl, run_takeDeferred hK, ?_⟩⟩
      refine ⟨.tuple #[v, .int .i64 0], by simp [results, Tryz.results19, go_sem], hG.trans (putObj_below (by omega) hG.size), .inr (.inr ⟨HV.out, by omega, v, rfl, ?_⟩)⟩
      exact ownsRow_putObj (own_less HOW.out (by omega)) _ hK rfl
    case stop =>
      rintro D pre X hD hpre h
      exact h.elim
end Go.Proofs.YtbbjifhelbeniaaGreatDoor
