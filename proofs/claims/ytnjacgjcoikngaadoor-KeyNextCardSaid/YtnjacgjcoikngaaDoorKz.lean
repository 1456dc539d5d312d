/- How what came in is opened (keys, intervals, slices of pitches and of integers), and what the listed variables give. -/
import Derived.Test.YtnjacgjcoikngaaDoorKh
import Derived.Test.YtnjacgjcoikngaaDoorFn
import Derived.ProofKit
import Derived.OpenShut
import Derived.Lib.SmallJoins
import Derived.LaidMore
import Derived.LaidSub
import Derived.MakeChecks
import Derived.Stop.Joined
import Derived.Stop.LaidErr
import Derived.Lib.LaidTab
import Derived.Carry
import Derived.Deep.Slices
import Derived.Deep.Strs
namespace Go.Proofs.YtnjacgjcoikngaaDoor
open Go.ChangeShapes Go.WideShapes Go.ChangeAt Go.RowKit Go.Joins

theorem own : ownKnob Tryd.prog.godebug = none := by kernel_rfl
theorem cellsInt : Tryd.prog.cellsOf 3 = 1 := by kernel_rfl
theorem cellsIv : Tryd.prog.cellsOf 23 = 2 := by kernel_rfl
theorem cellsPitch : Tryd.prog.cellsOf 44 = 3 := by kernel_rfl

theorem open_iv {H : Type} {enc : TypeId × Value → H} {W : World} {base b0 : Nat} {r : Reach} {sp : Nat → Bool} {held : Bool} {v : Value} {d : DataW H} {p : List MemPlace}
    (hv : Value.okWide Tryd.prog W r b0 23 v) (h : DataW.Trod enc Tryd.prog W base sp held 23 v d p) : ∃ a b : Int, v = .agg #[.int .i64 a, .int .i64 b] := by
  obtain ⟨c0, c1, y0, y1, m, rfl, rfl, rfl, hy0, hy1⟩ := open_agg2 Tryd.underlying23 (by kernel_rfl) cellsIv hv h
  obtain ⟨a, e0, rfl, wa⟩ := DataW.trod_int Tryd.underlying3 hy0
  obtain ⟨b, e1, rfl, wb⟩ := DataW.trod_int Tryd.underlying3 hy1
  simp at e0 e1
  subst e0 e1
  exact ⟨a, b, rfl⟩
theorem wf_in {x : Int} (h : (Lit.int .i64 x).wf = true) : -9223372036854775808 ≤ x ∧ x ≤ 9223372036854775807 := by
  simp only [Lit.wf, Bool.and_eq_true, decide_eq_true_eq] at h
  exact ⟨Int.le_trans (by decide) h.1, Int.le_trans h.2 (by decide)⟩
theorem wf_in8 {x : Int} (h : (Lit.int .u8 x).wf = true) : 0 ≤ x ∧ x ≤ 255 := by
  simp only [Lit.wf, Bool.and_eq_true, decide_eq_true_eq] at h
  exact ⟨Int.le_trans (by decide) h.1, Int.le_trans h.2 (by decide)⟩
theorem wf_in16 {x : Int} (h : (Lit.int .u16 x).wf = true) : 0 ≤ x ∧ x ≤ 65535 := by
  simp only [Lit.wf, Bool.and_eq_true, decide_eq_true_eq] at h
  exact ⟨Int.le_trans (by decide) h.1, Int.le_trans h.2 (by decide)⟩

/-- A slice of integers that came in. -/
theorem open_sli {H : Type} {enc : TypeId × Value → H} {W : World} {b0 : Nat} {r : Reach} {v : Value} {d : DataW H} {p : List MemPlace}
    (hv : Value.okWide Tryd.prog W r b0 25 v) (h : DataW.Trod enc Tryd.prog W 0 (fun _ => true) true 25 v d p) :
    ∃ (A : Option Addr) (len cap : Nat) (g : List Int), v = .slice A len cap ∧ g.length = len ∧ len ≤ maxLen ∧ SlI W A g ∧ ∀ x ∈ g, -9223372036854775808 ≤ x ∧ x ≤ 9223372036854775807 := by
  obtain ⟨a0, len0, cap0, rfl⟩ := okWide_slice Tryd.underlying25 hv
  obtain ⟨fuel, hf⟩ := h
  rcases open_ints Tryd.underlying25 Tryd.underlying3 cellsInt hf with ⟨hcs, _⟩ | ⟨a, len, cap, zs, hcs, _, hl, hm, hlen, _, hc, hw⟩
  · simp [Value.cells] at hcs
    obtain ⟨rfl, rfl, rfl⟩ := hcs
    exact ⟨none, 0, 0, [], rfl, rfl, by unfold maxLen; omega, fun h0 => by simp at h0, fun x hx => by simp at hx⟩
  · simp [Value.cells] at hcs
    obtain ⟨rfl, rfl, rfl⟩ := hcs
    have hle : len0 ≤ zs.length := by rw [hlen]; split <;> omega
    refine ⟨some a, len0, cap0, zs.take len0, rfl, by simp; omega, by omega, fun h0 => ?_, fun x hx => wf_in (hw x (List.mem_of_mem_take hx))⟩
    have h0' : 0 < zs.length := by simp at h0; omega
    obtain ⟨b, off, spot⟩ := a
    have hs := World.cell?_spot (hc 0 h0')
    simp [Addr.add] at hs
    subst hs
    refine ⟨b, off, rfl, World.block_lt_of_cell? W _ (hc 0 h0'), fun k hk => ?_⟩
    simp at hk
    have := hc k (by omega)
    have e : (⟨b, off, none⟩ : Addr).add k = ⟨b, off + k, none⟩ := by unfold Addr.add; split <;> simp_all
    rw [e] at this
    rw [this]
    unfold Ky.atI
    rw [List.getElem?_take, if_pos (by omega), List.getD_eq_getElem?_getD]

/-- A slice of pitches that came in. -/
theorem open_slp {H : Type} {enc : TypeId × Value → H} {W : World} {b0 : Nat} {r : Reach} {v : Value} {d : DataW H} {p : List MemPlace}
    (hv : Value.okWide Tryd.prog W r b0 24 v) (h : DataW.Trod enc Tryd.prog W 0 (fun _ => true) true 24 v d p) :
    ∃ (A : Option Addr) (len cap : Nat) (l : List Ky.P3), v = .slice A len cap ∧ l.length = len ∧ len ≤ maxLen ∧ SlP W A l := by
  obtain ⟨a0, len0, cap0, rfl⟩ := okWide_slice Tryd.underlying24 hv
  obtain ⟨fuel, hf⟩ := h
  rcases Go.Deep.open_slice Tryd.underlying24 hf with ⟨hcs, _⟩ | ⟨a, len, cap, m, n, D, Pl, hcs, _, hl, hm, hmm, _, hx⟩
  · simp [Value.cells] at hcs
    obtain ⟨rfl, rfl, rfl⟩ := hcs
    exact ⟨none, 0, 0, [], rfl, rfl, by unfold maxLen; omega, fun h0 => by simp at h0⟩
  · simp [Value.cells] at hcs
    obtain ⟨rfl, rfl, rfl⟩ := hcs
    by_cases h0 : len0 = 0
    · subst h0; exact ⟨some a, 0, cap0, [], rfl, rfl, by omega, fun h0 => by simp at h0⟩
    rw [cellsPitch] at hx
    have key : ∀ i, i < len0 → ∃ z : Ky.P3, W.cell? (a.add (i * 3)) = some (.int .i64 z.1) ∧ W.cell? ((a.add (i * 3)).add 1) = some (.int .i64 z.2.1) ∧ W.cell? ((a.add (i * 3)).add 2) = some (.int .i64 z.2.2) := by
      intro i hi
      obtain ⟨cs', h1, h2⟩ := hx i (by rw [hmm]; simp; omega)
      obtain ⟨_, hlen, hc⟩ := World.cells?_some h1
      obtain ⟨c0, c1, c2, rfl⟩ : ∃ c0 c1 c2, cs' = [c0, c1, c2] := by
        match cs', hlen with
        | [c0, c1, c2], _ => exact ⟨c0, c1, c2, rfl⟩
      obtain ⟨y0, y1, y2, n', _, _, t0, t1, t2⟩ := Go.Deep.trod_struct3 Tryd.underlying44 h2
      have q0 := hc 0 (by omega)
      have q1 := hc 1 (by omega)
      have q2 := hc 2 (by omega)
      rw [cellsInt] at t0 t1 t2
      simp only [List.drop_zero, List.take_succ_cons, List.take_zero, List.drop_succ_cons] at t0 t1 t2
      obtain ⟨x, e0, _, _⟩ := DataW.trod_int Tryd.underlying3 t0
      obtain ⟨y, e1, _, _⟩ := DataW.trod_int Tryd.underlying3 t1
      obtain ⟨z, e2, _, _⟩ := DataW.trod_int Tryd.underlying3 t2
      simp only [List.cons.injEq, and_true] at e0 e1 e2
      subst e0 e1 e2
      exact ⟨(x, y, z), by simpa [Addr.add] using q0, q1, q2⟩
    obtain ⟨f, hfx⟩ : ∃ f : Nat → Ky.P3, ∀ i, i < len0 → W.cell? (a.add (i * 3)) = some (.int .i64 (f i).1) ∧ W.cell? ((a.add (i * 3)).add 1) = some (.int .i64 (f i).2.1) ∧ W.cell? ((a.add (i * 3)).add 2) = some (.int .i64 (f i).2.2) :=
      ⟨fun i => if h : i < len0 then Classical.choose (key i h) else (0, 0, 0), fun i h => by simp only [h, dif_pos]; exact Classical.choose_spec (key i h)⟩
    obtain ⟨b, off, spot⟩ := a
    have hs := World.cell?_spot (hfx 0 (by omega)).1
    simp [Addr.add] at hs
    subst hs
    have e : ((List.range len0).map f).length = len0 := by simp
    refine ⟨_, len0, cap0, (List.range len0).map f, rfl, e, by omega, fun _ => ⟨b, off, rfl, World.block_lt_of_cell? W _ (hfx 0 (by omega)).1, fun k hk => ?_⟩⟩
    have hk' : k < len0 := by simpa using hk
    have hq := hfx k hk'
    rw [Ky.at3_eq hk]
    simp only [List.getElem_map, List.getElem_range]
    by_cases k0 : k = 0
    · subst k0; simpa [Addr.add] using hq
    · have k2 : ¬ k * 3 = 0 := by omega
      simpa only [Addr.add, if_neg k2, if_neg (show ¬ (1 : Nat) = 0 by omega), if_neg (show ¬ (2 : Nat) = 0 by omega)] using hq

def laidK : List (String × DataW Unit) := Rows.keyNextRow.laid
def laidS : List (String × DataW Unit) := Rows.keyScalesRow.laid
theorem gSharps : Tryd.prog.globalNamed "partbook/key.sharps" = some 0 := by kernel_rfl
theorem gNums : Tryd.prog.globalNamed "partbook/pitch.numbers" = some 1 := by kernel_rfl
theorem tSharps : (Tryd.prog.globals[0]?).map (·.type) = some 55 := by kernel_rfl
theorem tNums : (Tryd.prog.globals[1]?).map (·.type) = some 55 := by kernel_rfl
theorem dSharps : (Rows.laid_partbook_key_sharps : DataW Unit) = Lib.tabData .i64 [3, 0, 4, 1, 5, 2, 6] := by kernel_rfl
theorem dNums : (Rows.laid_partbook_pitch_numbers : DataW Unit) = Lib.tabData .i64 [0, 2, 4, 5, 7, 9, 11] := by kernel_rfl
/-- The door's own heap meets the conditions. -/
theorem door_met (os : Os) (args : Array Value) : laidMetH Tryd.prog laidK ((World.doorLaid Tryd.prog 400 os).forCall (fun _ _ => 0) ⟨#[], args, []⟩).memory :=
  laidMetH_of_parts3 (fuel := 8) (laidMet_of_run' 8 (by kernel_rfl) (by kernel_rfl)) (by kernel_rfl) (by kernel_rfl)
theorem door_metS (os : Os) (args : Array Value) : laidMetH Tryd.prog laidS ((World.doorLaid Tryd.prog 400 os).forCall (fun _ _ => 0) ⟨#[], args, []⟩).memory :=
  laidMetH_of_parts3 (fuel := 8) (laidMet_of_run' 8 (by kernel_rfl) (by kernel_rfl)) (by kernel_rfl) (by kernel_rfl)
theorem GK.of_tab {W : World} (T : Lib.TabIs Tryd.prog W "partbook/key.sharps" .i64 [3, 0, 4, 1, 5, 2, 6]) : GK W :=
  ⟨World.block_lt_of_cell? _ _ (T.cell gSharps 0 (by decide)), T.cell gSharps 0 (by decide), T.cell gSharps 1 (by decide), T.cell gSharps 2 (by decide), T.cell gSharps 3 (by decide), T.cell gSharps 4 (by decide), T.cell gSharps 5 (by decide), T.cell gSharps 6 (by decide)⟩
/-- What the conditions give the walks. -/
theorem of_laid {W : World} (h : laidMetH Tryd.prog laidK W) : GK W := by
  rw [MakeChecks.laidMetH_plain _ _ _ (by kernel_rfl)] at h
  have h : laidMet Tryd.prog (("partbook/key.sharps", Rows.laid_partbook_key_sharps) :: []) W := h
  rw [dSharps] at h
  exact GK.of_tab (Lib.tabIs_of_head gSharps tSharps Tryd.underlying55 Tryd.underlying3 (by kernel_rfl) (by kernel_rfl) h)
theorem of_laidS {W : World} (h : laidMetH Tryd.prog laidS W) : GK W ∧ Glob W := by
  rw [MakeChecks.laidMetH_plain _ _ _ (by kernel_rfl)] at h
  have h : laidMet Tryd.prog (("partbook/pitch.numbers", Rows.laid_partbook_pitch_numbers) :: ("partbook/key.sharps", Rows.laid_partbook_key_sharps) :: []) W := h
  rw [dNums] at h
  have T := Lib.tabIs_of_head gNums tNums Tryd.underlying55 Tryd.underlying3 (by kernel_rfl) (by kernel_rfl) h
  have h2 := h.tail
  rw [dSharps] at h2
  refine ⟨GK.of_tab (Lib.tabIs_of_head gSharps tSharps Tryd.underlying55 Tryd.underlying3 (by kernel_rfl) (by kernel_rfl) h2), World.block_lt_of_cell? _ _ (T.cell gNums 0 (by decide)), fun s h0 h1 => ?_⟩
  rw [T.cell gNums s.toNat (by simp; omega)]
  have : s = 0 ∨ s = 1 ∨ s = 2 ∨ s = 3 ∨ s = 4 ∨ s = 5 ∨ s = 6 := by omega
  rcases this with rfl | rfl | rfl | rfl | rfl | rfl | rfl <;> rfl
end Go.Proofs.YtnjacgjcoikngaaDoor
