/- The walk of the reference's SameBytes. -/
import Derived.Test.YtnnhpbkhfaaaeaaCr
import Derived.Laws.BytesArg
namespace Go.Proofs.Ytnnhpbkhfaaaeaa
open Go.RowKit

theorem conv_sln {w : World} {A : Option Addr} {g : List Nat} {n c : Nat} (h : SlN .u8 w A g) (hl : g.length = n) : (convert 23 9 (.slice A n c)).run Try.prog w = .ok (.string (strOfNums (up g))) w := by
  cases A with
  | none =>
    have : g = [] := by
      cases g with
      | nil => rfl
      | cons x r => obtain ⟨b, off, e, _⟩ := h (by simp); cases e
    subst this
    rw [run_convert_bytes_nil w 23 5 Try.underlying23 Try.underlying5 n c 9 Try.underlying9]
    rfl
  | some a =>
    cases g with
    | nil =>
      subst hl
      rw [run_convert_bytes_string w 23 9 5 (some a) _ c Try.underlying23 Try.underlying5 Try.underlying9, run_bytesToString w a _ c [] (by simp [loadCells, loadCellsFrom])]
      rfl
    | cons x r =>
      obtain ⟨b, off, e, _, hc⟩ := h (by simp)
      cases e
      exact run_convert_bytes_arg w 23 5 Try.underlying23 Try.underlying5 b off n c (up (x :: r)) (by rw [up_length]; exact hl) (fun i hi => by
        have hi' : i < (x :: r).length := by omega
        rw [hc i hi', List.getD_eq_getElem?_getD]
        have := up_at hi'
        unfold atI at this
        rw [this]) 9 Try.underlying9
theorem str_inj {a b : List Nat} (ha : ∀ x ∈ a, x < 256) (hb : ∀ x ∈ b, x < 256) : (strOfNums (up a) = strOfNums (up b)) ↔ a = b := by
  constructor
  · intro h
    have e : ∀ l : List Nat, (∀ x ∈ l, x < 256) → (strOfNums (up l)).data.toList.map UInt8.toNat = l := fun l hl => by
      unfold strOfNums up
      simp only [List.map_map]
      conv => rhs; rw [← List.map_id l]
      apply List.map_congr_left
      intro x hx
      have := hl x hx
      simp
      omega
    rw [← e a ha, ← e b hb, h]
  · rintro rfl
    rfl
theorem ksameBytes_is (a b : List Nat) (f : Bool) (la ca lb cb : Nat) (A B : Option Addr) (h : decide (a = b) = f) (hla : a.length = la) (hlb : b.length = lb) (ha : ∀ x ∈ a, x < 256) (hb : ∀ x ∈ b, x < 256) (w : World) (hA : SlN .u8 w A a) (hB : SlN .u8 w B b) :
    Calls Try.prog 12 #[.slice A la ca, .slice B lb cb] w fun e w' => e = .returned (.bool f) ∧ Below w.heap.size w w' := by
  have c1 := conv_sln (c := ca) hA hla
  have c2 := conv_sln (c := cb) hB hlb
  have hf : ((strOfNums (up a)).toList == (strOfNums (up b)).toList) = f := by
    rw [← h]
    have hi := str_inj ha hb
    by_cases e : a = b
    · rw [hi.2 e, decide_eq_true e]; simp
    · rw [decide_eq_false e]
      have : ¬ (strOfNums (up a)).toList = (strOfNums (up b)).toList := by
        rw [ByteArray.toList_eq, ByteArray.toList_eq]
        intro e2
        exact e (hi.1 (ByteArray.ext (Array.toList_inj.1 e2)))
      simpa using this
  generalize strOfNums (up a) = s at *
  generalize strOfNums (up b) = t at *
  clear hA hB ha hb h
  go_enter Try.func12, Try.ntmps12
  go_wp2_with fail
  go_ret
  exact ⟨rfl, Below.refl _ _⟩
end Go.Proofs.Ytnnhpbkhfaaaeaa
