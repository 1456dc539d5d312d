/- The walks of the laws' own rat, usable, example. -/
import Derived.Test.YthamkigdpgajaaaMg
import Derived.Laws.OwnMore
namespace Go.Proofs.Ythamkigdpgajaaa
open Go.RowKit

set_option maxHeartbeats 400000 in
theorem lrat_is (n d : Int) (w : World) :
    Calls Try.prog 24 #[.int .i64 n, .int .i64 d] w fun e w' => e = .returned (.agg #[.int .i64 n, .int .i64 d]) ∧ Below w.heap.size w w' := by
  have G := (Below.refl w.heap.size w).alloc (Nat.le_refl _) (.cells #[.int .i64 n, .int .i64 d] 24)
  go_enter Try.func24, Try.ntmps24
  go_wp2_with fail
  exact bodyPost_ret (v := .agg #[.int .i64 n, .int .i64 d]) (by simp [results, Try.results24, go_sem]) rfl ⟨rfl, G⟩

set_option maxHeartbeats 400000 in
theorem lusable_is (l : List Mt.B) (f : Bool) (len cap : Nat) (A : Option Addr) (h : f = true ↔ (len ≤ 60 ∧ Mt.Val l)) (hl : l.length = len) (w : World) (hL : SlB w A l) :
    Calls Try.prog 21 #[.slice A len cap] w fun e w' => e = .returned (.bool f) ∧ Below w.heap.size w w' := by
  by_cases h60 : len ≤ 60
  · have hv : f = true ↔ Mt.Val l := by rw [h]; exact ⟨fun x => x.2, fun x => ⟨h60, x⟩⟩
    have HV := Lib.hid hv
    have HN := Lib.hid hl
    have HL := Lib.hid hL
    have h60' : (len : Int) ≤ 60 := by omega
    clear h hv hl hL
    go_enter Try.func21, Try.ntmps21
    go_wp2_with (first | (go_at_call 14; refine (kvalid_is l f len cap A HV.out HN.out _ HL.out).mono ?_; rintro e w2 ⟨rfl, hb⟩) | fail)
    all_goals
      go_ret
      exact ⟨rfl, hb⟩
  · have hf : f = false := by
      cases f with
      | false => rfl
      | true => exact absurd (h.1 rfl).1 h60
    subst hf
    have h60' : ¬ (len : Int) ≤ 60 := by omega
    clear h hl hL
    go_enter Try.func21, Try.ntmps21
    go_wp2_with fail
    go_ret
    exact ⟨rfl, Below.refl _ _⟩

def exL : List Mt.B := [(7, 3, 1, 0), (8, 4, 1, 0), (9, 3, 2, -2)]
def exC : Array Value := #[.int .i64 7, .int .i64 3, .int .i64 1, .int .i64 0, .int .i64 8, .int .i64 4, .int .i64 1, .int .i64 0, .int .i64 9, .int .i64 3, .int .i64 2, .int .i64 (-2)]
theorem exC_slB {w : World} {S : Nat} (h : w.heap[S]? = some (.cells exC 45 (0, 0))) : SlB w (some ⟨S, 0, none⟩) exL := fun _ =>
  ⟨S, 0, rfl, (Array.getElem?_eq_some_iff.1 h).1, fun k hk => by
    have c : ∀ j, w.cell? ⟨S, j, none⟩ = exC[j]? := fun j => cell_of_row w S j exC 45 (0, 0) h
    have hk3 : k = 0 ∨ k = 1 ∨ k = 2 := by
      have : k < 3 := hk
      omega
    rcases hk3 with rfl | rfl | rfl <;> exact ⟨c _, c _, c _, c _⟩⟩
/-- The block of the examples' bars. -/
def RowE (w : World) (S : Nat) : Prop := w.heap[S]? = some (.cells exC 45 (0, 0))
theorem RowE.below {w w' : World} {S : Nat} (h : RowE w S) (hb : Below w.heap.size w w') : RowE w' S := (hb.block _ (Array.getElem?_eq_some_iff.1 h).1).trans h
theorem RowE.alloc {w : World} {S : Nat} (h : RowE w S) (o : Obj) : RowE (w.alloc o) S := h.below ((Below.refl _ _).alloc (Nat.le_refl _) _)
set_option maxHeartbeats 400000 in
theorem lexample_is (w : World) :
    Calls Try.prog 26 #[] w fun e w' => ∃ S, e = .returned (.slice (some ⟨S, 0, none⟩) 3 3) ∧ w.heap.size ≤ S ∧ RowE w' S ∧ Below w.heap.size w w' := by
  go_enter Try.func26, Try.ntmps26
  go_wp2_with fail
  refine (lrat_is 3 1 _).mono ?_; rintro e w1 ⟨rfl, hb1⟩
  go_wp2_with fail
  refine (lrat_is 4 1 _).mono ?_; rintro e w2 ⟨rfl, hb2⟩
  go_wp2_with fail
  refine (lrat_is 3 2 _).mono ?_; rintro e w3 ⟨rfl, hb3⟩
  have B := hb1.trans ((hb2.trans (hb3.mono hb2.size)).mono hb1.size)
  go_wp2_with fail
  go_ret
  exact ⟨w3.heap.size, rfl, B.size, heap_alloc_new w3 _, B.alloc B.size _⟩
end Go.Proofs.Ythamkigdpgajaaa
