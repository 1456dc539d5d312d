/- The walks of the landed digest: start and its two closures, Sum. -/
import Derived.Test.YtnnhpbkhfaaaeaaDs
namespace Go.Proofs.Ytnnhpbkhfaaaeaa
open Go.RowKit

/-- A variable of one number of 64 bits. -/
structure VarU (w : World) (b : Nat) (x : Nat) : Prop where
  lt : b < w.heap.size
  c0 : w.cell? ⟨b, 0, none⟩ = some (.int .u64 (x : Int))
  f0 : w.frozen? ⟨b, 0, none⟩ = false
theorem VarU.below {w w' : World} {b x : Nat} (h : VarU w b x) (hb : Below w.heap.size w w') : VarU w' b x :=
  ⟨Nat.lt_of_lt_of_le h.lt hb.size, (hb.cell (p := ⟨b, 0, none⟩) h.lt).trans h.c0, (hb.frozen (p := ⟨b, 0, none⟩) h.lt).trans h.f0⟩
theorem VarU.alloc {w : World} {b x : Nat} (h : VarU w b x) (o : Obj) : VarU (w.alloc o) b x := h.below ((Below.refl _ _).alloc (Nat.le_refl _) _)
theorem VarU.put {w : World} {b x : Nat} (h : VarU w b x) (y : Nat) : VarU (w.setCell ⟨b, 0, none⟩ (.int .u64 (y : Int))) b y := by
  obtain ⟨l, c0, f0⟩ := h
  refine ⟨by simpa using l, ?_, ?_⟩
  all_goals go_simp

def carryV (b : Nat) : Value := .func (.func 40) #[] #[.pointer (some ⟨b, 0, none⟩)]
def tellV (b : Nat) : Value := .func (.func 41) #[] #[.pointer (some ⟨b, 0, none⟩)]

set_option maxHeartbeats 800000 in
theorem start_is (w : World) :
    Calls Try.prog 38 #[] w fun e w' => ∃ b, e = .returned (.tuple #[.func (.func 40) #[] #[.pointer (some ⟨b, 0, none⟩)], .func (.func 41) #[] #[.pointer (some ⟨b, 0, none⟩)]]) ∧ w.heap.size ≤ b ∧ VarU w' b Dg.beg ∧ Below w.heap.size w w' := by
  have V : VarU (w.alloc (.cells #[.int .u64 14695981039346656037] 50)) w.heap.size Dg.beg := ⟨by simp, by go_simp; rfl, by go_simp⟩
  go_enter Try.func38, Try.ntmps38
  go_wp2
  refine bodyPost_ret (v := .tuple #[.func (.func 40) #[] #[.pointer (some ⟨w.heap.size, 0, none⟩)], .func (.func 41) #[] #[.pointer (some ⟨w.heap.size, 0, none⟩)]]) (by simp [results, Try.results38, go_sem]) rfl ?_
  exact ⟨w.heap.size, rfl, Nat.le_refl _, V, (Below.refl _ _).alloc (Nat.le_refl _) _⟩

set_option maxHeartbeats 800000 in
theorem carry_is (b d x y : Nat) (h : Dg.stp d x = y) (hd : d < 18446744073709551616) (hx : x < 256) (w : World) (hV : VarU w b d) :
    Calls Try.prog 40 #[.int .u8 (x : Int), .pointer (some ⟨b, 0, none⟩)] w fun e w' => e = .returned (.tuple #[]) ∧ VarU w' b y ∧ w' = w.setCell ⟨b, 0, none⟩ (.int .u64 (y : Int)) := by
  have V1 := hV.put y
  have hw := wrap_stp hd hx
  rw [h] at hw
  obtain ⟨l, c0, f0⟩ := hV
  clear h
  go_enter Try.func40, Try.ntmps40
  go_wp2
  go_end0
  exact ⟨rfl, V1, rfl⟩

set_option maxHeartbeats 800000 in
theorem tell_is (b d : Nat) (w : World) (hV : VarU w b d) :
    Calls Try.prog 41 #[.pointer (some ⟨b, 0, none⟩)] w fun e w' => e = .returned (.int .u64 (d : Int)) ∧ w = w' := by
  obtain ⟨l, c0, f0⟩ := hV
  go_enter Try.func41, Try.ntmps41
  go_wp2
  go_ret
  exact ⟨rfl, rfl⟩

set_option maxHeartbeats 800000 in
theorem dsum_any (b : List Nat) (n cap : Nat) (A : Option Addr) (d : Nat) (h : Dg.sum b = d) (hb : b.length = n) (hlt : ∀ x ∈ b, x < 256) (hmax : n ≤ 1000000000000) (w : World) (hL : SlN .u8 w A b) :
    Calls Try.prog 36 #[.slice A n cap] w fun e w' => e = .returned (.int .u64 (d : Int)) ∧ Below w.heap.size w w' := by
  have HN := Lib.hid hb
  have HL := Lib.hid hL
  have HT := Lib.hid hlt
  have HD : Hid (Dg.fnv Dg.beg b = d) := Lib.hid h
  have hbg : Dg.beg < 18446744073709551616 := by decide
  clear hb hL hlt h
  go_enter Try.func36, Try.ntmps36
  go_wp2_with fail
  refine (start_is _).mono ?_; rintro e0 w1 ⟨v, rfl, hv, V, hb1⟩
  generalize Dg.beg = beg at *
  go_wp2_with fail
  go_loopw [13] (fun s13 wr => ∃ i : Nat, i ≤ n ∧ s13 = .int .i64 i ∧ ∃ e : Nat, VarU wr v e ∧ e < 18446744073709551616 ∧ Hid (Dg.fnv e (b.drop i) = d) ∧ Below w.heap.size w wr) (fun s13 _ => n - (intOf s13).toNat)
  case atStart => exact ⟨0, Nat.zero_le _, rfl, beg, V, hbg, HD, hb1⟩
  case round =>
    clear V hb1 hbg HD
    obtain ⟨i, hi, rfl, e, V, he, HE, hG⟩ := hrel
    by_cases hlt : i < n
    · obtain ⟨bb, off, rfl, hbb, hc⟩ := HL.out (by have := HN.out; omega)
      have x0 := (hG.cell (p := ⟨bb, off + i, none⟩) hbb).trans (hc i (by have := HN.out; omega))
      have hx : atN b i < 256 := by
        have h : i < b.length := by have := HN.out; omega
        rw [atN_eq h]; exact HT.out _ (List.getElem_mem h)
      have HS : Hid (Dg.fnv (Dg.stp e (atN b i)) (b.drop (i + 1)) = d) := Lib.hid (by
        have h : i < b.length := by have := HN.out; omega
        rw [← HE.out, List.drop_eq_getElem_cons h, Dg.fnv_cons, atN_eq h])
      obtain ⟨e2, he2⟩ : ∃ e2, Dg.stp e (atN b i) = e2 := ⟨_, rfl⟩
      have hlt2 := Dg.stp_lt e (atN b i)
      rw [he2] at HS hlt2
      have HE2 := Lib.hid he2
      clear hc HE he2
      generalize atN b i = x at *
      go_wp2_with fail
      refine (carry_is v e x e2 HE2.out he hx _ V).mono ?_; rintro e3 w3 ⟨rfl, V3, hw3⟩
      have hG3 : Below w.heap.size w w3 := by rw [hw3]; exact hG.setCell hv _
      clear hw3 V hG x0
      go_wp2
      go_roundw
      case rel => exact ⟨i + 1, by omega, by simp, e2, V3, hlt2, HS, hG3⟩
      case measure => simp [intOf] <;> omega
    · obtain rfl : i = n := by omega
      have hE := HE.out
      rw [List.drop_eq_nil_of_le (by have := HN.out; omega)] at hE
      obtain rfl : e = d := hE
      go_wp2_with fail
      refine (tell_is v e _ V).mono ?_; rintro e3 w3 ⟨rfl, rfl⟩
      go_wp2_with fail
      go_ret
      exact ⟨rfl, hG⟩
end Go.Proofs.Ytnnhpbkhfaaaeaa
