/- The walk of the reference's Sum. -/
import Derived.Test.YtnnhpbkhfaaaeaaSl
import Derived.Test.YtnnhpbkhfaaaeaaDm
import Derived.LoopTactic
import Derived.Laws.BitsAllLaws
namespace Go.Proofs.Ytnnhpbkhfaaaeaa
open Go.RowKit

theorem wrap_stp {d x : Nat} (hd : d < 18446744073709551616) (hx : x < 256) : IntKind.u64.wrap (bits .xor .u64 (d : Int) (x : Int) * 1099511628211) = ((Dg.stp d x : Nat) : Int) := by
  rw [u64_xor_nat d x hd (by omega)]
  unfold Dg.stp
  rw [Int.natCast_emod, Int.natCast_mul]
  simp [IntKind.wrap, IntKind.bits, IntKind.signed]

set_option maxHeartbeats 800000 in
theorem ksum_is (b : List Nat) (n cap : Nat) (A : Option Addr) (d : Nat) (h : Dg.sum b = d) (hb : b.length = n) (hlt : ∀ x ∈ b, x < 256) (hmax : n ≤ 1000000000000) (w : World) (hL : SlN .u8 w A b) :
    Calls Try.prog 27 #[.slice A n cap] w fun e w' => e = .returned (.int .u64 (d : Int)) ∧ Below w.heap.size w w' := by
  have HN := Lib.hid hb
  have HL := Lib.hid hL
  have HT := Lib.hid hlt
  have HD := Lib.hid h
  clear hb hL hlt h
  go_enter Try.func27, Try.ntmps27
  go_wp2
  go_loopw [3, 4] (fun s3 s4 wr => ∃ i : Nat, i ≤ n ∧ s4 = .int .i64 i ∧ ∃ e : Nat, s3 = .int .u64 (e : Int) ∧ e < 18446744073709551616 ∧ Hid (Dg.fnv e (b.drop i) = d) ∧ Below w.heap.size w wr) (fun _ s4 _ => n - (intOf s4).toNat)
  case atStart => exact ⟨0, Nat.zero_le _, rfl, Dg.beg, rfl, by decide, Lib.hid HD.out, Below.refl _ _⟩
  case round =>
    obtain ⟨i, hi, rfl, e, rfl, he, HE, hG⟩ := hrel
    by_cases hlt : i < n
    · obtain ⟨bb, off, rfl, hbb, hc⟩ := HL.out (by have := HN.out; omega)
      have x0 := (hG.cell (p := ⟨bb, off + i, none⟩) hbb).trans (hc i (by have := HN.out; omega))
      have hx : atN b i < 256 := by
        have h : i < b.length := by have := HN.out; omega
        rw [atN_eq h]; exact HT.out _ (List.getElem_mem h)
      have HS : Hid (Dg.fnv (Dg.stp e (atN b i)) (b.drop (i + 1)) = d) := Lib.hid (by
        have h : i < b.length := by have := HN.out; omega
        rw [← HE.out, List.drop_eq_getElem_cons h, Dg.fnv_cons, atN_eq h])
      have hw := wrap_stp he hx
      have hlt2 := Dg.stp_lt e (atN b i)
      clear hc HE
      generalize Dg.stp e (atN b i) = e2 at *
      generalize atN b i = x at *
      go_wp2_with fail
      go_roundw
      case rel => exact ⟨i + 1, by omega, by simp, e2, rfl, hlt2, HS, hG⟩
      case measure => simp [intOf] <;> omega
    · obtain rfl : i = n := by omega
      have hE := HE.out
      rw [List.drop_eq_nil_of_le (by have := HN.out; omega)] at hE
      obtain rfl : e = d := hE
      go_wp2_with fail
      go_ret
      exact ⟨rfl, hG⟩
end Go.Proofs.Ytnnhpbkhfaaaeaa
