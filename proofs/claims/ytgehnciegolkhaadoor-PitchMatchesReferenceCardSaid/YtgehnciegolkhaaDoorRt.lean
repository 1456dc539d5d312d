/- The walks of the reference's letters, decimal. -/
import Derived.Test.YtgehnciegolkhaaDoorRa
import Derived.Test.YtgehnciegolkhaaDoorTx
import Derived.LoopTactic
import Derived.LoopN
namespace Go.Proofs.YtgehnciegolkhaaDoor
open Go.RowKit

theorem letters_any (w : World) :
    Calls Tryd.prog 39 #[] w fun e w' => e = .returned (.string ⟨#[67, 68, 69, 70, 71, 65, 66]⟩) ∧ w = w' := by
  go_enter Tryd.func39, Tryd.ntmps39
  go_wp2
  go_ret
  exact ⟨rfl, rfl⟩

theorem one_byte (w : World) (n : Int) (h0 : 0 ≤ n) (h1 : n < 10) :
    (convert 63 9 (.slice (some ⟨w.heap.size, 0, none⟩) 1 1)).run Tryd.prog (w.alloc (.cells #[.int .u8 (48 + n)] 5)) = .ok (.string ⟨#[UInt8.ofNat (48 + n.toNat)]⟩) (w.alloc (.cells #[.int .u8 (48 + n)] 5)) := by
  rw [run_convert_bytes_arg (w.alloc (.cells #[.int .u8 (48 + n)] 5)) 63 5 Tryd.underlying63 Tryd.underlying5 w.heap.size 0 1 1 [48 + n] rfl (fun i hi => by
    obtain rfl : i = 0 := by omega
    go_simp) 9 Tryd.underlying9]
  obtain ⟨k, rfl⟩ := Int.eq_ofNat_of_zero_le h0
  have key : ∀ k : Fin 10, strOfNums [48 + ((k.val : Nat) : Int)] = ⟨#[UInt8.ofNat (48 + k.val)]⟩ := by decide +kernel
  rw [key ⟨k, by omega⟩]
  rfl

set_option maxHeartbeats 800000 in
theorem decimal_one (n : Int) (h0 : 0 ≤ n) (h1 : n < 10) (D : ByteArray) (hD : D = ⟨(Tx.dec1 n.toNat).toArray⟩) (w : World) :
    Calls Tryd.prog 40 #[.int .i64 n] w fun e w' => e = .returned (.string D) ∧ Below w.heap.size w w' := by
  have e1 : n.tmod 10 = n := Int.tmod_eq_of_lt h0 h1
  have hc := one_byte w n h0 h1
  have hE : (⟨#[UInt8.ofNat (48 + n.toNat)]⟩ : ByteArray) = D := by rw [hD]; unfold Tx.dec1; rw [if_pos (by omega)]
  rw [hE] at hc
  clear hD hE
  go_enter Tryd.func40, Tryd.ntmps40
  go_wp2
  go_ret
  exact ⟨rfl, by go_grown⟩

set_option maxHeartbeats 800000 in
theorem decimal_two (n : Int) (h0 : 10 ≤ n) (h1 : n < 100) (D : ByteArray) (hD : D = ⟨(Tx.dec1 n.toNat).toArray⟩) (w : World) :
    Calls Tryd.prog 40 #[.int .i64 n] w fun e w' => e = .returned (.string D) ∧ Below w.heap.size w w' := by
  obtain ⟨m, e1⟩ : ∃ m, n.tmod 10 = m := ⟨_, rfl⟩
  obtain ⟨q, e2⟩ : ∃ q, n.tdiv 10 = q := ⟨_, rfl⟩
  have T1 := Int.mul_tdiv_add_tmod n 10
  have T2 := Int.tmod_lt_of_pos n (b := 10) (by omega)
  have T3 := Int.tmod_nonneg 10 (show 0 ≤ n by omega)
  have hm : 0 ≤ m ∧ m < 10 := by omega
  have hq : 0 ≤ q ∧ q < 10 := by omega
  obtain ⟨⟨m0, m1⟩, q0, q1⟩ := And.intro hm hq
  have hw1 : IntKind.i64.wrap q = q := by rw [IntKind.wrap_i64]; omega
  have hw2 : IntKind.i64.wrap m = m := by rw [IntKind.wrap_i64]; omega
  have hc := one_byte w m m0 m1
  obtain ⟨A, hA⟩ : ∃ A : ByteArray, A = ⟨#[UInt8.ofNat (48 + m.toNat)]⟩ := ⟨_, rfl⟩
  obtain ⟨B, hB⟩ : ∃ B : ByteArray, B = ⟨(Tx.dec1 q.toNat).toArray⟩ := ⟨_, rfl⟩
  rw [← hA] at hc
  have zA : (A.size : Int) ≤ 1 := by rw [hA]; show ((1 : Nat) : Int) ≤ 1; omega
  have zB : (B.size : Int) ≤ 2 := by rw [hB, Tx.size_mk]; have := Tx.dec1_le q.toNat; omega
  have HD : Hid (D = B ++ A) := Lib.hid (by
    have a1 : n.toNat / 10 = q.toNat := by omega
    have a2 : n.toNat % 10 = m.toNat := by omega
    rw [hD, hA, hB]
    unfold Tx.dec1
    rw [if_neg (by omega), if_pos (by omega), a1, a2]
    exact (Tx.append_mk [UInt8.ofNat (48 + q.toNat)] [UInt8.ofNat (48 + m.toNat)]).symm)
  have HB := Lib.hid (fun w' => decimal_one q q0 q1 B hB w')
  clear hD hA hB T1 T2 T3
  go_enter Tryd.func40, Tryd.ntmps40
  go_wp2_with fail
  refine (HB.out _).mono ?_; rintro e w1 ⟨rfl, hb1⟩
  go_wp2_with fail
  rw [HD.out]
  go_ret
  exact ⟨rfl, ((Below.refl _ _).alloc (Nat.le_refl _) _).trans (hb1.mono (by simp))⟩

theorem decimal_pos (n : Int) (h0 : 0 ≤ n) (h1 : n < 100) (D : ByteArray) (hD : D = ⟨(Tx.dec1 n.toNat).toArray⟩) (w : World) :
    Calls Tryd.prog 40 #[.int .i64 n] w fun e w' => e = .returned (.string D) ∧ Below w.heap.size w w' := by
  by_cases h : n < 10
  · exact decimal_one n h0 h D hD w
  · exact decimal_two n (by omega) h1 D hD w

set_option maxHeartbeats 800000 in
theorem decimal_is (n : Int) (h0 : -100 < n) (h1 : n < 100) (D : ByteArray) (hD : D = ⟨(Tx.dec n).toArray⟩) (w : World) :
    Calls Tryd.prog 40 #[.int .i64 n] w fun e w' => e = .returned (.string D) ∧ Below w.heap.size w w' := by
  by_cases h : n < 0
  · obtain ⟨B, hB⟩ : ∃ B : ByteArray, B = ⟨(Tx.dec1 (-n).toNat).toArray⟩ := ⟨_, rfl⟩
    have zB : (B.size : Int) ≤ 2 := by rw [hB, Tx.size_mk]; have := Tx.dec1_le (-n).toNat; omega
    have z1 : (((⟨#[45]⟩ : ByteArray)).size : Int) ≤ 1 := by show ((1 : Nat) : Int) ≤ 1; omega
    have HD : Hid (D = ⟨#[45]⟩ ++ B) := Lib.hid (by
      have a1 : n.natAbs = (-n).toNat := by omega
      rw [hD, hB]
      unfold Tx.dec
      rw [if_pos h, a1]
      exact (Tx.append_mk [45] _).symm)
    have HB := Lib.hid (fun w' => decimal_pos (-n) (by omega) (by omega) B hB w')
    clear hD hB
    go_enter Tryd.func40, Tryd.ntmps40
    go_wp2_with fail
    refine (HB.out _).mono ?_; rintro e w1 ⟨rfl, hb1⟩
    go_wp2_with fail
    rw [HD.out]
    go_ret
    exact ⟨rfl, hb1⟩
  · refine decimal_pos n (by omega) h1 D ?_ w
    rw [hD]; unfold Tx.dec; rw [if_neg h]
end Go.Proofs.YtgehnciegolkhaaDoor
