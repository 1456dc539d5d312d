/- The walks of the landed codec: seal, Frame. -/
import Derived.Test.YtnnhpbkhfaaaeaaEe
import Derived.Test.YtnnhpbkhfaaaeaaGs
import Derived.Deep.WholeRow
namespace Go.Proofs.Ytnnhpbkhfaaaeaa
open Go.RowKit

theorem own_full {w : World} {base : Nat} {e : TypeId} {S n : Nat} {xs : List Value} (h : w.ownsRow base e 1 (.slice (some ⟨S, 0, none⟩) n n) n xs) : w.heap[S]? = some (.cells xs.toArray e (0, 0)) := by
  rcases h.2 with ⟨hv, _⟩ | ⟨b, cap, cur, hv, _, hg, _, _, hc, ht⟩
  · cases hv
  · cases hv
    rw [Nat.mul_one] at hc ht
    rw [hg, ← ht, List.take_of_length_le (by rw [Array.length_toList, hc]; exact Nat.le_refl _), Array.toArray_toList]
def zer (n : Nat) : List Nat := List.replicate n 0
def arr (s i : Nat) : List Nat := (Dg.be8 s).take i ++ zer (8 - i)
theorem info47 : (Try.prog.info? 47).map (fun i => i.size) = some 8 := by kernel_rfl
theorem load47 {w : World} {base S : Nat} {g : List Nat} (hg : g.length = 8) (h : w.ownsRow base 47 1 (.slice (some ⟨S, 0, none⟩) 8 8) 8 (vN .u8 g)) : (loadVar 47 ⟨S, 0, none⟩).run Try.prog w = .ok (.agg (vN .u8 g).toArray) w :=
  run_loadVar_row w S 47 47 _ (0, 0) _ (own_full h) Try.underlying47 rfl (by rw [info47, List.size_toArray, vN_length, hg])
theorem store47 {w : World} {base S : Nat} {g k : List Nat} (hg : g.length = 8) (hk : k.length = 8) (h : w.ownsRow base 47 1 (.slice (some ⟨S, 0, none⟩) 8 8) 8 (vN .u8 k)) : (storeVar 47 ⟨S, 0, none⟩ (.agg (vN .u8 g).toArray)).run Try.prog w = .ok () (w.setRow S (vN .u8 g).toArray) :=
  run_storeVar_row w S 47 47 _ _ (own_full h) (by rw [info47, List.size_toArray, vN_length, hg]) (by rw [List.size_toArray, List.size_toArray, vN_length, vN_length, hg, hk]) (by
    rw [Array.all_eq_true_iff_forall_mem]
    intro v hv
    exact vN_one .u8 g v (by simpa using hv))
theorem setRow_block (w : World) (S k : Nat) (cs : Array Value) (h : k ≠ S) : (w.setRow S cs).heap[k]? = w.heap[k]? := by
  simp only [World.setRow, Array.getElem?_modify, if_neg (Ne.symm h)]
theorem setRow_size (w : World) (S : Nat) (cs : Array Value) : (w.setRow S cs).heap.size = w.heap.size := by simp [World.setRow]
theorem Below.setRow {B : Nat} {a w : World} (h : Below B a w) {S : Nat} (hS : B ≤ S) (cs : Array Value) : Below B a (w.setRow S cs) :=
  ⟨h.os, h.tape, h.output, by rw [setRow_size]; exact h.size, fun k hk => (setRow_block w S k cs (by omega)).trans (h.block k hk)⟩
theorem own_setRow {w : World} {base S : Nat} {e : TypeId} {g k : List Nat} (hg : g.length = 8) (h : w.ownsRow base e 1 (.slice (some ⟨S, 0, none⟩) 8 8) 8 (vN .u8 k)) : (w.setRow S (vN .u8 g).toArray).ownsRow base e 1 (.slice (some ⟨S, 0, none⟩) 8 8) 8 (vN .u8 g) := by
  have hh := own_full h
  obtain ⟨hb, _⟩ := h.lt S rfl
  refine ⟨by rw [vN_length, hg], .inr ⟨S, 8, (vN .u8 g).toArray, rfl, hb, setRow_heap w S _ _ _ _ hh, Nat.le_refl _, by unfold maxLen; omega, by rw [List.size_toArray, vN_length, hg], ?_⟩⟩
  rw [List.take_of_length_le (by simp [vN_length, hg])]

theorem wpList_load_is {P : Program} {w : World} {ops : Array Oper} {rest : List Oper} {o : Oper} {a : Act} {Q : Exit → Act → World → Prop} (hgd : o.guard = none) (t : TypeId) (x : Operand) (ho : o.op = .load t x) (p : Addr) (v : Value) (hr : (loadVar t p).run P w = .ok v w) (hx : a.eval x = .pointer (some p)) (h : wpList P ops Q rest (a.put o.dst v) w) : wpList P ops Q (o :: rest) a w := by
  refine wpList_plain hgd fun K hK => ?_
  unfold Oper.wp
  simp [execOp, ho, hx, Instr.loadAt, Instr.sureAddr, hr, Result.andThen]
  exact hK _ _ h
theorem wpList_store_is {P : Program} {w w' : World} {ops : Array Oper} {rest : List Oper} {o : Oper} {a : Act} {Q : Exit → Act → World → Prop} (hgd : o.guard = none) (t : TypeId) (x y : Operand) (ho : o.op = .store t x y) (p : Addr) (v : Value) (hr : (storeVar t p v).run P w = .ok () w') (hx : a.eval x = .pointer (some p)) (hy : a.eval y = v) (h : wpList P ops Q rest (a.put o.dst undef) w') : wpList P ops Q (o :: rest) a w := by
  refine wpList_plain hgd fun K hK => ?_
  unfold Oper.wp
  simp [execOp, ho, hx, hy, Instr.storeAt, Instr.sureAddr, hr, Result.andThen]
  exact hK _ _ h

set_option maxHeartbeats 3200000 in
theorem seal_is (g : List Nat) (n cap : Nat) (A : Option Addr) (s : Nat) (h : Dg.sum g = s) (hl : g.length = n) (hlt : ∀ x ∈ g, x < 256) (hmax : n ≤ 1000000000000) (w : World) (hL : SlN .u8 w A g) :
    Calls Try.prog 25 #[.slice A n cap] w fun e w' => e = .returned (.agg (vN .u8 (Dg.be8 s)).toArray) ∧ Below w.heap.size w w' := by
  have hs : s < 18446744073709551616 := by rw [← h]; exact Dg.sum_lt _
  have HS := Lib.hid h
  have HN := Lib.hid hl
  have HT := Lib.hid hlt
  have HW0 := Lib.hid (hL.below (((Below.refl w.heap.size w).alloc (Nat.le_refl _) (.cells #[.int .u8 0, .int .u8 0, .int .u8 0, .int .u8 0, .int .u8 0, .int .u8 0, .int .u8 0, .int .u8 0] 47)).alloc (by simp) (.cells #[.int .u8 0, .int .u8 0, .int .u8 0, .int .u8 0, .int .u8 0, .int .u8 0, .int .u8 0, .int .u8 0] 47)))
  have hR0 := (World.ownsRow_lit (size := 1) (base := w.heap.size) (e := 47) w #[.int .u8 0, .int .u8 0, .int .u8 0, .int .u8 0, .int .u8 0, .int .u8 0, .int .u8 0, .int .u8 0] 8 (Nat.le_refl _) (by unfold maxLen; omega) rfl).alloc (.cells #[.int .u8 0, .int .u8 0, .int .u8 0, .int .u8 0, .int .u8 0, .int .u8 0, .int .u8 0, .int .u8 0] 47)
  have hS0 := World.ownsRow_lit (size := 1) (base := w.heap.size) (e := 47) (w.alloc (.cells #[.int .u8 0, .int .u8 0, .int .u8 0, .int .u8 0, .int .u8 0, .int .u8 0, .int .u8 0, .int .u8 0] 47)) #[.int .u8 0, .int .u8 0, .int .u8 0, .int .u8 0, .int .u8 0, .int .u8 0, .int .u8 0, .int .u8 0] 8 (by simp) (by unfold maxLen; omega) rfl
  have hB0 := (((Below.refl w.heap.size w).alloc (Nat.le_refl _) (.cells #[.int .u8 0, .int .u8 0, .int .u8 0, .int .u8 0, .int .u8 0, .int .u8 0, .int .u8 0, .int .u8 0] 47)).alloc (by simp) (.cells #[.int .u8 0, .int .u8 0, .int .u8 0, .int .u8 0, .int .u8 0, .int .u8 0, .int .u8 0, .int .u8 0] 47))
  have hX : (w.alloc (.cells #[.int .u8 0, .int .u8 0, .int .u8 0, .int .u8 0, .int .u8 0, .int .u8 0, .int .u8 0, .int .u8 0] 47)).heap.size = w.heap.size + 1 := by simp
  rw [hX] at hS0
  have HB0 := Lib.hid hB0
  have HR0 := Lib.hid hR0
  have HS0 := Lib.hid hS0
  clear h hl hlt hL hR0 hS0 hB0 hX
  go_enter Try.func25, Try.ntmps25
  go_wp2_with (first | (go_at_call 36; refine (dsum_any g n cap A s HS.out HN.out HT.out hmax _ HW0.out).mono ?_; rintro e w1 ⟨rfl, hb1⟩) | fail)
  have HR1 : Hid (w1.ownsRow w.heap.size 47 1 (.slice (some ⟨w.heap.size, 0, none⟩) 8 8) 8 (vN .u8 (zer 8))) := Lib.hid (HR0.out.kept (below_grown hb1 none) none_ne)
  have HS1 : Hid (w1.ownsRow w.heap.size 47 1 (.slice (some ⟨w.heap.size + 1, 0, none⟩) 8 8) 8 (vN .u8 (arr s 0))) := Lib.hid (HS0.out.kept (below_grown hb1 none) none_ne)
  have hB1 := HB0.out.trans (hb1.mono HB0.out.size)
  clear hb1 HR0 HS0 HB0 HW0
  go_loopw [8] (fun s8 wr => ∃ (i : Nat) (q : Int), i ≤ 8 ∧ q = i ∧ s8 = .int .i64 q ∧ Hid (wr.ownsRow w.heap.size 47 1 (.slice (some ⟨w.heap.size, 0, none⟩) 8 8) 8 (vN .u8 (zer 8))) ∧ Hid (wr.ownsRow w.heap.size 47 1 (.slice (some ⟨w.heap.size + 1, 0, none⟩) 8 8) 8 (vN .u8 (arr s i))) ∧ Below w.heap.size w wr) (fun s8 _ => 8 - (intOf s8).toNat)
  case atStart => exact ⟨0, 0, by omega, rfl, rfl, HR1, HS1, hB1⟩
  case round =>
    clear HR1 HS1 hB1
    obtain ⟨i, q, hi8, hq, rfl, HR, HS, hG⟩ := hrel
    by_cases hlt : i < 8
    · have c8 : i = 0 ∨ i = 1 ∨ i = 2 ∨ i = 3 ∨ i = 4 ∨ i = 5 ∨ i = 6 ∨ i = 7 := by omega
      clear hi8 hlt
      rcases c8 with rfl | rfl | rfl | rfl | rfl | rfl | rfl | rfl
      · obtain rfl : q = 0 := hq
        have f0 : (s : Int) / 72057594037927936 % 256 = ((s / 72057594037927936 % 256 : Nat) : Int) := by omega
        have f1 : (s : Int) / 72057594037927936 = ((s / 72057594037927936 % 256 : Nat) : Int) := by omega
        have hc := HS.out.cells (g := w.heap.size + 1) rfl 0 _ rfl
        rw [addr_add] at hc
        have hf := HS.out.frozenAt 0
        obtain ⟨st1, st2⟩ := HS.out.stored 0 (.int .u8 ((s / 72057594037927936 % 256 : Nat) : Int))
        have HS2 : Hid ((wr.setCell ⟨w.heap.size + 1, 0, none⟩ (.int .u8 ((s / 72057594037927936 % 256 : Nat) : Int))).ownsRow w.heap.size 47 1 (.slice (some ⟨w.heap.size + 1, 0, none⟩) 8 8) 8 (vN .u8 (arr s 1))) := Lib.hid st1
        have HR2 := Lib.hid (HR.out.kept st2 (.inr (fun e => by have := Option.some.inj e; simp at this)))
        have hG2 := hG.setCell (p := ⟨w.heap.size + 1, 0, none⟩) (Nat.le_succ _) (.int .u8 ((s / 72057594037927936 % 256 : Nat) : Int))
        clear st1 st2 HS HR
        generalize s / 72057594037927936 % 256 = x at *
        go_wp2_with fail
        go_roundw
        case rel => exact ⟨1, 1, by omega, rfl, rfl, HR2, HS2, hG2⟩
        case measure => simp [intOf]
      · obtain rfl : q = 1 := hq
        have f0 : (s : Int) / 281474976710656 % 256 = ((s / 281474976710656 % 256 : Nat) : Int) := by omega
        have hc := HS.out.cells (g := w.heap.size + 1) rfl 1 _ rfl
        rw [addr_add] at hc
        have hf := HS.out.frozenAt 1
        obtain ⟨st1, st2⟩ := HS.out.stored 1 (.int .u8 ((s / 281474976710656 % 256 : Nat) : Int))
        have HS2 : Hid ((wr.setCell ⟨w.heap.size + 1, 1, none⟩ (.int .u8 ((s / 281474976710656 % 256 : Nat) : Int))).ownsRow w.heap.size 47 1 (.slice (some ⟨w.heap.size + 1, 0, none⟩) 8 8) 8 (vN .u8 (arr s 2))) := Lib.hid st1
        have HR2 := Lib.hid (HR.out.kept st2 (.inr (fun e => by have := Option.some.inj e; simp at this)))
        have hG2 := hG.setCell (p := ⟨w.heap.size + 1, 1, none⟩) (Nat.le_succ _) (.int .u8 ((s / 281474976710656 % 256 : Nat) : Int))
        clear st1 st2 HS HR
        generalize s / 281474976710656 % 256 = x at *
        go_wp2_with fail
        go_roundw
        case rel => exact ⟨2, 2, by omega, rfl, rfl, HR2, HS2, hG2⟩
        case measure => simp [intOf]
      · obtain rfl : q = 2 := hq
        have f0 : (s : Int) / 1099511627776 % 256 = ((s / 1099511627776 % 256 : Nat) : Int) := by omega
        have hc := HS.out.cells (g := w.heap.size + 1) rfl 2 _ rfl
        rw [addr_add] at hc
        have hf := HS.out.frozenAt 2
        obtain ⟨st1, st2⟩ := HS.out.stored 2 (.int .u8 ((s / 1099511627776 % 256 : Nat) : Int))
        have HS2 : Hid ((wr.setCell ⟨w.heap.size + 1, 2, none⟩ (.int .u8 ((s / 1099511627776 % 256 : Nat) : Int))).ownsRow w.heap.size 47 1 (.slice (some ⟨w.heap.size + 1, 0, none⟩) 8 8) 8 (vN .u8 (arr s 3))) := Lib.hid st1
        have HR2 := Lib.hid (HR.out.kept st2 (.inr (fun e => by have := Option.some.inj e; simp at this)))
        have hG2 := hG.setCell (p := ⟨w.heap.size + 1, 2, none⟩) (Nat.le_succ _) (.int .u8 ((s / 1099511627776 % 256 : Nat) : Int))
        clear st1 st2 HS HR
        generalize s / 1099511627776 % 256 = x at *
        go_wp2_with fail
        go_roundw
        case rel => exact ⟨3, 3, by omega, rfl, rfl, HR2, HS2, hG2⟩
        case measure => simp [intOf]
      · obtain rfl : q = 3 := hq
        have f0 : (s : Int) / 4294967296 % 256 = ((s / 4294967296 % 256 : Nat) : Int) := by omega
        have hc := HS.out.cells (g := w.heap.size + 1) rfl 3 _ rfl
        rw [addr_add] at hc
        have hf := HS.out.frozenAt 3
        obtain ⟨st1, st2⟩ := HS.out.stored 3 (.int .u8 ((s / 4294967296 % 256 : Nat) : Int))
        have HS2 : Hid ((wr.setCell ⟨w.heap.size + 1, 3, none⟩ (.int .u8 ((s / 4294967296 % 256 : Nat) : Int))).ownsRow w.heap.size 47 1 (.slice (some ⟨w.heap.size + 1, 0, none⟩) 8 8) 8 (vN .u8 (arr s 4))) := Lib.hid st1
        have HR2 := Lib.hid (HR.out.kept st2 (.inr (fun e => by have := Option.some.inj e; simp at this)))
        have hG2 := hG.setCell (p := ⟨w.heap.size + 1, 3, none⟩) (Nat.le_succ _) (.int .u8 ((s / 4294967296 % 256 : Nat) : Int))
        clear st1 st2 HS HR
        generalize s / 4294967296 % 256 = x at *
        go_wp2_with fail
        go_roundw
        case rel => exact ⟨4, 4, by omega, rfl, rfl, HR2, HS2, hG2⟩
        case measure => simp [intOf]
      · obtain rfl : q = 4 := hq
        have f0 : (s : Int) / 16777216 % 256 = ((s / 16777216 % 256 : Nat) : Int) := by omega
        have hc := HS.out.cells (g := w.heap.size + 1) rfl 4 _ rfl
        rw [addr_add] at hc
        have hf := HS.out.frozenAt 4
        obtain ⟨st1, st2⟩ := HS.out.stored 4 (.int .u8 ((s / 16777216 % 256 : Nat) : Int))
        have HS2 : Hid ((wr.setCell ⟨w.heap.size + 1, 4, none⟩ (.int .u8 ((s / 16777216 % 256 : Nat) : Int))).ownsRow w.heap.size 47 1 (.slice (some ⟨w.heap.size + 1, 0, none⟩) 8 8) 8 (vN .u8 (arr s 5))) := Lib.hid st1
        have HR2 := Lib.hid (HR.out.kept st2 (.inr (fun e => by have := Option.some.inj e; simp at this)))
        have hG2 := hG.setCell (p := ⟨w.heap.size + 1, 4, none⟩) (Nat.le_succ _) (.int .u8 ((s / 16777216 % 256 : Nat) : Int))
        clear st1 st2 HS HR
        generalize s / 16777216 % 256 = x at *
        go_wp2_with fail
        go_roundw
        case rel => exact ⟨5, 5, by omega, rfl, rfl, HR2, HS2, hG2⟩
        case measure => simp [intOf]
      · obtain rfl : q = 5 := hq
        have f0 : (s : Int) / 65536 % 256 = ((s / 65536 % 256 : Nat) : Int) := by omega
        have hc := HS.out.cells (g := w.heap.size + 1) rfl 5 _ rfl
        rw [addr_add] at hc
        have hf := HS.out.frozenAt 5
        obtain ⟨st1, st2⟩ := HS.out.stored 5 (.int .u8 ((s / 65536 % 256 : Nat) : Int))
        have HS2 : Hid ((wr.setCell ⟨w.heap.size + 1, 5, none⟩ (.int .u8 ((s / 65536 % 256 : Nat) : Int))).ownsRow w.heap.size 47 1 (.slice (some ⟨w.heap.size + 1, 0, none⟩) 8 8) 8 (vN .u8 (arr s 6))) := Lib.hid st1
        have HR2 := Lib.hid (HR.out.kept st2 (.inr (fun e => by have := Option.some.inj e; simp at this)))
        have hG2 := hG.setCell (p := ⟨w.heap.size + 1, 5, none⟩) (Nat.le_succ _) (.int .u8 ((s / 65536 % 256 : Nat) : Int))
        clear st1 st2 HS HR
        generalize s / 65536 % 256 = x at *
        go_wp2_with fail
        go_roundw
        case rel => exact ⟨6, 6, by omega, rfl, rfl, HR2, HS2, hG2⟩
        case measure => simp [intOf]
      · obtain rfl : q = 6 := hq
        have f0 : (s : Int) / 256 % 256 = ((s / 256 % 256 : Nat) : Int) := by omega
        have hc := HS.out.cells (g := w.heap.size + 1) rfl 6 _ rfl
        rw [addr_add] at hc
        have hf := HS.out.frozenAt 6
        obtain ⟨st1, st2⟩ := HS.out.stored 6 (.int .u8 ((s / 256 % 256 : Nat) : Int))
        have HS2 : Hid ((wr.setCell ⟨w.heap.size + 1, 6, none⟩ (.int .u8 ((s / 256 % 256 : Nat) : Int))).ownsRow w.heap.size 47 1 (.slice (some ⟨w.heap.size + 1, 0, none⟩) 8 8) 8 (vN .u8 (arr s 7))) := Lib.hid st1
        have HR2 := Lib.hid (HR.out.kept st2 (.inr (fun e => by have := Option.some.inj e; simp at this)))
        have hG2 := hG.setCell (p := ⟨w.heap.size + 1, 6, none⟩) (Nat.le_succ _) (.int .u8 ((s / 256 % 256 : Nat) : Int))
        clear st1 st2 HS HR
        generalize s / 256 % 256 = x at *
        go_wp2_with fail
        go_roundw
        case rel => exact ⟨7, 7, by omega, rfl, rfl, HR2, HS2, hG2⟩
        case measure => simp [intOf]
      · obtain rfl : q = 7 := hq
        have f0 : (s : Int) / 1 % 256 = ((s % 256 : Nat) : Int) := by omega
        have f1 : (s : Int) % 256 = ((s % 256 : Nat) : Int) := by omega
        have hc := HS.out.cells (g := w.heap.size + 1) rfl 7 _ rfl
        rw [addr_add] at hc
        have hf := HS.out.frozenAt 7
        obtain ⟨st1, st2⟩ := HS.out.stored 7 (.int .u8 ((s % 256 : Nat) : Int))
        have HS2 : Hid ((wr.setCell ⟨w.heap.size + 1, 7, none⟩ (.int .u8 ((s % 256 : Nat) : Int))).ownsRow w.heap.size 47 1 (.slice (some ⟨w.heap.size + 1, 0, none⟩) 8 8) 8 (vN .u8 (arr s 8))) := Lib.hid st1
        have HR2 := Lib.hid (HR.out.kept st2 (.inr (fun e => by have := Option.some.inj e; simp at this)))
        have hG2 := hG.setCell (p := ⟨w.heap.size + 1, 7, none⟩) (Nat.le_succ _) (.int .u8 ((s % 256 : Nat) : Int))
        clear st1 st2 HS HR
        generalize s % 256 = x at *
        go_wp2_with fail
        go_roundw
        case rel => exact ⟨8, 8, by omega, rfl, rfl, HR2, HS2, hG2⟩
        case measure => simp [intOf]
    · obtain rfl : i = 8 := by omega
      obtain rfl : q = 8 := hq
      have hl1 := load47 (by rfl) HS.out
      have hs2 := store47 (g := arr s 8) (by rfl) (by rfl) HR.out
      have HR3 := own_setRow (g := arr s 8) (by rfl) HR.out
      have hH3 := own_full HR3
      have hz3 : (Try.prog.info? 47).map (fun i => i.size) = some (vN .u8 (arr s 8)).toArray.size := by rw [info47, List.size_toArray, vN_length]; rfl
      have hG3 := Below.setRow hG (Nat.le_refl _) (vN .u8 (arr s 8)).toArray
      rw [show arr s 8 = Dg.be8 s from rfl] at *
      clear HR HS
      obtain ⟨C, hC⟩ : ∃ C, (vN .u8 (Dg.be8 s)).toArray = C := ⟨_, rfl⟩
      rw [hC] at hl1 hs2 hH3 hG3 hz3
      have HC := Lib.hid hC
      have HH3 := Lib.hid hH3
      have HZ3 := Lib.hid hz3
      clear hC HR3 hH3 hz3
      go_wp2_with (first | ((with_reducible refine wpList_load_is rfl _ _ rfl ⟨w.heap.size + 1, 0, none⟩ _ hl1 ?_ ?_); (· rfl)) | ((with_reducible refine wpList_store_is rfl _ _ _ rfl ⟨w.heap.size, 0, none⟩ _ hs2 ?_ ?_ ?_); (· rfl); (· rfl)) | fail)
      try simp only [Exit.inBlock, Exit.then]
      refine bodyPost_ret (v := .agg C) ?_ rfl ⟨by rw [HC.out], hG3⟩
      exact results_cell_row rfl _ _ w.heap.size 47 C (0, 0) _ rfl HH3.out Try.underlying47 rfl HZ3.out
end Go.Proofs.Ytnnhpbkhfaaaeaa
