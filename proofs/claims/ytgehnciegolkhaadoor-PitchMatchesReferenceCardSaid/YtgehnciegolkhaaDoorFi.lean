/- What strings.IndexRune answers on the letters of the steps, for every rune. -/
import Derived.Test.YtgehnciegolkhaaDoorFb
import Derived.Test.YtgehnciegolkhaaDoorTx
import Derived.Test.YtgehnciegolkhaaDoorShelf
import Derived.Lib.OthersKept
import Derived.LoopTactic
import Derived.WalkMore
namespace Go.Proofs.YtgehnciegolkhaaDoor
open Go.RowKit

theorem ib_none (s : ByteArray) (b : UInt8) (h : ∀ x ∈ s.data.toList, x ≠ b) : Lib.indexByte s.data.toList b = -1 := by
  generalize s.data.toList = l at *
  induction l with
  | nil => rfl
  | cons x l ih =>
    have h1 : x ≠ b := h x (by simp)
    simp [Lib.indexByte, h1, ih fun y hy => h y (by simp [hy])]
theorem ibyte_is (s : ByteArray) (b : UInt8) (h : ∀ x ∈ s.data.toList, x ≠ b) (w : World) :
    Calls Tryd.prog 57 #[.string s, .int .u8 b.toNat] w fun e w' => e = .returned (.int .i64 (-1)) ∧ w = w' := by
  refine (Tryd.strings_IndexByte s b.toNat w).mono ?_
  rintro e w' ⟨rfl, rfl⟩
  refine ⟨?_, rfl⟩
  have e1 : ((b.toNat : Nat) : Int).toNat.toUInt8 = b := by simp
  rw [e1, ib_none s b h]
theorem vrune_is (r : Int) (v : Bool) (h : Lib.validRune r = v) (w : World) :
    Calls Tryd.prog 58 #[.int .i32 r] w fun e w' => e = .returned (.bool v) ∧ w = w' := by
  subst h
  refine (Tryd.utf8_ValidRune r w).mono ?_
  rintro e w' ⟨rfl, rfl⟩
  exact ⟨rfl, rfl⟩
theorem lets_low : ∀ x ∈ Tx.lets, x.toNat < 128 := by decide
theorem idx_high {r : Nat} (h : 128 ≤ r) : Tx.idx r = -1 := by unfold Tx.idx; rw [if_neg (by omega)]

set_option maxHeartbeats 1600000 in
set_option maxRecDepth 100000 in
theorem irune_low (r : Nat) (h : r < 128) (w : World) :
    Calls Tryd.prog 50 #[.string ⟨#[67, 68, 69, 70, 71, 65, 66]⟩, .int .i32 r] w fun e w' => e = .returned (.int .i64 (Tx.idx r)) ∧ Below w.heap.size w w' := by
  refine (Tryd.strings_IndexRune_ascii _ r w (by omega) (by omega)).mono ?_
  rintro e w' ⟨rfl, rfl⟩
  refine ⟨?_, Below.refl _ _⟩
  unfold Tx.idx
  rw [if_pos h]
  rfl

set_option maxHeartbeats 1600000 in
set_option maxRecDepth 100000 in
theorem irune_error (w : World) :
    Calls Tryd.prog 50 #[.string ⟨#[67, 68, 69, 70, 71, 65, 66]⟩, .int .i32 65533] w fun e w' => e = .returned (.int .i64 (-1)) ∧ Below w.heap.size w w' := by
  obtain ⟨s, hs⟩ : ∃ s : ByteArray, s = ⟨#[67, 68, 69, 70, 71, 65, 66]⟩ := ⟨_, rfl⟩
  have hz : s.size = 7 := by subst hs; rfl
  have hd : ∀ pos, pos < 7 → (Utf8.decode s pos).1 < 128 ∧ (Utf8.decode s pos).2 = 1 := by
    subst hs
    have : ∀ p : Fin 7, (Utf8.decode ⟨#[67, 68, 69, 70, 71, 65, 66]⟩ p.val).1 < 128 ∧ (Utf8.decode ⟨#[67, 68, 69, 70, 71, 65, 66]⟩ p.val).2 = 1 := by decide +kernel
    exact fun pos h => this ⟨pos, h⟩
  rw [← hs]
  have HS := Lib.hid hs
  clear hs
  go_enter Tryd.func50, Tryd.ntmps50
  go_wp2
  go_loopw [] (fun wr => ∃ pos, wr.heap[w.heap.size]? = some (.stringIter s pos) ∧ Below w.heap.size w wr ∧ pos ≤ 7) (fun wr => s.size - wr.iterPos w.heap.size)
  case atStart =>
    refine ⟨0, ?_, (Below.refl _ w).alloc (Nat.le_refl _) _, by omega⟩
    exact World.iter_heap w s 0
  case round =>
    obtain ⟨pos, hit, hbw, hp7⟩ := hrel
    by_cases hp : pos < s.size
    · have hnx : ∀ ty, (Instr.next (.pointer (some ⟨w.heap.size, 0, none⟩)) true ty).run Tryd.prog wr = _ := fun ty => Lib.run_next_any_at wr w.heap.size s pos ty hit hp
      obtain ⟨d1, d2⟩ := hd pos (by omega)
      rw [d2] at hnx
      have hit2 := Lib.iterAt_heap wr w.heap.size s pos (pos + 1) hit
      have hbw2 := Lib.below_iterAt hbw (k := w.heap.size) (by omega) s (pos + 1)
      have hne : ¬ ((Utf8.decode s pos).1 : Int) = 65533 := by omega
      go_wp2
      go_roundw
      case rel => exact ⟨pos + 1, hit2, hbw2, by omega⟩
      case measure =>
        simp only [World.iterPos, hit2, hit]
        omega
    · have hnx : ∀ ty, (Instr.next (.pointer (some ⟨w.heap.size, 0, none⟩)) true ty).run Tryd.prog wr = _ := fun ty => Lib.run_next_end_at wr w.heap.size s pos ty hit hp
      go_wp2
      go_ret
      exact ⟨rfl, hbw⟩

set_option maxHeartbeats 1600000 in
set_option maxRecDepth 100000 in
theorem irune_bad (q : Int) (h1 : 128 ≤ q) (h2 : (q == 65533) = false) (hV : Lib.validRune q = false) (w : World) :
    Calls Tryd.prog 50 #[.string ⟨#[67, 68, 69, 70, 71, 65, 66]⟩, .int .i32 q] w fun e w' => e = .returned (.int .i64 (-1)) ∧ Below w.heap.size w w' := by
  have n1 : ¬ q < 128 := by omega
  have n0 : 0 ≤ q := by omega
  have HV := Lib.hid hV
  clear hV
  go_enter Tryd.func50, Tryd.ntmps50
  go_wp2_with fail
  refine (vrune_is _ _ HV.out _).mono ?_; rintro e w1 ⟨rfl, rfl⟩
  go_wp2
  go_ret
  exact ⟨rfl, Below.refl _ _⟩

set_option maxHeartbeats 1600000 in
set_option maxRecDepth 100000 in
theorem irune_two (q : Int) (h1 : 128 ≤ q) (h2 : (q == 65533) = false) (hV : Lib.validRune q = true) (x y : UInt8) (hy : 128 ≤ y.toNat) (hR : Utf8.encode q = ⟨#[x, y]⟩) (w : World) :
    Calls Tryd.prog 50 #[.string ⟨#[67, 68, 69, 70, 71, 65, 66]⟩, .int .i32 q] w fun e w' => e = .returned (.int .i64 (-1)) ∧ Below w.heap.size w w' := by
  have n1 : ¬ q < 128 := by omega
  have n0 : 0 ≤ q := by omega
  have HV := Lib.hid hV
  clear hV
  go_enter Tryd.func50, Tryd.ntmps50
  go_wp2_with fail
  refine (vrune_is _ _ HV.out _).mono ?_; rintro e w1 ⟨rfl, rfl⟩
  go_wp2
  go_step3
  go_wp2
  have y1 : ((68 : Int) != (y.toNat : Int)) = true := by simp; omega
  have g1 : ((⟨#[67, 68, 69, 70, 71, 65, 66]⟩ : ByteArray)[1]'(by decide)).toNat = 68 := rfl
  have g2 : ((⟨#[x, y]⟩ : ByteArray)[1]'(by show 1 < 2; omega)).toNat = y.toNat := rfl
  have hne := Ext.there w
  have CI := Lib.hid (fun (s : ByteArray) (h : ∀ z ∈ s.data.toList, z.toNat < 128) (w' : World) => ibyte_is s y (fun z hz e => by have := h z hz; rw [e] at this; omega) w')
  refine wp_loop_once ?_
  go_wp2_with fail
  go_step3
  go_wp2_with fail
  refine Ext.region (by kernel_rfl) (by kernel_rfl) ?_
  repeat (go_big_quiet_step (fail))
  refine wpQuiet_nil ?_
  rintro _ ⟨xw, rfl⟩
  have hb := xw.h
  generalize xw.w = w2 at *
  clear xw hne
  have hne := Ext.there w2
  go_wp2_with fail
  refine Ext.region (by kernel_rfl) (by kernel_rfl) ?_
  repeat (go_big_quiet_step ((go_at_call 57; exact Ext.same _ (CI.out _ (by decide) _))))
  refine wpQuiet_nil ?_
  rintro _ ⟨xw, rfl⟩
  have hb2 := xw.h
  generalize xw.w = w3 at *
  go_wp2
  rw [Exit.noGoto_ret]
  go_wp2
  rw [Exit.noGoto_ret]
  go_wp2
  go_ret
  exact ⟨rfl, hb.trans (hb2.mono hb.size)⟩
set_option maxHeartbeats 1600000 in
set_option maxRecDepth 100000 in
theorem irune_three (q : Int) (h1 : 128 ≤ q) (h2 : (q == 65533) = false) (hV : Lib.validRune q = true) (x z y : UInt8) (hy : 128 ≤ y.toNat) (hR : Utf8.encode q = ⟨#[x, z, y]⟩) (w : World) :
    Calls Tryd.prog 50 #[.string ⟨#[67, 68, 69, 70, 71, 65, 66]⟩, .int .i32 q] w fun e w' => e = .returned (.int .i64 (-1)) ∧ Below w.heap.size w w' := by
  have n1 : ¬ q < 128 := by omega
  have n0 : 0 ≤ q := by omega
  have HV := Lib.hid hV
  clear hV
  go_enter Tryd.func50, Tryd.ntmps50
  go_wp2_with fail
  refine (vrune_is _ _ HV.out _).mono ?_; rintro e w1 ⟨rfl, rfl⟩
  go_wp2
  go_step3
  go_wp2
  have y1 : ((69 : Int) != (y.toNat : Int)) = true := by simp; omega
  have g1 : ((⟨#[67, 68, 69, 70, 71, 65, 66]⟩ : ByteArray)[2]'(by decide)).toNat = 69 := rfl
  have g2 : ((⟨#[x, z, y]⟩ : ByteArray)[2]'(by show 2 < 3; omega)).toNat = y.toNat := rfl
  have hne := Ext.there w
  have CI := Lib.hid (fun (s : ByteArray) (h : ∀ z ∈ s.data.toList, z.toNat < 128) (w' : World) => ibyte_is s y (fun z hz e => by have := h z hz; rw [e] at this; omega) w')
  refine wp_loop_once ?_
  go_wp2_with fail
  go_step3
  go_wp2_with fail
  refine Ext.region (by kernel_rfl) (by kernel_rfl) ?_
  repeat (go_big_quiet_step (fail))
  refine wpQuiet_nil ?_
  rintro _ ⟨xw, rfl⟩
  have hb := xw.h
  generalize xw.w = w2 at *
  clear xw hne
  have hne := Ext.there w2
  go_wp2_with fail
  refine Ext.region (by kernel_rfl) (by kernel_rfl) ?_
  repeat (go_big_quiet_step ((go_at_call 57; exact Ext.same _ (CI.out _ (by decide) _))))
  refine wpQuiet_nil ?_
  rintro _ ⟨xw, rfl⟩
  have hb2 := xw.h
  generalize xw.w = w3 at *
  go_wp2
  rw [Exit.noGoto_ret]
  go_wp2
  rw [Exit.noGoto_ret]
  go_wp2
  go_ret
  exact ⟨rfl, hb.trans (hb2.mono hb.size)⟩
set_option maxHeartbeats 1600000 in
set_option maxRecDepth 100000 in
theorem irune_four (q : Int) (h1 : 128 ≤ q) (h2 : (q == 65533) = false) (hV : Lib.validRune q = true) (x z t y : UInt8) (hy : 128 ≤ y.toNat) (hR : Utf8.encode q = ⟨#[x, z, t, y]⟩) (w : World) :
    Calls Tryd.prog 50 #[.string ⟨#[67, 68, 69, 70, 71, 65, 66]⟩, .int .i32 q] w fun e w' => e = .returned (.int .i64 (-1)) ∧ Below w.heap.size w w' := by
  have n1 : ¬ q < 128 := by omega
  have n0 : 0 ≤ q := by omega
  have HV := Lib.hid hV
  clear hV
  go_enter Tryd.func50, Tryd.ntmps50
  go_wp2_with fail
  refine (vrune_is _ _ HV.out _).mono ?_; rintro e w1 ⟨rfl, rfl⟩
  go_wp2
  go_step3
  go_wp2
  have y1 : ((70 : Int) != (y.toNat : Int)) = true := by simp; omega
  have g1 : ((⟨#[67, 68, 69, 70, 71, 65, 66]⟩ : ByteArray)[3]'(by decide)).toNat = 70 := rfl
  have g2 : ((⟨#[x, z, t, y]⟩ : ByteArray)[3]'(by show 3 < 4; omega)).toNat = y.toNat := rfl
  have hne := Ext.there w
  have CI := Lib.hid (fun (s : ByteArray) (h : ∀ z ∈ s.data.toList, z.toNat < 128) (w' : World) => ibyte_is s y (fun z hz e => by have := h z hz; rw [e] at this; omega) w')
  refine wp_loop_once ?_
  go_wp2_with fail
  go_step3
  go_wp2_with fail
  refine Ext.region (by kernel_rfl) (by kernel_rfl) ?_
  repeat (go_big_quiet_step (fail))
  refine wpQuiet_nil ?_
  rintro _ ⟨xw, rfl⟩
  have hb := xw.h
  generalize xw.w = w2 at *
  clear xw hne
  have hne := Ext.there w2
  go_wp2_with fail
  refine Ext.region (by kernel_rfl) (by kernel_rfl) ?_
  repeat (go_big_quiet_step ((go_at_call 57; exact Ext.same _ (CI.out _ (by decide) _))))
  refine wpQuiet_nil ?_
  rintro _ ⟨xw, rfl⟩
  have hb2 := xw.h
  generalize xw.w = w3 at *
  go_wp2
  rw [Exit.noGoto_ret]
  go_wp2
  rw [Exit.noGoto_ret]
  go_wp2
  go_ret
  exact ⟨rfl, hb.trans (hb2.mono hb.size)⟩

theorem encode_cases (q : Int) (hv : Utf8.valid q = true) (h : 128 ≤ q) :
    (∃ x y : UInt8, 128 ≤ y.toNat ∧ Utf8.encode q = ⟨#[x, y]⟩) ∨ (∃ x z y : UInt8, 128 ≤ y.toNat ∧ Utf8.encode q = ⟨#[x, z, y]⟩) ∨ ∃ x z t y : UInt8, 128 ≤ y.toNat ∧ Utf8.encode q = ⟨#[x, z, t, y]⟩ := by
  have hc : ¬ q.toNat < 128 := by omega
  have hl : 128 ≤ (UInt8.ofNat (128 + q.toNat % 64)).toNat := by simp; omega
  unfold Utf8.encode
  simp only [hv, if_true, hc, if_false]
  split
  · exact .inl ⟨_, _, hl, rfl⟩
  · split
    · exact .inr (.inl ⟨_, _, _, hl, rfl⟩)
    · exact .inr (.inr ⟨_, _, _, _, hl, rfl⟩)

/-- strings.IndexRune on the letters of the steps, at every rune. -/
theorem irune_is (r : Nat) (v : Int) (h : Tx.idx r = v) (w : World) :
    Calls Tryd.prog 50 #[.string ⟨#[67, 68, 69, 70, 71, 65, 66]⟩, .int .i32 r] w fun e w' => e = .returned (.int .i64 v) ∧ Below w.heap.size w w' := by
  subst h
  by_cases h1 : r < 128
  · exact irune_low r h1 w
  · rw [idx_high (by omega)]
    by_cases h2 : r = 65533
    · subst h2; exact irune_error w
    · have h3 : ((r : Int) == 65533) = false := by simp; omega
      have h4 : (128 : Int) ≤ r := by omega
      cases hV : Lib.validRune r with
      | false => exact irune_bad r h4 h3 hV w
      | true =>
        rcases encode_cases r ((validRune_eq r).trans hV) h4 with ⟨x, y, hy, hR⟩ | ⟨x, z, y, hy, hR⟩ | ⟨x, z, t, y, hy, hR⟩
        · exact irune_two r h4 h3 hV x y hy hR w
        · exact irune_three r h4 h3 hV x z y hy hR w
        · exact irune_four r h4 h3 hV x z t y hy hR w
end Go.Proofs.YtgehnciegolkhaaDoor
