/- The walks of the reference's SameInts, Same, on lists that are the same. -/
import Derived.Test.YtnjacgjcoikngaaDoorKf
namespace Go.Proofs.YtnjacgjcoikngaaDoor
open Go.RowKit

set_option maxHeartbeats 800000 in
theorem ksameInts_is (g : List Int) (n acap bcap : Nat) (A B : Option Addr) (hn : g.length = n) (hmax : n ≤ 100000) (w : World) (hA : SlI w A g) (hB : SlI w B g) :
    Calls Tryd.prog 18 #[.slice A n acap, .slice B n bcap] w fun e w' => e = .returned (.bool true) ∧ Below w.heap.size w w' := by
  have HN := Lib.hid hn
  have HA := Lib.hid hA
  have HB := Lib.hid hB
  clear hn hA hB
  go_enter Tryd.func18, Tryd.ntmps18
  go_wp2
  go_loopw [5] (fun s5 wr => ∃ k : Nat, k ≤ n ∧ s5 = .int .i64 k ∧ Below w.heap.size w wr) (fun s5 _ => n - (intOf s5).toNat)
  case atStart => exact ⟨0, Nat.zero_le _, rfl, Below.refl _ _⟩
  case round =>
    obtain ⟨k, hk, rfl, hG⟩ := hrel
    by_cases hlt : k < n
    · obtain ⟨b, off, rfl, hb, hc⟩ := HA.out (by have := HN.out; omega)
      obtain ⟨b2, off2, rfl, hb2, hc2⟩ := HB.out (by have := HN.out; omega)
      have x0 := hc k (by have := HN.out; omega)
      have y0 := hc2 k (by have := HN.out; omega)
      clear hc hc2
      have xx := fun x : Ext wr => x.cell ((hG.cell (p := ⟨b, off + k, none⟩) hb).trans x0)
      have xy := fun x : Ext wr => x.cell ((hG.cell (p := ⟨b2, off2 + k, none⟩) hb2).trans y0)
      have hne := Ext.there wr
      clear x0 y0
      generalize Ky.atI g k = z at *
      go_wp2_with fail
      refine Ext.region (by kernel_rfl) (by kernel_rfl) ?_
      repeat (go_big_quiet_step (fail))
      refine wpQuiet_nil ?_
      rintro _ ⟨xw, rfl⟩
      replace hG := hG.trans (xw.h.mono hG.size)
      clear xx xy hne
      generalize xw.w = w3 at *
      clear xw
      go_wp2
      go_roundw
      case rel => exact ⟨k + 1, by omega, by simp, hG⟩
      case measure => simp [intOf] <;> omega
    · go_wp2
      go_ret
      exact ⟨rfl, hG⟩

set_option maxHeartbeats 800000 in
theorem ksame_is (l : List Ky.P3) (n acap bcap : Nat) (A B : Option Addr) (hn : l.length = n) (hmax : n ≤ 100000) (w : World) (hA : SlP w A l) (hB : SlP w B l) :
    Calls Tryd.prog 21 #[.slice A n acap, .slice B n bcap] w fun e w' => e = .returned (.bool true) ∧ Below w.heap.size w w' := by
  have HN := Lib.hid hn
  have HA := Lib.hid hA
  have HB := Lib.hid hB
  clear hn hA hB
  go_enter Tryd.func21, Tryd.ntmps21
  go_wp2
  go_loopw [5] (fun s5 wr => ∃ k : Nat, k ≤ n ∧ s5 = .int .i64 k ∧ Below w.heap.size w wr) (fun s5 _ => n - (intOf s5).toNat)
  case atStart => exact ⟨0, Nat.zero_le _, rfl, Below.refl _ _⟩
  case round =>
    obtain ⟨k, hk, rfl, hG⟩ := hrel
    by_cases hlt : k < n
    · obtain ⟨b, off, rfl, hb, hc⟩ := HA.out (by have := HN.out; omega)
      obtain ⟨b2, off2, rfl, hb2, hc2⟩ := HB.out (by have := HN.out; omega)
      obtain ⟨x0, x1, x2⟩ := hc k (by have := HN.out; omega)
      obtain ⟨y0, y1, y2⟩ := hc2 k (by have := HN.out; omega)
      clear hc hc2
      have xx0 := fun x : Ext wr => x.cell ((hG.cell (p := ⟨b, off + k * 3, none⟩) hb).trans x0)
      have xx1 := fun x : Ext wr => x.cell ((hG.cell (p := ⟨b, off + k * 3 + 1, none⟩) hb).trans x1)
      have xx2 := fun x : Ext wr => x.cell ((hG.cell (p := ⟨b, off + k * 3 + 2, none⟩) hb).trans x2)
      have xy0 := fun x : Ext wr => x.cell ((hG.cell (p := ⟨b2, off2 + k * 3, none⟩) hb2).trans y0)
      have xy1 := fun x : Ext wr => x.cell ((hG.cell (p := ⟨b2, off2 + k * 3 + 1, none⟩) hb2).trans y1)
      have xy2 := fun x : Ext wr => x.cell ((hG.cell (p := ⟨b2, off2 + k * 3 + 2, none⟩) hb2).trans y2)
      have hne := Ext.there wr
      clear x0 y0 x1 y1 x2 y2
      generalize (Ky.at3 l k).1 = z0 at *
      generalize (Ky.at3 l k).2.1 = z1 at *
      generalize (Ky.at3 l k).2.2 = z2 at *
      go_wp2_with fail
      refine Ext.region (by kernel_rfl) (by kernel_rfl) ?_
      repeat (go_big_quiet_step (fail))
      refine wpQuiet_nil ?_
      rintro _ ⟨xw, rfl⟩
      replace hG := hG.trans (xw.h.mono hG.size)
      clear xx0 xx1 xx2 xy0 xy1 xy2 hne
      generalize xw.w = w3 at *
      clear xw
      go_wp2
      go_roundw
      case rel => exact ⟨k + 1, by omega, by simp, hG⟩
      case measure => simp [intOf] <;> omega
    · go_wp2
      go_ret
      exact ⟨rfl, hG⟩
end Go.Proofs.YtnjacgjcoikngaaDoor
