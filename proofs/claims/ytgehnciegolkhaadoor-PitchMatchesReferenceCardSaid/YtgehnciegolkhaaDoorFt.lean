/- The walk of pitch's Text. -/
import Derived.Test.YtgehnciegolkhaaDoorFb
import Derived.Test.YtgehnciegolkhaaDoorTx
import Derived.Test.YtgehnciegolkhaaDoorShelf
import Derived.Lib.AppendIntMem
namespace Go.Proofs.YtgehnciegolkhaaDoor
open Go.RowKit

theorem str_ne {a b : ByteArray} (h : a ≠ b) : (a.toList == b.toList) = false := by
  have : ¬ a.toList = b.toList := by
    rw [ByteArray.toList_eq, ByteArray.toList_eq]
    intro e
    exact h (ByteArray.ext (Array.toList_inj.1 e))
  simpa using this
theorem itoa_is (o : Int) (D : ByteArray) (h0 : -100 < o) (h1 : o < 100) (hD : D = ⟨(Tx.dec o).toArray⟩) (w : World) (hG : Glob w) :
    Calls Tryd.prog 38 #[.int .i64 o] w fun e w' => e = .returned (.string D) ∧ Below w.heap.size w w' := by
  subst hD
  refine (Tryd.strconv_Itoa o (by omega) (by omega) w hG.pow).mono ?_
  rintro e w' ⟨rfl, k, os, rfl⟩
  exact ⟨by rw [Tx.itoa_dec h0 h1], Lib.below_grow _ _ (Nat.le_refl _) _ _⟩
theorem letter_is {s : Int} (h0 : 0 ≤ s) (h1 : s ≤ 6) : (⟨#[67, 68, 69, 70, 71, 65, 66]⟩ : ByteArray).extract s.toNat (s + 1).toNat = ⟨[Tx.lets.getD s.toNat 0].toArray⟩ := by
  obtain ⟨n, rfl⟩ := Int.eq_ofNat_of_zero_le h0
  have hn : n < 7 := by omega
  have : ∀ k : Fin 7, (⟨#[67, 68, 69, 70, 71, 65, 66]⟩ : ByteArray).extract k.val (k.val + 1) = ⟨[Tx.lets.getD k.val 0].toArray⟩ := by decide +kernel
  exact this ⟨n, hn⟩
theorem repeat_is (x : UInt8) (c : Int) (R : ByteArray) (h0 : 0 ≤ c) (h1 : c ≤ 100) (hR : R = ⟨(List.replicate c.toNat x).toArray⟩) (w : World) :
    Calls Tryd.prog 37 #[.string ⟨#[x]⟩, .int .i64 c] w fun e w' => e = .returned (.string R) ∧ Below w.heap.size w w' := by
  subst hR
  obtain ⟨n, rfl⟩ := Int.eq_ofNat_of_zero_le h0
  refine (Tryd.strings_Repeat ⟨#[x]⟩ n w (by omega) (by show 1 * n ≤ _; omega)).mono ?_
  rintro e w' ⟨rfl, hb⟩
  refine ⟨?_, hb⟩
  have : Lib.repeatL (⟨#[x]⟩ : ByteArray).data.toList n = List.replicate n x := Tx.repeat_one x n
  rw [this]
  rfl

set_option maxHeartbeats 800000 in
theorem text_is (s a o E : Int) (T : ByteArray) (h : Tx.txR s a o = (T, E)) (w : World) (hG : Glob w) :
    Calls Tryd.prog 22 #[.agg #[.int .i64 s, .int .i64 a, .int .i64 o]] w fun e w' => e = .returned (.tuple #[.string T, .int .i64 E]) ∧ Below w.heap.size w w' := by
  unfold Tx.txR at h
  by_cases hv : Pt.pv s a o = true
  · rw [if_pos hv] at h
    simp only [Prod.mk.injEq] at h
    obtain ⟨rfl, rfl⟩ := h
    obtain ⟨l1, l2, l3, l4, l5, l6⟩ := Pt.pv_iff.1 hv
    obtain ⟨S, hS⟩ : ∃ S : ByteArray, S = ⟨(List.replicate a.toNat 35).toArray⟩ := ⟨_, rfl⟩
    obtain ⟨F, hF⟩ : ∃ F : ByteArray, F = ⟨(List.replicate (-a).toNat 98).toArray⟩ := ⟨_, rfl⟩
    obtain ⟨D, hD⟩ : ∃ D : ByteArray, D = ⟨(Tx.dec o).toArray⟩ := ⟨_, rfl⟩
    have zS : (S.size : Int) ≤ 4 := by rw [hS, Tx.size_mk]; simp; omega
    have zF : (F.size : Int) ≤ 4 := by rw [hF, Tx.size_mk]; simp; omega
    have zD : (D.size : Int) ≤ 3 := by rw [hD, Tx.size_mk]; have := Tx.dec_le o; omega
    have CS := Lib.hid (fun (c : Int) (hc : c.toNat = a.toNat) (h0 : 0 ≤ c) (w' : World) => repeat_is 35 c S h0 (by omega) (hc ▸ hS) w')
    have CF := Lib.hid (fun (c : Int) (hc : c.toNat = (-a).toNat) (h0 : 0 ≤ c) (w' : World) => repeat_is 98 c F h0 (by omega) (hc ▸ hF) w')
    have CD := Lib.hid (fun (w' : World) (g : Glob w') => itoa_is o D (by omega) (by omega) hD w' g)
    have HV := Lib.hid hv
    have HE : Hid (Tx.txtB s a o = (⟨[Tx.lets.getD s.toNat 0].toArray⟩ : ByteArray) ++ S ++ F ++ D) := Lib.hid (by
      rw [hS, hF, hD, Tx.append_mk, Tx.append_mk, Tx.append_mk]; unfold Tx.txtB Tx.txt Tx.alt; simp)
    have hL := letter_is l1 l2
    have zL : (((⟨[Tx.lets.getD s.toNat 0].toArray⟩ : ByteArray)).size : Int) ≤ 1 := by rw [Tx.size_mk]; simp
    generalize (⟨[Tx.lets.getD s.toNat 0].toArray⟩ : ByteArray) = L at *
    clear hv hS hF hD
    go_enter Tryd.func22, Tryd.ntmps22
    go_wp2_with fail
    refine (valid_is _ _ _ _ HV.out _).mono ?_; rintro e w1 ⟨rfl, hb1⟩
    have A := (At3.new w s a o _).below hb1
    have G1 := (hG.alloc _).below hb1
    have G : Below w.heap.size w w1 := ((Below.refl _ _).alloc (Nat.le_refl _) _).trans (hb1.mono (by simp))
    have S1 : w.heap.size + 1 ≤ w1.heap.size := by have := hb1.size; simp at this; omega
    clear hb1 hG
    obtain ⟨a0, a1, a2⟩ := And.intro A.c0 (And.intro A.c1 A.c2)
    go_wp2_with fail
    refine (CS.out (max a 0) (by omega) (by omega) _).mono ?_; rintro e w2 ⟨rfl, hb2⟩
    replace A := A.below hb2
    replace G1 := G1.below hb2
    replace G := G.trans (hb2.mono (by omega))
    have S2 := hb2.size
    clear hb2 a0 a1 a2
    obtain ⟨a0, a1, a2⟩ := And.intro A.c0 (And.intro A.c1 A.c2)
    go_wp2_with fail
    refine (CF.out (max (-a) 0) (by omega) (by omega) _).mono ?_; rintro e w3 ⟨rfl, hb3⟩
    replace A := A.below hb3
    replace G1 := G1.below hb3
    replace G := G.trans (hb3.mono (by omega))
    have S3 := hb3.size
    clear hb3 a0 a1 a2
    obtain ⟨a0, a1, a2⟩ := And.intro A.c0 (And.intro A.c1 A.c2)
    go_wp2_with fail
    refine (CD.out _ G1).mono ?_; rintro e w4 ⟨rfl, hb4⟩
    replace G := G.trans (hb4.mono (by omega))
    clear hb4 a0 a1 a2
    go_wp2_with fail
    rw [HE.out]
    go_ret2
    exact ⟨rfl, G⟩
  · have hv' : Pt.pv s a o = false := by simpa using hv
    rw [if_neg hv] at h
    simp only [Prod.mk.injEq] at h
    obtain ⟨rfl, rfl⟩ := h
    have HV := Lib.hid hv'
    clear hv hv' hG
    go_enter Tryd.func22, Tryd.ntmps22
    go_wp2_with fail
    refine (valid_is _ _ _ _ HV.out _).mono ?_; rintro e w1 ⟨rfl, hb1⟩
    have G : Below w.heap.size w w1 := ((Below.refl _ _).alloc (Nat.le_refl _) _).trans (hb1.mono (by simp))
    clear hb1
    go_wp2_with fail
    go_ret2
    exact ⟨rfl, G⟩
end Go.Proofs.YtgehnciegolkhaaDoor
