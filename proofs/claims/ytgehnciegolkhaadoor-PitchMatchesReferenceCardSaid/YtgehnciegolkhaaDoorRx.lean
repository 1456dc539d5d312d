/- The walk of the reference's Text. -/
import Derived.Test.YtgehnciegolkhaaDoorRt
namespace Go.Proofs.YtgehnciegolkhaaDoor
open Go.RowKit

theorem rletter_is {s : Int} (h0 : 0 ≤ s) (h1 : s ≤ 6) : (⟨#[67, 68, 69, 70, 71, 65, 66]⟩ : ByteArray).extract s.toNat (s + 1).toNat = ⟨[Tx.lets.getD s.toNat 0].toArray⟩ := by
  obtain ⟨n, rfl⟩ := Int.eq_ofNat_of_zero_le h0
  have hn : n < 7 := by omega
  have : ∀ k : Fin 7, (⟨#[67, 68, 69, 70, 71, 65, 66]⟩ : ByteArray).extract k.val (k.val + 1) = ⟨[Tx.lets.getD k.val 0].toArray⟩ := by decide +kernel
  exact this ⟨n, hn⟩

set_option maxHeartbeats 1600000 in
theorem rtext_is (s a o E : Int) (T : ByteArray) (h : Tx.txR s a o = (T, E)) (w : World) :
    Calls Tryd.prog 23 #[.agg #[.int .i64 s, .int .i64 a, .int .i64 o]] w fun e w' => e = .returned (.tuple #[.string T, .int .i64 E]) ∧ Below w.heap.size w w' := by
  unfold Tx.txR at h
  by_cases hv : Pt.pv s a o = true
  · rw [if_pos hv] at h
    simp only [Prod.mk.injEq] at h
    obtain ⟨rfl, rfl⟩ := h
    obtain ⟨l1, l2, l3, l4, l5, l6⟩ := Pt.pv_iff.1 hv
    obtain ⟨D, hD⟩ : ∃ D : ByteArray, D = ⟨(Tx.dec o).toArray⟩ := ⟨_, rfl⟩
    have zD : (D.size : Int) ≤ 3 := by rw [hD, Tx.size_mk]; have := Tx.dec_le o; omega
    have CD := Lib.hid (fun (w' : World) => decimal_is o (by omega) (by omega) D hD w')
    have HV := Lib.hid hv
    have hL := rletter_is l1 l2
    obtain ⟨c, hc⟩ : ∃ c, Tx.lets.getD s.toNat 0 = c := ⟨_, rfl⟩
    have HE : Hid (Tx.txtB s a o = (⟨(c :: (List.replicate a.toNat 35 ++ List.replicate (-a).toNat 98)).toArray⟩ : ByteArray) ++ D) := Lib.hid (by
      rw [hD, Tx.append_mk]; unfold Tx.txtB Tx.txt Tx.alt; rw [hc]; simp)
    rw [hc] at hL
    obtain ⟨L, hLL⟩ : ∃ L : ByteArray, L = ⟨[c].toArray⟩ := ⟨_, rfl⟩
    rw [← hLL] at hL
    have HL := Lib.hid hLL
    clear hv hD hc hLL
    go_enter Tryd.func23, Tryd.ntmps23
    go_wp2_with fail
    refine (pvalid_is _ _ _ _ HV.out _).mono ?_; rintro e w1 ⟨rfl, hb1⟩
    have A := (At3.new w s a o _).below hb1
    have G : Below w.heap.size w w1 := ((Below.refl _ _).alloc (Nat.le_refl _) _).trans (hb1.mono (by simp))
    have S1 : w.heap.size + 1 ≤ w1.heap.size := by have := hb1.size; simp at this; omega
    clear hb1
    have xa0 := fun x : Ext w1 => x.cell A.c0
    have hne := Ext.there w1
    go_wp2_with fail
    refine Ext.region (by kernel_rfl) (by kernel_rfl) ?_
    repeat (go_big_quiet_step ((go_at_call 39; exact Ext.same _ (letters_any _))))
    refine wpQuiet_nil ?_
    rintro _ ⟨xw, rfl⟩
    replace A := A.below xw.h
    replace G := G.trans (xw.h.mono (by omega))
    have S2 := xw.h.size
    generalize xw.w = w2 at *
    clear xw xa0 hne
    obtain ⟨a0, a1, a2⟩ := And.intro A.c0 (And.intro A.c1 A.c2)
    go_wp2_with fail
    go_loopw [5, 6] (fun s5 s6 wr => ∃ (k : Nat) (V : ByteArray), s5 = .string V ∧ s6 = .int .i64 k ∧ k ≤ a.toNat ∧ V = ⟨(c :: List.replicate k 35).toArray⟩ ∧ wr = w2) (fun _ s6 _ => a.toNat - (intOf s6).toNat)
    case atStart => exact ⟨0, L, rfl, rfl, by omega, HL.out, rfl⟩
    case round =>
      obtain ⟨k, V, rfl, rfl, hk, hV, rfl⟩ := hrel
      have zV : (V.size : Int) ≤ 8 := by rw [hV, Tx.size_mk]; simp; omega
      have HV1 := Lib.hid hV
      clear hV
      by_cases hka : (k : Int) < a
      · have z35 : (((⟨#[35]⟩ : ByteArray)).size : Int) ≤ 1 := by show ((1 : Nat) : Int) ≤ 1; omega
        go_wp2
        go_roundw
        case rel =>
          refine ⟨k + 1, _, rfl, by simp, by omega, ?_, (by first | rfl | trivial)⟩
          rw [HV1.out]
          refine (Tx.append_mk _ [35]).trans ?_
          rw [List.replicate_succ']
          rfl
        case measure => simp [intOf]; omega
      · have hk2 : k = a.toNat := by omega
        have HK := Lib.hid hk2
        clear hk2
        go_wp2
        go_loopw [5, 7] (fun s5 s7 wr2 => ∃ (j : Nat) (U : ByteArray), s5 = .string U ∧ s7 = .int .i64 j ∧ j ≤ (-a).toNat ∧ U = ⟨(c :: (List.replicate a.toNat 35 ++ List.replicate j 98)).toArray⟩ ∧ wr2 = wr) (fun _ s7 _ => (-a).toNat - (intOf s7).toNat)
        case atStart => exact ⟨0, V, rfl, rfl, by omega, by rw [HV1.out, HK.out]; simp, rfl⟩
        case round =>
          obtain ⟨j, U, rfl, rfl, hj, hU, rfl⟩ := hrel
          have zU : (U.size : Int) ≤ 16 := by rw [hU, Tx.size_mk]; simp; omega
          have HU := Lib.hid hU
          clear hU HV1 HK
          by_cases hja : (j : Int) < -a
          · have z98 : (((⟨#[98]⟩ : ByteArray)).size : Int) ≤ 1 := by show ((1 : Nat) : Int) ≤ 1; omega
            go_wp2
            go_roundw
            case rel =>
              refine ⟨j + 1, _, rfl, by simp, by omega, ?_, (by first | rfl | trivial)⟩
              rw [HU.out]
              refine (Tx.append_mk _ [98]).trans ?_
              rw [List.replicate_succ']
              simp
            case measure => simp [intOf]; omega
          · have hj2 : j = (-a).toNat := by omega
            have HU2 : Hid (U = ⟨(c :: (List.replicate a.toNat 35 ++ List.replicate (-a).toNat 98)).toArray⟩) := Lib.hid (hj2 ▸ HU.out)
            clear HU hj2
            go_wp2_with fail
            refine (CD.out _).mono ?_; rintro e w5 ⟨rfl, hb5⟩
            replace G := G.trans (hb5.mono (by omega))
            clear hb5
            go_wp2_with fail
            rw [HE.out, ← HU2.out]
            go_ret2
            exact ⟨rfl, G⟩
  · have hv' : Pt.pv s a o = false := by simpa using hv
    rw [if_neg hv] at h
    simp only [Prod.mk.injEq] at h
    obtain ⟨rfl, rfl⟩ := h
    have HV := Lib.hid hv'
    clear hv hv'
    go_enter Tryd.func23, Tryd.ntmps23
    go_wp2_with fail
    refine (pvalid_is _ _ _ _ HV.out _).mono ?_; rintro e w1 ⟨rfl, hb1⟩
    have G : Below w.heap.size w w1 := ((Below.refl _ _).alloc (Nat.le_refl _) _).trans (hb1.mono (by simp))
    clear hb1
    go_wp2_with fail
    go_ret2
    exact ⟨rfl, G⟩
end Go.Proofs.YtgehnciegolkhaaDoor
