/- The walk of the reference's Parse. -/
import Derived.Test.YtgehnciegolkhaaDoorRx
namespace Go.Proofs.YtgehnciegolkhaaDoor
open Go.RowKit

namespace Tx
theorem first_ne {s a o : Int} {S : ByteArray} (h0 : 0 < S.size) (h : (lets.getD s.toNat 0).toNat ≠ (S[0]'h0).toNat) : txtB s a o ≠ S := by
  rintro rfl
  exact h rfl
/-- No pitch that comes before is the one. -/
def no1 (S : ByteArray) (st : Int) : Prop := ∀ s a o, Pt.pv s a o = true → s < st → txtB s a o ≠ S
def no2 (S : ByteArray) (st al : Int) : Prop := ∀ a o, Pt.pv st a o = true → a < al → txtB st a o ≠ S
def no3 (S : ByteArray) (st al oc : Int) : Prop := ∀ o, Pt.pv st al o = true → o < oc → txtB st al o ≠ S
theorem no1_zero (S : ByteArray) : no1 S 0 := fun s a o h hlt => by have := Pt.pv_iff.1 h; omega
theorem no2_zero (S : ByteArray) (st : Int) : no2 S st (-4) := fun a o h hlt => by have := Pt.pv_iff.1 h; omega
theorem no3_zero (S : ByteArray) (st al : Int) : no3 S st al (-8) := fun o h hlt => by have := Pt.pv_iff.1 h; omega
theorem no1_next {S : ByteArray} {st : Int} (h : no1 S st) (k : ∀ a o, Pt.pv st a o = true → txtB st a o ≠ S) : no1 S (st + 1) := fun s a o hv hlt => by
  by_cases e : s = st
  · subst e; exact k a o hv
  · exact h s a o hv (by omega)
theorem no2_next {S : ByteArray} {st al : Int} (h : no2 S st al) (k : ∀ o, Pt.pv st al o = true → txtB st al o ≠ S) : no2 S st (al + 1) := fun a o hv hlt => by
  by_cases e : a = al
  · subst e; exact k o hv
  · exact h a o hv (by omega)
theorem no3_next {S : ByteArray} {st al oc : Int} (h : no3 S st al oc) (k : txtB st al oc ≠ S) : no3 S st al (oc + 1) := fun o hv hlt => by
  by_cases e : o = oc
  · subst e; exact k
  · exact h o hv (by omega)
theorem no1_end {S : ByteArray} (h : no1 S 7) : paR S = (0, 0, 0, 7) := paR_none fun s a o hv => h s a o hv (by have := Pt.pv_iff.1 hv; omega)
theorem no_len {S : ByteArray} (h : S.size = 0 ∨ 9 < S.size) : paR S = (0, 0, 0, 7) := paR_none fun s a o hv e => by have := txt_len hv; rw [e] at this; omega
end Tx

theorem rstr_ne {a b : ByteArray} (h : a ≠ b) : (a.toList == b.toList) = false := by
  have : ¬ a.toList = b.toList := by
    rw [ByteArray.toList_eq, ByteArray.toList_eq]
    intro e
    exact h (ByteArray.ext (Array.toList_inj.1 e))
  simpa using this

set_option maxHeartbeats 3200000 in
theorem rparse_is (S : ByteArray) (X Y Z E : Int) (h : Tx.paR S = (X, Y, Z, E)) (hmax : S.size ≤ 9223372036854775807) (w : World) :
    Calls Tryd.prog 25 #[.string S] w fun e w' => e = .returned (.tuple #[.agg #[.int .i64 X, .int .i64 Y, .int .i64 Z], .int .i64 E]) ∧ Below w.heap.size w w' := by
  have H := Lib.hid h
  clear h
  by_cases hl : S.size = 0 ∨ 9 < S.size
  · have e := (Tx.no_len hl).symm.trans H.out
    simp only [Prod.mk.injEq] at e
    obtain ⟨rfl, rfl, rfl, rfl⟩ := e
    clear H
    have hl' : ((S.size : Int) == 0) = true ∨ (((S.size : Int) == 0) = false ∧ (9 : Int) < S.size) := by
      rcases hl with hl | hl
      · exact .inl (by simp [hl])
      · exact .inr ⟨by simp; intro e; rw [e] at hl; exact absurd hl (by decide), by omega⟩
    clear hl
    rcases hl' with hl | ⟨h1, h2⟩
    all_goals
      go_enter Tryd.func25, Tryd.ntmps25
      go_wp2
      refine bodyPost_ret (v := .tuple #[.agg #[.int .i64 0, .int .i64 0, .int .i64 0], .int .i64 7]) (by simp [results, Tryd.results25, go_sem]) rfl ⟨rfl, by go_grown⟩
  · have h0 : 0 < S.size := by omega
    have h1 : ((S.size : Int) == 0) = false := by simp; intro e; rw [e] at h0; exact absurd h0 (by decide)
    have h2 : ¬ (9 : Int) < S.size := by omega
    go_enter Tryd.func25, Tryd.ntmps25
    go_wp2
    go_loopw [4] (fun s4 wr => ∃ st : Int, s4 = .int .i64 st ∧ 0 ≤ st ∧ st ≤ 7 ∧ Tx.no1 S st ∧ Below w.heap.size w wr ∧ Var3 wr w.heap.size 0 0 0) (fun s4 _ => 7 - (intOf s4).toNat)
    case atStart => exact ⟨0, rfl, by omega, by omega, Tx.no1_zero S, (Below.refl _ _).alloc (Nat.le_refl _) _, Var3.new w 0 0 0 _⟩
    case round =>
      obtain ⟨st, rfl, s0, s7, hN, hB, V⟩ := hrel
      have N1 := Lib.hid hN
      clear hN
      by_cases hst : st < 7
      · go_wp2_with fail
        obtain ⟨z, hz⟩ : ∃ z, (S[0]'h0).toNat = z := ⟨_, rfl⟩
        go_cut [28] (fun s28 wc => ∃ B, s28 = .bool B ∧ (B = true → (Tx.lets.getD st.toNat 0).toNat ≠ z) ∧ Below wr.heap.size wr wc)
        case first =>
          have hne := Ext.there wr
          have g0 : ((⟨#[67, 68, 69, 70, 71, 65, 66]⟩ : ByteArray)[0]'(by decide)).toNat = 67 := rfl
          have g1 : ((⟨#[67, 68, 69, 70, 71, 65, 66]⟩ : ByteArray)[1]'(by decide)).toNat = 68 := rfl
          have g2 : ((⟨#[67, 68, 69, 70, 71, 65, 66]⟩ : ByteArray)[2]'(by decide)).toNat = 69 := rfl
          have g3 : ((⟨#[67, 68, 69, 70, 71, 65, 66]⟩ : ByteArray)[3]'(by decide)).toNat = 70 := rfl
          have g4 : ((⟨#[67, 68, 69, 70, 71, 65, 66]⟩ : ByteArray)[4]'(by decide)).toNat = 71 := rfl
          have g5 : ((⟨#[67, 68, 69, 70, 71, 65, 66]⟩ : ByteArray)[5]'(by decide)).toNat = 65 := rfl
          have g6 : ((⟨#[67, 68, 69, 70, 71, 65, 66]⟩ : ByteArray)[6]'(by decide)).toNat = 66 := rfl
          clear hB V N1 H
          have c7 : st = 0 ∨ st = 1 ∨ st = 2 ∨ st = 3 ∨ st = 4 ∨ st = 5 ∨ st = 6 := by omega
          rcases c7 with rfl | rfl | rfl | rfl | rfl | rfl | rfl
          · by_cases hc : (67 : Nat) = z
            · have hc' : ((67 : Int) != (z : Int)) = false := by simp; omega
              refine Ext.region (by kernel_rfl) (by kernel_rfl) ?_
              repeat (go_big_quiet_step ((go_at_call 39; exact Ext.same _ (letters_any _))))
              refine wpQuiet_nil ?_
              rintro _ ⟨xw, rfl⟩
              go_wp2_with fail
              go_meet
              exact ⟨_, rfl, (fun e => by cases e), xw.h⟩
            · have hc' : ((67 : Int) != (z : Int)) = true := by simp; omega
              refine Ext.region (by kernel_rfl) (by kernel_rfl) ?_
              repeat (go_big_quiet_step ((go_at_call 39; exact Ext.same _ (letters_any _))))
              refine wpQuiet_nil ?_
              rintro _ ⟨xw, rfl⟩
              go_wp2_with fail
              go_meet
              exact ⟨_, rfl, (fun _ => hc), xw.h⟩
          · by_cases hc : (68 : Nat) = z
            · have hc' : ((68 : Int) != (z : Int)) = false := by simp; omega
              refine Ext.region (by kernel_rfl) (by kernel_rfl) ?_
              repeat (go_big_quiet_step ((go_at_call 39; exact Ext.same _ (letters_any _))))
              refine wpQuiet_nil ?_
              rintro _ ⟨xw, rfl⟩
              go_wp2_with fail
              go_meet
              exact ⟨_, rfl, (fun e => by cases e), xw.h⟩
            · have hc' : ((68 : Int) != (z : Int)) = true := by simp; omega
              refine Ext.region (by kernel_rfl) (by kernel_rfl) ?_
              repeat (go_big_quiet_step ((go_at_call 39; exact Ext.same _ (letters_any _))))
              refine wpQuiet_nil ?_
              rintro _ ⟨xw, rfl⟩
              go_wp2_with fail
              go_meet
              exact ⟨_, rfl, (fun _ => hc), xw.h⟩
          · by_cases hc : (69 : Nat) = z
            · have hc' : ((69 : Int) != (z : Int)) = false := by simp; omega
              refine Ext.region (by kernel_rfl) (by kernel_rfl) ?_
              repeat (go_big_quiet_step ((go_at_call 39; exact Ext.same _ (letters_any _))))
              refine wpQuiet_nil ?_
              rintro _ ⟨xw, rfl⟩
              go_wp2_with fail
              go_meet
              exact ⟨_, rfl, (fun e => by cases e), xw.h⟩
            · have hc' : ((69 : Int) != (z : Int)) = true := by simp; omega
              refine Ext.region (by kernel_rfl) (by kernel_rfl) ?_
              repeat (go_big_quiet_step ((go_at_call 39; exact Ext.same _ (letters_any _))))
              refine wpQuiet_nil ?_
              rintro _ ⟨xw, rfl⟩
              go_wp2_with fail
              go_meet
              exact ⟨_, rfl, (fun _ => hc), xw.h⟩
          · by_cases hc : (70 : Nat) = z
            · have hc' : ((70 : Int) != (z : Int)) = false := by simp; omega
              refine Ext.region (by kernel_rfl) (by kernel_rfl) ?_
              repeat (go_big_quiet_step ((go_at_call 39; exact Ext.same _ (letters_any _))))
              refine wpQuiet_nil ?_
              rintro _ ⟨xw, rfl⟩
              go_wp2_with fail
              go_meet
              exact ⟨_, rfl, (fun e => by cases e), xw.h⟩
            · have hc' : ((70 : Int) != (z : Int)) = true := by simp; omega
              refine Ext.region (by kernel_rfl) (by kernel_rfl) ?_
              repeat (go_big_quiet_step ((go_at_call 39; exact Ext.same _ (letters_any _))))
              refine wpQuiet_nil ?_
              rintro _ ⟨xw, rfl⟩
              go_wp2_with fail
              go_meet
              exact ⟨_, rfl, (fun _ => hc), xw.h⟩
          · by_cases hc : (71 : Nat) = z
            · have hc' : ((71 : Int) != (z : Int)) = false := by simp; omega
              refine Ext.region (by kernel_rfl) (by kernel_rfl) ?_
              repeat (go_big_quiet_step ((go_at_call 39; exact Ext.same _ (letters_any _))))
              refine wpQuiet_nil ?_
              rintro _ ⟨xw, rfl⟩
              go_wp2_with fail
              go_meet
              exact ⟨_, rfl, (fun e => by cases e), xw.h⟩
            · have hc' : ((71 : Int) != (z : Int)) = true := by simp; omega
              refine Ext.region (by kernel_rfl) (by kernel_rfl) ?_
              repeat (go_big_quiet_step ((go_at_call 39; exact Ext.same _ (letters_any _))))
              refine wpQuiet_nil ?_
              rintro _ ⟨xw, rfl⟩
              go_wp2_with fail
              go_meet
              exact ⟨_, rfl, (fun _ => hc), xw.h⟩
          · by_cases hc : (65 : Nat) = z
            · have hc' : ((65 : Int) != (z : Int)) = false := by simp; omega
              refine Ext.region (by kernel_rfl) (by kernel_rfl) ?_
              repeat (go_big_quiet_step ((go_at_call 39; exact Ext.same _ (letters_any _))))
              refine wpQuiet_nil ?_
              rintro _ ⟨xw, rfl⟩
              go_wp2_with fail
              go_meet
              exact ⟨_, rfl, (fun e => by cases e), xw.h⟩
            · have hc' : ((65 : Int) != (z : Int)) = true := by simp; omega
              refine Ext.region (by kernel_rfl) (by kernel_rfl) ?_
              repeat (go_big_quiet_step ((go_at_call 39; exact Ext.same _ (letters_any _))))
              refine wpQuiet_nil ?_
              rintro _ ⟨xw, rfl⟩
              go_wp2_with fail
              go_meet
              exact ⟨_, rfl, (fun _ => hc), xw.h⟩
          · by_cases hc : (66 : Nat) = z
            · have hc' : ((66 : Int) != (z : Int)) = false := by simp; omega
              refine Ext.region (by kernel_rfl) (by kernel_rfl) ?_
              repeat (go_big_quiet_step ((go_at_call 39; exact Ext.same _ (letters_any _))))
              refine wpQuiet_nil ?_
              rintro _ ⟨xw, rfl⟩
              go_wp2_with fail
              go_meet
              exact ⟨_, rfl, (fun e => by cases e), xw.h⟩
            · have hc' : ((66 : Int) != (z : Int)) = true := by simp; omega
              refine Ext.region (by kernel_rfl) (by kernel_rfl) ?_
              repeat (go_big_quiet_step ((go_at_call 39; exact Ext.same _ (letters_any _))))
              refine wpQuiet_nil ?_
              rintro _ ⟨xw, rfl⟩
              go_wp2_with fail
              go_meet
              exact ⟨_, rfl, (fun _ => hc), xw.h⟩
        obtain ⟨B, rfl, hBz, hb⟩ := hcut
        replace V := V.below hb
        replace hB := hB.trans (hb.mono hB.size)
        have S3 := hB.size
        clear hb
        cases B with
        | true =>
          have N2 : Hid (Tx.no1 S (st + 1)) := Lib.hid (Tx.no1_next N1.out fun a o _ => Tx.first_ne h0 (by rw [hz]; exact hBz rfl))
          clear N1 hBz
          go_wp2
          go_roundw
          case rel => exact ⟨st + 1, rfl, by omega, by omega, N2.out, hB, V⟩
          case measure => simp [intOf]; omega
        | false =>
          clear hBz
          go_wp2
          go_loopw [5] (fun s5 wr2 => ∃ al : Int, s5 = .int .i64 al ∧ -4 ≤ al ∧ al ≤ 5 ∧ Tx.no2 S st al ∧ Below w.heap.size w wr2 ∧ Var3 wr2 w.heap.size 0 0 0) (fun s5 _ => (5 - intOf s5).toNat)
          case atStart => exact ⟨-4, rfl, by omega, by omega, Tx.no2_zero S st, hB, V⟩
          case round =>
            clear hB V S3
            obtain ⟨al, rfl, a0, a5, hN2, hB, V⟩ := hrel
            have N2 := Lib.hid hN2
            clear hN2
            by_cases hal : al ≤ 4
            · go_wp2
              go_loopw [6] (fun s6 wr3 => ∃ oc : Int, s6 = .int .i64 oc ∧ -8 ≤ oc ∧ oc ≤ 21 ∧ Tx.no3 S st al oc ∧ Below w.heap.size w wr3 ∧ Var3 wr3 w.heap.size 0 0 0) (fun s6 _ => (21 - intOf s6).toNat)
              case atStart => exact ⟨-8, rfl, by omega, by omega, Tx.no3_zero S st al, hB, V⟩
              case round =>
                clear hB V
                obtain ⟨oc, rfl, o0, o5, hN3, hB, V⟩ := hrel
                have N3 := Lib.hid hN3
                clear hN3
                by_cases hoc : oc ≤ 20
                · have hv : Pt.pv st al oc = true := Pt.pv_iff.2 ⟨s0, by omega, a0, hal, o0, hoc⟩
                  have HT : Hid (Tx.txR st al oc = (Tx.txtB st al oc, 0)) := Lib.hid (by unfold Tx.txR; rw [if_pos hv])
                  have HV := Lib.hid hv
                  obtain ⟨T, hT⟩ : ∃ T, Tx.txtB st al oc = T := ⟨_, rfl⟩
                  rw [hT] at HT
                  have HTT := Lib.hid hT
                  clear hv hT
                  have S4 := hB.size
                  have lV := V.at3.lt
                  go_wp2_with fail
                  refine (rtext_is _ _ _ _ _ HT.out _).mono ?_; rintro e w5 ⟨rfl, hb5⟩
                  have P := (Var3.new wr st al oc _).below hb5
                  have S5 := hb5.size
                  simp only [World.size_alloc] at S5
                  replace V := (V.alloc _).below hb5
                  replace hB := (hB.alloc (by omega) _).trans (hb5.mono (by simp; omega))
                  clear hb5
                  obtain ⟨v0, v1, v2⟩ := And.intro V.at3.c0 (And.intro V.at3.c1 V.at3.c2)
                  obtain ⟨f0, f1, f2⟩ := And.intro V.f0 (And.intro V.f1 V.f2)
                  obtain ⟨p0, p1, p2⟩ := And.intro P.at3.c0 (And.intro P.at3.c1 P.at3.c2)
                  by_cases hTS : T = S
                  · subst hTS
                    have e := (Tx.paR_of HV.out).symm.trans ((congrArg Tx.paR HTT.out).trans H.out)
                    simp only [Prod.mk.injEq] at e
                    obtain ⟨rfl, rfl, rfl, rfl⟩ := e
                    go_wp2
                    refine bodyPost_ret (v := .tuple #[.agg #[.int .i64 st, .int .i64 al, .int .i64 oc], .int .i64 0]) (by simp [results, Tryd.results25, go_sem, v0, v1, v2]) rfl ⟨rfl, ?_⟩
                    exact ((hB.setCell (by simp <;> omega) _).setCell (by simp <;> omega) _).setCell (by simp <;> omega) _
                  · have hne' := rstr_ne hTS
                    have N4 : Hid (Tx.no3 S st al (oc + 1)) := Lib.hid (Tx.no3_next N3.out (fun e => hTS (HTT.out.symm.trans e)))
                    clear N3 hTS
                    go_wp2
                    go_roundw
                    case rel => exact ⟨oc + 1, rfl, by omega, by omega, N4.out, hB, V⟩
                    case measure => simp [intOf]; omega
                · skip
                  have N4 : Hid (Tx.no2 S st (al + 1)) := Lib.hid (Tx.no2_next N2.out fun o hv => N3.out o hv (by have := Pt.pv_iff.1 hv; omega))
                  clear N3 N2
                  go_wp2
                  go_roundw
                  case rel => exact ⟨al + 1, rfl, by omega, by omega, N4.out, hB, V⟩
                  case measure => simp [intOf]; omega
            · skip
              have N4 : Hid (Tx.no1 S (st + 1)) := Lib.hid (Tx.no1_next N1.out fun a o hv => N2.out a o hv (by have := Pt.pv_iff.1 hv; omega))
              clear N1 N2
              go_wp2
              go_roundw
              case rel => exact ⟨st + 1, rfl, by omega, by omega, N4.out, hB, V⟩
              case measure => simp [intOf]; omega
      · skip
        have e7 : st = 7 := by omega
        subst e7
        have e := (Tx.no1_end N1.out).symm.trans H.out
        simp only [Prod.mk.injEq] at e
        obtain ⟨rfl, rfl, rfl, rfl⟩ := e
        clear H N1
        obtain ⟨v0, v1, v2⟩ := And.intro V.at3.c0 (And.intro V.at3.c1 V.at3.c2)
        obtain ⟨f0, f1, f2⟩ := And.intro V.f0 (And.intro V.f1 V.f2)
        go_wp2
        refine bodyPost_ret (v := .tuple #[.agg #[.int .i64 0, .int .i64 0, .int .i64 0], .int .i64 7]) (by simp [results, Tryd.results25, go_sem, v0, v1, v2]) rfl ⟨rfl, ?_⟩
        exact ((hB.setCell (by simp <;> omega) _).setCell (by simp <;> omega) _).setCell (by simp <;> omega) _
end Go.Proofs.YtgehnciegolkhaaDoor
