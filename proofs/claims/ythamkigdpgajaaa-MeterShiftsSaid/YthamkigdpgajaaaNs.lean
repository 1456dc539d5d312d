/- The walk of meter's Shift. -/
import Derived.Test.YthamkigdpgajaaaNt
import Derived.Test.YthamkigdpgajaaaMg
namespace Go.Proofs.Ythamkigdpgajaaa
open Go.RowKit

namespace Mt
/-- Durations and their opposites, in 1680ths. -/
theorem byT_units {bn bd : Int} (h : (byT bn bd).isSome = true) : 1 ≤ bd ∧ -1000000000 ≤ bn ∧ bn ≤ 1000000000 ∧ (byT bn bd).getD 0 = bn * (1680 / bd) ∧ -1680000000000 ≤ (byT bn bd).getD 0 ∧ (byT bn bd).getD 0 ≤ 1680000000000 := by
  unfold byT at h ⊢
  by_cases h1 : 0 ≤ tk bn bd
  · rw [if_pos h1]
    obtain ⟨a1, a2, a3, a4, a5⟩ := tk_val h1
    have := tk_le bn bd
    exact ⟨a1, by omega, a4, a5, by simp only [Option.getD_some]; omega, by simp only [Option.getD_some]; omega⟩
  · rw [if_neg h1] at h ⊢
    by_cases h2 : 0 ≤ tk (-bn) bd
    · rw [if_pos h2]
      obtain ⟨a1, a2, a3, a4, a5⟩ := tk_val h2
      have := tk_le (-bn) bd
      exact ⟨a1, by omega, by omega, by simp only [Option.getD_some]; rw [a5, Int.neg_mul, Int.neg_neg], by simp only [Option.getD_some]; omega, by simp only [Option.getD_some]; omega⟩
    · rw [if_neg h2] at h
      cases h
end Mt

/-- The variables of Shift: the position, the time, the result, the opposite. -/
structure Shf (H : Nat) (X : World) (b n d bn bd m : Int) : Prop where
  p : At3 X H b n d
  y : At2 X (H + 1) bn bd
  v : Var3 X (H + 2) 0 0 0
  o : At2 X (H + 3) m bd
theorem Shf.below {H : Nat} {X Y : World} {b n d bn bd m : Int} (h : Shf H X b n d bn bd m) (hb : Below X.heap.size X Y) : Shf H Y b n d bn bd m := ⟨h.p.below hb, h.y.below hb, h.v.below hb, h.o.below hb⟩

set_option maxHeartbeats 3200000 in
theorem mshift_is (l : List Mt.B) (b n d bn bd : Int) (g p q : Bool) (O : Option (Nat × Int)) (len cap : Nat) (A : Option Addr) (hv : g = true ↔ Mt.Val l) (hp : Mt.posB l b n d = p) (hq : (Mt.byT bn bd).isSome = q) (hO : Mt.shO l b n d bn bd = O) (hl : l.length = len) (hwf : Mt.Wf l) (hbn : -9223372036854775808 ≤ bn ∧ bn ≤ 9223372036854775807) (w : World) (hL : SlB w A l) :
    Calls Try.prog 19 #[.slice A len cap, .agg #[.int .i64 b, .int .i64 n, .int .i64 d], .agg #[.int .i64 bn, .int .i64 bd]] w fun e w' => PosP (g && p && q) O e ∧ Below w.heap.size w w' := by
  have HV := Lib.hid hv
  have HP := Lib.hid hp
  have HN := Lib.hid hl
  have HW := Lib.hid hwf
  -- the opposite, as the program has it
  obtain ⟨m, hm⟩ : ∃ m, IntKind.i64.wrap (-bn) = m := ⟨_, rfl⟩
  have hmt : Mt.tk m bd = Mt.tk (-bn) bd := by
    by_cases h0 : bn = -9223372036854775808
    · subst h0
      have e1 : m = -9223372036854775808 := by rw [← hm]; rfl
      rw [e1]
      unfold Mt.tk
      rw [if_pos (.inr (.inr (.inl (by omega)))), if_pos (.inr (.inr (.inr (.inl (by omega)))))]
    · rw [← hm, IntKind.wrap_i64, show (-bn + 9223372036854775808) % 18446744073709551616 - 9223372036854775808 = -bn by omega]
  have hm2 : Go.RowKit.wrap64 (-bn) = m := by rw [← hm, IntKind.wrap_i64]; unfold Go.RowKit.wrap64; omega
  have G0 : Below w.heap.size w ((((w.alloc (.cells #[.int .i64 b, .int .i64 n, .int .i64 d] 26)).alloc (.cells #[.int .i64 bn, .int .i64 bd] 24)).alloc (.cells #[.int .i64 0, .int .i64 0, .int .i64 0] 26)).alloc (.cells #[.int .i64 m, .int .i64 bd] 24)) := ((((Below.refl w.heap.size w).alloc (Nat.le_refl _) _).alloc (by simp) _).alloc (by simp; omega) _).alloc (by simp; omega) _
  have S0 : Shf w.heap.size ((((w.alloc (.cells #[.int .i64 b, .int .i64 n, .int .i64 d] 26)).alloc (.cells #[.int .i64 bn, .int .i64 bd] 24)).alloc (.cells #[.int .i64 0, .int .i64 0, .int .i64 0] 26)).alloc (.cells #[.int .i64 m, .int .i64 bd] 24)) b n d bn bd m := by
    have e2 := At2.new (w.alloc (.cells #[.int .i64 b, .int .i64 n, .int .i64 d] 26)) bn bd 24
    have e3 := Var3.new ((w.alloc (.cells #[.int .i64 b, .int .i64 n, .int .i64 d] 26)).alloc (.cells #[.int .i64 bn, .int .i64 bd] 24)) 0 0 0 26
    have e4 := At2.new (((w.alloc (.cells #[.int .i64 b, .int .i64 n, .int .i64 d] 26)).alloc (.cells #[.int .i64 bn, .int .i64 bd] 24)).alloc (.cells #[.int .i64 0, .int .i64 0, .int .i64 0] 26)) m bd 24
    simp only [World.size_alloc] at e2 e3 e4
    exact ⟨(((At3.new w b n d 26).alloc _).alloc _).alloc _, (e2.alloc _).alloc _, e3.alloc _, e4⟩
  have HL0 := Lib.hid ((((hL.alloc (.cells #[.int .i64 b, .int .i64 n, .int .i64 d] 26)).alloc (.cells #[.int .i64 bn, .int .i64 bd] 24)).alloc (.cells #[.int .i64 0, .int .i64 0, .int .i64 0] 26)).alloc (.cells #[.int .i64 m, .int .i64 bd] 24))
  obtain ⟨q1, hq1⟩ : ∃ q1, decide (0 ≤ Mt.tk bn bd) = q1 := ⟨_, rfl⟩
  obtain ⟨q2, hq2⟩ : ∃ q2, decide (0 ≤ Mt.tk m bd) = q2 := ⟨_, rfl⟩
  have HQ1 := Lib.hid hq1
  have HQ2 := Lib.hid hq2
  cases g with
  | false =>
    clear hv hp hq hO hl hwf hL hq1 hq2 hmt hbn
    go_enter Try.func19, Try.ntmps19
    go_wp2_with (first | (go_at_call 13; refine (mvalid_is l false len cap A HV.out HN.out HW.out _ HL0.out).mono ?_; rintro e w2 ⟨rfl, hb⟩; have G2 := G0.trans (hb.mono G0.size); have S2 := S0.below hb; have L2 := HL0.out.below hb; obtain ⟨v0, v1, v2, f0, f1, f2⟩ := And.intro S2.v.at3.c0 (And.intro S2.v.at3.c1 (And.intro S2.v.at3.c2 (And.intro S2.v.f0 (And.intro S2.v.f1 S2.v.f2)))); clear hb) | fail)
    refine bodyPost_ret (v := .tuple #[.agg #[.int .i64 0, .int .i64 0, .int .i64 0], .int .i64 1]) (by simp [results, Try.results19, go_sem, v0, v1, v2]) rfl ⟨rfl, ((G2.setCell (by simp <;> omega) _).setCell (by simp <;> omega) _).setCell (by simp <;> omega) _⟩
  | true =>
    have HVal := Lib.hid (hv.1 rfl)
    cases p with
    | false =>
      clear hv hp hq hO hl hwf hL hq1 hq2 hmt hbn
      go_enter Try.func19, Try.ntmps19
      go_wp2_with (first | (go_at_call 13; refine (mvalid_is l true len cap A HV.out HN.out HW.out _ HL0.out).mono ?_; rintro e w2 ⟨rfl, hb⟩; have G2 := G0.trans (hb.mono G0.size); have S2 := S0.below hb; have L2 := HL0.out.below hb; obtain ⟨p0, p1, p2⟩ := And.intro S2.p.c0 (And.intro S2.p.c1 S2.p.c2); clear hb) | (go_at_call 32; refine (mposition_is l b n d false len cap A HP.out HN.out HVal.out.ok _ L2).mono ?_; rintro e w3 ⟨rfl, hb⟩; have G3 := G2.trans (hb.mono G2.size); have S3 := S2.below hb; have L3 := L2.below hb; obtain ⟨v0, v1, v2, f0, f1, f2⟩ := And.intro S3.v.at3.c0 (And.intro S3.v.at3.c1 (And.intro S3.v.at3.c2 (And.intro S3.v.f0 (And.intro S3.v.f1 S3.v.f2)))); clear hb) | fail)
      refine bodyPost_ret (v := .tuple #[.agg #[.int .i64 0, .int .i64 0, .int .i64 0], .int .i64 1]) (by simp [results, Try.results19, go_sem, v0, v1, v2]) rfl ⟨rfl, ((G3.setCell (by simp <;> omega) _).setCell (by simp <;> omega) _).setCell (by simp <;> omega) _⟩
    | true =>
      cases q with
      | false =>
        obtain ⟨rfl, rfl⟩ : q1 = false ∧ q2 = false := by
          unfold Mt.byT at hq
          rw [hmt] at hq2
          by_cases h1 : 0 ≤ Mt.tk bn bd
          · rw [if_pos h1] at hq; cases hq
          · rw [if_neg h1] at hq
            by_cases h2 : 0 ≤ Mt.tk (-bn) bd
            · rw [if_pos h2] at hq; cases hq
            · exact ⟨by rw [← hq1]; exact decide_eq_false h1, by rw [← hq2]; exact decide_eq_false h2⟩
        clear hv hp hq hO hl hwf hL hq1 hq2 hmt hbn
        go_enter Try.func19, Try.ntmps19
        go_wp2_with (first | (go_at_call 13; refine (mvalid_is l true len cap A HV.out HN.out HW.out _ HL0.out).mono ?_; rintro e w2 ⟨rfl, hb⟩; have G2 := G0.trans (hb.mono G0.size); have S2 := S0.below hb; have L2 := HL0.out.below hb; obtain ⟨p0, p1, p2⟩ := And.intro S2.p.c0 (And.intro S2.p.c1 S2.p.c2); clear hb) | (go_at_call 32; refine (mposition_is l b n d true len cap A HP.out HN.out HVal.out.ok _ L2).mono ?_; rintro e w3 ⟨rfl, hb⟩; have G3 := G2.trans (hb.mono G2.size); have S3 := S2.below hb; have L3 := L2.below hb; clear p0 p1 p2; obtain ⟨y0, y1, o0, o1⟩ := And.intro S3.y.c0 (And.intro S3.y.c1 (And.intro S3.o.c0 S3.o.c1)); clear hb) | (go_at_call 35; first | ((with_reducible refine (mduration_is bn bd false HQ1.out _).mono ?_); rintro e w4 ⟨rfl, hb⟩; have G4 := G3.trans (hb.mono G3.size); have S4 := S3.below hb; have L4 := L3.below hb; clear y0 y1 o0 o1; obtain ⟨o0, o1⟩ := And.intro S4.o.c0 S4.o.c1; clear hb) | ((with_reducible refine (mduration_is m bd false HQ2.out _).mono ?_); rintro e w5 ⟨rfl, hb⟩; have G5 := G4.trans (hb.mono G4.size); have S5 := S4.below hb; have L5 := L4.below hb; obtain ⟨v0, v1, v2, f0, f1, f2⟩ := And.intro S5.v.at3.c0 (And.intro S5.v.at3.c1 (And.intro S5.v.at3.c2 (And.intro S5.v.f0 (And.intro S5.v.f1 S5.v.f2)))); clear hb)) | fail)
        refine bodyPost_ret (v := .tuple #[.agg #[.int .i64 0, .int .i64 0, .int .i64 0], .int .i64 1]) (by simp [results, Try.results19, go_sem, v0, v1, v2]) rfl ⟨rfl, ((G5.setCell (by simp <;> omega) _).setCell (by simp <;> omega) _).setCell (by simp <;> omega) _⟩
      | true =>
        obtain ⟨u1, u2, u3, u4, u5, u6⟩ := Mt.byT_units hq
        obtain ⟨s, hs⟩ : ∃ s, (Mt.byT bn bd).getD 0 = s := ⟨_, rfl⟩
        obtain ⟨z0, z1⟩ := Mt.before_tk (hv.1 rfl) hp
        obtain ⟨x, hx⟩ : ∃ x, Mt.before l b.toNat + Mt.tk n d = x := ⟨_, rfl⟩
        unfold Mt.shO at hO
        rw [hs, hx] at hO
        rw [hs] at u4 u5 u6
        rw [hx] at z0 z1
        have HO := Lib.hid hO
        have HX := Lib.hid hx
        have HU : Hid (∀ w', Calls Try.prog 37 #[.agg #[.int .i64 bn, .int .i64 bd]] w' fun e w'' => e = .returned (.int .i64 s) ∧ Below w'.heap.size w' w'') := Lib.hid (fun w' => by rw [u4]; exact munits_any bn bd u1 u2 u3 w')
        have ho0 : -4000000000000 ≤ x + s := by omega
        have ho1 : x + s ≤ 4000000000000 := by omega
        obtain ⟨⟨X, Y, Z, E⟩, hR⟩ : ∃ r, Mt.pR O = r := ⟨_, rfl⟩
        have HR := Lib.hid hR
        cases q1 with
        | true =>
          clear hv hp hq hO hl hwf hL hq1 hq2 hmt hbn hs hx u4 hR
          go_enter Try.func19, Try.ntmps19
          go_wp2_with (first | (go_at_call 13; refine (mvalid_is l true len cap A HV.out HN.out HW.out _ HL0.out).mono ?_; rintro e w2 ⟨rfl, hb⟩; have G2 := G0.trans (hb.mono G0.size); have S2 := S0.below hb; have L2 := HL0.out.below hb; obtain ⟨p0, p1, p2⟩ := And.intro S2.p.c0 (And.intro S2.p.c1 S2.p.c2); clear hb) | (go_at_call 32; refine (mposition_is l b n d true len cap A HP.out HN.out HVal.out.ok _ L2).mono ?_; rintro e w3 ⟨rfl, hb⟩; have G3 := G2.trans (hb.mono G2.size); have S3 := S2.below hb; have L3 := L2.below hb; clear p0 p1 p2; obtain ⟨y0, y1, o0, o1⟩ := And.intro S3.y.c0 (And.intro S3.y.c1 (And.intro S3.o.c0 S3.o.c1)); clear hb) | (go_at_call 35; first | ((with_reducible refine (mduration_is bn bd true HQ1.out _).mono ?_); rintro e w4 ⟨rfl, hb⟩; have G4 := G3.trans (hb.mono G3.size); have S4 := S3.below hb; have L4 := L3.below hb; clear y0 y1 o0 o1; clear hb)) | fail)
          have HS := Lib.hid S4
          have HLN := Lib.hid L4
          have x0 := fun y : Ext w4 => y.cell S4.p.c0
          have x1 := fun y : Ext w4 => y.cell S4.p.c1
          have x2 := fun y : Ext w4 => y.cell S4.p.c2
          have x3 := fun y : Ext w4 => y.cell S4.y.c0
          have x4 := fun y : Ext w4 => y.cell S4.y.c1
          have hne := Ext.there w4
          refine Ext.tail 10 (by kernel_rfl) (by kernel_rfl) ?_
          simp only [List.take_succ_cons, List.take_zero, List.drop_succ_cons, List.drop_zero]
          repeat (go_big_quiet_step ((first | (go_at_call 34; with_reducible exact Ext.call _ (mbefore_is l b n d x len cap A HX.out HP.out HN.out HVal.out _ (HLN.out.below (Ext.h _)))) | (go_at_call 37; with_reducible exact Ext.call _ (HU.out _)) | (go_at_call 36; with_reducible exact Ext.call _ (mfind_lt l (x + s) O X Y Z E HR.out len cap A HO.out ho0 ho1 HN.out HVal.out _ (HLN.out.below (Ext.h _)))))))
          refine wpQuiet_nil ?_
          rintro _ ⟨xw, rfl⟩
          have S9 := HS.out.below xw.h
          have G9 := G4.trans (xw.h.mono G4.size)
          clear x0 x1 x2 x3 x4 hne
          generalize xw.w = w9 at *
          clear xw
          obtain ⟨v0, v1, v2, f0, f1, f2⟩ := And.intro S9.v.at3.c0 (And.intro S9.v.at3.c1 (And.intro S9.v.at3.c2 (And.intro S9.v.f0 (And.intro S9.v.f1 S9.v.f2))))
          go_wp2_with fail
          refine bodyPost_ret (v := .tuple #[.agg #[.int .i64 X, .int .i64 Y, .int .i64 Z], .int .i64 E]) (by simp [results, Try.results19, go_sem, v0, v1, v2]) rfl ⟨(PosP.lt HR.out _).2 rfl, ((G9.setCell (by simp <;> omega) _).setCell (by simp <;> omega) _).setCell (by simp <;> omega) _⟩
        | false =>
          obtain rfl : q2 = true := by
            unfold Mt.byT at hq
            rw [if_neg (of_decide_eq_false hq1)] at hq
            rw [← hq2, hmt]
            by_cases h2 : 0 ≤ Mt.tk (-bn) bd
            · exact decide_eq_true h2
            · rw [if_neg h2] at hq; cases hq
          clear hv hp hq hO hl hwf hL hq1 hq2 hmt hbn hs hx u4 hR
          go_enter Try.func19, Try.ntmps19
          go_wp2_with (first | (go_at_call 13; refine (mvalid_is l true len cap A HV.out HN.out HW.out _ HL0.out).mono ?_; rintro e w2 ⟨rfl, hb⟩; have G2 := G0.trans (hb.mono G0.size); have S2 := S0.below hb; have L2 := HL0.out.below hb; obtain ⟨p0, p1, p2⟩ := And.intro S2.p.c0 (And.intro S2.p.c1 S2.p.c2); clear hb) | (go_at_call 32; refine (mposition_is l b n d true len cap A HP.out HN.out HVal.out.ok _ L2).mono ?_; rintro e w3 ⟨rfl, hb⟩; have G3 := G2.trans (hb.mono G2.size); have S3 := S2.below hb; have L3 := L2.below hb; clear p0 p1 p2; obtain ⟨y0, y1, o0, o1⟩ := And.intro S3.y.c0 (And.intro S3.y.c1 (And.intro S3.o.c0 S3.o.c1)); clear hb) | (go_at_call 35; first | ((with_reducible refine (mduration_is bn bd false HQ1.out _).mono ?_); rintro e w4 ⟨rfl, hb⟩; have G4 := G3.trans (hb.mono G3.size); have S4 := S3.below hb; have L4 := L3.below hb; clear y0 y1 o0 o1; obtain ⟨o0, o1⟩ := And.intro S4.o.c0 S4.o.c1; clear hb) | ((with_reducible refine (mduration_is m bd true HQ2.out _).mono ?_); rintro e w5 ⟨rfl, hb⟩; have G5 := G4.trans (hb.mono G4.size); have S5 := S4.below hb; have L5 := L4.below hb; clear o0 o1; clear hb)) | fail)
          have HS := Lib.hid S5
          have HLN := Lib.hid L5
          have x0 := fun y : Ext w5 => y.cell S5.p.c0
          have x1 := fun y : Ext w5 => y.cell S5.p.c1
          have x2 := fun y : Ext w5 => y.cell S5.p.c2
          have x3 := fun y : Ext w5 => y.cell S5.y.c0
          have x4 := fun y : Ext w5 => y.cell S5.y.c1
          have hne := Ext.there w5
          refine Ext.tail 10 (by kernel_rfl) (by kernel_rfl) ?_
          simp only [List.take_succ_cons, List.take_zero, List.drop_succ_cons, List.drop_zero]
          repeat (go_big_quiet_step ((first | (go_at_call 34; with_reducible exact Ext.call _ (mbefore_is l b n d x len cap A HX.out HP.out HN.out HVal.out _ (HLN.out.below (Ext.h _)))) | (go_at_call 37; with_reducible exact Ext.call _ (HU.out _)) | (go_at_call 36; with_reducible exact Ext.call _ (mfind_lt l (x + s) O X Y Z E HR.out len cap A HO.out ho0 ho1 HN.out HVal.out _ (HLN.out.below (Ext.h _)))))))
          refine wpQuiet_nil ?_
          rintro _ ⟨xw, rfl⟩
          have S9 := HS.out.below xw.h
          have G9 := G5.trans (xw.h.mono G5.size)
          clear x0 x1 x2 x3 x4 hne
          generalize xw.w = w9 at *
          clear xw
          obtain ⟨v0, v1, v2, f0, f1, f2⟩ := And.intro S9.v.at3.c0 (And.intro S9.v.at3.c1 (And.intro S9.v.at3.c2 (And.intro S9.v.f0 (And.intro S9.v.f1 S9.v.f2))))
          go_wp2_with fail
          refine bodyPost_ret (v := .tuple #[.agg #[.int .i64 X, .int .i64 Y, .int .i64 Z], .int .i64 E]) (by simp [results, Try.results19, go_sem, v0, v1, v2]) rfl ⟨(PosP.lt HR.out _).2 rfl, ((G9.setCell (by simp <;> omega) _).setCell (by simp <;> omega) _).setCell (by simp <;> omega) _⟩
end Go.Proofs.Ythamkigdpgajaaa
