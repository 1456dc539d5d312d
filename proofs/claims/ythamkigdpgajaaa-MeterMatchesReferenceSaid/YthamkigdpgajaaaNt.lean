/- The walks of meter's Time, Total, Where. -/
import Derived.Test.YthamkigdpgajaaaNf
namespace Go.Proofs.Ythamkigdpgajaaa
open Go.RowKit

namespace Mt
/-- A position (or none), as find returns it. -/
def pR (O : Option (Nat × Int)) : Int × Int × Int × Int := match O with
  | none => (0, 0, 0, 3)
  | some (k, t) => ((k : Int), oN t.toNat, oD t.toNat, 0)
end Mt
theorem PosP.lt {O : Option (Nat × Int)} {X Y Z E : Int} (h : Mt.pR O = (X, Y, Z, E)) (e : Ending) : PosP true O e ↔ e = .returned (.tuple #[.agg #[.int .i64 X, .int .i64 Y, .int .i64 Z], .int .i64 E]) := by
  cases O with
  | none => simp only [Mt.pR, Prod.mk.injEq] at h; obtain ⟨rfl, rfl, rfl, rfl⟩ := h; exact Iff.rfl
  | some p => obtain ⟨k, t⟩ := p; simp only [Mt.pR, Prod.mk.injEq] at h; obtain ⟨rfl, rfl, rfl, rfl⟩ := h; exact Iff.rfl
theorem mfind_lt (l : List Mt.B) (u : Int) (O : Option (Nat × Int)) (X Y Z E : Int) (hR : Mt.pR O = (X, Y, Z, E)) (len cap : Nat) (A : Option Addr) (hO : Mt.wh l u = O) (hu0 : -4000000000000 ≤ u) (hu1 : u ≤ 4000000000000) (hl : l.length = len) (hval : Mt.Val l) (w : World) (hL : SlB w A l) :
    Calls Try.prog 36 #[.slice A len cap, .int .i64 u] w fun e w' => e = .returned (.tuple #[.agg #[.int .i64 X, .int .i64 Y, .int .i64 Z], .int .i64 E]) ∧ Below w.heap.size w w' :=
  (mfind_is l u O len cap A hO hu0 hu1 hl hval w hL).mono fun e _ h => ⟨(PosP.lt hR e).1 h.1, h.2⟩
theorem Mt.before_tk {l : List B} {b n d : Int} (hval : Val l) (hp : posB l b n d = true) : 0 ≤ before l b.toNat + tk n d ∧ before l b.toNat + tk n d ≤ 200000000 := by
  obtain ⟨hb0, hb1, ht0, h3, h4⟩ := posB_iff.1 hp
  have hb := before_bounds hval.ok b.toNat hb1
  have hl4 := hval.2.1
  by_cases hk : b.toNat < l.length
  · have := h4 hk
    have := (hval.ok _ (List.getElem_mem hk)).2.2.2.1
    omega
  · have := h3 (by omega)
    omega

set_option maxHeartbeats 1600000 in
theorem mtime_is (l : List Mt.B) (b n d : Int) (g p : Bool) (N D : Int) (len cap : Nat) (A : Option Addr) (hv : g = true ↔ Mt.Val l) (hp : Mt.posB l b n d = p) (hN : Mt.oN (Mt.before l b.toNat + Mt.tk n d).toNat = N) (hD : Mt.oD (Mt.before l b.toNat + Mt.tk n d).toNat = D) (hl : l.length = len) (hwf : Mt.Wf l) (w : World) (hL : SlB w A l) :
    Calls Try.prog 15 #[.slice A len cap, .agg #[.int .i64 b, .int .i64 n, .int .i64 d]] w fun e w' => RatP (g && p) N D e ∧ Below w.heap.size w w' := by
  have HV := Lib.hid hv
  have HP := Lib.hid hp
  have HN := Lib.hid hl
  have HW := Lib.hid hwf
  have G0 := ((Below.refl w.heap.size w).alloc (Nat.le_refl _) (.cells #[.int .i64 b, .int .i64 n, .int .i64 d] 26)).alloc (by simp) (.cells #[.int .i64 0, .int .i64 0] 24)
  have A0 := (At3.new w b n d 26).alloc (.cells #[.int .i64 0, .int .i64 0] 24)
  have V0 : Var2 ((w.alloc (.cells #[.int .i64 b, .int .i64 n, .int .i64 d] 26)).alloc (.cells #[.int .i64 0, .int .i64 0] 24)) (w.heap.size + 1) 0 0 := by
    have := Var2.new (w.alloc (.cells #[.int .i64 b, .int .i64 n, .int .i64 d] 26)) 0 0 24
    rwa [World.size_alloc] at this
  have HL0 := Lib.hid ((hL.alloc (.cells #[.int .i64 b, .int .i64 n, .int .i64 d] 26)).alloc (.cells #[.int .i64 0, .int .i64 0] 24))
  cases g with
  | false =>
    clear hv hp hl hL hwf
    go_enter Try.func15, Try.ntmps15
    go_wp2_with (first | (go_at_call 13; refine (mvalid_is l false len cap A HV.out HN.out HW.out _ HL0.out).mono ?_; rintro e w2 ⟨rfl, hb⟩; have G2 := G0.trans (hb.mono G0.size); have V2 := V0.below hb; have L2 := HL0.out.below hb; have A2 := A0.below hb; obtain ⟨v0, v1, f0, f1⟩ := And.intro V2.at2.c0 (And.intro V2.at2.c1 (And.intro V2.f0 V2.f1)); clear hb) | fail)
    refine bodyPost_ret (v := .tuple #[.agg #[.int .i64 0, .int .i64 0], .int .i64 1]) (by simp [results, Try.results15, go_sem, v0, v1]) rfl ⟨rfl, (G2.setCell (by simp <;> omega) _).setCell (by simp <;> omega) _⟩
  | true =>
    have hval := hv.1 rfl
    have HVal := Lib.hid hval
    cases p with
    | false =>
      clear hv hp hl hL hval hwf
      go_enter Try.func15, Try.ntmps15
      go_wp2_with (first | (go_at_call 13; refine (mvalid_is l true len cap A HV.out HN.out HW.out _ HL0.out).mono ?_; rintro e w2 ⟨rfl, hb⟩; have G2 := G0.trans (hb.mono G0.size); have V2 := V0.below hb; have L2 := HL0.out.below hb; have A2 := A0.below hb; obtain ⟨a0, a1, a2⟩ := And.intro A2.c0 (And.intro A2.c1 A2.c2); clear hb) | (go_at_call 32; refine (mposition_is l b n d false len cap A HP.out HN.out HVal.out.ok _ L2).mono ?_; rintro e w4 ⟨rfl, hb⟩; have G4 := G2.trans (hb.mono G2.size); have V4 := V2.below hb; obtain ⟨v0, v1, f0, f1⟩ := And.intro V4.at2.c0 (And.intro V4.at2.c1 (And.intro V4.f0 V4.f1))) | fail)
      refine bodyPost_ret (v := .tuple #[.agg #[.int .i64 0, .int .i64 0], .int .i64 1]) (by simp [results, Try.results15, go_sem, v0, v1]) rfl ⟨rfl, (G4.setCell (by simp <;> omega) _).setCell (by simp <;> omega) _⟩
    | true =>
      obtain ⟨x0, x1⟩ := Mt.before_tk hval hp
      obtain ⟨x, hx⟩ := Int.eq_ofNat_of_zero_le x0
      rw [hx] at hN hD x1
      rw [Int.toNat_natCast] at hN hD
      have HX := Lib.hid hx
      have HM : Hid (Rt.makeR (x : Int) 1680 = (N, D, 0)) := Lib.hid (by rw [← hN, ← hD]; exact Mt.make_of (by omega))
      clear hv hp hl hL hval hx x0 x1 hN hD hwf
      go_enter Try.func15, Try.ntmps15
      go_wp2_with (first | (go_at_call 13; refine (mvalid_is l true len cap A HV.out HN.out HW.out _ HL0.out).mono ?_; rintro e w2 ⟨rfl, hb⟩; have G2 := G0.trans (hb.mono G0.size); have V2 := V0.below hb; have L2 := HL0.out.below hb; have A2 := A0.below hb; obtain ⟨a0, a1, a2⟩ := And.intro A2.c0 (And.intro A2.c1 A2.c2); clear hb) | (go_at_call 32; refine (mposition_is l b n d true len cap A HP.out HN.out HVal.out.ok _ L2).mono ?_; rintro e w4 ⟨rfl, hb⟩; have G4 := G2.trans (hb.mono G2.size); have V4 := V2.below hb; have A4 := A2.below hb; have L4 := L2.below hb; obtain ⟨b0, b1, b2⟩ := And.intro A4.c0 (And.intro A4.c1 A4.c2); clear hb a0 a1 a2) | (go_at_call 34; refine (mbefore_is l b n d (x : Int) len cap A HX.out HP.out HN.out HVal.out _ L4).mono ?_; rintro e w5 ⟨rfl, hb⟩; have G5 := G4.trans (hb.mono G4.size); have V5 := V4.below hb; clear hb) | (go_at_call 33; refine (mquarters_is x N D 0 HM.out _).mono ?_; rintro e w6 ⟨rfl, hb⟩; have G6 := G5.trans (hb.mono G5.size); have V6 := V5.below hb; obtain ⟨v0, v1, f0, f1⟩ := And.intro V6.at2.c0 (And.intro V6.at2.c1 (And.intro V6.f0 V6.f1)); clear hb) | fail)
      refine bodyPost_ret (v := .tuple #[.agg #[.int .i64 N, .int .i64 D], .int .i64 0]) (by simp [results, Try.results15, go_sem, v0, v1]) rfl ⟨rfl, (G6.setCell (by simp <;> omega) _).setCell (by simp <;> omega) _⟩

/-- Time, letter by letter. -/
def Mt.rR (f : Bool) (N D : Int) : Int × Int × Int := if f = true then (N, D, 0) else (0, 0, 1)
theorem RatP.lt {f : Bool} {N D X Y E : Int} (h : Mt.rR f N D = (X, Y, E)) (e : Ending) : RatP f N D e ↔ e = .returned (.tuple #[.agg #[.int .i64 X, .int .i64 Y], .int .i64 E]) := by
  cases f <;> simp only [Mt.rR, if_true, Bool.false_eq_true, if_false, Prod.mk.injEq] at h <;> obtain ⟨rfl, rfl, rfl⟩ := h <;> exact Iff.rfl

set_option maxHeartbeats 800000 in
theorem mtotal_is (l : List Mt.B) (f : Bool) (N D : Int) (len cap : Nat) (A : Option Addr) (hv : f = true ↔ Mt.Val l) (hN : Mt.totN l = N) (hD : Mt.totD l = D) (hl : l.length = len) (hwf : Mt.Wf l) (w : World) (hL : SlB w A l) :
    Calls Try.prog 11 #[.slice A len cap] w fun e w' => RatP f N D e ∧ Below w.heap.size w w' := by
  obtain ⟨⟨X, Y, E⟩, hR⟩ : ∃ x, Mt.rR f N D = x := ⟨_, rfl⟩
  have HR := Lib.hid hR
  have hp : Mt.posB l (len : Int) 0 1 = true := by
    rw [Mt.posB_iff]
    refine ⟨by omega, by omega, by decide, fun _ => by decide, fun h => absurd h (by omega)⟩
  have e0 : Mt.before l (len : Int).toNat + Mt.tk 0 1 = Mt.before l l.length := by rw [Int.toNat_natCast, hl, show Mt.tk 0 1 = 0 by decide]; omega
  have HT : Hid (∀ w', SlB w' A l → Calls Try.prog 15 #[.slice A len cap, .agg #[.int .i64 (len : Int), .int .i64 0, .int .i64 1]] w' fun e w'' => e = .returned (.tuple #[.agg #[.int .i64 X, .int .i64 Y], .int .i64 E]) ∧ Below w'.heap.size w' w'') := Lib.hid (fun w' h' => (mtime_is l len 0 1 f true N D len cap A hv hp (by rw [e0]; exact hN) (by rw [e0]; exact hD) hl hwf w' h').mono fun e _ h => ⟨(RatP.lt hR e).1 (by rw [Bool.and_true] at h; exact h.1), h.2⟩)
  have G0 := (Below.refl w.heap.size w).alloc (Nat.le_refl _) (.cells #[.int .i64 0, .int .i64 0] 24)
  have V0 : Var2 (w.alloc (.cells #[.int .i64 0, .int .i64 0] 24)) w.heap.size 0 0 := Var2.new _ _ _ _
  have HL0 := Lib.hid (hL.alloc (.cells #[.int .i64 0, .int .i64 0] 24))
  clear hv hN hD hl hwf hL hp e0 hR
  go_enter Try.func11, Try.ntmps11
  go_wp2_with (first | (go_at_call 27; refine (mend_is A len cap _).mono ?_; rintro e w2 ⟨rfl, hb⟩; have G2 := G0.trans (hb.mono G0.size); have V2 := V0.below hb; have L2 := HL0.out.below hb; clear hb) | (go_at_call 15; refine (HT.out _ L2).mono ?_; rintro e w3 ⟨rfl, hb⟩; have G3 := G2.trans (hb.mono G2.size); have V3 := V2.below hb; obtain ⟨v0, v1, f0, f1⟩ := And.intro V3.at2.c0 (And.intro V3.at2.c1 (And.intro V3.f0 V3.f1)); clear hb) | fail)
  refine bodyPost_ret (v := .tuple #[.agg #[.int .i64 X, .int .i64 Y], .int .i64 E]) (by simp [results, Try.results11, go_sem, v0, v1]) rfl ⟨(RatP.lt HR.out _).2 rfl, (G3.setCell (by simp <;> omega) _).setCell (by simp <;> omega) _⟩

set_option maxHeartbeats 1600000 in
theorem mwhere_is (l : List Mt.B) (n d : Int) (g q : Bool) (O : Option (Nat × Int)) (len cap : Nat) (A : Option Addr) (hv : g = true ↔ Mt.Val l) (hq : decide (0 ≤ Mt.tk n d) = q) (hO : Mt.wh l (Mt.tk n d) = O) (hl : l.length = len) (hwf : Mt.Wf l) (w : World) (hL : SlB w A l) :
    Calls Try.prog 17 #[.slice A len cap, .agg #[.int .i64 n, .int .i64 d]] w fun e w' => PosP (g && q) O e ∧ Below w.heap.size w w' := by
  obtain ⟨t, ht⟩ : ∃ t, Mt.tk n d = t := ⟨_, rfl⟩
  have htl := Mt.tk_le n d
  have HQ := Lib.hid hq
  rw [ht] at hO hq htl
  have HV := Lib.hid hv
  have HT := Lib.hid ht
  have HO := Lib.hid hO
  have HN := Lib.hid hl
  have HW := Lib.hid hwf
  have G0 := ((Below.refl w.heap.size w).alloc (Nat.le_refl _) (.cells #[.int .i64 n, .int .i64 d] 24)).alloc (by simp) (.cells #[.int .i64 0, .int .i64 0, .int .i64 0] 26)
  have A0 := (At2.new w n d 24).alloc (.cells #[.int .i64 0, .int .i64 0, .int .i64 0] 26)
  have V0 : Var3 ((w.alloc (.cells #[.int .i64 n, .int .i64 d] 24)).alloc (.cells #[.int .i64 0, .int .i64 0, .int .i64 0] 26)) (w.heap.size + 1) 0 0 0 := by
    have := Var3.new (w.alloc (.cells #[.int .i64 n, .int .i64 d] 24)) 0 0 0 26
    rwa [World.size_alloc] at this
  have HL0 := Lib.hid ((hL.alloc (.cells #[.int .i64 n, .int .i64 d] 24)).alloc (.cells #[.int .i64 0, .int .i64 0, .int .i64 0] 26))
  cases g with
  | false =>
    clear hv hq hl hL hO ht hwf
    go_enter Try.func17, Try.ntmps17
    go_wp2_with (first | (go_at_call 13; refine (mvalid_is l false len cap A HV.out HN.out HW.out _ HL0.out).mono ?_; rintro e w2 ⟨rfl, hb⟩; have G2 := G0.trans (hb.mono G0.size); have V2 := V0.below hb; have L2 := HL0.out.below hb; have A2 := A0.below hb; obtain ⟨v0, v1, v2, f0, f1, f2⟩ := And.intro V2.at3.c0 (And.intro V2.at3.c1 (And.intro V2.at3.c2 (And.intro V2.f0 (And.intro V2.f1 V2.f2)))); clear hb) | fail)
    refine bodyPost_ret (v := .tuple #[.agg #[.int .i64 0, .int .i64 0, .int .i64 0], .int .i64 1]) (by simp [results, Try.results17, go_sem, v0, v1, v2]) rfl ⟨rfl, ((G2.setCell (by simp <;> omega) _).setCell (by simp <;> omega) _).setCell (by simp <;> omega) _⟩
  | true =>
    cases q with
    | false =>
      clear hv hq hl hL hO ht hwf
      go_enter Try.func17, Try.ntmps17
      go_wp2_with (first | (go_at_call 13; refine (mvalid_is l true len cap A HV.out HN.out HW.out _ HL0.out).mono ?_; rintro e w2 ⟨rfl, hb⟩; have G2 := G0.trans (hb.mono G0.size); have V2 := V0.below hb; have L2 := HL0.out.below hb; have A2 := A0.below hb; obtain ⟨a0, a1⟩ := And.intro A2.c0 A2.c1; clear hb) | (go_at_call 35; refine (mduration_is n d false HQ.out _).mono ?_; rintro e w4 ⟨rfl, hb⟩; have G4 := G2.trans (hb.mono G2.size); have V4 := V2.below hb; obtain ⟨v0, v1, v2, f0, f1, f2⟩ := And.intro V4.at3.c0 (And.intro V4.at3.c1 (And.intro V4.at3.c2 (And.intro V4.f0 (And.intro V4.f1 V4.f2))))) | fail)
      refine bodyPost_ret (v := .tuple #[.agg #[.int .i64 0, .int .i64 0, .int .i64 0], .int .i64 1]) (by simp [results, Try.results17, go_sem, v0, v1, v2]) rfl ⟨rfl, ((G4.setCell (by simp <;> omega) _).setCell (by simp <;> omega) _).setCell (by simp <;> omega) _⟩
    | true =>
      have HVal := Lib.hid (hv.1 rfl)
      have t0 : 0 ≤ t := of_decide_eq_true hq
      obtain ⟨⟨X, Y, Z, E⟩, hR⟩ : ∃ x, Mt.pR O = x := ⟨_, rfl⟩
      have HR := Lib.hid hR
      clear hv hq hl hL hO ht hwf hR
      go_enter Try.func17, Try.ntmps17
      go_wp2_with (first | (go_at_call 13; refine (mvalid_is l true len cap A HV.out HN.out HW.out _ HL0.out).mono ?_; rintro e w2 ⟨rfl, hb⟩; have G2 := G0.trans (hb.mono G0.size); have V2 := V0.below hb; have L2 := HL0.out.below hb; have A2 := A0.below hb; obtain ⟨a0, a1⟩ := And.intro A2.c0 A2.c1; clear hb) | (go_at_call 35; refine (mduration_is n d true HQ.out _).mono ?_; rintro e w4 ⟨rfl, hb⟩; have G4 := G2.trans (hb.mono G2.size); have V4 := V2.below hb; have L4 := L2.below hb; obtain ⟨b0, b1⟩ := And.intro (A2.below hb).c0 (A2.below hb).c1; clear hb a0 a1) | (go_at_call 37; refine (munits_is n d t HT.out t0 _).mono ?_; rintro e w5 ⟨rfl, hb⟩; have G5 := G4.trans (hb.mono G4.size); have V5 := V4.below hb; have L5 := L4.below hb; clear hb) | (go_at_call 36; refine (mfind_lt l t O X Y Z E HR.out len cap A HO.out (by omega) (by omega) HN.out HVal.out _ L5).mono ?_; rintro e w6 ⟨rfl, hb⟩; have G6 := G5.trans (hb.mono G5.size); have V6 := V5.below hb; obtain ⟨v0, v1, v2, f0, f1, f2⟩ := And.intro V6.at3.c0 (And.intro V6.at3.c1 (And.intro V6.at3.c2 (And.intro V6.f0 (And.intro V6.f1 V6.f2)))); clear hb) | fail)
      refine bodyPost_ret (v := .tuple #[.agg #[.int .i64 X, .int .i64 Y, .int .i64 Z], .int .i64 E]) (by simp [results, Try.results17, go_sem, v0, v1, v2]) rfl ⟨(PosP.lt HR.out _).2 rfl, ((G6.setCell (by simp <;> omega) _).setCell (by simp <;> omega) _).setCell (by simp <;> omega) _⟩
end Go.Proofs.Ythamkigdpgajaaa
