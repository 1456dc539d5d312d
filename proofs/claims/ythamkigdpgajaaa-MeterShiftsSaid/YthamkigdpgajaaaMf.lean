/- The walks of the reference's Where, Shift, Few. -/
import Derived.Test.YthamkigdpgajaaaMe
namespace Go.Proofs.Ythamkigdpgajaaa
open Go.RowKit

theorem put3 {w : World} {b : Nat} {p q r : Int} (V : Var3 w b p q r) (x y z : Int) : At3 (((w.setCell ⟨b, 0, none⟩ (.int .i64 x)).setCell ⟨b, 1, none⟩ (.int .i64 y)).setCell ⟨b, 2, none⟩ (.int .i64 z)) b x y z := by
  obtain ⟨l, v0, v1, v2⟩ := V.at3
  exact ⟨by simpa using l, by go_simp, by go_simp, by go_simp⟩
/-- A position and an error. -/
def PosP (c : Bool) (O : Option (Nat × Int)) (e : Ending) : Prop := if c = true then (match O with
  | none => e = .returned (.tuple #[.agg #[.int .i64 0, .int .i64 0, .int .i64 0], .int .i64 3])
  | some (k, t) => e = .returned (.tuple #[.agg #[.int .i64 (k : Int), .int .i64 (Mt.oN t.toNat), .int .i64 (Mt.oD t.toNat)], .int .i64 0])) else e = .returned (.tuple #[.agg #[.int .i64 0, .int .i64 0, .int .i64 0], .int .i64 1])

set_option maxHeartbeats 1600000 in
theorem kwhere_is (l : List Mt.B) (n d : Int) (g q : Bool) (O : Option (Nat × Int)) (len cap : Nat) (A : Option Addr) (hv : g = true ↔ Mt.Val l) (hq : decide (0 ≤ Mt.tk n d) = q) (hO : Mt.wh l (Mt.tk n d) = O) (hl : l.length = len) (w : World) (hL : SlB w A l) :
    Calls Try.prog 18 #[.slice A len cap, .agg #[.int .i64 n, .int .i64 d]] w fun e w' => PosP (g && q) O e ∧ Below w.heap.size w w' := by
  obtain ⟨t, ht⟩ : ∃ t, Mt.tk n d = t := ⟨_, rfl⟩
  have htl := Mt.tk_le n d
  have htg := Mt.tk_ge n d
  have HQ := Lib.hid hq
  rw [ht] at hO hq htl htg
  have HV := Lib.hid hv
  have HT := Lib.hid ht
  have HO := Lib.hid hO
  have HN := Lib.hid hl
  have G0 := ((Below.refl w.heap.size w).alloc (Nat.le_refl _) (.cells #[.int .i64 n, .int .i64 d] 24)).alloc (by simp) (.cells #[.int .i64 0, .int .i64 0, .int .i64 0] 26)
  have A0 := (At2.new w n d 24).alloc (.cells #[.int .i64 0, .int .i64 0, .int .i64 0] 26)
  have V0 : Var3 ((w.alloc (.cells #[.int .i64 n, .int .i64 d] 24)).alloc (.cells #[.int .i64 0, .int .i64 0, .int .i64 0] 26)) (w.heap.size + 1) 0 0 0 := by
    have := Var3.new (w.alloc (.cells #[.int .i64 n, .int .i64 d] 24)) 0 0 0 26
    rwa [World.size_alloc] at this
  have HL0 := Lib.hid ((hL.alloc (.cells #[.int .i64 n, .int .i64 d] 24)).alloc (.cells #[.int .i64 0, .int .i64 0, .int .i64 0] 26))
  cases g with
  | false =>
    clear hv hq hl hL hO ht
    go_enter Try.func18, Try.ntmps18
    go_wp2_with (first | (go_at_call 14; refine (kvalid_is l false len cap A HV.out HN.out _ HL0.out).mono ?_; rintro e w2 ⟨rfl, hb⟩; have G4 := G0.trans (hb.mono G0.size); have V4 := V0.below hb; obtain ⟨v0, v1, v2, f0, f1, f2⟩ := And.intro V4.at3.c0 (And.intro V4.at3.c1 (And.intro V4.at3.c2 (And.intro V4.f0 (And.intro V4.f1 V4.f2))))) | fail)
    refine bodyPost_ret (v := .tuple #[.agg #[.int .i64 0, .int .i64 0, .int .i64 0], .int .i64 1]) (by simp [results, Try.results18, go_sem, v0, v1, v2]) rfl ⟨rfl, ((G4.setCell (by simp <;> omega) _).setCell (by simp <;> omega) _).setCell (by simp <;> omega) _⟩
  | true =>
    cases q with
    | false =>
      clear hv hq hl hL hO ht
      go_enter Try.func18, Try.ntmps18
      go_wp2_with (first | (go_at_call 14; refine (kvalid_is l true len cap A HV.out HN.out _ HL0.out).mono ?_; rintro e w2 ⟨rfl, hb⟩; have G2 := G0.trans (hb.mono G0.size); have V2 := V0.below hb; have A2 := A0.below hb; have a0 := A2.c0; have a1 := A2.c1; clear hb) | (go_at_call 38; refine (kduration_is n d false HQ.out _).mono ?_; rintro e w4 ⟨rfl, hb⟩; have G4 := G2.trans (hb.mono G2.size); have V4 := V2.below hb; obtain ⟨v0, v1, v2, f0, f1, f2⟩ := And.intro V4.at3.c0 (And.intro V4.at3.c1 (And.intro V4.at3.c2 (And.intro V4.f0 (And.intro V4.f1 V4.f2))))) | fail)
      refine bodyPost_ret (v := .tuple #[.agg #[.int .i64 0, .int .i64 0, .int .i64 0], .int .i64 1]) (by simp [results, Try.results18, go_sem, v0, v1, v2]) rfl ⟨rfl, ((G4.setCell (by simp <;> omega) _).setCell (by simp <;> omega) _).setCell (by simp <;> omega) _⟩
    | true =>
      have hval := hv.1 rfl
      have HOK := Lib.hid hval.ok
      have hl4 := hval.2.1
      rw [hl] at hl4
      have t0 : -4000000000000 ≤ t := by omega
      have t1 : t ≤ 4000000000000 := by omega
      clear hv hq hl hL hO ht hval
      cases O with
      | none =>
        go_enter Try.func18, Try.ntmps18
        go_wp2_with (first | (go_at_call 14; refine (kvalid_is l true len cap A HV.out HN.out _ HL0.out).mono ?_; rintro e w2 ⟨rfl, hb⟩; have G2 := G0.trans (hb.mono G0.size); have V2 := V0.below hb; have A2 := A0.below hb; have L2 := HL0.out.below hb; have a0 := A2.c0; have a1 := A2.c1; clear hb) | (go_at_call 38; refine (kduration_is n d true HQ.out _).mono ?_; rintro e w3 ⟨rfl, hb⟩; have G3 := G2.trans (hb.mono G2.size); have V3 := V2.below hb; have L3 := L2.below hb; have A3 := A2.below hb; have b0 := A3.c0; have b1 := A3.c1; clear hb) | (go_at_call 31; refine (kticks_is n d t HT.out _).mono ?_; rintro e w4 ⟨rfl, hb⟩; have G4 := G3.trans (hb.mono G3.size); have V4 := V3.below hb; have L4 := L3.below hb; clear hb) | (go_at_call 39; refine (kat_is l t none len cap A HO.out HN.out HOK.out hl4 t0 t1 _ L4).mono ?_; rintro e w5 ⟨rfl, hb⟩; have G5 := G4.trans (hb.mono G4.size); have V5 := V4.below hb; obtain ⟨v0, v1, v2, f0, f1, f2⟩ := And.intro V5.at3.c0 (And.intro V5.at3.c1 (And.intro V5.at3.c2 (And.intro V5.f0 (And.intro V5.f1 V5.f2)))); have hs5 := V5.at3.lt) | fail)
        have r := (put3 V5 0 0 0).alloc (.cells #[.int .i64 0, .int .i64 0, .int .i64 0] 26)
        obtain ⟨_, r0, r1, r2⟩ := r
        refine bodyPost_ret (v := .tuple #[.agg #[.int .i64 0, .int .i64 0, .int .i64 0], .int .i64 3]) (by simp [results, Try.results18, go_sem, r0, r1, r2]) rfl ⟨rfl, ((((G5.setCell (p := ⟨w.heap.size + 1, 0, none⟩) (Nat.le_succ _) _).setCell (p := ⟨w.heap.size + 1, 1, none⟩) (Nat.le_succ _) _).setCell (p := ⟨w.heap.size + 1, 2, none⟩) (Nat.le_succ _) _).alloc (by have := G5.size; simp; omega) _)⟩
      | some p =>
        obtain ⟨k, u⟩ := p
        obtain ⟨N, hN⟩ : ∃ N, Mt.oN u.toNat = N := ⟨_, rfl⟩
        obtain ⟨D, hD⟩ : ∃ D, Mt.oD u.toNat = D := ⟨_, rfl⟩
        have HAT : Hid (∀ w', SlB w' A l → Calls Try.prog 39 #[.slice A len cap, .int .i64 t] w' fun e w'' => e = .returned (.tuple #[.agg #[.int .i64 (k : Int), .int .i64 N, .int .i64 D], .bool true]) ∧ Below w'.heap.size w' w'') := Lib.hid (fun w' hw => by
          rw [← hN, ← hD]
          exact kat_is l t (some (k, u)) len cap A HO.out HN.out HOK.out hl4 t0 t1 w' hw)
        have HP : Hid (PosP (true && true) (some (k, u)) (.returned (.tuple #[.agg #[.int .i64 (k : Int), .int .i64 N, .int .i64 D], .int .i64 0]))) := Lib.hid (by rw [← hN, ← hD]; rfl)
        clear hN hD
        go_enter Try.func18, Try.ntmps18
        go_wp2_with (first | (go_at_call 14; refine (kvalid_is l true len cap A HV.out HN.out _ HL0.out).mono ?_; rintro e w2 ⟨rfl, hb⟩; have G2 := G0.trans (hb.mono G0.size); have V2 := V0.below hb; have A2 := A0.below hb; have L2 := HL0.out.below hb; have a0 := A2.c0; have a1 := A2.c1; clear hb) | (go_at_call 38; refine (kduration_is n d true HQ.out _).mono ?_; rintro e w3 ⟨rfl, hb⟩; have G3 := G2.trans (hb.mono G2.size); have V3 := V2.below hb; have L3 := L2.below hb; have A3 := A2.below hb; have b0 := A3.c0; have b1 := A3.c1; clear hb) | (go_at_call 31; refine (kticks_is n d t HT.out _).mono ?_; rintro e w4 ⟨rfl, hb⟩; have G4 := G3.trans (hb.mono G3.size); have V4 := V3.below hb; have L4 := L3.below hb; clear hb) | (go_at_call 39; refine (HAT.out _ L4).mono ?_; rintro e w5 ⟨rfl, hb⟩; have G5 := G4.trans (hb.mono G4.size); have V5 := V4.below hb; obtain ⟨v0, v1, v2, f0, f1, f2⟩ := And.intro V5.at3.c0 (And.intro V5.at3.c1 (And.intro V5.at3.c2 (And.intro V5.f0 (And.intro V5.f1 V5.f2)))); have hs5 := V5.at3.lt) | fail)
        have r := (put3 V5 k N D).alloc (.cells #[.int .i64 (k : Int), .int .i64 N, .int .i64 D] 26)
        obtain ⟨_, r0, r1, r2⟩ := r
        refine bodyPost_ret (v := .tuple #[.agg #[.int .i64 (k : Int), .int .i64 N, .int .i64 D], .int .i64 0]) (by simp [results, Try.results18, go_sem, r0, r1, r2]) rfl ⟨HP.out, ((((G5.setCell (p := ⟨w.heap.size + 1, 0, none⟩) (Nat.le_succ _) _).setCell (p := ⟨w.heap.size + 1, 1, none⟩) (Nat.le_succ _) _).setCell (p := ⟨w.heap.size + 1, 2, none⟩) (Nat.le_succ _) _).alloc (by have := G5.size; simp; omega) _)⟩
end Go.Proofs.Ythamkigdpgajaaa
