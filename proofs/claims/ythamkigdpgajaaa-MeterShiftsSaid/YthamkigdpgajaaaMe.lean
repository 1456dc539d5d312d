/- The walks of the reference's Time, Where. -/
import Derived.Test.YthamkigdpgajaaaMd
namespace Go.Proofs.Ythamkigdpgajaaa
open Go.RowKit

set_option maxHeartbeats 1600000 in
theorem ktime_is (l : List Mt.B) (b n d : Int) (g p : Bool) (N D : Int) (len cap : Nat) (A : Option Addr) (hv : g = true ↔ Mt.Val l) (hp : Mt.posB l b n d = p) (hN : Mt.oN (Mt.before l b.toNat + Mt.tk n d).toNat = N) (hD : Mt.oD (Mt.before l b.toNat + Mt.tk n d).toNat = D) (hl : l.length = len) (w : World) (hL : SlB w A l) :
    Calls Try.prog 16 #[.slice A len cap, .agg #[.int .i64 b, .int .i64 n, .int .i64 d]] w fun e w' => RatP (g && p) N D e ∧ Below w.heap.size w w' := by
  have HV := Lib.hid hv
  have HP := Lib.hid hp
  have HN := Lib.hid hl
  have G0 := ((Below.refl w.heap.size w).alloc (Nat.le_refl _) (.cells #[.int .i64 b, .int .i64 n, .int .i64 d] 26)).alloc (by simp) (.cells #[.int .i64 0, .int .i64 0] 24)
  have A0 := (At3.new w b n d 26).alloc (.cells #[.int .i64 0, .int .i64 0] 24)
  have V0 : Var2 ((w.alloc (.cells #[.int .i64 b, .int .i64 n, .int .i64 d] 26)).alloc (.cells #[.int .i64 0, .int .i64 0] 24)) (w.heap.size + 1) 0 0 := by
    have := Var2.new (w.alloc (.cells #[.int .i64 b, .int .i64 n, .int .i64 d] 26)) 0 0 24
    rwa [World.size_alloc] at this
  have HL0 := Lib.hid ((hL.alloc (.cells #[.int .i64 b, .int .i64 n, .int .i64 d] 26)).alloc (.cells #[.int .i64 0, .int .i64 0] 24))
  cases g with
  | false =>
    clear hv hp hl hL
    go_enter Try.func16, Try.ntmps16
    go_wp2_with (first | (go_at_call 14; refine (kvalid_is l false len cap A HV.out HN.out _ HL0.out).mono ?_; rintro e w2 ⟨rfl, hb⟩; have G4 := G0.trans (hb.mono G0.size); have V4 := V0.below hb; obtain ⟨v0, v1, f0, f1⟩ := And.intro V4.at2.c0 (And.intro V4.at2.c1 (And.intro V4.f0 V4.f1))) | fail)
    refine bodyPost_ret (v := .tuple #[.agg #[.int .i64 0, .int .i64 0], .int .i64 1]) (by simp [results, Try.results16, go_sem, v0, v1]) rfl ⟨rfl, (G4.setCell (by simp <;> omega) _).setCell (by simp <;> omega) _⟩
  | true =>
    cases p with
    | false =>
      clear hv hp hl hL
      go_enter Try.func16, Try.ntmps16
      go_wp2_with (first | (go_at_call 14; refine (kvalid_is l true len cap A HV.out HN.out _ HL0.out).mono ?_; rintro e w2 ⟨rfl, hb⟩; have G2 := G0.trans (hb.mono G0.size); have V2 := V0.below hb; have L2 := HL0.out.below hb; have A2 := A0.below hb; obtain ⟨a0, a1, a2⟩ := And.intro A2.c0 (And.intro A2.c1 A2.c2); clear hb) | (go_at_call 22; refine (kposition_is l b n d false len cap A HP.out HN.out _ L2).mono ?_; rintro e w4 ⟨rfl, hb⟩; have G4 := G2.trans (hb.mono G2.size); have V4 := V2.below hb; obtain ⟨v0, v1, f0, f1⟩ := And.intro V4.at2.c0 (And.intro V4.at2.c1 (And.intro V4.f0 V4.f1))) | fail)
      refine bodyPost_ret (v := .tuple #[.agg #[.int .i64 0, .int .i64 0], .int .i64 1]) (by simp [results, Try.results16, go_sem, v0, v1]) rfl ⟨rfl, (G4.setCell (by simp <;> omega) _).setCell (by simp <;> omega) _⟩
    | true =>
      have hval := hv.1 rfl
      obtain ⟨hb0, hpos⟩ := Mt.posB_iff.1 hp
      obtain ⟨k, rfl⟩ := Int.eq_ofNat_of_zero_le hb0
      rw [Int.toNat_natCast] at hpos hN hD
      obtain ⟨hk, ht0, _, _⟩ := hpos
      obtain ⟨x, hx⟩ := Int.eq_ofNat_of_zero_le (Mt.before_bounds hval.ok k hk).1
      have hx2 := (Mt.before_bounds hval.ok k hk).2
      obtain ⟨t, ht⟩ := Int.eq_ofNat_of_zero_le ht0
      have htl := Mt.tk_le n d
      have hl4 := hval.2.1
      rw [hx] at hx2 hN hD
      rw [ht] at htl hN hD
      rw [hl] at hk hl4
      rw [show ((x : Int) + (t : Int)).toNat = x + t by omega] at hN hD
      have HX := Lib.hid hx
      have HT := Lib.hid ht
      have HNN := Lib.hid hN
      have HDD := Lib.hid hD
      have HOK := Lib.hid hval.ok
      have hbm : x + t ≤ 1000000000000000 := by omega
      have hxt : ((x + t : Nat) : Int) = (x : Int) + (t : Int) := by omega
      have hb1 : (x : Int) ≤ 4000000000000 := by omega
      have HOF : Hid (∀ w', Calls Try.prog 28 #[.int .i64 ((x : Int) + (t : Int))] w' fun e w'' => e = .returned (.agg #[.int .i64 N, .int .i64 D]) ∧ Below w'.heap.size w' w'') := Lib.hid (fun w' => by rw [← hxt]; exact kof_is (x + t) N D HNN.out HDD.out hbm w')
      clear hv hp hl hL hval hx hx2 ht ht0 hN hD hb0
      go_enter Try.func16, Try.ntmps16
      go_wp2_with (first | (go_at_call 14; refine (kvalid_is l true len cap A HV.out HN.out _ HL0.out).mono ?_; rintro e w2 ⟨rfl, hb⟩; have G2 := G0.trans (hb.mono G0.size); have V2 := V0.below hb; have L2 := HL0.out.below hb; have A2 := A0.below hb; obtain ⟨a0, a1, a2⟩ := And.intro A2.c0 (And.intro A2.c1 A2.c2); clear hb) | (go_at_call 22; refine (kposition_is l (k : Int) n d true len cap A HP.out HN.out _ L2).mono ?_; rintro e w4 ⟨rfl, hb⟩; have G4 := G2.trans (hb.mono G2.size); have V4 := V2.below hb; have A4 := A2.below hb; have L4 := L2.below hb; clear hb a0 a1 a2) | fail)
      have x0 := fun y : Ext w4 => y.cell A4.c0
      have x1 := fun y : Ext w4 => y.cell A4.c1
      have x2 := fun y : Ext w4 => y.cell A4.c2
      have hne := Ext.there w4
      have HL4 := Lib.hid L4
      refine Ext.tail 9 (by kernel_rfl) (by kernel_rfl) ?_
      simp only [List.take_succ_cons, List.take_zero, List.drop_succ_cons, List.drop_zero]
      repeat (go_big_quiet_step ((first | (go_at_call 29; with_reducible exact Ext.call _ (kbefore_is l k (x : Int) len cap A HX.out HN.out hk HOK.out hl4 _ (HL4.out.below (Ext.h _)))) | (go_at_call 31; with_reducible exact Ext.call _ (kticks_is n d (t : Int) HT.out _)) | (go_at_call 28; with_reducible exact Ext.call _ (HOF.out _)))))
      refine wpQuiet_nil ?_
      rintro _ ⟨xw, rfl⟩
      have V5 := V4.below xw.h
      have G5 := G4.trans (xw.h.mono G4.size)
      clear x0 x1 x2 hne A4 L4 HL4
      generalize xw.w = w5 at *
      clear xw
      obtain ⟨v0, v1, f0, f1⟩ := And.intro V5.at2.c0 (And.intro V5.at2.c1 (And.intro V5.f0 V5.f1))
      go_wp2_with fail
      refine bodyPost_ret (v := .tuple #[.agg #[.int .i64 N, .int .i64 D], .int .i64 0]) (by simp [results, Try.results16, go_sem, v0, v1]) rfl ⟨rfl, (G5.setCell (by simp <;> omega) _).setCell (by simp <;> omega) _⟩
end Go.Proofs.Ythamkigdpgajaaa
