/- The walk of DigestBehind. -/
import Derived.Test.YtmpimbolhjmapaaDoorDh
namespace Go.Proofs.YtmpimbolhjmapaaDoor
open Go.RowKit

set_option maxHeartbeats 1600000 in
theorem digestBehind_walk (A : Option Addr) (la ca : Nat) (a : List Nat) (hla : a.length = la) (ha8 : ∀ x ∈ a, x < 256) (hA : A = none → ca = 0) (B0 : Option Addr) (lb cb : Nat) (b : List Nat) (hlb : b.length = lb) (hb8 : ∀ x ∈ b, x < 256) (hB : B0 = none → cb = 0) (M : Option Addr) (lm cm : Nat) (m : List Nat) (hlm : m.length = lm) (hm8 : ∀ x ∈ m, x < 256) (hM : M = none → cm = 0) (w : World) (hG : GK w) (hL : SlN .u8 w A a) (hR : SlN .u8 w B0 b) (hS : SlN .u8 w M m) :
    Calls Tryd.prog 5 #[.slice A la ca, .slice B0 lb cb, .slice M lm cm] w fun e w' => e = .returned (.bool true) ∧ Below w.heap.size w w' := by
  have HNa := Lib.hid hla
  have HNb := Lib.hid hlb
  have HNm := Lib.hid hlm
  have HA := Lib.hid hA
  have HB := Lib.hid hB
  have HM := Lib.hid hM
  have HA8 := Lib.hid ha8
  have HB8 := Lib.hid hb8
  have hBe := Dg.behind (a := a) (b := b) hm8
  have HX8 : Hid (∀ x ∈ a ++ m, x < 256) := Lib.hid (fun x hx => (List.mem_append.1 hx).elim (ha8 x) (hm8 x))
  have HY8 : Hid (∀ x ∈ b ++ m, x < 256) := Lib.hid (fun x hx => (List.mem_append.1 hx).elim (hb8 x) (hm8 x))
  have HXl : Hid ((a ++ m).length = la + lm) := Lib.hid (by rw [List.length_append, hla, hlm])
  have HYl : Hid ((b ++ m).length = lb + lm) := Lib.hid (by rw [List.length_append, hlb, hlm])
  clear hla hlb hlm hA hB hM ha8 hb8 hm8
  by_cases z1 : (200 : Int) < (la : Int)
  ·
    go_enter Tryd.func5, Tryd.ntmps5
    go_wp2_with fail
    have B := Below.refl w.heap.size w
    refine (head_any _ hG).mono ?_; rintro e w1 ⟨rfl, hb⟩
    replace hG := hG.below hb
    replace B := B.trans (hb.mono (by have := B.size; simp <;> omega))
    clear hb
    go_wp2_with fail
    go_ret
    exact ⟨rfl, B⟩
  by_cases z2 : (200 : Int) < (lb : Int)
  ·
    go_enter Tryd.func5, Tryd.ntmps5
    go_wp2_with fail
    have B := Below.refl w.heap.size w
    refine (head_any _ hG).mono ?_; rintro e w1 ⟨rfl, hb⟩
    replace hG := hG.below hb
    replace B := B.trans (hb.mono (by have := B.size; simp <;> omega))
    clear hb
    go_wp2_with fail
    go_ret
    exact ⟨rfl, B⟩
  by_cases z3 : (200 : Int) < (lm : Int)
  ·
    go_enter Tryd.func5, Tryd.ntmps5
    go_wp2_with fail
    have B := Below.refl w.heap.size w
    refine (head_any _ hG).mono ?_; rintro e w1 ⟨rfl, hb⟩
    replace hG := hG.below hb
    replace B := B.trans (hb.mono (by have := B.size; simp <;> omega))
    clear hb
    go_wp2_with fail
    go_ret
    exact ⟨rfl, B⟩
  obtain ⟨s1, hs1⟩ : ∃ q, Dg.sum a = q := ⟨_, rfl⟩
  obtain ⟨s2, hs2⟩ : ∃ q, Dg.sum b = q := ⟨_, rfl⟩
  obtain ⟨s3, hs3⟩ : ∃ q, Dg.sum (a ++ m) = q := ⟨_, rfl⟩
  obtain ⟨s4, hs4⟩ : ∃ q, Dg.sum (b ++ m) = q := ⟨_, rfl⟩
  rw [hs1, hs2, hs3, hs4] at hBe
  have HS1 := Lib.hid hs1
  have HS2 := Lib.hid hs2
  have HS3 := Lib.hid hs3
  have HS4 := Lib.hid hs4
  have hE : (((s1 : Int) == (s2 : Int)) == ((s3 : Int) == (s4 : Int))) = true := by
    by_cases h : s1 = s2
    · rw [← h, ← hBe.1 h]; simp
    · have h' : s3 ≠ s4 := fun e => h (hBe.2 e)
      have e1 : ((s1 : Int) == (s2 : Int)) = false := by simp; omega
      have e2 : ((s3 : Int) == (s4 : Int)) = false := by simp; omega
      rw [e1, e2]; rfl
  clear hs1 hs2 hs3 hs4 hBe
  obtain ⟨i0, hi, hz0, hz1, hz2⟩ := info_parts infoByte
  go_enter Tryd.func5, Tryd.ntmps5
  go_wp2_with fail
  have B := Below.refl w.heap.size w
  refine (head_any _ hG).mono ?_; rintro e w1 ⟨rfl, hb⟩
  replace hL := hL.below hb
  replace hR := hR.below hb
  replace hS := hS.below hb
  replace hG := hG.below hb
  replace B := B.trans (hb.mono (by have := B.size; simp <;> omega))
  clear hb
  have HL := Lib.hid hL
  have HR := Lib.hid hR
  have HS := Lib.hid hS
  go_wp2_with (first | (at_builtin; refine append_sln .u8 rfl _ _ 22 rfl w1.heap.size 5 i0 (.int .u8 0) 1 Tryd.underlying22 hi hz0 hz1 hz2 rfl (.slice (some ⟨w1.heap.size, 0, none⟩) 0 0) 0 [] rfl (World.ownsRow_made _ #[] 0 (Nat.le_refl _) (by unfold maxLen; omega) rfl) A la ca a rfl HA.out HNa.out (HL.out.alloc _) (by unfold maxLen; omega) (by omega) (by simp) ?_; intro v4 w4 hown4 hgrow4; rw [Nat.zero_add, List.nil_append] at hown4; have B4 : Below w1.heap.size w1 w4 := ((Below.refl _ w1).alloc (Nat.le_refl _) _).grown hgrow4 (by simp) (fun j hj => by cases hj; exact Nat.le_refl _)) | (at_builtin; refine append_sln .u8 rfl _ _ 22 rfl w1.heap.size 5 i0 (.int .u8 0) 1 Tryd.underlying22 hi hz0 hz1 hz2 rfl v4 la (vN .u8 a) rfl hown4 M lm cm m rfl HM.out HNm.out (HS.out.below B4) (by unfold maxLen; omega) (by omega) (by have := B4.size; omega) ?_; intro v5 w5 hown5 hgrow5; rw [← vN_app] at hown5; have B5 : Below w1.heap.size w1 w5 := B4.grown hgrow5 (by have := B4.size; omega) (own_ne hown4); obtain ⟨hl5, X, cX, rfl, SX⟩ := own_n hown5; have HSX := Lib.hid SX) | (at_builtin; refine append_sln .u8 rfl _ _ 22 rfl w5.heap.size 5 i0 (.int .u8 0) 1 Tryd.underlying22 hi hz0 hz1 hz2 rfl (.slice (some ⟨w5.heap.size, 0, none⟩) 0 0) 0 [] rfl (World.ownsRow_made _ #[] 0 (Nat.le_refl _) (by unfold maxLen; omega) rfl) B0 lb cb b rfl HB.out HNb.out ((HR.out.below B5).alloc _) (by unfold maxLen; omega) (by omega) (by simp) ?_; intro v6 w6 hown6 hgrow6; rw [Nat.zero_add, List.nil_append] at hown6; have B6 : Below w5.heap.size w5 w6 := ((Below.refl _ w5).alloc (Nat.le_refl _) _).grown hgrow6 (by simp) (fun j hj => by cases hj; exact Nat.le_refl _)) | (at_builtin; refine append_sln .u8 rfl _ _ 22 rfl w5.heap.size 5 i0 (.int .u8 0) 1 Tryd.underlying22 hi hz0 hz1 hz2 rfl v6 lb (vN .u8 b) rfl hown6 M lm cm m rfl HM.out HNm.out ((HS.out.below B5).below B6) (by unfold maxLen; omega) (by omega) (by have := B6.size; omega) ?_; intro v7 w7 hown7 hgrow7; rw [← vN_app] at hown7; have B7 : Below w5.heap.size w5 w7 := B6.grown hgrow7 (by have := B6.size; omega) (own_ne hown6); obtain ⟨hl7, Y, cY, rfl, SY⟩ := own_n hown7) | fail)
  have hb := B5.trans (B7.mono B5.size)
  have SX := HSX.out.below B7
  clear HSX B4 B5 B6 B7 hown4 hown5 hown6 hown7 hgrow4 hgrow5 hgrow6 hgrow7 HL HR HS hl5 hl7
  replace hL := hL.below hb
  replace hR := hR.below hb
  replace hS := hS.below hb
  replace hG := hG.below hb
  replace B := B.trans (hb.mono (by have := B.size; simp <;> omega))
  clear hb
  refine (dsum_is a la ca A s1 HS1.out HNa.out HA8.out (by omega) _ hL hG).mono ?_; rintro e w8 ⟨rfl, hb⟩
  replace hL := hL.below hb
  replace hR := hR.below hb
  replace hS := hS.below hb
  replace SX := SX.below hb
  replace SY := SY.below hb
  replace hG := hG.below hb
  replace B := B.trans (hb.mono (by have := B.size; simp <;> omega))
  clear hb
  go_wp2_with fail
  refine (dsum_is b lb cb B0 s2 HS2.out HNb.out HB8.out (by omega) _ hR hG).mono ?_; rintro e w9 ⟨rfl, hb⟩
  replace hL := hL.below hb
  replace hR := hR.below hb
  replace hS := hS.below hb
  replace SX := SX.below hb
  replace SY := SY.below hb
  replace hG := hG.below hb
  replace B := B.trans (hb.mono (by have := B.size; simp <;> omega))
  clear hb
  go_wp2_with fail
  refine (dsum_is (a ++ m) (la + lm) cX X s3 HS3.out HXl.out HX8.out (by omega) _ SX hG).mono ?_; rintro e w10 ⟨rfl, hb⟩
  replace hL := hL.below hb
  replace hR := hR.below hb
  replace hS := hS.below hb
  replace SX := SX.below hb
  replace SY := SY.below hb
  replace hG := hG.below hb
  replace B := B.trans (hb.mono (by have := B.size; simp <;> omega))
  clear hb
  go_wp2_with fail
  refine (dsum_is (b ++ m) (lb + lm) cY Y s4 HS4.out HYl.out HY8.out (by omega) _ SY hG).mono ?_; rintro e w11 ⟨rfl, hb⟩
  replace hL := hL.below hb
  replace hR := hR.below hb
  replace hS := hS.below hb
  replace SX := SX.below hb
  replace SY := SY.below hb
  replace hG := hG.below hb
  replace B := B.trans (hb.mono (by have := B.size; simp <;> omega))
  clear hb
  go_wp2_with fail
  go_ret
  exact ⟨rfl, B⟩
end Go.Proofs.YtmpimbolhjmapaaDoor
