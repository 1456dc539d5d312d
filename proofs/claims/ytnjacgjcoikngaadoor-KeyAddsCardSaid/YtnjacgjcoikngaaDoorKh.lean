/- The walk of the laws' head: the chapter's examples. -/
import Derived.Test.YtnjacgjcoikngaaDoorKq
import Derived.Test.YtnjacgjcoikngaaDoorKw
namespace Go.Proofs.YtnjacgjcoikngaaDoor
open Go.RowKit

theorem SlI.alloc {w : World} {A : Option Addr} {g : List Int} (h : SlI w A g) (o : Obj) : SlI (w.alloc o) A g := h.below ((Below.refl _ _).alloc (Nat.le_refl _) _)
theorem SlP.alloc {w : World} {A : Option Addr} {l : List Ky.P3} (h : SlP w A l) (o : Obj) : SlP (w.alloc o) A l := h.below ((Below.refl _ _).alloc (Nat.le_refl _) _)
theorem SlI.take {w : World} {A : Option Addr} {g : List Int} (h : SlI w A g) (n : Nat) : SlI w A (g.take n) := fun h0 => by
  have hlen : 0 < g.length := by simp at h0; omega
  obtain ⟨b, off, e, hb, hc⟩ := h hlen
  refine ⟨b, off, e, hb, fun k hk => ?_⟩
  simp at hk
  rw [hc k (by omega)]
  unfold Ky.atI
  rw [List.getElem?_take, if_pos (by omega)]

def hl : List Ky.P3 := [(3, 1, 4), (3, 0, 4), (3, 0, 4), (3, 0, 5), (3, 1, 4)]
def hg : List Int := [0, 10, 0, 10, 11]
theorem h_a1 : Ky.altR 2 0 = (1, 0) := by decide +kernel
theorem h_a2 : Ky.altR (-1) 6 = (-1, 0) := by decide +kernel
theorem h_a3 : Ky.altR 8 0 = (0, 1) := by decide +kernel
theorem h_m1 : Ky.moveR 6 1 2 = (-4, 2, 2, 0) := by decide +kernel
theorem h_m2 : Ky.moveR 0 71 120 = (0, 0, 0, 1) := by decide +kernel
theorem h_f1 : Ky.fifR 4 7 = (1, 0) := by decide +kernel
theorem h_s1 : Ky.signR 1 hl = (hg, 0) := by decide +kernel
theorem h_r1 : Ky.readR 1 hl hg = (hl, 0) := by decide +kernel
theorem h_r2 : Ky.readR 1 hl (hg.take 4) = ([], 1) := by decide +kernel
theorem h_new (w : World) (t : TypeId) : SlP (w.alloc (.cells #[.int .i64 3, .int .i64 1, .int .i64 4, .int .i64 3, .int .i64 0, .int .i64 4, .int .i64 3, .int .i64 0, .int .i64 4, .int .i64 3, .int .i64 0, .int .i64 5, .int .i64 3, .int .i64 1, .int .i64 4] t)) (some ⟨w.heap.size, 0, none⟩) hl := fun _ =>
  ⟨w.heap.size, 0, rfl, by simp, fun k hk => by
    have : k = 0 ∨ k = 1 ∨ k = 2 ∨ k = 3 ∨ k = 4 := by have : hl.length = 5 := rfl; omega
    rcases this with rfl | rfl | rfl | rfl | rfl
    all_goals
      refine ⟨?_, ?_, ?_⟩
      all_goals
        refine (?_ : _ = some _)
        simp [hl, Ky.at3]⟩
theorem h_newI (w : World) (t : TypeId) : SlI (w.alloc (.cells #[.int .i64 0, .int .i64 10, .int .i64 0, .int .i64 10, .int .i64 11] t)) (some ⟨w.heap.size, 0, none⟩) hg := fun _ =>
  ⟨w.heap.size, 0, rfl, by simp, fun k hk => by
    have : k = 0 ∨ k = 1 ∨ k = 2 ∨ k = 3 ∨ k = 4 := by have : hg.length = 5 := rfl; omega
    rcases this with rfl | rfl | rfl | rfl | rfl
    all_goals simp [hg, Ky.atI]⟩
theorem hg_wf {n : Nat} : ∀ x ∈ hg.take n, -9223372036854775808 ≤ x ∧ x ≤ 9223372036854775807 := fun x hx => by
  have := List.mem_of_mem_take hx
  simp [hg] at this
  omega

set_option maxHeartbeats 1600000 in
set_option maxRecDepth 100000 in
theorem head_any (w : World) (hG : GK w) :
    Calls Tryd.prog 9 #[] w fun e w' => e = .returned (.bool true) ∧ Below w.heap.size w w' := by
  go_enter Tryd.func9, Tryd.ntmps9
  go_wp2_with fail
  have B := Below.refl w.heap.size w
  refine (alter_is _ _ _ _ h_a1 _ hG).mono ?_; rintro e w1 ⟨rfl, hb⟩
  replace hG := hG.below hb
  replace B := B.trans (hb.mono (by have := B.size; simp <;> omega))
  clear hb
  go_wp2_with fail
  refine (alter_is _ _ _ _ h_a2 _ hG).mono ?_; rintro e w2 ⟨rfl, hb⟩
  replace hG := hG.below hb
  replace B := B.trans (hb.mono (by have := B.size; simp <;> omega))
  clear hb
  go_wp2_with fail
  refine (move_is _ _ _ _ _ _ _ h_m1 _).mono ?_; rintro e w3 ⟨rfl, hb⟩
  replace hG := hG.below hb
  replace B := B.trans (hb.mono (by have := B.size; simp <;> omega))
  clear hb
  go_wp2_with fail
  have L := h_new (w3.alloc (.cells #[.int .i64 2, .int .i64 2] 23)) 44
  simp only [World.size_alloc] at L
  refine (signs_is _ _ _ _ 5 5 _ h_s1 rfl (by omega) _ ((hG.alloc _).alloc _) L).mono ?_; rintro e w4 ⟨D1, c1, rfl, S1, k1, hb⟩
  have x := ((At2.new _ (2) (2) _).alloc _).below hb
  have L := L.below hb
  replace hG := ((hG.alloc _).alloc _).below hb
  replace B := ((B.alloc (by have := B.size; simp <;> omega) _).alloc (by have := B.size; simp <;> omega) _).trans (hb.mono (by have := B.size; simp <;> omega))
  clear hb
  obtain ⟨b1, o1, rfl, -, -⟩ := S1 (by decide)
  change SlI _ _ hg at S1
  simp only [show hg.length = 5 from rfl] at k1 ⊢
  go_wp2_with fail
  refine (read_is _ _ hg _ _ 5 5 5 _ _ _ h_r1 rfl rfl (by omega) (by omega) (hg_wf (n := 5)) _ hG L S1).mono ?_; rintro e w5 ⟨D2, c2, rfl, L2, hb⟩
  replace x := x.below hb
  replace L := L.below hb
  replace S1 := S1.below hb
  replace hG := hG.below hb
  replace B := B.trans (hb.mono (by have := B.size; simp <;> omega))
  clear hb
  simp only [show hl.length = 5 from rfl]
  go_wp2_with fail
  refine (fifths_is _ _ _ _ h_f1 _).mono ?_; rintro e w6 ⟨rfl, hb⟩
  replace x := x.below hb
  replace L := L.below hb
  replace S1 := S1.below hb
  replace L2 := L2.below hb
  replace hG := hG.below hb
  replace B := B.trans (hb.mono (by have := B.size; simp <;> omega))
  clear hb
  go_wp2_with fail
  refine (alter_is _ _ _ _ h_a3 _ hG).mono ?_; rintro e w7 ⟨rfl, hb⟩
  replace x := x.below hb
  replace L := L.below hb
  replace S1 := S1.below hb
  replace L2 := L2.below hb
  replace hG := hG.below hb
  replace B := B.trans (hb.mono (by have := B.size; simp <;> omega))
  clear hb
  go_wp2_with fail
  refine (read_is _ _ (hg.take 4) _ _ 5 5 4 _ _ _ h_r2 rfl rfl (by omega) (by omega) hg_wf _ hG L (S1.take 4)).mono ?_; rintro e w8 ⟨D3, c3, rfl, -, hb⟩
  replace x := x.below hb
  replace L := L.below hb
  replace S1 := S1.below hb
  replace L2 := L2.below hb
  replace hG := hG.below hb
  replace B := B.trans (hb.mono (by have := B.size; simp <;> omega))
  clear hb
  go_wp2_with fail
  refine (move_is _ _ _ _ _ _ _ h_m2 _).mono ?_; rintro e w9 ⟨rfl, hb⟩
  replace x := x.below hb
  replace L := L.below hb
  replace S1 := S1.below hb
  replace L2 := L2.below hb
  replace hG := hG.below hb
  replace B := B.trans (hb.mono (by have := B.size; simp <;> omega))
  clear hb
  have lx := x.lt; have cx0 := x.c0; have cx1 := x.c1
  go_wp2_with fail
  have I := h_newI (w9.alloc (.cells #[.int .i64 0, .int .i64 0] 23)) 3
  simp only [World.size_alloc] at I
  refine (ksameInts_is hg 5 c1 5 _ _ rfl (by omega) _ ((S1.alloc _).alloc _) I).mono ?_; rintro e w10 ⟨rfl, hb⟩
  replace x := ((x.alloc _).alloc _).below hb
  replace L := ((L.alloc _).alloc _).below hb
  replace S1 := ((S1.alloc _).alloc _).below hb
  replace L2 := ((L2.alloc _).alloc _).below hb
  have I := I.below hb
  replace hG := ((hG.alloc _).alloc _).below hb
  replace B := ((B.alloc (by have := B.size; simp <;> omega) _).alloc (by have := B.size; simp <;> omega) _).trans (hb.mono (by have := B.size; simp <;> omega))
  clear hb lx cx0 cx1
  go_wp2_with fail
  refine (ksame_is hl 5 5 c2 _ _ rfl (by omega) _ L L2).mono ?_; rintro e w11 ⟨rfl, hb⟩
  replace x := x.below hb
  replace L := L.below hb
  replace S1 := S1.below hb
  replace L2 := L2.below hb
  replace I := I.below hb
  replace hG := hG.below hb
  replace B := B.trans (hb.mono (by have := B.size; simp <;> omega))
  clear hb
  go_wp2_with fail
  go_ret
  exact ⟨rfl, B⟩
end Go.Proofs.YtnjacgjcoikngaaDoor
