/- The walk of the laws' head: the chapter's examples. -/
import Derived.Test.YtnnhpbkhfaaaeaaEi
import Derived.Lib.SmallJoins
namespace Go.Proofs.Ytnnhpbkhfaaaeaa
open Go.RowKit

theorem SlN.fresh (k : IntKind) (w : World) (t : TypeId) (g : List Nat) : SlN k (w.alloc (.cells (vN k g).toArray t)) (some ⟨w.heap.size, 0, none⟩) g := fun _ =>
  ⟨w.heap.size, 0, rfl, by simp, fun i hi => by
    rw [Nat.zero_add]
    unfold World.cell?
    rw [heap_alloc_new]
    simpa using vN_at hi⟩
theorem SlK.fresh (k : IntKind) (w : World) (t : TypeId) (g : List Int) : SlK k (w.alloc (.cells (vK k g).toArray t)) (some ⟨w.heap.size, 0, none⟩) g := fun _ =>
  ⟨w.heap.size, 0, rfl, by simp, fun i hi => by
    rw [Nat.zero_add]
    unfold World.cell?
    rw [heap_alloc_new]
    simpa using vK_at hi⟩
/-- '[][]int{{5}}', the list already made. -/
theorem h_lists (w : World) (t : TypeId) {B : Nat} (h : SlK .i64 w (some ⟨B, 0, none⟩) [5]) : SlL (w.alloc (.cells #[.slice (some ⟨B, 0, none⟩) 1 1] t)) (some ⟨w.heap.size, 0, none⟩) [[5]] := fun _ =>
  ⟨w.heap.size, 0, rfl, by simp, fun i hi => by
    have : i = 0 := by simp at hi; omega
    subst this
    rw [Nat.zero_add]
    unfold World.cell?
    rw [heap_alloc_new]
    exact ⟨some ⟨B, 0, none⟩, 1, rfl, h.alloc _, fun h => by cases h⟩⟩
namespace Cd
theorem one_small {n : Int} (h : zz n < 128) : one n = [zz n] := vb_small h
theorem h_64 : one 64 = [128, 1] := by unfold one; rw [show zz 64 = 128 from rfl, vb_more (by omega), vb_small (by omega)]
theorem h_put : put [0, -1, 64] = [6, 0, 1, 128, 1] := by
  unfold put ones
  rw [List.flatMap_cons, List.flatMap_cons, List.flatMap_cons, List.flatMap_nil, h_64, one_small (n := 0) (by decide), one_small (n := -1) (by decide), one_small (by decide)]
  rfl
theorem h_put5 : put [5] = [2, 10] := by
  unfold put ones
  rw [List.flatMap_cons, List.flatMap_nil, one_small (n := 5) (by decide), one_small (by decide)]
  rfl
theorem h_get : get [2, 128, 0] = none := by decide
theorem h_frame : frame [5] = [0, 0, 2, 2, 10] ++ Dg.be8 (Dg.sum [0, 0, 2, 2, 10]) := by
  unfold frame body
  rw [h_put5]
  rfl
theorem h_ok : ok [5] := ⟨by decide, fun n hn => by simp at hn; subst hn; unfold wd; omega⟩
theorem h_frs : fr (frame [5] ++ [0, 0]) = ([[5]], 13) := by
  rw [fr_frame h_ok, fr_none (b := [0, 0]) (by unfold whole; rfl), frame_len, h_put5]
  rfl
theorem h_by : by8 [2, 128, 0] := fun x hx => by simp at hx; omega
theorem h_by2 : by8 [0, 0] := fun x hx => by simp at hx; omega
theorem h_wds : wds [0, -1, 64] := fun n hn => by simp at hn; unfold wd; omega
end Cd

set_option maxHeartbeats 1600000 in
theorem head_any (w : World) :
    Calls Try.prog 9 #[] w fun e w' => e = .returned (.bool true) ∧ Below w.heap.size w w' := by
  obtain ⟨T, hT⟩ : ∃ T, Cd.frame [5] = T := ⟨_, rfl⟩
  have HT13 : Hid (T.length = 13) := Lib.hid (by rw [← hT, Cd.frame_len, Cd.h_put5]; rfl)
  have HT5 : Hid (T.take 5 = [0, 0, 2, 2, 10]) := Lib.hid (by rw [← hT, Cd.h_frame]; rfl)
  have HTB : Hid (Cd.by8 T) := Lib.hid (by rw [← hT]; exact Cd.frame_by8 Cd.h_ok)
  have HFR : Hid (Cd.fr (T ++ [0, 0]) = ([[5]], 13)) := Lib.hid (by rw [← hT]; exact Cd.h_frs)
  have HFT := Lib.hid hT
  clear hT
  obtain ⟨i0, hi, hz0, hz1, hz2⟩ := info_parts infoByte
  go_enter Try.func9, Try.ntmps9
  go_wp2_with fail
  have B := Below.refl w.heap.size w
  refine (put_is [0, -1, 64] [6, 0, 1, 128, 1] 5 3 3 _ Cd.h_put rfl rfl (by omega) Cd.h_wds _ (SlK.fresh .i64 _ _ [0, -1, 64])).mono ?_; rintro e w1 ⟨Da, ca, rfl, Sa, hDa, hca, hb⟩
  have L := (SlK.fresh .i64 _ _ [0, -1, 64]).below hb
  replace B := (B.alloc (by have := B.size; simp <;> omega) _).trans (hb.mono (by have := B.size; simp <;> omega))
  clear hb
  go_wp2_with fail
  clear L
  refine (get_is [2, 128, 0] none 3 3 _ Cd.h_get rfl Cd.h_by (by omega) _ (SlN.fresh .u8 _ _ [2, 128, 0])).mono ?_; rintro e w2 ⟨rfl, hb⟩
  replace Sa := (Sa.alloc _).below hb
  have L := (SlN.fresh .u8 _ _ [2, 128, 0]).below hb
  replace B := (B.alloc (by have := B.size; simp <;> omega) _).trans (hb.mono (by have := B.size; simp <;> omega))
  clear hb
  go_wp2_with fail
  clear L
  refine (frame_is [5] T 13 1 1 _ HFT.out HT13.out rfl Cd.h_ok _ (SlK.fresh .i64 _ _ [5])).mono ?_; rintro e w3 ⟨Dc, cc, rfl, Sc, hDc, hcc, hb⟩
  replace Sa := (Sa.alloc _).below hb
  have L := (SlK.fresh .i64 _ _ [5]).below hb
  replace B := (B.alloc (by have := B.size; simp <;> omega) _).trans (hb.mono (by have := B.size; simp <;> omega))
  clear hb
  clear L
  obtain ⟨cb, co, rfl, _⟩ := Sc (by rw [HT13.out]; omega)
  have hw3 : ∃ W3, W3 = w3 := ⟨_, rfl⟩
  clear hw3
  go_wp2_with (first | (at_builtin; refine append_sln .u8 rfl _ _ 23 rfl w3.heap.size 5 i0 (.int .u8 0) 1 Try.underlying23 hi hz0 hz1 hz2 rfl (.slice (some ⟨w3.heap.size, 0, none⟩) 0 0) 0 (vN .u8 []) rfl (World.ownsRow_lit (size := 1) w3 #[] 0 (Nat.le_refl _) (by unfold maxLen; omega) rfl) (some ⟨cb, co, none⟩) 13 cc T rfl hDc HT13.out (Sc.alloc _) (by unfold maxLen; omega) (by omega) (by simp) ?_; intro v4 w4 hown4 hgrow4; rw [← vN_app, List.nil_append, Nat.zero_add] at hown4; have B4 : Below w3.heap.size w3 w4 := ((Below.refl _ w3).alloc (Nat.le_refl _) _).grown hgrow4 (by simp) (fun j hj => by cases hj; exact Nat.le_refl _)) | (at_builtin; refine append_sln .u8 rfl _ _ 23 rfl w3.heap.size 5 i0 (.int .u8 0) 1 Try.underlying23 hi hz0 hz1 hz2 rfl _ 13 (vN .u8 T) rfl (hown4.alloc _) (some ⟨w4.heap.size, 0, none⟩) 2 2 [0, 0] rfl (fun e => by cases e) rfl (SlN.fresh .u8 _ _ [0, 0]) (by unfold maxLen; omega) (by omega) (by have := B4.size; simp; omega) ?_; intro v5 w5 hown5 hgrow5; rw [← vN_app] at hown5; obtain ⟨hl5, D5, c5, rfl, S5, hD5⟩ := own_b hown5; have hc5 := own_cap hown5; have B5 : Below w3.heap.size w3 w5 := (B4.alloc B4.size _).grown hgrow5 (by have := B4.size; simp; omega) (own_ne hown4); clear hown4 hgrow4 hown5 hgrow5 hD5) | fail)
  replace Sa := Sa.below B5
  have Sk := (Sc.below B5).take 5
  rw [HT5.out] at Sk
  replace B := B.trans (B5.mono B.size)
  clear B4 B5 hi hz0 hz1 hz2 i0 Sc
  refine (frames_is (T ++ [0, 0]) [[5]] 13 1 15 c5 D5 HFR.out rfl hl5 hc5 (HTB.out.app Cd.h_by2) (by omega) _ S5).mono ?_; rintro e w6 ⟨Dl, cl, rfl, Sl, hDl, hcl, hb⟩
  replace Sa := Sa.below hb
  replace Sk := Sk.below hb
  replace B := B.trans (hb.mono (by have := B.size; simp <;> omega))
  clear hb
  go_wp2_with fail
  clear S5
  refine (ksameBytes_is [6, 0, 1, 128, 1] [6, 0, 1, 128, 1] true _ _ _ _ _ _ (by decide) rfl rfl (by decide) (by decide) _ (Sa.alloc _) (SlN.fresh .u8 _ _ [6, 0, 1, 128, 1])).mono ?_; rintro e w7 ⟨rfl, hb⟩
  replace Sa := (Sa.alloc _).below hb
  replace Sk := (Sk.alloc _).below hb
  replace Sl := (Sl.alloc _).below hb
  have L := (SlN.fresh .u8 _ _ [6, 0, 1, 128, 1]).below hb
  replace B := (B.alloc (by have := B.size; simp <;> omega) _).trans (hb.mono (by have := B.size; simp <;> omega))
  clear hb
  clear L Sa
  have h5c : (5 : Nat) ≤ cc := by omega
  go_wp2_with fail
  refine (ksameBytes_is [0, 0, 2, 2, 10] [0, 0, 2, 2, 10] true _ _ _ _ _ _ (by decide) rfl rfl (by decide) (by decide) _ (Sk.alloc _) (SlN.fresh .u8 _ _ [0, 0, 2, 2, 10])).mono ?_; rintro e w8 ⟨rfl, hb⟩
  replace Sk := (Sk.alloc _).below hb
  replace Sl := (Sl.alloc _).below hb
  have L := (SlN.fresh .u8 _ _ [0, 0, 2, 2, 10]).below hb
  replace B := (B.alloc (by have := B.size; simp <;> omega) _).trans (hb.mono (by have := B.size; simp <;> omega))
  clear hb
  clear L Sk
  go_wp2_with fail
  have M : SlL ((w8.alloc (.cells #[.int .i64 5] 3)).alloc (.cells #[.slice (some ⟨w8.heap.size, 0, none⟩) 1 1] 22)) (some ⟨w8.heap.size + 1, 0, none⟩) [[5]] := by
    have := h_lists (w8.alloc (.cells #[.int .i64 5] 3)) 22 (SlK.fresh .i64 w8 3 [5])
    rwa [World.size_alloc] at this
  refine (ksameLists_is [[5]] [[5]] true 1 _ 1 _ _ _ (by decide) rfl rfl (by omega) (by decide) _ ((Sl.alloc _).alloc _) M).mono ?_; rintro e w9 ⟨rfl, hb⟩
  replace Sl := ((Sl.alloc _).alloc _).below hb
  replace B := ((B.alloc (by have := B.size; simp <;> omega) _).alloc (by have := B.size; simp <;> omega) _).trans (hb.mono (by have := B.size; simp <;> omega))
  clear hb
  go_wp2_with fail
  clear Sl
  go_ret
  exact ⟨rfl, B⟩
end Go.Proofs.Ytnnhpbkhfaaaeaa
