/- The walk of the laws' head: the chapter's examples. -/
import Derived.Test.YtmpimbolhjmapaaDoorDw
import Derived.Test.YtmpimbolhjmapaaDoorGn
import Derived.Lib.SmallJoins
namespace Go.Proofs.YtmpimbolhjmapaaDoor
open Go.RowKit

theorem SlN.fresh (k : IntKind) (w : World) (t : TypeId) (g : List Nat) (fr : Nat × Nat) : SlN k (w.alloc (.cells (vN k g).toArray t fr)) (some ⟨w.heap.size, 0, none⟩) g := fun _ =>
  ⟨w.heap.size, 0, rfl, by simp, fun i hi => by
    rw [Nat.zero_add]
    unfold World.cell?
    rw [heap_alloc_new]
    simpa using vN_at hi⟩
theorem SlK.fresh (k : IntKind) (w : World) (t : TypeId) (g : List Int) : SlK k (w.alloc (.cells (vK k g).toArray t)) (some ⟨w.heap.size, 0, none⟩) g := fun _ =>
  ⟨w.heap.size, 0, rfl, by simp, fun i hi => by
    rw [Nat.zero_add]
    unfold World.cell?
    rw [heap_alloc_new]
    simpa using vK_at hi⟩
/-- '[][]int{{7}, nil}', the first list already made. -/
theorem h_lists (w : World) (t : TypeId) {B : Nat} (h : SlK .i64 w (some ⟨B, 0, none⟩) [7]) : SlL (w.alloc (.cells #[.slice (some ⟨B, 0, none⟩) 1 1, .slice none 0 0] t)) (some ⟨w.heap.size, 0, none⟩) [[7], []] := fun _ =>
  ⟨w.heap.size, 0, rfl, by simp, fun i hi => by
    have : i = 0 ∨ i = 1 := by simp at hi; omega
    rw [Nat.zero_add]
    unfold World.cell?
    rw [heap_alloc_new]
    rcases this with rfl | rfl
    · exact ⟨some ⟨B, 0, none⟩, 1, rfl, h.alloc _, fun h => by cases h⟩
    · exact ⟨none, 0, rfl, SlK.nil _ _ _, fun _ => rfl⟩⟩
namespace Dg
theorem h_a : sum [97] = 12638187200555641996 := by decide +kernel
theorem h_f : sum [102, 111, 111, 98, 97, 114] = 9625390261332436968 := by decide +kernel
theorem dec5 : dec 5 = [53] := by rw [dec_pos (by omega)]; unfold dR; rw [if_neg (by decide), show (5 : Int).natAbs = 5 from rfl, Lib.decDigits_one (by omega)]; rfl
theorem dec1 : dec (-1) = [45, 49] := by rw [dec_neg (by omega)]; unfold dR; rw [if_neg (by decide), show (-1 : Int).natAbs = 1 from rfl, Lib.decDigits_one (by omega)]; rfl
theorem h_t : txt 97 [5, -1] = [0, 0, 0, 0, 0, 0, 0, 97, 53, 32, 45, 49, 32] := by
  unfold txt
  rw [txs_cons, txs_cons, dec5, dec1]
  rfl
theorem h_n : next 97 [5, -1] = sum [0, 0, 0, 0, 0, 0, 0, 97, 53, 32, 45, 49, 32] := by unfold next; rw [h_t]
theorem h_c : chain [[7], []] = next (next beg [1, 7]) [0] := by
  unfold chain
  rw [List.foldl_cons, List.foldl_cons, List.foldl_nil, show (([7] : List Int).length : Int) = 1 from rfl, show (([] : List Int).length : Int) = 0 from rfl]
theorem beg_int : ((beg : Nat) : Int) = 14695981039346656037 := rfl
end Dg

theorem head_next (w : World) (q c : Nat) (A : Option Addr) (h : Dg.next Dg.beg [1, 7] = q) (hG : GK w) (hL : SlK .i64 w A [1, 7]) :
    Calls Tryd.prog 13 #[.int .u64 14695981039346656037, .slice A 2 c] w fun e w' => e = .returned (.int .u64 (q : Int)) ∧ Below w.heap.size w w' := by
  have := dnext_is Dg.beg [1, 7] q 2 c A h (by decide) rfl (by omega) (by decide) w hL hG
  rwa [Dg.beg_int] at this

set_option maxHeartbeats 1600000 in
theorem head_any (w : World) (hG : GK w) :
    Calls Tryd.prog 9 #[] w fun e w' => e = .returned (.bool true) ∧ Below w.heap.size w w' := by
  obtain ⟨q, h1⟩ : ∃ q, Dg.next 97 [5, -1] = q := ⟨_, rfl⟩
  have h2 := Dg.h_n.symm.trans h1
  obtain ⟨q1, h3⟩ : ∃ q1, Dg.next Dg.beg [1, 7] = q1 := ⟨_, rfl⟩
  have h3l : q1 < 18446744073709551616 := by rw [← h3]; exact Dg.next_lt _ _
  obtain ⟨q2, h4⟩ : ∃ q2, Dg.next q1 [0] = q2 := ⟨_, rfl⟩
  have h5 : Dg.chain [[7], []] = q2 := by rw [Dg.h_c, h3, h4]
  obtain ⟨q3, h6⟩ : ∃ q3, Dg.sum [] = q3 := ⟨_, rfl⟩
  have h9 : Dg.chain [] = q3 := h6
  have t6 : ((q3 : Int) == 14695981039346656037) = true := by rw [← h6]; rfl
  obtain ⟨q4, h7⟩ : ∃ q4, Dg.sum [97] = q4 := ⟨_, rfl⟩
  have t7 : ((q4 : Int) == 12638187200555641996) = true := by rw [← h7, Dg.h_a]; rfl
  obtain ⟨q5, h8⟩ : ∃ q5, Dg.sum [102, 111, 111, 98, 97, 114] = q5 := ⟨_, rfl⟩
  have t8 : ((q5 : Int) == 9625390261332436968) = true := by rw [← h8, Dg.h_f]; rfl
  go_enter Tryd.func9, Tryd.ntmps9
  go_wp2_with fail
  have B := Below.refl w.heap.size w
  refine (dsum_is [] 0 0 none _ h6 rfl (by simp) (by omega) _ (SlN.nil _ _ _) hG).mono ?_; rintro e w1 ⟨rfl, hb⟩
  replace hG := hG.below hb
  replace B := B.trans (hb.mono (by have := B.size; simp <;> omega))
  clear hb
  have hcv := Go.Joins.run_convert_bytes_const_at (P := Tryd.prog) w1 22 5 #[.int .u8 97] 1 1 w1.heap.size rfl Tryd.underlying22 Tryd.underlying5
  simp only [List.size_toArray, List.length_cons, List.length_nil, Nat.zero_add, Nat.reduceAdd] at hcv
  go_wp2_with fail
  clear hcv
  refine (dsum_is [97] 1 _ _ _ h7 rfl (by decide) (by omega) _ (SlN.fresh .u8 _ _ [97] _) (hG.alloc _)).mono ?_; rintro e w2 ⟨rfl, hb⟩
  have L := (SlN.fresh .u8 _ _ [97] _).below hb
  replace hG := (hG.alloc _).below hb
  replace B := (B.alloc (by have := B.size; simp <;> omega) _).trans (hb.mono (by have := B.size; simp <;> omega))
  clear hb
  clear L
  have hcv := Go.Joins.run_convert_bytes_const_at (P := Tryd.prog) w2 22 5 #[.int .u8 102, .int .u8 111, .int .u8 111, .int .u8 98, .int .u8 97, .int .u8 114] 6 6 w2.heap.size rfl Tryd.underlying22 Tryd.underlying5
  simp only [List.size_toArray, List.length_cons, List.length_nil, Nat.zero_add, Nat.reduceAdd] at hcv
  go_wp2_with fail
  clear hcv
  refine (dsum_is [102, 111, 111, 98, 97, 114] 6 _ _ _ h8 rfl (by decide) (by omega) _ (SlN.fresh .u8 _ _ [102, 111, 111, 98, 97, 114] _) (hG.alloc _)).mono ?_; rintro e w3 ⟨rfl, hb⟩
  have L := (SlN.fresh .u8 _ _ [102, 111, 111, 98, 97, 114] _).below hb
  replace hG := (hG.alloc _).below hb
  replace B := (B.alloc (by have := B.size; simp <;> omega) _).trans (hb.mono (by have := B.size; simp <;> omega))
  clear hb
  clear L
  go_wp2_with fail
  refine (dnext_is 97 [5, -1] q 2 _ _ h1 (by omega) rfl (by omega) (by decide) _ (SlK.fresh .i64 _ _ [5, -1]) (hG.alloc _)).mono ?_; rintro e w4 ⟨rfl, hb⟩
  have L := (SlK.fresh .i64 _ _ [5, -1]).below hb
  replace hG := (hG.alloc _).below hb
  replace B := (B.alloc (by have := B.size; simp <;> omega) _).trans (hb.mono (by have := B.size; simp <;> omega))
  clear hb
  go_wp2_with fail
  clear L
  refine (dsum_is [0, 0, 0, 0, 0, 0, 0, 97, 53, 32, 45, 49, 32] 13 _ _ _ h2 rfl (by decide) (by omega) _ (SlN.fresh .u8 _ _ [0, 0, 0, 0, 0, 0, 0, 97, 53, 32, 45, 49, 32] _) (hG.alloc _)).mono ?_; rintro e w5 ⟨rfl, hb⟩
  have L := (SlN.fresh .u8 _ _ [0, 0, 0, 0, 0, 0, 0, 97, 53, 32, 45, 49, 32] _).below hb
  replace hG := (hG.alloc _).below hb
  replace B := (B.alloc (by have := B.size; simp <;> omega) _).trans (hb.mono (by have := B.size; simp <;> omega))
  clear hb
  clear L
  go_wp2_with fail
  have M : SlL ((w5.alloc (.cells #[.int .i64 7] 3)).alloc (.cells #[.slice (some ⟨w5.heap.size, 0, none⟩) 1 1, .slice none 0 0] 24)) (some ⟨w5.heap.size + 1, 0, none⟩) [[7], []] := by
    have := h_lists (w5.alloc (.cells #[.int .i64 7] 3)) 24 (SlK.fresh .i64 w5 3 [7])
    rwa [World.size_alloc] at this
  refine (dchain_is [[7], []] q2 2 _ _ h5 rfl (by omega) (by decide) _ M ((hG.alloc _).alloc _)).mono ?_; rintro e w6 ⟨rfl, hb⟩
  replace hG := ((hG.alloc _).alloc _).below hb
  replace B := ((B.alloc (by have := B.size; simp <;> omega) _).alloc (by have := B.size; simp <;> omega) _).trans (hb.mono (by have := B.size; simp <;> omega))
  clear hb
  go_wp2_with fail
  clear M
  refine (head_next _ q1 _ _ h3 (hG.alloc _) (SlK.fresh .i64 _ _ [1, 7])).mono ?_; rintro e w7 ⟨rfl, hb⟩
  have L := (SlK.fresh .i64 _ _ [1, 7]).below hb
  replace hG := (hG.alloc _).below hb
  replace B := (B.alloc (by have := B.size; simp <;> omega) _).trans (hb.mono (by have := B.size; simp <;> omega))
  clear hb
  go_wp2_with fail
  clear L
  refine (dnext_is q1 [0] q2 1 _ _ h4 h3l rfl (by omega) (by decide) _ (SlK.fresh .i64 _ _ [0]) (hG.alloc _)).mono ?_; rintro e w8 ⟨rfl, hb⟩
  have L := (SlK.fresh .i64 _ _ [0]).below hb
  replace hG := (hG.alloc _).below hb
  replace B := (B.alloc (by have := B.size; simp <;> omega) _).trans (hb.mono (by have := B.size; simp <;> omega))
  clear hb
  go_wp2_with fail
  clear L
  refine (dchain_is [] _ 0 0 none h9 rfl (by omega) (by simp) _ (SlL.nil _ _) hG).mono ?_; rintro e w9 ⟨rfl, hb⟩
  replace hG := hG.below hb
  replace B := B.trans (hb.mono (by have := B.size; simp <;> omega))
  clear hb
  go_wp2_with fail
  refine (dsum_is [] 0 0 none _ h6 rfl (by simp) (by omega) _ (SlN.nil _ _ _) hG).mono ?_; rintro e w10 ⟨rfl, hb⟩
  replace hG := hG.below hb
  replace B := B.trans (hb.mono (by have := B.size; simp <;> omega))
  clear hb
  go_wp2_with fail
  go_ret
  exact ⟨rfl, B⟩
end Go.Proofs.YtmpimbolhjmapaaDoor
