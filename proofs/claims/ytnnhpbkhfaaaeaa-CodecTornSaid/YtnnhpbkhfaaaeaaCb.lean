/- The walks of the reference's one, bytes, Put. -/
import Derived.Test.YtnnhpbkhfaaaeaaCh
import Derived.Test.YtnnhpbkhfaaaeaaDs
namespace Go.Proofs.Ytnnhpbkhfaaaeaa
open Go.RowKit

theorem own_none {w : World} {base : Nat} {e : TypeId} {A : Option Addr} {n c m : Nat} {xs : List Value} (h : w.ownsRow base e 1 (.slice A n c) m xs) : A = none → c = 0 := fun hA => by
  rcases h.2 with ⟨hv, _⟩ | ⟨b, cap, cur, hv, _⟩
  · cases hv; rfl
  · cases hv; cases hA
/-- A call's own bytes: where they lie. -/
theorem own_b {w : World} {base : Nat} {e : TypeId} {v : Value} {n : Nat} {g : List Nat} (h : w.ownsRow base e 1 v n (vN .u8 g)) : g.length = n ∧ ∃ A cap, v = .slice A n cap ∧ SlN .u8 w A g ∧ (A = none → cap = 0) := by
  obtain ⟨h1, A, cap, rfl, h2⟩ := own_n h
  exact ⟨h1, A, cap, rfl, h2, own_none h⟩
theorem infoByte : (Try.prog.info? 5).map (fun i => (i.zero, i.size, i.bytes)) = some (some (.int .u8 0), 1, 1) := by kernel_rfl

set_option maxHeartbeats 1600000 in
theorem kone_is (n : Int) (T : List Nat) (L : Nat) (h : Cd.one n = T) (hL : T.length = L) (hw : Cd.wd n) (w : World) :
    Calls Try.prog 24 #[.int .i64 n] w fun e w' => ∃ v, e = .returned v ∧ w'.ownsRow w.heap.size 5 1 v L (vN .u8 T) ∧ Below w.heap.size w w' := by
  have hL10 : L ≤ 10 := by rw [← hL, ← h]; exact Cd.one_len hw
  have hz := Cd.zz_lt hw
  obtain ⟨w0, w1⟩ := hw
  have HT : Hid (Cd.vb (Cd.zz n) = T) := Lib.hid h
  have HL := Lib.hid hL
  clear h hL
  obtain ⟨i0, hi, hz0, hz1, hz2⟩ := info_parts infoByte
  go_enter Try.func24, Try.ntmps24
  by_cases hn : n < 0
  · go_wp2_with fail
    go_loopw [3, 4] (fun s3 s4 wr => ∃ (q : Int) (bs : List Nat) (k : Nat), s3 = .int .u64 q ∧ 0 ≤ q ∧ q < 18446744073709551616 ∧ k + 1 ≤ L ∧ Hid (bs.length = k ∧ bs ++ Cd.vb q.toNat = T) ∧ wr.ownsRow w.heap.size 5 1 s4 k (vN .u8 bs) ∧ Below w.heap.size w wr) (fun s3 _ _ => (intOf s3).toNat)
    case atStart => exact ⟨_, [], 0, rfl, by omega, by omega, (by have := HL.out; have := Cd.vb_pos (Cd.zz n); rw [HT.out] at this; omega), Lib.hid ⟨rfl, by rw [show (2 * -(n + 1) + 1 : Int).toNat = Cd.zz n by unfold Cd.zz; split <;> omega]; exact HT.out⟩, World.ownsRow_nil _ _ _ _, Below.refl _ _⟩
    case round =>
      obtain ⟨q, bs, k, rfl, q0, q1, hk, HB, hown, hG⟩ := hrel
      by_cases hlt : q < 128
      · have e1 : q % 256 = q := by omega
        have HE : Hid (bs ++ [q.toNat] = T) := Lib.hid (by have := HB.out.2; rwa [Cd.vb_small (by omega)] at this)
        have HKL : k + 1 = L := by have := congrArg List.length HE.out; rw [List.length_append, HB.out.1, HL.out] at this; exact this
        have HQ : Hid ((q.toNat : Int) = q) := Lib.hid (by omega)
        go_wp2_with (first | (at_builtin; refine wpList_append_own _ rfl _ _ 23 rfl w.heap.size 5 i0 (.int .u8 0) 1 1 Try.underlying23 hi hz0 hz1 hz2 rfl (by decide) _ _ _ rfl (hown.alloc _) ⟨wr.heap.size, 0, none⟩ 1 1 [.int .u8 q] rfl rfl (cell_one_new _ _ _) (fun u hu => by simp at hu; subst hu; rfl) (by unfold maxLen; omega) (by omega) (by have := hG.size; simp; omega) ?_; intro v' w4 hown4 hgrow hnil) | fail)
        have hfin : w4.ownsRow w.heap.size 5 1 v' L (vN .u8 T) := by
          rw [← HKL, ← HE.out, vN_app, show vN .u8 [q.toNat] = [.int .u8 q] by unfold vN; rw [List.map_cons, HQ.out]; rfl]
          exact hown4
        have hG2 := (hG.alloc hG.size _).grown hgrow (by have := hG.size; simp; omega) (own_ne hown)
        clear hown hown4 hgrow hnil HE HB
        go_ret
        exact ⟨v', rfl, hfin, hG2⟩
      · have HE : Hid ((bs ++ [q.toNat % 128 + 128]).length = k + 1 ∧ bs ++ [q.toNat % 128 + 128] ++ Cd.vb (q / 128).toNat = T) := Lib.hid ⟨by rw [List.length_append, HB.out.1]; rfl, by have := HB.out.2; rw [Cd.vb_more (by omega)] at this; rw [List.append_assoc, show (q / 128).toNat = q.toNat / 128 by omega]; exact this⟩
        have hk2 : k + 1 + 1 ≤ L := by
          have := congrArg List.length HE.out.2
          have h2 := Cd.vb_pos (q / 128).toNat
          rw [List.length_append, HE.out.1, HL.out] at this
          omega
        have HV : Hid (vN .u8 bs ++ [.int .u8 (q % 128 + 128)] = vN .u8 (bs ++ [q.toNat % 128 + 128])) := Lib.hid (by rw [vN_app, show q % 128 + 128 = ((q.toNat % 128 + 128 : Nat) : Int) by omega]; rfl)
        have hdec : (q / 128).toNat < q.toNat := by omega
        have hr0 : 0 ≤ q % 128 := by omega
        have hr1 : q % 128 < 128 := by omega
        have hv0 : 0 ≤ q / 128 := by omega
        have hv1 : q / 128 < 18446744073709551616 := by omega
        have hlt' : 128 ≤ q := by omega
        generalize q.toNat % 128 + 128 = z at *
        generalize hVV : q / 128 = V at *
        generalize hrr : q % 128 = r at *
        go_wp2_with (first | (at_builtin; refine wpList_append_own _ rfl _ _ 23 rfl w.heap.size 5 i0 (.int .u8 0) 1 1 Try.underlying23 hi hz0 hz1 hz2 rfl (by decide) _ _ _ rfl (hown.alloc _) ⟨wr.heap.size, 0, none⟩ 1 1 [.int .u8 (r + 128)] rfl rfl (cell_one_new _ _ _) (fun u hu => by simp at hu; subst hu; rfl) (by unfold maxLen; omega) (by omega) (by have := hG.size; simp; omega) ?_; intro v' w4 hown4 hgrow hnil) | fail)
        go_roundw
        case rel => exact ⟨V, bs ++ [z], k + 1, (by first | rfl | rw [hVV]), hv0, hv1, hk2, HE, (by rw [HV.out] at hown4; exact hown4), (hG.alloc hG.size _).grown hgrow (by have := hG.size; simp; omega) (own_ne hown)⟩
        case measure => simp only [intOf]; (first | omega | (rw [hVV]; omega))
  · go_wp2_with fail
    go_loopw [3, 4] (fun s3 s4 wr => ∃ (q : Int) (bs : List Nat) (k : Nat), s3 = .int .u64 q ∧ 0 ≤ q ∧ q < 18446744073709551616 ∧ k + 1 ≤ L ∧ Hid (bs.length = k ∧ bs ++ Cd.vb q.toNat = T) ∧ wr.ownsRow w.heap.size 5 1 s4 k (vN .u8 bs) ∧ Below w.heap.size w wr) (fun s3 _ _ => (intOf s3).toNat)
    case atStart => exact ⟨_, [], 0, rfl, by omega, by omega, (by have := HL.out; have := Cd.vb_pos (Cd.zz n); rw [HT.out] at this; omega), Lib.hid ⟨rfl, by rw [show (2 * n : Int).toNat = Cd.zz n by unfold Cd.zz; split <;> omega]; exact HT.out⟩, World.ownsRow_nil _ _ _ _, Below.refl _ _⟩
    case round =>
      obtain ⟨q, bs, k, rfl, q0, q1, hk, HB, hown, hG⟩ := hrel
      by_cases hlt : q < 128
      · have e1 : q % 256 = q := by omega
        have HE : Hid (bs ++ [q.toNat] = T) := Lib.hid (by have := HB.out.2; rwa [Cd.vb_small (by omega)] at this)
        have HKL : k + 1 = L := by have := congrArg List.length HE.out; rw [List.length_append, HB.out.1, HL.out] at this; exact this
        have HQ : Hid ((q.toNat : Int) = q) := Lib.hid (by omega)
        go_wp2_with (first | (at_builtin; refine wpList_append_own _ rfl _ _ 23 rfl w.heap.size 5 i0 (.int .u8 0) 1 1 Try.underlying23 hi hz0 hz1 hz2 rfl (by decide) _ _ _ rfl (hown.alloc _) ⟨wr.heap.size, 0, none⟩ 1 1 [.int .u8 q] rfl rfl (cell_one_new _ _ _) (fun u hu => by simp at hu; subst hu; rfl) (by unfold maxLen; omega) (by omega) (by have := hG.size; simp; omega) ?_; intro v' w4 hown4 hgrow hnil) | fail)
        have hfin : w4.ownsRow w.heap.size 5 1 v' L (vN .u8 T) := by
          rw [← HKL, ← HE.out, vN_app, show vN .u8 [q.toNat] = [.int .u8 q] by unfold vN; rw [List.map_cons, HQ.out]; rfl]
          exact hown4
        have hG2 := (hG.alloc hG.size _).grown hgrow (by have := hG.size; simp; omega) (own_ne hown)
        clear hown hown4 hgrow hnil HE HB
        go_ret
        exact ⟨v', rfl, hfin, hG2⟩
      · have HE : Hid ((bs ++ [q.toNat % 128 + 128]).length = k + 1 ∧ bs ++ [q.toNat % 128 + 128] ++ Cd.vb (q / 128).toNat = T) := Lib.hid ⟨by rw [List.length_append, HB.out.1]; rfl, by have := HB.out.2; rw [Cd.vb_more (by omega)] at this; rw [List.append_assoc, show (q / 128).toNat = q.toNat / 128 by omega]; exact this⟩
        have hk2 : k + 1 + 1 ≤ L := by
          have := congrArg List.length HE.out.2
          have h2 := Cd.vb_pos (q / 128).toNat
          rw [List.length_append, HE.out.1, HL.out] at this
          omega
        have HV : Hid (vN .u8 bs ++ [.int .u8 (q % 128 + 128)] = vN .u8 (bs ++ [q.toNat % 128 + 128])) := Lib.hid (by rw [vN_app, show q % 128 + 128 = ((q.toNat % 128 + 128 : Nat) : Int) by omega]; rfl)
        have hdec : (q / 128).toNat < q.toNat := by omega
        have hr0 : 0 ≤ q % 128 := by omega
        have hr1 : q % 128 < 128 := by omega
        have hv0 : 0 ≤ q / 128 := by omega
        have hv1 : q / 128 < 18446744073709551616 := by omega
        have hlt' : 128 ≤ q := by omega
        generalize q.toNat % 128 + 128 = z at *
        generalize hVV : q / 128 = V at *
        generalize hrr : q % 128 = r at *
        go_wp2_with (first | (at_builtin; refine wpList_append_own _ rfl _ _ 23 rfl w.heap.size 5 i0 (.int .u8 0) 1 1 Try.underlying23 hi hz0 hz1 hz2 rfl (by decide) _ _ _ rfl (hown.alloc _) ⟨wr.heap.size, 0, none⟩ 1 1 [.int .u8 (r + 128)] rfl rfl (cell_one_new _ _ _) (fun u hu => by simp at hu; subst hu; rfl) (by unfold maxLen; omega) (by omega) (by have := hG.size; simp; omega) ?_; intro v' w4 hown4 hgrow hnil) | fail)
        go_roundw
        case rel => exact ⟨V, bs ++ [z], k + 1, (by first | rfl | rw [hVV]), hv0, hv1, hk2, HE, (by rw [HV.out] at hown4; exact hown4), (hG.alloc hG.size _).grown hgrow (by have := hG.size; simp; omega) (own_ne hown)⟩
        case measure => simp only [intOf]; (first | omega | (rw [hVV]; omega))
end Go.Proofs.Ytnnhpbkhfaaaeaa
