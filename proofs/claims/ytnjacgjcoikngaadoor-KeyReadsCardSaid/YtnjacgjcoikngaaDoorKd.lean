/- The walk of key's Read and its closure. -/
import Derived.Test.YtnjacgjcoikngaaDoorKi
import Derived.Laws.OwnMore
namespace Go.Proofs.YtnjacgjcoikngaaDoor
open Go.RowKit Go.Maps Go.WideMaps

namespace Ky
theorem oks_eq {l : List P3} {g : List Int} (h : g.length = l.length) : oks l g = (g.all sok && l.all pvQ) := by
  rw [Bool.eq_iff_iff, Bool.and_eq_true]
  unfold oks
  rw [List.all_eq_true, List.all_eq_true, List.all_eq_true]
  constructor
  · intro hh
    constructor
    · intro x hx
      obtain ⟨j, hj, rfl⟩ := List.getElem_of_mem hx
      have := hh j (List.mem_range.2 (by omega))
      unfold okAt at this
      rw [Bool.and_eq_true, atI_eq hj] at this
      exact this.2
    · intro x hx
      obtain ⟨j, hj, rfl⟩ := List.getElem_of_mem hx
      have := hh j (List.mem_range.2 hj)
      unfold okAt at this
      rw [Bool.and_eq_true, at3_eq hj] at this
      exact this.1
  · rintro ⟨h1, h2⟩ j hj
    have hj' := List.mem_range.1 hj
    unfold okAt
    rw [Bool.and_eq_true, at3_eq hj', atI_eq (by omega)]
    exact ⟨h2 _ (List.getElem_mem hj'), h1 _ (List.getElem_mem (by omega))⟩
theorem oks_at {l : List P3} {g : List Int} (h : oks l g = true) {n : Nat} (hn : n < l.length) :
    0 ≤ (at3 l n).1 ∧ (at3 l n).1 ≤ 6 ∧ -8 ≤ (at3 l n).2.2 ∧ (at3 l n).2.2 ≤ 20 ∧ (atI g n = 0 ∨ 6 ≤ atI g n ∧ atI g n ≤ 14) := by
  unfold oks at h
  have := List.all_eq_true.1 h n (List.mem_range.2 hn)
  unfold okAt at this
  rw [Bool.and_eq_true] at this
  obtain ⟨q0, q1, _, _, q2, q3⟩ := Pt.pv_iff.1 this.1
  have h2 := this.2
  simp only [Bool.or_eq_true, Bool.and_eq_true, decide_eq_true_eq] at h2
  exact ⟨q0, q1, q2, q3, h2⟩
theorem frcA_in (k s o : Int) (l : List P3) (g : List Int) : ∀ n, (∀ j, j < n → atI g j = 0 ∨ 6 ≤ atI g j ∧ atI g j ≤ 14) → -4 ≤ frcA k s o l g n ∧ frcA k s o l g n ≤ 4
  | 0, _ => by have := alt_in k s; rw [frcA]; omega
  | n + 1, h => by
    rw [frcA]
    split
    · rename_i h1
      have := h n (by omega)
      have := h1.2.2
      omega
    · exact frcA_in k s o l g n fun j hj => h j (by omega)
theorem rdA_in {k : Int} {l : List P3} {g : List Int} (h : oks l g = true) {n : Nat} (hn : n < l.length) : -4 ≤ frc k l g n ∧ frc k l g n ≤ 4 ∧ -4 ≤ rdA k l g n ∧ rdA k l g n ≤ 4 := by
  have h1 := frcA_in k (at3 l n).1 (at3 l n).2.2 l g n fun j hj => (oks_at h (by omega)).2.2.2.2
  have h2 := (oks_at h hn).2.2.2.2
  have h3 : frc k l g n = frcA k (at3 l n).1 (at3 l n).2.2 l g n := rfl
  rw [h3]
  unfold rdA
  rw [h3]
  split <;> omega
/-- The cells of pitches, one after the other. -/
def flat (f : Nat → P3) (i : Nat) : Int := if i % 3 = 0 then (f (i / 3)).1 else if i % 3 = 1 then (f (i / 3)).2.1 else (f (i / 3)).2.2
theorem flat0 (f : Nat → P3) (n : Nat) : flat f (n * 3) = (f n).1 := by
  unfold flat
  rw [if_pos (by omega), show n * 3 / 3 = n by omega]
theorem flat1 (f : Nat → P3) (n : Nat) : flat f (n * 3 + 1) = (f n).2.1 := by
  unfold flat
  rw [if_neg (by omega), if_pos (by omega), show (n * 3 + 1) / 3 = n by omega]
theorem flat2 (f : Nat → P3) (n : Nat) : flat f (n * 3 + 2) = (f n).2.2 := by
  unfold flat
  rw [if_neg (by omega), if_neg (by omega), show (n * 3 + 2) / 3 = n by omega]
theorem rds_length (k : Int) (l : List P3) (g : List Int) (n : Nat) : (rds k l g n).length = n := by simp [rds]
theorem rds_at {k : Int} {l : List P3} {g : List Int} {n i : Nat} (h : i < n) : at3 (rds k l g n) i = rdP k l g i := by
  rw [at3_eq (by rw [rds_length]; exact h)]
  simp [rds]
end Ky

/-- A row of pitches, read as one. -/
theorem RowI.slp {w : World} {S n : Nat} {c : Nat → Int} {f : Nat → Ky.P3} {m : List Ky.P3} (h : RowI w S (n * 3) c) (hl : m.length = n) (e : ∀ j, j < n * 3 → c j = Ky.flat f j) (hf : ∀ j, j < n → Ky.at3 m j = f j) : SlP w (some ⟨S, 0, none⟩) m := fun _ =>
  ⟨S, 0, rfl, h.lt, fun k hk => by
    refine ⟨?_, ?_, ?_⟩
    · rw [Nat.zero_add, h.cell (k * 3) (by omega), e _ (by omega), Ky.flat0, hf k (by omega)]
    · rw [Nat.zero_add, h.cell (k * 3 + 1) (by omega), e _ (by omega), Ky.flat1, hf k (by omega)]
    · rw [Nat.zero_add, h.cell (k * 3 + 2) (by omega), e _ (by omega), Ky.flat2, hf k (by omega)]⟩

set_option maxHeartbeats 1600000 in
theorem rclos_is (cG cL cR n len cl gcl S b off b2 off2 : Nat) (s a o z F r v0 v1 v2 : Int) (w : World) (hn : n < len) (hr : (if z = 0 then F else z - 10) = r) (z0 : z = 0 ∨ 6 ≤ z ∧ z ≤ 14) (g0 : w.cell? ⟨cG, 0, none⟩ = some (.slice (some ⟨b2, off2, none⟩) len gcl)) (g1 : w.cell? ⟨cL, 0, none⟩ = some (.slice (some ⟨b, off, none⟩) len cl)) (g2 : w.cell? ⟨cR, 0, none⟩ = some (.slice (some ⟨S, 0, none⟩) len len))
    (h0 : w.cell? ⟨b, off + n * 3, none⟩ = some (.int .i64 s)) (h1 : w.cell? ⟨b, off + n * 3 + 1, none⟩ = some (.int .i64 a)) (h2 : w.cell? ⟨b, off + n * 3 + 2, none⟩ = some (.int .i64 o)) (h3 : w.cell? ⟨b2, off2 + n, none⟩ = some (.int .i64 z))
    (y0 : w.cell? ⟨S, n * 3, none⟩ = some (.int .i64 v0)) (y1 : w.cell? ⟨S, n * 3 + 1, none⟩ = some (.int .i64 v1)) (y2 : w.cell? ⟨S, n * 3 + 2, none⟩ = some (.int .i64 v2)) (hf : ∀ j, w.frozen? ⟨S, j, none⟩ = false) :
    Calls Tryd.prog 42 #[.int .i64 n, .int .i64 F, .pointer (some ⟨cG, 0, none⟩), .pointer (some ⟨cL, 0, none⟩), .pointer (some ⟨cR, 0, none⟩)] w fun e w' => e = .returned (.int .i64 r) ∧ ∃ wx, Below w.heap.size w wx ∧ w' = ((wx.setCell ⟨S, n * 3, none⟩ (.int .i64 s)).setCell ⟨S, n * 3 + 1, none⟩ (.int .i64 r)).setCell ⟨S, n * 3 + 2, none⟩ (.int .i64 o) := by
  have hS : S < w.heap.size := World.block_lt_of_cell? _ _ y0
  have xg1 := fun x : Ext w => x.cell g1
  have xg2 := fun x : Ext w => x.cell g2
  have x0 := fun x : Ext w => x.cell h0
  have x1 := fun x : Ext w => x.cell h1
  have x2 := fun x : Ext w => x.cell h2
  have hne := Ext.there w
  have TAIL : ∀ (wx : World), Below w.heap.size w wx → wx.cell? ⟨S, n * 3, none⟩ = some (.int .i64 v0) ∧ wx.cell? ⟨S, n * 3 + 1, none⟩ = some (.int .i64 v1) ∧ wx.cell? ⟨S, n * 3 + 2, none⟩ = some (.int .i64 v2) ∧ wx.frozen? ⟨S, n * 3, none⟩ = false ∧ wx.frozen? ⟨S, n * 3 + 1, none⟩ = false ∧ wx.frozen? ⟨S, n * 3 + 2, none⟩ = false := fun wx hb =>
    ⟨(hb.cell (p := ⟨S, n * 3, none⟩) hS).trans y0, (hb.cell (p := ⟨S, n * 3 + 1, none⟩) hS).trans y1, (hb.cell (p := ⟨S, n * 3 + 2, none⟩) hS).trans y2,
      (hb.frozen (p := ⟨S, n * 3, none⟩) hS).trans (hf _), (hb.frozen (p := ⟨S, n * 3 + 1, none⟩) hS).trans (hf _), (hb.frozen (p := ⟨S, n * 3 + 2, none⟩) hS).trans (hf _)⟩
  replace TAIL := Lib.hid TAIL
  clear y0 y1 y2 hf h0 h1 h2
  by_cases hz : z = 0
  · subst hz
    obtain rfl : F = r := by simpa using hr
    clear hr
    go_enter Tryd.func42, Tryd.ntmps42
    go_wp2_with fail
    refine Ext.tail 9 (by kernel_rfl) (by kernel_rfl) ?_
    simp only [List.take_succ_cons, List.take_zero, List.drop_succ_cons, List.drop_zero]
    repeat (go_big_quiet_step ((go_at_call 43; with_reducible exact Ext.call _ (altered_is _ _ _ _ _))))
    refine wpQuiet_nil ?_
    rintro _ ⟨xw, rfl⟩
    obtain ⟨t0, t1, t2, f0, f1, f2⟩ := TAIL.out xw.w xw.h
    have hb := xw.h
    clear xg1 xg2 x0 x1 x2 hne TAIL
    generalize xw.w = w3 at *
    clear xw
    go_wp2_with fail
    go_ret
    exact ⟨rfl, w3, hb, rfl⟩
  · obtain rfl : z - 10 = r := by rw [if_neg hz] at hr; exact hr
    have hz' : (z == 0) = false := by simpa using hz
    clear hr
    go_enter Tryd.func42, Tryd.ntmps42
    go_wp2_with fail
    refine Ext.tail 9 (by kernel_rfl) (by kernel_rfl) ?_
    simp only [List.take_succ_cons, List.take_zero, List.drop_succ_cons, List.drop_zero]
    repeat (go_big_quiet_step ((go_at_call 43; with_reducible exact Ext.call _ (altered_is _ _ _ _ _))))
    refine wpQuiet_nil ?_
    rintro _ ⟨xw, rfl⟩
    obtain ⟨t0, t1, t2, f0, f1, f2⟩ := TAIL.out xw.w xw.h
    have hb := xw.h
    clear xg1 xg2 x0 x1 x2 hne TAIL
    generalize xw.w = w3 at *
    clear xw
    go_wp2_with fail
    go_ret
    exact ⟨rfl, w3, hb, rfl⟩

theorem infoPitch : (Tryd.prog.info? 44).map (fun i => (i.zero, i.size, i.bytes)) = some (some (.agg #[.int .i64 0, .int .i64 0, .int .i64 0]), 3, 24) := by kernel_rfl
theorem made_pitch (n j : Nat) (hj : j < n * 3) : (madeCells #[Value.int .i64 0, .int .i64 0, .int .i64 0] (n * 3)).toList[j]? = some (.int .i64 0) := by
  have h3 : j % 3 = 0 ∨ j % 3 = 1 ∨ j % 3 = 2 := by omega
  simp only [madeCells]
  rcases h3 with h | h | h <;> simp [hj, h]

set_option maxHeartbeats 3200000 in
theorem read_is (k : Int) (l : List Ky.P3) (g : List Int) (m : List Ky.P3) (E : Int) (len cl gl gcl : Nat) (A D : Option Addr) (h : Ky.readR k l g = (m, E)) (hl : l.length = len) (hg : g.length = gl) (hbig : len ≤ 9223372036854775807) (hbig2 : gl ≤ 9223372036854775807)
    (hwf : ∀ x ∈ g, -9223372036854775808 ≤ x ∧ x ≤ 9223372036854775807) (w : World) (hG : GK w) (hL : SlP w A l) (hD : SlI w D g) :
    Calls Tryd.prog 19 #[.int .i64 k, .slice A len cl, .slice D gl gcl] w fun e w' => ∃ C cap, e = .returned (.tuple #[.slice C m.length cap, .int .i64 E]) ∧ SlP w' C m ∧ Below w.heap.size w w' := by
  unfold Ky.readR at h
  rw [hl] at h
  by_cases h1 : 1000 < len
  · rw [if_pos h1] at h
    simp only [Prod.mk.injEq] at h
    obtain ⟨rfl, rfl⟩ := h
    clear hL hD
    go_enter Tryd.func19, Tryd.ntmps19
    go_wp2_with fail
    go_ret2
    exact ⟨none, 0, rfl, fun h => by simp at h, by go_grown⟩
  · rw [if_neg h1] at h
    have HL := Lib.hid hL
    have HD := Lib.hid hD
    have HN := Lib.hid hl
    have HM := Lib.hid hg
    have HW := Lib.hid hwf
    obtain ⟨v1, hk⟩ : ∃ v, Ky.kv k = v := ⟨_, rfl⟩
    have HK := Lib.hid hk
    clear hL hD hwf
    cases v1 with
    | false =>
      rw [hk, if_neg (by simp)] at h
      simp only [Prod.mk.injEq] at h
      obtain ⟨rfl, rfl⟩ := h
      clear hk hl hg
      go_enter Tryd.func19, Tryd.ntmps19
      go_wp2_with fail
      refine (iskey_is _ _ HK.out _).mono ?_; rintro e w1 ⟨rfl, rfl⟩
      go_wp2_with fail
      go_ret2
      exact ⟨none, 0, rfl, fun h => by simp at h, by go_grown⟩
    | true =>
      by_cases hgl : gl = len
      · subst hgl
        obtain ⟨v2, hs⟩ : ∃ v, g.all sok = v := ⟨_, rfl⟩
        obtain ⟨v3, hp⟩ : ∃ v, l.all pvQ = v := ⟨_, rfl⟩
        have ho : Ky.oks l g = (v2 && v3) := by rw [Ky.oks_eq (by omega), hs, hp]
        rw [hk, ho] at h
        have HS := Lib.hid hs
        have HP := Lib.hid hp
        have HO := Lib.hid ho
        clear hk hs hp ho hl hg
        cases v2 with
        | false =>
          simp only [Bool.false_and, Bool.false_eq_true, and_false, if_false, Prod.mk.injEq] at h
          obtain ⟨rfl, rfl⟩ := h
          go_enter Tryd.func19, Tryd.ntmps19
          go_wp2_with fail
          refine (iskey_is _ _ HK.out _).mono ?_; rintro e w1 ⟨rfl, rfl⟩
          go_wp2_with fail
          refine (allS_is g gl gcl D HM.out (by omega) HW.out _ HS.out _ (HD.out.below (((Below.refl _ _).alloc (Nat.le_refl _) _).alloc (by simp) _))).mono ?_; rintro e w1 ⟨rfl, hb1⟩
          have G : Below w.heap.size w w1 := (((Below.refl _ _).alloc (Nat.le_refl _) _).alloc (by simp) _ : Below w.heap.size w _).trans (hb1.mono (by simp; omega))
          clear hb1
          go_wp2_with fail
          go_ret2
          exact ⟨none, 0, rfl, fun h => by simp at h, G⟩
        | true =>
          cases v3 with
          | false =>
            simp only [Bool.and_false, Bool.false_eq_true, and_false, if_false, Prod.mk.injEq] at h
            obtain ⟨rfl, rfl⟩ := h
            go_enter Tryd.func19, Tryd.ntmps19
            go_wp2_with fail
            refine (iskey_is _ _ HK.out _).mono ?_; rintro e w1 ⟨rfl, rfl⟩
            go_wp2_with fail
            refine (allS_is g gl gcl D HM.out (by omega) HW.out _ HS.out _ (HD.out.below (((Below.refl _ _).alloc (Nat.le_refl _) _).alloc (by simp) _))).mono ?_; rintro e w1 ⟨rfl, hb1⟩
            have G : Below w.heap.size w w1 := (((Below.refl _ _).alloc (Nat.le_refl _) _).alloc (by simp) _ : Below w.heap.size w _).trans (hb1.mono (by simp; omega))
            have c0 : w1.cell? ⟨w.heap.size, 0, none⟩ = some (.slice A gl cl) := (hb1.cell (p := ⟨w.heap.size, 0, none⟩) (by simp; omega)).trans (by go_simp)
            clear hb1
            go_wp2_with fail
            refine (allQ_is l gl cl A HN.out (by omega) _ HP.out _ (HL.out.below G)).mono ?_; rintro e w2 ⟨rfl, hb2⟩
            replace G := G.trans (hb2.mono G.size)
            clear hb2
            go_wp2_with fail
            go_ret2
            exact ⟨none, 0, rfl, fun h => by simp at h, G⟩
          | true =>
            have hlen : g.length = l.length := by rw [HM.out, HN.out]
            rw [if_pos ⟨rfl, by rw [HM.out], rfl⟩] at h
            simp only [Prod.mk.injEq] at h
            obtain ⟨rfl, rfl⟩ := h
            obtain ⟨i0, hi, hz0, hz1, hz2⟩ := info_parts infoPitch
            have hlen1 : gl ≤ 1000 := by omega
            have HE := Lib.hid hlen
            clear hlen
            go_enter Tryd.func19, Tryd.ntmps19
            go_wp2_with fail
            refine (iskey_is _ _ HK.out _).mono ?_; rintro e w1 ⟨rfl, rfl⟩
            go_wp2_with fail
            refine (allS_is g gl gcl D HM.out (by omega) HW.out _ HS.out _ (HD.out.below (((Below.refl _ _).alloc (Nat.le_refl _) _).alloc (by simp) _))).mono ?_; rintro e w1 ⟨rfl, hb1⟩
            have G : Below w.heap.size w w1 := (((Below.refl _ _).alloc (Nat.le_refl _) _).alloc (by simp) _ : Below w.heap.size w _).trans (hb1.mono (by simp; omega))
            have c0 : w1.cell? ⟨w.heap.size, 0, none⟩ = some (.slice A gl cl) := (hb1.cell (p := ⟨w.heap.size, 0, none⟩) (by simp; omega)).trans (by go_simp)
            have d0 : w1.cell? ⟨w.heap.size + 1, 0, none⟩ = some (.slice D gl gcl) := (hb1.cell (p := ⟨w.heap.size + 1, 0, none⟩) (by simp)).trans (by go_simp)
            have hs0 : w.heap.size + 1 < w1.heap.size := by have := hb1.size; simp at this; omega
            clear hb1
            go_wp2_with fail
            refine (allQ_is l gl cl A HN.out (by omega) _ HP.out _ (HL.out.below G)).mono ?_; rintro e w2 ⟨rfl, hb2⟩
            replace G := G.trans (hb2.mono G.size)
            replace c0 := keep_cell c0 hb2
            replace d0 := keep_cell d0 hb2
            have hs1 : w.heap.size + 1 < w2.heap.size := by have := hb2.size; omega
            have hs1' : w.heap.size < w2.heap.size := by omega
            clear hb2 hs0
            go_wp2_with (first | (at_make; refine wpList_make_full _ rfl _ _ 24 rfl w2.heap.size 44 i0 (.agg #[.int .i64 0, .int .i64 0, .int .i64 0]) 3 Tryd.underlying24 hi hz0 hz1 .i64 .i64 _ _ gl rfl rfl rfl rfl (by rw [hz2]; omega) (by unfold maxLen; omega) (Nat.le_refl _) ?_; intro w3 hrow hg2; have c1 := hg2.cell c0 (by simp); have d1 := hg2.cell d0 (by simp); have hs2 := hg2.size; have hs3 := Nat.lt_of_lt_of_le hs1 hs2; have hs4 := Nat.lt_of_lt_of_le hs1' hs2) | fail)
            have hlt2 : w2.heap.size < w3.heap.size := (hrow.lt _ rfl).2
            obtain ⟨W, hW⟩ : ∃ W, w3.alloc (.cells #[.slice (some ⟨w2.heap.size, 0, none⟩) gl gl] 24) = W := ⟨_, rfl⟩
            have kR : W.cell? ⟨w3.heap.size, 0, none⟩ = some (.slice (some ⟨w2.heap.size, 0, none⟩) gl gl) := by subst hW; go_simp
            have kL : W.cell? ⟨w.heap.size, 0, none⟩ = some (.slice A gl cl) := by rw [← hW]; exact keep_alloc c1 _
            have kG : W.cell? ⟨w.heap.size + 1, 0, none⟩ = some (.slice D gl gcl) := by rw [← hW]; exact keep_alloc d1 _
            have hsW : W.heap.size = w3.heap.size + 1 := by rw [← hW]; simp
            have R0 : RowI W w2.heap.size (gl * 3) (fun i => if i < 0 * 3 then Ky.flat (Ky.rdP k l g) i else 0) := by
              refine ⟨by omega, fun j hj => ?_, fun j => ?_⟩
              · rw [if_neg (by omega), ← hW]
                have := hrow.cells (g := w2.heap.size) rfl j (.int .i64 0) (made_pitch gl j hj)
                have e : (⟨w2.heap.size, 0, none⟩ : Addr).add j = ⟨w2.heap.size, j, none⟩ := by unfold Addr.add; split <;> simp_all
                rw [e] at this
                exact keep_alloc this _
              · rw [← hW]
                exact (((Below.refl w3.heap.size w3).alloc (Nat.le_refl _) _).frozen (p := ⟨w2.heap.size, j, none⟩) hlt2).trans (hrow.frozenAt j)
            have LW : SlP W A l := by rw [← hW]; exact ((HL.out.below G).below (none_below hg2)).below ((Below.refl _ _).alloc (Nat.le_refl _) _)
            have DW : SlI W D g := by rw [← hW]; exact ((HD.out.below G).below (none_below hg2)).below ((Below.refl _ _).alloc (Nat.le_refl _) _)
            have GW : GK W := by rw [← hW]; exact ((hG.below G).below (none_below hg2)).alloc _
            have BW : Below w.heap.size w W := by rw [← hW]; exact (G.trans ((none_below hg2).mono (by omega))).alloc (by omega) _
            have LA : 0 < gl → ∀ b off, A = some ⟨b, off, none⟩ → b < w.heap.size := fun h0 b off e => by
              obtain ⟨b', off', e', hb, _⟩ := HL.out (by have := HN.out; omega)
              rw [e] at e'; cases e'; exact hb
            have LD : 0 < gl → ∀ b off, D = some ⟨b, off, none⟩ → b < w.heap.size := fun h0 b off e => by
              obtain ⟨b', off', e', hb, _⟩ := HD.out (by have := HM.out; omega)
              rw [e] at e'; cases e'; exact hb
            rw [hW]
            clear hrow hg2 c0 c1 d0 d1 hi hz0 hz1 hz2 hW
            refine (follow_read (w.heap.size + 1) w.heap.size w3.heap.size k l g gl cl A w2.heap.size (fun n wx => W.grownBy wx (some w2.heap.size) ∧ RowI wx w2.heap.size (gl * 3) (fun i => if i < n * 3 then Ky.flat (Ky.rdP k l g) i else 0)) HK.out HN.out hlen1 (fun n hn => ?_) W GW (by omega) ?_ LW (fun h0 b off e h => by have := LA h0 b off e; omega) (fun n wa wb hJ hb => ⟨grown_stays hJ.1 hb, hJ.2.below hb (by omega)⟩) ⟨World.grownBy.refl _ _, R0⟩ (fun n hn w4 hs3 hJ => ?_)).mono ?_
            · obtain ⟨q0, q1, q2, q3, _⟩ := Ky.oks_at HO.out (by have := HN.out; omega : n < l.length)
              obtain ⟨_, _, r0, r1⟩ := Ky.rdA_in (k := k) HO.out (by have := HN.out; omega : n < l.length)
              exact ⟨q0, q1, q2, q3, by omega, by omega⟩
            · have := hG.lt; intro e; omega
            · obtain ⟨hg3, R3⟩ := hJ
              obtain ⟨q0, q1, q2, q3, q4⟩ := Ky.oks_at HO.out (by have := HN.out; omega : n < l.length)
              obtain ⟨b, off, eA, hb, hcell⟩ := LW (by have := HN.out; omega)
              obtain ⟨b2, off2, eD, hb2, hcell2⟩ := DW (by have := HM.out; omega)
              have hbS := LA (by omega) b off eA
              have hbS2 := LD (by omega) b2 off2 eD
              have hx := hcell n (by have := HN.out; omega)
              have x0 := hg3.cell (a := ⟨b, off + n * 3, none⟩) hx.1 (fun e => by have := Option.some.inj e; simp at this; omega)
              have x1 := hg3.cell (a := ⟨b, off + n * 3 + 1, none⟩) hx.2.1 (fun e => by have := Option.some.inj e; simp at this; omega)
              have x2 := hg3.cell (a := ⟨b, off + n * 3 + 2, none⟩) hx.2.2 (fun e => by have := Option.some.inj e; simp at this; omega)
              have x3 := hg3.cell (a := ⟨b2, off2 + n, none⟩) (hcell2 n (by have := HM.out; omega)) (fun e => by have := Option.some.inj e; simp at this; omega)
              have y0 := hg3.cell (a := ⟨w.heap.size, 0, none⟩) kL (fun e => by have := Option.some.inj e; simp at this; omega)
              have y1 := hg3.cell (a := ⟨w.heap.size + 1, 0, none⟩) kG (fun e => by have := Option.some.inj e; simp at this; omega)
              have y2 := hg3.cell (a := ⟨w3.heap.size, 0, none⟩) kR (fun e => by have := Option.some.inj e; simp at this; omega)
              rw [eA] at y0
              rw [eD] at y1
              refine (rclos_is (w.heap.size + 1) w.heap.size w3.heap.size n gl cl gcl w2.heap.size b off b2 off2 _ _ _ (Ky.atI g n) (Ky.frc k l g n) (Ky.rdA k l g n) _ _ _ w4 hn rfl q4 y1 y0 y2 x0 x1 x2 x3 (R3.cell (n * 3) (by omega)) (R3.cell (n * 3 + 1) (by omega)) (R3.cell (n * 3 + 2) (by omega)) R3.free).mono ?_
              rintro e w5 ⟨rfl, wx, hbx, rfl⟩
              have hgx : w4.grownBy wx (some w2.heap.size) := below_grown hbx _
              have hg5 : w4.grownBy (((wx.setCell ⟨w2.heap.size, n * 3, none⟩ (.int .i64 (Ky.at3 l n).1)).setCell ⟨w2.heap.size, n * 3 + 1, none⟩ (.int .i64 (Ky.rdA k l g n))).setCell ⟨w2.heap.size, n * 3 + 2, none⟩ (.int .i64 (Ky.at3 l n).2.2)) (some w2.heap.size) := ((hgx.trans grown_set).trans grown_set).trans grown_set
              refine ⟨rfl, ⟨hg3.trans hg5, ((((R3.below hbx (by have := hg3.size; omega)).put (n * 3) _ (by omega)).put (n * 3 + 1) _ (by omega)).put (n * 3 + 2) _ (by omega)).congr fun j hj => ?_⟩, hg5⟩
              by_cases e2 : j = n * 3 + 2
              · subst e2; rw [if_pos rfl, if_pos (by omega), Ky.flat2]; rfl
              · rw [if_neg e2]
                by_cases e1 : j = n * 3 + 1
                · subst e1; rw [if_pos rfl, if_pos (by omega), Ky.flat1]; rfl
                · rw [if_neg e1]
                  by_cases e0 : j = n * 3
                  · subst e0; rw [if_pos rfl, if_pos (by omega), Ky.flat0]; rfl
                  · rw [if_neg e0]
                    by_cases e3 : j < n * 3
                    · rw [if_pos e3, if_pos (by omega)]
                    · rw [if_neg e3, if_neg (by omega)]
            rintro e w4 ⟨rfl, ⟨hg4, R4⟩, -⟩
            have y1 := hg4.cell (a := ⟨w3.heap.size, 0, none⟩) kR (fun e => by have := Option.some.inj e; simp at this; omega)
            have B4 : Below w.heap.size w w4 := BW.trans (grown_below hg4 (by omega) (by omega))
            clear kR kL kG R0 LW DW GW hg4
            go_wp2_with fail
            go_ret2
            have hlen := Ky.rds_length k l g gl
            refine ⟨some ⟨w2.heap.size, 0, none⟩, gl, by rw [hlen]; rfl, R4.slp (f := Ky.rdP k l g) hlen (fun j hj => by rw [if_pos hj]) (fun j hj => Ky.rds_at hj), B4⟩
      · have hgl' : ((gl : Int) == (len : Int)) = false := by simp; omega
        rw [if_neg (by rintro ⟨_, e, _⟩; omega)] at h
        simp only [Prod.mk.injEq] at h
        obtain ⟨rfl, rfl⟩ := h
        clear hk hl hg
        go_enter Tryd.func19, Tryd.ntmps19
        go_wp2_with fail
        refine (iskey_is _ _ HK.out _).mono ?_; rintro e w1 ⟨rfl, rfl⟩
        go_wp2_with fail
        go_ret2
        exact ⟨none, 0, rfl, fun h => by simp at h, by go_grown⟩
end Go.Proofs.YtnjacgjcoikngaaDoor
