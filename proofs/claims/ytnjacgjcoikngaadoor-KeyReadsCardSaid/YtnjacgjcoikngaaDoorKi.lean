/- The walk of key's Signs and its closure. -/
import Derived.Test.YtnjacgjcoikngaaDoorKo
import Derived.Laws.OwnMore
namespace Go.Proofs.YtnjacgjcoikngaaDoor
open Go.RowKit Go.Maps Go.WideMaps

/-- A row of integers that can be written. -/
structure RowI (w : World) (S n : Nat) (c : Nat → Int) : Prop where
  lt : S < w.heap.size
  cell : ∀ j, j < n → w.cell? ⟨S, j, none⟩ = some (.int .i64 (c j))
  free : ∀ j, w.frozen? ⟨S, j, none⟩ = false
theorem RowI.kept {w w' : World} {S n : Nat} {c : Nat → Int} {row : Option Nat} (h : RowI w S n c) (hg : w.grownBy w' row) (hne : some S ≠ row) : RowI w' S n c :=
  ⟨Nat.lt_of_lt_of_le h.lt hg.size, fun j hj => hg.cell (a := ⟨S, j, none⟩) (h.cell j hj) hne, fun j => (World.frozen?_of_block (w := w) (a := ⟨S, j, none⟩) (hg.block S h.lt hne)).trans (h.free j)⟩
theorem RowI.below {w w' : World} {S n B : Nat} {c : Nat → Int} (h : RowI w S n c) (hb : Below B w w') (hS : S < B) : RowI w' S n c :=
  ⟨Nat.lt_of_lt_of_le h.lt hb.size, fun j hj => (hb.cell (p := ⟨S, j, none⟩) hS).trans (h.cell j hj), fun j => (hb.frozen (p := ⟨S, j, none⟩) hS).trans (h.free j)⟩
theorem RowI.put {w : World} {S n : Nat} {c : Nat → Int} (h : RowI w S n c) (i : Nat) (x : Int) (hi : i < n) : RowI (w.setCell ⟨S, i, none⟩ (.int .i64 x)) S n (fun j => if j = i then x else c j) := by
  refine ⟨by simpa using h.lt, fun j hj => ?_, fun j => (World.frozen?_setCell ..).trans (h.free j)⟩
  by_cases e : j = i
  · subst e
    simp only [if_true]
    exact World.cell?_setCell_same w _ _ (h.cell j hj)
  · rw [if_neg e]
    exact (World.cell?_setCell_other (w := w) (a := ⟨S, i, none⟩) (b := ⟨S, j, none⟩) (v := .int .i64 x) (fun e2 => by cases e2; exact e rfl)).trans (h.cell j hj)
theorem RowI.congr {w : World} {S n : Nat} {c d : Nat → Int} (h : RowI w S n c) (e : ∀ j, j < n → c j = d j) : RowI w S n d :=
  ⟨h.lt, fun j hj => by rw [h.cell j hj, e j hj], h.free⟩
theorem RowI.sl {w : World} {S n : Nat} {c : Nat → Int} {g : List Int} (h : RowI w S n c) (hl : g.length = n) (e : ∀ j, j < n → c j = Ky.atI g j) : SlI w (some ⟨S, 0, none⟩) g := fun _ =>
  ⟨S, 0, rfl, h.lt, fun k hk => by rw [Nat.zero_add, h.cell k (by omega), e k (by omega)]⟩
theorem grown_set {w : World} {S j : Nat} {v : Value} : w.grownBy (w.setCell ⟨S, j, none⟩ v) (some S) :=
  ⟨rfl, rfl, rfl, by simp, fun k _ hk => heap_setCell_other w ⟨S, j, none⟩ k v (fun e => hk (by simp [e]))⟩
theorem grown_stays {w a b : World} {S : Nat} (h : w.grownBy a (some S)) (hb : Below w.heap.size a b) : w.grownBy b (some S) :=
  ⟨hb.os.trans h.os, hb.tape.trans h.tape, hb.output.trans h.output, Nat.le_trans h.size hb.size, fun i hi hne => (hb.block i hi).trans (h.block i hi hne)⟩
theorem none_below {a b : World} (h : a.grownBy b none) : Below a.heap.size a b := ⟨h.os, h.tape, h.output, h.size, fun i hi => h.block i hi (by simp)⟩
namespace Ky
theorem sgn_fact {k : Int} {l : List P3} {n : Nat} (hp : pvs l = true) (hn : n < l.length) :
    atI (sgn k l l.length) n = (if frc k l (sgn k l l.length) n = (at3 l n).2.1 then 0 else 10 + (at3 l n).2.1) ∧ rdA k l (sgn k l l.length) n = (at3 l n).2.1 ∧ -4 ≤ (at3 l n).2.1 ∧ (at3 l n).2.1 ≤ 4 := by
  have ht := sgn_at k l l.length
  obtain ⟨_, _, a0, a1, _, _⟩ := Pt.pv_iff.1 (pvs_at hp hn)
  have hf : frc k l (sgn k l l.length) n = frc k l (sgn k l n) n := frc_congr fun j hj => by rw [ht j (by omega), sgn_at k l n j hj]
  have e1 : atI (sgn k l l.length) n = (if frc k l (sgn k l l.length) n = (at3 l n).2.1 then 0 else 10 + (at3 l n).2.1) := by
    rw [ht n hn, hf]; rfl
  refine ⟨e1, ?_, a0, a1⟩
  unfold rdA
  rw [e1]
  by_cases e : frc k l (sgn k l l.length) n = (at3 l n).2.1
  · rw [if_pos e, if_pos rfl, e]
  · rw [if_neg e, if_neg (by omega)]; omega
end Ky

set_option maxHeartbeats 800000 in
theorem sclos_is (cL cS n len cl S b off : Nat) (a F : Int) (w : World) (hn : n < len) (a0 : -4 ≤ a) (a1 : a ≤ 4) (h0 : w.cell? ⟨cL, 0, none⟩ = some (.slice (some ⟨b, off, none⟩) len cl)) (h1 : w.cell? ⟨cS, 0, none⟩ = some (.slice (some ⟨S, 0, none⟩) len len))
    (h2 : w.cell? ⟨b, off + n * 3 + 1, none⟩ = some (.int .i64 a)) (h3 : w.cell? ⟨S, n, none⟩ = some (.int .i64 0)) (h4 : w.frozen? ⟨S, n, none⟩ = false) :
    Calls Tryd.prog 36 #[.int .i64 n, .int .i64 F, .pointer (some ⟨cL, 0, none⟩), .pointer (some ⟨cS, 0, none⟩)] w fun e w' => e = .returned (.int .i64 a) ∧ w' = if F = a then w else w.setCell ⟨S, n, none⟩ (.int .i64 (10 + a)) := by
  by_cases e : F = a
  · subst e
    rw [if_pos rfl]
    go_enter Tryd.func36, Tryd.ntmps36
    go_wp2
    go_ret
    exact ⟨rfl, rfl⟩
  · rw [if_neg e]
    have e' : (a == F) = false := by simpa using fun h : a = F => e h.symm
    go_enter Tryd.func36, Tryd.ntmps36
    go_wp2
    go_ret
    exact ⟨rfl, rfl⟩

theorem infoInt : (Tryd.prog.info? 3).map (fun i => (i.zero, i.size, i.bytes)) = some (some (.int .i64 0), 1, 8) := by kernel_rfl

set_option maxHeartbeats 3200000 in
theorem signs_is (k : Int) (l : List Ky.P3) (g : List Int) (E : Int) (len cl : Nat) (A : Option Addr) (h : Ky.signR k l = (g, E)) (hl : l.length = len) (hbig : len ≤ 9223372036854775807) (w : World) (hG : GK w) (hL : SlP w A l) :
    Calls Tryd.prog 16 #[.int .i64 k, .slice A len cl] w fun e w' => ∃ D cap, e = .returned (.tuple #[.slice D g.length cap, .int .i64 E]) ∧ SlI w' D g ∧ g.length ≤ cap ∧ Below w.heap.size w w' := by
  unfold Ky.signR at h
  rw [hl] at h
  by_cases h1 : 1000 < len
  · rw [if_pos h1] at h
    simp only [Prod.mk.injEq] at h
    obtain ⟨rfl, rfl⟩ := h
    clear hL
    go_enter Tryd.func16, Tryd.ntmps16
    go_wp2_with fail
    go_ret2
    exact ⟨none, 0, rfl, fun h => by simp at h, by simp, by go_grown⟩
  · rw [if_neg h1] at h
    have HL := Lib.hid hL
    have HN := Lib.hid hl
    obtain ⟨v1, hk⟩ : ∃ v, Ky.kv k = v := ⟨_, rfl⟩
    obtain ⟨v2, hp⟩ : ∃ v, l.all pvP = v := ⟨_, rfl⟩
    have hp' : Ky.pvs l = v2 := hp
    rw [hp', hk] at h
    have HK := Lib.hid hk
    have HP := Lib.hid hp
    clear hL hl hk hp hp'
    cases v1 with
    | false =>
      simp only [Bool.and_false, Bool.false_eq_true, if_false, Prod.mk.injEq] at h
      obtain ⟨rfl, rfl⟩ := h
      go_enter Tryd.func16, Tryd.ntmps16
      go_wp2_with fail
      refine (iskey_is _ _ HK.out _).mono ?_; rintro e w1 ⟨rfl, rfl⟩
      go_wp2_with fail
      go_ret2
      exact ⟨none, 0, rfl, fun h => by simp at h, by simp, by go_grown⟩
    | true =>
      cases v2 with
      | false =>
        simp only [Bool.false_and, Bool.false_eq_true, if_false, Prod.mk.injEq] at h
        obtain ⟨rfl, rfl⟩ := h
        go_enter Tryd.func16, Tryd.ntmps16
        go_wp2_with fail
        refine (iskey_is _ _ HK.out _).mono ?_; rintro e w1 ⟨rfl, rfl⟩
        go_wp2_with fail
        refine (allV_is l len cl A HN.out (by omega) _ HP.out _ (HL.out.below ((Below.refl _ _).alloc (Nat.le_refl _) _))).mono ?_; rintro e w1 ⟨rfl, hb1⟩
        have G : Below w.heap.size w w1 := ((Below.refl _ _).alloc (Nat.le_refl _) _).trans (hb1.mono (by simp))
        clear hb1
        go_wp2_with fail
        go_ret2
        exact ⟨none, 0, rfl, fun h => by simp at h, by simp, G⟩
      | true =>
        simp only [Bool.and_self, if_true, Prod.mk.injEq] at h
        obtain ⟨rfl, rfl⟩ := h
        obtain ⟨i0, hi, hz0, hz1, hz2⟩ := info_parts infoInt
        have hlen1 : len ≤ 1000 := by omega
        go_enter Tryd.func16, Tryd.ntmps16
        go_wp2_with fail
        refine (iskey_is _ _ HK.out _).mono ?_; rintro e w1 ⟨rfl, rfl⟩
        go_wp2_with fail
        refine (allV_is l len cl A HN.out (by omega) _ HP.out _ (HL.out.below ((Below.refl _ _).alloc (Nat.le_refl _) _))).mono ?_; rintro e w1 ⟨rfl, hb1⟩
        have G : Below w.heap.size w w1 := ((Below.refl _ _).alloc (Nat.le_refl _) _).trans (hb1.mono (by simp))
        have c0 : w1.cell? ⟨w.heap.size, 0, none⟩ = some (.slice A len cl) := (hb1.cell (p := ⟨w.heap.size, 0, none⟩) (by simp)).trans (by go_simp)
        have hs1 : w.heap.size < w1.heap.size := by have := hb1.size; simp at this; omega
        clear hb1
        go_wp2_with (first | (at_make; refine wpList_make_full _ rfl _ _ 25 rfl w1.heap.size 3 i0 (.int .i64 0) 1 Tryd.underlying25 hi hz0 hz1 .i64 .i64 _ _ len rfl rfl rfl rfl (by rw [hz2]; omega) (by unfold maxLen; omega) (Nat.le_refl _) ?_; intro w2 hrow hg2; have c1 := hg2.cell c0 (by simp); have hs2 := hg2.size; have hs3 := Nat.lt_of_lt_of_le hs1 hs2) | fail)
        have hlt2 : w1.heap.size < w2.heap.size := (hrow.lt _ rfl).2
        obtain ⟨W, hW⟩ : ∃ W, w2.alloc (.cells #[.slice (some ⟨w1.heap.size, 0, none⟩) len len] 25) = W := ⟨_, rfl⟩
        have kS : W.cell? ⟨w2.heap.size, 0, none⟩ = some (.slice (some ⟨w1.heap.size, 0, none⟩) len len) := by subst hW; go_simp
        have kL : W.cell? ⟨w.heap.size, 0, none⟩ = some (.slice A len cl) := by rw [← hW]; exact keep_alloc c1 _
        have hsW : W.heap.size = w2.heap.size + 1 := by rw [← hW]; simp
        have R0 : RowI W w1.heap.size len (fun j => if j < 0 then Ky.atI (Ky.sgn k l l.length) j else 0) := by
          refine ⟨by omega, fun j hj => ?_, fun j => ?_⟩
          · rw [if_neg (by omega), ← hW]
            have := hrow.cells (g := w1.heap.size) rfl j (.int .i64 0) (by
              rw [show (Value.int IntKind.i64 0).cells = #[Value.int .i64 0] from rfl, toList_madeCells_one, Nat.mul_one, List.getElem?_replicate, if_pos hj])
            have e : (⟨w1.heap.size, 0, none⟩ : Addr).add j = ⟨w1.heap.size, j, none⟩ := by unfold Addr.add; split <;> simp_all
            rw [e] at this
            exact keep_alloc this _
          · rw [← hW]
            exact (((Below.refl w2.heap.size w2).alloc (Nat.le_refl _) _).frozen (p := ⟨w1.heap.size, j, none⟩) hlt2).trans (hrow.frozenAt j)
        have LW : SlP W A l := by rw [← hW]; exact ((HL.out.below G).below (none_below hg2)).below ((Below.refl _ _).alloc (Nat.le_refl _) _)
        have GW : GK W := by rw [← hW]; exact ((hG.below G).below (none_below hg2)).alloc _
        have BW : Below w.heap.size w W := by rw [← hW]; exact (G.trans ((none_below hg2).mono (by omega))).alloc (by omega) _
        have LA : 0 < len → ∀ b off, A = some ⟨b, off, none⟩ → b < w.heap.size := fun h0 b off e => by
          obtain ⟨b', off', e', hb, _⟩ := HL.out (by have := HN.out; omega)
          rw [e] at e'; cases e'; exact hb
        rw [hW]
        clear hrow hg2 c0 c1 hi hz0 hz1 hz2 hW
        refine (follow_signs w.heap.size w2.heap.size k l (Ky.sgn k l l.length) len cl A w1.heap.size (fun n wx => W.grownBy wx (some w1.heap.size) ∧ RowI wx w1.heap.size len (fun j => if j < n then Ky.atI (Ky.sgn k l l.length) j else 0)) HK.out HN.out hlen1 (fun n hn => ?_) W GW (by omega) ?_ LW (fun h0 b off e h => by have := LA h0 b off e; omega) (fun n wa wb hJ hb => ⟨grown_stays hJ.1 hb, hJ.2.below hb (by omega)⟩) ⟨World.grownBy.refl _ _, R0⟩ (fun n hn w3 hs3 hJ => ?_)).mono ?_
        · obtain ⟨f1, f2, f3, f4⟩ := Ky.sgn_fact (k := k) (n := n) HP.out (by have := HN.out; omega)
          obtain ⟨q0, q1, _, _, q2, q3⟩ := Pt.pv_iff.1 (Ky.pvs_at HP.out (by have := HN.out; omega : n < l.length))
          rw [f2]
          exact ⟨q0, q1, q2, q3, by omega, by omega⟩
        · have := hG.lt; intro e; omega
        · obtain ⟨hg3, R3⟩ := hJ
          obtain ⟨f1, f2, f3, f4⟩ := Ky.sgn_fact (k := k) (n := n) HP.out (by have := HN.out; omega)
          obtain ⟨b, off, eA, hb, hcell⟩ := LW (by have := HN.out; omega)
          have hbS := LA (by omega) b off eA
          have x1 := hg3.cell (a := ⟨b, off + n * 3 + 1, none⟩) (hcell n (by have := HN.out; omega)).2.1 (fun e => by have := Option.some.inj e; simp at this; omega)
          have y0 := hg3.cell (a := ⟨w.heap.size, 0, none⟩) kL (fun e => by have := Option.some.inj e; simp at this; omega)
          have y1 := hg3.cell (a := ⟨w2.heap.size, 0, none⟩) kS (fun e => by have := Option.some.inj e; simp at this; omega)
          have y2 := R3.cell n hn
          rw [if_neg (Nat.lt_irrefl n)] at y2
          rw [eA] at y0
          refine (sclos_is w.heap.size w2.heap.size n len cl w1.heap.size b off _ (Ky.frc k l (Ky.sgn k l l.length) n) w3 hn f3 f4 y0 y1 x1 y2 (R3.free n)).mono ?_
          rintro e w4 ⟨rfl, rfl⟩
          rw [f2]
          refine ⟨rfl, ?_⟩
          by_cases hF : Ky.frc k l (Ky.sgn k l l.length) n = (Ky.at3 l n).2.1
          · rw [if_pos hF]
            rw [if_pos hF] at f1
            refine ⟨⟨hg3, R3.congr fun j hj => ?_⟩, World.grownBy.refl _ _⟩
            by_cases e : j = n
            · subst e; rw [if_neg (Nat.lt_irrefl j), if_pos (by omega), f1]
            · by_cases e2 : j < n
              · rw [if_pos e2, if_pos (by omega)]
              · rw [if_neg e2, if_neg (by omega)]
          · rw [if_neg hF]
            rw [if_neg hF] at f1
            refine ⟨⟨hg3.trans grown_set, (R3.put n _ hn).congr fun j hj => ?_⟩, grown_set⟩
            by_cases e : j = n
            · subst e; rw [if_pos rfl, if_pos (by omega), f1]
            · rw [if_neg e]
              by_cases e2 : j < n
              · rw [if_pos e2, if_pos (by omega)]
              · rw [if_neg e2, if_neg (by omega)]
        rintro e w4 ⟨rfl, ⟨hg4, R4⟩, -⟩
        have y1 := hg4.cell (a := ⟨w2.heap.size, 0, none⟩) kS (fun e => by have := Option.some.inj e; simp at this; omega)
        have B4 : Below w.heap.size w w4 := BW.trans (grown_below hg4 (by omega) (by omega))
        clear kS kL R0 LW GW hg4
        go_wp2_with fail
        go_ret2
        rw [HN.out] at R4
        have hlen := Ky.sgn_length k l len
        refine ⟨some ⟨w1.heap.size, 0, none⟩, len, by rw [hlen]; rfl, R4.sl hlen fun j hj => (by rw [if_pos hj]), by omega, B4⟩
end Go.Proofs.YtnjacgjcoikngaaDoor
