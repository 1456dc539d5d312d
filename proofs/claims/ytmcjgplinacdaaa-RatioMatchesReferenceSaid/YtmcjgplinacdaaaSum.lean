/- The walks of 'Sum' and 'total' of package ratio. -/
import Derived.Test.YtmcjgplinacdaaaOps
import Derived.Deep.LoopGhost
namespace Go.Proofs.Ytmcjgplinacdaaa
open Go.RowKit

/-- The sum of ratios, one after the other, up to the first error: the numbers, and the error. -/
def Rt.fold (n d : Int) : List (Int × Int) → Int × Int × Int
  | [] => (n, d, 0)
  | x :: r => if (Rt.addR n d x.1 x.2).2.2 = 0 then Rt.fold (Rt.addR n d x.1 x.2).1 (Rt.addR n d x.1 x.2).2.1 r else (0, 0, (Rt.addR n d x.1 x.2).2.2)
theorem Rt.fold_at {n d N D E : Int} {xs : List (Int × Int)} {k : Nat} (hk : k < xs.length) (h : Rt.addR n d xs[k].1 xs[k].2 = (N, D, E)) :
    Rt.fold n d (xs.drop k) = if E = 0 then Rt.fold N D (xs.drop (k + 1)) else (0, 0, E) := by
  rw [List.drop_eq_getElem_cons hk]
  show (if (Rt.addR n d xs[k].1 xs[k].2).2.2 = 0 then _ else _) = _
  rw [h]

/-- The cells of a list of ratios. -/
def RatsAt (w : World) (b off : Nat) (xs : List (Int × Int)) : Prop :=
  ∀ k (h : k < xs.length), w.cell? ⟨b, off + k * 2, none⟩ = some (.int .i64 xs[k].1) ∧ w.cell? ⟨b, off + k * 2 + 1, none⟩ = some (.int .i64 xs[k].2)

/-- A slice's value that reads as a list of ratios. -/
def SliceIs (w : World) (v : Value) (xs : List (Int × Int)) : Prop :=
  (v = .slice none 0 0 ∧ xs = []) ∨ ∃ b off cap, v = .slice (some ⟨b, off, none⟩) xs.length cap ∧ b < w.heap.size ∧ RatsAt w b off xs
theorem RatsAt.below {w w' : World} {b off : Nat} {xs : List (Int × Int)} (h : RatsAt w b off xs) (hb : b < w.heap.size) (hw : Below w.heap.size w w') : RatsAt w' b off xs :=
  fun k hk => ⟨(hw.cell (p := ⟨b, off + k * 2, none⟩) hb).trans (h k hk).1, (hw.cell (p := ⟨b, off + k * 2 + 1, none⟩) hb).trans (h k hk).2⟩
theorem SliceIs.below {w w' : World} {v : Value} {xs : List (Int × Int)} (h : SliceIs w v xs) (hw : Below w.heap.size w w') : SliceIs w' v xs := by
  rcases h with h | ⟨b, off, cap, h1, h2, h3⟩
  · exact Or.inl h
  · exact Or.inr ⟨b, off, cap, h1, Nat.lt_of_lt_of_le h2 hw.size, h3.below h2 hw⟩

set_option maxHeartbeats 400000 in
theorem total_nil (w : World) :
    Calls Try.prog 43 #[.agg #[.int .i64 0, .int .i64 1], .slice none 0 0, .func (.func 15) #[] #[]] w fun e w' =>
      e = .returned (.tuple #[.agg #[.int .i64 0, .int .i64 1], .int .i64 0]) ∧ Below w.heap.size w w' := by
  go_enter Try.func43, Try.ntmps43
  go_wp2_with fail
  refine wp_loop_rounds 1 ?_
  rw [rounds_succ]
  go_wp2_with fail
  refine bodyPost_ret (v := .tuple #[.agg #[.int .i64 0, .int .i64 1], .int .i64 0]) (by simp [results, Try.results43, go_sem]) rfl ⟨rfl, by go_grown⟩

set_option maxHeartbeats 400000 in
theorem total_any (b off cap : Nat) (xs : List (Int × Int)) (w : World) (hb : b < w.heap.size) (hx : RatsAt w b off xs) (hlen : xs.length ≤ 20000) :
    Calls Try.prog 43 #[.agg #[.int .i64 0, .int .i64 1], .slice (some ⟨b, off, none⟩) xs.length cap, .func (.func 15) #[] #[]] w fun e w' =>
      e = .returned (.tuple #[.agg #[.int .i64 (Rt.fold 0 1 xs).1, .int .i64 (Rt.fold 0 1 xs).2.1], .int .i64 (Rt.fold 0 1 xs).2.2]) ∧ Below w.heap.size w w' := by
  have HX := Lib.hid hx
  clear hx
  generalize hl : xs.length = len at *
  have HL := Lib.hid hl
  clear hl
  go_enter Try.func43, Try.ntmps43
  go_wp2_with fail
  go_loopw [10, 11, 12, 17] (fun s10 s11 s12 i wr => ∃ k : Nat, ∃ sn sd : Int, k ≤ len ∧ i = .int .i64 k ∧ Hid (Rt.fold 0 1 xs = Rt.fold sn sd (xs.drop k)) ∧ Below w.heap.size w wr ∧ w.heap.size + 1 + 1 < wr.heap.size ∧
      wr.cell? ⟨w.heap.size + 1, 0, none⟩ = some (.int .i64 0) ∧ wr.cell? ⟨w.heap.size + 1, 1, none⟩ = some (.int .i64 0) ∧
      wr.cell? ⟨w.heap.size + 1 + 1, 0, none⟩ = some (.int .i64 sn) ∧ wr.cell? ⟨w.heap.size + 1 + 1, 1, none⟩ = some (.int .i64 sd) ∧
      wr.frozen? ⟨w.heap.size + 1, 0, none⟩ = false ∧ wr.frozen? ⟨w.heap.size + 1, 1, none⟩ = false ∧
      wr.frozen? ⟨w.heap.size + 1 + 1, 0, none⟩ = false ∧ wr.frozen? ⟨w.heap.size + 1 + 1, 1, none⟩ = false) (fun _ _ _ i _ => len - (intOf i).toNat)
  case atStart => exact ⟨0, 0, 1, by omega, rfl, Lib.hid (by simp), by go_grown, by simp, by go_simp, by go_simp, by go_simp, by go_simp, by go_simp, by go_simp, by go_simp, by go_simp⟩
  case round =>
    obtain ⟨k, sn, sd, hk, rfl, HF, hbw, hz, hc0, hc1, hs0, hs1, hf0, hf1, hg0, hg1⟩ := hrel
    by_cases hlt : k < len
    · have hk' : k < xs.length := by have := HL.out; omega
      have e0 : wr.cell? ⟨b, off + k * 2, none⟩ = some (.int .i64 xs[k].1) := (hbw.cell (p := ⟨b, off + k * 2, none⟩) hb).trans (HX.out k hk').1
      have e1 : wr.cell? ⟨b, off + k * 2 + 1, none⟩ = some (.int .i64 xs[k].2) := (hbw.cell (p := ⟨b, off + k * 2 + 1, none⟩) hb).trans (HX.out k hk').2
      obtain ⟨N, D, E, hadd⟩ : ∃ N D E, Rt.addR sn sd xs[k].1 xs[k].2 = (N, D, E) := ⟨_, _, _, rfl⟩
      have HF' := Lib.hid (HF.out.trans (Rt.fold_at hk' hadd))
      have HA := Lib.hid hadd
      clear HF hadd
      generalize xs[k].1 = xn at *
      generalize xs[k].2 = xd at *
      by_cases hE : E = 0
      · subst hE
        have HG := Lib.hid (HF'.out.trans (if_pos rfl))
        clear HF'
        go_wp2_with fail
        refine (add_is _ _ _ _ _ _ _ HA.out _).mono ?_; rintro e w2 ⟨rfl, hb2⟩
        have hB0 : Below wr.heap.size wr w2 := ((Below.refl _ _).alloc (Nat.le_refl _) _).trans (hb2.mono (by simp))
        have hz2 : w.heap.size + 1 + 1 < w2.heap.size := by have := hB0.size; omega
        have hz4 : w.heap.size + 1 < w2.heap.size := by omega
        have hz5 : w.heap.size + 1 < w2.heap.size + 1 := by omega
        have hz3 : wr.heap.size + 1 ≤ w2.heap.size := by have := hb2.size; simp at this; omega
        have r0 := (hB0.cell (p := ⟨w.heap.size + 1, 0, none⟩) (by simp; omega)).trans hc0
        have r1 := (hB0.cell (p := ⟨w.heap.size + 1, 1, none⟩) (by simp; omega)).trans hc1
        have s0 := (hB0.frozen (p := ⟨w.heap.size + 1, 0, none⟩) (by simp; omega)).trans hf0
        have s1 := (hB0.frozen (p := ⟨w.heap.size + 1, 1, none⟩) (by simp; omega)).trans hf1
        have r2 := (hB0.cell (p := ⟨w.heap.size + 1 + 1, 0, none⟩) (by simp; omega)).trans hs0
        have r3 := (hB0.cell (p := ⟨w.heap.size + 1 + 1, 1, none⟩) (by simp; omega)).trans hs1
        have s2 := (hB0.frozen (p := ⟨w.heap.size + 1 + 1, 0, none⟩) (by simp; omega)).trans hg0
        have s3 := (hB0.frozen (p := ⟨w.heap.size + 1 + 1, 1, none⟩) (by simp; omega)).trans hg1
        have HB := Lib.hid (hbw.trans (hB0.mono (by omega)))
        clear hB0 hb2 hc0 hc1 hs0 hs1 hf0 hf1 hg0 hg1 hbw e0 e1
        go_wp2_with fail
        go_roundw
        case rel => exact ⟨k + 1, N, D, by omega, by go_num, HG, ((HB.out.setCell (by simp; omega) _).setCell (by simp; omega) _).alloc (by simp; omega) _, by simp; omega, by go_simp, by go_simp, by go_simp, by go_simp, by go_simp, by go_simp, by go_simp, by go_simp⟩
        case measure => simp [intOf]; omega
      · have HG := Lib.hid (HF'.out.trans (if_neg hE))
        have hE' : (E != 0) = true := by simpa using hE
        clear HF'
        go_wp2_with fail
        refine (add_is _ _ _ _ _ _ _ HA.out _).mono ?_; rintro e w2 ⟨rfl, hb2⟩
        have hB0 : Below wr.heap.size wr w2 := ((Below.refl _ _).alloc (Nat.le_refl _) _).trans (hb2.mono (by simp))
        have hz2 : w.heap.size + 1 + 1 < w2.heap.size := by have := hB0.size; omega
        have hz4 : w.heap.size + 1 < w2.heap.size := by omega
        have hz5 : w.heap.size + 1 < w2.heap.size + 1 := by omega
        have hz3 : wr.heap.size + 1 ≤ w2.heap.size := by have := hb2.size; simp at this; omega
        have r0 := (hB0.cell (p := ⟨w.heap.size + 1, 0, none⟩) (by simp; omega)).trans hc0
        have r1 := (hB0.cell (p := ⟨w.heap.size + 1, 1, none⟩) (by simp; omega)).trans hc1
        have s0 := (hB0.frozen (p := ⟨w.heap.size + 1, 0, none⟩) (by simp; omega)).trans hf0
        have s1 := (hB0.frozen (p := ⟨w.heap.size + 1, 1, none⟩) (by simp; omega)).trans hf1
        have HB := Lib.hid (hbw.trans (hB0.mono (by omega)))
        clear hB0 hb2 hc0 hc1 hs0 hs1 hf0 hf1 hg0 hg1 hbw e0 e1
        go_wp2_with fail
        have hcl : ∀ (W : World) (o1 o2 : Obj) (j : Nat), W.heap.size = w2.heap.size → ((W.alloc o1).alloc o2).cell? ⟨w.heap.size + 1, j, none⟩ = W.cell? ⟨w.heap.size + 1, j, none⟩ := fun W o1 o2 j h => by
          rw [World.cell?_alloc_lt _ _ _ (by simp; omega), World.cell?_alloc_lt _ _ _ (by simp; omega)]
        refine bodyPost_ret (v := .tuple #[.agg #[.int .i64 0, .int .i64 0], .int .i64 E]) (by simp [results, Try.results43, go_sem, r0, r1, hcl]) rfl ⟨by rw [HG.out], ?_⟩
        exact (((HB.out.setCell (by simp) _).setCell (by simp) _).alloc (by simp; omega) _).alloc (by simp; omega) _
    · have e : k = len := by omega
      have HG : Hid (Rt.fold 0 1 xs = (sn, sd, 0)) := Lib.hid (by rw [HF.out, List.drop_of_length_le (by have := HL.out; omega)]; rfl)
      have HB := Lib.hid hbw
      clear HF hbw hk
      subst e
      go_wp2_with fail
      refine bodyPost_ret (v := .tuple #[.agg #[.int .i64 sn, .int .i64 sd], .int .i64 0]) (by simp [results, Try.results43, go_sem, hc0, hc1]) rfl ⟨by rw [HG.out], ?_⟩
      exact (HB.out.setCell (by simp) _).setCell (by simp) _

def Rt.sumR (xs : List (Int × Int)) : Int × Int × Int := if 20000 < xs.length then (0, 0, 2) else if xs.all (fun x => Rt.vld x.1 x.2) then Rt.fold 0 1 xs else (0, 0, 1)

set_option maxHeartbeats 400000 in
theorem sum_nil (w : World) :
    Calls Try.prog 23 #[.slice none 0 0] w fun e w' =>
      e = .returned (.tuple #[.agg #[.int .i64 0, .int .i64 1], .int .i64 0]) ∧ Below w.heap.size w w' := by
  go_enter Try.func23, Try.ntmps23
  go_wp2_with fail
  refine wp_loop_rounds 1 ?_
  rw [rounds_succ]
  go_wp2_with fail
  refine (total_nil _).mono ?_; rintro e w2 ⟨rfl, hb4⟩
  obtain ⟨hc4, hf4⟩ := bcell hb4
  have q0 : w2.cell? ⟨w.heap.size, 0, none⟩ = some (.int .i64 0) := by rw [hc4 _ _ (by simp)]; go_simp
  have q1 : w2.cell? ⟨w.heap.size, 1, none⟩ = some (.int .i64 0) := by rw [hc4 _ _ (by simp)]; go_simp
  go_wp2_with fail
  refine bodyPost_ret (v := .tuple #[.agg #[.int .i64 0, .int .i64 1], .int .i64 0]) (by simp [results, Try.results23, go_sem, q0, q1]) rfl ⟨rfl, ?_⟩
  exact ((((Below.refl _ _).alloc (Nat.le_refl _) _).trans (hb4.mono (by simp))).setCell (by simp) _).setCell (by simp) _

set_option maxHeartbeats 400000 in
theorem sum_long (a : Option Addr) (len cap : Nat) (w : World) (h : 20000 < len) (h' : len ≤ maxLen) :
    Calls Try.prog 23 #[.slice a len cap] w fun e w' =>
      e = .returned (.tuple #[.agg #[.int .i64 0, .int .i64 0], .int .i64 2]) ∧ Below w.heap.size w w' := by
  unfold maxLen at h'
  go_enter Try.func23, Try.ntmps23
  go_wp2_with fail
  refine bodyPost_ret (v := .tuple #[.agg #[.int .i64 0, .int .i64 0], .int .i64 2]) (by simp [results, Try.results23, go_sem]) rfl ⟨rfl, by go_grown⟩

theorem all_upto {xs : List (Int × Int)} {k : Nat} (h : ∀ j (hj : j < xs.length), j < k → Rt.vld xs[j].1 xs[j].2 = true) (hk : xs.length ≤ k) : xs.all (fun x => Rt.vld x.1 x.2) = true := by
  rw [List.all_eq_true]
  intro x hx
  obtain ⟨j, hj, rfl⟩ := List.getElem_of_mem hx
  exact h j hj (by omega)
theorem all_not {xs : List (Int × Int)} {k : Nat} (hk : k < xs.length) (h : Rt.vld xs[k].1 xs[k].2 = false) : xs.all (fun x => Rt.vld x.1 x.2) = false := by
  refine Bool.eq_false_iff.2 fun h' => ?_
  rw [List.all_eq_true] at h'
  have := h' _ (List.getElem_mem hk)
  rw [h] at this; cases this

set_option maxHeartbeats 400000 in
theorem sum_some (b off cap : Nat) (xs : List (Int × Int)) (w : World) (hb : b < w.heap.size) (hx : RatsAt w b off xs) (hlen : xs.length ≤ 20000) :
    Calls Try.prog 23 #[.slice (some ⟨b, off, none⟩) xs.length cap] w fun e w' =>
      e = .returned (.tuple #[.agg #[.int .i64 (Rt.sumR xs).1, .int .i64 (Rt.sumR xs).2.1], .int .i64 (Rt.sumR xs).2.2]) ∧ Below w.heap.size w w' := by
  have HX := Lib.hid hx
  clear hx
  generalize hl : xs.length = len at *
  have HL := Lib.hid hl
  clear hl
  go_enter Try.func23, Try.ntmps23
  go_wp2_with fail
  go_loopw [5, 12] (fun s5 i wr => ∃ k : Nat, k ≤ len ∧ i = .int .i64 k ∧ Hid (∀ j (hj : j < xs.length), j < k → Rt.vld xs[j].1 xs[j].2 = true) ∧ Below w.heap.size w wr ∧ w.heap.size < wr.heap.size ∧
      wr.cell? ⟨w.heap.size, 0, none⟩ = some (.int .i64 0) ∧ wr.cell? ⟨w.heap.size, 1, none⟩ = some (.int .i64 0) ∧
      wr.frozen? ⟨w.heap.size, 0, none⟩ = false ∧ wr.frozen? ⟨w.heap.size, 1, none⟩ = false) (fun _ i _ => len - (intOf i).toNat)
  case atStart => exact ⟨0, by omega, rfl, Lib.hid (fun j _ h => by omega), by go_grown, by simp, by go_simp, by go_simp, by go_simp, by go_simp⟩
  case round =>
    obtain ⟨k, hk, rfl, HF, hbw, hz, hc0, hc1, hf0, hf1⟩ := hrel
    by_cases hlt : k < len
    · have hk' : k < xs.length := by have := HL.out; omega
      have e0 : wr.cell? ⟨b, off + k * 2, none⟩ = some (.int .i64 xs[k].1) := (hbw.cell (p := ⟨b, off + k * 2, none⟩) hb).trans (HX.out k hk').1
      have e1 : wr.cell? ⟨b, off + k * 2 + 1, none⟩ = some (.int .i64 xs[k].2) := (hbw.cell (p := ⟨b, off + k * 2 + 1, none⟩) hb).trans (HX.out k hk').2
      by_cases hv : Rt.vld xs[k].1 xs[k].2 = true
      · have HV := Lib.hid hv
        have HG : Hid (∀ j (hj : j < xs.length), j < k + 1 → Rt.vld xs[j].1 xs[j].2 = true) := Lib.hid (fun j hj h => by
          by_cases e : j = k
          · subst e; exact hv
          · exact HF.out j hj (by omega))
        clear HF hv
        generalize xs[k].1 = xn at *
        generalize xs[k].2 = xd at *
        go_wp2_with fail
        refine (valid_is _ _ _ HV.out _).mono ?_; rintro e w2 ⟨rfl, hb2⟩
        have hB0 : Below wr.heap.size wr w2 := ((Below.refl _ _).alloc (Nat.le_refl _) _).trans (hb2.mono (by simp))
        have hz2 : w.heap.size < w2.heap.size := by have := hB0.size; omega
        have r0 := (hB0.cell (p := ⟨w.heap.size, 0, none⟩) (by simp; omega)).trans hc0
        have r1 := (hB0.cell (p := ⟨w.heap.size, 1, none⟩) (by simp; omega)).trans hc1
        have s0 := (hB0.frozen (p := ⟨w.heap.size, 0, none⟩) (by simp; omega)).trans hf0
        have s1 := (hB0.frozen (p := ⟨w.heap.size, 1, none⟩) (by simp; omega)).trans hf1
        have HB := Lib.hid (hbw.trans (hB0.mono (by omega)))
        clear hB0 hb2 hc0 hc1 hf0 hf1 hbw e0 e1
        go_wp2_with fail
        go_roundw
        case rel => exact ⟨k + 1, by omega, by go_num, HG, HB.out, hz2, r0, r1, s0, s1⟩
        case measure => simp [intOf]; omega
      · have hv' : Rt.vld xs[k].1 xs[k].2 = false := by simpa using hv
        have HV := Lib.hid hv'
        have HG : Hid (Rt.sumR xs = (0, 0, 1)) := Lib.hid (by
          unfold Rt.sumR
          rw [if_neg (by have := HL.out; omega), all_not hk' hv']; rfl)
        clear HF hv hv'
        generalize xs[k].1 = xn at *
        generalize xs[k].2 = xd at *
        go_wp2_with fail
        refine (valid_is _ _ _ HV.out _).mono ?_; rintro e w2 ⟨rfl, hb2⟩
        have hB0 : Below wr.heap.size wr w2 := ((Below.refl _ _).alloc (Nat.le_refl _) _).trans (hb2.mono (by simp))
        have hz2 : w.heap.size < w2.heap.size := by have := hB0.size; omega
        have r0 := (hB0.cell (p := ⟨w.heap.size, 0, none⟩) (by simp; omega)).trans hc0
        have r1 := (hB0.cell (p := ⟨w.heap.size, 1, none⟩) (by simp; omega)).trans hc1
        have s0 := (hB0.frozen (p := ⟨w.heap.size, 0, none⟩) (by simp; omega)).trans hf0
        have s1 := (hB0.frozen (p := ⟨w.heap.size, 1, none⟩) (by simp; omega)).trans hf1
        have HB := Lib.hid (hbw.trans (hB0.mono (by omega)))
        clear hB0 hb2 hc0 hc1 hf0 hf1 hbw e0 e1
        go_wp2_with fail
        refine bodyPost_ret (v := .tuple #[.agg #[.int .i64 0, .int .i64 0], .int .i64 1]) (by simp [results, Try.results23, go_sem, r0, r1]) rfl ⟨by rw [HG.out], ?_⟩
        exact (HB.out.setCell (by simp) _).setCell (by simp) _
    · have e : k = len := by omega
      have HG : Hid (Rt.sumR xs = Rt.fold 0 1 xs) := Lib.hid (by
        unfold Rt.sumR
        rw [if_neg (by have := HL.out; omega), all_upto HF.out (by have := HL.out; omega)]; rfl)
      have HT : Hid (∀ w', Below w.heap.size w w' → Calls Try.prog 43 #[.agg #[.int .i64 0, .int .i64 1], .slice (some ⟨b, off, none⟩) len cap, .func (.func 15) #[] #[]] w' fun e w'' =>
          e = .returned (.tuple #[.agg #[.int .i64 (Rt.fold 0 1 xs).1, .int .i64 (Rt.fold 0 1 xs).2.1], .int .i64 (Rt.fold 0 1 xs).2.2]) ∧ Below w'.heap.size w' w'') := Lib.hid (fun w' hw => by
        have := total_any b off cap xs w' (Nat.lt_of_lt_of_le hb hw.size) (HX.out.below hb hw) (by have := HL.out; omega)
        rw [HL.out] at this; exact this)
      have HB := Lib.hid hbw
      clear HF hbw hk
      subst e
      go_wp2_with fail
      refine (HT.out _ HB.out).mono ?_; rintro e w2 ⟨rfl, hb2⟩
      have r0 := (hb2.cell (p := ⟨w.heap.size, 0, none⟩) (by simp; omega)).trans hc0
      have r1 := (hb2.cell (p := ⟨w.heap.size, 1, none⟩) (by simp; omega)).trans hc1
      have s0 := (hb2.frozen (p := ⟨w.heap.size, 0, none⟩) (by simp; omega)).trans hf0
      have s1 := (hb2.frozen (p := ⟨w.heap.size, 1, none⟩) (by simp; omega)).trans hf1
      have HB2 := Lib.hid (HB.out.trans (hb2.mono (by omega)))
      clear hb2 hc0 hc1 hf0 hf1
      go_wp2_with fail
      refine bodyPost_ret (v := .tuple #[.agg #[.int .i64 (Rt.fold 0 1 xs).1, .int .i64 (Rt.fold 0 1 xs).2.1], .int .i64 (Rt.fold 0 1 xs).2.2]) (by simp [results, Try.results23, go_sem, r0, r1]) rfl ⟨by rw [HG.out], ?_⟩
      exact (HB2.out.setCell (by simp) _).setCell (by simp) _

theorem sum_is (v : Value) (xs : List (Int × Int)) (N D E : Int) (h : Rt.sumR xs = (N, D, E)) (hm : xs.length ≤ maxLen) (w : World) (hv : SliceIs w v xs) :
    Calls Try.prog 23 #[v] w fun e w' =>
      e = .returned (.tuple #[.agg #[.int .i64 N, .int .i64 D], .int .i64 E]) ∧ Below w.heap.size w w' := by
  rcases hv with ⟨rfl, rfl⟩ | ⟨b, off, cap, rfl, hb, hx⟩
  · have e : Rt.sumR [] = (0, 1, 0) := rfl
    rw [e] at h
    simp only [Prod.mk.injEq] at h
    obtain ⟨rfl, rfl, rfl⟩ := h
    exact sum_nil w
  · by_cases hl : 20000 < xs.length
    · have e : Rt.sumR xs = (0, 0, 2) := by unfold Rt.sumR; rw [if_pos hl]
      rw [e] at h
      simp only [Prod.mk.injEq] at h
      obtain ⟨rfl, rfl, rfl⟩ := h
      exact sum_long _ _ _ w hl hm
    · have := sum_some b off cap xs w hb hx (by omega)
      rw [h] at this
      exact this
end Go.Proofs.Ytmcjgplinacdaaa
