import Derived.Test.YtahdlkdiadlgeaaGAC
import Derived.Deep.LoopGhost
import Derived.Test.YtahdlkdiadlgeaaGAD
import Derived.Test.YtahdlkdiadlgeaaGAB
/- The walks of 'Sum' and 'total' of package ratio. -/
namespace Go.Proofs.Ytahdlkdiadlgeaa
open Go.RowKit

/-- The sum of ratios, one after the other, up to the first error: the numbers, and the error. -/
def Rt.fold (n d : Int) : List (Int × Int) → Int × Int × Int
  | [] => (n, d, 0)
  | x :: r => if (Rt.addR n d x.1 x.2).2.2 = 0 then Rt.fold (Rt.addR n d x.1 x.2).1 (Rt.addR n d x.1 x.2).2.1 r else (0, 0, (Rt.addR n d x.1 x.2).2.2)
theorem Rt.fold_at {n d N D E : Int} {xs : List (Int × Int)} {k : Nat} (hk : k < xs.length) (h : Rt.addR n d xs[k].1 xs[k].2 = (N, D, E)) :
    Rt.fold n d (xs.drop k) = if E = 0 then Rt.fold N D (xs.drop (k + 1)) else (0, 0, E) := by
  rw [List.drop_eq_getElem_cons hk]
  show (if (Rt.addR n d xs[k].1 xs[k].2).2.2 = 0 then _ else _) = _
  rw [h]

/-- The cells of a list of ratios. -/
def RatsAt (w : World) (b off : Nat) (xs : List (Int × Int)) : Prop :=
  ∀ k (h : k < xs.length), w.cell? ⟨b, off + k * 2, none⟩ = some (.int .i64 xs[k].1) ∧ w.cell? ⟨b, off + k * 2 + 1, none⟩ = some (.int .i64 xs[k].2)

/-- A slice's value that reads as a list of ratios. -/
def SliceIs (w : World) (v : Value) (xs : List (Int × Int)) : Prop :=
  (v = .slice none 0 0 ∧ xs = []) ∨ ∃ b off cap, v = .slice (some ⟨b, off, none⟩) xs.length cap ∧ b < w.heap.size ∧ RatsAt w b off xs
theorem RatsAt.below {w w' : World} {b off : Nat} {xs : List (Int × Int)} (h : RatsAt w b off xs) (hb : b < w.heap.size) (hw : Below w.heap.size w w') : RatsAt w' b off xs :=
  fun k hk => ⟨(hw.cell (p := ⟨b, off + k * 2, none⟩) hb).trans (h k hk).1, (hw.cell (p := ⟨b, off + k * 2 + 1, none⟩) hb).trans (h k hk).2⟩
theorem SliceIs.below {w w' : World} {v : Value} {xs : List (Int × Int)} (h : SliceIs w v xs) (hw : Below w.heap.size w w') : SliceIs w' v xs := by
  rcases h with h | ⟨b, off, cap, h1, h2, h3⟩
  · exact Or.inl h
  · exact Or.inr ⟨b, off, cap, h1, Nat.lt_of_lt_of_le h2 hw.size, h3.below h2 hw⟩

set_option maxHeartbeats 400000 in
theorem total_nil (w : World) :
    Calls Try.prog 44 #[.agg #[.int .i64 0, .int .i64 1], .slice none 0 0, .func (.func 13) #[] #[]] w fun e w' =>
      e = .returned (.tuple #[.agg #[.int .i64 0, .int .i64 1], .int .i64 0]) ∧ Below w.heap.size w w' := by
  go_enter Try.func44, Try.ntmps44
  go_wp2_with fail
  refine wp_loop_rounds 1 ?_
  rw [rounds_succ]
  go_wp2_with fail
  refine bodyPost_ret (v := .tuple #[.agg #[.int .i64 0, .int .i64 1], .int .i64 0]) (by simp [results, Try.results44, go_sem]) rfl ⟨rfl, by go_grown⟩

set_option maxHeartbeats 400000 in
theorem total_any (b off cap : Nat) (xs : List (Int × Int)) (w : World) (hb : b < w.heap.size) (hx : RatsAt w b off xs) (hlen : xs.length ≤ 20000) :
    Calls Try.prog 44 #[.agg #[.int .i64 0, .int .i64 1], .slice (some ⟨b, off, none⟩) xs.length cap, .func (.func 13) #[] #[]] w fun e w' =>
      e = .returned (.tuple #[.agg #[.int .i64 (Rt.fold 0 1 xs).1, .int .i64 (Rt.fold 0 1 xs).2.1], .int .i64 (Rt.fold 0 1 xs).2.2]) ∧ Below w.heap.size w w' := by
  have HX := Lib.hid hx
  clear hx
  generalize hl : xs.length = len at *
  have HL := Lib.hid hl
  clear hl
  go_enter Try.func44, Try.ntmps44
  go_wp2_with fail
  go_loopw [10, 11, 12, 17] (fun s10 s11 s12 i wr => ∃ k : Nat, ∃ sn sd : Int, k ≤ len ∧ i = .int .i64 k ∧ Hid (Rt.fold 0 1 xs = Rt.fold sn sd (xs.drop k)) ∧ Below w.heap.size w wr ∧ w.heap.size + 1 + 1 < wr.heap.size ∧
      wr.cell? ⟨w.heap.size + 1, 0, none⟩ = some (.int .i64 0) ∧ wr.cell? ⟨w.heap.size + 1, 1, none⟩ = some (.int .i64 0) ∧
      wr.cell? ⟨w.heap.size + 1 + 1, 0, none⟩ = some (.int .i64 sn) ∧ wr.cell? ⟨w.heap.size + 1 + 1, 1, none⟩ = some (.int .i64 sd) ∧
      wr.frozen? ⟨w.heap.size + 1, 0, none⟩ = false ∧ wr.frozen? ⟨w.heap.size + 1, 1, none⟩ = false ∧
      wr.frozen? ⟨w.heap.size + 1 + 1, 0, none⟩ = false ∧ wr.frozen? ⟨w.heap.size + 1 + 1, 1, none⟩ = false) (fun _ _ _ i _ => len - (intOf i).toNat)
  case atStart => exact ⟨0, 0, 1, by omega, rfl, Lib.hid (by simp), by go_grown, by simp, by go_simp, by go_simp, by go_simp, by go_simp, by go_simp, by go_simp, by go_simp, by go_simp⟩
  case round =>
    obtain ⟨k, sn, sd, hk, rfl, HF, hbw, hz, hc0, hc1, hs0, hs1, hf0, hf1, hg0, hg1⟩ := hrel
    by_cases hlt : k < len
    · have hk' : k < xs.length := by have := HL.out; omega
      have e0 : wr.cell? ⟨b, off + k * 2, none⟩ = some (.int .i64 xs[k].1) := (hbw.cell (p := ⟨b, off + k * 2, none⟩) hb).trans (HX.out k hk').1
      have e1 : wr.cell? ⟨b, off + k * 2 + 1, none⟩ = some (.int .i64 xs[k].2) := (hbw.cell (p := ⟨b, off + k * 2 + 1, none⟩) hb).trans (HX.out k hk').2
      obtain ⟨N, D, E, hadd⟩ : ∃ N D E, Rt.addR sn sd xs[k].1 xs[k].2 = (N, D, E) := ⟨_, _, _, rfl⟩
      have HF' := Lib.hid (HF.out.trans (Rt.fold_at hk' hadd))
      have HA := Lib.hid hadd
      clear HF hadd
      generalize xs[k].1 = xn at *
      generalize xs[k].2 = xd at *
      by_cases hE : E = 0
      · subst hE
        have HG := Lib.hid (HF'.out.trans (if_pos rfl))
        clear HF'
        go_wp2_with fail
        refine (add_is _ _ _ _ _ _ _ HA.out _).mono ?_; rintro e w2 ⟨rfl, hb2⟩
        have hB0 : Below wr.heap.size wr w2 := ((Below.refl _ _).alloc (Nat.le_refl _) _).trans (hb2.mono (by simp))
        have hz2 : w.heap.size + 1 + 1 < w2.heap.size := by have := hB0.size; omega
        have hz4 : w.heap.size + 1 < w2.heap.size := by omega
        have hz5 : w.heap.size + 1 < w2.heap.size + 1 := by omega
        have hz3 : wr.heap.size + 1 ≤ w2.heap.size := by have := hb2.size; simp at this; omega
        have r0 := (hB0.cell (p := ⟨w.heap.size + 1, 0, none⟩) (by simp; omega)).trans hc0
        have r1 := (hB0.cell (p := ⟨w.heap.size + 1, 1, none⟩) (by simp; omega)).trans hc1
        have s0 := (hB0.frozen (p := ⟨w.heap.size + 1, 0, none⟩) (by simp; omega)).trans hf0
        have s1 := (hB0.frozen (p := ⟨w.heap.size + 1, 1, none⟩) (by simp; omega)).trans hf1
        have r2 := (hB0.cell (p := ⟨w.heap.size + 1 + 1, 0, none⟩) (by simp; omega)).trans hs0
        have r3 := (hB0.cell (p := ⟨w.heap.size + 1 + 1, 1, none⟩) (by simp; omega)).trans hs1
        have s2 := (hB0.frozen (p := ⟨w.heap.size + 1 + 1, 0, none⟩) (by simp; omega)).trans hg0
        have s3 := (hB0.frozen (p := ⟨w.heap.size + 1 + 1, 1, none⟩) (by simp; omega)).trans hg1
        have HB := Lib.hid (hbw.trans (hB0.mono (by omega)))
        clear hB0 hb2 hc0 hc1 hs0 hs1 hf0 hf1 hg0 hg1 hbw e0 e1
        go_wp2_with fail
        go_roundw
        case rel => exact ⟨k + 1, N, D, by omega, by go_num, HG, ((HB.out.setCell (by simp; omega) _).setCell (by simp; omega) _).alloc (by simp; omega) _, by simp; omega, by go_simp, by go_simp, by go_simp, by go_simp, by go_simp, by go_simp, by go_simp, by go_simp⟩
        case measure => simp [intOf]; omega
      · have HG := Lib.hid (HF'.out.trans (if_neg hE))
        have hE' : (E != 0) = true := by simpa using hE
        clear HF'
        go_wp2_with fail
        refine (add_is _ _ _ _ _ _ _ HA.out _).mono ?_; rintro e w2 ⟨rfl, hb2⟩
        have hB0 : Below wr.heap.size wr w2 := ((Below.refl _ _).alloc (Nat.le_refl _) _).trans (hb2.mono (by simp))
        have hz2 : w.heap.size + 1 + 1 < w2.heap.size := by have := hB0.size; omega
        have hz4 : w.heap.size + 1 < w2.heap.size := by omega
        have hz5 : w.heap.size + 1 < w2.heap.size + 1 := by omega
        have hz3 : wr.heap.size + 1 ≤ w2.heap.size := by have := hb2.size; simp at this; omega
        have r0 := (hB0.cell (p := ⟨w.heap.size + 1, 0, none⟩) (by simp; omega)).trans hc0
        have r1 := (hB0.cell (p := ⟨w.heap.size + 1, 1, none⟩) (by simp; omega)).trans hc1
        have s0 := (hB0.frozen (p := ⟨w.heap.size + 1, 0, none⟩) (by simp; omega)).trans hf0
        have s1 := (hB0.frozen (p := ⟨w.heap.size + 1, 1, none⟩) (by simp; omega)).trans hf1
        have HB := Lib.hid (hbw.trans (hB0.mono (by omega)))
        clear hB0 hb2 hc0 hc1 hs0 hs1 hf0 hf1 hg0 hg1 hbw e0 e1
        go_wp2_with fail
        have hcl : ∀ (W : World) (o1 o2 : Obj) (j : Nat), W.heap.size = w2.heap.size → ((W.alloc o1).alloc o2).cell? ⟨w.heap.size + 1, j, none⟩ = W.cell? ⟨w.heap.size + 1, j, none⟩ := fun W o1 o2 j h => by
          rw [World.cell?_alloc_lt _ _ _ (by simp; omega), World.cell?_alloc_lt _ _ _ (by simp; omega)]
        refine bodyPost_ret (v := .tuple #[.agg #[.int .i64 0, .int .i64 0], .int .i64 E]) (by simp [results, Try.results44, go_sem, r0, r1, hcl]) rfl ⟨by rw [HG.out], ?_⟩
        exact (((HB.out.setCell (by simp) _).setCell (by simp) _).alloc (by simp; omega) _).alloc (by simp; omega) _
    · have e : k = len := by omega
      have HG : Hid (Rt.fold 0 1 xs = (sn, sd, 0)) := Lib.hid (by rw [HF.out, List.drop_of_length_le (by have := HL.out; omega)]; rfl)
      have HB := Lib.hid hbw
      clear HF hbw hk
      subst e
      go_wp2_with fail
      refine bodyPost_ret (v := .tuple #[.agg #[.int .i64 sn, .int .i64 sd], .int .i64 0]) (by simp [results, Try.results44, go_sem, hc0, hc1]) rfl ⟨by rw [HG.out], ?_⟩
      exact (HB.out.setCell (by simp) _).setCell (by simp) _

def Rt.sumR (xs : List (Int × Int)) : Int × Int × Int := if 20000 < xs.length then (0, 0, 2) else if xs.all (fun x => Rt.vld x.1 x.2) then Rt.fold 0 1 xs else (0, 0, 1)

set_option maxHeartbeats 400000 in
theorem sum_nil (w : World) :
    Calls Try.prog 20 #[.slice none 0 0] w fun e w' =>
      e = .returned (.tuple #[.agg #[.int .i64 0, .int .i64 1], .int .i64 0]) ∧ Below w.heap.size w w' := by
  go_enter Try.func20, Try.ntmps20
  go_wp2_with fail
  refine wp_loop_rounds 1 ?_
  rw [rounds_succ]
  go_wp2_with fail
  refine (total_nil _).mono ?_; rintro e w2 ⟨rfl, hb4⟩
  obtain ⟨hc4, hf4⟩ := bcell hb4
  have q0 : w2.cell? ⟨w.heap.size, 0, none⟩ = some (.int .i64 0) := by rw [hc4 _ _ (by simp)]; go_simp
  have q1 : w2.cell? ⟨w.heap.size, 1, none⟩ = some (.int .i64 0) := by rw [hc4 _ _ (by simp)]; go_simp
  go_wp2_with fail
  refine bodyPost_ret (v := .tuple #[.agg #[.int .i64 0, .int .i64 1], .int .i64 0]) (by simp [results, Try.results20, go_sem, q0, q1]) rfl ⟨rfl, ?_⟩
  exact ((((Below.refl _ _).alloc (Nat.le_refl _) _).trans (hb4.mono (by simp))).setCell (by simp) _).setCell (by simp) _

set_option maxHeartbeats 400000 in
theorem sum_long (a : Option Addr) (len cap : Nat) (w : World) (h : 20000 < len) (h' : len ≤ maxLen) :
    Calls Try.prog 20 #[.slice a len cap] w fun e w' =>
      e = .returned (.tuple #[.agg #[.int .i64 0, .int .i64 0], .int .i64 2]) ∧ Below w.heap.size w w' := by
  unfold maxLen at h'
  go_enter Try.func20, Try.ntmps20
  go_wp2_with fail
  refine bodyPost_ret (v := .tuple #[.agg #[.int .i64 0, .int .i64 0], .int .i64 2]) (by simp [results, Try.results20, go_sem]) rfl ⟨rfl, by go_grown⟩

theorem all_upto {xs : List (Int × Int)} {k : Nat} (h : ∀ j (hj : j < xs.length), j < k → Rt.vld xs[j].1 xs[j].2 = true) (hk : xs.length ≤ k) : xs.all (fun x => Rt.vld x.1 x.2) = true := by
  rw [List.all_eq_true]
  intro x hx
  obtain ⟨j, hj, rfl⟩ := List.getElem_of_mem hx
  exact h j hj (by omega)
theorem all_not {xs : List (Int × Int)} {k : Nat} (hk : k < xs.length) (h : Rt.vld xs[k].1 xs[k].2 = false) : xs.all (fun x => Rt.vld x.1 x.2) = false := by
  refine Bool.eq_false_iff.2 fun h' => ?_
  rw [List.all_eq_true] at h'
  have := h' _ (List.getElem_mem hk)
  rw [h] at this; cases this

set_option maxHeartbeats 400000 in
theorem sum_some (b off cap : Nat) (xs : List (Int × Int)) (w : World) (hb : b < w.heap.size) (hx : RatsAt w b off xs) (hlen : xs.length ≤ 20000) :
    Calls Try.prog 20 #[.slice (some ⟨b, off, none⟩) xs.length cap] w fun e w' =>
      e = .returned (.tuple #[.agg #[.int .i64 (Rt.sumR xs).1, .int .i64 (Rt.sumR xs).2.1], .int .i64 (Rt.sumR xs).2.2]) ∧ Below w.heap.size w w' := by
  have HX := Lib.hid hx
  clear hx
  generalize hl : xs.length = len at *
  have HL := Lib.hid hl
  clear hl
  go_enter Try.func20, Try.ntmps20
  go_wp2_with fail
  go_loopw [5, 12] (fun s5 i wr => ∃ k : Nat, k ≤ len ∧ i = .int .i64 k ∧ Hid (∀ j (hj : j < xs.length), j < k → Rt.vld xs[j].1 xs[j].2 = true) ∧ Below w.heap.size w wr ∧ w.heap.size < wr.heap.size ∧
      wr.cell? ⟨w.heap.size, 0, none⟩ = some (.int .i64 0) ∧ wr.cell? ⟨w.heap.size, 1, none⟩ = some (.int .i64 0) ∧
      wr.frozen? ⟨w.heap.size, 0, none⟩ = false ∧ wr.frozen? ⟨w.heap.size, 1, none⟩ = false) (fun _ i _ => len - (intOf i).toNat)
  case atStart => exact ⟨0, by omega, rfl, Lib.hid (fun j _ h => by omega), by go_grown, by simp, by go_simp, by go_simp, by go_simp, by go_simp⟩
  case round =>
    obtain ⟨k, hk, rfl, HF, hbw, hz, hc0, hc1, hf0, hf1⟩ := hrel
    by_cases hlt : k < len
    · have hk' : k < xs.length := by have := HL.out; omega
      have e0 : wr.cell? ⟨b, off + k * 2, none⟩ = some (.int .i64 xs[k].1) := (hbw.cell (p := ⟨b, off + k * 2, none⟩) hb).trans (HX.out k hk').1
      have e1 : wr.cell? ⟨b, off + k * 2 + 1, none⟩ = some (.int .i64 xs[k].2) := (hbw.cell (p := ⟨b, off + k * 2 + 1, none⟩) hb).trans (HX.out k hk').2
      by_cases hv : Rt.vld xs[k].1 xs[k].2 = true
      · have HV := Lib.hid hv
        have HG : Hid (∀ j (hj : j < xs.length), j < k + 1 → Rt.vld xs[j].1 xs[j].2 = true) := Lib.hid (fun j hj h => by
          by_cases e : j = k
          · subst e; exact hv
          · exact HF.out j hj (by omega))
        clear HF hv
        generalize xs[k].1 = xn at *
        generalize xs[k].2 = xd at *
        go_wp2_with fail
        refine (valid_is _ _ _ HV.out _).mono ?_; rintro e w2 ⟨rfl, hb2⟩
        have hB0 : Below wr.heap.size wr w2 := ((Below.refl _ _).alloc (Nat.le_refl _) _).trans (hb2.mono (by simp))
        have hz2 : w.heap.size < w2.heap.size := by have := hB0.size; omega
        have r0 := (hB0.cell (p := ⟨w.heap.size, 0, none⟩) (by simp; omega)).trans hc0
        have r1 := (hB0.cell (p := ⟨w.heap.size, 1, none⟩) (by simp; omega)).trans hc1
        have s0 := (hB0.frozen (p := ⟨w.heap.size, 0, none⟩) (by simp; omega)).trans hf0
        have s1 := (hB0.frozen (p := ⟨w.heap.size, 1, none⟩) (by simp; omega)).trans hf1
        have HB := Lib.hid (hbw.trans (hB0.mono (by omega)))
        clear hB0 hb2 hc0 hc1 hf0 hf1 hbw e0 e1
        go_wp2_with fail
        go_roundw
        case rel => exact ⟨k + 1, by omega, by go_num, HG, HB.out, hz2, r0, r1, s0, s1⟩
        case measure => simp [intOf]; omega
      · have hv' : Rt.vld xs[k].1 xs[k].2 = false := by simpa using hv
        have HV := Lib.hid hv'
        have HG : Hid (Rt.sumR xs = (0, 0, 1)) := Lib.hid (by
          unfold Rt.sumR
          rw [if_neg (by have := HL.out; omega), all_not hk' hv']; rfl)
        clear HF hv hv'
        generalize xs[k].1 = xn at *
        generalize xs[k].2 = xd at *
        go_wp2_with fail
        refine (valid_is _ _ _ HV.out _).mono ?_; rintro e w2 ⟨rfl, hb2⟩
        have hB0 : Below wr.heap.size wr w2 := ((Below.refl _ _).alloc (Nat.le_refl _) _).trans (hb2.mono (by simp))
        have hz2 : w.heap.size < w2.heap.size := by have := hB0.size; omega
        have r0 := (hB0.cell (p := ⟨w.heap.size, 0, none⟩) (by simp; omega)).trans hc0
        have r1 := (hB0.cell (p := ⟨w.heap.size, 1, none⟩) (by simp; omega)).trans hc1
        have s0 := (hB0.frozen (p := ⟨w.heap.size, 0, none⟩) (by simp; omega)).trans hf0
        have s1 := (hB0.frozen (p := ⟨w.heap.size, 1, none⟩) (by simp; omega)).trans hf1
        have HB := Lib.hid (hbw.trans (hB0.mono (by omega)))
        clear hB0 hb2 hc0 hc1 hf0 hf1 hbw e0 e1
        go_wp2_with fail
        refine bodyPost_ret (v := .tuple #[.agg #[.int .i64 0, .int .i64 0], .int .i64 1]) (by simp [results, Try.results20, go_sem, r0, r1]) rfl ⟨by rw [HG.out], ?_⟩
        exact (HB.out.setCell (by simp) _).setCell (by simp) _
    · have e : k = len := by omega
      have HG : Hid (Rt.sumR xs = Rt.fold 0 1 xs) := Lib.hid (by
        unfold Rt.sumR
        rw [if_neg (by have := HL.out; omega), all_upto HF.out (by have := HL.out; omega)]; rfl)
      have HT : Hid (∀ w', Below w.heap.size w w' → Calls Try.prog 44 #[.agg #[.int .i64 0, .int .i64 1], .slice (some ⟨b, off, none⟩) len cap, .func (.func 13) #[] #[]] w' fun e w'' =>
          e = .returned (.tuple #[.agg #[.int .i64 (Rt.fold 0 1 xs).1, .int .i64 (Rt.fold 0 1 xs).2.1], .int .i64 (Rt.fold 0 1 xs).2.2]) ∧ Below w'.heap.size w' w'') := Lib.hid (fun w' hw => by
        have := total_any b off cap xs w' (Nat.lt_of_lt_of_le hb hw.size) (HX.out.below hb hw) (by have := HL.out; omega)
        rw [HL.out] at this; exact this)
      have HB := Lib.hid hbw
      clear HF hbw hk
      subst e
      go_wp2_with fail
      refine (HT.out _ HB.out).mono ?_; rintro e w2 ⟨rfl, hb2⟩
      have r0 := (hb2.cell (p := ⟨w.heap.size, 0, none⟩) (by simp; omega)).trans hc0
      have r1 := (hb2.cell (p := ⟨w.heap.size, 1, none⟩) (by simp; omega)).trans hc1
      have s0 := (hb2.frozen (p := ⟨w.heap.size, 0, none⟩) (by simp; omega)).trans hf0
      have s1 := (hb2.frozen (p := ⟨w.heap.size, 1, none⟩) (by simp; omega)).trans hf1
      have HB2 := Lib.hid (HB.out.trans (hb2.mono (by omega)))
      clear hb2 hc0 hc1 hf0 hf1
      go_wp2_with fail
      refine bodyPost_ret (v := .tuple #[.agg #[.int .i64 (Rt.fold 0 1 xs).1, .int .i64 (Rt.fold 0 1 xs).2.1], .int .i64 (Rt.fold 0 1 xs).2.2]) (by simp [results, Try.results20, go_sem, r0, r1]) rfl ⟨by rw [HG.out], ?_⟩
      exact (HB2.out.setCell (by simp) _).setCell (by simp) _

theorem sum_is (v : Value) (xs : List (Int × Int)) (N D E : Int) (h : Rt.sumR xs = (N, D, E)) (hm : xs.length ≤ maxLen) (w : World) (hv : SliceIs w v xs) :
    Calls Try.prog 20 #[v] w fun e w' =>
      e = .returned (.tuple #[.agg #[.int .i64 N, .int .i64 D], .int .i64 E]) ∧ Below w.heap.size w w' := by
  rcases hv with ⟨rfl, rfl⟩ | ⟨b, off, cap, rfl, hb, hx⟩
  · have e : Rt.sumR [] = (0, 1, 0) := rfl
    rw [e] at h
    simp only [Prod.mk.injEq] at h
    obtain ⟨rfl, rfl, rfl⟩ := h
    exact sum_nil w
  · by_cases hl : 20000 < xs.length
    · have e : Rt.sumR xs = (0, 0, 2) := by unfold Rt.sumR; rw [if_pos hl]
      rw [e] at h
      simp only [Prod.mk.injEq] at h
      obtain ⟨rfl, rfl, rfl⟩ := h
      exact sum_long _ _ _ w hl hm
    · have := sum_some b off cap xs w hb hx (by omega)
      rw [h] at this
      exact this
end Go.Proofs.Ytahdlkdiadlgeaa

/- Plain facts on what the operators make of ratios; nothing of the program is walked here. -/
namespace Go.Proofs.Ytahdlkdiadlgeaa
end Go.Proofs.Ytahdlkdiadlgeaa
namespace Go.Proofs.Ytahdlkdiadlgeaa.Rt

theorem add_of {a b c d N D : Int} (h1 : vld a b = true) (h2 : vld c d = true) (h3 : vld N D = true) (h : N * (b * d) = D * (a * d + c * b)) : addR a b c d = (N, D, 0) := by
  have l1 := vld_lim h1
  have l2 := vld_lim h2
  obtain ⟨e0, e1, e2⟩ := red_of (n := a * d + c * b) (d := b * d) (Int.mul_ne_zero (by omega) (by omega)) h3 h
  unfold addR opN opD opE
  rw [h1, h2]
  simp [e0, e1, e2]
theorem add_ok {a b c d N D : Int} (h : addR a b c d = (N, D, 0)) : vld a b = true ∧ vld c d = true ∧ vld N D = true ∧ (b * d) ≠ 0 ∧ N * (b * d) = D * (a * d + c * b) := by
  unfold addR opN opD opE at h
  by_cases hv : (vld a b && vld c d) = true
  · rw [hv] at h
    simp only [if_true, Prod.mk.injEq] at h
    obtain ⟨e1, e2, e0⟩ := h
    obtain ⟨g1, g2, g3, _⟩ := red_ok e0
    rw [e1, e2] at g2 g3
    simp only [Bool.and_eq_true] at hv
    exact ⟨hv.1, hv.2, g2, g1, g3⟩
  · rw [if_neg hv, if_neg hv, if_neg hv] at h
    simp at h
theorem add_err {a b c d N D E : Int} (h : addR a b c d = (N, D, E)) (hE : E ≠ 0) : N = 0 ∧ D = 0 ∧ (E = 3 ∧ vld a b = true ∧ vld c d = true ∨ E = 1 ∧ ((vld a b && vld c d) = false ∨ (b * d) = 0)) := by
  unfold addR opN opD opE at h
  by_cases hv : (vld a b && vld c d) = true
  · rw [hv] at h
    simp only [if_true, Prod.mk.injEq] at h
    obtain ⟨e1, e2, e0⟩ := h
    obtain ⟨g1, g2⟩ := red_err (n := a * d + c * b) (d := b * d) (by omega)
    simp only [Bool.and_eq_true] at hv
    refine ⟨by omega, by omega, ?_⟩
    rcases redE_cases (a * d + c * b) (b * d) with g | g | g
    · omega
    · exact Or.inr ⟨by omega, Or.inr (redE_one.1 g)⟩
    · exact Or.inl ⟨by omega, hv.1, hv.2⟩
  · have hv' : (vld a b && vld c d) = false := by simpa using hv
    rw [hv'] at h
    simp at h
    exact ⟨by omega, by omega, Or.inr ⟨by omega, Or.inl hv'⟩⟩

theorem sub_of {a b c d N D : Int} (h1 : vld a b = true) (h2 : vld c d = true) (h3 : vld N D = true) (h : N * (b * d) = D * (a * d - c * b)) : subR a b c d = (N, D, 0) := by
  have l1 := vld_lim h1
  have l2 := vld_lim h2
  obtain ⟨e0, e1, e2⟩ := red_of (n := a * d - c * b) (d := b * d) (Int.mul_ne_zero (by omega) (by omega)) h3 h
  unfold subR opN opD opE
  rw [h1, h2]
  simp [e0, e1, e2]
theorem sub_ok {a b c d N D : Int} (h : subR a b c d = (N, D, 0)) : vld a b = true ∧ vld c d = true ∧ vld N D = true ∧ (b * d) ≠ 0 ∧ N * (b * d) = D * (a * d - c * b) := by
  unfold subR opN opD opE at h
  by_cases hv : (vld a b && vld c d) = true
  · rw [hv] at h
    simp only [if_true, Prod.mk.injEq] at h
    obtain ⟨e1, e2, e0⟩ := h
    obtain ⟨g1, g2, g3, _⟩ := red_ok e0
    rw [e1, e2] at g2 g3
    simp only [Bool.and_eq_true] at hv
    exact ⟨hv.1, hv.2, g2, g1, g3⟩
  · rw [if_neg hv, if_neg hv, if_neg hv] at h
    simp at h
theorem sub_err {a b c d N D E : Int} (h : subR a b c d = (N, D, E)) (hE : E ≠ 0) : N = 0 ∧ D = 0 ∧ (E = 3 ∧ vld a b = true ∧ vld c d = true ∨ E = 1 ∧ ((vld a b && vld c d) = false ∨ (b * d) = 0)) := by
  unfold subR opN opD opE at h
  by_cases hv : (vld a b && vld c d) = true
  · rw [hv] at h
    simp only [if_true, Prod.mk.injEq] at h
    obtain ⟨e1, e2, e0⟩ := h
    obtain ⟨g1, g2⟩ := red_err (n := a * d - c * b) (d := b * d) (by omega)
    simp only [Bool.and_eq_true] at hv
    refine ⟨by omega, by omega, ?_⟩
    rcases redE_cases (a * d - c * b) (b * d) with g | g | g
    · omega
    · exact Or.inr ⟨by omega, Or.inr (redE_one.1 g)⟩
    · exact Or.inl ⟨by omega, hv.1, hv.2⟩
  · have hv' : (vld a b && vld c d) = false := by simpa using hv
    rw [hv'] at h
    simp at h
    exact ⟨by omega, by omega, Or.inr ⟨by omega, Or.inl hv'⟩⟩

theorem mul_of {a b c d N D : Int} (h1 : vld a b = true) (h2 : vld c d = true) (h3 : vld N D = true) (h : N * (b * d) = D * (a * c)) : mulR a b c d = (N, D, 0) := by
  have l1 := vld_lim h1
  have l2 := vld_lim h2
  obtain ⟨e0, e1, e2⟩ := red_of (n := a * c) (d := b * d) (Int.mul_ne_zero (by omega) (by omega)) h3 h
  unfold mulR opN opD opE
  rw [h1, h2]
  simp [e0, e1, e2]
theorem mul_ok {a b c d N D : Int} (h : mulR a b c d = (N, D, 0)) : vld a b = true ∧ vld c d = true ∧ vld N D = true ∧ (b * d) ≠ 0 ∧ N * (b * d) = D * (a * c) := by
  unfold mulR opN opD opE at h
  by_cases hv : (vld a b && vld c d) = true
  · rw [hv] at h
    simp only [if_true, Prod.mk.injEq] at h
    obtain ⟨e1, e2, e0⟩ := h
    obtain ⟨g1, g2, g3, _⟩ := red_ok e0
    rw [e1, e2] at g2 g3
    simp only [Bool.and_eq_true] at hv
    exact ⟨hv.1, hv.2, g2, g1, g3⟩
  · rw [if_neg hv, if_neg hv, if_neg hv] at h
    simp at h
theorem mul_err {a b c d N D E : Int} (h : mulR a b c d = (N, D, E)) (hE : E ≠ 0) : N = 0 ∧ D = 0 ∧ (E = 3 ∧ vld a b = true ∧ vld c d = true ∨ E = 1 ∧ ((vld a b && vld c d) = false ∨ (b * d) = 0)) := by
  unfold mulR opN opD opE at h
  by_cases hv : (vld a b && vld c d) = true
  · rw [hv] at h
    simp only [if_true, Prod.mk.injEq] at h
    obtain ⟨e1, e2, e0⟩ := h
    obtain ⟨g1, g2⟩ := red_err (n := a * c) (d := b * d) (by omega)
    simp only [Bool.and_eq_true] at hv
    refine ⟨by omega, by omega, ?_⟩
    rcases redE_cases (a * c) (b * d) with g | g | g
    · omega
    · exact Or.inr ⟨by omega, Or.inr (redE_one.1 g)⟩
    · exact Or.inl ⟨by omega, hv.1, hv.2⟩
  · have hv' : (vld a b && vld c d) = false := by simpa using hv
    rw [hv'] at h
    simp at h
    exact ⟨by omega, by omega, Or.inr ⟨by omega, Or.inl hv'⟩⟩

theorem add_comm (a b c d : Int) : addR a b c d = addR c d a b := by
  unfold addR
  rw [Bool.and_comm (vld a b), Int.add_comm (a * d), Int.mul_comm b d]
theorem mul_comm (a b c d : Int) : mulR a b c d = mulR c d a b := by
  unfold mulR
  rw [Bool.and_comm (vld a b), Int.mul_comm a c, Int.mul_comm b d]

theorem add_back {a b c d x y : Int} (h : addR a b c d = (x, y, 0)) : subR x y c d = (a, b, 0) := by
  obtain ⟨h1, h2, h3, _, h4⟩ := add_ok h
  exact sub_of h3 h2 h1 (by grind)
theorem add_assoc {a b c d e f x y l m z u : Int} (hx : addR a b c d = (x, y, 0)) (hl : addR x y e f = (l, m, 0)) (hz : addR c d e f = (z, u, 0)) : addR a b z u = (l, m, 0) := by
  obtain ⟨h1, h2, h3, _, h4⟩ := add_ok hx
  obtain ⟨_, g2, g3, _, g4⟩ := add_ok hl
  obtain ⟨_, _, k3, _, k4⟩ := add_ok hz
  have l1 := vld_lim h1
  have l2 := vld_lim h2
  have l3 := vld_lim h3
  have l4 := vld_lim g2
  refine add_of h1 k3 g3 ?_
  have p : y * f * d ≠ 0 := Int.mul_ne_zero (Int.mul_ne_zero (by omega) (by omega)) (by omega)
  refine Int.eq_of_mul_eq_mul_right p ?_
  calc l * (b * u) * (y * f * d) = (l * (y * f)) * (b * u * d) := by grind
    _ = (m * (x * f + e * y)) * (b * u * d) := by rw [g4]
    _ = m * u * ((x * (b * d)) * f + e * y * b * d) := by grind
    _ = m * u * ((y * (a * d + c * b)) * f + e * y * b * d) := by rw [h4]
    _ = m * y * (a * u * f * d + b * (u * (c * f + e * d))) := by grind
    _ = m * y * (a * u * f * d + b * (z * (d * f))) := by rw [k4]
    _ = m * (a * u + z * b) * (y * f * d) := by grind

theorem v01 : vld 0 1 = true := by decide +kernel
theorem v11 : vld 1 1 = true := by decide +kernel
theorem add_zero {a b : Int} (h : vld a b = true) : addR 0 1 a b = (a, b, 0) := add_of v01 h h (by grind)
theorem add_bad {a b c d : Int} (h : (vld a b && vld c d) = false) : addR a b c d = (0, 0, 1) := by
  unfold addR opN opD opE; rw [h]; rfl
/-- The sum of three is that of the first two, and the third. -/
theorem sum_three {a b c d e f x y l m h : Int} (hx : addR a b c d = (x, y, 0)) (hl : addR x y e f = (l, m, h)) : sumR [(a, b), (c, d), (e, f)] = (l, m, h) := by
  obtain ⟨h1, h2, h3, _, _⟩ := add_ok hx
  unfold sumR
  by_cases he : vld e f = true
  · simp only [List.length_cons, List.length_nil, List.all_cons, List.all_nil, h1, h2, he]
    simp only [fold, add_zero h1, hx, hl]
    simp
    by_cases g : h = 0
    · rw [if_pos g, g]
    · have := add_err hl g
      rw [if_neg g, this.1, this.2.1]
  · have he' : vld e f = false := by simpa using he
    have : addR x y e f = (0, 0, 1) := add_bad (by rw [he']; simp)
    rw [this] at hl
    simp only [List.length_cons, List.length_nil, List.all_cons, List.all_nil, h1, h2, he']
    simpa using hl

theorem mul_one {a b : Int} (h : vld a b = true) : mulR a b 1 1 = (a, b, 0) := mul_of h v11 h (by grind)
theorem mul_zero {a b : Int} (h : vld a b = true) : mulR a b 0 1 = (0, 1, 0) := mul_of h v01 v01 (by grind)
theorem mul_add {a b c d e f x y s t z u : Int} (hx : mulR a b c d = (x, y, 0)) (hs : addR c d e f = (s, t, 0)) (hz : mulR a b e f = (z, u, 0)) : mulR a b s t = addR x y z u := by
  obtain ⟨h1, h2, h3, _, h4⟩ := mul_ok hx
  obtain ⟨_, g2, g3, _, g4⟩ := add_ok hs
  obtain ⟨_, _, k3, _, k4⟩ := mul_ok hz
  have l1 := vld_lim h1
  have l2 := vld_lim h2
  have l3 := vld_lim h3
  have l4 := vld_lim g2
  have l5 := vld_lim g3
  have l6 := vld_lim k3
  have e : (a * s) * (y * u) = (x * u + z * y) * (b * t) := by
    have p : d * f ≠ 0 := Int.mul_ne_zero (by omega) (by omega)
    refine Int.eq_of_mul_eq_mul_right p ?_
    calc a * s * (y * u) * (d * f) = a * (y * u) * (s * (d * f)) := by grind
      _ = a * (y * u) * (t * (c * f + e * d)) := by rw [g4]
      _ = t * (u * f * (y * (a * c)) + y * d * (u * (a * e))) := by grind
      _ = t * (u * f * (x * (b * d)) + y * d * (z * (b * f))) := by rw [h4, k4]
      _ = (x * u + z * y) * (b * t) * (d * f) := by grind
  obtain ⟨r0, r1, r2⟩ := red_congr (n := a * s) (d := b * t) (n' := x * u + z * y) (d' := y * u) (Int.mul_ne_zero (by omega) (by omega)) (Int.mul_ne_zero (by omega) (by omega)) e
  unfold mulR addR opN opD opE
  rw [h1, g3, h3, k3]
  simp only [Bool.and_self, if_true]
  rw [r0, r1, r2]

theorem cmp_ok {a b c d : Int} (h1 : vld a b = true) (h2 : vld c d = true) : cmpR a b c d = (cmpI (a * d) (c * b), 0) := by
  unfold cmpR cmpV cmpE; rw [h1, h2]; rfl
theorem cmpI_neg (x y : Int) : cmpI y x = -cmpI x y := by unfold cmpI; split <;> split <;> omega
theorem cmpI_in (x y : Int) : -1 ≤ cmpI x y ∧ cmpI x y ≤ 1 := by unfold cmpI; split <;> (try split) <;> omega
theorem cmpI_lt (x y : Int) : cmpI x y < 0 ↔ x < y := by unfold cmpI; split <;> (try split) <;> omega
theorem cmpI_gt (x y : Int) : 0 < cmpI x y ↔ y < x := by unfold cmpI; split <;> (try split) <;> omega
theorem cmpI_eq (x y : Int) : cmpI x y = 0 ↔ x = y := by unfold cmpI; split <;> (try split) <;> omega
theorem cmp_same {a b c d : Int} (h1 : vld a b = true) (h2 : vld c d = true) : cmpI (a * d) (c * b) = 0 ↔ a = c ∧ b = d := by
  have l1 := vld_lim h1
  have l2 := vld_lim h2
  rw [cmpI_eq]
  exact ⟨fun h => cop_unique (by omega) (by omega) (vld_iff.1 h1).2 (vld_iff.1 h2).2 h, fun ⟨h, h'⟩ => by rw [h, h']⟩
theorem le_trans' {a b c d e f : Int} (hb : 0 < b) (hd : 0 < d) (hf : 0 < f) (h1 : a * d ≤ c * b) (h2 : c * f ≤ e * d) : a * f ≤ e * b := by
  have g1 : a * d * f ≤ c * b * f := Int.mul_le_mul_of_nonneg_right h1 (by omega)
  have g2 : c * f * b ≤ e * d * b := Int.mul_le_mul_of_nonneg_right h2 (by omega)
  have g3 : a * f * d ≤ e * b * d := by
    have e1 : a * f * d = a * d * f := by grind
    have e2 : c * b * f = c * f * b := by grind
    have e3 : e * b * d = e * d * b := by grind
    omega
  exact Int.le_of_mul_le_mul_right g3 hd
theorem lt_trans' {a b c d e f : Int} (hb : 0 < b) (hd : 0 < d) (hf : 0 < f) (h1 : a * d ≤ c * b) (h2 : c * f ≤ e * d) (h3 : a * d < c * b ∨ c * f < e * d) : a * f < e * b := by
  have g1 : a * d * f ≤ c * b * f := Int.mul_le_mul_of_nonneg_right h1 (by omega)
  have g2 : c * f * b ≤ e * d * b := Int.mul_le_mul_of_nonneg_right h2 (by omega)
  have e1 : a * f * d = a * d * f := by grind
  have e2 : c * b * f = c * f * b := by grind
  have e3 : e * b * d = e * d * b := by grind
  have g3 : a * f * d < e * b * d := by
    rcases h3 with h | h
    · have := Int.mul_lt_mul_of_pos_right h hf; omega
    · have := Int.mul_lt_mul_of_pos_right h hb; omega
  exact Int.lt_of_mul_lt_mul_right g3 (by omega)
/-- The sign of a difference. -/
theorem sub_sign {a b c d x y : Int} (h : subR a b c d = (x, y, 0)) : (x < 0 ↔ a * d < c * b) ∧ (0 < x ↔ c * b < a * d) := by
  obtain ⟨h1, h2, h3, _, h4⟩ := sub_ok h
  have l1 := vld_lim h1
  have l2 := vld_lim h2
  have l3 := vld_lim h3
  have p : 0 < b * d := Int.mul_pos (by omega) (by omega)
  have q : 0 < y := by omega
  generalize b * d = P at *
  generalize a * d = A at *
  generalize c * b = C at *
  have s1 : x < 0 ↔ A - C < 0 := by
    constructor
    · intro hx
      have : x * P < 0 := Int.mul_neg_of_neg_of_pos hx p
      refine Int.lt_of_not_ge fun hge => ?_
      have := Int.mul_nonneg (show 0 ≤ y by omega) hge
      omega
    · intro hx
      have : y * (A - C) < 0 := Int.mul_neg_of_pos_of_neg q hx
      refine Int.lt_of_not_ge fun hge => ?_
      have := Int.mul_nonneg hge (show 0 ≤ P by omega)
      omega
  have s2 : 0 < x ↔ 0 < A - C := by
    constructor
    · intro hx
      have : 0 < x * P := Int.mul_pos hx p
      refine Int.lt_of_not_ge fun hge => ?_
      have := Int.mul_nonneg (show 0 ≤ y by omega) (show 0 ≤ -(A - C) by omega)
      rw [Int.mul_neg] at this
      omega
    · intro hx
      have : 0 < y * (A - C) := Int.mul_pos q hx
      refine Int.lt_of_not_ge fun hge => ?_
      have := Int.mul_nonneg (show 0 ≤ -x by omega) (show 0 ≤ P by omega)
      rw [Int.neg_mul] at this
      omega
  exact ⟨by rw [s1]; omega, by rw [s2]; omega⟩

theorem make_ok {n d : Int} (ht : takes n d = true) : makeR n d = (redN n d, redD n d, redE n d) := by
  unfold makeR opN opD opE; rw [ht]; rfl
theorem make_own {a b : Int} (h : vld a b = true) : makeR a b = (a, b, 0) := by
  have l := vld_lim h
  obtain ⟨e0, e1, e2⟩ := red_of (n := a) (d := b) (by omega) h (Int.mul_comm a b)
  rw [make_ok (takes_iff.2 (by omega)), e0, e1, e2]
end Go.Proofs.Ytahdlkdiadlgeaa.Rt

/- Mathematics of forms: in which order bars are played. -/
namespace Go.Proofs.Ytahdlkdiadlgeaa

namespace Fo
/-- Three integers: a repeat (From, Until, Times), an ending or a cut (From, Until, Pass). -/
structure T3 where
  a : Int
  b : Int
  c : Int
deriving instance DecidableEq for T3
/-- A visit: a bar, and the how many-th time it comes. -/
structure V2 where
  b : Int
  p : Int
deriving instance DecidableEq for V2
/-- A form. -/
structure Fm where
  n : Int
  rs : List T3
  es : List T3
  ja : Int
  jt : Int
  jf : Int
  cs : List T3
def at3 (l : List T3) (i : Nat) : T3 := l[i]?.getD ⟨0, 0, 0⟩
theorem at3_eq {l : List T3} {i : Nat} (h : i < l.length) : at3 l i = l[i] := by unfold at3; rw [List.getElem?_eq_getElem h]; rfl
theorem at3_mem {l : List T3} {i : Nat} (h : i < l.length) : at3 l i ∈ l := by rw [at3_eq h]; exact List.getElem_mem h
def inn (x : T3) (bar : Int) : Prop := x.a ≤ bar ∧ bar < x.b
instance (x : T3) (bar : Int) : Decidable (inn x bar) := by unfold inn; infer_instance
/-- A bar is played on a pass. -/
def pld (es : List T3) (bar pass : Int) : Prop := ∀ x ∈ es, inn x bar → x.c = pass
instance (es : List T3) (bar pass : Int) : Decidable (pld es bar pass) := by unfold pld; infer_instance
/-! ### where a repeat begins -/
def six : List T3 → Int → Int
  | [], _ => -1
  | x :: l, bar => if x.a = bar then 0 else if six l bar < 0 then -1 else six l bar + 1
theorem six_ge : ∀ (l : List T3) (bar : Int), -1 ≤ six l bar
  | [], _ => Int.le_refl _
  | b :: l, bar => by
    have := six_ge l bar
    unfold six
    split
    · omega
    · split <;> omega
theorem six_lt : ∀ (l : List T3) (bar : Int), six l bar < l.length
  | [], _ => by unfold six; simp
  | b :: l, bar => by
    have := six_lt l bar
    unfold six
    simp only [List.length_cons]
    split
    · omega
    · split <;> omega
theorem six_at : ∀ {l : List T3} {bar : Int}, 0 ≤ six l bar → (at3 l (six l bar).toNat).a = bar
  | [], bar, h => by unfold six at h; omega
  | b :: l, bar, h => by
    unfold six at h ⊢
    split
    · rename_i e; exact e
    · rename_i e
      rw [if_neg e] at h
      split
      · rename_i h1; rw [if_pos h1] at h; omega
      · rename_i h1
        have ih := six_at (l := l) (bar := bar) (by omega)
        rw [show (six l bar + 1).toNat = (six l bar).toNat + 1 by omega]
        exact ih
theorem six_none : ∀ {l : List T3} {bar : Int}, six l bar < 0 → ∀ x ∈ l, x.a ≠ bar
  | [], _, _, _, hx => by cases hx
  | b :: l, bar, h, x, hx => by
    unfold six at h
    by_cases e : b.a = bar
    · rw [if_pos e] at h; omega
    · rw [if_neg e] at h
      rcases List.mem_cons.1 hx with rfl | hx
      · exact e
      · refine six_none (l := l) ?_ x hx
        split at h
        · assumption
        · omega
theorem six_first : ∀ {l : List T3} {bar : Int} {i : Nat}, i < l.length → (at3 l i).a = bar → (∀ k, k < i → (at3 l k).a ≠ bar) → six l bar = i
  | [], _, _, hi, _, _ => by simp at hi
  | b :: l, bar, 0, _, h, _ => by unfold six; rw [if_pos (show b.a = bar from h)]; rfl
  | b :: l, bar, i + 1, hi, h, hk => by
    have e : b.a ≠ bar := hk 0 (by omega)
    have ih := six_first (l := l) (bar := bar) (i := i) (by simpa using hi) h (fun k hk2 => hk (k + 1) (by omega))
    unfold six
    rw [if_neg e, if_neg (by omega), ih]
    rfl
/-! ### the order -/
/-- The bars of one pass, up to the m-th one from lo on. -/
def pas (es : List T3) (lo pass : Int) : Nat → List Int
  | 0 => []
  | m + 1 => pas es lo pass m ++ (if pld es (lo + m) pass then [lo + m] else [])
/-- All passes: k of them, from first on. -/
def pss (es : List T3) (x : T3) (first : Int) : Nat → List Int
  | 0 => []
  | k + 1 => pss es x first k ++ pas es x.a (first + k) (x.b - x.a).toNat
def blk (f : Fm) (again : Bool) (bar : Int) : List Int := if six f.rs bar < 0 then [bar] else
  pss f.es (at3 f.rs (six f.rs bar).toNat) (if again then (at3 f.rs (six f.rs bar).toNat).c else 1) ((at3 f.rs (six f.rs bar).toNat).c + 1 - (if again then (at3 f.rs (six f.rs bar).toNat).c else 1)).toNat
def nxt (f : Fm) (bar : Int) : Int := if six f.rs bar < 0 then bar + 1 else (at3 f.rs (six f.rs bar).toNat).b
def prt (f : Fm) (again : Bool) (hi : Int) : Nat → Int → List Int
  | 0, _ => []
  | k + 1, bar => if bar < hi then blk f again bar ++ prt f again hi k (nxt f bar) else []
def up (f : Fm) : Prop := ∀ x ∈ f.rs, x.a < x.b
theorem nxt_lt {f : Fm} (h : up f) (bar : Int) : bar < nxt f bar := by
  unfold nxt
  split
  · omega
  · rename_i h0
    have h1 := six_at (l := f.rs) (bar := bar) (by omega)
    have h2 := six_lt f.rs bar
    have h3 := h _ (at3_mem (l := f.rs) (i := (six f.rs bar).toNat) (by omega))
    omega
theorem prt_fuel {f : Fm} (h : up f) (again : Bool) (hi : Int) : ∀ (k : Nat) (bar : Int), (hi - bar).toNat ≤ k → prt f again hi k bar = prt f again hi (k + 1) bar
  | 0, bar, hk => by
    unfold prt
    rw [if_neg (by omega)]
  | k + 1, bar, hk => by
    have h1 := nxt_lt h bar
    conv => lhs; unfold prt
    conv => rhs; unfold prt
    by_cases hb : bar < hi
    · rw [if_pos hb, if_pos hb, prt_fuel h again hi k (nxt f bar) (by omega)]
    · rw [if_neg hb, if_neg hb]
theorem prt_more {f : Fm} (h : up f) (again : Bool) (hi : Int) (bar : Int) : ∀ (k : Nat), (hi - bar).toNat ≤ k → prt f again hi k bar = prt f again hi (hi - bar).toNat bar := fun k hk => by
  obtain ⟨m, rfl⟩ : ∃ m, k = (hi - bar).toNat + m := ⟨k - (hi - bar).toNat, by omega⟩
  induction m with
  | zero => rfl
  | succ m ih => rw [← Nat.add_assoc, ← prt_fuel h again hi _ bar (by omega)]; exact ih (by omega)
/-- From bar on to before hi. -/
def par (f : Fm) (again : Bool) (bar hi : Int) : List Int := prt f again hi (hi - bar).toNat bar
theorem par_end (f : Fm) (again : Bool) {bar hi : Int} (h : ¬ bar < hi) : par f again bar hi = [] := by
  unfold par
  rw [show (hi - bar).toNat = 0 by omega]
  rfl
theorem par_step {f : Fm} (h : up f) (again : Bool) {bar hi : Int} (hb : bar < hi) : par f again bar hi = blk f again bar ++ par f again (nxt f bar) hi := by
  have h1 := nxt_lt h bar
  obtain ⟨k, hk⟩ : ∃ k, (hi - bar).toNat = k + 1 := ⟨(hi - bar).toNat - 1, by omega⟩
  unfold par
  rw [hk]
  conv => lhs; unfold prt
  rw [if_pos hb, prt_more h again hi (nxt f bar) k (by omega)]
/-- All bars, without cuts. -/
def whl (f : Fm) : List Int := if f.ja = 0 then par f false 0 f.n else par f false 0 f.ja ++ par f true f.jt f.jf
/-! ### visits -/
def visA : List Int → List Int → List V2
  | _, [] => []
  | acc, b :: r => ⟨b, (acc.count b : Int) + 1⟩ :: visA (acc ++ [b]) r
def vis (l : List Int) : List V2 := visA [] l
theorem visA_snoc : ∀ (l acc : List Int) (b : Int), visA acc (l ++ [b]) = visA acc l ++ [⟨b, ((acc ++ l).count b : Int) + 1⟩]
  | [], acc, b => by simp [visA]
  | x :: l, acc, b => by
    rw [List.cons_append, visA, visA, visA_snoc l (acc ++ [x]) b]
    simp
theorem vis_snoc (l : List Int) (b : Int) : vis (l ++ [b]) = vis l ++ [⟨b, (l.count b : Int) + 1⟩] := visA_snoc l [] b
theorem visA_length : ∀ (l acc : List Int), (visA acc l).length = l.length
  | [], _ => rfl
  | _ :: l, acc => by rw [visA, List.length_cons, visA_length l, List.length_cons]
theorem vis_length (l : List Int) : (vis l).length = l.length := visA_length l []
/-- A cut leaves out a visit. -/
def lvs (c : T3) (v : V2) : Prop := inn c v.b ∧ (c.c = 0 ∨ c.c = v.p)
instance (c : T3) (v : V2) : Decidable (lvs c v) := by unfold lvs; infer_instance
def lft (cs : List T3) (v : V2) : Prop := ∃ c ∈ cs, lvs c v
instance (cs : List T3) (v : V2) : Decidable (lft cs v) := by unfold lft; infer_instance
/-- The order of a form. -/
def unf (f : Fm) : List V2 := (vis (whl f)).filter fun v => !decide (lft f.cs v)
/-! ### well-formed -/
def wi (l : List T3) (bar : Int) : Prop := ∃ x ∈ l, x.a < bar ∧ bar < x.b
instance (l : List T3) (bar : Int) : Decidable (wi l bar) := by unfold wi; infer_instance
def ins (l : List T3) (lo hi : Int) : Prop := ∃ x ∈ l, x.a ≤ lo ∧ hi ≤ x.b
instance (l : List T3) (lo hi : Int) : Decidable (ins l lo hi) := by unfold ins; infer_instance
def chR (n : Int) : Int → List T3 → Prop
  | _, [] => True
  | last, x :: l => (last ≤ x.a ∧ x.a < x.b ∧ x.b ≤ n ∧ 1 ≤ x.c ∧ x.c ≤ 9) ∧ chR n x.b l
def chE (rs : List T3) : Int → List T3 → Prop
  | _, [] => True
  | last, x :: l => (last ≤ x.a ∧ x.a < x.b ∧ ins rs x.a x.b ∧ 1 ≤ x.c ∧ x.c ≤ 9) ∧ chE rs x.b l
def okJ (f : Fm) : Prop := (f.ja = 0 ∧ f.jt = 0 ∧ f.jf = 0) ∨ ((1 ≤ f.ja ∧ f.ja ≤ f.n ∧ 0 ≤ f.jt ∧ f.jt < f.ja ∧ f.jt < f.jf ∧ f.jf ≤ f.n) ∧ ¬ wi f.rs f.ja ∧ ¬ wi f.rs f.jt ∧ ¬ wi f.rs f.jf)
def okC (n : Int) (c : T3) : Prop := 0 ≤ c.a ∧ c.a < c.b ∧ c.b ≤ n ∧ 0 ≤ c.c ∧ c.c ≤ 20
structure Val (f : Fm) : Prop where
  n : 1 ≤ f.n ∧ f.n ≤ 4000
  rl : f.rs.length ≤ 100
  rs : chR f.n 0 f.rs
  el : f.es.length ≤ 100
  es : chE f.rs 0 f.es
  j : okJ f
  cl : f.cs.length ≤ 100
  cs : ∀ c ∈ f.cs, okC f.n c
  cd : f.cs.Nodup
  most : (whl f).length ≤ 20000
theorem chR_all {n : Int} : ∀ {last : Int} {l : List T3}, 0 ≤ last → chR n last l → ∀ x ∈ l, 0 ≤ x.a ∧ last ≤ x.a ∧ x.a < x.b ∧ x.b ≤ n ∧ 1 ≤ x.c ∧ x.c ≤ 9
  | _, [], _, _, x, hx => by cases hx
  | last, y :: l, h0, ⟨h1, h2⟩, x, hx => by
    rcases List.mem_cons.1 hx with rfl | hx
    · omega
    · have := chR_all (last := y.b) (by omega) h2 x hx
      omega
theorem Val.up {f : Fm} (h : Val f) : up f := fun x hx => (chR_all (Int.le_refl 0) h.rs x hx).2.2.1
end Fo
end Go.Proofs.Ytahdlkdiadlgeaa
