/-
  A pitch that is altered as the key says, moved by the exact interval, is altered as the moved key says: the law KeyScales returns true for every integer, interval, step and octave, and leaves them as they were.
  Conditions: what the listed package variables hold when the call begins (the card ties it to the program's text).
-/
import Derived.Test.YtnjacgjcoikngaaDoorKz
namespace Go.Proofs.YtnjacgjcoikngaaDoor
open Go.RowKit

theorem GK.set {w : World} (h : GK w) (c k : Nat) (v : Value) (hn : 0 ≠ c) : GK (w.setCell ⟨c, k, none⟩ v) :=
  h.of (by simp) fun o => set_cell_ne _ _ _ _ _ _ hn
theorem Glob.set {w : World} (h : Glob w) (c k : Nat) (v : Value) (hn : 1 ≠ c) : Glob (w.setCell ⟨c, k, none⟩ v) :=
  ⟨by simpa using h.lt, fun s h0 h1 => (set_cell_ne _ _ _ _ _ _ hn).trans (h.nums s h0 h1)⟩

set_option maxHeartbeats 1600000 in
set_option maxRecDepth 100000 in
theorem keyScales_walk (k i t s : Int) (hs : 0 ≤ s ∧ s ≤ 255) (o : Int) (ho : 0 ≤ o ∧ o ≤ 255) (w : World) (hG : GK w) (hN : Glob w) :
    Calls Tryd.prog 6 #[.int .i64 k, .agg #[.int .i64 i, .int .i64 t], .int .u8 s, .int .u8 o] w fun e w' => e = .returned (.bool true) ∧ Below w.heap.size w w' := by
  obtain ⟨⟨K, I, T, E⟩, h1⟩ : ∃ r, Ky.moveR k i t = r := ⟨_, rfl⟩
  obtain ⟨v1, hv1⟩ : ∃ v, Ky.kv k = v := ⟨_, rfl⟩
  obtain ⟨v2, hv2⟩ : ∃ v, Pt.iv i t = v := ⟨_, rfl⟩
  have H1 := Lib.hid h1
  have V1 := Lib.hid hv1
  have V2 := Lib.hid hv2
  cases v1 with
  | false =>
    clear h1 hv1 hv2
    go_enter Tryd.func6, Tryd.ntmps6
    go_wp2_with fail
    have B := Below.refl w.heap.size w
    refine (head_any _ (hG.alloc _)).mono ?_; rintro e w1 ⟨rfl, hb⟩
    have P := (At2.new _ (i) (t) _).below hb
    replace hG := (hG.alloc _).below hb
    replace hN := (hN.alloc _).below hb
    replace B := (B.alloc (by have := B.size; simp <;> omega) _).trans (hb.mono (by have := B.size; simp <;> omega))
    clear hb
    have lP := P.lt; have cP0 := P.c0; have cP1 := P.c1
    go_wp2_with fail
    refine (kkey_is _ _ V1.out _).mono ?_; rintro e w9 ⟨rfl, rfl⟩
    go_wp2_with fail
    go_ret
    exact ⟨rfl, B⟩
  | true =>
    cases v2 with
    | false =>
      clear h1 hv1 hv2
      go_enter Tryd.func6, Tryd.ntmps6
      go_wp2_with fail
      have B := Below.refl w.heap.size w
      refine (head_any _ (hG.alloc _)).mono ?_; rintro e w1 ⟨rfl, hb⟩
      have P := (At2.new _ (i) (t) _).below hb
      replace hG := (hG.alloc _).below hb
      replace hN := (hN.alloc _).below hb
      replace B := (B.alloc (by have := B.size; simp <;> omega) _).trans (hb.mono (by have := B.size; simp <;> omega))
      clear hb
      have lP := P.lt; have cP0 := P.c0; have cP1 := P.c1
      go_wp2_with fail
      refine (kkey_is _ _ V1.out _).mono ?_; rintro e w9 ⟨rfl, rfl⟩
      go_wp2_with fail
      refine (kinterval_is _ _ _ V2.out _).mono ?_; rintro e w2 ⟨rfl, hb⟩
      replace P := P.below hb
      replace hG := hG.below hb
      replace hN := hN.below hb
      replace B := B.trans (hb.mono (by have := B.size; simp <;> omega))
      clear hb lP cP0 cP1
      go_wp2_with fail
      go_ret
      exact ⟨rfl, B⟩
    | true =>
      obtain ⟨K', I', hm⟩ := Ky.move_all hv2 hv1
      rw [hm] at h1
      simp only [Prod.mk.injEq] at h1
      obtain ⟨rfl, rfl, rfl, rfl⟩ := h1
      obtain ⟨q1, q2, q3, q4, -, -⟩ := Ky.move_ok hm
      obtain ⟨s0, s1⟩ := hs
      obtain ⟨o0, o1⟩ := ho
      have ws : IntKind.i64.wrap (s.tmod 7) = s.tmod 7 := by rw [IntKind.wrap_i64]; have := Int.tmod_lt_of_pos s (b := 7) (by omega); have := Int.tmod_nonneg 7 s0; omega
      have wo : IntKind.i64.wrap (o.tmod 12) = o.tmod 12 := by rw [IntKind.wrap_i64]; have := Int.tmod_lt_of_pos o (b := 12) (by omega); have := Int.tmod_nonneg 12 o0; omega
      have s2 := Int.tmod_lt_of_pos s (b := 7) (by omega)
      have s3 := Int.tmod_nonneg 7 s0
      have o2 := Int.tmod_lt_of_pos o (b := 12) (by omega)
      have o3 := Int.tmod_nonneg 12 o0
      obtain ⟨S, hS⟩ : ∃ S, s.tmod 7 = S := ⟨_, rfl⟩
      obtain ⟨O, hO⟩ : ∃ O, o.tmod 12 = O := ⟨_, rfl⟩
      rw [hS] at ws s2 s3
      rw [hO] at wo o2 o3
      have A1 : Hid (Ky.altR k S = (Ky.alt k S, 0)) := Lib.hid (by unfold Ky.altR; rw [if_pos (by rw [V1.out]; simp; omega)])
      obtain ⟨⟨X, Y, Z, G⟩, hadd⟩ : ∃ r, Pt.addR S (Ky.alt k S) O I' t = r := ⟨_, rfl⟩
      have HA := Lib.hid hadd
      have ai := Ky.alt_in k S
      have cG : (G = 0 ∧ Ky.altR K' X = (Y, 0)) ∨ (G = 3 ∧ X = 0 ∧ Y = 0 ∧ Z = 0) := by
        have hp : Pt.pv S (Ky.alt k S) O = true := Pt.pv_iff.2 ⟨by omega, by omega, by omega, by omega, by omega, by omega⟩
        by_cases h0 : G = 0
        · subst h0
          have h2 := Ky.scale hm hadd
          obtain ⟨_, _, g3, _, _⟩ := Pt.add_ok hadd
          obtain ⟨x0, x1, _, _, _, _⟩ := Pt.pv_iff.1 g3
          refine .inl ⟨rfl, ?_⟩
          unfold Ky.altR
          rw [if_pos (by rw [q3]; simp; omega), h2]
        · refine .inr ⟨?_, Pt.add_err hadd h0⟩
          unfold Pt.addR at hadd
          rw [hp, q4] at hadd
          simp only [Bool.and_self, if_true] at hadd
          split at hadd <;> simp only [Prod.mk.injEq] at hadd <;> omega
      have ln := hN.lt
      have lg := hG.lt
      clear hm hv1 hv2 q1 q2 q3 q4 hadd
      obtain ⟨ai, aj⟩ := ai
      generalize Ky.alt k S = a at *
      rcases cG with ⟨rfl, hB⟩ | ⟨rfl, rfl, rfl, rfl⟩
      · skip
        go_enter Tryd.func6, Tryd.ntmps6
        go_wp2_with fail
        have B := Below.refl w.heap.size w
        refine (head_any _ (hG.alloc _)).mono ?_; rintro e w1 ⟨rfl, hb⟩
        have P := (At2.new _ (i) (t) _).below hb
        replace hG := (hG.alloc _).below hb
        replace hN := (hN.alloc _).below hb
        replace B := (B.alloc (by have := B.size; simp <;> omega) _).trans (hb.mono (by have := B.size; simp <;> omega))
        clear hb
        have lP := P.lt; have cP0 := P.c0; have cP1 := P.c1
        go_wp2_with fail
        refine (kkey_is _ _ V1.out _).mono ?_; rintro e w9 ⟨rfl, rfl⟩
        go_wp2_with fail
        refine (kinterval_is _ _ _ V2.out _).mono ?_; rintro e w2 ⟨rfl, hb⟩
        replace P := P.below hb
        replace hG := hG.below hb
        replace hN := hN.below hb
        replace B := B.trans (hb.mono (by have := B.size; simp <;> omega))
        clear hb lP cP0 cP1
        have lP := P.lt; have cP0 := P.c0; have cP1 := P.c1
        go_wp2_with fail
        have b2 := B.size
        refine (move_is _ _ _ _ _ _ _ H1.out _).mono ?_; rintro e w3 ⟨rfl, hb⟩
        replace P := (P.alloc _).below hb
        have V := (Var3.new _ S 0 O _).below hb
        replace hG := (hG.alloc _).below hb
        replace hN := (hN.alloc _).below hb
        replace B := (B.alloc (by have := B.size; simp <;> omega) _).trans (hb.mono (by have := B.size; simp <;> omega))
        clear hb lP cP0 cP1
        have cV := V.at3.c0; have v3 := V.at3.lt
        go_wp2_with fail
        refine (alter_is _ _ _ _ A1.out _ (hG.alloc _)).mono ?_; rintro e w4 ⟨rfl, hb⟩
        replace P := (P.alloc _).below hb
        replace V := (V.alloc _).below hb
        have D := (At2.new _ (I') (t) _).below hb
        replace hG := (hG.alloc _).below hb
        replace hN := (hN.alloc _).below hb
        replace B := (B.alloc (by have := B.size; simp <;> omega) _).trans (hb.mono (by have := B.size; simp <;> omega))
        clear hb
        clear cV
        have V1 := V.put1 a
        obtain ⟨⟨lv, x0, x1, x2⟩, y0, y1, y2⟩ := V
        obtain ⟨⟨lw, z0, z1, z2⟩, u0, u1, u2⟩ := V1
        have D1 := D.ne w2.heap.size 1 (.int .i64 a) (by omega)
        have d0 := D1.c0; have d1 := D1.c1; have ld := D1.lt
        have G1 := hG.set w2.heap.size 1 (.int .i64 a) (by omega)
        have N1 := hN.set w2.heap.size 1 (.int .i64 a) (by omega)
        have B1 := B.setCell (p := ⟨w2.heap.size, 1, none⟩) (by simp; omega) (.int .i64 a)
        clear D1 hG hN B D P
        go_wp2_with fail
        refine (add_is _ _ _ _ _ _ _ _ _ HA.out _ N1).mono ?_; rintro e w5 ⟨rfl, hb⟩
        replace G1 := G1.below hb
        replace B1 := B1.trans (hb.mono (by have := B1.size; simp at this ⊢; omega))
        clear hb d0 d1 ld z0 z1 z2 u0 u1 u2 x0 x1 x2 y0 y1 y2 lw lv N1
        go_wp2_with fail
        refine (alter_is _ _ _ _ hB _ (G1.alloc _)).mono ?_; rintro e w6 ⟨rfl, hb⟩
        have Q := (At3.new w5 X Y Z _).below hb
        replace B1 := (B1.alloc (by have := B1.size; simp <;> omega) _).trans (hb.mono (by have := B1.size; simp <;> omega))
        clear hb
        have q0 := Q.c0; have q1 := Q.c1; have q2 := Q.c2; have lq := Q.lt
        go_wp2_with fail
        go_ret
        exact ⟨rfl, B1⟩
      · skip
        go_enter Tryd.func6, Tryd.ntmps6
        go_wp2_with fail
        have B := Below.refl w.heap.size w
        refine (head_any _ (hG.alloc _)).mono ?_; rintro e w1 ⟨rfl, hb⟩
        have P := (At2.new _ (i) (t) _).below hb
        replace hG := (hG.alloc _).below hb
        replace hN := (hN.alloc _).below hb
        replace B := (B.alloc (by have := B.size; simp <;> omega) _).trans (hb.mono (by have := B.size; simp <;> omega))
        clear hb
        have lP := P.lt; have cP0 := P.c0; have cP1 := P.c1
        go_wp2_with fail
        refine (kkey_is _ _ V1.out _).mono ?_; rintro e w9 ⟨rfl, rfl⟩
        go_wp2_with fail
        refine (kinterval_is _ _ _ V2.out _).mono ?_; rintro e w2 ⟨rfl, hb⟩
        replace P := P.below hb
        replace hG := hG.below hb
        replace hN := hN.below hb
        replace B := B.trans (hb.mono (by have := B.size; simp <;> omega))
        clear hb lP cP0 cP1
        have lP := P.lt; have cP0 := P.c0; have cP1 := P.c1
        go_wp2_with fail
        have b2 := B.size
        refine (move_is _ _ _ _ _ _ _ H1.out _).mono ?_; rintro e w3 ⟨rfl, hb⟩
        replace P := (P.alloc _).below hb
        have V := (Var3.new _ S 0 O _).below hb
        replace hG := (hG.alloc _).below hb
        replace hN := (hN.alloc _).below hb
        replace B := (B.alloc (by have := B.size; simp <;> omega) _).trans (hb.mono (by have := B.size; simp <;> omega))
        clear hb lP cP0 cP1
        have cV := V.at3.c0; have v3 := V.at3.lt
        go_wp2_with fail
        refine (alter_is _ _ _ _ A1.out _ (hG.alloc _)).mono ?_; rintro e w4 ⟨rfl, hb⟩
        replace P := (P.alloc _).below hb
        replace V := (V.alloc _).below hb
        have D := (At2.new _ (I') (t) _).below hb
        replace hG := (hG.alloc _).below hb
        replace hN := (hN.alloc _).below hb
        replace B := (B.alloc (by have := B.size; simp <;> omega) _).trans (hb.mono (by have := B.size; simp <;> omega))
        clear hb
        clear cV
        have V1 := V.put1 a
        obtain ⟨⟨lv, x0, x1, x2⟩, y0, y1, y2⟩ := V
        obtain ⟨⟨lw, z0, z1, z2⟩, u0, u1, u2⟩ := V1
        have D1 := D.ne w2.heap.size 1 (.int .i64 a) (by omega)
        have d0 := D1.c0; have d1 := D1.c1; have ld := D1.lt
        have G1 := hG.set w2.heap.size 1 (.int .i64 a) (by omega)
        have N1 := hN.set w2.heap.size 1 (.int .i64 a) (by omega)
        have B1 := B.setCell (p := ⟨w2.heap.size, 1, none⟩) (by simp; omega) (.int .i64 a)
        clear D1 hG hN B D P
        go_wp2_with fail
        refine (add_is _ _ _ _ _ _ _ _ _ HA.out _ N1).mono ?_; rintro e w5 ⟨rfl, hb⟩
        replace G1 := G1.below hb
        replace B1 := B1.trans (hb.mono (by have := B1.size; simp at this ⊢; omega))
        clear hb d0 d1 ld z0 z1 z2 u0 u1 u2 x0 x1 x2 y0 y1 y2 lw lv N1
        go_wp2_with fail
        go_ret
        exact ⟨rfl, B1.alloc (by have := B1.size; simp <;> omega) _⟩
end Go.Proofs.YtnjacgjcoikngaaDoor
