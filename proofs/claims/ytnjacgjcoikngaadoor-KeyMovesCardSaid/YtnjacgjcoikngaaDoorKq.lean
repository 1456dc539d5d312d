/- The walk of the reference's Read. -/
import Derived.Test.YtnjacgjcoikngaaDoorKj
import Derived.Test.YtnjacgjcoikngaaDoorKd
import Derived.Test.YtnjacgjcoikngaaDoorKv
namespace Go.Proofs.YtnjacgjcoikngaaDoor
open Go.RowKit Go.Maps Go.WideMaps

/-- The cells of a list of pitches. -/
def flatP (m : List Ky.P3) : List Value := m.flatMap fun p => [.int .i64 p.1, .int .i64 p.2.1, .int .i64 p.2.2]
theorem flatP_length (m : List Ky.P3) : (flatP m).length = m.length * 3 := by
  induction m with
  | nil => rfl
  | cons p r ih => unfold flatP at *; rw [List.flatMap_cons, List.length_append, ih]; simp; omega
theorem flatP_at : ∀ (m : List Ky.P3) (k : Nat), k < m.length → (flatP m)[k * 3]? = some (.int .i64 (Ky.at3 m k).1) ∧ (flatP m)[k * 3 + 1]? = some (.int .i64 (Ky.at3 m k).2.1) ∧ (flatP m)[k * 3 + 2]? = some (.int .i64 (Ky.at3 m k).2.2)
  | p :: r, 0, _ => ⟨rfl, rfl, rfl⟩
  | p :: r, k + 1, h => by
    have ih := flatP_at r k (by simpa using h)
    have e : flatP (p :: r) = .int .i64 p.1 :: .int .i64 p.2.1 :: .int .i64 p.2.2 :: flatP r := rfl
    have e2 : Ky.at3 (p :: r) (k + 1) = Ky.at3 r k := by unfold Ky.at3; rw [List.getElem?_cons_succ]
    rw [e, e2, show (k + 1) * 3 = k * 3 + 1 + 1 + 1 by omega, show k * 3 + 1 + 1 + 1 + 1 = (k * 3 + 1) + 1 + 1 + 1 by omega, show k * 3 + 1 + 1 + 1 + 2 = (k * 3 + 2) + 1 + 1 + 1 by omega]
    simp only [List.getElem?_cons_succ]
    exact ih
theorem own_slp {w : World} {base : Nat} {e : TypeId} {v : Value} {n : Nat} {m : List Ky.P3} (h : w.ownsRow base e 3 v n (flatP m)) : m.length = n ∧ ∃ A cap, v = .slice A n cap ∧ SlP w A m := by
  have hl : m.length = n := by have := h.1; rw [flatP_length] at this; omega
  refine ⟨hl, ?_⟩
  rcases h.2 with ⟨hv, hn⟩ | ⟨b, cap, cur, hv, hb, hg, _⟩
  · subst hn
    exact ⟨none, 0, hv, fun h0 => by omega⟩
  · refine ⟨some ⟨b, 0, none⟩, cap, hv, fun h0 => ⟨b, 0, rfl, (Array.getElem?_eq_some_iff.1 hg).1, fun k hk => ?_⟩⟩
    have e : ∀ j, (⟨b, 0, none⟩ : Addr).add j = ⟨b, j, none⟩ := fun j => by unfold Addr.add; split <;> simp_all
    obtain ⟨h1, h2, h3⟩ := flatP_at m k hk
    have c1 := h.cells (g := b) (by rw [hv]; rfl) _ _ h1
    have c2 := h.cells (g := b) (by rw [hv]; rfl) _ _ h2
    have c3 := h.cells (g := b) (by rw [hv]; rfl) _ _ h3
    rw [e] at c1 c2 c3
    rw [Nat.zero_add]
    exact ⟨c1, c2, c3⟩
theorem cell_three (w : World) (x y z : Value) (t : TypeId) : ∀ j u, [x, y, z][j]? = some u → (w.alloc (.cells #[x, y, z] t)).cell? ((⟨w.heap.size, 0, none⟩ : Addr).add j) = some u := by
  intro j u hj
  match j, hj with
  | 0, hj => simp at hj; subst hj; simp [Addr.add]
  | 1, hj => simp at hj; subst hj; simp [Addr.add]
  | 2, hj => simp at hj; subst hj; simp [Addr.add]
namespace Ky
theorem rds_succ (k : Int) (l : List P3) (g : List Int) (n : Nat) : rds k l g (n + 1) = rds k l g n ++ [rdP k l g n] := by
  unfold rds
  rw [List.range_succ, List.map_append]
  rfl
end Ky
theorem flatP_app (m : List Ky.P3) (p : Ky.P3) : flatP (m ++ [p]) = flatP m ++ [.int .i64 p.1, .int .i64 p.2.1, .int .i64 p.2.2] := by
  unfold flatP
  rw [List.flatMap_append]
  rfl

theorem Var3.put1 {w : World} {b : Nat} {x y z : Int} (h : Var3 w b x y z) (v : Int) : Var3 (w.setCell ⟨b, 1, none⟩ (.int .i64 v)) b x v z := by
  obtain ⟨⟨l, c0, c1, c2⟩, f0, f1, f2⟩ := h
  refine ⟨⟨?_, ?_, ?_, ?_⟩, ?_, ?_, ?_⟩
  · simpa using l
  all_goals go_simp

set_option maxHeartbeats 3200000 in
theorem kread_is (k : Int) (l : List Ky.P3) (g : List Int) (m : List Ky.P3) (E : Int) (len cl gl gcl : Nat) (A D : Option Addr) (h : Ky.readR k l g = (m, E)) (hl : l.length = len) (hg : g.length = gl) (hbig : len ≤ 9223372036854775807) (hbig2 : gl ≤ 9223372036854775807)
    (w : World) (hL : SlP w A l) (hD : SlI w D g) :
    Calls Tryd.prog 20 #[.int .i64 k, .slice A len cl, .slice D gl gcl] w fun e w' => ∃ C cap, e = .returned (.tuple #[.slice C m.length cap, .int .i64 E]) ∧ SlP w' C m ∧ Below w.heap.size w w' := by
  unfold Ky.readR at h
  rw [hl] at h
  by_cases h1 : 1000 < len
  · rw [if_pos h1] at h
    simp only [Prod.mk.injEq] at h
    obtain ⟨rfl, rfl⟩ := h
    clear hL hD
    go_enter Tryd.func20, Tryd.ntmps20
    go_wp2_with fail
    go_ret2
    exact ⟨none, 0, rfl, fun h => by simp at h, Below.refl _ _⟩
  · rw [if_neg h1] at h
    have HL := Lib.hid hL
    have HD := Lib.hid hD
    have HN := Lib.hid hl
    have HM := Lib.hid hg
    obtain ⟨v1, hk⟩ : ∃ v, Ky.kv k = v := ⟨_, rfl⟩
    have HK := Lib.hid hk
    clear hL hD
    cases v1 with
    | false =>
      rw [hk, if_neg (by simp)] at h
      simp only [Prod.mk.injEq] at h
      obtain ⟨rfl, rfl⟩ := h
      clear hk hl hg
      go_enter Tryd.func20, Tryd.ntmps20
      go_wp2_with fail
      refine (kkey_is _ _ HK.out _).mono ?_; rintro e w1 ⟨rfl, rfl⟩
      go_wp2_with fail
      go_ret2
      exact ⟨none, 0, rfl, fun h => by simp at h, Below.refl _ _⟩
    | true =>
      by_cases hgl : gl = len
      · subst hgl
        have h' : (if Ky.oks l g = true then (Ky.rds k l g gl, (0 : Int)) else ([], 1)) = (m, E) := by
          by_cases ho : Ky.oks l g = true
          · rw [if_pos ⟨hk, by omega, ho⟩] at h; rw [if_pos ho, h]
          · rw [if_neg (fun e => ho e.2.2)] at h; rw [if_neg ho, h]
        have HR := Lib.hid h'
        have hlen1 : gl ≤ 1000 := by omega
        obtain ⟨k0, k1⟩ := Ky.kv_iff.1 hk
        clear h h' hk hl hg
        obtain ⟨i0, hi, hz0, hz1, hz2⟩ := info_parts infoPitch
        go_enter Tryd.func20, Tryd.ntmps20
        go_wp2_with fail
        refine (kkey_is _ _ HK.out _).mono ?_; rintro e w1 ⟨rfl, rfl⟩
        go_wp2_with fail
        go_loopw [8, 9] (fun s8 s9 wr => ∃ n : Nat, n ≤ gl ∧ s9 = .int .i64 n ∧ wr.ownsRow w.heap.size 44 3 s8 n (flatP (Ky.rds k l g n)) ∧ Hid (∀ j, j < n → Ky.okAt l g j = true) ∧ Below w.heap.size w wr) (fun _ s9 _ => gl - (intOf s9).toNat)
        case atStart => exact ⟨0, Nat.zero_le _, rfl, World.ownsRow_nil _ _ _ _, Lib.hid (fun j hj => by omega), Below.refl _ _⟩
        case round =>
          obtain ⟨n, hn, rfl, hown, HA, hG⟩ := hrel
          obtain ⟨hlm, C, cap, rfl, hsl⟩ := own_slp hown
          by_cases hlt : n < gl
          · have hLr : SlP wr A l := HL.out.below (hG.mono (Nat.le_refl _))
            have hDr : SlI wr D g := HD.out.below (hG.mono (Nat.le_refl _))
            have HF := Lib.hid (fun (ws : World) (hb : Below wr.heap.size wr ws) => kforce_is k l g n gl gl cl gcl A D _ rfl HN.out HM.out hlt (by omega) (by omega) (by omega) (by omega) ws (hLr.below hb) (hDr.below hb) (fun j hj => by
              have := HA.out j hj
              unfold Ky.okAt at this
              rw [Bool.and_eq_true] at this
              simpa using this.2))
            obtain ⟨b, off, rfl, hb, hc⟩ := HL.out (by have := HN.out; omega)
            obtain ⟨x0, x1, x2⟩ := hc n (by have := HN.out; omega)
            replace x0 := (hG.cell (p := ⟨b, off + n * 3, none⟩) hb).trans x0
            replace x1 := (hG.cell (p := ⟨b, off + n * 3 + 1, none⟩) hb).trans x1
            replace x2 := (hG.cell (p := ⟨b, off + n * 3 + 2, none⟩) hb).trans x2
            obtain ⟨b2, off2, rfl, hb2, hc2⟩ := HD.out (by have := HM.out; omega)
            have x3 := (hG.cell (p := ⟨b2, off2 + n, none⟩) hb2).trans (hc2 n (by have := HM.out; omega))
            obtain ⟨V, hV⟩ : ∃ V, Pt.pv (Ky.at3 l n).1 0 (Ky.at3 l n).2.2 = V := ⟨_, rfl⟩
            have HV := Lib.hid hV
            have HOK : Hid (Ky.okAt l g n = (V && sok (Ky.atI g n))) := Lib.hid (by unfold Ky.okAt; rw [hV]; rfl)
            have HRD : Hid (Ky.rds k l g (n + 1) = Ky.rds k l g n ++ [((Ky.at3 l n).1, (if Ky.atI g n = 0 then Ky.frc k l g n else Ky.atI g n - 10), (Ky.at3 l n).2.2)]) := Lib.hid (Ky.rds_succ k l g n)
            have BAD : Hid (Ky.okAt l g n = false → m = [] ∧ E = 1) := Lib.hid (fun hbad => by
              have h := HR.out
              rw [if_neg (by
                intro ho
                have := List.all_eq_true.1 ho n (List.mem_range.2 (by have := HN.out; omega))
                rw [hbad] at this; cases this)] at h
              simp only [Prod.mk.injEq] at h
              exact ⟨h.1.symm, h.2.symm⟩)
            clear hc hc2 hV hLr hDr hsl
            generalize (Ky.at3 l n).1 = s at *
            generalize (Ky.at3 l n).2.1 = a at *
            generalize (Ky.at3 l n).2.2 = o at *
            generalize Ky.atI g n = z at *
            generalize Ky.frc k l g n = F at *
            cases V with
            | false =>
              go_wp2_with fail
              refine (kpitch_is _ _ _ _ HV.out _).mono ?_; rintro e w2 ⟨rfl, hb2⟩
              have G2 : Below wr.heap.size wr w2 := ((Below.refl _ _).alloc (Nat.le_refl _) _).trans (hb2.mono (by simp))
              replace hG := hG.trans (G2.mono hG.size)
              obtain ⟨rfl, rfl⟩ := BAD.out (by rw [HOK.out]; rfl)
              clear hb2 G2 x0 x1 x2 x3 hown hi hz0 hz1 hz2
              go_wp2_with fail
              go_ret2
              exact ⟨none, 0, rfl, fun h => by simp at h, hG⟩
            | true =>
              by_cases hz : z = 0
              · subst hz
                have hsk : sok 0 = true := rfl
                go_wp2_with fail
                refine (kpitch_is _ _ _ _ HV.out _).mono ?_; rintro e w2 ⟨rfl, hb2⟩
                have G2 : Below wr.heap.size wr w2 := ((Below.refl _ _).alloc (Nat.le_refl _) _).trans (hb2.mono (by simp))
                have P := (Var3.new wr s 0 o _).below hb2
                replace x3 := keep_cell (keep_alloc x3 _) hb2
                have P1 := P.put1 (-10)
                have G3 := G2.setCell (p := ⟨wr.heap.size, 1, none⟩) (by simp) (.int .i64 (-10))
                obtain ⟨⟨lp, p0, p1, p2⟩, f0, f1, f2⟩ := P
                have x4 : (w2.setCell ⟨wr.heap.size, 1, none⟩ (.int .i64 (-10))).cell? ⟨b2, off2 + n, none⟩ = some (.int .i64 0) := (set_cell_ne _ _ _ _ _ _ (by have := hG.size; omega)).trans x3
                clear hb2 G2 x0 x1 x2
                go_wp2_with fail
                refine (HF.out _ G3).mono ?_; rintro e w3 ⟨rfl, hb3⟩
                replace P1 := P1.below hb3
                replace G3 := G3.trans (hb3.mono G3.size)
                have P2 := P1.put1 F
                have G4 := G3.setCell (p := ⟨wr.heap.size, 1, none⟩) (by simp) (.int .i64 F)
                obtain ⟨⟨lq, q0, q1, q2⟩, e0, e1, e2⟩ := P1
                clear hb3 p0 p1 p2 f0 f1 f2 lp x3 x4
                have hown' := hown.kept (below_grown G4 none) none_ne
                have hG' := hG.trans (G4.mono hG.size)
                have HNEWS : ∀ j u, [Value.int .i64 s, Value.int .i64 (F), Value.int .i64 o][j]? = some u → ((w3.setCell ⟨wr.heap.size, 1, none⟩ (.int .i64 (F))).alloc (.cells #[.int .i64 s, .int .i64 (F), .int .i64 o] 44)).cell? ((⟨w3.heap.size, 0, none⟩ : Addr).add j) = some u := fun j u hj => by
                  have h := cell_three (w3.setCell ⟨wr.heap.size, 1, none⟩ (.int .i64 (F))) (.int .i64 s) (.int .i64 (F)) (.int .i64 o) 44 j u hj
                  rw [World.size_setCell] at h
                  exact h
                go_wp2_with (first | (at_builtin; refine wpList_append_own _ rfl _ _ 24 rfl w.heap.size 44 i0 (.agg #[.int .i64 0, .int .i64 0, .int .i64 0]) 3 24 Tryd.underlying24 hi hz0 hz1 hz2 rfl (by decide) _ _ _ rfl (hown'.alloc _) ⟨w3.heap.size, 0, none⟩ 1 1 [.int .i64 s, .int .i64 (F), .int .i64 o] rfl rfl HNEWS (fun u hu => by simp at hu; rcases hu with rfl | rfl | rfl <;> rfl) (by unfold maxLen; omega) (by omega) (by have := hG'.size; simp at this ⊢; omega) ?_; intro v' w4 hown4 hgrow hnil) | fail)
                go_roundw
                case rel =>
                  refine ⟨n + 1, by omega, by simp, ?_, Lib.hid (fun j hj => ?_), (hG'.alloc hG'.size _).grown hgrow (by have := hG'.size; simp at this ⊢; omega) (own_ne hown)⟩
                  · rw [HRD.out, flatP_app, if_pos trivial]
                    exact hown4
                  · by_cases e : j = n
                    · subst e; rw [HOK.out, hsk]; rfl
                    · exact HA.out j (by omega)
                case measure => simp [intOf] <;> omega
              · have hz' : (z == 0) = false := by simpa using hz
                obtain ⟨y, hy⟩ : ∃ y, (decide (6 ≤ z) && decide (z ≤ 14)) = y := ⟨_, rfl⟩
                have HY := Lib.hid hy
                have hsk : sok z = y := by unfold sok; rw [hy]; simp [hz]
                cases y with
                | false =>
                  clear hy
                  go_wp2_with fail
                  refine (kpitch_is _ _ _ _ HV.out _).mono ?_; rintro e w2 ⟨rfl, hb2⟩
                  have G2 : Below wr.heap.size wr w2 := ((Below.refl _ _).alloc (Nat.le_refl _) _).trans (hb2.mono (by simp))
                  replace hG := hG.trans (G2.mono hG.size)
                  replace x3 := keep_cell (keep_alloc x3 _) hb2
                  obtain ⟨rfl, rfl⟩ := BAD.out (by rw [HOK.out, hsk]; rfl)
                  clear hb2 G2 x0 x1 x2 hown hi hz0 hz1 hz2
                  go_wp2_with fail
                  refine (kin_is _ _ _ _ HY.out _).mono ?_; rintro e w2 ⟨rfl, rfl⟩
                  go_wp2_with fail
                  go_ret2
                  exact ⟨none, 0, rfl, fun h => by simp at h, hG⟩
                | true =>
                  simp only [Bool.and_eq_true, decide_eq_true_eq] at hy
                  obtain ⟨z6, z14⟩ := hy
                  go_wp2_with fail
                  refine (kpitch_is _ _ _ _ HV.out _).mono ?_; rintro e w2 ⟨rfl, hb2⟩
                  have G2 : Below wr.heap.size wr w2 := ((Below.refl _ _).alloc (Nat.le_refl _) _).trans (hb2.mono (by simp))
                  have P := (Var3.new wr s 0 o _).below hb2
                  replace x3 := keep_cell (keep_alloc x3 _) hb2
                  have P1 := P.put1 (z - 10)
                  have G3 := G2.setCell (p := ⟨wr.heap.size, 1, none⟩) (by simp) (.int .i64 (z - 10))
                  obtain ⟨⟨lp, p0, p1, p2⟩, f0, f1, f2⟩ := P
                  clear hb2 x0 x1 x2
                  go_wp2_with fail
                  refine (kin_is _ _ _ _ HY.out _).mono ?_; rintro e w2 ⟨rfl, rfl⟩
                  have x4 : (w2.setCell ⟨wr.heap.size, 1, none⟩ (.int .i64 (z - 10))).cell? ⟨b2, off2 + n, none⟩ = some (.int .i64 z) := (set_cell_ne _ _ _ _ _ _ (by have := hG.size; omega)).trans x3
                  have P2 := P1
                  have G4 := G3
                  obtain ⟨⟨lq, q0, q1, q2⟩, e0, e1, e2⟩ := P1
                  have hown' := hown.kept (below_grown G4 none) none_ne
                  have hG' := hG.trans (G4.mono hG.size)
                  have HNEWS : ∀ j u, [Value.int .i64 s, Value.int .i64 (z - 10), Value.int .i64 o][j]? = some u → ((w2.setCell ⟨wr.heap.size, 1, none⟩ (.int .i64 (z - 10))).alloc (.cells #[.int .i64 s, .int .i64 (z - 10), .int .i64 o] 44)).cell? ((⟨w2.heap.size, 0, none⟩ : Addr).add j) = some u := fun j u hj => by
                    have h := cell_three (w2.setCell ⟨wr.heap.size, 1, none⟩ (.int .i64 (z - 10))) (.int .i64 s) (.int .i64 (z - 10)) (.int .i64 o) 44 j u hj
                    rw [World.size_setCell] at h
                    exact h
                  go_wp2_with (first | (at_builtin; refine wpList_append_own _ rfl _ _ 24 rfl w.heap.size 44 i0 (.agg #[.int .i64 0, .int .i64 0, .int .i64 0]) 3 24 Tryd.underlying24 hi hz0 hz1 hz2 rfl (by decide) _ _ _ rfl (hown'.alloc _) ⟨w2.heap.size, 0, none⟩ 1 1 [.int .i64 s, .int .i64 (z - 10), .int .i64 o] rfl rfl HNEWS (fun u hu => by simp at hu; rcases hu with rfl | rfl | rfl <;> rfl) (by unfold maxLen; omega) (by omega) (by have := hG'.size; simp at this ⊢; omega) ?_; intro v' w4 hown4 hgrow hnil) | fail)
                  go_roundw
                  case rel =>
                    refine ⟨n + 1, by omega, by simp, ?_, Lib.hid (fun j hj => ?_), (hG'.alloc hG'.size _).grown hgrow (by have := hG'.size; simp at this ⊢; omega) (own_ne hown)⟩
                    · rw [HRD.out, flatP_app, if_neg hz]
                      exact hown4
                    · by_cases e : j = n
                      · subst e; rw [HOK.out, hsk]; rfl
                      · exact HA.out j (by omega)
                  case measure => simp [intOf] <;> omega
          · have hmE : m = Ky.rds k l g gl ∧ E = 0 := by
              have h := HR.out
              rw [if_pos (by
                unfold Ky.oks
                rw [List.all_eq_true]
                intro j hj
                exact HA.out j (by have := List.mem_range.1 hj; have := HN.out; omega))] at h
              simp only [Prod.mk.injEq] at h
              exact ⟨h.1.symm, h.2.symm⟩
            obtain ⟨rfl, rfl⟩ := hmE
            obtain rfl : n = gl := by omega
            go_wp2_with fail
            go_ret2
            exact ⟨C, cap, by rw [hlm]; rfl, hsl, hG⟩
      · have hgl' : ((gl : Int) == (len : Int)) = false := by simp; omega
        rw [if_neg (by rintro ⟨_, e, _⟩; omega)] at h
        simp only [Prod.mk.injEq] at h
        obtain ⟨rfl, rfl⟩ := h
        clear hk hl hg
        go_enter Tryd.func20, Tryd.ntmps20
        go_wp2_with fail
        refine (kkey_is _ _ HK.out _).mono ?_; rintro e w1 ⟨rfl, rfl⟩
        go_wp2_with fail
        go_ret2
        exact ⟨none, 0, rfl, fun h => by simp at h, Below.refl _ _⟩
end Go.Proofs.YtnjacgjcoikngaaDoor
