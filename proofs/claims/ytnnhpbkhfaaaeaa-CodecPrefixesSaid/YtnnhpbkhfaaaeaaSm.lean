/- The walks of the laws' own small and frames. -/
import Derived.Test.YtnnhpbkhfaaaeaaHd
namespace Go.Proofs.Ytnnhpbkhfaaaeaa
open Go.RowKit

namespace Cd
def smallB (l : List (List Int)) : Bool := decide (l.length ≤ 10 ∧ ∀ g ∈ l, g.length ≤ 30)
def ends (l : List (List Int)) (i : Nat) : List Int := (List.range i).map fun j => ((frs (l.take (j + 1))).length : Int)
theorem ends_succ (l : List (List Int)) (i : Nat) : ends l (i + 1) = ends l i ++ [((frs (l.take (i + 1))).length : Int)] := by
  unfold ends
  rw [List.range_succ, List.map_append]
  rfl
theorem ends_len (l : List (List Int)) (i : Nat) : (ends l i).length = i := by unfold ends; simp
theorem frs_take {l : List (List Int)} {i : Nat} (h : i < l.length) : frs (l.take (i + 1)) = frs (l.take i) ++ frame l[i] := by
  rw [List.take_succ_eq_append_getElem h, frs_app]
  unfold frs
  rw [List.flatMap_cons, List.flatMap_nil, List.append_nil]
theorem frame_small {g : List Int} (h : g.length ≤ 30) (hw : wds g) : 12 ≤ (frame g).length ∧ (frame g).length ≤ 321 := by
  have h1 := put_len hw (by omega)
  have h2 := put_pos g
  rw [frame_len]
  omega
end Cd

set_option maxHeartbeats 800000 in
theorem small_is (l : List (List Int)) (f : Bool) (len cap : Nat) (A : Option Addr) (h : Cd.smallB l = f) (hl : l.length = len) (w : World) (hL : SlL w A l) :
    Calls Try.prog 21 #[.slice A len cap] w fun e w' => e = .returned (.bool f) ∧ w = w' := by
  have HF := Lib.hid h
  have HN := Lib.hid hl
  have HL := Lib.hid hL
  clear h hl hL
  go_enter Try.func21, Try.ntmps21
  go_wp2_with fail
  go_loopw [3] (fun s3 wr => ∃ (i : Nat) (q : Int), i ≤ len ∧ i ≤ 20 ∧ q = i ∧ s3 = .int .i64 q ∧ Hid (∀ j, j < i → (atL l j).length ≤ 30) ∧ wr = w) (fun s3 _ => 20 - (intOf s3).toNat)
  case atStart => exact ⟨0, 0, by omega, by omega, rfl, rfl, Lib.hid (fun j hj => by omega), rfl⟩
  case round =>
    obtain ⟨i, q, hi, hi2, hq, rfl, HE, rfl⟩ := hrel
    by_cases hlt : i < len
    · by_cases h20 : i < 20
      · have hil : i < l.length := by rw [HN.out]; exact hlt
        obtain ⟨bb, off, rfl, hbb, hc⟩ := HL.out (by omega)
        obtain ⟨C, cc, c0, _, _⟩ := hc i hil
        obtain ⟨n, hn⟩ : ∃ n, (atL l i).length = n := ⟨_, rfl⟩
        rw [hn] at c0
        have hq1 : q < (len : Int) := by omega
        have hq2 : q < 20 := by omega
        have hq3 : 0 ≤ q := by omega
        have hqn : q.toNat = i := by omega
        have HQ := Lib.hid hq
        have Hn := Lib.hid hn
        clear hc hq hn
        by_cases h30 : 30 < n
        · have hf := HF.out
          have hbad : Cd.smallB l = false := by
            unfold Cd.smallB
            refine decide_eq_false (fun hh => ?_)
            have := hh.2 _ (List.getElem_mem hil)
            rw [← atL_eq hil, Hn.out] at this
            omega
          rw [hbad] at hf
          subst hf
          have h30' : (30 : Int) < (n : Int) := by omega
          go_wp2_with fail
          go_ret
          exact ⟨rfl, rfl⟩
        · have h30' : ¬ (30 : Int) < (n : Int) := by omega
          have HE2 : Hid (∀ j, j < i + 1 → (atL l j).length ≤ 30) := Lib.hid (fun j hj => by
            by_cases e : j = i
            · subst e; rw [Hn.out]; omega
            · exact HE.out j (by omega))
          go_wp2_with fail
          go_roundw
          case rel => exact ⟨i + 1, q + 1, by omega, by omega, (by have := HQ.out; omega), rfl, HE2, (by first | rfl | trivial)⟩
          case measure => have := HQ.out; simp [intOf]; omega
      · have hq1 : q < (len : Int) := by omega
        have hq2 : ¬ q < 20 := by omega
        have hf := HF.out
        have hbad : Cd.smallB l = false := by
          unfold Cd.smallB
          refine decide_eq_false (fun hh => ?_)
          have := HN.out
          omega
        rw [hbad] at hf
        subst hf
        have hl10 : ¬ (len : Int) ≤ 10 := by omega
        clear hq
        go_wp2_with fail
        go_ret
        exact ⟨rfl, rfl⟩
    · obtain rfl : i = len := by omega
      have hq1 : ¬ q < (i : Int) := by omega
      have hf := HF.out
      have hall : ∀ g ∈ l, g.length ≤ 30 := fun g hg => by
        obtain ⟨j, hj, rfl⟩ := List.getElem_of_mem hg
        rw [← atL_eq hj]
        exact HE.out j (by rw [HN.out] at hj; exact hj)
      by_cases h10 : i ≤ 10
      · rw [show Cd.smallB l = true from decide_eq_true ⟨by rw [HN.out]; exact h10, hall⟩] at hf
        subst hf
        have h10' : (i : Int) ≤ 10 := by omega
        clear hq
        go_wp2_with fail
        go_ret
        exact ⟨rfl, rfl⟩
      · rw [show Cd.smallB l = false from decide_eq_false (fun hh => by have := hh.1; rw [HN.out] at this; omega)] at hf
        subst hf
        have h10' : ¬ (i : Int) ≤ 10 := by omega
        clear hq
        go_wp2_with fail
        go_ret
        exact ⟨rfl, rfl⟩

theorem own_apart {w : World} {base b2 : Nat} {e1 e2 : TypeId} {v1 v2 : Value} {n1 n2 : Nat} {x1 x2 : List Value} (h1 : w.ownsRow base e1 1 v1 n1 x1) (h2 : w.ownsRow b2 e2 1 v2 n2 x2) (he : e1 ≠ e2) : v1.ownBlock = none ∨ v1.ownBlock ≠ v2.ownBlock := by
  rcases h1.2 with ⟨rfl, _⟩ | ⟨g, _, cur, rfl, _, hg, _⟩
  · exact .inl rfl
  · refine .inr (fun e => ?_)
    rcases h2.2 with ⟨rfl, _⟩ | ⟨g2, _, cur2, rfl, _, hg2, _⟩
    · cases e
    · obtain rfl : g = g2 := Option.some.inj e
      rw [hg] at hg2
      cases hg2
      exact he rfl

set_option maxHeartbeats 1600000 in
theorem lframes_is (l : List (List Int)) (len cap M : Nat) (A : Option Addr) (hM : (Cd.frs l).length = M) (hl : l.length = len) (h10 : len ≤ 10) (h30 : ∀ g ∈ l, g.length ≤ 30) (hw : ∀ g ∈ l, Cd.wds g) (w : World) (hL : SlL w A l) :
    Calls Try.prog 22 #[.slice A len cap] w fun e w' => ∃ D c E c2, e = .returned (.tuple #[.slice D M c, .slice E len c2, .bool true]) ∧ SlN .u8 w' D (Cd.frs l) ∧ (D = none → c = 0) ∧ M ≤ c ∧ SlK .i64 w' E (Cd.ends l len) ∧ (E = none → c2 = 0) ∧ len ≤ c2 ∧ M ≤ 400 * len ∧ Below w.heap.size w w' := by
  have HM0 := Lib.hid hM
  have HN := Lib.hid hl
  have HL := Lib.hid hL
  have H30 := Lib.hid h30
  have HW := Lib.hid hw
  clear hM hl hL h30 hw
  obtain ⟨i0, hi, hz0, hz1, hz2⟩ := info_parts infoByte
  obtain ⟨j0, gi, gz0, gz1, gz2⟩ := info_parts infoInt
  go_enter Try.func22, Try.ntmps22
  go_wp2_with fail
  go_loopw [5, 6, 7] (fun s5 s6 s7 wr => ∃ i m : Nat, i ≤ len ∧ m ≤ 400 * i ∧ s7 = .int .i64 (i : Int) ∧ Hid ((Cd.frs (l.take i)).length = m) ∧ wr.ownsRow w.heap.size 5 1 s5 m (vN .u8 (Cd.frs (l.take i))) ∧ wr.ownsRow w.heap.size 3 1 s6 i (vK .i64 (Cd.ends l i)) ∧ Below w.heap.size w wr) (fun _ _ s7 _ => len - (intOf s7).toNat)
  case atStart => exact ⟨0, 0, by omega, by omega, rfl, Lib.hid rfl, World.ownsRow_nil _ _ _ _, World.ownsRow_nil _ _ _ _, Below.refl _ _⟩
  case round =>
    obtain ⟨i, m, hi9, hm9, rfl, HM, hown, hends, hG⟩ := hrel
    have hsz := hG.size
    by_cases hlt : i < len
    · have hil : i < l.length := by rw [HN.out]; exact hlt
      obtain ⟨bb, off, rfl, hbb, hc⟩ := HL.out (by omega)
      obtain ⟨C, cc, c0', SC, hC⟩ := hc i hil
      have c0 := (hG.cell (p := ⟨bb, off + i, none⟩) hbb).trans c0'
      have hgm := List.getElem_mem hil
      have g30 := H30.out _ hgm
      have gw := HW.out _ hgm
      have hfr := Cd.frs_take hil
      rw [← atL_eq hil] at g30 gw hfr
      have hes := Cd.ends_succ l i
      obtain ⟨g12, g321⟩ := Cd.frame_small g30 gw
      have hSC := SC.below hG
      generalize atL l i = g at *
      obtain ⟨n, hn⟩ : ∃ n, g.length = n := ⟨_, rfl⟩
      rw [hn] at c0 g30
      obtain ⟨T, hT⟩ : ∃ T, Cd.frame g = T := ⟨_, rfl⟩
      rw [hT] at hfr g12 g321
      obtain ⟨N, hN⟩ : ∃ N, T.length = N := ⟨_, rfl⟩
      rw [hN] at g12 g321
      have HM2 : Hid ((Cd.frs (l.take (i + 1))).length = m + N) := Lib.hid (by rw [hfr, List.length_append, HM.out, hN])
      have HV2 : Hid (vN .u8 (Cd.frs (l.take i)) ++ vN .u8 T = vN .u8 (Cd.frs (l.take (i + 1)))) := Lib.hid (by rw [hfr, vN_app])
      rw [HM2.out] at hes
      have HE2 : Hid (vK .i64 (Cd.ends l i) ++ [.int .i64 ((m + N : Nat) : Int)] = vK .i64 (Cd.ends l (i + 1))) := Lib.hid (by rw [hes, vK_app]; rfl)
      have HTT := Lib.hid hT
      have HTN := Lib.hid hN
      have Hn := Lib.hid hn
      have HOK := Lib.hid (show Cd.ok g from ⟨by omega, gw⟩)
      have HSC := Lib.hid hSC
      have hn12 : ¬ (N : Int) < 12 := by omega
      clear hc c0' SC hgm gw hfr hes hT hN hn hSC
      generalize Cd.frs (l.take i) = F at *
      generalize Cd.ends l i = EE at *
      go_wp2_with (first | (go_at_call 13; refine (frame_is g T N n cc C HTT.out HTN.out Hn.out HOK.out _ HSC.out).mono ?_; rintro e w2 ⟨D2, c2, rfl, S2, hD2, hc2, hb2⟩; have hs2 := hb2.size; have hown2 := hown.kept (below_grown hb2 none) none_ne; have hends2 := hends.kept (below_grown hb2 none) none_ne) | (at_builtin; refine append_sln .u8 rfl _ _ 23 rfl w.heap.size 5 i0 (.int .u8 0) 1 Try.underlying23 hi hz0 hz1 hz2 rfl _ m (vN .u8 F) rfl hown2 D2 N c2 T rfl hD2 HTN.out S2 (by unfold maxLen; omega) (by omega) (by omega) ?_; intro v4 w4 hown4 hgrow4; have hends4 := hends2.kept hgrow4 (own_apart hends2 hown2 (by decide)); rw [HV2.out] at hown4; have hG4 := (hG.trans (hb2.mono hG.size)).grown hgrow4 (by omega) (own_ne hown2); have hs4 := hG4.size; obtain ⟨hl4, D4, c4, rfl, _⟩ := own_b hown4) | (at_builtin; refine wpList_append_own _ rfl _ _ 22 rfl w.heap.size 3 j0 (.int .i64 0) 1 8 Try.underlying22 gi gz0 gz1 gz2 rfl (by decide) _ i _ rfl (hends4.alloc _) ⟨w4.heap.size, 0, none⟩ 1 1 [.int .i64 ((m + N : Nat) : Int)] rfl rfl (cell_one_new _ _ _) (fun u hu => by simp at hu; subst hu; rfl) (by unfold maxLen; omega) (by omega) (by simp; omega) ?_; intro v6 w6 hends6 hgrow6 hnil6; rw [HE2.out] at hends6; have hown6 := (hown4.alloc (.cells #[.int .i64 ((m + N : Nat) : Int)] 3)).kept hgrow6 (own_apart hown4 hends4 (by decide)); have hG6 := (hG4.alloc hs4 _).grown hgrow6 (by simp; omega) (own_ne hends4)) | fail)
      go_roundw
      case rel => exact ⟨i + 1, m + N, by omega, by omega, by simp, HM2, hown6, hends6, hG6⟩
      case measure => simp [intOf]; omega
    · obtain rfl : i = len := by omega
      have hTk : l.take i = l := List.take_of_length_le (by rw [HN.out]; omega)
      rw [hTk] at HM hown
      have hMM : m = M := HM.out.symm.trans HM0.out
      subst hMM
      obtain ⟨_, D, c, rfl, S, hD⟩ := own_b hown
      have hc := own_cap hown
      obtain ⟨_, E, c2, rfl, SE⟩ := own_k hends
      have hE := own_none hends
      have hc2 := own_cap hends
      clear HM hTk
      go_wp2_with fail
      go_ret3
      exact ⟨D, c, E, c2, rfl, S, hD, hc, SE, hE, hc2, hm9, hG⟩
end Go.Proofs.Ytnnhpbkhfaaaeaa
