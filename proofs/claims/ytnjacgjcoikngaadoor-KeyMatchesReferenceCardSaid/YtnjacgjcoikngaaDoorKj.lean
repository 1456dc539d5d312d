/- The walk of the reference's Signs. -/
import Derived.Test.YtnjacgjcoikngaaDoorKi
import Derived.Test.YtnjacgjcoikngaaDoorKe
import Derived.Maps.AppendAt
import Derived.Laws.OwnMore
namespace Go.Proofs.YtnjacgjcoikngaaDoor
open Go.RowKit Go.Maps Go.WideMaps

/-- What a call's own slice holds, read as integers. -/
theorem own_sl {w : World} {base : Nat} {e : TypeId} {v : Value} {n : Nat} {g : List Int} (h : w.ownsRow base e 1 v n (g.map (Value.int .i64))) : g.length = n ∧ ∃ A cap, v = .slice A n cap ∧ SlI w A g := by
  have hl : g.length = n := by have := h.1; simpa using this
  refine ⟨hl, ?_⟩
  rcases h.2 with ⟨hv, hn⟩ | ⟨b, cap, cur, hv, hb, hg, _⟩
  · subst hn
    exact ⟨none, 0, hv, fun h0 => by omega⟩
  · refine ⟨some ⟨b, 0, none⟩, cap, hv, fun h0 => ⟨b, 0, rfl, (Array.getElem?_eq_some_iff.1 hg).1, fun k hk => ?_⟩⟩
    have := h.cells (g := b) (by rw [hv]; rfl) k (.int .i64 (Ky.atI g k)) (by rw [List.getElem?_map, List.getElem?_eq_getElem hk, Ky.atI_eq hk]; rfl)
    have e : (⟨b, 0, none⟩ : Addr).add k = ⟨b, k, none⟩ := by unfold Addr.add; split <;> simp_all
    rw [e] at this
    rwa [Nat.zero_add]
theorem own_ne {w : World} {base : Nat} {e : TypeId} {size : Nat} {v : Value} {n : Nat} {xs : List Value} (h : w.ownsRow base e size v n xs) : ∀ j, v.ownBlock = some j → base ≤ j := fun j hj => (h.lt j hj).1
theorem none_ne {v : Value} : v.ownBlock = none ∨ v.ownBlock ≠ none := by cases v.ownBlock <;> simp

set_option maxHeartbeats 3200000 in
theorem ksigns_is (k : Int) (l : List Ky.P3) (g : List Int) (E : Int) (len cl : Nat) (A : Option Addr) (h : Ky.signR k l = (g, E)) (hl : l.length = len) (hbig : len ≤ 9223372036854775807) (w : World) (hL : SlP w A l) :
    Calls Tryd.prog 17 #[.int .i64 k, .slice A len cl] w fun e w' => ∃ D cap, e = .returned (.tuple #[.slice D g.length cap, .int .i64 E]) ∧ SlI w' D g ∧ Below w.heap.size w w' := by
  unfold Ky.signR at h
  rw [hl] at h
  by_cases h1 : 1000 < len
  · rw [if_pos h1] at h
    simp only [Prod.mk.injEq] at h
    obtain ⟨rfl, rfl⟩ := h
    clear hL
    go_enter Tryd.func17, Tryd.ntmps17
    go_wp2_with fail
    go_ret2
    exact ⟨none, 0, rfl, fun h => by simp at h, Below.refl _ _⟩
  · rw [if_neg h1] at h
    have HL := Lib.hid hL
    have HN := Lib.hid hl
    have HR := Lib.hid h
    have hlen1 : len ≤ 1000 := by omega
    clear hL hl h
    obtain ⟨i0, hi, hz0, hz1, hz2⟩ := info_parts infoInt
    go_enter Tryd.func17, Tryd.ntmps17
    go_wp2_with fail
    go_loopw [6] (fun s6 wr => ∃ n : Nat, n ≤ len ∧ s6 = .int .i64 n ∧ Hid (∀ j (h : j < l.length), j < n → pvP l[j] = true) ∧ Below w.heap.size w wr) (fun s6 _ => len - (intOf s6).toNat)
    case atStart => exact ⟨0, Nat.zero_le _, rfl, Lib.hid (fun j h h' => by omega), Below.refl _ _⟩
    case round =>
      obtain ⟨n, hn, rfl, HA, hG⟩ := hrel
      by_cases hlt : n < len
      · obtain ⟨b, off, rfl, hb, hc⟩ := HL.out (by have := HN.out; omega)
        obtain ⟨x0, x1, x2⟩ := hc n (by have := HN.out; omega)
        replace x0 := (hG.cell (p := ⟨b, off + n * 3, none⟩) hb).trans x0
        replace x1 := (hG.cell (p := ⟨b, off + n * 3 + 1, none⟩) hb).trans x1
        replace x2 := (hG.cell (p := ⟨b, off + n * 3 + 2, none⟩) hb).trans x2
        have EQ : Hid (∀ h : n < l.length, l[n] = Ky.at3 l n) := Lib.hid fun h => (Ky.at3_eq h).symm
        clear hc hi hz0 hz1 hz2
        generalize Ky.at3 l n = p at *
        obtain ⟨p0, p1, p2⟩ := p
        simp only at x0 x1 x2
        obtain ⟨z, hz⟩ : ∃ z, pvP (p0, p1, p2) = z := ⟨_, rfl⟩
        have HZ := Lib.hid hz
        clear hz
        cases z with
        | true =>
          go_wp2_with fail
          refine (kpitch_is _ _ _ _ HZ.out _).mono ?_; rintro e w2 ⟨rfl, hb2⟩
          replace hG := hG.trans (hb2.mono hG.size)
          clear x0 x1 x2 hb2
          go_wp2_with fail
          go_roundw
          case rel =>
            refine ⟨n + 1, by omega, by simp, Lib.hid fun j h hj => ?_, hG⟩
            by_cases e : j = n
            · subst e; rw [EQ.out h, HZ.out]
            · exact HA.out j h (by omega)
          case measure => simp [intOf] <;> omega
        | false =>
          go_wp2_with fail
          refine (kpitch_is _ _ _ _ HZ.out _).mono ?_; rintro e w2 ⟨rfl, hb2⟩
          replace hG := hG.trans (hb2.mono hG.size)
          have hE : g = [] ∧ E = 1 := by
            have h := HR.out
            have hnl : n < l.length := by have := HN.out; omega
            have hp : Ky.pvs l = false := all_not (k := n) hnl (by show pvP l[n] = false; rw [EQ.out hnl, HZ.out])
            rw [hp] at h
            simp only [Bool.false_and, Bool.false_eq_true, if_false, Prod.mk.injEq] at h
            exact ⟨h.1.symm, h.2.symm⟩
          obtain ⟨rfl, rfl⟩ := hE
          clear x0 x1 x2 hb2
          go_wp2_with fail
          go_ret2
          exact ⟨none, 0, rfl, fun h => by simp at h, hG⟩
      · have hp : Ky.pvs l = true := all_here HA.out (by have := HN.out; omega)
        obtain ⟨v1, hk⟩ : ∃ v, Ky.kv k = v := ⟨_, rfl⟩
        have HK := Lib.hid hk
        have h := HR.out
        rw [hp, hk] at h
        have HP := Lib.hid hp
        clear hp hk HR HA
        cases v1 with
        | false =>
          simp only [Bool.and_false, Bool.false_eq_true, if_false, Prod.mk.injEq] at h
          obtain ⟨rfl, rfl⟩ := h
          clear hi hz0 hz1 hz2
          go_wp2_with fail
          refine (kkey_is _ _ HK.out _).mono ?_; rintro e w1 ⟨rfl, rfl⟩
          go_wp2_with fail
          go_ret2
          exact ⟨none, 0, rfl, fun h => by simp at h, hG⟩
        | true =>
          simp only [Bool.and_self, if_true, Prod.mk.injEq] at h
          obtain ⟨rfl, rfl⟩ := h
          obtain ⟨k0, k1⟩ := Ky.kv_iff.1 HK.out
          go_wp2_with fail
          refine (kkey_is _ _ HK.out _).mono ?_; rintro e w1 ⟨rfl, rfl⟩
          go_wp2_with fail
          go_loopw [7, 8] (fun s7 s8 wx => ∃ n : Nat, n ≤ len ∧ s8 = .int .i64 n ∧ wx.ownsRow w.heap.size 3 1 s7 n ((Ky.sgn k l n).map (Value.int .i64)) ∧ Below w.heap.size w wx) (fun _ s8 _ => len - (intOf s8).toNat)
          case atStart => exact ⟨0, Nat.zero_le _, rfl, World.ownsRow_nil _ _ _ _, hG⟩
          case round =>
            clear hG
            obtain ⟨n, hn, rfl, hown, hG⟩ := hrel
            obtain ⟨hlg, D, cap, rfl, hsl⟩ := own_sl hown
            by_cases hlt : n < len
            · have hnl : n < l.length := by have := HN.out; omega
              have hLr : SlP wr A l := HL.out.below (hG.mono (Nat.le_refl _))
              have HF := Lib.hid (fun x : Ext wr => kforce_is k l (Ky.sgn k l n) n len n cl cap A D _ rfl HN.out hlg hlt (Nat.le_refl _) (by omega) (by omega) (by omega) x.w (hLr.below x.h) (hsl.below x.h) (fun j hj => by
                rw [Ky.sgn_at k l n j hj]; exact Ky.sg_in (Ky.pvs_at HP.out (by omega))))
              obtain ⟨b, off, rfl, hb, hc⟩ := HL.out (by omega)
              have x1 := (hG.cell (p := ⟨b, off + n * 3 + 1, none⟩) hb).trans (hc n (by omega)).2.1
              obtain ⟨_, _, a0, a1, _, _⟩ := Pt.pv_iff.1 (Ky.pvs_at HP.out hnl)
              have HS : Hid (Ky.sgn k l (n + 1) = Ky.sgn k l n ++ [if Ky.frc k l (Ky.sgn k l n) n = (Ky.at3 l n).2.1 then 0 else 10 + (Ky.at3 l n).2.1]) := Lib.hid rfl
              have xx1 := fun x : Ext wr => x.cell x1
              have hne := Ext.there wr
              clear hc hLr hsl
              generalize (Ky.at3 l n).2.1 = a at *
              generalize Ky.frc k l (Ky.sgn k l n) n = F at *
              by_cases e : F = a
              · subst e
                go_wp2_with fail
                refine Ext.region (by kernel_rfl) (by kernel_rfl) ?_
                repeat (go_big_quiet_step ((go_at_call 38; exact Ext.call _ (HF.out _))))
                refine wpQuiet_nil ?_
                rintro _ ⟨xw, rfl⟩
                replace hG := hG.trans (xw.h.mono hG.size)
                replace hown := hown.kept (below_grown xw.h none) none_ne
                clear xx1 hne HF x1
                generalize xw.w = w3 at *
                clear xw
                go_wp2_with (first | (at_builtin; refine wpList_append_own _ rfl _ _ 25 rfl w.heap.size 3 i0 (.int .i64 0) 1 8 Tryd.underlying25 hi hz0 hz1 hz2 rfl (by decide) _ _ _ rfl (hown.alloc _) ⟨w3.heap.size, 0, none⟩ 1 1 [.int .i64 0] rfl rfl (cell_one_new _ _ _) (ints_oneCell .i64 [0]) (by unfold maxLen; omega) (by omega) (by have := hG.size; simp; omega) ?_; intro v' w4 hown' hgrow hnil) | fail)
                go_roundw
                case rel =>
                  refine ⟨n + 1, by omega, by simp, ?_, (hG.alloc hG.size _).grown hgrow (by have := hG.size; simp; omega) (own_ne hown)⟩
                  rw [HS.out, if_pos trivial, List.map_append]
                  exact hown'
                case measure => simp [intOf] <;> omega
              · have e' : (F == a) = false := by simpa using e
                go_wp2_with fail
                refine Ext.region (by kernel_rfl) (by kernel_rfl) ?_
                repeat (go_big_quiet_step ((go_at_call 38; exact Ext.call _ (HF.out _))))
                refine wpQuiet_nil ?_
                rintro _ ⟨xw, rfl⟩
                replace hG := hG.trans (xw.h.mono hG.size)
                replace hown := hown.kept (below_grown xw.h none) none_ne
                replace x1 := xx1 xw
                clear xx1 hne HF
                generalize xw.w = w3 at *
                clear xw
                go_wp2_with (first | (at_builtin; refine wpList_append_own _ rfl _ _ 25 rfl w.heap.size 3 i0 (.int .i64 0) 1 8 Tryd.underlying25 hi hz0 hz1 hz2 rfl (by decide) _ _ _ rfl (hown.alloc _) ⟨w3.heap.size, 0, none⟩ 1 1 [.int .i64 (10 + a)] rfl rfl (cell_one_new _ _ _) (ints_oneCell .i64 [10 + a]) (by unfold maxLen; omega) (by omega) (by have := hG.size; simp; omega) ?_; intro v' w4 hown' hgrow hnil) | fail)
                go_roundw
                case rel =>
                  refine ⟨n + 1, by omega, by simp, ?_, (hG.alloc hG.size _).grown hgrow (by have := hG.size; simp; omega) (own_ne hown)⟩
                  rw [HS.out, if_neg e, List.map_append]
                  exact hown'
                case measure => simp [intOf] <;> omega
            · obtain rfl : n = len := by omega
              go_wp2_with fail
              go_ret2
              exact ⟨D, cap, by rw [hlg]; rfl, hsl, hG⟩
end Go.Proofs.YtnjacgjcoikngaaDoor
