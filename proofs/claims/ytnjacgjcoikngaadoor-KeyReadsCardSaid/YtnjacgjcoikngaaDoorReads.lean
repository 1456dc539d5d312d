/-
  What is written with its signs is read as it was, and if one sign is left out, its pitch is read as another one: the law KeyReads returns true for every integer and list of pitches, valid or not, and leaves them as they were.
  Conditions: what the listed package variables hold when the call begins (the card ties it to the program's text).
-/
import Derived.Test.YtnjacgjcoikngaaDoorKz
namespace Go.Proofs.YtnjacgjcoikngaaDoor
open Go.RowKit

set_option maxHeartbeats 1600000 in
theorem usable_is (k : Int) (l : List Ky.P3) (len cap : Nat) (A : Option Addr) (hl : l.length = len) (v : Bool) (hv : (Ky.kv k && (decide (len ≤ 60) && Ky.pvs l)) = v) (w : World) (hL : SlP w A l) :
    Calls Tryd.prog 25 #[.int .i64 k, .slice A len cap] w fun e w' => e = .returned (.bool v) ∧ Below w.heap.size w w' := by
  obtain ⟨v1, h1⟩ : ∃ v, Ky.kv k = v := ⟨_, rfl⟩
  have V1 := Lib.hid h1
  rw [h1] at hv
  cases v1 with
  | false =>
    simp only [Bool.false_and] at hv
    subst hv
    clear h1 hL
    go_enter Tryd.func25, Tryd.ntmps25
    go_wp2_with fail
    refine (kkey_is _ _ V1.out _).mono ?_; rintro e w1 ⟨rfl, rfl⟩
    go_wp2_with fail
    go_ret
    exact ⟨rfl, Below.refl _ _⟩
  | true =>
    by_cases h60 : len ≤ 60
    · simp only [h60, decide_true, Bool.true_and] at hv
      have HN := Lib.hid hl
      have HL := Lib.hid hL
      have HV := Lib.hid hv
      clear hl hL hv h1
      go_enter Tryd.func25, Tryd.ntmps25
      go_wp2_with fail
      refine (kkey_is _ _ V1.out _).mono ?_; rintro e w1 ⟨rfl, rfl⟩
      go_wp2_with fail
      go_loopw [17] (fun s17 wr => ∃ n : Nat, n ≤ len ∧ s17 = .int .i64 n ∧ Hid (∀ j (h : j < l.length), j < n → pvP l[j] = true) ∧ Below w.heap.size w wr) (fun s17 _ => len - (intOf s17).toNat)
      case atStart => exact ⟨0, Nat.zero_le _, rfl, Lib.hid (fun j h h' => by omega), Below.refl _ _⟩
      case round =>
        obtain ⟨n, hn, rfl, HA, hG⟩ := hrel
        by_cases hlt : n < len
        · have hnl : n < l.length := by have := HN.out; omega
          obtain ⟨b, off, rfl, hb, hc⟩ := HL.out (by omega)
          obtain ⟨x0, x1, x2⟩ := hc n hnl
          replace x0 := (hG.cell (p := ⟨b, off + n * 3, none⟩) hb).trans x0
          replace x1 := (hG.cell (p := ⟨b, off + n * 3 + 1, none⟩) hb).trans x1
          replace x2 := (hG.cell (p := ⟨b, off + n * 3 + 2, none⟩) hb).trans x2
          have EQ : Hid (l[n] = Ky.at3 l n) := Lib.hid (Ky.at3_eq hnl).symm
          clear hc
          generalize Ky.at3 l n = p at *
          obtain ⟨p0, p1, p2⟩ := p
          simp only at x0 x1 x2
          obtain ⟨z, hz⟩ : ∃ z, pvP (p0, p1, p2) = z := ⟨_, rfl⟩
          have HZ := Lib.hid hz
          clear hz
          cases z with
          | true =>
            go_wp2_with fail
            refine (valid_is _ _ _ _ HZ.out _).mono ?_; rintro e w2 ⟨rfl, hb2⟩
            replace hG := (hG.alloc hG.size _).trans (hb2.mono (by have := hG.size; simp; omega))
            clear x0 x1 x2 hb2
            go_wp2_with fail
            go_roundw
            case rel =>
              refine ⟨n + 1, by omega, by simp, Lib.hid fun j h hj => ?_, hG⟩
              by_cases e : j = n
              · subst e; rw [EQ.out, HZ.out]
              · exact HA.out j h (by omega)
            case measure => simp [intOf] <;> omega
          | false =>
            go_wp2_with fail
            refine (valid_is _ _ _ _ HZ.out _).mono ?_; rintro e w2 ⟨rfl, hb2⟩
            replace hG := (hG.alloc hG.size _).trans (hb2.mono (by have := hG.size; simp; omega))
            obtain rfl : v = false := by
              rw [← HV.out]
              exact all_not (k := n) hnl (by show pvP l[n] = false; rw [EQ.out, HZ.out])
            clear x0 x1 x2 hb2
            go_wp2_with fail
            go_ret
            exact ⟨rfl, hG⟩
        · obtain rfl : v = true := by
            rw [← HV.out]
            exact all_here HA.out (by have := HN.out; omega)
          go_wp2_with fail
          go_ret
          exact ⟨rfl, hG⟩
    · simp only [h60, decide_false, Bool.false_and, Bool.and_false] at hv
      subst hv
      clear h1 hL
      go_enter Tryd.func25, Tryd.ntmps25
      go_wp2_with fail
      refine (kkey_is _ _ V1.out _).mono ?_; rintro e w1 ⟨rfl, rfl⟩
      go_wp2_with fail
      go_ret
      exact ⟨rfl, Below.refl _ _⟩

/-- A call's own slice of integers that is not empty. -/
theorem own_row {w : World} {base : Nat} {e : TypeId} {v : Value} {n : Nat} {g : List Int} (h : w.ownsRow base e 1 v n (g.map (Value.int .i64))) (h0 : 0 < n) : ∃ gb cap, v = .slice (some ⟨gb, 0, none⟩) n cap ∧ base ≤ gb ∧ RowI w gb n (fun j => Ky.atI g j) := by
  have hl : g.length = n := by have := h.1; simpa using this
  rcases h.2 with ⟨_, hn⟩ | ⟨b, cap, cur, hv, hb, hg, _⟩
  · omega
  · subst hv
    refine ⟨b, cap, rfl, hb, (Array.getElem?_eq_some_iff.1 hg).1, fun j hj => ?_, fun j => h.frozenAt j⟩
    have := h.cells (g := b) rfl j (.int .i64 (Ky.atI g j)) (by rw [List.getElem?_map, List.getElem?_eq_getElem (by omega), Ky.atI_eq (by omega)]; rfl)
    have e : (⟨b, 0, none⟩ : Addr).add j = ⟨b, j, none⟩ := by unfold Addr.add; split <;> simp_all
    rwa [e] at this

namespace Ky
/-- If a sign is left out: how its pitch is read. -/
theorem less_at {k : Int} {l : List P3} {g : List Int} (h : signR k l = (g, 0)) {n : Nat} (hn : n < l.length) :
    ∃ m r, readR k l (g.set n 0) = (m, 0) ∧ m.length = l.length ∧ at3 m n = ((at3 l n).1, r, (at3 l n).2.2) ∧ (r = (at3 l n).2.1 ↔ atI g n = 0) := by
  obtain ⟨m, h1, h2, h3⟩ := sign_less h hn
  have h4 := h1
  unfold readR at h4
  split at h4
  · simp at h4
  · split at h4
    · simp only [Prod.mk.injEq] at h4
      have e : at3 m n = rdP k l (g.set n 0) n := by rw [← h4.1]; exact rds_at hn
      refine ⟨m, rdA k l (g.set n 0) n, h1, h2, e, ?_⟩
      rw [← h3, e]
      unfold rdP
      constructor
      · intro hh; rw [hh]
      · intro hh; exact congrArg (fun p : P3 => p.2.1) hh
    · simp at h4
end Ky

set_option maxHeartbeats 3200000 in
set_option maxRecDepth 100000 in
theorem keyReads_walk (k : Int) (A : Option Addr) (len cap : Nat) (l : List Ky.P3) (hl : l.length = len) (hm : len ≤ maxLen) (x : Int) (hx : 0 ≤ x ∧ x ≤ 65535) (w : World) (hG : GK w) (hL : SlP w A l) :
    Calls Tryd.prog 7 #[.int .i64 k, .slice A len cap, .int .u16 x] w fun e w' => e = .returned (.bool true) ∧ Below w.heap.size w w' := by
  obtain ⟨v, hv⟩ : ∃ v, (Ky.kv k && (decide (len ≤ 60) && Ky.pvs l)) = v := ⟨_, rfl⟩
  have HV := Lib.hid hv
  have HN := Lib.hid hl
  cases v with
  | false =>
    clear hv hl
    go_enter Tryd.func7, Tryd.ntmps7
    go_wp2_with fail
    have B := Below.refl w.heap.size w
    refine (head_any _ hG).mono ?_; rintro e w1 ⟨rfl, hb⟩
    replace hL := hL.below hb
    replace hG := hG.below hb
    replace B := B.trans (hb.mono (by have := B.size; simp <;> omega))
    clear hb
    go_wp2_with fail
    refine (usable_is k l len cap A HN.out _ HV.out _ hL).mono ?_; rintro e w2 ⟨rfl, hb⟩
    replace hL := hL.below hb
    replace hG := hG.below hb
    replace B := B.trans (hb.mono (by have := B.size; simp <;> omega))
    clear hb
    go_wp2_with fail
    go_ret
    exact ⟨rfl, B⟩
  | true =>
    simp only [Bool.and_eq_true, decide_eq_true_eq] at hv
    obtain ⟨hk, h60, hp⟩ := hv
    have hsg : Ky.signR k l = (Ky.sgn k l len, 0) := by
      unfold Ky.signR
      rw [hl, if_neg (by omega), if_pos (by rw [hk, hp]; rfl)]
    have hgl : (Ky.sgn k l len).length = len := Ky.sgn_length k l len
    have HS := Lib.hid hsg
    have HRD := Lib.hid (Ky.sign_read hsg)
    have HLE := Lib.hid (fun n (hn : n < l.length) => Ky.less_at hsg hn)
    have HW : Hid (∀ y ∈ Ky.sgn k l len, -9223372036854775808 ≤ y ∧ y ≤ 9223372036854775807) := Lib.hid (fun y hy => by
      obtain ⟨j, hj, rfl⟩ := List.getElem_of_mem hy
      have h1 := Ky.sgn_at k l len j (by omega)
      rw [Ky.atI_eq hj] at h1
      rw [h1]
      rcases Ky.sg_in (k := k) (g := Ky.sgn k l j) (Ky.pvs_at hp (by omega : j < l.length)) with h | h <;> omega)
    clear hk hp hsg
    generalize Ky.sgn k l len = g at *
    have HGL := Lib.hid hgl
    clear hgl hl
    by_cases h0 : len = 0
    · subst h0
      go_enter Tryd.func7, Tryd.ntmps7
      go_wp2_with fail
      have B := Below.refl w.heap.size w
      refine (head_any _ hG).mono ?_; rintro e w1 ⟨rfl, hb⟩
      replace hL := hL.below hb
      replace hG := hG.below hb
      replace B := B.trans (hb.mono (by have := B.size; simp <;> omega))
      clear hb
      go_wp2_with fail
      refine (usable_is k l 0 cap A HN.out _ HV.out _ hL).mono ?_; rintro e w2 ⟨rfl, hb⟩
      replace hL := hL.below hb
      replace hG := hG.below hb
      replace B := B.trans (hb.mono (by have := B.size; simp <;> omega))
      clear hb
      go_wp2_with fail
      refine (signs_is k l g 0 0 cap A HS.out HN.out (by omega) _ hG hL).mono ?_; rintro e w3 ⟨D1, c1, rfl, S1, k1, hb⟩
      replace hL := hL.below hb
      replace hG := hG.below hb
      replace B := B.trans (hb.mono (by have := B.size; simp <;> omega))
      clear hb
      simp only [HGL.out] at k1 ⊢
      go_wp2_with fail
      refine (read_is k l g l 0 0 cap 0 c1 A D1 HRD.out HN.out HGL.out (by omega) (by omega) HW.out _ hG hL S1).mono ?_; rintro e w4 ⟨D2, c2, rfl, L2, hb⟩
      replace hL := hL.below hb
      replace S1 := S1.below hb
      replace hG := hG.below hb
      replace B := B.trans (hb.mono (by have := B.size; simp <;> omega))
      clear hb
      simp only [HN.out]
      go_wp2_with fail
      refine (ksame_is l 0 cap c2 A D2 HN.out (by omega) _ hL L2).mono ?_; rintro e w5 ⟨rfl, hb⟩
      replace hL := hL.below hb
      replace S1 := S1.below hb
      replace L2 := L2.below hb
      replace hG := hG.below hb
      replace B := B.trans (hb.mono (by have := B.size; simp <;> omega))
      clear hb
      go_wp2_with fail
      refine (ksame_is l 0 cap c2 A D2 HN.out (by omega) _ hL L2).mono ?_; rintro e w6 ⟨rfl, hb⟩
      replace hL := hL.below hb
      replace S1 := S1.below hb
      replace L2 := L2.below hb
      replace hG := hG.below hb
      replace B := B.trans (hb.mono (by have := B.size; simp <;> omega))
      clear hb
      go_wp2_with fail
      go_ret
      exact ⟨rfl, B⟩
    · have hx2 := Int.tmod_lt_of_pos x (b := (len : Int)) (by omega)
      have hx3 := Int.tmod_nonneg (len : Int) hx.1
      obtain ⟨N, hN⟩ : ∃ N : Nat, x.tmod (len : Int) = (N : Int) := ⟨(x.tmod (len : Int)).toNat, by omega⟩
      rw [hN] at hx2 hx3
      have hNl : N < len := by omega
      obtain ⟨hx0, hx1⟩ := hx
      have wN : IntKind.i64.wrap (N : Int) = (N : Int) := by rw [IntKind.wrap_i64]; omega
      have hz : ((len : Int) == 0) = false := by simpa using h0
      obtain ⟨m, r, hr1, hr2, hr3, hr4⟩ := HLE.out N (by have := HN.out; omega)
      have HR1 := Lib.hid hr1
      have HML : Hid (m.length = len) := Lib.hid (by rw [hr2]; exact HN.out)
      have HR3 := Lib.hid hr3
      clear hr1 hr2 hr3
      obtain ⟨i0, hi, hz0, hz1, hz2⟩ := info_parts infoInt
      go_enter Tryd.func7, Tryd.ntmps7
      go_wp2_with fail
      have B := Below.refl w.heap.size w
      refine (head_any _ hG).mono ?_; rintro e w1 ⟨rfl, hb⟩
      replace hL := hL.below hb
      replace hG := hG.below hb
      replace B := B.trans (hb.mono (by have := B.size; simp <;> omega))
      clear hb
      go_wp2_with fail
      refine (usable_is k l len cap A HN.out _ HV.out _ hL).mono ?_; rintro e w2 ⟨rfl, hb⟩
      replace hL := hL.below hb
      replace hG := hG.below hb
      replace B := B.trans (hb.mono (by have := B.size; simp <;> omega))
      clear hb
      go_wp2_with fail
      refine (signs_is k l g 0 len cap A HS.out HN.out (by omega) _ hG hL).mono ?_; rintro e w3 ⟨D1, c1, rfl, S1, k1, hb⟩
      replace hL := hL.below hb
      replace hG := hG.below hb
      replace B := B.trans (hb.mono (by have := B.size; simp <;> omega))
      clear hb
      simp only [HGL.out] at k1 ⊢
      go_wp2_with fail
      refine (read_is k l g l 0 len cap len c1 A D1 HRD.out HN.out HGL.out (by omega) (by omega) HW.out _ hG hL S1).mono ?_; rintro e w4 ⟨D2, c2, rfl, L2, hb⟩
      replace hL := hL.below hb
      replace S1 := S1.below hb
      replace hG := hG.below hb
      replace B := B.trans (hb.mono (by have := B.size; simp <;> omega))
      clear hb
      simp only [HN.out]
      go_wp2_with fail
      refine (ksame_is l len cap c2 A D2 HN.out (by omega) _ hL L2).mono ?_; rintro e w5 ⟨rfl, hb⟩
      replace hL := hL.below hb
      replace S1 := S1.below hb
      replace L2 := L2.below hb
      replace hG := hG.below hb
      replace B := B.trans (hb.mono (by have := B.size; simp <;> omega))
      clear hb
      obtain ⟨b1, o1, rfl, hb1, hc1⟩ := S1 (by have := HGL.out; omega)
      have HNEWS : ∀ j u, (g.map (Value.int .i64))[j]? = some u → (w5.alloc (.cells #[] 3)).cell? ((⟨b1, o1, none⟩ : Addr).add j) = some u := fun j u hj => by
        rw [List.getElem?_map, Option.map_eq_some_iff] at hj
        obtain ⟨y, hy, rfl⟩ := hj
        have hjl : j < g.length := (List.getElem?_eq_some_iff.1 hy).1
        have e : (⟨b1, o1, none⟩ : Addr).add j = ⟨b1, o1 + j, none⟩ := by unfold Addr.add; split <;> simp_all
        rw [e]
        have := keep_alloc (hc1 j hjl) (.cells #[] 3)
        rwa [Ky.atI_eq hjl, (List.getElem?_eq_some_iff.1 hy).2] at this
      replace HNEWS := Lib.hid HNEWS
      have HCG := Lib.hid hc1
      clear hc1
      go_wp2_with (first | (at_builtin; refine wpList_append_own _ rfl _ _ 25 rfl w5.heap.size 3 i0 (.int .i64 0) 1 8 Tryd.underlying25 hi hz0 hz1 hz2 rfl (by decide) (.slice (some ⟨w5.heap.size, 0, none⟩) 0 0) 0 [] rfl (World.ownsRow_made _ #[] 0 (Nat.le_refl _) (by unfold maxLen; omega) rfl) ⟨b1, o1, none⟩ len c1 (g.map (Value.int .i64)) rfl (by simp [HGL.out]) HNEWS.out (ints_oneCell .i64 g) (by unfold maxLen; omega) (by omega) (by simp) ?_; intro v' w6 hown hgrow hnil; rw [Nat.zero_add, List.nil_append] at hown; obtain ⟨gb, gc, rfl, hgb, RI⟩ := own_row hown (by omega); have y0 := RI.cell N hNl; have y1 := RI.free N) | fail)
      have B6 : Below w5.heap.size w5 w6 := ((Below.refl _ _).alloc (Nat.le_refl _) _).grown hgrow (by simp) (fun j hj => by cases hj; exact Nat.le_refl _)
      have B7 := B6.setCell (p := ⟨gb, N, none⟩) hgb (.int .i64 0)
      have S7 : SlI (w6.setCell ⟨gb, N, none⟩ (.int .i64 0)) (some ⟨gb, 0, none⟩) (g.set N 0) := (RI.put N 0 hNl).sl (by rw [List.length_set]; exact HGL.out) (fun j hj => by
        have hj' : j < g.length := by have := HGL.out; omega
        unfold Ky.atI
        rw [List.getElem?_set]
        by_cases e : j = N
        · subst e; rw [if_pos rfl, if_pos rfl, if_pos hj']; rfl
        · rw [if_neg e, if_neg (fun h => e h.symm)])
      refine (read_is k l (g.set N 0) m 0 len cap len gc A (some ⟨gb, 0, none⟩) HR1.out HN.out (by rw [List.length_set]; exact HGL.out) (by omega) (by omega) (fun y hy => by rcases List.mem_or_eq_of_mem_set hy with h | h; exact HW.out y h; subst h; omega) _ (hG.below B7) (hL.below B7) S7).mono ?_; rintro e w8 ⟨D3, c3, rfl, L3, hb⟩
      replace B := B.trans (B7.mono B.size)
      replace hL := (hL.below B7).below hb
      have z0 := ((B7.cell (p := ⟨b1, o1 + N, none⟩) hb1).trans (HCG.out N (by have := HGL.out; omega)))
      replace z0 := keep_cell z0 hb
      replace B := B.trans (hb.mono B.size)
      simp only [HML.out]
      obtain ⟨b3, o3, rfl, hb3, hc3⟩ := L3 (by have := HML.out; omega)
      obtain ⟨b2, o2, rfl, hb2, hc2⟩ := hL (by have := HN.out; omega)
      obtain ⟨t0, t1, t2⟩ := hc3 N (by have := HML.out; omega)
      obtain ⟨u0, u1, u2⟩ := hc2 N (by have := HN.out; omega)
      rw [HR3.out] at t0 t1 t2
      clear hc3 hc2 hb B6 B7 S7 RI y0 y1 hown hgrow hnil HNEWS HCG HW HLE HS HRD HR1 HR3 hG hi hz0 hz1 hz2 S1 L2
      generalize (Ky.at3 l N).1 = s at *
      generalize (Ky.at3 l N).2.1 = a at *
      generalize (Ky.at3 l N).2.2 = o at *
      generalize Ky.atI g N = z at *
      have q0 := fun x : Ext w8 => x.cell t0
      have q1 := fun x : Ext w8 => x.cell t1
      have q2 := fun x : Ext w8 => x.cell t2
      have q3 := fun x : Ext w8 => x.cell u0
      have q4 := fun x : Ext w8 => x.cell u1
      have q5 := fun x : Ext w8 => x.cell u2
      have q6 := fun x : Ext w8 => x.cell z0
      have hne := Ext.there w8
      clear t0 t1 t2 u0 u1 u2 z0
      by_cases hzz : z = 0
      · obtain rfl : r = a := hr4.2 hzz
        subst hzz
        clear hr4
        go_wp2_with fail
        refine Ext.region (by kernel_rfl) (by kernel_rfl) ?_
        repeat (go_big_quiet_step (fail))
        refine wpQuiet_nil ?_
        rintro _ ⟨xw, rfl⟩
        replace B := B.trans (xw.h.mono B.size)
        generalize xw.w = wy at *
        clear q0 q1 q2 q3 q4 q5 q6 hne xw
        go_wp2_with fail
        go_ret
        exact ⟨rfl, B⟩
      · have hra : ¬ r = a := fun h => hzz (hr4.1 h)
        have hzz' : (z == 0) = false := by simpa using hzz
        clear hr4
        go_wp2_with fail
        refine Ext.region (by kernel_rfl) (by kernel_rfl) ?_
        repeat (go_big_quiet_step (fail))
        refine wpQuiet_nil ?_
        rintro _ ⟨xw, rfl⟩
        replace B := B.trans (xw.h.mono B.size)
        generalize xw.w = wy at *
        clear q0 q1 q2 q3 q4 q5 q6 hne xw
        go_wp2_with fail
        go_ret
        exact ⟨rfl, B⟩
end Go.Proofs.YtnjacgjcoikngaaDoor
