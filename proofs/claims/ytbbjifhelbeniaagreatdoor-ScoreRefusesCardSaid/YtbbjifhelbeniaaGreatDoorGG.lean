import Derived.Test.YtbbjifhelbeniaaGreatDoorGF
import Derived.Test.YtbbjifhelbeniaaGreatDoorGD
import Derived.Laws.AppendOwnNone
import Derived.Deep.MidRow
/- The walks of the reference's keys and Before. -/
namespace Go.Proofs.YtbbjifhelbeniaaGreatDoor
open Go.RowKit

/-- A list of integers at the start of a block. -/
structure KeyAt (w : World) (g : Nat) (k : List Int) : Prop where
  lt : g < w.heap.size
  at_ : ∀ i, i < k.length → w.cell? ⟨g, i, none⟩ = some (.int .i64 (k.getD i 0))
theorem KeyAt.below {w w' : World} {g : Nat} {k : List Int} (h : KeyAt w g k) (hb : Below w.heap.size w w') : KeyAt w' g k :=
  ⟨Nat.lt_of_lt_of_le h.lt hb.size, fun i hi => (hb.cell (p := ⟨g, i, none⟩) h.lt).trans (h.at_ i hi)⟩

def kyC (W : World) (k : List Int) (vs : List Value) (w : World) : Prop := Below W.heap.size W w ∧ match vs with
  | [] => True
  | [v] => ∃ g, v = .slice (some ⟨g, 0, none⟩) 6 6 ∧ KeyAt w g k
  | _ => False
theorem kyC.below {W : World} {k : List Int} {vs : List Value} {w w' : World} (h : kyC W k vs w) (hb : Below w.heap.size w w') : kyC W k vs w' := by
  obtain ⟨h1, h2⟩ := h
  refine ⟨h1.trans (hb.mono h1.size), ?_⟩
  match vs, h2 with
  | [], _ => trivial
  | [v], ⟨g, e, hv⟩ => exact ⟨g, e, hv.below hb⟩

set_option maxHeartbeats 1600000 in
theorem rkeys_is (l : List Mt.B) (n : No.Nt) (r t s : Int) (len cap : Nat) (A : Option Addr) (hr : No.bix l n.ba = r) (ht : No.start n = t) (hs : No.snd n = s) (hn : No.isN n.st n.al n.oc) (hl : l.length = len) (hmax : len ≤ 4000000) (w : World) (hL : SlB w A l) :
    Calls Tryz.prog 74 #[.slice A len cap, .agg #[.int .i64 n.id, .int .i64 n.pa, .int .i64 n.ba, .int .i64 n.vo, .int .i64 n.os, .int .i64 n.sn, .int .i64 n.sd, .int .i64 n.ln, .int .i64 n.ld, .int .i64 n.st, .int .i64 n.al, .int .i64 n.oc]] w fun e w' => ∃ g, e = .returned (.slice (some ⟨g, 0, none⟩) 6 6) ∧ KeyAt w' g [r, n.pa, t, n.vo, s, n.id] ∧ Below w.heap.size w w' := by
  have G0 := (Below.refl w.heap.size w).alloc (Nat.le_refl _) (.cells #[.int .i64 n.id, .int .i64 n.pa, .int .i64 n.ba, .int .i64 n.vo, .int .i64 n.os, .int .i64 n.sn, .int .i64 n.sd, .int .i64 n.ln, .int .i64 n.ld, .int .i64 n.st, .int .i64 n.al, .int .i64 n.oc] 51)
  have A0 := NtB.new w n
  have HL := Lib.hid (hL.alloc (.cells #[.int .i64 n.id, .int .i64 n.pa, .int .i64 n.ba, .int .i64 n.vo, .int .i64 n.os, .int .i64 n.sn, .int .i64 n.sd, .int .i64 n.ln, .int .i64 n.ld, .int .i64 n.st, .int .i64 n.al, .int .i64 n.oc] 51))
  have HR := Lib.hid hr
  have HT := Lib.hid ht
  have HS := Lib.hid hs
  have HN := Lib.hid hl
  have HI := Lib.hid hn
  clear hr ht hs hl hn hL
  go_enter Tryz.func74, Tryz.ntmps74
  go_wp2_with fail
  generalize w.alloc (.cells #[.int .i64 n.id, .int .i64 n.pa, .int .i64 n.ba, .int .i64 n.vo, .int .i64 n.os, .int .i64 n.sn, .int .i64 n.sd, .int .i64 n.ln, .int .i64 n.ld, .int .i64 n.st, .int .i64 n.al, .int .i64 n.oc] 51) = w2 at *
  have hw : ∀ (vs : List Value) (w' : World), kyC w2 [r, n.pa, t, n.vo, s, n.id] vs w' → Below w2.heap.size w2 w' := fun _ _ h => h.1
  have x0 := fun x : PvW (kyC w2 [r, n.pa, t, n.vo, s, n.id]) => (A0.below x.h.1).c0
  have x1 := fun x : PvW (kyC w2 [r, n.pa, t, n.vo, s, n.id]) => (A0.below x.h.1).c1
  have x2 := fun x : PvW (kyC w2 [r, n.pa, t, n.vo, s, n.id]) => (A0.below x.h.1).c2
  have x3 := fun x : PvW (kyC w2 [r, n.pa, t, n.vo, s, n.id]) => (A0.below x.h.1).c3
  have x5 := fun x : PvW (kyC w2 [r, n.pa, t, n.vo, s, n.id]) => (A0.below x.h.1).c5
  have x6 := fun x : PvW (kyC w2 [r, n.pa, t, n.vo, s, n.id]) => (A0.below x.h.1).c6
  have x9 := fun x : PvW (kyC w2 [r, n.pa, t, n.vo, s, n.id]) => (A0.below x.h.1).c9
  have x10 := fun x : PvW (kyC w2 [r, n.pa, t, n.vo, s, n.id]) => (A0.below x.h.1).c10
  have x11 := fun x : PvW (kyC w2 [r, n.pa, t, n.vo, s, n.id]) => (A0.below x.h.1).c11
  have hne : Nonempty (PvW (kyC w2 [r, n.pa, t, n.vo, s, n.id])) := PvW.there ⟨Below.refl _ _, trivial⟩
  refine region_pv (V := fun f _ => if f = 47 then .int .i64 r else if f = 71 then .int .i64 t else .int .i64 s) (cs := [16]) (Cv := kyC w2 [r, n.pa, t, n.vo, s, n.id]) 17 (by kernel_rfl) (by kernel_rfl) (by kernel_rfl) ⟨(Below.refl _ _).drew, trivial⟩ ?_
  simp only [List.take_succ_cons, List.take_zero, List.drop_succ_cons, List.drop_zero]
  iterate 3 (refine pv_quiet (by decide) rfl rfl ?_; intro K' hK'; go_big_quiet_op; go_big_quiet_on)
  refine pv_kept (f := 47) (args := #[.slice A len cap, .int .i64 n.ba]) (by decide) (.int .i64 r) rfl (fun vs' w' hw' => ?_) (if_pos rfl) (fun vs' w' hw' => ?_) ?_
  · simp [go_sem]
  · refine (rbar_b l n.ba r len cap A HR.out HN.out (by omega) w' (HL.out.below hw'.1)).mono ?_
    rintro e w2 ⟨rfl, hb2⟩
    exact ⟨rfl, hw'.below hb2⟩
  simp only [Act.put, List.setIfInBounds_toArray, List.set_cons_succ, List.set_cons_zero]
  iterate 4 (refine pv_quiet (by decide) rfl rfl ?_; intro K' hK'; go_big_quiet_op; go_big_quiet_on)
  refine pv_kept (f := 71) (args := #[.agg #[.int .i64 n.sn, .int .i64 n.sd]]) (by decide) (.int .i64 t) rfl (fun vs' w' hw' => ?_) ((if_neg (by decide)).trans (if_pos rfl)) (fun vs' w' hw' => ?_) ?_
  · simp [go_sem]
  · refine (kticks_is n.sn n.sd t HT.out w').mono ?_
    rintro e w2 ⟨rfl, hb2⟩
    exact ⟨rfl, hw'.below hb2⟩
  simp only [Act.put, List.setIfInBounds_toArray, List.set_cons_succ, List.set_cons_zero]
  iterate 4 (refine pv_quiet (by decide) rfl rfl ?_; intro K' hK'; go_big_quiet_op; go_big_quiet_on)
  refine pv_kept (f := 26) (args := #[.agg #[.int .i64 n.st, .int .i64 n.al, .int .i64 n.oc]]) (by decide) (.int .i64 s) rfl (fun vs' w' hw' => ?_) ((if_neg (by decide)).trans (if_neg (by decide))) (fun vs' w' hw' => ?_) ?_
  · simp [go_sem]
  · refine (rsound_is n.st n.al n.oc s HS.out HI.out w').mono ?_
    rintro e w2 ⟨rfl, hb2⟩
    exact ⟨rfl, hw'.below hb2⟩
  simp only [Act.put, List.setIfInBounds_toArray, List.set_cons_succ, List.set_cons_zero]
  iterate 2 (refine pv_quiet (by decide) rfl rfl ?_; intro K' hK'; go_big_quiet_op; go_big_quiet_on)
  refine pv_made rfl rfl (fun w' hw' => ⟨.slice (some ⟨w'.heap.size, 0, none⟩) 6 6, w'.alloc (.cells #[.int .i64 r, .int .i64 n.pa, .int .i64 t, .int .i64 n.vo, .int .i64 s, .int .i64 n.id] 3), ?_, hw'.1.alloc hw'.1.size _, _, rfl, ?_⟩) ?_
  · go_simp
  · refine ⟨by simp, fun i hi => ?_⟩
    match i, hi with
    | 0, _ => go_simp
    | 1, _ => go_simp
    | 2, _ => go_simp
    | 3, _ => go_simp
    | 4, _ => go_simp
    | 5, _ => go_simp
  rintro _ ⟨_, _, g, rfl, _⟩
  simp only [Act.put, List.setIfInBounds_toArray, List.set_cons_succ, List.set_cons_zero]
  rintro w4 ⟨hb4, g', e', hg⟩
  cases e'
  have G1 := G0.trans (hb4.mono G0.size)
  clear x0 x1 x2 x3 x5 x6 x9 x10 x11 hne hw A0
  go_wp2_with fail
  go_ret
  exact ⟨_, rfl, hg, G1⟩

theorem ltk_at : ∀ (i : Nat) {a b : List Int}, a.length = b.length → i < a.length → (∀ j, j < i → a.getD j 0 = b.getD j 0) → a.getD i 0 ≠ b.getD i 0 → No.ltk a b = decide (a.getD i 0 < b.getD i 0)
  | _, [], _, _, h, _, _ => by simp at h
  | _, _ :: _, [], h, _, _, _ => by simp at h
  | 0, x :: a, y :: b, _, _, _, h => by
    simp only [List.getD_cons_zero] at h ⊢
    unfold No.ltk
    rw [if_neg h]
  | i + 1, x :: a, y :: b, hl, hi, h, hn => by
    have h0 := h 0 (by omega)
    simp only [List.getD_cons_zero] at h0
    simp only [List.getD_cons_succ] at hn ⊢
    unfold No.ltk
    rw [if_pos h0]
    exact ltk_at i (by simpa using hl) (by simpa using hi) (fun j hj => by have := h (j + 1) (by omega); simpa using this) hn
theorem ltk_same : ∀ {a b : List Int}, a.length = b.length → (∀ j, j < a.length → a.getD j 0 = b.getD j 0) → No.ltk a b = false
  | [], _, _, _ => by simp [No.ltk]
  | _ :: _, [], h, _ => by simp at h
  | x :: a, y :: b, hl, h => by
    have h0 := h 0 (by simp)
    simp only [List.getD_cons_zero] at h0
    unfold No.ltk
    rw [if_pos h0]
    exact ltk_same (by simpa using hl) (fun j hj => by have := h (j + 1) (by simp; omega); simpa using this)

set_option maxHeartbeats 1600000 in
theorem rbefore_is (l : List Mt.B) (n m : No.Nt) (f : Bool) (len cap : Nat) (A : Option Addr) (h : No.lt l n m = f) (hn : No.isN n.st n.al n.oc) (hm : No.isN m.st m.al m.oc) (hl : l.length = len) (hmax : len ≤ 4000000) (w : World) (hL : SlB w A l) :
    Calls Tryz.prog 42 #[.slice A len cap, .agg #[.int .i64 n.id, .int .i64 n.pa, .int .i64 n.ba, .int .i64 n.vo, .int .i64 n.os, .int .i64 n.sn, .int .i64 n.sd, .int .i64 n.ln, .int .i64 n.ld, .int .i64 n.st, .int .i64 n.al, .int .i64 n.oc], .agg #[.int .i64 m.id, .int .i64 m.pa, .int .i64 m.ba, .int .i64 m.vo, .int .i64 m.os, .int .i64 m.sn, .int .i64 m.sd, .int .i64 m.ln, .int .i64 m.ld, .int .i64 m.st, .int .i64 m.al, .int .i64 m.oc]] w fun e w' => e = .returned (.bool f) ∧ Below w.heap.size w w' := by
  have G0 := ((Below.refl w.heap.size w).alloc (Nat.le_refl _) (.cells #[.int .i64 n.id, .int .i64 n.pa, .int .i64 n.ba, .int .i64 n.vo, .int .i64 n.os, .int .i64 n.sn, .int .i64 n.sd, .int .i64 n.ln, .int .i64 n.ld, .int .i64 n.st, .int .i64 n.al, .int .i64 n.oc] 51)).alloc (by simp) (.cells #[.int .i64 m.id, .int .i64 m.pa, .int .i64 m.ba, .int .i64 m.vo, .int .i64 m.os, .int .i64 m.sn, .int .i64 m.sd, .int .i64 m.ln, .int .i64 m.ld, .int .i64 m.st, .int .i64 m.al, .int .i64 m.oc] 51)
  have A0 := (NtB.new w n).alloc (.cells #[.int .i64 m.id, .int .i64 m.pa, .int .i64 m.ba, .int .i64 m.vo, .int .i64 m.os, .int .i64 m.sn, .int .i64 m.sd, .int .i64 m.ln, .int .i64 m.ld, .int .i64 m.st, .int .i64 m.al, .int .i64 m.oc] 51)
  have B0 := NtB.new (w.alloc (.cells #[.int .i64 n.id, .int .i64 n.pa, .int .i64 n.ba, .int .i64 n.vo, .int .i64 n.os, .int .i64 n.sn, .int .i64 n.sd, .int .i64 n.ln, .int .i64 n.ld, .int .i64 n.st, .int .i64 n.al, .int .i64 n.oc] 51)) m
  have L0 := (hL.alloc (.cells #[.int .i64 n.id, .int .i64 n.pa, .int .i64 n.ba, .int .i64 n.vo, .int .i64 n.os, .int .i64 n.sn, .int .i64 n.sd, .int .i64 n.ln, .int .i64 n.ld, .int .i64 n.st, .int .i64 n.al, .int .i64 n.oc] 51)).alloc (.cells #[.int .i64 m.id, .int .i64 m.pa, .int .i64 m.ba, .int .i64 m.vo, .int .i64 m.os, .int .i64 m.sn, .int .i64 m.sd, .int .i64 m.ln, .int .i64 m.ld, .int .i64 m.st, .int .i64 m.al, .int .i64 m.oc] 51)
  obtain ⟨a, ha⟩ : ∃ a, No.key l n = a := ⟨_, rfl⟩
  obtain ⟨b, hb⟩ : ∃ b, No.key l m = b := ⟨_, rfl⟩
  have hal : a.length = 6 := by rw [← ha]; rfl
  have hbl : b.length = 6 := by rw [← hb]; rfl
  unfold No.lt at h
  rw [ha, hb] at h
  have HF := Lib.hid h
  have HA := Lib.hid ha
  have HB := Lib.hid hb
  have HAL := Lib.hid hal
  have HBL := Lib.hid hbl
  have HN := Lib.hid hl
  have HI := Lib.hid hn
  have HM := Lib.hid hm
  clear h ha hb hal hbl hl hn hm hL
  go_enter Tryz.func42, Tryz.ntmps42
  go_wp2_with fail
  rw [show (w.alloc (.cells #[.int .i64 n.id, .int .i64 n.pa, .int .i64 n.ba, .int .i64 n.vo, .int .i64 n.os, .int .i64 n.sn, .int .i64 n.sd, .int .i64 n.ln, .int .i64 n.ld, .int .i64 n.st, .int .i64 n.al, .int .i64 n.oc] 51)).heap.size = w.heap.size + 1 by simp] at B0
  generalize (w.alloc (.cells #[.int .i64 n.id, .int .i64 n.pa, .int .i64 n.ba, .int .i64 n.vo, .int .i64 n.os, .int .i64 n.sn, .int .i64 n.sd, .int .i64 n.ln, .int .i64 n.ld, .int .i64 n.st, .int .i64 n.al, .int .i64 n.oc] 51)).alloc (.cells #[.int .i64 m.id, .int .i64 m.pa, .int .i64 m.ba, .int .i64 m.vo, .int .i64 m.os, .int .i64 m.sn, .int .i64 m.sd, .int .i64 m.ln, .int .i64 m.ld, .int .i64 m.st, .int .i64 m.al, .int .i64 m.oc] 51) = w0 at *
  obtain ⟨c0, c1, c2, c3, c4, c5, c6, c7, c8, c9, c10, c11⟩ := And.intro A0.c0 (And.intro A0.c1 (And.intro A0.c2 (And.intro A0.c3 (And.intro A0.c4 (And.intro A0.c5 (And.intro A0.c6 (And.intro A0.c7 (And.intro A0.c8 (And.intro A0.c9 (And.intro A0.c10 A0.c11))))))))))
  go_wp2_with fail
  clear c0 c1 c2 c3 c4 c5 c6 c7 c8 c9 c10 c11
  refine (rkeys_is l n _ _ _ len cap A rfl rfl rfl HI.out HN.out hmax _ L0).mono ?_; rintro e w1 ⟨g1, rfl, hk1, hb⟩
  rw [show [No.bix l n.ba, n.pa, No.start n, n.vo, No.snd n, n.id] = a from HA.out] at hk1
  have B1 := B0.below hb
  have L1 := L0.below hb
  have G1 := G0.trans (hb.mono G0.size)
  clear hb A0 B0 L0
  obtain ⟨c0, c1, c2, c3, c4, c5, c6, c7, c8, c9, c10, c11⟩ := And.intro B1.c0 (And.intro B1.c1 (And.intro B1.c2 (And.intro B1.c3 (And.intro B1.c4 (And.intro B1.c5 (And.intro B1.c6 (And.intro B1.c7 (And.intro B1.c8 (And.intro B1.c9 (And.intro B1.c10 B1.c11))))))))))
  go_wp2_with fail
  clear c0 c1 c2 c3 c4 c5 c6 c7 c8 c9 c10 c11
  refine (rkeys_is l m _ _ _ len cap A rfl rfl rfl HM.out HN.out hmax _ L1).mono ?_; rintro e w2 ⟨g2, rfl, hk2, hb⟩
  rw [show [No.bix l m.ba, m.pa, No.start m, m.vo, No.snd m, m.id] = b from HB.out] at hk2
  replace hk1 := hk1.below hb
  have G2 := G1.trans (hb.mono G1.size)
  clear hb B1 L1
  go_wp2_with fail
  go_loopw [9] (fun s9 wr => ∃ (i : Nat) (q : Int), i ≤ 6 ∧ q = i ∧ s9 = .int .i64 q ∧ Hid (∀ j, j < i → a.getD j 0 = b.getD j 0) ∧ Below w2.heap.size w2 wr) (fun s9 _ => 6 - (intOf s9).toNat)
  case atStart => exact ⟨0, 0, by omega, rfl, rfl, Lib.hid (fun j hj => by omega), Below.refl _ _⟩
  case round =>
    obtain ⟨i, q, hi, hq, rfl, HE, hX⟩ := hrel
    by_cases hlt : i < 6
    · have z1 := hk1.at_ i (by rw [HAL.out]; exact hlt)
      have z2 := hk2.at_ i (by rw [HBL.out]; exact hlt)
      obtain ⟨x, hx⟩ : ∃ x, a.getD i 0 = x := ⟨_, rfl⟩
      obtain ⟨y, hy⟩ : ∃ y, b.getD i 0 = y := ⟨_, rfl⟩
      rw [hx] at z1
      rw [hy] at z2
      have u1 := fun y : Ext wr => y.cell ((hX.cell (p := ⟨g1, i, none⟩) hk1.lt).trans z1)
      have u2 := fun y : Ext wr => y.cell ((hX.cell (p := ⟨g2, i, none⟩) hk2.lt).trans z2)
      have hne := Ext.there wr
      have hp1 : q < 6 := by omega
      have hp3 : 0 ≤ q := by omega
      have hpn : q.toNat = i := by omega
      have HQ := Lib.hid hq
      have HX := Lib.hid hx
      have HY := Lib.hid hy
      clear z1 z2 hq hx hy
      by_cases he : x = y
      · have HE2 : Hid (∀ j, j < i + 1 → a.getD j 0 = b.getD j 0) := Lib.hid (fun j hj => by
          by_cases e : j = i
          · subst e; rw [HX.out, HY.out]; exact he
          · exact HE.out j (by omega))
        have he' : (x == y) = true := by simpa using he
        clear he
        go_wp2_with fail
        refine Ext.region (by kernel_rfl) (by kernel_rfl) ?_
        repeat (go_big_quiet_step (fail))
        refine wpQuiet_nil ?_
        rintro _ ⟨xw, rfl⟩
        replace hX := hX.trans (xw.h.mono hX.size)
        clear u1 u2 hne
        generalize xw.w = w3 at *
        clear xw
        go_wp2_with fail
        go_roundw
        case rel => exact ⟨i + 1, q + 1, by omega, (by have := HQ.out; omega), rfl, HE2, hX⟩
        case measure => have := HQ.out; simp [intOf]; omega
      · have he' : (x == y) = false := by simpa using he
        obtain rfl : decide (x < y) = f := by
          rw [← HF.out, ltk_at i (HAL.out.trans HBL.out.symm) (by rw [HAL.out]; exact hlt) HE.out (by rw [HX.out, HY.out]; exact he), HX.out, HY.out]
        clear he
        go_wp2_with fail
        refine Ext.region (by kernel_rfl) (by kernel_rfl) ?_
        repeat (go_big_quiet_step (fail))
        refine wpQuiet_nil ?_
        rintro _ ⟨xw, rfl⟩
        replace hX := hX.trans (xw.h.mono hX.size)
        have v1 := fun y : Ext xw.w => y.cell (u1 xw)
        have v2 := fun y : Ext xw.w => y.cell (u2 xw)
        have hne2 := Ext.there xw.w
        clear u1 u2 hne
        generalize xw.w = w3 at *
        clear xw
        go_wp2_with fail
        refine Ext.region (by kernel_rfl) (by kernel_rfl) ?_
        repeat (go_big_quiet_step (fail))
        refine wpQuiet_nil ?_
        rintro _ ⟨xw, rfl⟩
        replace hX := hX.trans (xw.h.mono hX.size)
        clear v1 v2 hne2
        generalize xw.w = w4 at *
        clear xw
        go_wp2_with fail
        go_ret
        exact ⟨rfl, G2.trans (hX.mono G2.size)⟩
    · obtain rfl : i = 6 := by omega
      obtain rfl : false = f := by
        rw [← HF.out, ltk_same (HAL.out.trans HBL.out.symm) (by rw [HAL.out]; exact HE.out)]
      have hq1 : ¬ q < 6 := by omega
      clear hq
      go_wp2_with fail
      go_ret
      exact ⟨rfl, G2.trans (hX.mono G2.size)⟩
end Go.Proofs.YtbbjifhelbeniaaGreatDoor

/- Slices of notes; the walk of the reference's Valid. -/
namespace Go.Proofs.YtbbjifhelbeniaaGreatDoor
open Go.RowKit

def atO (l : List No.Nt) (i : Nat) : No.Nt := l[i]?.getD ⟨0, 0, 0, 0, 0, 0, 0, 0, 0, 0, 0, 0⟩
theorem atO_eq {l : List No.Nt} {i : Nat} (h : i < l.length) : atO l i = l[i] := by unfold atO; rw [List.getElem?_eq_getElem h]; rfl
theorem atO_mem {l : List No.Nt} {i : Nat} (h : i < l.length) : atO l i ∈ l := by rw [atO_eq h]; exact List.getElem_mem h
/-- At this address lie these notes (nothing is said where there are none). -/
def SlO (w : World) (A : Option Addr) (l : List No.Nt) : Prop :=
  0 < l.length → ∃ b off, A = some ⟨b, off, none⟩ ∧ b < w.heap.size ∧ ∀ k, k < l.length → NtAt w b (off + k * 12) (atO l k)
theorem SlO.below {w w' : World} {A : Option Addr} {l : List No.Nt} (h : SlO w A l) (hb : Below w.heap.size w w') : SlO w' A l := fun h0 => by
  obtain ⟨b, off, e, hlt, hc⟩ := h h0
  exact ⟨b, off, e, Nat.lt_of_lt_of_le hlt hb.size, fun k hk => (hc k hk).below hb hlt⟩
theorem SlO.alloc {w : World} {A : Option Addr} {l : List No.Nt} (h : SlO w A l) (o : Obj) : SlO (w.alloc o) A l := h.below ((Below.refl _ _).alloc (Nat.le_refl _) _)
theorem SlO.nil (w : World) (A : Option Addr) : SlO w A [] := fun h => by simp at h
theorem SlO.take {w : World} {A : Option Addr} {l : List No.Nt} (h : SlO w A l) (j : Nat) : SlO w A (l.take j) := fun h0 => by
  rw [List.length_take] at h0
  obtain ⟨b, off, rfl, hb, hc⟩ := h (by omega)
  refine ⟨b, off, rfl, hb, fun i hi => ?_⟩
  rw [List.length_take] at hi
  have e : atO (l.take j) i = atO l i := by unfold atO; rw [List.getElem?_take, if_pos (by omega)]
  rw [e]
  exact hc i (by omega)
theorem SlO.drop {w : World} {A : Option Addr} {l : List No.Nt} (h : SlO w A l) (j : Nat) : SlO w (Option.map (fun x => x.add (j * 12)) A) (l.drop j) := fun h0 => by
  rw [List.length_drop] at h0
  obtain ⟨b, off, rfl, hb, hc⟩ := h (by omega)
  refine ⟨b, off + j * 12, by rw [Option.map_some, baddr_off], hb, fun i hi => ?_⟩
  rw [List.length_drop] at hi
  have e : atO (l.drop j) i = atO l (j + i) := by unfold atO; rw [List.getElem?_drop]
  rw [e, show off + j * 12 + i * 12 = off + (j + i) * 12 by omega]
  exact hc (j + i) (by omega)

theorem vval_iff {bs : List Mt.B} {l : List No.Nt} (hb : Mt.Val bs) (h1 : l.length ≤ 20000) : No.Val bs l ↔ (∀ i, i < l.length → No.okN bs (atO l i)) ∧ ∀ i k, i < l.length → k < i → (atO l k).id ≠ (atO l i).id := by
  unfold No.Val
  constructor
  · rintro ⟨_, _, h3, h4⟩
    refine ⟨fun i hi => h3 _ (atO_mem hi), fun i k hi hk => ?_⟩
    rw [atO_eq hi, atO_eq (by omega)]
    exact List.pairwise_iff_getElem.1 h4 k i (by omega) hi hk
  · rintro ⟨h3, h4⟩
    refine ⟨hb, h1, fun n hn => ?_, List.pairwise_iff_getElem.2 fun i j hi hj hij => ?_⟩
    · obtain ⟨i, hi, rfl⟩ := List.getElem_of_mem hn
      rw [← atO_eq hi]; exact h3 i hi
    · rw [← atO_eq hi, ← atO_eq hj]; exact h4 j i hj hij

set_option maxHeartbeats 1600000 in
theorem rnvalid_is (bs : List Mt.B) (l : List No.Nt) (f : Bool) (blen bcap len cap : Nat) (B A : Option Addr) (h : f = true ↔ No.Val bs l) (hbl : bs.length = blen) (hl : l.length = len) (w : World) (hB : SlB w B bs) (hL : SlO w A l) :
    Calls Tryz.prog 30 #[.slice B blen bcap, .slice A len cap] w fun e w' => e = .returned (.bool f) ∧ Below w.heap.size w w' := by
  have HF := Lib.hid h
  have HN := Lib.hid hl
  have HM := Lib.hid hbl
  have HL := Lib.hid hL
  have HB := Lib.hid hB
  clear h hl hbl hL hB
  obtain ⟨v, hv⟩ : ∃ v : Bool, v = true ↔ Mt.Val bs := by
    by_cases h : Mt.Val bs
    · exact ⟨true, by simp [h]⟩
    · exact ⟨false, by simp [h]⟩
  have HV := Lib.hid hv
  clear hv
  cases v with
  | false =>
    have hf : f = false := by
      cases f with
      | false => rfl
      | true => exact absurd (HV.out.2 (HF.out.1 rfl).1) (by decide)
    subst hf
    go_enter Tryz.func30, Tryz.ntmps30
    go_wp2_with fail
    refine (kvalid_is bs false blen bcap B HV.out HM.out _ HB.out).mono ?_; rintro e w1 ⟨rfl, hb⟩
    go_wp2_with fail
    go_ret
    exact ⟨rfl, hb⟩
  | true =>
  replace HV : Hid (Mt.Val bs) := Lib.hid (HV.out.1 rfl)
  by_cases h2 : 20000 < len
  · have hf : f = false := by
      cases f with
      | false => rfl
      | true => have := (HF.out.1 rfl).2.1; rw [HN.out] at this; omega
    subst hf
    have h2' : (20000 : Int) < (len : Int) := by omega
    go_enter Tryz.func30, Tryz.ntmps30
    go_wp2_with fail
    refine (kvalid_is bs true blen bcap B ⟨fun _ => HV.out, fun _ => rfl⟩ HM.out _ HB.out).mono ?_; rintro e w1 ⟨rfl, hb⟩
    go_wp2_with fail
    go_ret
    exact ⟨rfl, hb⟩
  have h2' : ¬ (20000 : Int) < (len : Int) := by omega
  have hl4 : len ≤ 20000 := by omega
  clear h2
  have HF2 : Hid (f = true ↔ (∀ i, i < len → No.okN bs (atO l i)) ∧ ∀ i k, i < len → k < i → (atO l k).id ≠ (atO l i).id) := Lib.hid (by
    rw [HF.out, vval_iff HV.out (by rw [HN.out]; exact hl4), HN.out])
  have hok : Hid (∀ b ∈ bs, Mt.okB b) := Lib.hid (HV.out.ok)
  have hm4 : blen ≤ 4000 := by rw [← HM.out]; exact HV.out.2.1
  go_enter Tryz.func30, Tryz.ntmps30
  go_wp2_with fail
  refine (kvalid_is bs true blen bcap B ⟨fun _ => HV.out, fun _ => rfl⟩ HM.out _ HB.out).mono ?_; rintro e w1 ⟨rfl, G1⟩
  have B1 := Lib.hid (HB.out.below G1)
  have L1 := Lib.hid (HL.out.below G1)
  clear HB HL
  go_wp2_with fail
  go_loopw [6] (fun s6 wr => ∃ (i : Nat) (q : Int), i ≤ len ∧ q = i ∧ s6 = .int .i64 q ∧ Hid ((∀ j, j < i → No.okN bs (atO l j)) ∧ ∀ j k, j < i → k < j → (atO l k).id ≠ (atO l j).id) ∧ Below w1.heap.size w1 wr) (fun s6 _ => len - (intOf s6).toNat)
  case atStart => exact ⟨0, 0, Nat.zero_le _, rfl, rfl, Lib.hid ⟨fun j hj => by omega, fun j k hj => by omega⟩, Below.refl _ _⟩
  case round =>
    obtain ⟨i, q, hi, hq, rfl, HE, hG⟩ := hrel
    by_cases hlt : i < len
    · have hil : i < l.length := by rw [HN.out]; exact hlt
      obtain ⟨bb, off, rfl, hbb, hc⟩ := L1.out (by omega)
      have HC := Lib.hid hc
      have X := (hc i hil).below hG hbb
      obtain ⟨n, hn⟩ : ∃ n, atO l i = n := ⟨_, rfl⟩
      have HI := Lib.hid hn
      rw [hn] at X
      have hq1 : q < (len : Int) := by omega
      have hq3 : 0 ≤ q := by omega
      have hqn : q.toNat = i := by omega
      have HQ := Lib.hid hq
      have hbr : bb < wr.heap.size := Nat.lt_of_lt_of_le hbb hG.size
      clear hc hn hil hq
      obtain ⟨v, hv⟩ : ∃ v : Bool, v = true ↔ No.okN bs n := by
        by_cases h : No.okN bs n
        · exact ⟨true, by simp [h]⟩
        · exact ⟨false, by simp [h]⟩
      have HW := Lib.hid hv
      clear hv
      obtain ⟨c0, c1, c2, c3, c4, c5, c6, c7, c8, c9, c10, c11⟩ := And.intro X.c0 (And.intro X.c1 (And.intro X.c2 (And.intro X.c3 (And.intro X.c4 (And.intro X.c5 (And.intro X.c6 (And.intro X.c7 (And.intro X.c8 (And.intro X.c9 (And.intro X.c10 X.c11))))))))))
      replace c0 : wr.cell? ⟨bb, off + i * 12, none⟩ = some (.int .i64 n.id) := c0
      cases v with
      | false =>
        have hf : f = false := by
          cases f with
          | false => rfl
          | true => have h9 := (HF2.out.1 rfl).1 i hlt; rw [HI.out] at h9; exact absurd (HW.out.2 h9) (by decide)
        subst hf
        go_wp2_with fail
        clear c0 c1 c2 c3 c4 c5 c6 c7 c8 c9 c10 c11 X
        refine (rnote_is bs n false blen bcap B HW.out HM.out hok.out hm4 _ (B1.out.below hG)).mono ?_; rintro e w2 ⟨rfl, hb⟩
        have G2 := hG.trans (hb.mono hG.size)
        go_wp2_with fail
        go_ret
        exact ⟨rfl, G1.trans (G2.mono G1.size)⟩
      | true =>
        replace HW : Hid (No.okN bs n) := Lib.hid (HW.out.1 rfl)
        go_wp2_with fail
        clear c0 c1 c2 c3 c4 c5 c6 c7 c8 c9 c10 c11
        refine (rnote_is bs n true blen bcap B ⟨fun _ => HW.out, fun _ => rfl⟩ HM.out hok.out hm4 _ (B1.out.below hG)).mono ?_; rintro e w2 ⟨rfl, hb⟩
        have X2 := X.below hb hbr
        have G2 := hG.trans (hb.mono hG.size)
        clear hb X hG hbr
        go_wp2_with fail
        have y0 := X2.c0
        replace y0 : w2.cell? ⟨bb, off + i * 12, none⟩ = some (.int .i64 n.id) := y0
        clear X2
        go_loopw [8] (fun s8 wr => ∃ (k : Nat) (p : Int), k ≤ i ∧ p = k ∧ s8 = .int .i64 p ∧ Hid (∀ m, m < k → (atO l m).id ≠ n.id) ∧ Below w2.heap.size w2 wr) (fun s8 _ => i - (intOf s8).toNat)
        case atStart => exact ⟨0, 0, Nat.zero_le _, rfl, rfl, Lib.hid (fun m hm => by omega), Below.refl _ _⟩
        case round =>
          obtain ⟨k, p, hk, hp, rfl, HK, hX⟩ := hrel
          by_cases hki : k < i
          · have hbb2 : bb < w2.heap.size := Nat.lt_of_lt_of_le hbb G2.size
            have z0 := (((HC.out k (by rw [HN.out]; omega)).below G2 hbb).below hX hbb2).c0
            obtain ⟨id, hid⟩ : ∃ id, n.id = id := ⟨_, rfl⟩
            obtain ⟨id2, hid2⟩ : ∃ id2, (atO l k).id = id2 := ⟨_, rfl⟩
            replace z0 : wr.cell? ⟨bb, off + k * 12, none⟩ = some (.int .i64 (atO l k).id) := z0
            have z1 := (hX.cell (p := ⟨bb, off + i * 12, none⟩) hbb2).trans y0
            rw [hid2] at z0
            rw [hid] at z1
            have u0 := fun y : Ext wr => y.cell z1
            have u1 := fun y : Ext wr => y.cell z0
            have hne := Ext.there wr
            have hp1 : p < q := by have := HQ.out; omega
            have hp3 : 0 ≤ p := by omega
            have hpn : p.toNat = k := by omega
            have hpl : p < (len : Int) := by omega
            have hkl : k < len := by omega
            have HP := Lib.hid hp
            have HY := Lib.hid y0
            clear z0 z1 hp y0
            by_cases he : id2 = id
            · have hf : f = false := by
                cases f with
                | false => rfl
                | true => exact absurd (by rw [hid2, HI.out, hid]; exact he) ((HF2.out.1 rfl).2 i k hlt hki)
              subst hf
              have he' : (id2 == id) = true := by simpa using he
              clear he hid2 hid
              go_wp2_with fail
              refine Ext.region (by kernel_rfl) (by kernel_rfl) ?_
              repeat (go_big_quiet_step (fail))
              refine wpQuiet_nil ?_
              rintro _ ⟨xw, rfl⟩
              have G3 := G2.trans ((hX.trans (xw.h.mono hX.size)).mono G2.size)
              clear u0 u1 hne
              generalize xw.w = w3 at *
              clear xw
              go_wp2_with fail
              go_ret
              exact ⟨rfl, G1.trans (G3.mono G1.size)⟩
            · have HK2 : Hid (∀ m, m < k + 1 → (atO l m).id ≠ n.id) := Lib.hid (fun m hm => by
                by_cases e : m = k
                · subst e; rw [hid2, hid]; exact he
                · exact HK.out m (by omega))
              have he' : (id2 == id) = false := by simpa using he
              clear he hid2 hid
              go_wp2_with fail
              refine Ext.region (by kernel_rfl) (by kernel_rfl) ?_
              repeat (go_big_quiet_step (fail))
              refine wpQuiet_nil ?_
              rintro _ ⟨xw, rfl⟩
              replace hX := hX.trans (xw.h.mono hX.size)
              clear u0 u1 hne
              generalize xw.w = w3 at *
              clear xw
              go_wp2_with fail
              go_roundw
              case rel => exact ⟨k + 1, p + 1, by omega, (by have := HP.out; omega), rfl, HK2, hX⟩
              case measure => have := HP.out; simp [intOf]; omega
          · obtain rfl : k = i := by omega
            have hp1 : ¬ p < q := by have := HQ.out; omega
            have HE2 : Hid ((∀ j, j < k + 1 → No.okN bs (atO l j)) ∧ ∀ j m, j < k + 1 → m < j → (atO l m).id ≠ (atO l j).id) := Lib.hid ⟨fun j hj => by
              by_cases e : j = k
              · subst e; rw [HI.out]; exact HW.out
              · exact HE.out.1 j (by omega), fun j m hj hm => by
              by_cases e : j = k
              · subst e; rw [HI.out]; exact HK.out m hm
              · exact HE.out.2 j m (by omega) hm⟩
            have G3 := G2.trans (hX.mono G2.size)
            clear hp
            go_wp2_with fail
            go_roundw
            case rel => exact ⟨k + 1, q + 1, by omega, (by have := HQ.out; omega), rfl, HE2, G3⟩
            case measure => have := HQ.out; simp [intOf]; omega
    · obtain rfl : i = len := by omega
      have hf : f = true := HF2.out.2 HE.out
      subst hf
      have hq1 : ¬ q < (i : Int) := by omega
      clear hq
      go_wp2_with fail
      go_ret
      exact ⟨rfl, G1.trans (hG.mono G1.size)⟩
end Go.Proofs.YtbbjifhelbeniaaGreatDoor

/- A call's own slice of notes: append; the walk of the reference's put. -/
namespace Go.Proofs.YtbbjifhelbeniaaGreatDoor
open Go.RowKit

def rowO (n : No.Nt) : List Value := [.int .i64 n.id, .int .i64 n.pa, .int .i64 n.ba, .int .i64 n.vo, .int .i64 n.os, .int .i64 n.sn, .int .i64 n.sd, .int .i64 n.ln, .int .i64 n.ld, .int .i64 n.st, .int .i64 n.al, .int .i64 n.oc]
def vO (l : List No.Nt) : List Value := l.flatMap rowO
theorem rowO_length (n : No.Nt) : (rowO n).length = 12 := rfl
theorem vO_length : ∀ l : List No.Nt, (vO l).length = l.length * 12
  | [] => rfl
  | n :: l => by
    unfold vO
    rw [List.flatMap_cons, List.length_append, rowO_length, show (l.flatMap rowO).length = l.length * 12 from vO_length l, List.length_cons]
    omega
theorem vO_app (a b : List No.Nt) : vO (a ++ b) = vO a ++ vO b := List.flatMap_append ..
theorem vO_one (n : No.Nt) : vO [n] = rowO n := by unfold vO; simp
theorem vO_at : ∀ {l : List No.Nt} {k j : Nat}, k < l.length → j < 12 → (vO l)[k * 12 + j]? = (rowO (atO l k))[j]?
  | [], _, _, h, _ => by simp at h
  | n :: l, 0, j, _, hj => by
    unfold vO
    rw [List.flatMap_cons, Nat.zero_mul, Nat.zero_add, List.getElem?_append_left (by rw [rowO_length]; exact hj)]
    rfl
  | n :: l, k + 1, j, hk, hj => by
    have := vO_at (l := l) (k := k) (j := j) (by simpa using hk) hj
    unfold vO at this ⊢
    rw [List.flatMap_cons, List.getElem?_append_right (by rw [rowO_length]; omega), rowO_length, show (k + 1) * 12 + j - 12 = k * 12 + j by omega, this]
    unfold atO
    rw [List.getElem?_cons_succ]
theorem vO_cells (l : List No.Nt) : ∀ u ∈ vO l, u.oneCell' = true := fun u hu => by
  obtain ⟨n, _, hn⟩ := List.mem_flatMap.1 hu
  unfold rowO at hn
  simp only [List.mem_cons, List.not_mem_nil, or_false] at hn
  rcases hn with rfl | rfl | rfl | rfl | rfl | rfl | rfl | rfl | rfl | rfl | rfl | rfl <;> rfl
/-- Twelve cells, in a row. -/
theorem NtAt.of {w : World} {b o : Nat} {n : No.Nt} (h : ∀ j u, (rowO n)[j]? = some u → w.cell? ⟨b, o + j, none⟩ = some u) : NtAt w b o n :=
  ⟨h 0 _ rfl, h 1 _ rfl, h 2 _ rfl, h 3 _ rfl, h 4 _ rfl, h 5 _ rfl, h 6 _ rfl, h 7 _ rfl, h 8 _ rfl, h 9 _ rfl, h 10 _ rfl, h 11 _ rfl⟩
theorem NtAt.to {w : World} {b o : Nat} {n : No.Nt} (h : NtAt w b o n) : ∀ j u, (rowO n)[j]? = some u → w.cell? ⟨b, o + j, none⟩ = some u := fun j u hj => by
  match j, hj with
  | 0, hj => exact h.c0.trans hj
  | 1, hj => exact h.c1.trans hj
  | 2, hj => exact h.c2.trans hj
  | 3, hj => exact h.c3.trans hj
  | 4, hj => exact h.c4.trans hj
  | 5, hj => exact h.c5.trans hj
  | 6, hj => exact h.c6.trans hj
  | 7, hj => exact h.c7.trans hj
  | 8, hj => exact h.c8.trans hj
  | 9, hj => exact h.c9.trans hj
  | 10, hj => exact h.c10.trans hj
  | 11, hj => exact h.c11.trans hj
  | j + 12, hj => simp [rowO] at hj
theorem SlO.news {w : World} {b o : Nat} {l : List No.Nt} (h : ∀ k, k < l.length → NtAt w b (o + k * 12) (atO l k)) : ∀ j u, (vO l)[j]? = some u → w.cell? ((⟨b, o, none⟩ : Addr).add j) = some u := fun j u hj => by
  have hjl : j < l.length * 12 := by have := (List.getElem?_eq_some_iff.1 hj).1; rwa [vO_length] at this
  have hk : j / 12 < l.length := by omega
  have hm : j % 12 < 12 := Nat.mod_lt _ (by decide)
  have e : j = j / 12 * 12 + j % 12 := by omega
  rw [e, vO_at hk hm] at hj
  rw [baddr_off, e, ← Nat.add_assoc]
  exact (h _ hk).to _ _ hj
/-- What a call's own slice holds. -/
theorem own_o {w : World} {base : Nat} {e : TypeId} {v : Value} {n : Nat} {l : List No.Nt} (h : w.ownsRow base e 12 v n (vO l)) : l.length = n ∧ ∃ A cap, v = .slice A n cap ∧ SlO w A l ∧ (A = none → cap = 0) := by
  have hl : l.length = n := by have := h.1; rw [vO_length] at this; omega
  refine ⟨hl, ?_⟩
  rcases h.2 with ⟨hv, hn⟩ | ⟨b, cap, cur, hv, hb, hg, _⟩
  · subst hn
    exact ⟨none, 0, hv, fun h0 => by omega, fun _ => rfl⟩
  · refine ⟨some ⟨b, 0, none⟩, cap, hv, fun h0 => ⟨b, 0, rfl, (Array.getElem?_eq_some_iff.1 hg).1, fun k hk => NtAt.of fun j u hj => ?_⟩, fun h => by cases h⟩
    have hj12 : j < 12 := (List.getElem?_eq_some_iff.1 hj).1
    have := h.cells (g := b) (by rw [hv]; rfl) (k * 12 + j) u (by rw [vO_at hk hj12]; exact hj)
    rw [baddr_off] at this
    rw [Nat.add_assoc]
    exact this
/-- 'append(own, x...)', x a slice of notes, nil or not. -/
theorem append_slo {P : Program} {w : World} {ops : Array Oper} {rest : List Oper} {o : Oper} {a : Act} {Q : Exit → Act → World → Prop} (hgd : o.guard = none) (s x : Operand) (t : TypeId)
    (ho : o.op = .call { callee := .builtin .append, args := #[s, x], argTypes := #[t, t] })
    (base : Nat) (e : TypeId) (i : TypeInfo) (z : Value) (bytes : Nat) (ht : P.underlying t = some (.slice e)) (hi : P.info? e = some i) (hz : i.zero = some z)
    (hsize : i.size = 12) (hby : i.bytes = bytes) (hzs : z.cells.size = 12)
    (v : Value) (n : Nat) (xs : List Value) (hs : a.eval s = v) (hown : w.ownsRow base e 12 v n xs)
    (A : Option Addr) (m c : Nat) (l : List No.Nt) (hx : a.eval x = .slice A m c) (hA : A = none → c = 0) (hg : l.length = m) (hL : SlO w A l)
    (h63 : n + m ≤ maxLen) (hbytes : (n + m) * bytes ≤ 140737488355328) (hbase : base ≤ w.heap.size)
    (h : ∀ v' w', w'.ownsRow base e 12 v' (n + m) (xs ++ vO l) → w.grownBy w' v.ownBlock → wpList P ops Q rest (a.put o.dst v') w') : wpList P ops Q (o :: rest) a w := by
  subst hg
  cases A with
  | none =>
    obtain rfl := hA rfl
    have h0 : l = [] := by
      cases l with
      | nil => rfl
      | cons y r =>
        obtain ⟨b, off, hb, _⟩ := hL (by simp)
        cases hb
    subst h0
    exact wpList_append_own_none hgd s x t ho base e i 12 ht hi v n xs hs hown hx (h v w (by simpa [vO] using hown) ⟨rfl, rfl, rfl, Nat.le_refl _, fun _ _ _ => rfl⟩)
  | some ad =>
    refine wpList_append_own w hgd s x t ho base e i z 12 bytes ht hi hz hsize hby hzs (by omega) v n xs hs hown ad l.length c (vO l) hx (vO_length l) ?_ (vO_cells l) h63 hbytes hbase fun v' w' h1 h2 _ => h v' w' h1 h2
    cases l with
    | nil => intro j u hj; simp [vO] at hj
    | cons y r =>
      obtain ⟨b, off, hb, _, hc⟩ := hL (by simp)
      cases hb
      exact SlO.news hc
theorem obelow_grown {a b : World} (h : Below a.heap.size a b) (row : Option Nat) : a.grownBy b row :=
  ⟨h.os, h.tape, h.output, h.size, fun i hi _ => h.block i hi⟩
theorem onone_ne {v : Value} : v.ownBlock = none ∨ v.ownBlock ≠ none := by cases v.ownBlock <;> simp
theorem oown_ne {w : World} {base : Nat} {e : TypeId} {size : Nat} {v : Value} {n : Nat} {xs : List Value} (h : w.ownsRow base e size v n xs) : ∀ j, v.ownBlock = some j → base ≤ j := fun j hj => (h.lt j hj).1
theorem infoNote : (Tryz.prog.info? 51).map (fun i => (i.zero, i.size, i.bytes)) = some (some (.agg #[.int .i64 0, .int .i64 0, .int .i64 0, .int .i64 0, .int .i64 0, .int .i64 0, .int .i64 0, .int .i64 0, .int .i64 0, .int .i64 0, .int .i64 0, .int .i64 0]), 12, 96) := by kernel_rfl
end Go.Proofs.YtbbjifhelbeniaaGreatDoor

/- Parts in memory, and slices of them. -/
namespace Go.Proofs.YtbbjifhelbeniaaGreatDoor
open Go.RowKit

namespace Sc
/-- A part: ID, Section, Of, Octave, Desks, Shift, Low, High. -/
structure Pt where
  id : Int
  se : Int
  f : Int
  oc : Int
  de : Int
  ss : Int
  sm : Int
  ls : Int
  la : Int
  lo : Int
  hs : Int
  ha : Int
  ho : Int
end Sc
/-- The thirteen cells of a part, from an address on. -/
structure PtAt (w : World) (b o : Nat) (p : Sc.Pt) : Prop where
  c0 : w.cell? ⟨b, o + 0, none⟩ = some (.int .i64 p.id)
  c1 : w.cell? ⟨b, o + 1, none⟩ = some (.int .i64 p.se)
  c2 : w.cell? ⟨b, o + 2, none⟩ = some (.int .i64 p.f)
  c3 : w.cell? ⟨b, o + 3, none⟩ = some (.int .i64 p.oc)
  c4 : w.cell? ⟨b, o + 4, none⟩ = some (.int .i64 p.de)
  c5 : w.cell? ⟨b, o + 5, none⟩ = some (.int .i64 p.ss)
  c6 : w.cell? ⟨b, o + 6, none⟩ = some (.int .i64 p.sm)
  c7 : w.cell? ⟨b, o + 7, none⟩ = some (.int .i64 p.ls)
  c8 : w.cell? ⟨b, o + 8, none⟩ = some (.int .i64 p.la)
  c9 : w.cell? ⟨b, o + 9, none⟩ = some (.int .i64 p.lo)
  c10 : w.cell? ⟨b, o + 10, none⟩ = some (.int .i64 p.hs)
  c11 : w.cell? ⟨b, o + 11, none⟩ = some (.int .i64 p.ha)
  c12 : w.cell? ⟨b, o + 12, none⟩ = some (.int .i64 p.ho)
theorem PtAt.below {w w' : World} {b o B : Nat} {p : Sc.Pt} (h : PtAt w b o p) (hb : Below B w w') (hlt : b < B) : PtAt w' b o p :=
  ⟨(hb.cell (p := ⟨b, o + 0, none⟩) hlt).trans h.c0, (hb.cell (p := ⟨b, o + 1, none⟩) hlt).trans h.c1, (hb.cell (p := ⟨b, o + 2, none⟩) hlt).trans h.c2, (hb.cell (p := ⟨b, o + 3, none⟩) hlt).trans h.c3, (hb.cell (p := ⟨b, o + 4, none⟩) hlt).trans h.c4, (hb.cell (p := ⟨b, o + 5, none⟩) hlt).trans h.c5, (hb.cell (p := ⟨b, o + 6, none⟩) hlt).trans h.c6, (hb.cell (p := ⟨b, o + 7, none⟩) hlt).trans h.c7, (hb.cell (p := ⟨b, o + 8, none⟩) hlt).trans h.c8, (hb.cell (p := ⟨b, o + 9, none⟩) hlt).trans h.c9, (hb.cell (p := ⟨b, o + 10, none⟩) hlt).trans h.c10, (hb.cell (p := ⟨b, o + 11, none⟩) hlt).trans h.c11, (hb.cell (p := ⟨b, o + 12, none⟩) hlt).trans h.c12⟩
/-- A part in a block of its own. -/
structure PtB (w : World) (b : Nat) (p : Sc.Pt) : Prop where
  lt : b < w.heap.size
  c0 : w.cell? ⟨b, 0, none⟩ = some (.int .i64 p.id)
  c1 : w.cell? ⟨b, 1, none⟩ = some (.int .i64 p.se)
  c2 : w.cell? ⟨b, 2, none⟩ = some (.int .i64 p.f)
  c3 : w.cell? ⟨b, 3, none⟩ = some (.int .i64 p.oc)
  c4 : w.cell? ⟨b, 4, none⟩ = some (.int .i64 p.de)
  c5 : w.cell? ⟨b, 5, none⟩ = some (.int .i64 p.ss)
  c6 : w.cell? ⟨b, 6, none⟩ = some (.int .i64 p.sm)
  c7 : w.cell? ⟨b, 7, none⟩ = some (.int .i64 p.ls)
  c8 : w.cell? ⟨b, 8, none⟩ = some (.int .i64 p.la)
  c9 : w.cell? ⟨b, 9, none⟩ = some (.int .i64 p.lo)
  c10 : w.cell? ⟨b, 10, none⟩ = some (.int .i64 p.hs)
  c11 : w.cell? ⟨b, 11, none⟩ = some (.int .i64 p.ha)
  c12 : w.cell? ⟨b, 12, none⟩ = some (.int .i64 p.ho)
theorem PtB.below {w w' : World} {b : Nat} {p : Sc.Pt} (h : PtB w b p) (hb : Below w.heap.size w w') : PtB w' b p :=
  ⟨Nat.lt_of_lt_of_le h.lt hb.size, (hb.cell (p := ⟨b, 0, none⟩) h.lt).trans h.c0, (hb.cell (p := ⟨b, 1, none⟩) h.lt).trans h.c1, (hb.cell (p := ⟨b, 2, none⟩) h.lt).trans h.c2, (hb.cell (p := ⟨b, 3, none⟩) h.lt).trans h.c3, (hb.cell (p := ⟨b, 4, none⟩) h.lt).trans h.c4, (hb.cell (p := ⟨b, 5, none⟩) h.lt).trans h.c5, (hb.cell (p := ⟨b, 6, none⟩) h.lt).trans h.c6, (hb.cell (p := ⟨b, 7, none⟩) h.lt).trans h.c7, (hb.cell (p := ⟨b, 8, none⟩) h.lt).trans h.c8, (hb.cell (p := ⟨b, 9, none⟩) h.lt).trans h.c9, (hb.cell (p := ⟨b, 10, none⟩) h.lt).trans h.c10, (hb.cell (p := ⟨b, 11, none⟩) h.lt).trans h.c11, (hb.cell (p := ⟨b, 12, none⟩) h.lt).trans h.c12⟩
theorem PtB.alloc {w : World} {b : Nat} {p : Sc.Pt} (h : PtB w b p) (o : Obj) : PtB (w.alloc o) b p := h.below ((Below.refl _ _).alloc (Nat.le_refl _) _)
set_option maxHeartbeats 800000 in
theorem PtB.new (w : World) (p : Sc.Pt) : PtB (w.alloc (.cells #[.int .i64 p.id, .int .i64 p.se, .int .i64 p.f, .int .i64 p.oc, .int .i64 p.de, .int .i64 p.ss, .int .i64 p.sm, .int .i64 p.ls, .int .i64 p.la, .int .i64 p.lo, .int .i64 p.hs, .int .i64 p.ha, .int .i64 p.ho] 49)) w.heap.size p :=
  ⟨by simp, by go_simp, by go_simp, by go_simp, by go_simp, by go_simp, by go_simp, by go_simp, by go_simp, by go_simp, by go_simp, by go_simp, by go_simp, by go_simp⟩
def rowQ (p : Sc.Pt) : List Value := [.int .i64 p.id, .int .i64 p.se, .int .i64 p.f, .int .i64 p.oc, .int .i64 p.de, .int .i64 p.ss, .int .i64 p.sm, .int .i64 p.ls, .int .i64 p.la, .int .i64 p.lo, .int .i64 p.hs, .int .i64 p.ha, .int .i64 p.ho]
def vQ (l : List Sc.Pt) : List Value := l.flatMap rowQ
def atQ (l : List Sc.Pt) (i : Nat) : Sc.Pt := l[i]?.getD ⟨0, 0, 0, 0, 0, 0, 0, 0, 0, 0, 0, 0, 0⟩
theorem atQ_eq {l : List Sc.Pt} {i : Nat} (h : i < l.length) : atQ l i = l[i] := by unfold atQ; rw [List.getElem?_eq_getElem h]; rfl
theorem atQ_mem {l : List Sc.Pt} {i : Nat} (h : i < l.length) : atQ l i ∈ l := by rw [atQ_eq h]; exact List.getElem_mem h
theorem rowQ_length (p : Sc.Pt) : (rowQ p).length = 13 := rfl
theorem vQ_length : ∀ l : List Sc.Pt, (vQ l).length = l.length * 13
  | [] => rfl
  | p :: l => by
    unfold vQ
    rw [List.flatMap_cons, List.length_append, rowQ_length, show (l.flatMap rowQ).length = l.length * 13 from vQ_length l, List.length_cons]
    omega
theorem vQ_at : ∀ {l : List Sc.Pt} {k j : Nat}, k < l.length → j < 13 → (vQ l)[k * 13 + j]? = (rowQ (atQ l k))[j]?
  | [], _, _, h, _ => by simp at h
  | p :: l, 0, j, _, hj => by
    unfold vQ
    rw [List.flatMap_cons, Nat.zero_mul, Nat.zero_add, List.getElem?_append_left (by rw [rowQ_length]; exact hj)]
    rfl
  | p :: l, k + 1, j, hk, hj => by
    have := vQ_at (l := l) (k := k) (j := j) (by simpa using hk) hj
    unfold vQ at this ⊢
    rw [List.flatMap_cons, List.getElem?_append_right (by rw [rowQ_length]; omega), rowQ_length, show (k + 1) * 13 + j - 13 = k * 13 + j by omega, this]
    unfold atQ
    rw [List.getElem?_cons_succ]
theorem vQ_cells (l : List Sc.Pt) : ∀ u ∈ vQ l, u.oneCell' = true := fun u hu => by
  obtain ⟨p, _, hp⟩ := List.mem_flatMap.1 hu
  unfold rowQ at hp
  simp only [List.mem_cons, List.not_mem_nil, or_false] at hp
  rcases hp with rfl | rfl | rfl | rfl | rfl | rfl | rfl | rfl | rfl | rfl | rfl | rfl | rfl <;> rfl
theorem PtAt.of {w : World} {b o : Nat} {p : Sc.Pt} (h : ∀ j u, (rowQ p)[j]? = some u → w.cell? ⟨b, o + j, none⟩ = some u) : PtAt w b o p :=
  ⟨h 0 _ rfl, h 1 _ rfl, h 2 _ rfl, h 3 _ rfl, h 4 _ rfl, h 5 _ rfl, h 6 _ rfl, h 7 _ rfl, h 8 _ rfl, h 9 _ rfl, h 10 _ rfl, h 11 _ rfl, h 12 _ rfl⟩
theorem PtAt.to {w : World} {b o : Nat} {p : Sc.Pt} (h : PtAt w b o p) : ∀ j u, (rowQ p)[j]? = some u → w.cell? ⟨b, o + j, none⟩ = some u := fun j u hj => by
  match j, hj with
  | 0, hj => exact h.c0.trans hj
  | 1, hj => exact h.c1.trans hj
  | 2, hj => exact h.c2.trans hj
  | 3, hj => exact h.c3.trans hj
  | 4, hj => exact h.c4.trans hj
  | 5, hj => exact h.c5.trans hj
  | 6, hj => exact h.c6.trans hj
  | 7, hj => exact h.c7.trans hj
  | 8, hj => exact h.c8.trans hj
  | 9, hj => exact h.c9.trans hj
  | 10, hj => exact h.c10.trans hj
  | 11, hj => exact h.c11.trans hj
  | 12, hj => exact h.c12.trans hj
  | j + 13, hj => simp [rowQ] at hj
/-- At this address lie these parts (nothing is said where there are none). -/
def SlQ (w : World) (A : Option Addr) (l : List Sc.Pt) : Prop :=
  0 < l.length → ∃ b off, A = some ⟨b, off, none⟩ ∧ b < w.heap.size ∧ ∀ k, k < l.length → PtAt w b (off + k * 13) (atQ l k)
theorem SlQ.below {w w' : World} {A : Option Addr} {l : List Sc.Pt} (h : SlQ w A l) (hb : Below w.heap.size w w') : SlQ w' A l := fun h0 => by
  obtain ⟨b, off, e, hlt, hc⟩ := h h0
  exact ⟨b, off, e, Nat.lt_of_lt_of_le hlt hb.size, fun k hk => (hc k hk).below hb hlt⟩
theorem SlQ.alloc {w : World} {A : Option Addr} {l : List Sc.Pt} (h : SlQ w A l) (o : Obj) : SlQ (w.alloc o) A l := h.below ((Below.refl _ _).alloc (Nat.le_refl _) _)
theorem SlQ.nil (w : World) (A : Option Addr) : SlQ w A [] := fun h => by simp at h
theorem SlQ.news {w : World} {b o : Nat} {l : List Sc.Pt} (h : ∀ k, k < l.length → PtAt w b (o + k * 13) (atQ l k)) : ∀ j u, (vQ l)[j]? = some u → w.cell? ((⟨b, o, none⟩ : Addr).add j) = some u := fun j u hj => by
  have hjl : j < l.length * 13 := by have := (List.getElem?_eq_some_iff.1 hj).1; rwa [vQ_length] at this
  have hk : j / 13 < l.length := by omega
  have hm : j % 13 < 13 := Nat.mod_lt _ (by decide)
  have e : j = j / 13 * 13 + j % 13 := by omega
  rw [e, vQ_at hk hm] at hj
  rw [baddr_off, e, ← Nat.add_assoc]
  exact (h _ hk).to _ _ hj
/-- What a call's own slice holds. -/
theorem own_q {w : World} {base : Nat} {e : TypeId} {v : Value} {m : Nat} {l : List Sc.Pt} (h : w.ownsRow base e 13 v m (vQ l)) : l.length = m ∧ ∃ A cap, v = .slice A m cap ∧ SlQ w A l ∧ (A = none → cap = 0) := by
  have hl : l.length = m := by have := h.1; rw [vQ_length] at this; omega
  refine ⟨hl, ?_⟩
  rcases h.2 with ⟨hv, hn⟩ | ⟨b, cap, cur, hv, hb, hg, _⟩
  · subst hn
    exact ⟨none, 0, hv, fun h0 => by omega, fun _ => rfl⟩
  · refine ⟨some ⟨b, 0, none⟩, cap, hv, fun h0 => ⟨b, 0, rfl, (Array.getElem?_eq_some_iff.1 hg).1, fun k hk => PtAt.of fun j u hj => ?_⟩, fun h => by cases h⟩
    have hj13 : j < 13 := (List.getElem?_eq_some_iff.1 hj).1
    have := h.cells (g := b) (by rw [hv]; rfl) (k * 13 + j) u (by rw [vQ_at hk hj13]; exact hj)
    rw [baddr_off] at this
    rw [Nat.add_assoc]
    exact this
theorem infoPart : (Tryz.prog.info? 49).map (fun i => (i.zero, i.size, i.bytes)) = some (some (.agg #[.int .i64 0, .int .i64 0, .int .i64 0, .int .i64 0, .int .i64 0, .int .i64 0, .int .i64 0, .int .i64 0, .int .i64 0, .int .i64 0, .int .i64 0, .int .i64 0, .int .i64 0]), 13, 104) := by kernel_rfl
theorem infoPart_size : (Tryz.prog.info? 49).map (·.size) = some 13 := by kernel_rfl
end Go.Proofs.YtbbjifhelbeniaaGreatDoor

/- Mathematics of scores: parts, who has own notes, what a part plays. -/
namespace Go.Proofs.YtbbjifhelbeniaaGreatDoor

namespace Sc
open No (Nt)
def pv (s a o : Int) : Prop := (0 ≤ s ∧ s ≤ 6) ∧ (-4 ≤ a ∧ a ≤ 4) ∧ (-8 ≤ o ∧ o ≤ 20)
def num (s a o : Int) : Int := 12 * o + No.nat7 s + a
theorem num_bd {s a o : Int} (h : pv s a o) : -100 ≤ num s a o ∧ num s a o ≤ 260 := by
  obtain ⟨h1, h2, h3⟩ := h
  unfold num No.nat7
  split <;> omega
def okSh (st se : Int) : Prop := (-21 ≤ st ∧ st ≤ 21) ∧ (-36 ≤ se ∧ se ≤ 36) ∧ (-12 ≤ 7 * se - 12 * st ∧ 7 * se - 12 * st ≤ 12)
def dbl (p : Pt) : Prop := if p.f = 0 then p.oc = 0 else (1 ≤ p.f ∧ p.f ≤ 1000000) ∧ p.f ≠ p.id ∧ (-2 ≤ p.oc ∧ p.oc ≤ 2)
def okR (p : Pt) : Prop := pv p.ls p.la p.lo ∧ pv p.hs p.ha p.ho ∧ num p.ls p.la p.lo ≤ num p.hs p.ha p.ho
def okP (p : Pt) : Prop := (1 ≤ p.id ∧ p.id ≤ 1000000) ∧ (0 ≤ p.se ∧ p.se ≤ 99) ∧ (1 ≤ p.de ∧ p.de ≤ 40) ∧ dbl p ∧ okSh p.ss p.sm ∧ okR p
/-! ### parts with their own notes -/
def ownS (f : Int → Option Pt) (p : Pt) : Int → Option Pt := if p.f = 0 then fun x => if x = p.id then some p else f x else f
theorem ownS_eq (f : Int → Option Pt) (p : Pt) (x : Int) : ownS f p x = if p.f = 0 then (if x = p.id then some p else f x) else f x := by unfold ownS; split <;> rfl
def ownF (l : List Pt) : Int → Option Pt := l.foldl ownS (fun _ => none)
theorem ownF_snoc (l : List Pt) (p : Pt) : ownF (l ++ [p]) = ownS (ownF l) p := by unfold ownF; rw [List.foldl_append]; rfl
theorem fold_mem : ∀ (l : List Pt) (f : Int → Option Pt) (x : Int) (q : Pt), l.foldl ownS f x = some q → f x = some q ∨ (q ∈ l ∧ q.f = 0 ∧ q.id = x)
  | [], _, _, _, h => .inl h
  | p :: l, f, x, q, h => by
    rcases fold_mem l (ownS f p) x q h with h1 | ⟨h1, h2⟩
    · rw [ownS_eq] at h1
      split at h1
      · split at h1
        · rename_i e1 e2
          cases h1
          exact .inr ⟨by simp, e1, e2.symm⟩
        · exact .inl h1
      · exact .inl h1
    · exact .inr ⟨by simp [h1], h2⟩
theorem ownF_mem {l : List Pt} {x : Int} {q : Pt} (h : ownF l x = some q) : q ∈ l ∧ q.f = 0 ∧ q.id = x := by
  rcases fold_mem l _ x q h with h1 | h1
  · cases h1
  · exact h1
theorem fold_some : ∀ (l : List Pt) (f : Int → Option Pt) (x : Int), (f x).isSome = true → (l.foldl ownS f x).isSome = true
  | [], _, _, h => h
  | p :: l, f, x, h => by
    refine fold_some l (ownS f p) x ?_
    rw [ownS_eq]
    split
    · split
      · rfl
      · exact h
    · exact h
theorem fold_has : ∀ (l : List Pt) (f : Int → Option Pt) (q : Pt), q ∈ l → q.f = 0 → (l.foldl ownS f q.id).isSome = true
  | [], _, _, h, _ => by cases h
  | p :: l, f, q, h, h0 => by
    rcases List.mem_cons.1 h with rfl | h
    · refine fold_some l _ _ ?_
      rw [ownS_eq, if_pos h0, if_pos rfl]
      rfl
    · exact fold_has l _ q h h0
theorem ownF_has {l : List Pt} {q : Pt} (h : q ∈ l) (h0 : q.f = 0) : (ownF l q.id).isSome = true := fold_has l _ q h h0
theorem id_one {l : List Pt} (h : l.Pairwise fun a b => a.id ≠ b.id) {a b : Pt} (ha : a ∈ l) (hb : b ∈ l) (e : a.id = b.id) : a = b := by
  obtain ⟨i, hi, rfl⟩ := List.mem_iff_getElem.1 ha
  obtain ⟨j, hj, rfl⟩ := List.mem_iff_getElem.1 hb
  rcases Nat.lt_trichotomy i j with hij | hij | hij
  · exact absurd e (List.pairwise_iff_getElem.1 h i j hi hj hij)
  · subst hij; rfl
  · exact absurd e.symm (List.pairwise_iff_getElem.1 h j i hj hi hij)
theorem own_is {l : List Pt} (h : l.Pairwise fun a b => a.id ≠ b.id) {q : Pt} (hq : q ∈ l) (h0 : q.f = 0) : ownF l q.id = some q := by
  obtain ⟨p, hp⟩ := Option.isSome_iff_exists.1 (ownF_has hq h0)
  obtain ⟨h1, _, h2⟩ := ownF_mem hp
  rw [hp, id_one h h1 hq h2]
/-- Parts. -/
def Parts (l : List Pt) : Prop := (1 ≤ l.length ∧ l.length ≤ 60) ∧ (∀ p ∈ l, okP p) ∧ (l.Pairwise fun a b => a.id ≠ b.id) ∧ ∀ p ∈ l, p.f ≠ 0 → (ownF l p.f).isSome = true
/-! ### where parts are -/
def pix : List Pt → Int → Int
  | [], _ => -1
  | b :: l, id => if b.id = id then 0 else if pix l id < 0 then -1 else pix l id + 1
theorem pix_ge : ∀ (l : List Pt) (id : Int), -1 ≤ pix l id
  | [], _ => Int.le_refl _
  | b :: l, id => by
    have := pix_ge l id
    unfold pix
    split
    · omega
    · split <;> omega
theorem pix_lt : ∀ (l : List Pt) (id : Int), pix l id < l.length
  | [], _ => by unfold pix; simp
  | b :: l, id => by
    have := pix_lt l id
    unfold pix
    simp only [List.length_cons]
    split
    · omega
    · split <;> omega
theorem pix_at : ∀ {l : List Pt} {id : Int}, 0 ≤ pix l id → (atQ l (pix l id).toNat).id = id
  | [], id, h => by unfold pix at h; omega
  | b :: l, id, h => by
    unfold pix at h ⊢
    split
    · rename_i e; exact e
    · rename_i e
      rw [if_neg e] at h
      split
      · rename_i h1; rw [if_pos h1] at h; omega
      · rename_i h1
        have ih := pix_at (l := l) (id := id) (by omega)
        rw [show (pix l id + 1).toNat = (pix l id).toNat + 1 by omega]
        exact ih
theorem pix_none : ∀ {l : List Pt} {id : Int}, pix l id < 0 → ∀ b ∈ l, b.id ≠ id
  | [], _, _, _, hx => by cases hx
  | b :: l, id, h, x, hx => by
    unfold pix at h
    by_cases e : b.id = id
    · rw [if_pos e] at h; omega
    · rw [if_neg e] at h
      rcases List.mem_cons.1 hx with rfl | hx
      · exact e
      · refine pix_none (l := l) ?_ x hx
        split at h
        · assumption
        · omega
theorem pix_first : ∀ {l : List Pt} {id : Int} {i : Nat}, i < l.length → (atQ l i).id = id → (∀ k, k < i → (atQ l k).id ≠ id) → pix l id = i
  | [], _, _, hi, _, _ => by simp at hi
  | b :: l, id, 0, _, h, _ => by unfold pix; rw [if_pos (show b.id = id from h)]; rfl
  | b :: l, id, i + 1, hi, h, hk => by
    have e : b.id ≠ id := hk 0 (by omega)
    have ih := pix_first (l := l) (id := id) (i := i) (by simpa using hi) h (fun k hk2 => hk (k + 1) (by omega))
    unfold pix
    rw [if_neg e, if_neg (by omega), ih]
    rfl
theorem pix_of {l : List Pt} (h : l.Pairwise fun a b => a.id ≠ b.id) {i : Nat} (hi : i < l.length) : pix l (atQ l i).id = i :=
  pix_first hi rfl fun k hk => by
    rw [atQ_eq hi, atQ_eq (by omega)]
    exact List.pairwise_iff_getElem.1 h k i (by omega) hi hk
/-- Own parts, by where they are. -/
theorem own_pix {l : List Pt} (h : l.Pairwise fun a b => a.id ≠ b.id) (x : Int) : ownF l x = if 0 ≤ pix l x ∧ (atQ l (pix l x).toNat).f = 0 then some (atQ l (pix l x).toNat) else none := by
  have h2 := pix_lt l x
  split
  · rename_i h1
    have h3 := pix_at h1.1
    have h4 := own_is h (q := atQ l (pix l x).toNat) (atQ_mem (by omega)) h1.2
    rw [h3] at h4
    exact h4
  · rename_i h1
    cases e : ownF l x with
    | none => rfl
    | some q =>
      obtain ⟨h5, h6, h7⟩ := ownF_mem e
      obtain ⟨i, hi, rfl⟩ := List.mem_iff_getElem.1 h5
      have h8 := pix_of h hi
      rw [atQ_eq hi, h7] at h8
      exact absurd ⟨by omega, by rw [h8, Int.toNat_natCast, atQ_eq hi]; exact h6⟩ h1
/-- As the reference asks for parts. -/
def PartsR (l : List Pt) : Prop := (1 ≤ l.length ∧ l.length ≤ 60) ∧ ∀ i, i < l.length → okP (atQ l i) ∧ pix l (atQ l i).id = i ∧ ((atQ l i).f ≠ 0 → 0 ≤ pix l (atQ l i).f ∧ (atQ l (pix l (atQ l i).f).toNat).f = 0)
theorem partsR_iff (l : List Pt) : PartsR l ↔ Parts l := by
  constructor
  · rintro ⟨h0, h⟩
    have hd : l.Pairwise fun a b => a.id ≠ b.id := List.pairwise_iff_getElem.2 fun i j hi hj hij e => by
      have h1 := (h i hi).2.1
      have h2 := (h j hj).2.1
      rw [atQ_eq hi] at h1
      rw [atQ_eq hj, ← e, h1] at h2
      omega
    refine ⟨h0, fun p hp => ?_, hd, fun p hp hf => ?_⟩
    · obtain ⟨i, hi, rfl⟩ := List.mem_iff_getElem.1 hp
      have := (h i hi).1
      rwa [atQ_eq hi] at this
    · obtain ⟨i, hi, rfl⟩ := List.mem_iff_getElem.1 hp
      have := (h i hi).2.2
      rw [atQ_eq hi] at this
      rw [own_pix hd, if_pos (this hf)]
      rfl
  · rintro ⟨h0, h1, h2, h3⟩
    refine ⟨h0, fun i hi => ⟨h1 _ (atQ_mem hi), pix_of h2 hi, fun hf => ?_⟩⟩
    have h4 := h3 _ (atQ_mem hi) hf
    rw [own_pix h2] at h4
    by_cases h5 : 0 ≤ pix l (atQ l i).f ∧ (atQ l (pix l (atQ l i).f).toNat).f = 0
    · exact h5
    · rw [if_neg h5] at h4; cases h4
/-! ### notes of parts -/
def rng (p : Pt) (n : Nt) : Prop := num p.ls p.la p.lo ≤ No.snd n ∧ No.snd n ≤ num p.hs p.ha p.ho
def stray (ps : List Pt) (ns : List Nt) : Prop := ∃ n ∈ ns, ownF ps n.pa = none
def far (ps : List Pt) (ns : List Nt) : Prop := ∃ n ∈ ns, ∃ p, ownF ps n.pa = some p ∧ ¬ rng p n
open Classical in
/-- The error of notes of parts. -/
noncomputable def wrong (ps : List Pt) (ns : List Nt) : Int := if stray ps ns then 22 else if far ps ns then 20 else 0
theorem wrong_perm {ps : List Pt} {a b : List Nt} (h : a.Perm b) : wrong ps a = wrong ps b := by
  have h1 : stray ps a ↔ stray ps b := ⟨fun ⟨n, hn, e⟩ => ⟨n, h.mem_iff.1 hn, e⟩, fun ⟨n, hn, e⟩ => ⟨n, h.mem_iff.2 hn, e⟩⟩
  have h2 : far ps a ↔ far ps b := ⟨fun ⟨n, hn, e⟩ => ⟨n, h.mem_iff.1 hn, e⟩, fun ⟨n, hn, e⟩ => ⟨n, h.mem_iff.2 hn, e⟩⟩
  have e1 : stray ps a = stray ps b := propext h1
  have e2 : far ps a = far ps b := propext h2
  unfold wrong
  rw [e1, e2]
theorem wrong_zero {ps : List Pt} {ns : List Nt} : wrong ps ns = 0 ↔ ∀ n ∈ ns, ∃ p, ownF ps n.pa = some p ∧ rng p n := by
  unfold wrong
  constructor
  · intro h n hn
    by_cases h1 : stray ps ns
    · rw [if_pos h1] at h; omega
    · rw [if_neg h1] at h
      by_cases h2 : far ps ns
      · rw [if_pos h2] at h; omega
      · cases e : ownF ps n.pa with
        | none => exact absurd ⟨n, hn, e⟩ h1
        | some p =>
          refine ⟨p, rfl, ?_⟩
          by_cases h3 : rng p n
          · exact h3
          · exact absurd ⟨n, hn, p, e, h3⟩ h2
  · intro h
    rw [if_neg, if_neg]
    · rintro ⟨n, hn, p, e, h3⟩
      obtain ⟨q, e2, h4⟩ := h n hn
      rw [e] at e2
      cases e2
      exact h3 h4
    · rintro ⟨n, hn, e⟩
      obtain ⟨q, e2, _⟩ := h n hn
      rw [e] at e2
      cases e2
/-- A score. -/
structure Val (v : Int) (bs : List Mt.B) (ps : List Pt) (ns : List Nt) : Prop where
  ver : 1 ≤ v ∧ v ≤ 1000000
  parts : Parts ps
  notes : No.Val bs ns
  order : No.srt (No.lt bs) ns = ns
  wrong : wrong ps ns = 0
/-- Whose notes a part plays. -/
def src (p : Pt) : Int := if p.f = 0 then p.id else p.f
def asP (p : Pt) (n : Nt) : Nt := { n with pa := p.id, oc := n.oc + p.oc }
def play (p : Pt) (ns : List Nt) : List Nt := (ns.filter fun n => decide (n.pa = src p)).map (asP p)
theorem order_iff {bs : List Mt.B} {l : List Nt} (h : No.Val bs l) : No.srt (No.lt bs) l = l ↔ l.Pairwise fun a b => No.lt bs a b = true := by
  constructor
  · intro e
    have := No.srt_sorted (No.lt_trans bs) (No.lt_differ (bs := bs) h.2.2.2)
    rwa [e] at this
  · exact No.srt_self (No.lt_asymm bs) (No.lt_trans bs)
end Sc
end Go.Proofs.YtbbjifhelbeniaaGreatDoor
