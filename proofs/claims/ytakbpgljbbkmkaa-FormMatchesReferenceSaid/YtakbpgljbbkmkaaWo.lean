/- The walks of the library's Index and Contains over cuts, of its Clone, and of reprise's clone. -/
import Derived.Test.YtakbpgljbbkmkaaWn
namespace Go.Proofs.Ytakbpgljbbkmkaa
open Go.RowKit

set_option maxHeartbeats 1600000 in
theorem windex_is (l : List Fo.T3) (c : Fo.T3) (r : Int) (len cap : Nat) (A : Option Addr) (hr : Fo.cix l c = r) (hl : l.length = len) (hmax : len ≤ 1000000) (w : World) (hL : SlT w A l) :
    Calls Try.prog 50 #[.slice A len cap, .agg #[.int .i64 c.a, .int .i64 c.b, .int .i64 c.c]] w fun e w' => e = .returned (.int .i64 r) ∧ Below w.heap.size w w' := by
  have HF := Lib.hid hr; have HN := Lib.hid hl; have HL := Lib.hid hL
  have B := (Below.refl w.heap.size w).alloc (Nat.le_refl _) (.cells #[.int .i64 c.a, .int .i64 c.b, .int .i64 c.c] 32)
  have Q := TB.new w c 32
  clear hr hl hL
  go_enter Try.func50, Try.ntmps50
  go_wp2_with fail
  obtain ⟨W1, hW1⟩ : ∃ W1, w.alloc (.cells #[.int .i64 c.a, .int .i64 c.b, .int .i64 c.c] 32) = W1 := ⟨_, rfl⟩
  rw [hW1] at B Q ⊢
  clear hW1
  have HQ := Lib.hid Q; have HB := Lib.hid B
  clear Q B
  go_loopw [8] (fun s8 wr => ∃ (i : Nat), i ≤ len ∧ s8 = .int .i64 (i : Int) ∧ Hid (∀ j, j < i → Fo.at3 l j ≠ c) ∧ Below W1.heap.size W1 wr) (fun s8 _ => len - (intOf s8).toNat)
  case atStart => exact ⟨0, Nat.zero_le _, rfl, Lib.hid (fun j hj => by omega), Below.refl _ _⟩
  case round =>
    obtain ⟨i, hi, rfl, HJ, hR⟩ := hrel
    by_cases hlt : i < len
    · have hil : i < l.length := by rw [HN.out]; exact hlt
      obtain ⟨b, off, rfl, hb, hc⟩ := HL.out (by omega)
      have X := (hc i hil).below (HB.out.trans (hR.mono HB.out.size)) hb
      obtain ⟨x, hx⟩ : ∃ x, Fo.at3 l i = x := ⟨_, rfl⟩
      rw [hx] at X
      have Q := HQ.out.below hR
      have z0 := fun y : Ext wr => y.cell X.c0; have z1 := fun y : Ext wr => y.cell X.c1; have z2 := fun y : Ext wr => y.cell X.c2
      have k0 := fun y : Ext wr => y.cell Q.c0; have k1 := fun y : Ext wr => y.cell Q.c1; have k2 := fun y : Ext wr => y.cell Q.c2
      have hne := Ext.there wr
      have HX := Lib.hid hx; have HIL := Lib.hid hil
      have hi1 : (i : Int) < (len : Int) := by omega
      clear hc hx hil X Q
      go_wp2_with fail
      obtain ⟨g, hg⟩ : ∃ g : Bool, g = true ↔ c = x := ⟨decide (c = x), by simp⟩
      have heq := fun W => eqCut c x g hg W
      have HG := Lib.hid hg
      clear hg
      refine Ext.region (by kernel_rfl) (by kernel_rfl) ?_
      repeat (go_big_quiet_step (simp only [heq]))
      refine wpQuiet_nil ?_
      rintro _ ⟨xw, rfl⟩
      have hR2 := hR.trans (xw.h.mono hR.size)
      clear z0 z1 z2 k0 k1 k2 hne heq
      generalize xw.w = w3 at *
      clear xw
      cases g with
      | true =>
        obtain rfl : (i : Int) = r := by
          rw [← HF.out]
          exact (Fo.cix_first HIL.out (by rw [HX.out]; exact (HG.out.1 rfl).symm) HJ.out).symm
        go_wp2_with fail
        go_ret
        exact ⟨rfl, HB.out.trans (hR2.mono HB.out.size)⟩
      | false =>
        have HJ2 : Hid (∀ j, j < i + 1 → Fo.at3 l j ≠ c) := Lib.hid (fun j hj => by
          rcases Nat.lt_or_ge j i with h | h
          · exact HJ.out j h
          · rw [show j = i by omega, HX.out]; exact fun e => by have := HG.out.2 e.symm; cases this)
        go_wp2_with fail
        go_roundw
        case rel => exact ⟨i + 1, by omega, by simp, HJ2, hR2⟩
        case measure => simp [intOf]; omega
    · obtain rfl : i = len := by omega
      obtain rfl : r = -1 := by
        rw [← HF.out]
        by_cases h0 : 0 ≤ Fo.cix l c
        · have h1 := Fo.cix_at h0
          have h2 := Fo.cix_lt l c
          exact absurd h1 (HJ.out _ (by rw [← HN.out]; omega))
        · have := Fo.cix_ge l c; omega
      go_wp2_with fail
      go_ret
      exact ⟨rfl, HB.out.trans (hR.mono HB.out.size)⟩
set_option maxHeartbeats 800000 in
theorem wcontains_is (l : List Fo.T3) (c : Fo.T3) (f : Bool) (len cap : Nat) (A : Option Addr) (hf : f = true ↔ 0 ≤ Fo.cix l c) (hl : l.length = len) (hmax : len ≤ 1000000) (w : World) (hL : SlT w A l) :
    Calls Try.prog 48 #[.slice A len cap, .agg #[.int .i64 c.a, .int .i64 c.b, .int .i64 c.c]] w fun e w' => e = .returned (.bool f) ∧ Below w.heap.size w w' := by
  obtain ⟨r, hr⟩ : ∃ r, Fo.cix l c = r := ⟨_, rfl⟩
  rw [hr] at hf
  have HF := Lib.hid hf; have HR := Lib.hid hr; have HN := Lib.hid hl
  have HL := Lib.hid (hL.alloc (.cells #[.int .i64 c.a, .int .i64 c.b, .int .i64 c.c] 32))
  have B := (Below.refl w.heap.size w).alloc (Nat.le_refl _) (.cells #[.int .i64 c.a, .int .i64 c.b, .int .i64 c.c] 32)
  clear hf hr hl hL
  go_enter Try.func48, Try.ntmps48
  go_wp2_with fail
  refine (windex_is l c r len cap A HR.out HN.out hmax _ HL.out).mono ?_; rintro e w1 ⟨rfl, hb⟩
  have B2 := B.trans (hb.mono (by simp))
  obtain rfl : f = decide (0 ≤ r) := by rw [Bool.eq_iff_iff, HF.out, decide_eq_true_eq]
  clear hb B
  go_wp2_with fail
  go_ret
  exact ⟨rfl, B2⟩
theorem infoRepeatK : (Try.prog.info? 54).map (fun i => (i.zero, i.size, i.bytes)) = some (some (.agg #[.int .i64 0, .int .i64 0, .int .i64 0]), 3, 24) := by kernel_rfl
set_option maxRecDepth 100000 in
set_option maxHeartbeats 1600000 in
theorem wcloneR_is (l : List Fo.T3) (len cap : Nat) (A : Option Addr) (hl : l.length = len) (hmax : len ≤ 1000000) (hnil : A = none → cap = 0) (w : World) (hL : SlT w A l) :
    Calls Try.prog 68 #[.slice A len cap] w fun e w' => Below w.heap.size w w' ∧ ∃ v, e = .returned v ∧ w'.ownsRow w.heap.size 54 3 v len (vT l) := by
  cases A with
  | none =>
    obtain rfl : l = [] := by
      cases l with
      | nil => rfl
      | cons y r => obtain ⟨b, off, hb, _⟩ := hL (by simp); cases hb
    obtain rfl : len = 0 := by simpa using hl.symm
    obtain rfl := hnil rfl
    clear hL hl hnil hmax
    have heq := fun X => Lib.run_eql_slice_nil (P := Try.prog) X 22 54 none 0 0 0 0 Try.underlying22
    rw [show (none : Option Addr).isNone = true from rfl] at heq
    go_enter Try.func68, Try.ntmps68
    go_wp2_with fail
    go_ret
    exact ⟨Below.refl _ _, _, rfl, World.ownsRow_nil _ _ _ _⟩
  | some ad =>
    obtain ⟨i0, hi0, hz0, hz1, hz2⟩ := info_parts infoRepeatK
    have O1 := own_emptyS w 54 3
    have B1 := (Below.refl w.heap.size w).alloc (Nat.le_refl _) (.cells #[] 54)
    have HL := Lib.hid (hL.alloc (.cells #[] 54))
    have HN := Lib.hid hl
    clear hL hnil hl
    have heq := fun X => Lib.run_eql_slice_nil (P := Try.prog) X 22 54 (some ad) len cap 0 0 Try.underlying22
    rw [show (some ad : Option Addr).isNone = false from rfl] at heq
    go_enter Try.func68, Try.ntmps68
    go_wp2_with (first | (at_builtin; refine append_slt rfl _ _ 22 rfl w.heap.size 54 i0 (.agg #[.int .i64 0, .int .i64 0, .int .i64 0]) 24 Try.underlying22 hi0 hz0 hz1 hz2 rfl _ 0 [] rfl O1 (some ad) len cap l rfl (fun h => by cases h) HN.out HL.out (by unfold maxLen; omega) (by omega) (by simp) ?_; intro v5 w5 hown5 hgrow5; have B5 := B1.grown hgrow5 (by simp) (own_ne O1); clear hgrow5) | fail)
    go_ret
    rw [Nat.zero_add, List.nil_append] at hown5
    exact ⟨B5, v5, rfl, hown5⟩
theorem infoEndingK : (Try.prog.info? 73).map (fun i => (i.zero, i.size, i.bytes)) = some (some (.agg #[.int .i64 0, .int .i64 0, .int .i64 0]), 3, 24) := by kernel_rfl
set_option maxRecDepth 100000 in
set_option maxHeartbeats 1600000 in
theorem wcloneE_is (l : List Fo.T3) (len cap : Nat) (A : Option Addr) (hl : l.length = len) (hmax : len ≤ 1000000) (hnil : A = none → cap = 0) (w : World) (hL : SlT w A l) :
    Calls Try.prog 69 #[.slice A len cap] w fun e w' => Below w.heap.size w w' ∧ ∃ v, e = .returned v ∧ w'.ownsRow w.heap.size 73 3 v len (vT l) := by
  cases A with
  | none =>
    obtain rfl : l = [] := by
      cases l with
      | nil => rfl
      | cons y r => obtain ⟨b, off, hb, _⟩ := hL (by simp); cases hb
    obtain rfl : len = 0 := by simpa using hl.symm
    obtain rfl := hnil rfl
    clear hL hl hnil hmax
    have heq := fun X => Lib.run_eql_slice_nil (P := Try.prog) X 23 73 none 0 0 0 0 Try.underlying23
    rw [show (none : Option Addr).isNone = true from rfl] at heq
    go_enter Try.func69, Try.ntmps69
    go_wp2_with fail
    go_ret
    exact ⟨Below.refl _ _, _, rfl, World.ownsRow_nil _ _ _ _⟩
  | some ad =>
    obtain ⟨i0, hi0, hz0, hz1, hz2⟩ := info_parts infoEndingK
    have O1 := own_emptyS w 73 3
    have B1 := (Below.refl w.heap.size w).alloc (Nat.le_refl _) (.cells #[] 73)
    have HL := Lib.hid (hL.alloc (.cells #[] 73))
    have HN := Lib.hid hl
    clear hL hnil hl
    have heq := fun X => Lib.run_eql_slice_nil (P := Try.prog) X 23 73 (some ad) len cap 0 0 Try.underlying23
    rw [show (some ad : Option Addr).isNone = false from rfl] at heq
    go_enter Try.func69, Try.ntmps69
    go_wp2_with (first | (at_builtin; refine append_slt rfl _ _ 23 rfl w.heap.size 73 i0 (.agg #[.int .i64 0, .int .i64 0, .int .i64 0]) 24 Try.underlying23 hi0 hz0 hz1 hz2 rfl _ 0 [] rfl O1 (some ad) len cap l rfl (fun h => by cases h) HN.out HL.out (by unfold maxLen; omega) (by omega) (by simp) ?_; intro v5 w5 hown5 hgrow5; have B5 := B1.grown hgrow5 (by simp) (own_ne O1); clear hgrow5) | fail)
    go_ret
    rw [Nat.zero_add, List.nil_append] at hown5
    exact ⟨B5, v5, rfl, hown5⟩
set_option maxRecDepth 100000 in
set_option maxHeartbeats 1600000 in
theorem wcloneC_is (l : List Fo.T3) (len cap : Nat) (A : Option Addr) (hl : l.length = len) (hmax : len ≤ 1000000) (hnil : A = none → cap = 0) (w : World) (hL : SlT w A l) :
    Calls Try.prog 70 #[.slice A len cap] w fun e w' => Below w.heap.size w w' ∧ ∃ v, e = .returned v ∧ w'.ownsRow w.heap.size 32 3 v len (vT l) := by
  cases A with
  | none =>
    obtain rfl : l = [] := by
      cases l with
      | nil => rfl
      | cons y r => obtain ⟨b, off, hb, _⟩ := hL (by simp); cases hb
    obtain rfl : len = 0 := by simpa using hl.symm
    obtain rfl := hnil rfl
    clear hL hl hnil hmax
    have heq := fun X => Lib.run_eql_slice_nil (P := Try.prog) X 26 32 none 0 0 0 0 Try.underlying26
    rw [show (none : Option Addr).isNone = true from rfl] at heq
    go_enter Try.func70, Try.ntmps70
    go_wp2_with fail
    go_ret
    exact ⟨Below.refl _ _, _, rfl, World.ownsRow_nil _ _ _ _⟩
  | some ad =>
    obtain ⟨i0, hi0, hz0, hz1, hz2⟩ := info_parts infoCut
    have O1 := own_emptyS w 32 3
    have B1 := (Below.refl w.heap.size w).alloc (Nat.le_refl _) (.cells #[] 32)
    have HL := Lib.hid (hL.alloc (.cells #[] 32))
    have HN := Lib.hid hl
    clear hL hnil hl
    have heq := fun X => Lib.run_eql_slice_nil (P := Try.prog) X 26 32 (some ad) len cap 0 0 Try.underlying26
    rw [show (some ad : Option Addr).isNone = false from rfl] at heq
    go_enter Try.func70, Try.ntmps70
    go_wp2_with (first | (at_builtin; refine append_slt rfl _ _ 26 rfl w.heap.size 32 i0 (.agg #[.int .i64 0, .int .i64 0, .int .i64 0]) 24 Try.underlying26 hi0 hz0 hz1 hz2 rfl _ 0 [] rfl O1 (some ad) len cap l rfl (fun h => by cases h) HN.out HL.out (by unfold maxLen; omega) (by omega) (by simp) ?_; intro v5 w5 hown5 hgrow5; have B5 := B1.grown hgrow5 (by simp) (own_ne O1); clear hgrow5) | fail)
    go_ret
    rw [Nat.zero_add, List.nil_append] at hown5
    exact ⟨B5, v5, rfl, hown5⟩
/-- What clone's three calls have made so far. -/
def clC (X : World) (h : FH) (f : Fo.Fm) (vs : List Value) (w : World) : Prop :=
  Below X.heap.size X w ∧ (∀ v, vs[0]? = some v → w.ownsRow X.heap.size 54 3 v h.rl (vT f.rs)) ∧ (∀ v, vs[1]? = some v → w.ownsRow X.heap.size 73 3 v h.el (vT f.es)) ∧ (∀ v, vs[2]? = some v → w.ownsRow X.heap.size 32 3 v h.cl (vT f.cs))
theorem clC.below {X w w' : World} {h : FH} {f : Fo.Fm} {vs : List Value} (s : clC X h f vs w) (hb : Below w.heap.size w w') : clC X h f vs w' :=
  ⟨s.1.trans (hb.mono s.1.size), fun v hv => (s.2.1 v hv).kept (below_grown hb none) none_ne, fun v hv => (s.2.2.1 v hv).kept (below_grown hb none) none_ne, fun v hv => (s.2.2.2 v hv).kept (below_grown hb none) none_ne⟩
/-- Nil slices have no room. -/
structure Nils (h : FH) : Prop where
  r : h.R = none → h.rc = 0
  e : h.E = none → h.ec = 0
  c : h.C = none → h.cc = 0
/-- A form whose slices are the call's own. -/
structure OwnF (w : World) (base : Nat) (h : FH) (f : Fo.Fm) : Prop where
  s : SlF w h f
  r : w.ownsRow base 54 3 (.slice h.R h.rl h.rc) h.rl (vT f.rs)
  e : w.ownsRow base 73 3 (.slice h.E h.el h.ec) h.el (vT f.es)
  c : w.ownsRow base 32 3 (.slice h.C h.cl h.cc) h.cl (vT f.cs)
set_option maxRecDepth 100000 in
set_option maxHeartbeats 6400000 in
theorem wclone_is (h : FH) (f : Fo.Fm) (hrl : h.rl ≤ 100) (hel : h.el ≤ 100) (hcl : h.cl ≤ 100) (hN : Nils h) (w : World) (hS : SlF w h f) :
    Calls Try.prog 49 #[.agg #[.int .i64 h.n, .slice h.R h.rl h.rc, .slice h.E h.el h.ec, .int .i64 h.ja, .int .i64 h.jt, .int .i64 h.jf, .slice h.C h.cl h.cc]] w fun e w' => Below w.heap.size w w' ∧ ∃ (R E C : Option Addr) (rc ec cc : Nat), e = .returned (.agg #[.int .i64 h.n, .slice R h.rl rc, .slice E h.el ec, .int .i64 h.ja, .int .i64 h.jt, .int .i64 h.jf, .slice C h.cl cc]) ∧ OwnF w' w.heap.size {h with R := R, rc := rc, E := E, ec := ec, C := C, cc := cc} f := by
  have HNN := Lib.hid hN
  have Q := (FV.new w h).alloc (.cells #[.int .i64 0, .slice none 0 0, .slice none 0 0, .int .i64 0, .int .i64 0, .int .i64 0, .slice none 0 0] 28)
  have V := FV.zero (w.alloc (.cells #[.int .i64 h.n, .slice h.R h.rl h.rc, .slice h.E h.el h.ec, .int .i64 h.ja, .int .i64 h.jt, .int .i64 h.jf, .slice h.C h.cl h.cc] 28))
  have B := ((Below.refl w.heap.size w).alloc (Nat.le_refl _) (.cells #[.int .i64 h.n, .slice h.R h.rl h.rc, .slice h.E h.el h.ec, .int .i64 h.ja, .int .i64 h.jt, .int .i64 h.jf, .slice h.C h.cl h.cc] 28)).alloc (by simp) (.cells #[.int .i64 0, .slice none 0 0, .slice none 0 0, .int .i64 0, .int .i64 0, .int .i64 0, .slice none 0 0] 28)
  have HS := Lib.hid ((hS.alloc (.cells #[.int .i64 h.n, .slice h.R h.rl h.rc, .slice h.E h.el h.ec, .int .i64 h.ja, .int .i64 h.jt, .int .i64 h.jf, .slice h.C h.cl h.cc] 28)).alloc (.cells #[.int .i64 0, .slice none 0 0, .slice none 0 0, .int .i64 0, .int .i64 0, .int .i64 0, .slice none 0 0] 28))
  rw [World.size_alloc] at V
  clear hS hN
  go_enter Try.func49, Try.ntmps49
  go_wp2_with fail
  obtain ⟨W1, hW1⟩ : ∃ W1, (w.alloc (.cells #[.int .i64 h.n, .slice h.R h.rl h.rc, .slice h.E h.el h.ec, .int .i64 h.ja, .int .i64 h.jt, .int .i64 h.jf, .slice h.C h.cl h.cc] 28)).alloc (.cells #[.int .i64 0, .slice none 0 0, .slice none 0 0, .int .i64 0, .int .i64 0, .int .i64 0, .slice none 0 0] 28) = W1 := ⟨_, rfl⟩
  have hs1 : W1.heap.size = w.heap.size + 2 := by rw [← hW1]; simp
  rw [hW1] at Q V B HS ⊢
  clear hW1
  have z1 := fun x : PvW (clC W1 h f) => (Q.at_.below x.h.1).c1
  have z2 := fun x : PvW (clC W1 h f) => (Q.at_.below x.h.1).c2
  have z6 := fun x : PvW (clC W1 h f) => (Q.at_.below x.h.1).c6
  have hst0 : clC W1 h f [] W1 := ⟨Below.refl _ _, fun v hv => by (simp at hv), fun v hv => by (simp at hv), fun v hv => by (simp at hv)⟩
  have hst : clC W1 h f [] W1.drew := ⟨(Below.refl _ _).drew, fun v hv => by (simp at hv), fun v hv => by (simp at hv), fun v hv => by (simp at hv)⟩
  have hne : Nonempty (PvW (clC W1 h f)) := PvW.there hst0
  refine region_pv (V := fun _ _ => undef) (cs := [2, 5, 8]) (Cv := clC W1 h f) 10 (by kernel_rfl) (by kernel_rfl) (by kernel_rfl) hst ?_
  simp only [List.take_succ_cons, List.take_zero, List.drop_succ_cons, List.drop_zero]
  iterate 2 (refine pv_quiet (by decide) rfl rfl ?_; intro K' hK'; go_big_quiet_op; go_big_quiet_on)
  refine pv_enter (f := 68) (args := #[.slice h.R h.rl h.rc]) rfl rfl (fun w' hw' => ?_) (fun w' hw' => ?_) ?_
  · simp [go_sem]
  · refine (wcloneR_is f.rs h.rl h.rc h.R HS.out.rl (by omega) HNN.out.r w' (HS.out.sr.below hw'.1)).mono ?_
    rintro e w5 ⟨hb5, v, rfl, ho⟩
    have h5 := hw'.below hb5
    refine ⟨v, rfl, h5.1, fun u hu => ?_, fun u hu => by (simp at hu), fun u hu => by (simp at hu)⟩
    simp at hu; subst hu
    exact own_lessK ho hw'.1.size
  rintro v1 ⟨wa, hwa⟩
  obtain ⟨-, R', rc', rfl, -, -⟩ := own_T (hwa.2.1 v1 rfl)
  clear hwa
  simp only [Act.put, List.setIfInBounds_toArray, List.set_cons_succ, List.set_cons_zero, List.nil_append]
  iterate 2 (refine pv_quiet (by decide) rfl rfl ?_; intro K' hK'; go_big_quiet_op; go_big_quiet_on)
  refine pv_enter (f := 69) (args := #[.slice h.E h.el h.ec]) rfl rfl (fun w' hw' => ?_) (fun w' hw' => ?_) ?_
  · simp [go_sem]
  · refine (wcloneE_is f.es h.el h.ec h.E HS.out.el (by omega) HNN.out.e w' (HS.out.se.below hw'.1)).mono ?_
    rintro e w5 ⟨hb5, v, rfl, ho⟩
    have h5 := hw'.below hb5
    refine ⟨v, rfl, h5.1, fun u hu => h5.2.1 u hu, fun u hu => ?_, fun u hu => by (simp at hu)⟩
    simp at hu; subst hu
    exact own_lessK ho hw'.1.size
  rintro v2 ⟨wa, hwa⟩
  obtain ⟨-, E', ec', rfl, -, -⟩ := own_T (hwa.2.2.1 v2 rfl)
  clear hwa
  simp only [Act.put, List.setIfInBounds_toArray, List.set_cons_succ, List.set_cons_zero, List.cons_append, List.nil_append]
  iterate 2 (refine pv_quiet (by decide) rfl rfl ?_; intro K' hK'; go_big_quiet_op; go_big_quiet_on)
  refine pv_enter (f := 70) (args := #[.slice h.C h.cl h.cc]) rfl rfl (fun w' hw' => ?_) (fun w' hw' => ?_) ?_
  · simp [go_sem]
  · refine (wcloneC_is f.cs h.cl h.cc h.C HS.out.cl (by omega) HNN.out.c w' (HS.out.sc.below hw'.1)).mono ?_
    rintro e w5 ⟨hb5, v, rfl, ho⟩
    have h5 := hw'.below hb5
    refine ⟨v, rfl, h5.1, fun u hu => h5.2.1 u hu, fun u hu => h5.2.2.1 u hu, fun u hu => ?_⟩
    simp at hu; subst hu
    exact own_lessK ho hw'.1.size
  rintro v3 ⟨wa, hwa⟩
  obtain ⟨-, C', cc', rfl, -, -⟩ := own_T (hwa.2.2.2 v3 rfl)
  clear hwa
  simp only [Act.put, List.setIfInBounds_toArray, List.set_cons_succ, List.set_cons_zero, List.cons_append, List.nil_append]
  iterate 1 (refine pv_quiet (by decide) rfl rfl ?_; intro K' hK'; go_big_quiet_op; go_big_quiet_on)
  rintro w5 ⟨hb5, ho1, ho2, ho3⟩
  have O1 := ho1 _ rfl; have O2 := ho2 _ rfl; have O3 := ho3 _ rfl
  have Q5 := Q.below hb5; have V5 := V.below hb5
  have B5 := B.trans (hb5.mono B.size)
  clear ho1 ho2 ho3 hb5 z1 z2 z6 hst hst0 hne Q V B
  have q0 := Q5.at_.c0; have q1 := Q5.at_.c1; have q2 := Q5.at_.c2; have q3 := Q5.at_.c3; have q4 := Q5.at_.c4; have q5 := Q5.at_.c5; have q6 := Q5.at_.c6; have ql := Q5.at_.lt; have k1 := Q5.f 1; have k2 := Q5.f 2; have k6 := Q5.f 6
  have v0 := V5.at_.c0; have v1 := V5.at_.c1; have v2 := V5.at_.c2; have v3 := V5.at_.c3; have v4 := V5.at_.c4; have v5 := V5.at_.c5; have v6 := V5.at_.c6; have vl := V5.at_.lt; have g0 := V5.f 0; have g1 := V5.f 1; have g2 := V5.f 2; have g3 := V5.f 3; have g4 := V5.f 4; have g5 := V5.f 5; have g6 := V5.f 6
  go_wp2_with fail
  have hX : ∀ (X : World), X = ((w5.setCell ⟨w.heap.size, 1, none⟩ (.slice R' h.rl rc')).setCell ⟨w.heap.size, 2, none⟩ (.slice E' h.el ec')).setCell ⟨w.heap.size, 6, none⟩ (.slice C' h.cl cc') → FB X (w.heap.size + 1) .zero ∧ (∀ j, X.frozen? ⟨w.heap.size + 1, j, none⟩ = false) := fun X e => by
    subst e
    exact ⟨((V5.at_.other (p := ⟨w.heap.size, 1, none⟩) (by simp) _).other (p := ⟨w.heap.size, 2, none⟩) (by simp) _).other (p := ⟨w.heap.size, 6, none⟩) (by simp) _, fun j => by simp only [World.frozen?_setCell]; exact V5.f j⟩
  obtain ⟨hX1, hX2⟩ := hX _ rfl
  have P := FB.put hX1 hX2 {h with R := R', rc := rc', E := E', ec := ec', C := C', cc := cc'}
  have hB2 := putF_below (((B5.setCell (p := ⟨w.heap.size, 1, none⟩) (Nat.le_refl _) (.slice R' h.rl rc')).setCell (p := ⟨w.heap.size, 2, none⟩) (Nat.le_refl _) (.slice E' h.el ec')).setCell (p := ⟨w.heap.size, 6, none⟩) (Nat.le_refl _) (.slice C' h.cl cc')) (show w.heap.size ≤ w.heap.size + 1 by omega) {h with R := R', rc := rc', E := E', ec := ec', C := C', cc := cc'}
  have hSt : ∀ k, w5.heap.size ≤ w5.heap.size → k ≠ w.heap.size → k ≠ w.heap.size + 1 → (putF (((w5.setCell ⟨w.heap.size, 1, none⟩ (.slice R' h.rl rc')).setCell ⟨w.heap.size, 2, none⟩ (.slice E' h.el ec')).setCell ⟨w.heap.size, 6, none⟩ (.slice C' h.cl cc')) (w.heap.size + 1) {h with R := R', rc := rc', E := E', ec := ec', C := C', cc := cc'}).heap[k]? = w5.heap[k]? := fun k _ h1 h2 => by
    unfold putF
    iterate 7 (rw [Below.heap_setCell _ _ _ k (by simpa using h2)])
    iterate 3 (rw [Below.heap_setCell _ _ _ k (by simpa using h1)])
  show bodyPost _ _ _ _ _ (putF (((w5.setCell ⟨w.heap.size, 1, none⟩ (.slice R' h.rl rc')).setCell ⟨w.heap.size, 2, none⟩ (.slice E' h.el ec')).setCell ⟨w.heap.size, 6, none⟩ (.slice C' h.cl cc')) (w.heap.size + 1) {h with R := R', rc := rc', E := E', ec := ec', C := C', cc := cc'})
  obtain ⟨wz, hz⟩ : ∃ wz, putF (((w5.setCell ⟨w.heap.size, 1, none⟩ (.slice R' h.rl rc')).setCell ⟨w.heap.size, 2, none⟩ (.slice E' h.el ec')).setCell ⟨w.heap.size, 6, none⟩ (.slice C' h.cl cc')) (w.heap.size + 1) {h with R := R', rc := rc', E := E', ec := ec', C := C', cc := cc'} = wz := ⟨_, rfl⟩
  rw [hz] at P hB2 hSt ⊢
  obtain ⟨-, p0, p1, p2, p3, p4, p5, p6⟩ := P
  dsimp only at p0 p1 p2 p3 p4 p5 p6
  have hown : ∀ {ET : TypeId} {v : Value} {n : Nat} {xs : List Value}, w5.ownsRow W1.heap.size ET 3 v n xs → wz.ownsRow w.heap.size ET 3 v n xs := fun {ET v n xs} ho => own_lessK (own_same ho (fun g hg hlt => by
    have hge : W1.heap.size ≤ g := by
      rcases ho.2 with ⟨h1, _⟩ | ⟨g2, cap, cur, h1, h2, _⟩
      · rw [h1] at hg; cases hg
      · rw [h1] at hg; have := Option.some.inj hg; simp at this; omega
    exact hSt g (Nat.le_refl _) (by omega) (by omega))) (by omega)
  obtain ⟨_, _, _, e1, s1, -⟩ := own_T (hown O1)
  cases e1
  obtain ⟨_, _, _, e2, s2, -⟩ := own_T (hown O2)
  cases e2
  obtain ⟨_, _, _, e3, s3, -⟩ := own_T (hown O3)
  cases e3
  refine bodyPost_ret (v := .agg #[.int .i64 h.n, .slice R' h.rl rc', .slice E' h.el ec', .int .i64 h.ja, .int .i64 h.jt, .int .i64 h.jf, .slice C' h.cl cc']) (by simp [results, Try.results49, p0, p1, p2, p3, p4, p5, p6, go_sem]) rfl ⟨hB2, R', E', C', rc', ec', cc', rfl, ⟨⟨HS.out.n, HS.out.ja, HS.out.jt, HS.out.jf, HS.out.rl, HS.out.el, HS.out.cl, s1, s2, s3⟩, hown O1, hown O2, hown O3⟩⟩
end Go.Proofs.Ytakbpgljbbkmkaa
