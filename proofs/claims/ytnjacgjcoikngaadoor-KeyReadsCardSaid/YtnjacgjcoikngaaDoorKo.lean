/- The walk of key's follow: a map keyed by arrays, and a closure that writes, called where the order is drawn. -/
import Derived.Test.YtnjacgjcoikngaaDoorPh
import Derived.Test.YtnjacgjcoikngaaDoorKx
import Derived.Maps.OwnSet
import Derived.WideKeyPair
import Derived.DeepKeys5
namespace Go.Proofs.YtnjacgjcoikngaaDoor
open Go.RowKit Go.Maps Go.WideMaps

theorem laidOut : laidOutB Tryd.prog = true := by kernel_rfl
theorem mapArr : ArrKey Tryd.prog 71 3 2 := ⟨Tryd.underlying71, by kernel_rfl, by kernel_rfl, by kernel_rfl⟩
theorem mapLaw : Keyed Tryd.prog 71 := Keyed.of_law (deep_law_laid laidOut (m := 2) (by omega) (of_decide_eq_true (by kernel_rfl)) (by kernel_rfl) (by kernel_rfl))
theorem mapZero (w : World) : (zeroValue 3).run Tryd.prog w = .ok (.int .i64 0) w := by kernel_rfl
def kl (s o : Int) : Lit := .string (keyBytes [.int .i64 s, .int .i64 o])
theorem wf_small {x : Int} (h0 : -10000 ≤ x) (h1 : x ≤ 10000) : (Lit.int .i64 x).wf = true := WalkArith.wf_i64 (by omega)
theorem kl_key {s o : Int} (h0 : -10000 ≤ s) (h1 : s ≤ 10000) (h2 : -10000 ≤ o) (h3 : o ≤ 10000) : keyOf Tryd.prog 71 (.agg #[.int .i64 s, .int .i64 o]) = some (kl s o) :=
  keyOf_pair mapArr Tryd.underlying3 ⟨Tryd.prog.types.size - 1, by have h : 0 < Tryd.prog.types.size := of_decide_eq_true (by kernel_rfl); omega⟩ (wf_small h0 h1) (wf_small h2 h3)
theorem kl_lit {s o : Int} (h0 : -10000 ≤ s) (h1 : s ≤ 10000) (h2 : -10000 ≤ o) (h3 : o ≤ 10000) : WideAt.IsKeyLit (kl s o) := mapLaw.key (kl_key h0 h1 h2 h3)
theorem kl_ne {s o s' o' : Int} (h0 : -10000 ≤ s) (h1 : s ≤ 10000) (h2 : -10000 ≤ o) (h3 : o ≤ 10000) (k0 : -10000 ≤ s') (k1 : s' ≤ 10000) (k2 : -10000 ≤ o') (k3 : o' ≤ 10000) (h : ¬ (s = s' ∧ o = o')) : kl s o ≠ kl s' o' := fun e => by
  have := mapLaw.inj (kl_key h0 h1 h2 h3) (by rw [e]; exact kl_key k0 k1 k2 k3)
  simp at this
  exact h this

namespace Ky
theorem frcA_at {k : Int} {l : List P3} {g : List Int} {n : Nat} : frcA k (at3 l n).1 (at3 l n).2.2 l g (n + 1) = rdA k l g n := by
  unfold rdA frc
  rw [frcA]
  by_cases h : atI g n = 0
  · rw [if_pos h, if_neg (fun e => e.2.2 h)]
  · rw [if_neg h, if_pos ⟨rfl, rfl, h⟩]
theorem frcA_off {k s o : Int} {l : List P3} {g : List Int} {n : Nat} (h : ¬ (s = (at3 l n).1 ∧ o = (at3 l n).2.2)) : frcA k s o l g (n + 1) = frcA k s o l g n := by
  rw [frcA, if_neg (fun e => h ⟨e.1.symm, e.2.1.symm⟩)]
end Ky

/-- The map says what is in force for each place that has been met; for all others the key does. -/
def Fv (k : Int) (l : List Ky.P3) (g : List Int) (n : Nat) (D : DataW Unit) : Prop :=
  ∀ s o, 0 ≤ s → s ≤ 6 → -8 ≤ o → o ≤ 20 → (Maps.has D (kl s o) = true → D.atKey (kl s o) (.lit (.int .i64 0)) = .lit (.int .i64 (Ky.frcA k s o l g n))) ∧ (Maps.has D (kl s o) = false → Ky.frcA k s o l g n = Ky.alt k s)
theorem Fv.start (k : Int) (l : List Ky.P3) (g : List Int) : Fv k l g 0 (.map []) := fun s o _ _ _ _ => ⟨fun h => by simp [Maps.has_eq] at h, fun _ => rfl⟩
theorem Fv.step {k : Int} {l : List Ky.P3} {g : List Int} {n : Nat} {D : DataW Unit} (h : Fv k l g n D) (hD : IsMap D) (p0 : 0 ≤ (Ky.at3 l n).1) (p1 : (Ky.at3 l n).1 ≤ 6) (p2 : -8 ≤ (Ky.at3 l n).2.2) (p3 : (Ky.at3 l n).2.2 ≤ 20) :
    Fv k l g (n + 1) (D.put (kl (Ky.at3 l n).1 (Ky.at3 l n).2.2) (.lit (.int .i64 (Ky.rdA k l g n)))) := fun s o s0 s1 o0 o1 => by
  by_cases e : s = (Ky.at3 l n).1 ∧ o = (Ky.at3 l n).2.2
  · obtain ⟨rfl, rfl⟩ := e
    have hk := kl_lit (s := (Ky.at3 l n).1) (o := (Ky.at3 l n).2.2) (by omega) (by omega) (by omega) (by omega)
    refine ⟨fun _ => ?_, fun h' => ?_⟩
    · rw [atKey_put_same hD hk, Ky.frcA_at]
    · rw [has_put_same hD hk] at h'; cases h'
  · have hne := kl_ne (s := s) (o := o) (s' := (Ky.at3 l n).1) (o' := (Ky.at3 l n).2.2) (by omega) (by omega) (by omega) (by omega) (by omega) (by omega) (by omega) (by omega) e
    obtain ⟨h1, h2⟩ := h s o s0 s1 o0 o1
    refine ⟨fun h' => ?_, fun h' => ?_⟩
    · rw [has_put_other hne] at h'
      rw [atKey_put_other hne, Ky.frcA_off e]
      exact h1 h'
    · rw [has_put_other hne] at h'
      rw [Ky.frcA_off e]
      exact h2 h'

theorem grown_below {B : Nat} {a b : World} {r : Nat} (h : a.grownBy b (some r)) (hB : B ≤ a.heap.size) (hr : B ≤ r) : Below B a b :=
  ⟨h.os, h.tape, h.output, h.size, fun i hi => h.block i (Nat.lt_of_lt_of_le hi hB) (fun e => by cases e; omega)⟩
theorem below_grown {a b : World} (h : Below a.heap.size a b) (row : Option Nat) : a.grownBy b row :=
  ⟨h.os, h.tape, h.output, h.size, fun i hi _ => h.block i hi⟩
theorem GK.grown {w w' : World} {S : Nat} (h : GK w) (hg : w.grownBy w' (some S)) (hne : 0 ≠ S) : GK w' :=
  h.of hg.size fun o => World.cell?_of_block (w := w) (a := ⟨0, o, none⟩) (hg.block _ h.lt (fun e => hne (by cases e; rfl)))

set_option maxHeartbeats 3200000 in
theorem follow_signs (cL cS : Nat) (k : Int) (l : List Ky.P3) (g : List Int) (len cl : Nat) (A : Option Addr) (S : Nat) (J : Nat → World → Prop) (hk : Ky.kv k = true) (hl : l.length = len) (hmax : len ≤ 1000)
    (hp : ∀ n, n < len → 0 ≤ (Ky.at3 l n).1 ∧ (Ky.at3 l n).1 ≤ 6 ∧ -8 ≤ (Ky.at3 l n).2.2 ∧ (Ky.at3 l n).2.2 ≤ 20 ∧ -1000 ≤ Ky.rdA k l g n ∧ Ky.rdA k l g n ≤ 1000)
    (w : World) (hG : GK w) (hS : S < w.heap.size) (hSg : 0 ≠ S) (hL : SlP w A l) (hLS : 0 < len → ∀ b off, A = some ⟨b, off, none⟩ → b ≠ S)
    (hJ : ∀ n w1 w2, J n w1 → Below w.heap.size w1 w2 → J n w2) (h0 : J 0 w)
    (hc : ∀ n, n < len → ∀ w1, w.heap.size ≤ w1.heap.size → J n w1 → Calls Tryd.prog 36 #[.int .i64 n, .int .i64 (Ky.frc k l g n), .pointer (some ⟨cL, 0, none⟩), .pointer (some ⟨cS, 0, none⟩)] w1 fun e w2 => e = .returned (.int .i64 (Ky.rdA k l g n)) ∧ J (n + 1) w2 ∧ w1.grownBy w2 (some S)) :
    Calls Tryd.prog 35 #[.int .i64 k, .slice A len cl, .func (.func 36) #[] #[.pointer (some ⟨cL, 0, none⟩), .pointer (some ⟨cS, 0, none⟩)]] w fun e w' => e = .returned (.tuple #[]) ∧ J len w' ∧ w.grownBy w' (some S) := by
  have HN := Lib.hid hl
  have HP := Lib.hid hp
  have HL := Lib.hid (And.intro hL hLS)
  have HJ := Lib.hid hJ
  have HC := Lib.hid hc
  have H0 := Lib.hid h0
  have HK := Lib.hid hk
  have HG := Lib.hid hG
  clear hl hp hL hLS hJ hc h0 hk hG
  have hmm := @run_makeMap Tryd.prog
  go_enter Tryd.func35, Tryd.ntmps35
  go_wp2
  go_loopw [15] (fun s15 wr => ∃ n : Nat, n ≤ len ∧ s15 = .int .i64 n ∧ Hid (J n wr) ∧ w.grownBy wr (some S) ∧ ∃ D : DataW Unit, wr.ownsMap Tryd.prog 71 (plainElem Tryd.prog 3) w.heap.size n D ∧ Hid (Fv k l g n D)) (fun s15 _ => len - (intOf s15).toNat)
  case atStart =>
    exact ⟨0, Nat.zero_le _, rfl, Lib.hid (HJ.out _ _ _ H0.out ((Below.refl _ _).alloc (Nat.le_refl _) _)), World.grownBy_alloc _ _ _, .map [], World.ownsMap_made _ _ _ _, Lib.hid (Fv.start k l g)⟩
  case round =>
    obtain ⟨n, hn, rfl, hJn, hgw, D, hown, hF⟩ := hrel
    by_cases hlt : n < len
    · obtain ⟨b, off, rfl, hb, hcell⟩ := HL.out.1 (by have := HN.out; omega)
      have hbS : some b ≠ some S := fun e => HL.out.2 (by omega) b off rfl (by cases e; rfl)
      obtain ⟨x0, x1, x2⟩ := hcell n (by have := HN.out; omega)
      replace x0 := hgw.cell (a := ⟨b, off + n * 3, none⟩) x0 hbS
      replace x1 := hgw.cell (a := ⟨b, off + n * 3 + 1, none⟩) x1 hbS
      replace x2 := hgw.cell (a := ⟨b, off + n * 3 + 2, none⟩) x2 hbS
      obtain ⟨p0, p1, p2, p3, p4, p5⟩ := HP.out n hlt
      have HCn := Lib.hid (HC.out n hlt)
      have hFn := hF.out _ _ p0 p1 p2 p3
      have HSt := Lib.hid (hF.out.step hown.isMap p0 p1 p2 p3)
      have hfe : Ky.frcA k (Ky.at3 l n).1 (Ky.at3 l n).2.2 l g n = Ky.frc k l g n := rfl
      rw [hfe] at hFn
      have hGr := HG.out.grown hgw hSg
      have hws := hgw.size
      have hmx := HN.out
      clear hcell hfe hbS hF hmm
      generalize (Ky.at3 l n).1 = s at *
      generalize (Ky.at3 l n).2.1 = a at *
      generalize (Ky.at3 l n).2.2 = o at *
      generalize hFF : Ky.frc k l g n = F at *
      generalize hRR : Ky.rdA k l g n = R at *
      have hkey : keyOf Tryd.prog 71 (.agg #[.int .i64 s, .int .i64 o]) = some (kl s o) := kl_key (by omega) (by omega) (by omega) (by omega)
      cases hh : Maps.has D (kl s o) with
      | true =>
        have ek := Lib.hid (hFn.1 hh)
        clear hFn
        go_wp2_with (first | (at_lookup; refine wpList_lookup_own_ok_int _ rfl _ _ 70 rfl 71 3 .i64 mapLaw Tryd.underlying70 Tryd.underlying3 (mapZero _) w.heap.size n D rfl ((hown.alloc _).alloc _) _ _ rfl hkey ?_; intro c hat hwc) | fail)
        have ec : F = c := by have := ek.out.symm.trans hat; simpa using this
        subst ec
        refine genV (R := fun we => Hid (J n we) ∧ At2 we (wr.heap.size + 1) s o ∧ we.ownsMap Tryd.prog 71 (plainElem Tryd.prog 3) w.heap.size n D ∧ w.grownBy we (some S) ∧ wr.heap.size + 2 ≤ we.heap.size) ⟨Lib.hid (HJ.out _ _ _ hJn.out (((Below.refl _ _).alloc hws _).alloc (by simp; omega) _)), At2.at _ (At2.new _ _ _ _) (by simp), (hown.alloc _).alloc _, (hgw.trans (World.grownBy_alloc _ _ _)).trans (World.grownBy_alloc _ _ _), by simp⟩ (fun we hR => ?_)
        clear hat hwc ek
        clear hJn hown hgw x0 x1 x2 hGr
        obtain ⟨hJn, kA, hown, hgw, hsz⟩ := hR
        have xk0 := fun x : PhW (oneC we (fun w2 => Hid (J (n + 1) w2) ∧ we.drew.grownBy w2 (some S))) => PhW.fact (p := fun w' => w'.cell? ⟨wr.heap.size + 1, 0, none⟩ = some (.int .i64 s)) kA.c0 (fun w2 h => h.2.cell (a := ⟨wr.heap.size + 1, 0, none⟩) kA.c0 (fun e => by have := Option.some.inj e; simp at this; omega)) x
        have xk1 := fun x : PhW (oneC we (fun w2 => Hid (J (n + 1) w2) ∧ we.drew.grownBy w2 (some S))) => PhW.fact (p := fun w' => w'.cell? ⟨wr.heap.size + 1, 1, none⟩ = some (.int .i64 o)) kA.c1 (fun w2 h => h.2.cell (a := ⟨wr.heap.size + 1, 1, none⟩) kA.c1 (fun e => by have := Option.some.inj e; simp at this; omega)) x
        have hne := PhW.there we (fun w2 => Hid (J (n + 1) w2) ∧ we.drew.grownBy w2 (some S))
        refine oneK (c := 5) (POST := fun w2 => Hid (J (n + 1) w2) ∧ we.drew.grownBy w2 (some S)) 6 (by decide) (by kernel_rfl) (by kernel_rfl) ?_
        simp only [List.take_succ_cons, List.take_zero, List.drop_succ_cons, List.drop_zero]
        iterate 5 (refine walk_quiet (by decide) rfl rfl ?_; intro K' hK'; go_big_quiet_op; go_big_quiet_on)
        clear xk0 xk1 hne
        refine walkPh_enter (f := 36) (args := #[.int .i64 n, .int .i64 F, .pointer (some ⟨cL, 0, none⟩), .pointer (some ⟨cS, 0, none⟩)]) (.int .i64 R) rfl (fun w' hw' => ?_) (fun w' hw' => ?_) ?_
        · simp [go_sem, execOp]
        · obtain rfl : w' = we.drew := hw'
          refine (HCn.out we.drew (by have := hgw.size; simpa using this) (HJ.out _ _ _ hJn.out (Below.refl _ _).drew)).mono ?_
          rintro e w2 ⟨rfl, h2, h3⟩
          exact ⟨rfl, Lib.hid h2, h3⟩
        rintro w2 ⟨hJ2, hg2⟩
        have hown2 := hown.drew.kept hg2 (by intro e; cases e; omega)
        refine wpList_mapUpdate_own _ rfl _ _ _ 70 rfl 71 3 mapLaw Tryd.underlying70 _ w.heap.size n D rfl hown2 (by unfold maxLen; omega) _ _ _ rfl rfl hkey _ [] (plainElem_int Tryd.underlying3 (wf_small (by omega) (by omega))) ?_
        intro w3 hown3 hg3
        go_wp2_with fail
        go_roundw
        case rel =>
          have hs2 : w.heap.size ≤ w2.heap.size := Nat.le_trans hgw.size (by have := hg2.size; simpa using this)
          refine ⟨n + 1, by omega, by simp, Lib.hid (HJ.out _ _ _ hJ2.out (grown_below hg3 hs2 (Nat.le_refl _))), ?_, _, hown3, Lib.hid HSt.out⟩
          refine World.grownBy.andThen ((hgw.trans (below_grown (Below.refl _ _).drew _)).trans hg2) hg3 (fun j hj => by cases hj; exact .inl (Nat.le_refl _))
        case measure => simp [intOf] <;> omega
      | false =>
        have ek := Lib.hid (hFn.2 hh)
        clear hFn
        obtain ⟨q0, q1⟩ := Ky.kv_iff.1 HK.out
        have HAl : Hid (Ky.altR k s = (F, 0)) := Lib.hid (by
          unfold Ky.altR
          rw [if_pos (by rw [HK.out]; simp; omega), ek.out])
        go_wp2_with (first | (at_lookup; refine wpList_lookup_own_ok_int _ rfl _ _ 70 rfl 71 3 .i64 mapLaw Tryd.underlying70 Tryd.underlying3 (mapZero _) w.heap.size n D rfl ((hown.alloc _).alloc _) _ _ rfl hkey ?_; intro c hat hwc) | fail)
        refine (alter_is _ _ _ _ HAl.out _ ((hGr.alloc _).alloc _)).mono ?_; rintro e w5 ⟨rfl, hb5⟩
        have kA := (At2.new (wr.alloc _) s o _).below hb5
        go_wp2_with fail
        refine genV (R := fun we => Hid (J n we) ∧ At2 we (wr.heap.size + 1) s o ∧ we.ownsMap Tryd.prog 71 (plainElem Tryd.prog 3) w.heap.size n D ∧ w.grownBy we (some S) ∧ wr.heap.size + 2 ≤ we.heap.size) ⟨Lib.hid (HJ.out _ _ _ hJn.out ((((Below.refl _ _).alloc hws _).alloc (by simp; omega) _).trans (hb5.mono (by simp; omega)))), At2.at _ kA (by simp), ((hown.alloc _).alloc _).kept (below_grown hb5 none) (by simp), (((hgw.trans (World.grownBy_alloc _ _ _)).trans (World.grownBy_alloc _ _ _)).trans (below_grown hb5 _)), by have := hb5.size; simp at this; omega⟩ (fun we hR => ?_)
        clear hat hwc ek hb5 kA q0 q1
        clear hJn hown hgw x0 x1 x2 hGr
        obtain ⟨hJn, kA, hown, hgw, hsz⟩ := hR
        have xk0 := fun x : PhW (oneC we (fun w2 => Hid (J (n + 1) w2) ∧ we.drew.grownBy w2 (some S))) => PhW.fact (p := fun w' => w'.cell? ⟨wr.heap.size + 1, 0, none⟩ = some (.int .i64 s)) kA.c0 (fun w2 h => h.2.cell (a := ⟨wr.heap.size + 1, 0, none⟩) kA.c0 (fun e => by have := Option.some.inj e; simp at this; omega)) x
        have xk1 := fun x : PhW (oneC we (fun w2 => Hid (J (n + 1) w2) ∧ we.drew.grownBy w2 (some S))) => PhW.fact (p := fun w' => w'.cell? ⟨wr.heap.size + 1, 1, none⟩ = some (.int .i64 o)) kA.c1 (fun w2 h => h.2.cell (a := ⟨wr.heap.size + 1, 1, none⟩) kA.c1 (fun e => by have := Option.some.inj e; simp at this; omega)) x
        have hne := PhW.there we (fun w2 => Hid (J (n + 1) w2) ∧ we.drew.grownBy w2 (some S))
        refine oneK (c := 5) (POST := fun w2 => Hid (J (n + 1) w2) ∧ we.drew.grownBy w2 (some S)) 6 (by decide) (by kernel_rfl) (by kernel_rfl) ?_
        simp only [List.take_succ_cons, List.take_zero, List.drop_succ_cons, List.drop_zero]
        iterate 5 (refine walk_quiet (by decide) rfl rfl ?_; intro K' hK'; go_big_quiet_op; go_big_quiet_on)
        clear xk0 xk1 hne
        refine walkPh_enter (f := 36) (args := #[.int .i64 n, .int .i64 F, .pointer (some ⟨cL, 0, none⟩), .pointer (some ⟨cS, 0, none⟩)]) (.int .i64 R) rfl (fun w' hw' => ?_) (fun w' hw' => ?_) ?_
        · simp [go_sem, execOp]
        · obtain rfl : w' = we.drew := hw'
          refine (HCn.out we.drew (by have := hgw.size; simpa using this) (HJ.out _ _ _ hJn.out (Below.refl _ _).drew)).mono ?_
          rintro e w2 ⟨rfl, h2, h3⟩
          exact ⟨rfl, Lib.hid h2, h3⟩
        rintro w2 ⟨hJ2, hg2⟩
        have hown2 := hown.drew.kept hg2 (by intro e; cases e; omega)
        refine wpList_mapUpdate_own _ rfl _ _ _ 70 rfl 71 3 mapLaw Tryd.underlying70 _ w.heap.size n D rfl hown2 (by unfold maxLen; omega) _ _ _ rfl rfl hkey _ [] (plainElem_int Tryd.underlying3 (wf_small (by omega) (by omega))) ?_
        intro w3 hown3 hg3
        go_wp2_with fail
        go_roundw
        case rel =>
          have hs2 : w.heap.size ≤ w2.heap.size := Nat.le_trans hgw.size (by have := hg2.size; simpa using this)
          refine ⟨n + 1, by omega, by simp, Lib.hid (HJ.out _ _ _ hJ2.out (grown_below hg3 hs2 (Nat.le_refl _))), ?_, _, hown3, Lib.hid HSt.out⟩
          refine World.grownBy.andThen ((hgw.trans (below_grown (Below.refl _ _).drew _)).trans hg2) hg3 (fun j hj => by cases hj; exact .inl (Nat.le_refl _))
        case measure => simp [intOf] <;> omega
    · go_wp2_with fail
      go_end0
      obtain rfl : n = len := by omega
      exact ⟨rfl, hJn.out, hgw⟩

set_option maxHeartbeats 3200000 in
theorem follow_read (cG cL cR : Nat) (k : Int) (l : List Ky.P3) (g : List Int) (len cl : Nat) (A : Option Addr) (S : Nat) (J : Nat → World → Prop) (hk : Ky.kv k = true) (hl : l.length = len) (hmax : len ≤ 1000)
    (hp : ∀ n, n < len → 0 ≤ (Ky.at3 l n).1 ∧ (Ky.at3 l n).1 ≤ 6 ∧ -8 ≤ (Ky.at3 l n).2.2 ∧ (Ky.at3 l n).2.2 ≤ 20 ∧ -1000 ≤ Ky.rdA k l g n ∧ Ky.rdA k l g n ≤ 1000)
    (w : World) (hG : GK w) (hS : S < w.heap.size) (hSg : 0 ≠ S) (hL : SlP w A l) (hLS : 0 < len → ∀ b off, A = some ⟨b, off, none⟩ → b ≠ S)
    (hJ : ∀ n w1 w2, J n w1 → Below w.heap.size w1 w2 → J n w2) (h0 : J 0 w)
    (hc : ∀ n, n < len → ∀ w1, w.heap.size ≤ w1.heap.size → J n w1 → Calls Tryd.prog 42 #[.int .i64 n, .int .i64 (Ky.frc k l g n), .pointer (some ⟨cG, 0, none⟩), .pointer (some ⟨cL, 0, none⟩), .pointer (some ⟨cR, 0, none⟩)] w1 fun e w2 => e = .returned (.int .i64 (Ky.rdA k l g n)) ∧ J (n + 1) w2 ∧ w1.grownBy w2 (some S)) :
    Calls Tryd.prog 35 #[.int .i64 k, .slice A len cl, .func (.func 42) #[] #[.pointer (some ⟨cG, 0, none⟩), .pointer (some ⟨cL, 0, none⟩), .pointer (some ⟨cR, 0, none⟩)]] w fun e w' => e = .returned (.tuple #[]) ∧ J len w' ∧ w.grownBy w' (some S) := by
  have HN := Lib.hid hl
  have HP := Lib.hid hp
  have HL := Lib.hid (And.intro hL hLS)
  have HJ := Lib.hid hJ
  have HC := Lib.hid hc
  have H0 := Lib.hid h0
  have HK := Lib.hid hk
  have HG := Lib.hid hG
  clear hl hp hL hLS hJ hc h0 hk hG
  have hmm := @run_makeMap Tryd.prog
  go_enter Tryd.func35, Tryd.ntmps35
  go_wp2
  go_loopw [15] (fun s15 wr => ∃ n : Nat, n ≤ len ∧ s15 = .int .i64 n ∧ Hid (J n wr) ∧ w.grownBy wr (some S) ∧ ∃ D : DataW Unit, wr.ownsMap Tryd.prog 71 (plainElem Tryd.prog 3) w.heap.size n D ∧ Hid (Fv k l g n D)) (fun s15 _ => len - (intOf s15).toNat)
  case atStart =>
    exact ⟨0, Nat.zero_le _, rfl, Lib.hid (HJ.out _ _ _ H0.out ((Below.refl _ _).alloc (Nat.le_refl _) _)), World.grownBy_alloc _ _ _, .map [], World.ownsMap_made _ _ _ _, Lib.hid (Fv.start k l g)⟩
  case round =>
    obtain ⟨n, hn, rfl, hJn, hgw, D, hown, hF⟩ := hrel
    by_cases hlt : n < len
    · obtain ⟨b, off, rfl, hb, hcell⟩ := HL.out.1 (by have := HN.out; omega)
      have hbS : some b ≠ some S := fun e => HL.out.2 (by omega) b off rfl (by cases e; rfl)
      obtain ⟨x0, x1, x2⟩ := hcell n (by have := HN.out; omega)
      replace x0 := hgw.cell (a := ⟨b, off + n * 3, none⟩) x0 hbS
      replace x1 := hgw.cell (a := ⟨b, off + n * 3 + 1, none⟩) x1 hbS
      replace x2 := hgw.cell (a := ⟨b, off + n * 3 + 2, none⟩) x2 hbS
      obtain ⟨p0, p1, p2, p3, p4, p5⟩ := HP.out n hlt
      have HCn := Lib.hid (HC.out n hlt)
      have hFn := hF.out _ _ p0 p1 p2 p3
      have HSt := Lib.hid (hF.out.step hown.isMap p0 p1 p2 p3)
      have hfe : Ky.frcA k (Ky.at3 l n).1 (Ky.at3 l n).2.2 l g n = Ky.frc k l g n := rfl
      rw [hfe] at hFn
      have hGr := HG.out.grown hgw hSg
      have hws := hgw.size
      have hmx := HN.out
      clear hcell hfe hbS hF hmm
      generalize (Ky.at3 l n).1 = s at *
      generalize (Ky.at3 l n).2.1 = a at *
      generalize (Ky.at3 l n).2.2 = o at *
      generalize hFF : Ky.frc k l g n = F at *
      generalize hRR : Ky.rdA k l g n = R at *
      have hkey : keyOf Tryd.prog 71 (.agg #[.int .i64 s, .int .i64 o]) = some (kl s o) := kl_key (by omega) (by omega) (by omega) (by omega)
      cases hh : Maps.has D (kl s o) with
      | true =>
        have ek := Lib.hid (hFn.1 hh)
        clear hFn
        go_wp2_with (first | (at_lookup; refine wpList_lookup_own_ok_int _ rfl _ _ 70 rfl 71 3 .i64 mapLaw Tryd.underlying70 Tryd.underlying3 (mapZero _) w.heap.size n D rfl ((hown.alloc _).alloc _) _ _ rfl hkey ?_; intro c hat hwc) | fail)
        have ec : F = c := by have := ek.out.symm.trans hat; simpa using this
        subst ec
        refine genV (R := fun we => Hid (J n we) ∧ At2 we (wr.heap.size + 1) s o ∧ we.ownsMap Tryd.prog 71 (plainElem Tryd.prog 3) w.heap.size n D ∧ w.grownBy we (some S) ∧ wr.heap.size + 2 ≤ we.heap.size) ⟨Lib.hid (HJ.out _ _ _ hJn.out (((Below.refl _ _).alloc hws _).alloc (by simp; omega) _)), At2.at _ (At2.new _ _ _ _) (by simp), (hown.alloc _).alloc _, (hgw.trans (World.grownBy_alloc _ _ _)).trans (World.grownBy_alloc _ _ _), by simp⟩ (fun we hR => ?_)
        clear hat hwc ek
        clear hJn hown hgw x0 x1 x2 hGr
        obtain ⟨hJn, kA, hown, hgw, hsz⟩ := hR
        have xk0 := fun x : PhW (oneC we (fun w2 => Hid (J (n + 1) w2) ∧ we.drew.grownBy w2 (some S))) => PhW.fact (p := fun w' => w'.cell? ⟨wr.heap.size + 1, 0, none⟩ = some (.int .i64 s)) kA.c0 (fun w2 h => h.2.cell (a := ⟨wr.heap.size + 1, 0, none⟩) kA.c0 (fun e => by have := Option.some.inj e; simp at this; omega)) x
        have xk1 := fun x : PhW (oneC we (fun w2 => Hid (J (n + 1) w2) ∧ we.drew.grownBy w2 (some S))) => PhW.fact (p := fun w' => w'.cell? ⟨wr.heap.size + 1, 1, none⟩ = some (.int .i64 o)) kA.c1 (fun w2 h => h.2.cell (a := ⟨wr.heap.size + 1, 1, none⟩) kA.c1 (fun e => by have := Option.some.inj e; simp at this; omega)) x
        have hne := PhW.there we (fun w2 => Hid (J (n + 1) w2) ∧ we.drew.grownBy w2 (some S))
        refine oneK (c := 5) (POST := fun w2 => Hid (J (n + 1) w2) ∧ we.drew.grownBy w2 (some S)) 6 (by decide) (by kernel_rfl) (by kernel_rfl) ?_
        simp only [List.take_succ_cons, List.take_zero, List.drop_succ_cons, List.drop_zero]
        iterate 5 (refine walk_quiet (by decide) rfl rfl ?_; intro K' hK'; go_big_quiet_op; go_big_quiet_on)
        clear xk0 xk1 hne
        refine walkPh_enter (f := 42) (args := #[.int .i64 n, .int .i64 F, .pointer (some ⟨cG, 0, none⟩), .pointer (some ⟨cL, 0, none⟩), .pointer (some ⟨cR, 0, none⟩)]) (.int .i64 R) rfl (fun w' hw' => ?_) (fun w' hw' => ?_) ?_
        · simp [go_sem, execOp]
        · obtain rfl : w' = we.drew := hw'
          refine (HCn.out we.drew (by have := hgw.size; simpa using this) (HJ.out _ _ _ hJn.out (Below.refl _ _).drew)).mono ?_
          rintro e w2 ⟨rfl, h2, h3⟩
          exact ⟨rfl, Lib.hid h2, h3⟩
        rintro w2 ⟨hJ2, hg2⟩
        have hown2 := hown.drew.kept hg2 (by intro e; cases e; omega)
        refine wpList_mapUpdate_own _ rfl _ _ _ 70 rfl 71 3 mapLaw Tryd.underlying70 _ w.heap.size n D rfl hown2 (by unfold maxLen; omega) _ _ _ rfl rfl hkey _ [] (plainElem_int Tryd.underlying3 (wf_small (by omega) (by omega))) ?_
        intro w3 hown3 hg3
        go_wp2_with fail
        go_roundw
        case rel =>
          have hs2 : w.heap.size ≤ w2.heap.size := Nat.le_trans hgw.size (by have := hg2.size; simpa using this)
          refine ⟨n + 1, by omega, by simp, Lib.hid (HJ.out _ _ _ hJ2.out (grown_below hg3 hs2 (Nat.le_refl _))), ?_, _, hown3, Lib.hid HSt.out⟩
          refine World.grownBy.andThen ((hgw.trans (below_grown (Below.refl _ _).drew _)).trans hg2) hg3 (fun j hj => by cases hj; exact .inl (Nat.le_refl _))
        case measure => simp [intOf] <;> omega
      | false =>
        have ek := Lib.hid (hFn.2 hh)
        clear hFn
        obtain ⟨q0, q1⟩ := Ky.kv_iff.1 HK.out
        have HAl : Hid (Ky.altR k s = (F, 0)) := Lib.hid (by
          unfold Ky.altR
          rw [if_pos (by rw [HK.out]; simp; omega), ek.out])
        go_wp2_with (first | (at_lookup; refine wpList_lookup_own_ok_int _ rfl _ _ 70 rfl 71 3 .i64 mapLaw Tryd.underlying70 Tryd.underlying3 (mapZero _) w.heap.size n D rfl ((hown.alloc _).alloc _) _ _ rfl hkey ?_; intro c hat hwc) | fail)
        refine (alter_is _ _ _ _ HAl.out _ ((hGr.alloc _).alloc _)).mono ?_; rintro e w5 ⟨rfl, hb5⟩
        have kA := (At2.new (wr.alloc _) s o _).below hb5
        go_wp2_with fail
        refine genV (R := fun we => Hid (J n we) ∧ At2 we (wr.heap.size + 1) s o ∧ we.ownsMap Tryd.prog 71 (plainElem Tryd.prog 3) w.heap.size n D ∧ w.grownBy we (some S) ∧ wr.heap.size + 2 ≤ we.heap.size) ⟨Lib.hid (HJ.out _ _ _ hJn.out ((((Below.refl _ _).alloc hws _).alloc (by simp; omega) _).trans (hb5.mono (by simp; omega)))), At2.at _ kA (by simp), ((hown.alloc _).alloc _).kept (below_grown hb5 none) (by simp), (((hgw.trans (World.grownBy_alloc _ _ _)).trans (World.grownBy_alloc _ _ _)).trans (below_grown hb5 _)), by have := hb5.size; simp at this; omega⟩ (fun we hR => ?_)
        clear hat hwc ek hb5 kA q0 q1
        clear hJn hown hgw x0 x1 x2 hGr
        obtain ⟨hJn, kA, hown, hgw, hsz⟩ := hR
        have xk0 := fun x : PhW (oneC we (fun w2 => Hid (J (n + 1) w2) ∧ we.drew.grownBy w2 (some S))) => PhW.fact (p := fun w' => w'.cell? ⟨wr.heap.size + 1, 0, none⟩ = some (.int .i64 s)) kA.c0 (fun w2 h => h.2.cell (a := ⟨wr.heap.size + 1, 0, none⟩) kA.c0 (fun e => by have := Option.some.inj e; simp at this; omega)) x
        have xk1 := fun x : PhW (oneC we (fun w2 => Hid (J (n + 1) w2) ∧ we.drew.grownBy w2 (some S))) => PhW.fact (p := fun w' => w'.cell? ⟨wr.heap.size + 1, 1, none⟩ = some (.int .i64 o)) kA.c1 (fun w2 h => h.2.cell (a := ⟨wr.heap.size + 1, 1, none⟩) kA.c1 (fun e => by have := Option.some.inj e; simp at this; omega)) x
        have hne := PhW.there we (fun w2 => Hid (J (n + 1) w2) ∧ we.drew.grownBy w2 (some S))
        refine oneK (c := 5) (POST := fun w2 => Hid (J (n + 1) w2) ∧ we.drew.grownBy w2 (some S)) 6 (by decide) (by kernel_rfl) (by kernel_rfl) ?_
        simp only [List.take_succ_cons, List.take_zero, List.drop_succ_cons, List.drop_zero]
        iterate 5 (refine walk_quiet (by decide) rfl rfl ?_; intro K' hK'; go_big_quiet_op; go_big_quiet_on)
        clear xk0 xk1 hne
        refine walkPh_enter (f := 42) (args := #[.int .i64 n, .int .i64 F, .pointer (some ⟨cG, 0, none⟩), .pointer (some ⟨cL, 0, none⟩), .pointer (some ⟨cR, 0, none⟩)]) (.int .i64 R) rfl (fun w' hw' => ?_) (fun w' hw' => ?_) ?_
        · simp [go_sem, execOp]
        · obtain rfl : w' = we.drew := hw'
          refine (HCn.out we.drew (by have := hgw.size; simpa using this) (HJ.out _ _ _ hJn.out (Below.refl _ _).drew)).mono ?_
          rintro e w2 ⟨rfl, h2, h3⟩
          exact ⟨rfl, Lib.hid h2, h3⟩
        rintro w2 ⟨hJ2, hg2⟩
        have hown2 := hown.drew.kept hg2 (by intro e; cases e; omega)
        refine wpList_mapUpdate_own _ rfl _ _ _ 70 rfl 71 3 mapLaw Tryd.underlying70 _ w.heap.size n D rfl hown2 (by unfold maxLen; omega) _ _ _ rfl rfl hkey _ [] (plainElem_int Tryd.underlying3 (wf_small (by omega) (by omega))) ?_
        intro w3 hown3 hg3
        go_wp2_with fail
        go_roundw
        case rel =>
          have hs2 : w.heap.size ≤ w2.heap.size := Nat.le_trans hgw.size (by have := hg2.size; simpa using this)
          refine ⟨n + 1, by omega, by simp, Lib.hid (HJ.out _ _ _ hJ2.out (grown_below hg3 hs2 (Nat.le_refl _))), ?_, _, hown3, Lib.hid HSt.out⟩
          refine World.grownBy.andThen ((hgw.trans (below_grown (Below.refl _ _).drew _)).trans hg2) hg3 (fun j hj => by cases hj; exact .inl (Nat.le_refl _))
        case measure => simp [intOf] <;> omega
    · go_wp2_with fail
      go_end0
      obtain rfl : n = len := by omega
      exact ⟨rfl, hJn.out, hgw⟩
end Go.Proofs.YtnjacgjcoikngaaDoor
