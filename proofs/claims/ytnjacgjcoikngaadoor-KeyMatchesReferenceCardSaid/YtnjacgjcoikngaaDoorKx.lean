/- The walks of key's altered, isSign, isPlace, all. -/
import Derived.Test.YtnjacgjcoikngaaDoorKa
import Derived.Test.YtnjacgjcoikngaaDoorKf
namespace Go.Proofs.YtnjacgjcoikngaaDoor
open Go.RowKit

set_option maxHeartbeats 400000 in
theorem altered_is (s a o b : Int) (w : World) :
    Calls Tryd.prog 43 #[.agg #[.int .i64 s, .int .i64 a, .int .i64 o], .int .i64 b] w fun e w' => e = .returned (.agg #[.int .i64 s, .int .i64 b, .int .i64 o]) ∧ Below w.heap.size w w' := by
  go_enter Tryd.func43, Tryd.ntmps43
  go_wp2_with fail
  refine bodyPost_ret (v := .agg #[.int .i64 s, .int .i64 b, .int .i64 o]) (by simp [results, Tryd.results43, go_sem]) rfl ⟨rfl, by go_grown⟩

set_option maxHeartbeats 800000 in
theorem isplace_is (s a o : Int) (v : Bool) (hv : Pt.pv s 0 o = v) (w : World) :
    Calls Tryd.prog 41 #[.agg #[.int .i64 s, .int .i64 a, .int .i64 o]] w fun e w' => e = .returned (.bool v) ∧ Below w.heap.size w w' := by
  have HV := Lib.hid hv
  clear hv
  go_enter Tryd.func41, Tryd.ntmps41
  go_wp2_with fail
  refine (altered_is _ _ _ _ _).mono ?_; rintro e w1 ⟨rfl, hb1⟩
  have G : Below w.heap.size w w1 := ((Below.refl _ _).alloc (Nat.le_refl _) _).trans (hb1.mono (by simp))
  clear hb1
  go_wp2_with fail
  refine (valid_is _ _ _ _ HV.out _).mono ?_; rintro e w2 ⟨rfl, hb2⟩
  replace G := G.trans (hb2.mono G.size)
  go_wp2_with fail
  go_ret
  exact ⟨rfl, G⟩

def sok (g : Int) : Bool := decide (g = 0) || (decide (6 ≤ g) && decide (g ≤ 14))

set_option maxHeartbeats 800000 in
theorem issign_is (g : Int) (v : Bool) (hv : sok g = v) (g0 : -9223372036854775808 ≤ g) (g1 : g ≤ 9223372036854775807) (w : World) :
    Calls Tryd.prog 40 #[.int .i64 g] w fun e w' => e = .returned (.bool v) ∧ Below w.heap.size w w' := by
  by_cases h0 : g = 0
  · subst h0
    obtain rfl : v = true := by rw [← hv]; rfl
    go_enter Tryd.func40, Tryd.ntmps40
    go_wp2_with fail
    go_ret
    exact ⟨rfl, Below.refl _ _⟩
  · obtain ⟨a, ha⟩ : ∃ a, IntKind.i64.wrap (g - 10) = a := ⟨_, rfl⟩
    have HV : Hid (Pt.pv 0 a 0 = v) := Lib.hid (by
      rw [← hv, ← ha, IntKind.wrap_i64, Bool.eq_iff_iff, Pt.pv_iff]
      unfold sok
      simp only [Bool.or_eq_true, Bool.and_eq_true, decide_eq_true_eq]
      omega)
    have hz : (g == 0) = false := by simpa using h0
    clear hv
    go_enter Tryd.func40, Tryd.ntmps40
    go_wp2_with fail
    refine (valid_is _ _ _ _ HV.out _).mono ?_; rintro e w2 ⟨rfl, hb2⟩
    go_wp2_with fail
    go_ret
    exact ⟨rfl, hb2⟩

theorem all_here {α : Type} {l : List α} {f : α → Bool} {k : Nat} (h : ∀ j (h : j < l.length), j < k → f l[j] = true) (hk : l.length ≤ k) : l.all f = true := by
  rw [List.all_eq_true]
  intro x hx
  obtain ⟨j, hj, rfl⟩ := List.getElem_of_mem hx
  exact h j hj (by omega)
theorem all_not {α : Type} {l : List α} {f : α → Bool} {k : Nat} (hk : k < l.length) (h : f l[k] = false) : l.all f = false := by
  cases e : l.all f with
  | false => rfl
  | true => rw [List.all_eq_true.1 e _ (List.getElem_mem hk)] at h; cases h

def pvP (p : Ky.P3) : Bool := Pt.pv p.1 p.2.1 p.2.2
def pvQ (p : Ky.P3) : Bool := Pt.pv p.1 0 p.2.2

set_option maxHeartbeats 1600000 in
theorem allV_is (l : List Ky.P3) (n cap : Nat) (A : Option Addr) (hn : l.length = n) (hmax : n ≤ 100000) (v : Bool) (hv : l.all pvP = v) (w : World) (hL : SlP w A l) :
    Calls Tryd.prog 33 #[.slice A n cap, .func (.func 34) #[] #[]] w fun e w' => e = .returned (.bool v) ∧ Below w.heap.size w w' := by
  have HN := Lib.hid hn
  have HL := Lib.hid hL
  have HV := Lib.hid hv
  clear hn hL hv
  go_enter Tryd.func33, Tryd.ntmps33
  go_wp2
  go_loopw [9] (fun s9 wr => ∃ k : Nat, k ≤ n ∧ s9 = .int .i64 k ∧ Hid (∀ j (h : j < l.length), j < k → pvP l[j] = true) ∧ Below w.heap.size w wr) (fun s9 _ => n - (intOf s9).toNat)
  case atStart => exact ⟨0, Nat.zero_le _, rfl, Lib.hid (fun j h h' => by omega), Below.refl _ _⟩
  case round =>
    obtain ⟨k, hk, rfl, HA, hG⟩ := hrel
    by_cases hlt : k < n
    · obtain ⟨b, off, rfl, hb, hc⟩ := HL.out (by have := HN.out; omega)
      obtain ⟨x0, x1, x2⟩ := hc k (by have := HN.out; omega)
      replace x0 := (hG.cell (p := ⟨b, off + k * 3, none⟩) hb).trans x0
      replace x1 := (hG.cell (p := ⟨b, off + k * 3 + 1, none⟩) hb).trans x1
      replace x2 := (hG.cell (p := ⟨b, off + k * 3 + 2, none⟩) hb).trans x2
      have E : Hid (∀ h : k < l.length, l[k] = Ky.at3 l k) := Lib.hid fun h => (Ky.at3_eq h).symm
      clear hc
      generalize Ky.at3 l k = p at *
      obtain ⟨p0, p1, p2⟩ := p
      simp only at x0 x1 x2
      obtain ⟨z, hz⟩ : ∃ z, pvP (p0, p1, p2) = z := ⟨_, rfl⟩
      have HZ := Lib.hid hz
      clear hz
      cases z with
      | true =>
        go_wp2_with fail
        refine (valid_is _ _ _ _ HZ.out _).mono ?_; rintro e w2 ⟨rfl, hb2⟩
        replace hG := (hG.alloc hG.size _).trans (hb2.mono (by have := hG.size; simp; omega))
        clear x0 x1 x2 hb2
        go_wp2_with fail
        go_roundw
        case rel =>
          refine ⟨k + 1, by omega, by simp, Lib.hid fun j h hj => ?_, hG⟩
          by_cases e : j = k
          · subst e; rw [E.out h, HZ.out]
          · exact HA.out j h (by omega)
        case measure => simp [intOf] <;> omega
      | false =>
        go_wp2_with fail
        refine (valid_is _ _ _ _ HZ.out _).mono ?_; rintro e w2 ⟨rfl, hb2⟩
        replace hG := (hG.alloc hG.size _).trans (hb2.mono (by have := hG.size; simp; omega))
        obtain rfl : v = false := by
          rw [← HV.out]
          exact all_not (k := k) (by have := HN.out; omega) (by rw [E.out (by have := HN.out; omega), HZ.out])
        clear x0 x1 x2 hb2
        go_wp2_with fail
        go_ret
        exact ⟨rfl, hG⟩
    · obtain rfl : v = true := by
        rw [← HV.out]
        exact all_here HA.out (by have := HN.out; omega)
      go_wp2_with fail
      go_ret
      exact ⟨rfl, hG⟩

set_option maxHeartbeats 1600000 in
theorem allQ_is (l : List Ky.P3) (n cap : Nat) (A : Option Addr) (hn : l.length = n) (hmax : n ≤ 100000) (v : Bool) (hv : l.all pvQ = v) (w : World) (hL : SlP w A l) :
    Calls Tryd.prog 33 #[.slice A n cap, .func (.func 41) #[] #[]] w fun e w' => e = .returned (.bool v) ∧ Below w.heap.size w w' := by
  have HN := Lib.hid hn
  have HL := Lib.hid hL
  have HV := Lib.hid hv
  clear hn hL hv
  go_enter Tryd.func33, Tryd.ntmps33
  go_wp2
  go_loopw [9] (fun s9 wr => ∃ k : Nat, k ≤ n ∧ s9 = .int .i64 k ∧ Hid (∀ j (h : j < l.length), j < k → pvQ l[j] = true) ∧ Below w.heap.size w wr) (fun s9 _ => n - (intOf s9).toNat)
  case atStart => exact ⟨0, Nat.zero_le _, rfl, Lib.hid (fun j h h' => by omega), Below.refl _ _⟩
  case round =>
    obtain ⟨k, hk, rfl, HA, hG⟩ := hrel
    by_cases hlt : k < n
    · obtain ⟨b, off, rfl, hb, hc⟩ := HL.out (by have := HN.out; omega)
      obtain ⟨x0, x1, x2⟩ := hc k (by have := HN.out; omega)
      replace x0 := (hG.cell (p := ⟨b, off + k * 3, none⟩) hb).trans x0
      replace x1 := (hG.cell (p := ⟨b, off + k * 3 + 1, none⟩) hb).trans x1
      replace x2 := (hG.cell (p := ⟨b, off + k * 3 + 2, none⟩) hb).trans x2
      have E : Hid (∀ h : k < l.length, l[k] = Ky.at3 l k) := Lib.hid fun h => (Ky.at3_eq h).symm
      clear hc
      generalize Ky.at3 l k = p at *
      obtain ⟨p0, p1, p2⟩ := p
      simp only at x0 x1 x2
      obtain ⟨z, hz⟩ : ∃ z, pvQ (p0, p1, p2) = z := ⟨_, rfl⟩
      have HZ := Lib.hid hz
      clear hz
      cases z with
      | true =>
        go_wp2_with fail
        refine (isplace_is _ _ _ _ HZ.out _).mono ?_; rintro e w2 ⟨rfl, hb2⟩
        replace hG := (hG.alloc hG.size _).trans (hb2.mono (by have := hG.size; simp; omega))
        clear x0 x1 x2 hb2
        go_wp2_with fail
        go_roundw
        case rel =>
          refine ⟨k + 1, by omega, by simp, Lib.hid fun j h hj => ?_, hG⟩
          by_cases e : j = k
          · subst e; rw [E.out h, HZ.out]
          · exact HA.out j h (by omega)
        case measure => simp [intOf] <;> omega
      | false =>
        go_wp2_with fail
        refine (isplace_is _ _ _ _ HZ.out _).mono ?_; rintro e w2 ⟨rfl, hb2⟩
        replace hG := (hG.alloc hG.size _).trans (hb2.mono (by have := hG.size; simp; omega))
        obtain rfl : v = false := by
          rw [← HV.out]
          exact all_not (k := k) (by have := HN.out; omega) (by rw [E.out (by have := HN.out; omega), HZ.out])
        clear x0 x1 x2 hb2
        go_wp2_with fail
        go_ret
        exact ⟨rfl, hG⟩
    · obtain rfl : v = true := by
        rw [← HV.out]
        exact all_here HA.out (by have := HN.out; omega)
      go_wp2_with fail
      go_ret
      exact ⟨rfl, hG⟩

set_option maxHeartbeats 1600000 in
theorem allS_is (g : List Int) (n cap : Nat) (A : Option Addr) (hn : g.length = n) (hmax : n ≤ 100000) (hwf : ∀ x ∈ g, -9223372036854775808 ≤ x ∧ x ≤ 9223372036854775807) (v : Bool) (hv : g.all sok = v) (w : World) (hL : SlI w A g) :
    Calls Tryd.prog 39 #[.slice A n cap, .func (.func 40) #[] #[]] w fun e w' => e = .returned (.bool v) ∧ Below w.heap.size w w' := by
  have HN := Lib.hid hn
  have HL := Lib.hid hL
  have HW := Lib.hid hwf
  have HV := Lib.hid hv
  clear hn hL hwf hv
  go_enter Tryd.func39, Tryd.ntmps39
  go_wp2
  go_loopw [9] (fun s9 wr => ∃ k : Nat, k ≤ n ∧ s9 = .int .i64 k ∧ Hid (∀ j (h : j < g.length), j < k → sok g[j] = true) ∧ Below w.heap.size w wr) (fun s9 _ => n - (intOf s9).toNat)
  case atStart => exact ⟨0, Nat.zero_le _, rfl, Lib.hid (fun j h h' => by omega), Below.refl _ _⟩
  case round =>
    obtain ⟨k, hk, rfl, HA, hG⟩ := hrel
    by_cases hlt : k < n
    · obtain ⟨b, off, rfl, hb, hc⟩ := HL.out (by have := HN.out; omega)
      have x0 := hc k (by have := HN.out; omega)
      replace x0 := (hG.cell (p := ⟨b, off + k, none⟩) hb).trans x0
      have E : Hid (∀ h : k < g.length, g[k] = Ky.atI g k) := Lib.hid fun h => (Ky.atI_eq h).symm
      have hw : -9223372036854775808 ≤ Ky.atI g k ∧ Ky.atI g k ≤ 9223372036854775807 := by
        have h : k < g.length := by have := HN.out; omega
        rw [Ky.atI_eq h]; exact HW.out _ (List.getElem_mem h)
      clear hc
      generalize Ky.atI g k = p at *
      obtain ⟨z, hz⟩ : ∃ z, sok p = z := ⟨_, rfl⟩
      have HZ := Lib.hid hz
      clear hz
      cases z with
      | true =>
        go_wp2_with fail
        refine (issign_is _ _ HZ.out hw.1 hw.2 _).mono ?_; rintro e w2 ⟨rfl, hb2⟩
        replace hG := hG.trans (hb2.mono hG.size)
        clear x0 hb2
        go_wp2_with fail
        go_roundw
        case rel =>
          refine ⟨k + 1, by omega, by simp, Lib.hid fun j h hj => ?_, hG⟩
          by_cases e : j = k
          · subst e; rw [E.out h, HZ.out]
          · exact HA.out j h (by omega)
        case measure => simp [intOf] <;> omega
      | false =>
        go_wp2_with fail
        refine (issign_is _ _ HZ.out hw.1 hw.2 _).mono ?_; rintro e w2 ⟨rfl, hb2⟩
        replace hG := hG.trans (hb2.mono hG.size)
        obtain rfl : v = false := by
          rw [← HV.out]
          exact all_not (k := k) (by have := HN.out; omega) (by rw [E.out (by have := HN.out; omega), HZ.out])
        clear x0 hb2
        go_wp2_with fail
        go_ret
        exact ⟨rfl, hG⟩
    · obtain rfl : v = true := by
        rw [← HV.out]
        exact all_here HA.out (by have := HN.out; omega)
      go_wp2_with fail
      go_ret
      exact ⟨rfl, hG⟩

end Go.Proofs.YtnjacgjcoikngaaDoor
