/- The walk of the laws' own function 'turned'. -/
import Derived.Test.YtmpimbolhjmapaaDoorDw
namespace Go.Proofs.YtmpimbolhjmapaaDoor
open Go.RowKit

def TnP (R : Option (List Int)) (len : Nat) (e : Ending) (w' : World) : Prop := (R = none ∧ e = .returned (.tuple #[.slice none 0 0, .bool false])) ∨ (∃ m D c, R = some m ∧ m.length = len ∧ (D = none → c = 0) ∧ e = .returned (.tuple #[.slice D len c, .bool true]) ∧ SlK .i64 w' D m)

set_option maxHeartbeats 1600000 in
theorem turned_is (l : List Int) (which t : Nat) (R : Option (List Int)) (len cap : Nat) (A : Option Addr) (h : Dg.tn l which t = R) (hwh : which < 65536) (ht : t < 256) (hl : l.length = len) (hmax : len ≤ 17592186044416) (w : World) (hA : A = none → cap = 0) (hL : SlK .i64 w A l) :
    Calls Tryd.prog 18 #[.slice A len cap, .int .u16 (which : Int), .int .u8 (t : Int)] w fun e w' => TnP R len e w' ∧ Below w.heap.size w w' := by
  have HN := Lib.hid hl
  have HL := Lib.hid hL
  have HA := Lib.hid hA
  clear hl hL hA
  obtain ⟨i0, hi, hz0, hz1, hz2⟩ := info_parts infoInt
  by_cases h0 : len = 0
  · subst h0
    have hR : R = none := by
      rw [← h]
      unfold Dg.tn
      rw [if_pos HN.out]
    clear h
    go_enter Tryd.func18, Tryd.ntmps18
    go_wp2_with fail
    go_ret2
    exact ⟨.inl ⟨hR, rfl⟩, Below.refl _ _⟩
  · have hz : (which % len) < len := Nat.mod_lt _ (by omega)
    have f1 : (which : Int).tmod (len : Int) = ((which % len : Nat) : Int) := rfl
    have h0' : ((len : Int) == 0) = false := by simpa using h0
    have HT : Hid ((atI l (which % len) < 0 ∨ 1000000000000 < atI l (which % len) → R = none) ∧ (0 ≤ atI l (which % len) → atI l (which % len) ≤ 1000000000000 → R = some (l.set (which % len) (atI l (which % len) - atI l (which % len) % 10 + (atI l (which % len) % 10 + 1 + (t : Int) % 9) % 10)))) := Lib.hid (by
      have e9 : ((t % 9 : Nat) : Int) = (t : Int) % 9 := by omega
      rw [← h]
      unfold Dg.tn
      simp only [HN.out, e9]
      rw [if_neg h0]
      constructor
      · intro h; rw [if_pos h]
      · intro h1 h2; rw [if_neg (by omega)])
    clear h
    generalize which % len = k at *
    go_enter Tryd.func18, Tryd.ntmps18
    have hb0 : (0 : Nat) < len := by omega
    generalize hn : atI l k = n at *
    have HR : Hid (∀ (g : Nat) (w4 : World), RowC .i64 w4 g l → w4.cell? ⟨g, k, none⟩ = some (.int .i64 n) ∧ w4.frozen? ⟨g, k, none⟩ = false) := Lib.hid (fun g w4 h => ⟨by rw [h.cell k (by rw [HN.out]; exact hz), hn], h.free k⟩)
    by_cases hc1 : n < 0
    · have hR := HT.out.1 (.inl hc1)
      replace hR := Lib.hid hR
      clear HT
      go_wp2_with (first | (at_builtin; refine append_slk .i64 rfl _ _ 24 rfl w.heap.size 3 i0 (.int .i64 0) 8 Tryd.underlying24 hi hz0 hz1 hz2 rfl (.slice (some ⟨w.heap.size, 0, none⟩) 0 0) 0 [] rfl (World.ownsRow_made _ #[] 0 (Nat.le_refl _) (by unfold maxLen; omega) rfl) A len cap l rfl HA.out HN.out (HL.out.alloc _) (by unfold maxLen; omega) (by omega) (by simp) ?_; intro v4 w4 hown4 hgrow4; rw [Nat.zero_add, List.nil_append] at hown4; obtain ⟨hlen4, S, cap4, rfl, hS, RC⟩ := own_rowC hown4 hb0; obtain ⟨x0, x1⟩ := HR.out _ _ RC; have hS2 := RC.lt) | fail)
      go_ret2
      exact ⟨.inl ⟨hR.out, rfl⟩, ((Below.refl _ _).alloc (Nat.le_refl _) _).grown hgrow4 (by simp) (fun j hj => by cases hj; exact Nat.le_refl _)⟩
    · by_cases hc2 : 1000000000000 < n
      · have hR := HT.out.1 (.inr hc2)
        replace hR := Lib.hid hR
        clear HT
        go_wp2_with (first | (at_builtin; refine append_slk .i64 rfl _ _ 24 rfl w.heap.size 3 i0 (.int .i64 0) 8 Tryd.underlying24 hi hz0 hz1 hz2 rfl (.slice (some ⟨w.heap.size, 0, none⟩) 0 0) 0 [] rfl (World.ownsRow_made _ #[] 0 (Nat.le_refl _) (by unfold maxLen; omega) rfl) A len cap l rfl HA.out HN.out (HL.out.alloc _) (by unfold maxLen; omega) (by omega) (by simp) ?_; intro v4 w4 hown4 hgrow4; rw [Nat.zero_add, List.nil_append] at hown4; obtain ⟨hlen4, S, cap4, rfl, hS, RC⟩ := own_rowC hown4 hb0; obtain ⟨x0, x1⟩ := HR.out _ _ RC; have hS2 := RC.lt) | fail)
        go_ret2
        exact ⟨.inl ⟨hR.out, rfl⟩, ((Below.refl _ _).alloc (Nat.le_refl _) _).grown hgrow4 (by simp) (fun j hj => by cases hj; exact Nat.le_refl _)⟩
      · have hR := HT.out.2 (by omega) (by omega)
        replace hR := Lib.hid hR
        clear HT
        go_wp2_with (first | (at_builtin; refine append_slk .i64 rfl _ _ 24 rfl w.heap.size 3 i0 (.int .i64 0) 8 Tryd.underlying24 hi hz0 hz1 hz2 rfl (.slice (some ⟨w.heap.size, 0, none⟩) 0 0) 0 [] rfl (World.ownsRow_made _ #[] 0 (Nat.le_refl _) (by unfold maxLen; omega) rfl) A len cap l rfl HA.out HN.out (HL.out.alloc _) (by unfold maxLen; omega) (by omega) (by simp) ?_; intro v4 w4 hown4 hgrow4; rw [Nat.zero_add, List.nil_append] at hown4; obtain ⟨hlen4, S, cap4, rfl, hS, RC⟩ := own_rowC hown4 hb0; obtain ⟨x0, x1⟩ := HR.out _ _ RC; have hS2 := RC.lt) | fail)
        have RP := RC.put k (n - n % 10 + (n % 10 + 1 + (t : Int) % 9) % 10) (by rw [HN.out]; exact hz)
        have hG := (((Below.refl _ _).alloc (Nat.le_refl _) _).grown hgrow4 (by simp) (fun j hj => by cases hj; exact Nat.le_refl _)).setCell (p := ⟨S, k, none⟩) hS (.int .i64 (n - n % 10 + (n % 10 + 1 + (t : Int) % 9) % 10))
        go_ret2
        exact ⟨.inr ⟨_, some ⟨S, 0, none⟩, cap4, hR.out, by rw [List.length_set]; exact HN.out, (fun h => by cases h), rfl, RP.sl⟩, hG⟩
theorem turned_none (l : List Int) (which t : Nat) (len cap : Nat) (A : Option Addr) (h : Dg.tn l which t = none) (hwh : which < 65536) (ht : t < 256) (hl : l.length = len) (hmax : len ≤ 17592186044416) (w : World) (hA : A = none → cap = 0) (hL : SlK .i64 w A l) :
    Calls Tryd.prog 18 #[.slice A len cap, .int .u16 (which : Int), .int .u8 (t : Int)] w fun e w' => e = .returned (.tuple #[.slice none 0 0, .bool false]) ∧ Below w.heap.size w w' := by
  refine (turned_is l which t none len cap A h hwh ht hl hmax w hA hL).mono ?_
  rintro e w2 ⟨hT, hb⟩
  rcases hT with ⟨_, rfl⟩ | ⟨m, D, c, hR, _⟩
  · exact ⟨rfl, hb⟩
  · cases hR
theorem turned_some (l : List Int) (which t : Nat) (m : List Int) (len cap : Nat) (A : Option Addr) (h : Dg.tn l which t = some m) (hwh : which < 65536) (ht : t < 256) (hl : l.length = len) (hmax : len ≤ 17592186044416) (w : World) (hA : A = none → cap = 0) (hL : SlK .i64 w A l) :
    Calls Tryd.prog 18 #[.slice A len cap, .int .u16 (which : Int), .int .u8 (t : Int)] w fun e w' => ∃ D c, e = .returned (.tuple #[.slice D len c, .bool true]) ∧ SlK .i64 w' D m ∧ (D = none → c = 0) ∧ Below w.heap.size w w' := by
  refine (turned_is l which t (some m) len cap A h hwh ht hl hmax w hA hL).mono ?_
  rintro e w2 ⟨hT, hb⟩
  rcases hT with ⟨hR, _⟩ | ⟨m, D, c, hR, _, hD, rfl, hS⟩
  · cases hR
  · cases hR
    exact ⟨D, c, rfl, hS, hD, hb⟩
end Go.Proofs.YtmpimbolhjmapaaDoor
