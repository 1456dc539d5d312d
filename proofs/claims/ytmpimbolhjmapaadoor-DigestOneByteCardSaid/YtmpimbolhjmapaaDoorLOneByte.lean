/- The walk of DigestOneByte. -/
import Derived.Test.YtmpimbolhjmapaaDoorDh
import Derived.Test.YtmpimbolhjmapaaDoorDt
namespace Go.Proofs.YtmpimbolhjmapaaDoor
open Go.RowKit

set_option maxHeartbeats 1600000 in
theorem digestOneByte_walk (A : Option Addr) (len cap : Nat) (b : List Nat) (hl : b.length = len) (hb8 : ∀ x ∈ b, x < 256) (hA : A = none → cap = 0) (p : Int) (hp : 0 ≤ p ∧ p < 65536) (t : Int) (ht : 0 ≤ t ∧ t < 256) (w : World) (hG : GK w) (hL : SlN .u8 w A b) :
    Calls Tryd.prog 4 #[.slice A len cap, .int .u16 p, .int .u8 t] w fun e w' => e = .returned (.bool true) ∧ Below w.heap.size w w' := by
  obtain ⟨P, rfl⟩ := Int.eq_ofNat_of_zero_le hp.1
  obtain ⟨T, rfl⟩ := Int.eq_ofNat_of_zero_le ht.1
  have HN := Lib.hid hl
  have HB := Lib.hid hb8
  have HA := Lib.hid hA
  clear hl hb8 hA
  by_cases h0 : len = 0
  · subst h0
    go_enter Tryd.func4, Tryd.ntmps4
    go_wp2_with fail
    have B := Below.refl w.heap.size w
    refine (head_any _ hG).mono ?_; rintro e w1 ⟨rfl, hb⟩
    replace hG := hG.below hb
    replace B := B.trans (hb.mono (by have := B.size; simp <;> omega))
    clear hb
    go_wp2_with fail
    go_ret
    exact ⟨rfl, B⟩
  · have z0 : ((len : Int) == 0) = false := by simpa using h0
    by_cases h5 : 500 < len
    · have z5 : (500 : Int) < (len : Int) := by omega
      go_enter Tryd.func4, Tryd.ntmps4
      go_wp2_with fail
      have B := Below.refl w.heap.size w
      refine (head_any _ hG).mono ?_; rintro e w1 ⟨rfl, hb⟩
      replace hG := hG.below hb
      replace B := B.trans (hb.mono (by have := B.size; simp <;> omega))
      clear hb
      go_wp2_with fail
      go_ret
      exact ⟨rfl, B⟩
    · have z5 : ¬ (500 : Int) < (len : Int) := by omega
      have hk : P % len < len := Nat.mod_lt _ (by omega)
      have f1 : (P : Int).tmod (len : Int) = ((P % len : Nat) : Int) := rfl
      have f2 : (P : Int) % (len : Int) = ((P % len : Nat) : Int) := rfl
      generalize P % len = k at *
      have hT : T < 256 := by omega
      have hkb : k < b.length := by rw [HN.out]; exact hk
      have hX : atN b k < 256 := by rw [atN_eq hkb]; exact HB.out _ (List.getElem_mem hkb)
      have f3 := u8_xor_nat (atN b k) T hX hT
      have hSet := Dg.sum_set (y := atN b k ^^^ T) hkb HB.out (Dg.xor_byte hX hT)
      rw [Dg.xor_self_iff] at hSet
      have HC8 : Hid (∀ x ∈ b.set k (atN b k ^^^ T), x < 256) := Lib.hid (fun x hx => by
        rcases List.mem_or_eq_of_mem_set hx with h | h
        · exact HB.out x h
        · rw [h]; exact Dg.xor_byte hX hT)
      have HCl : Hid ((b.set k (atN b k ^^^ T)).length = len) := Lib.hid (by rw [List.length_set]; exact HN.out)
      have HST : Hid (∀ (g : Nat) (w4 : World), RowC .u8 w4 g (up b) → w4.cell? ⟨g, k, none⟩ = some (.int .u8 (atN b k : Int)) ∧ w4.frozen? ⟨g, k, none⟩ = false ∧ SlN .u8 (w4.setCell ⟨g, k, none⟩ (.int .u8 ((atN b k ^^^ T : Nat) : Int))) (some ⟨g, 0, none⟩) (b.set k (atN b k ^^^ T))) := Lib.hid (fun g w4 h => ⟨by rw [h.cell k (by rw [up_length]; exact hkb), up_at hkb], h.free k, by
        have := h.put k ((atN b k ^^^ T : Nat) : Int) (by rw [up_length]; exact hkb)
        rw [up_set] at this
        exact this.sl.down⟩)
      generalize b.set k (atN b k ^^^ T) = c at *
      generalize atN b k ^^^ T = Y at *
      generalize atN b k = X at *
      obtain ⟨s1, hs1⟩ : ∃ q, Dg.sum b = q := ⟨_, rfl⟩
      obtain ⟨s2, hs2⟩ : ∃ q, Dg.sum c = q := ⟨_, rfl⟩
      rw [hs1, hs2] at hSet
      have HS1 := Lib.hid hs1
      have HS2 := Lib.hid hs2
      have hE : (((s1 : Int) == (s2 : Int)) == ((T : Int) == 0)) = true := by
        by_cases hz : T = 0
        · rw [hSet.2 hz, hz]; simp
        · have e1 : ((s1 : Int) == (s2 : Int)) = false := by
            have : s1 ≠ s2 := fun h => hz (hSet.1 h)
            simp; omega
          have e2 : ((T : Int) == 0) = false := by simp; omega
          rw [e1, e2]; rfl
      clear hs1 hs2 hSet hkb hX
      obtain ⟨i0, hi, hz0, hz1, hz2⟩ := info_parts infoByte
      go_enter Tryd.func4, Tryd.ntmps4
      go_wp2_with fail
      have B := Below.refl w.heap.size w
      refine (head_any _ hG).mono ?_; rintro e w1 ⟨rfl, hb⟩
      replace hL := hL.below hb
      replace hG := hG.below hb
      replace B := B.trans (hb.mono (by have := B.size; simp <;> omega))
      clear hb
      have HL := Lib.hid hL
      have hb0 : 0 < len := by omega
      go_wp2_with (first | (at_builtin; refine append_sln .u8 rfl _ _ 22 rfl w1.heap.size 5 i0 (.int .u8 0) 1 Tryd.underlying22 hi hz0 hz1 hz2 rfl (.slice (some ⟨w1.heap.size, 0, none⟩) 0 0) 0 [] rfl (World.ownsRow_made _ #[] 0 (Nat.le_refl _) (by unfold maxLen; omega) rfl) A len cap b rfl HA.out HN.out (HL.out.alloc _) (by unfold maxLen; omega) (by omega) (by simp) ?_; intro v4 w4 hown4 hgrow4; rw [Nat.zero_add, List.nil_append, vN_up] at hown4; obtain ⟨hlen4, S, cap4, rfl, hS, RC⟩ := own_rowC hown4 hb0; obtain ⟨x0, x1, x2⟩ := HST.out _ _ RC; have hS2 := RC.lt) | fail)
      have hb := (((Below.refl _ w1).alloc (Nat.le_refl _) _).grown hgrow4 (by simp) (fun j hj => by cases hj; exact Nat.le_refl _)).setCell (p := ⟨S, k, none⟩) hS (.int .u8 (Y : Int))
      have C0 := x2
      clear x0 x1 x2 RC hown4 hgrow4 HST HL hS hS2 hlen4
      generalize w4.setCell ⟨S, k, none⟩ (.int .u8 (Y : Int)) = w5 at *
      clear w4
      replace hL := hL.below hb
      replace hG := hG.below hb
      replace B := B.trans (hb.mono (by have := B.size; simp <;> omega))
      clear hb
      refine (dsum_is b len cap A s1 HS1.out HN.out HB.out (by omega) _ hL hG).mono ?_; rintro e w6 ⟨rfl, hb⟩
      replace hL := hL.below hb
      replace C0 := C0.below hb
      replace hG := hG.below hb
      replace B := B.trans (hb.mono (by have := B.size; simp <;> omega))
      clear hb
      go_wp2_with fail
      refine (dsum_is c len cap4 _ s2 HS2.out HCl.out HC8.out (by omega) _ C0 hG).mono ?_; rintro e w7 ⟨rfl, hb⟩
      replace hL := hL.below hb
      replace C0 := C0.below hb
      replace hG := hG.below hb
      replace B := B.trans (hb.mono (by have := B.size; simp <;> omega))
      clear hb
      go_wp2_with fail
      go_ret
      exact ⟨rfl, B⟩
end Go.Proofs.YtmpimbolhjmapaaDoor
