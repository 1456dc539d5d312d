/- The walk of the reference's whole. -/
import Derived.Test.YtnnhpbkhfaaaeaaCi
import Derived.Test.YtnnhpbkhfaaaeaaPv
namespace Go.Proofs.Ytnnhpbkhfaaaeaa
open Go.RowKit

def WhP (O : Option (List Int × Nat)) (e : Ending) (w' : World) : Prop := match O with
  | none => e = .returned (.tuple #[.slice none 0 0, .int .i64 0])
  | some (l, k) => ∃ D c, e = .returned (.tuple #[.slice D l.length c, .int .i64 k]) ∧ SlK .i64 w' D l ∧ (D = none → c = 0) ∧ TyK 3 w' D
/-- The classes of the region in which the digest is compared: before the calls, behind Sum, behind bytes. -/
def whC (W : World) (s : Nat) : List Value → World → Prop
  | [], w => w = W.drew
  | [v], w => v = .int .u64 (s : Int) ∧ Below W.heap.size W w
  | [_, v], w => (∃ D c, v = .slice D 8 c ∧ SlN .u8 w D (Dg.be8 s)) ∧ Below W.heap.size W w
  | _, _ => False
theorem SlN.take {k : IntKind} {w : World} {A : Option Addr} {g : List Nat} (h : SlN k w A g) (j : Nat) : SlN k w A (g.take j) := fun h0 => by
  rw [List.length_take] at h0
  obtain ⟨b, off, rfl, hb, hc⟩ := h (by omega)
  refine ⟨b, off, rfl, hb, fun i hi => ?_⟩
  rw [List.length_take] at hi
  rw [hc i (by omega)]
  unfold atN
  rw [List.getElem?_take, if_pos (by omega)]

set_option maxHeartbeats 1600000 in
theorem kwhole_is (b : List Nat) (O : Option (List Int × Nat)) (len cap : Nat) (A : Option Addr) (h : Cd.whole b = O) (hl : b.length = len) (hcap : len ≤ cap) (hb : Cd.by8 b) (hmax : len ≤ 1000000000) (w : World) (hL : SlN .u8 w A b) :
    Calls Try.prog 33 #[.slice A len cap] w fun e w' => WhP O e w' ∧ Below w.heap.size w w' := by
  unfold Cd.whole at h
  have HN := Lib.hid hl
  have HL := Lib.hid hL
  have HB := Lib.hid hb
  rw [hl] at h
  clear hl hL hb
  by_cases h11 : len < 11
  · rw [if_pos h11] at h
    subst h
    go_enter Try.func33, Try.ntmps33
    have h11' : (len : Int) < 11 := by omega
    go_wp2_with fail
    go_ret2
    exact ⟨rfl, Below.refl _ _⟩
  rw [if_neg h11] at h
  obtain ⟨n, hn⟩ : ∃ n, Cd.says b = n := ⟨_, rfl⟩
  rw [hn] at h
  obtain ⟨bb, off, rfl, hbb, hc⟩ := HL.out (by rw [HN.out]; omega)
  have c0 := hc 0 (by rw [HN.out]; omega)
  rw [Nat.add_zero] at c0
  have c1 := hc 1 (by rw [HN.out]; omega)
  have c2 := hc 2 (by rw [HN.out]; omega)
  have by3 : ∀ i, i < len → atN b i < 256 := fun i hi => by
    rw [atN_eq (by rw [HN.out]; exact hi)]
    exact HB.out _ (List.getElem_mem _)
  have y0 := by3 0 (by omega)
  have y1 := by3 1 (by omega)
  have y2 := by3 2 (by omega)
  have hn2 : (atN b 0 : Int) * 65536 + (atN b 1 : Int) * 256 + (atN b 2 : Int) = (n : Int) := by unfold Cd.says at hn; omega
  have hn3 : n < 16777216 := by unfold Cd.says at hn; omega
  clear hc by3 hn
  have HO := Lib.hid h
  clear h
  go_enter Try.func33, Try.ntmps33
  have x0 := fun x : Ext w => x.cell c0
  have x1 := fun x : Ext w => x.cell c1
  have x2 := fun x : Ext w => x.cell c2
  have hne := Ext.there w
  have l11 : ¬ (len : Int) < 11 := by omega
  generalize atN b 0 = p0 at *
  generalize atN b 1 = p1 at *
  generalize atN b 2 = p2 at *
  go_wp2_with fail
  refine Ext.region (by kernel_rfl) (by kernel_rfl) ?_
  repeat (go_big_quiet_step (fail))
  refine wpQuiet_nil ?_
  rintro _ ⟨xw, rfl⟩
  have hG := xw.h
  clear x0 x1 x2 hne c0 c1 c2
  generalize xw.w = w3 at *
  clear xw
  clear hn2 y0 y1 y2
  by_cases h12 : len < n + 11
  · have hO := HO.out
    rw [if_pos h12] at hO
    subst hO
    have h12' : (len : Int) < (n : Int) + 11 := by omega
    go_wp2_with fail
    go_ret2
    exact ⟨rfl, hG⟩
  · have hO := HO.out
    rw [if_neg h12] at hO
    have h12' : ¬ (len : Int) < (n : Int) + 11 := by omega
    have k0 : (0 : Int) ≤ 3 + (n : Int) := by omega
    go_wp2_with fail
    obtain ⟨s, hs⟩ : ∃ s, Dg.sum (b.take (3 + n)) = s := ⟨_, rfl⟩
    rw [hs] at hO
    have hsl : s < 18446744073709551616 := by rw [← hs]; exact Dg.sum_lt _
    have HS := Lib.hid hs
    have HTL : Hid ((b.take (3 + n)).length = 3 + n) := Lib.hid (by rw [List.length_take, HN.out]; omega)
    have HTB : Hid (∀ x ∈ b.take (3 + n), x < 256) := Lib.hid (HB.out.take _)
    have hL3 := HL.out.below hG
    have HT3 := Lib.hid (hL3.take (3 + n))
    have HD3 := Lib.hid ((hL3.drop (3 + n)).take 8)
    have HG3 := Lib.hid ((hL3.drop 3).take n)
    simp only [Option.map_some, addr_off] at HD3 HG3
    have HDL : Hid (((b.drop (3 + n)).take 8).length = 11 + n - (3 + n)) := Lib.hid (by rw [List.length_take, List.length_drop, HN.out]; omega)
    have HDB : Hid (∀ x ∈ (b.drop (3 + n)).take 8, x < 256) := Lib.hid ((HB.out.drop _).take _)
    have HGL : Hid (((b.drop 3).take n).length = n) := Lib.hid (by rw [List.length_take, List.length_drop, HN.out]; omega)
    have HGB : Hid (Cd.by8 ((b.drop 3).take n)) := Lib.hid ((HB.out.drop _).take _)
    have HEB : Hid (∀ x ∈ Dg.be8 s, x < 256) := Lib.hid (Cd.be8_by8 s)
    clear hs hL3
    obtain ⟨f, hf⟩ : ∃ f, decide ((b.drop (3 + n)).take 8 = Dg.be8 s) = f := ⟨_, rfl⟩
    have HF := Lib.hid hf
    have hO2 : (if f = true then (Cd.get ((b.drop 3).take n)).map (fun l => (l, n + 11)) else none) = O := by
      rw [← hO, ← hf]
      by_cases e : (b.drop (3 + n)).take 8 = Dg.be8 s
      · rw [if_pos (decide_eq_true e), if_pos e.symm]
      · rw [if_neg (by rw [decide_eq_false e]; exact Bool.false_ne_true), if_neg (fun h => e h.symm)]
    clear hf hO
    have HO := Lib.hid hO2
    clear hO2
    have hne : Nonempty (PvW (whC w3 s)) := PvW.there (w := w3.drew) rfl
    refine region_pv (cs := [10, 11]) (Cv := whC w3 s) 12 (by kernel_rfl) (by kernel_rfl) (by kernel_rfl) rfl ?_
    simp only [List.take_succ_cons, List.take_zero, List.drop_succ_cons, List.drop_zero]
    iterate 10 (refine pv_quiet (by decide) rfl rfl ?_; intro K' hK'; go_big_quiet_op; go_big_quiet_on)
    clear hne
    refine pv_enter (f := 27) (args := #[.slice (some ⟨bb, off, none⟩) (3 + n) cap]) rfl rfl (fun w' hw' => ?_) (fun w' hw' => ?_) ?_
    · simp [go_sem]
    · obtain rfl : w' = w3.drew := hw'
      refine (ksum_is _ _ cap _ s HS.out HTL.out HTB.out (by omega) _ (HT3.out.below (Below.refl _ _).drew)).mono ?_
      rintro e w2 ⟨rfl, hb2⟩
      exact ⟨_, rfl, rfl, (Below.refl _ _).drew.trans hb2⟩
    rintro _ ⟨_, rfl, _⟩
    refine pv_enter (f := 26) (args := #[.int .u64 (s : Int)]) rfl rfl (fun w' hw' => ?_) (fun w' hw' => ?_) ?_
    · simp [go_sem, Act.put]
    · obtain ⟨_, hb⟩ := hw'
      refine (kbytes_is s hsl _).mono ?_
      rintro e w4 ⟨D, c, rfl, S4, _, hb4⟩
      exact ⟨_, rfl, ⟨D, c, rfl, S4⟩, hb.trans (hb4.mono hb.size)⟩
    rintro _ ⟨_, ⟨D, c, rfl, _⟩, _⟩
    rintro w4 ⟨⟨D', c', e, S4⟩, hb4⟩
    cases e
    have HD4 := Lib.hid (HD3.out.below hb4)
    have HG4 := Lib.hid (HG3.out.below hb4)
    have B4 := hG.trans (hb4.mono hG.size)
    have HS4 := Lib.hid S4
    clear HT3 HD3 HG3 S4 hb4 hG HTL HTB HS
    cases f with
    | false =>
      go_wp2_with (first | (go_at_call 12; refine (ksameBytes_is _ _ _ _ _ _ _ _ _ HF.out HDL.out rfl HDB.out HEB.out _ HD4.out HS4.out).mono ?_; rintro e w6 ⟨rfl, hb6⟩) | fail)
      go_ret2
      obtain rfl := HO.out
      exact ⟨rfl, B4.trans (hb6.mono B4.size)⟩
    | true =>
      cases hg : Cd.get ((b.drop 3).take n) with
      | none =>
        rw [if_pos rfl, hg] at HO
        have HE := Lib.hid hg
        clear hg
        go_wp2_with (first | (go_at_call 12; refine (ksameBytes_is _ _ _ _ _ _ _ _ _ HF.out HDL.out rfl HDB.out HEB.out _ HD4.out HS4.out).mono ?_; rintro e w6 ⟨rfl, hb6⟩) | (go_at_call 16; (with_reducible refine (kget_is _ none _ _ _ HE.out HGL.out (by omega) HGB.out (by omega) _ (HG4.out.below hb6)).mono ?_); rintro e w7 ⟨rfl, hb7⟩) | fail)
        go_ret2
        obtain rfl := HO.out
        have B6 := B4.trans (hb6.mono B4.size)
        exact ⟨rfl, B6.trans (hb7.mono B6.size)⟩
      | some l =>
        rw [if_pos rfl, hg] at HO
        have HE := Lib.hid hg
        clear hg
        go_wp2_with (first | (go_at_call 12; refine (ksameBytes_is _ _ _ _ _ _ _ _ _ HF.out HDL.out rfl HDB.out HEB.out _ HD4.out HS4.out).mono ?_; rintro e w6 ⟨rfl, hb6⟩) | (go_at_call 16; (with_reducible refine (kget_is _ (some l) _ _ _ HE.out HGL.out (by omega) HGB.out (by omega) _ (HG4.out.below hb6)).mono ?_); rintro e w7 ⟨⟨D7, c7, rfl, S7, hD7, hT7⟩, hb7⟩) | fail)
        go_ret2
        obtain rfl := HO.out
        have B6 := B4.trans (hb6.mono B4.size)
        exact ⟨⟨D7, c7, rfl, S7, hD7, hT7⟩, B6.trans (hb7.mono B6.size)⟩
end Go.Proofs.Ytnnhpbkhfaaaeaa
