/- The walk of the reference's Valid. -/
import Derived.Test.YthamkigdpgajaaaMb
namespace Go.Proofs.Ythamkigdpgajaaa
open Go.RowKit

namespace Mt
/-- A list that consists of bars. -/
def Val (l : List B) : Prop := 1 ≤ l.length ∧ l.length ≤ 4000 ∧ (∀ j, j < l.length → okB (atB l j)) ∧ ∀ j k, j < l.length → k < j → (atB l k).1 ≠ (atB l j).1
theorem Val.ok {l : List B} (h : Val l) : ∀ b ∈ l, okB b := fun b hb => by
  obtain ⟨j, hj, rfl⟩ := List.getElem_of_mem hb
  rw [← atB_eq hj]
  exact h.2.2.1 j hj
theorem not_ok {i t k : Int} (h : ¬ (1 ≤ i ∧ i ≤ 1000000 ∧ 1 ≤ t ∧ t ≤ 40320 ∧ -7 ≤ k ∧ k ≤ 7)) :
    i < 1 ∨ (¬ i < 1 ∧ 1000000 < i) ∨ (¬ i < 1 ∧ ¬ 1000000 < i ∧ t < 1) ∨ (¬ i < 1 ∧ ¬ 1000000 < i ∧ ¬ t < 1 ∧ 40320 < t) ∨ (¬ i < 1 ∧ ¬ 1000000 < i ∧ ¬ t < 1 ∧ ¬ 40320 < t ∧ k < -7) ∨ (¬ i < 1 ∧ ¬ 1000000 < i ∧ ¬ t < 1 ∧ ¬ 40320 < t ∧ ¬ k < -7 ∧ 7 < k) := by omega
end Mt

set_option maxHeartbeats 1600000 in
theorem kvalid_is (l : List Mt.B) (f : Bool) (len cap : Nat) (A : Option Addr) (h : f = true ↔ Mt.Val l) (hl : l.length = len) (w : World) (hL : SlB w A l) :
    Calls Try.prog 14 #[.slice A len cap] w fun e w' => e = .returned (.bool f) ∧ Below w.heap.size w w' := by
  have HF := Lib.hid h
  have HN := Lib.hid hl
  have HL := Lib.hid hL
  clear h hl hL
  by_cases h1 : len < 1
  · have hf : f = false := by
      cases f with
      | false => rfl
      | true => have := (HF.out.1 rfl).1; rw [HN.out] at this; omega
    subst hf
    have h1' : (len : Int) < 1 := by omega
    go_enter Try.func14, Try.ntmps14
    go_wp2_with fail
    go_ret
    exact ⟨rfl, Below.refl _ _⟩
  by_cases h2 : 4000 < len
  · have hf : f = false := by
      cases f with
      | false => rfl
      | true => have := (HF.out.1 rfl).2.1; rw [HN.out] at this; omega
    subst hf
    have h1' : ¬ (len : Int) < 1 := by omega
    have h2' : (4000 : Int) < (len : Int) := by omega
    go_enter Try.func14, Try.ntmps14
    go_wp2_with fail
    go_ret
    exact ⟨rfl, Below.refl _ _⟩
  have h1' : ¬ (len : Int) < 1 := by omega
  have h2' : ¬ (4000 : Int) < (len : Int) := by omega
  have hl1 : 1 ≤ len := by omega
  have hl4 : len ≤ 4000 := by omega
  clear h1 h2
  go_enter Try.func14, Try.ntmps14
  go_wp2_with fail
  go_loopw [3] (fun s3 wr => ∃ (i : Nat) (q : Int), i ≤ len ∧ q = i ∧ s3 = .int .i64 q ∧ Hid ((∀ j, j < i → Mt.okB (atB l j)) ∧ ∀ j k, j < i → k < j → (atB l k).1 ≠ (atB l j).1) ∧ Below w.heap.size w wr) (fun s3 _ => len - (intOf s3).toNat)
  case atStart => exact ⟨0, 0, Nat.zero_le _, rfl, rfl, Lib.hid ⟨fun j hj => by omega, fun j k hj => by omega⟩, Below.refl _ _⟩
  case round =>
    obtain ⟨i, q, hi, hq, rfl, HE, hG⟩ := hrel
    by_cases hlt : i < len
    · have hil : i < l.length := by rw [HN.out]; omega
      obtain ⟨bb, off, rfl, hbb, hc⟩ := HL.out (by omega)
      have HC := Lib.hid hc
      obtain ⟨c0, c1, c2, c3⟩ := hc i hil
      have x1 := (hG.cell (p := ⟨bb, off + i * 4 + 1, none⟩) hbb).trans c1
      have x2 := (hG.cell (p := ⟨bb, off + i * 4 + 2, none⟩) hbb).trans c2
      obtain ⟨t, ht⟩ : ∃ t, Mt.bt (atB l i) = t := ⟨_, rfl⟩
      have HT : Hid (Mt.tk (atB l i).2.1 (atB l i).2.2.1 = t) := Lib.hid ht
      obtain ⟨id, hid⟩ : ∃ id, (atB l i).1 = id := ⟨_, rfl⟩
      obtain ⟨ke, hke⟩ : ∃ ke, (atB l i).2.2.2 = ke := ⟨_, rfl⟩
      rw [hid] at c0
      rw [hke] at c3
      have hq1 : q < (len : Int) := by omega
      have hq3 : 0 ≤ q := by omega
      have hqn : q.toNat = i := by omega
      have HQ := Lib.hid hq
      have HID := Lib.hid hid
      have HI := Lib.hid hil
      have X0 := Lib.hid c0
      have X3 := Lib.hid c3
      by_cases hok : 1 ≤ id ∧ id ≤ 1000000 ∧ 1 ≤ t ∧ t ≤ 40320 ∧ -7 ≤ ke ∧ ke ≤ 7
      · have HOK : Hid (Mt.okB (atB l i)) := Lib.hid (by unfold Mt.okB; rw [hid, ht, hke]; exact hok)
        obtain ⟨o1, o2, o3, o4, o5, o6⟩ := hok
        have o1' : ¬ id < 1 := by omega
        have o2' : ¬ 1000000 < id := by omega
        have o3' : ¬ t < 1 := by omega
        have o4' : ¬ 40320 < t := by omega
        have o5' : ¬ ke < -7 := by omega
        have o6' : ¬ 7 < ke := by omega
        clear hc c0 c1 c2 c3 ht hid hke hil hq o1 o2 o3 o4 o5 o6
        generalize (atB l i).2.1 = n at *
        generalize (atB l i).2.2.1 = d at *
        go_wp2_with (first | (go_at_call 31; refine (kticks_is n d t HT.out _).mono ?_; rintro e w2 ⟨rfl, hb⟩; have G2 := hG.trans (hb.mono hG.size); have y0 := (G2.cell (p := ⟨bb, off + i * 4, none⟩) hbb).trans X0.out; have y3 := (G2.cell (p := ⟨bb, off + i * 4 + 3, none⟩) hbb).trans X3.out) | fail)
        clear x1 x2 y3
        go_loopw [5] (fun s5 wr => ∃ (k : Nat) (p : Int), k ≤ i ∧ p = k ∧ s5 = .int .i64 p ∧ Hid (∀ m, m < k → (atB l m).1 ≠ id) ∧ Below w2.heap.size w2 wr) (fun s5 _ => i - (intOf s5).toNat)
        case atStart => exact ⟨0, 0, Nat.zero_le _, rfl, rfl, Lib.hid (fun m hm => by omega), Below.refl _ _⟩
        case round =>
          obtain ⟨k, p, hk, hp, rfl, HK, hX⟩ := hrel
          by_cases hki : k < i
          · obtain ⟨z0, _⟩ := HC.out k (by have := HI.out; omega)
            obtain ⟨id2, hid2⟩ : ∃ id2, (atB l k).1 = id2 := ⟨_, rfl⟩
            rw [hid2] at z0
            have hbb2 : bb < w2.heap.size := Nat.lt_of_lt_of_le hbb G2.size
            have u0 := fun y : Ext wr => y.cell ((hX.cell (p := ⟨bb, off + i * 4, none⟩) hbb2).trans y0)
            have u1 := fun y : Ext wr => y.cell ((hX.cell (p := ⟨bb, off + k * 4, none⟩) hbb2).trans ((G2.cell (p := ⟨bb, off + k * 4, none⟩) hbb).trans z0))
            have hne := Ext.there wr
            have hp1 : p < q := by have := HQ.out; omega
            have hp3 : 0 ≤ p := by omega
            have hpn : p.toNat = k := by omega
            have hpl : p < (len : Int) := by omega
            have hkl : k < len := by omega
            have HP := Lib.hid hp
            clear z0 hp
            by_cases he : id2 = id
            · have hf : f = false := by
                cases f with
                | false => rfl
                | true => exact absurd (by rw [hid2, HID.out]; exact he) ((HF.out.1 rfl).2.2.2 i k HI.out hki)
              subst hf
              have he' : (id2 == id) = true := by simpa using he
              clear he hid2
              go_wp2_with fail
              refine Ext.region (by kernel_rfl) (by kernel_rfl) ?_
              repeat (go_big_quiet_step (fail))
              refine wpQuiet_nil ?_
              rintro _ ⟨xw, rfl⟩
              have G3 := G2.trans ((hX.trans (xw.h.mono hX.size)).mono G2.size)
              clear u0 u1 hne
              generalize xw.w = w3 at *
              clear xw
              go_wp2_with fail
              go_ret
              exact ⟨rfl, G3⟩
            · have HK2 : Hid (∀ m, m < k + 1 → (atB l m).1 ≠ id) := Lib.hid (fun m hm => by
                by_cases e : m = k
                · subst e; rw [hid2]; exact he
                · exact HK.out m (by omega))
              have he' : (id2 == id) = false := by simpa using he
              clear he hid2
              go_wp2_with fail
              refine Ext.region (by kernel_rfl) (by kernel_rfl) ?_
              repeat (go_big_quiet_step (fail))
              refine wpQuiet_nil ?_
              rintro _ ⟨xw, rfl⟩
              replace hX := hX.trans (xw.h.mono hX.size)
              clear u0 u1 hne
              generalize xw.w = w3 at *
              clear xw
              go_wp2_with fail
              go_roundw
              case rel => exact ⟨k + 1, p + 1, by omega, (by have := HP.out; omega), rfl, HK2, hX⟩
              case measure => have := HP.out; simp [intOf]; omega
          · obtain rfl : k = i := by omega
            have hp1 : ¬ p < q := by have := HQ.out; omega
            have HE2 : Hid ((∀ j, j < k + 1 → Mt.okB (atB l j)) ∧ ∀ j m, j < k + 1 → m < j → (atB l m).1 ≠ (atB l j).1) := Lib.hid ⟨fun j hj => by
              by_cases e : j = k
              · subst e; exact HOK.out
              · exact HE.out.1 j (by omega), fun j m hj hm => by
              by_cases e : j = k
              · subst e; rw [HID.out]; exact HK.out m hm
              · exact HE.out.2 j m (by omega) hm⟩
            have G3 := G2.trans (hX.mono G2.size)
            clear hp
            go_wp2_with fail
            go_roundw
            case rel => exact ⟨k + 1, q + 1, by omega, (by have := HQ.out; omega), rfl, HE2, G3⟩
            case measure => have := HQ.out; simp [intOf]; omega
      · have hf : f = false := by
          cases f with
          | false => rfl
          | true =>
            exfalso
            have := (HF.out.1 rfl).2.2.1 i hil
            unfold Mt.okB at this
            rw [hid, ht, hke] at this
            exact hok this
        subst hf
        have hbad := Mt.not_ok hok
        clear hok hc c0 c1 c2 c3 ht hid hke hil hq
        generalize (atB l i).2.1 = n at *
        generalize (atB l i).2.2.1 = d at *
        rcases hbad with b1 | ⟨b1, b2⟩ | ⟨b1, b2, b3⟩ | ⟨b1, b2, b3, b4⟩ | ⟨b1, b2, b3, b4, b5⟩ | ⟨b1, b2, b3, b4, b5, b6⟩
        all_goals
          go_wp2_with (first | (go_at_call 31; refine (kticks_is n d t HT.out _).mono ?_; rintro e w2 ⟨rfl, hb⟩; have G2 := hG.trans (hb.mono hG.size); have y0 := (G2.cell (p := ⟨bb, off + i * 4, none⟩) hbb).trans X0.out; have y3 := (G2.cell (p := ⟨bb, off + i * 4 + 3, none⟩) hbb).trans X3.out) | fail)
          go_ret
          exact ⟨rfl, G2⟩
    · obtain rfl : i = len := by omega
      have hf : f = true := HF.out.2 ⟨by rw [HN.out]; exact hl1, by rw [HN.out]; exact hl4, by rw [HN.out]; exact HE.out.1, by rw [HN.out]; exact HE.out.2⟩
      subst hf
      have hq1 : ¬ q < (i : Int) := by omega
      clear hq
      go_wp2_with fail
      go_ret
      exact ⟨rfl, hG⟩
end Go.Proofs.Ythamkigdpgajaaa
