import Derived.Test.YthamkigdpgajaaaDoorGI
import Derived.ChangeKeysEq
/- The walks of the reference's Sorted and Sort. -/
namespace Go.Proofs.YthamkigdpgajaaaDoor
open Go.RowKit

theorem srt_step {bs : List Mt.B} {l : List No.Nt} {i : Nat} (h : i < l.length) : No.ins (No.lt bs) (No.srt (No.lt bs) (l.take i)) (atO l i) = No.srt (No.lt bs) (l.take (i + 1)) := by
  rw [List.take_succ_eq_append_getElem h, No.srt_snoc, atO_eq h]
theorem srt_length (bs : List Mt.B) (l : List No.Nt) : (No.srt (No.lt bs) l).length = l.length := (No.srt_perm (lt := No.lt bs) l).length_eq

set_option maxHeartbeats 1600000 in
theorem rsorted_is (bs : List Mt.B) (l : List No.Nt) (blen bcap len cap : Nat) (B A : Option Addr) (hbl : bs.length = blen) (hl : l.length = len) (hmax : blen ≤ 4000000) (hlen : len ≤ 1000000) (hall : ∀ m ∈ l, No.isN m.st m.al m.oc) (w : World) (hB : SlB w B bs) (hL : SlO w A l) :
    Calls Tryd.prog 33 #[.slice B blen bcap, .slice A len cap] w fun e w' => ∃ D c, e = .returned (.slice D len c) ∧ SlO w' D (No.srt (No.lt bs) l) ∧ (D = none → c = 0) ∧ len ≤ c ∧ Below w.heap.size w w' := by
  have HB := Lib.hid hB
  have HL := Lib.hid hL
  have HN := Lib.hid hbl
  have HM := Lib.hid hl
  have HA := Lib.hid hall
  clear hbl hl hall hB hL
  go_enter Tryd.func33, Tryd.ntmps33
  go_wp2_with fail
  go_loopw [5, 6] (fun s5 s6 wr => ∃ (i : Nat) (D : Option Addr) (c : Nat), i ≤ len ∧ s6 = .int .i64 (i : Int) ∧ s5 = .slice D i c ∧ Hid (SlO wr D (No.srt (No.lt bs) (l.take i))) ∧ (D = none → c = 0) ∧ i ≤ c ∧ Below w.heap.size w wr) (fun _ s6 _ => len - (intOf s6).toNat)
  case atStart => exact ⟨0, none, 0, Nat.zero_le _, rfl, rfl, Lib.hid (SlO.nil _ _), fun _ => rfl, Nat.le_refl _, Below.refl _ _⟩
  case round =>
    obtain ⟨i, D, c, hi, rfl, rfl, HD, hDn, hic, hG⟩ := hrel
    by_cases hlt : i < len
    · have hil : i < l.length := by rw [HM.out]; exact hlt
      have HS := Lib.hid (srt_step (bs := bs) hil)
      obtain ⟨bb, off, rfl, hbb, hc⟩ := HL.out (by omega)
      obtain ⟨m, hm⟩ : ∃ m, atO l i = m := ⟨_, rfl⟩
      have X := (hc i hil).below hG hbb
      rw [hm] at X HS
      have HIN : Hid (No.isN m.st m.al m.oc) := Lib.hid (by rw [← hm]; exact HA.out _ (atO_mem hil))
      have HT : Hid ((No.srt (No.lt bs) (l.take i)).length = i) := Lib.hid (by rw [srt_length, List.length_take]; omega)
      have HAL : Hid (∀ x ∈ No.srt (No.lt bs) (l.take i), No.isN x.st x.al x.oc) := Lib.hid (fun x hx => HA.out x (List.mem_of_mem_take ((No.srt_perm (lt := No.lt bs) _).subset hx)))
      have hq1 : (i : Int) < (len : Int) := by omega
      have hi6 : i ≤ 1000000 := by omega
      obtain ⟨c0, c1, c2, c3, c4, c5, c6, c7, c8, c9, c10, c11⟩ := And.intro X.c0 (And.intro X.c1 (And.intro X.c2 (And.intro X.c3 (And.intro X.c4 (And.intro X.c5 (And.intro X.c6 (And.intro X.c7 (And.intro X.c8 (And.intro X.c9 (And.intro X.c10 X.c11))))))))))
      replace c0 : wr.cell? ⟨bb, off + i * 12, none⟩ = some (.int .i64 m.id) := c0
      clear X hc hm hil
      go_wp2_with fail
      clear c0 c1 c2 c3 c4 c5 c6 c7 c8 c9 c10 c11
      refine (rput_is bs (No.srt (No.lt bs) (l.take i)) m blen bcap i c B D HN.out HT.out hmax hi6 hic hDn HIN.out HAL.out _ (HB.out.below hG) HD.out).mono ?_; rintro e w2 ⟨D2, c2, rfl, hD2, hDn2, hic2, hb⟩
      rw [HS.out] at hD2
      have G2 := hG.trans (hb.mono hG.size)
      clear HD hDn hic hb hG
      go_wp2_with fail
      go_roundw
      case rel => exact ⟨i + 1, D2, c2, by omega, (by simp), rfl, Lib.hid hD2, hDn2, hic2, G2⟩
      case measure => simp [intOf]; omega
    · obtain rfl : i = len := by omega
      have HX : Hid (SlO wr D (No.srt (No.lt bs) l)) := Lib.hid (by have h := HD.out; rwa [List.take_of_length_le (by rw [HM.out]; exact Nat.le_refl _)] at h)
      go_wp2_with fail
      go_ret
      exact ⟨D, c, rfl, HX.out, hDn, hic, hG⟩

theorem okN_isN {bs : List Mt.B} {l : List No.Nt} (h : No.Val bs l) : ∀ m ∈ l, No.isN m.st m.al m.oc := fun m hm => (h.2.2.1 m hm).2.1

set_option maxHeartbeats 1600000 in
theorem rsort_is (bs : List Mt.B) (l : List No.Nt) (f : Bool) (blen bcap len cap : Nat) (B A : Option Addr) (h : f = true ↔ No.Val bs l) (hbl : bs.length = blen) (hl : l.length = len) (w : World) (hB : SlB w B bs) (hL : SlO w A l) :
    Calls Tryd.prog 12 #[.slice B blen bcap, .slice A len cap] w fun e w' => Below w.heap.size w w' ∧ ((f = false ∧ e = .returned (.tuple #[.slice none 0 0, .int .i64 1])) ∨ f = true ∧ ∃ D c, e = .returned (.tuple #[.slice D len c, .int .i64 0]) ∧ SlO w' D (No.srt (No.lt bs) l) ∧ (D = none → c = 0) ∧ len ≤ c) := by
  have HF := Lib.hid h
  have HB := Lib.hid hB
  have HL := Lib.hid hL
  have HN := Lib.hid hbl
  have HM := Lib.hid hl
  clear h hbl hl hB hL
  cases f with
  | false =>
    go_enter Tryd.func12, Tryd.ntmps12
    go_wp2_with fail
    refine (rnvalid_is bs l false blen bcap len cap B A HF.out HN.out HM.out _ HB.out HL.out).mono ?_; rintro e w1 ⟨rfl, hb⟩
    go_wp2_with fail
    go_ret2
    exact ⟨hb, .inl ⟨by trivial, rfl⟩⟩
  | true =>
    replace HF : Hid (No.Val bs l) := Lib.hid (HF.out.1 rfl)
    have hm : blen ≤ 4000000 := by have := HF.out.1.2.1; rw [HN.out] at this; omega
    have hlen : len ≤ 1000000 := by have := HF.out.2.1; rw [HM.out] at this; omega
    go_enter Tryd.func12, Tryd.ntmps12
    go_wp2_with fail
    refine (rnvalid_is bs l true blen bcap len cap B A ⟨fun _ => HF.out, fun _ => rfl⟩ HN.out HM.out _ HB.out HL.out).mono ?_; rintro e w1 ⟨rfl, hb⟩
    have B1 := HB.out.below hb
    have L1 := HL.out.below hb
    go_wp2_with fail
    refine (rsorted_is bs l blen bcap len cap B A HN.out HM.out hm hlen (okN_isN HF.out) _ B1 L1).mono ?_; rintro e w2 ⟨D, c, rfl, h1, h2, h3, hb2⟩
    go_wp2_with fail
    go_ret2
    exact ⟨hb.trans (hb2.mono hb.size), .inr ⟨by trivial, D, c, rfl, h1, h2, h3⟩⟩
end Go.Proofs.YthamkigdpgajaaaDoor

/- The walk of the reference's Of. -/
namespace Go.Proofs.YthamkigdpgajaaaDoor
open Go.RowKit

theorem own_yes {bs : List Mt.B} {l : List No.Nt} {i : Nat} {part bar : Int} (h : i < l.length) (h1 : (atO l i).pa = part) (h2 : (atO l i).ba = bar) : No.ins (No.lt bs) (No.own bs (l.take i) part bar) (atO l i) = No.own bs (l.take (i + 1)) part bar := by
  unfold No.own
  rw [List.take_succ_eq_append_getElem h, List.filter_append, ← atO_eq h]
  rw [show [atO l i].filter (fun n => decide (n.pa = part) && decide (n.ba = bar)) = [atO l i] by simp [h1, h2], No.srt_snoc]
theorem own_no {bs : List Mt.B} {l : List No.Nt} {i : Nat} {part bar : Int} (h : i < l.length) (h1 : ¬ ((atO l i).pa = part ∧ (atO l i).ba = bar)) : No.own bs (l.take i) part bar = No.own bs (l.take (i + 1)) part bar := by
  unfold No.own
  rw [List.take_succ_eq_append_getElem h, List.filter_append, ← atO_eq h]
  rw [show [atO l i].filter (fun n => decide (n.pa = part) && decide (n.ba = bar)) = [] by simpa using h1, List.append_nil]
theorem own_le (bs : List Mt.B) (l : List No.Nt) (part bar : Int) : (No.own bs l part bar).length ≤ l.length := by
  unfold No.own
  rw [srt_length]
  exact List.length_filter_le _ _

/-- What Of answers. -/
def OfP (bs : List Mt.B) (l : List No.Nt) (part bar : Int) (e : Ending) (w' : World) : Prop :=
  (¬ (No.Val bs l ∧ (1 ≤ part ∧ part ≤ 1000000) ∧ 1 ≤ bar ∧ bar ≤ 1000000) ∧ e = .returned (.tuple #[.slice none 0 0, .int .i64 1])) ∨
  ((No.Val bs l ∧ (1 ≤ part ∧ part ≤ 1000000) ∧ 1 ≤ bar ∧ bar ≤ 1000000) ∧ No.bix bs bar < 0 ∧ e = .returned (.tuple #[.slice none 0 0, .int .i64 21])) ∨
  ((No.Val bs l ∧ (1 ≤ part ∧ part ≤ 1000000) ∧ 1 ≤ bar ∧ bar ≤ 1000000) ∧ ¬ No.bix bs bar < 0 ∧ ∃ D n c, e = .returned (.tuple #[.slice D n c, .int .i64 0]) ∧ (No.own bs l part bar).length = n ∧ SlO w' D (No.own bs l part bar) ∧ (D = none → c = 0) ∧ n ≤ c)

set_option maxHeartbeats 3200000 in
theorem rof_is (bs : List Mt.B) (l : List No.Nt) (part bar : Int) (blen bcap len cap : Nat) (B A : Option Addr) (hbl : bs.length = blen) (hl : l.length = len) (w : World) (hB : SlB w B bs) (hL : SlO w A l) :
    Calls Tryd.prog 17 #[.slice B blen bcap, .slice A len cap, .int .i64 part, .int .i64 bar] w fun e w' => OfP bs l part bar e w' ∧ Below w.heap.size w w' := by
  have HB := Lib.hid hB
  have HL := Lib.hid hL
  have HN := Lib.hid hbl
  have HM := Lib.hid hl
  clear hbl hl hB hL
  obtain ⟨f, hf⟩ : ∃ f : Bool, f = true ↔ No.Val bs l := by
    by_cases h : No.Val bs l
    · exact ⟨true, by simp [h]⟩
    · exact ⟨false, by simp [h]⟩
  obtain ⟨g2, h2⟩ : ∃ g, decide (1 ≤ part ∧ part ≤ 1000000) = g := ⟨_, rfl⟩
  obtain ⟨g3, h3⟩ : ∃ g, decide (1 ≤ bar ∧ bar ≤ 1000000) = g := ⟨_, rfl⟩
  have HF := Lib.hid hf
  have H2 := Lib.hid h2
  have H3 := Lib.hid h3
  clear hf h2 h3
  cases f with
  | false =>
    go_enter Tryd.func17, Tryd.ntmps17
    go_wp2_with fail
    refine (rnvalid_is bs l false blen bcap len cap B A HF.out HN.out HM.out _ HB.out HL.out).mono ?_; rintro e w1 ⟨rfl, hb⟩
    go_wp2_with fail
    go_ret2
    exact ⟨.inl ⟨fun h => absurd (HF.out.2 h.1) (by decide), rfl⟩, hb⟩
  | true =>
  replace HF : Hid (No.Val bs l) := Lib.hid (HF.out.1 rfl)
  cases g2 with
  | false =>
    go_enter Tryd.func17, Tryd.ntmps17
    go_wp2_with fail
    refine (rnvalid_is bs l true blen bcap len cap B A ⟨fun _ => HF.out, fun _ => rfl⟩ HN.out HM.out _ HB.out HL.out).mono ?_; rintro e w1 ⟨rfl, hb⟩
    go_wp2_with fail
    refine (rin_is part 1 1000000 false H2.out _).mono ?_; rintro e w2 ⟨rfl, hb2⟩
    go_wp2_with fail
    go_ret2
    exact ⟨.inl ⟨fun h => of_decide_eq_false H2.out h.2.1, rfl⟩, hb.trans (hb2.mono hb.size)⟩
  | true =>
  cases g3 with
  | false =>
    go_enter Tryd.func17, Tryd.ntmps17
    go_wp2_with fail
    refine (rnvalid_is bs l true blen bcap len cap B A ⟨fun _ => HF.out, fun _ => rfl⟩ HN.out HM.out _ HB.out HL.out).mono ?_; rintro e w1 ⟨rfl, hb⟩
    go_wp2_with fail
    refine (rin_is part 1 1000000 true H2.out _).mono ?_; rintro e w2 ⟨rfl, hb2⟩
    replace hb2 := hb.trans (hb2.mono hb.size)
    go_wp2_with fail
    refine (rin_is bar 1 1000000 false H3.out _).mono ?_; rintro e w3 ⟨rfl, hb3⟩
    go_wp2_with fail
    go_ret2
    exact ⟨.inl ⟨fun h => of_decide_eq_false H3.out h.2.2, rfl⟩, hb2.trans (hb3.mono hb2.size)⟩
  | true =>
  have HV : Hid (No.Val bs l ∧ (1 ≤ part ∧ part ≤ 1000000) ∧ 1 ≤ bar ∧ bar ≤ 1000000) := Lib.hid ⟨HF.out, of_decide_eq_true H2.out, of_decide_eq_true H3.out⟩
  obtain ⟨r, hr⟩ : ∃ r, No.bix bs bar = r := ⟨_, rfl⟩
  have HR := Lib.hid hr
  clear hr
  have hm : blen ≤ 4000000 := by have := HF.out.1.2.1; rw [HN.out] at this; omega
  have hlen : len ≤ 1000000 := by have := HF.out.2.1; rw [HM.out] at this; omega
  go_enter Tryd.func17, Tryd.ntmps17
  go_wp2_with fail
  refine (rnvalid_is bs l true blen bcap len cap B A ⟨fun _ => HF.out, fun _ => rfl⟩ HN.out HM.out _ HB.out HL.out).mono ?_; rintro e w1 ⟨rfl, hb⟩
  go_wp2_with fail
  refine (rin_is part 1 1000000 true H2.out _).mono ?_; rintro e w2 ⟨rfl, hb2⟩
  replace hb2 := hb.trans (hb2.mono hb.size)
  clear hb
  go_wp2_with fail
  refine (rin_is bar 1 1000000 true H3.out _).mono ?_; rintro e w3 ⟨rfl, hb3⟩
  replace hb3 := hb2.trans (hb3.mono hb2.size)
  clear hb2
  go_wp2_with fail
  refine (rbar_b bs bar r blen bcap B HR.out HN.out hm _ (HB.out.below hb3)).mono ?_; rintro e w4 ⟨rfl, hb4⟩
  replace hb4 := hb3.trans (hb4.mono hb3.size)
  clear hb3
  by_cases hr0 : r < 0
  · go_wp2_with fail
    go_ret2
    exact ⟨.inr (.inl ⟨HV.out, by rw [HR.out]; exact hr0, rfl⟩), hb4⟩
  · go_wp2_with fail
    go_loopw [11, 12] (fun s11 s12 wr => ∃ (i : Nat) (D : Option Addr) (n c : Nat), i ≤ len ∧ s12 = .int .i64 (i : Int) ∧ s11 = .slice D n c ∧ Hid ((No.own bs (l.take i) part bar).length = n ∧ SlO wr D (No.own bs (l.take i) part bar)) ∧ (D = none → c = 0) ∧ n ≤ c ∧ Below w.heap.size w wr) (fun _ s12 _ => len - (intOf s12).toNat)
    case atStart => exact ⟨0, none, 0, 0, Nat.zero_le _, rfl, rfl, Lib.hid ⟨rfl, SlO.nil _ _⟩, fun _ => rfl, Nat.le_refl _, hb4⟩
    case round =>
      clear hb4
      obtain ⟨i, D, n, c, hi, rfl, rfl, HD, hDn, hic, hG⟩ := hrel
      by_cases hlt : i < len
      · have hil : i < l.length := by rw [HM.out]; exact hlt
        obtain ⟨bb, off, rfl, hbb, hc⟩ := HL.out (by omega)
        have HY := Lib.hid (fun (h1 : (atO l i).pa = part) (h2 : (atO l i).ba = bar) => own_yes (bs := bs) hil h1 h2)
        have HO := Lib.hid (own_no (bs := bs) (part := part) (bar := bar) hil)
        obtain ⟨m, hm2⟩ : ∃ m, atO l i = m := ⟨_, rfl⟩
        have X := (hc i hil).below hG hbb
        rw [hm2] at X HY HO
        have HIN : Hid (No.isN m.st m.al m.oc) := Lib.hid (by rw [← hm2]; exact okN_isN HF.out _ (atO_mem hil))
        have HAL : Hid (∀ x ∈ No.own bs (l.take i) part bar, No.isN x.st x.al x.oc) := Lib.hid (fun x hx => okN_isN HF.out x (List.mem_of_mem_take (No.own_mem.1 hx).1))
        have hn6 : n ≤ 1000000 := by have h := own_le bs (l.take i) part bar; rw [HD.out.1, List.length_take] at h; omega
        have hq1 : (i : Int) < (len : Int) := by omega
        obtain ⟨c0, c1, c2, c3, c4, c5, c6, c7, c8, c9, c10, c11⟩ := And.intro X.c0 (And.intro X.c1 (And.intro X.c2 (And.intro X.c3 (And.intro X.c4 (And.intro X.c5 (And.intro X.c6 (And.intro X.c7 (And.intro X.c8 (And.intro X.c9 (And.intro X.c10 X.c11))))))))))
        replace c0 : wr.cell? ⟨bb, off + i * 12, none⟩ = some (.int .i64 m.id) := c0
        clear X hc hm2 hil
        by_cases hpp : m.pa = part
        · by_cases hbp : m.ba = bar
          · subst hpp hbp
            have HS := Lib.hid (HY.out rfl rfl)
            clear HY HO
            go_wp2_with fail
            clear c0 c1 c2 c3 c4 c5 c6 c7 c8 c9 c10 c11
            refine (rput_is bs (No.own bs (l.take i) m.pa m.ba) m blen bcap n c B D HN.out HD.out.1 hm hn6 hic hDn HIN.out HAL.out _ (HB.out.below hG) HD.out.2).mono ?_; rintro e w2 ⟨D2, c2, rfl, hD2, hDn2, hic2, hb2⟩
            have hlen2 : (No.own bs (l.take (i + 1)) m.pa m.ba).length = n + 1 := by
              rw [← HS.out, (No.ins_perm (lt := No.lt bs) _ _).length_eq, List.length_cons, HD.out.1]
            rw [HS.out] at hD2
            have G2 := hG.trans (hb2.mono hG.size)
            have HD2 := Lib.hid (And.intro hlen2 hD2)
            clear HD hDn hic hb2 hG hlen2 hD2
            go_wp2_with fail
            go_roundw
            case rel => exact ⟨i + 1, D2, n + 1, c2, by omega, (by simp), rfl, HD2, hDn2, hic2, G2⟩
            case measure => simp [intOf]; omega
          · have HD2 : Hid ((No.own bs (l.take (i + 1)) part bar).length = n ∧ SlO wr D (No.own bs (l.take (i + 1)) part bar)) := Lib.hid (by rw [← HO.out (fun h => hbp h.2)]; exact HD.out)
            have hbp' : (m.ba == bar) = false := by simpa using hbp
            subst hpp
            clear HY HO hbp
            go_wp2_with fail
            go_roundw
            case rel => exact ⟨i + 1, D, n, c, by omega, (by simp), rfl, HD2, hDn, hic, hG⟩
            case measure => simp [intOf]; omega
        · have HD2 : Hid ((No.own bs (l.take (i + 1)) part bar).length = n ∧ SlO wr D (No.own bs (l.take (i + 1)) part bar)) := Lib.hid (by rw [← HO.out (fun h => hpp h.1)]; exact HD.out)
          have hpp' : (m.pa == part) = false := by simpa using hpp
          clear HY HO hpp
          go_wp2_with fail
          go_roundw
          case rel => exact ⟨i + 1, D, n, c, by omega, (by simp), rfl, HD2, hDn, hic, hG⟩
          case measure => simp [intOf]; omega
      · obtain rfl : i = len := by omega
        have HX : Hid ((No.own bs l part bar).length = n ∧ SlO wr D (No.own bs l part bar)) := Lib.hid (by have h := HD.out; rwa [List.take_of_length_le (by rw [HM.out]; exact Nat.le_refl _)] at h)
        go_wp2_with fail
        go_ret2
        exact ⟨.inr (.inr ⟨HV.out, by rw [HR.out]; omega, D, n, c, rfl, HX.out.1, HX.out.2, hDn, hic⟩), hG⟩
end Go.Proofs.YthamkigdpgajaaaDoor

/- The walk of the reference's Same, of two slices that hold the same notes. -/
namespace Go.Proofs.YthamkigdpgajaaaDoor
open Go.RowKit

set_option maxHeartbeats 1600000 in
theorem rsameo_is (l : List No.Nt) (len cap cap2 : Nat) (A C : Option Addr) (hl : l.length = len) (hmax : len ≤ 1000000) (w : World) (hL : SlO w A l) (hL2 : SlO w C l) :
    Calls Tryd.prog 15 #[.slice A len cap, .slice C len cap2] w fun e w' => e = .returned (.bool true) ∧ Below w.heap.size w w' := by
  have HL := Lib.hid hL
  have HK := Lib.hid hL2
  have HM := Lib.hid hl
  clear hl hL hL2
  go_enter Tryd.func15, Tryd.ntmps15
  go_wp2_with fail
  go_loopw [5] (fun s5 wr => ∃ (i : Nat), i ≤ len ∧ s5 = .int .i64 (i : Int) ∧ Below w.heap.size w wr) (fun s5 _ => len - (intOf s5).toNat)
  case atStart => exact ⟨0, Nat.zero_le _, rfl, Below.refl _ _⟩
  case round =>
    obtain ⟨i, hi, rfl, hX⟩ := hrel
    by_cases hlt : i < len
    · have hil : i < l.length := by rw [HM.out]; exact hlt
      obtain ⟨bb, off, rfl, hbb, hc⟩ := HL.out (by omega)
      obtain ⟨bd, ofd, rfl, hbd, hd⟩ := HK.out (by omega)
      obtain ⟨m, hm⟩ : ∃ m, atO l i = m := ⟨_, rfl⟩
      have X := (hc i hil).below hX hbb
      have Y := (hd i hil).below hX hbd
      rw [hm] at X Y
      have z0 : wr.cell? ⟨bb, off + i * 12, none⟩ = some (.int .i64 m.id) := X.c0
      have z1 : wr.cell? ⟨bd, ofd + i * 12, none⟩ = some (.int .i64 m.id) := Y.c0
      have x0 := fun y : Ext wr => y.cell z0
      have y0 := fun y : Ext wr => y.cell z1
      have x1 := fun y : Ext wr => y.cell X.c1; have x2 := fun y : Ext wr => y.cell X.c2; have x3 := fun y : Ext wr => y.cell X.c3; have x4 := fun y : Ext wr => y.cell X.c4; have x5 := fun y : Ext wr => y.cell X.c5; have x6 := fun y : Ext wr => y.cell X.c6; have x7 := fun y : Ext wr => y.cell X.c7; have x8 := fun y : Ext wr => y.cell X.c8; have x9 := fun y : Ext wr => y.cell X.c9; have x10 := fun y : Ext wr => y.cell X.c10; have x11 := fun y : Ext wr => y.cell X.c11
      have y1 := fun y : Ext wr => y.cell Y.c1; have y2 := fun y : Ext wr => y.cell Y.c2; have y3 := fun y : Ext wr => y.cell Y.c3; have y4 := fun y : Ext wr => y.cell Y.c4; have y5 := fun y : Ext wr => y.cell Y.c5; have y6 := fun y : Ext wr => y.cell Y.c6; have y7 := fun y : Ext wr => y.cell Y.c7; have y8 := fun y : Ext wr => y.cell Y.c8; have y9 := fun y : Ext wr => y.cell Y.c9; have y10 := fun y : Ext wr => y.cell Y.c10; have y11 := fun y : Ext wr => y.cell Y.c11
      have hne := Ext.there wr
      have hq1 : (i : Int) < (len : Int) := by omega
      clear X Y z0 z1 hc hd hm hil
      go_wp2_with fail
      refine Ext.region (by kernel_rfl) (by kernel_rfl) ?_
      repeat (go_big_quiet_step (fail))
      refine wpQuiet_nil ?_
      rintro _ ⟨xw, rfl⟩
      replace hX := hX.trans (xw.h.mono hX.size)
      clear x0 x1 x2 x3 x4 x5 x6 x7 x8 x9 x10 x11 y0 y1 y2 y3 y4 y5 y6 y7 y8 y9 y10 y11 hne
      generalize xw.w = w3 at *
      clear xw
      go_wp2_with fail
      go_roundw
      case rel => exact ⟨i + 1, by omega, (by simp), hX⟩
      case measure => simp [intOf]; omega
    · obtain rfl : i = len := by omega
      go_wp2_with fail
      go_ret
      exact ⟨rfl, hX⟩
end Go.Proofs.YthamkigdpgajaaaDoor

/- A call's own slice of spans (pairs of integers). -/
namespace Go.Proofs.YthamkigdpgajaaaDoor
open Go.RowKit

def rowP (s : No.Sp) : List Value := [.int .i64 s.1, .int .i64 s.2]
def vP (l : List No.Sp) : List Value := l.flatMap rowP
theorem vP_length : ∀ l : List No.Sp, (vP l).length = l.length * 2
  | [] => rfl
  | n :: l => by
    unfold vP
    rw [List.flatMap_cons, List.length_append, show (rowP n).length = 2 from rfl, show (l.flatMap rowP).length = l.length * 2 from vP_length l, List.length_cons]
    omega
theorem vP_app (a b : List No.Sp) : vP (a ++ b) = vP a ++ vP b := List.flatMap_append ..
theorem vP_one (s : No.Sp) : vP [s] = rowP s := by unfold vP; simp
theorem vP_at : ∀ {l : List No.Sp} {k j : Nat}, k < l.length → j < 2 → (vP l)[k * 2 + j]? = (rowP (l[k]?.getD (0, 0)))[j]?
  | [], _, _, h, _ => by simp at h
  | n :: l, 0, j, _, hj => by
    unfold vP
    rw [List.flatMap_cons, Nat.zero_mul, Nat.zero_add, List.getElem?_append_left (by exact hj)]
    rfl
  | n :: l, k + 1, j, hk, hj => by
    have := vP_at (l := l) (k := k) (j := j) (by simpa using hk) hj
    unfold vP at this ⊢
    rw [List.flatMap_cons, List.getElem?_append_right (by show 2 ≤ _; omega), show (rowP n).length = 2 from rfl, show (k + 1) * 2 + j - 2 = k * 2 + j by omega, this]
    rw [List.getElem?_cons_succ]
theorem vP_cells (l : List No.Sp) : ∀ u ∈ vP l, u.oneCell' = true := fun u hu => by
  obtain ⟨n, _, hn⟩ := List.mem_flatMap.1 hu
  unfold rowP at hn
  simp only [List.mem_cons, List.not_mem_nil, or_false] at hn
  rcases hn with rfl | rfl <;> rfl
/-- At this address lie these spans (nothing is said where there are none). -/
def SlP (w : World) (A : Option Addr) (l : List No.Sp) : Prop :=
  0 < l.length → ∃ b off, A = some ⟨b, off, none⟩ ∧ b < w.heap.size ∧ ∀ k, k < l.length → w.cell? ⟨b, off + k * 2, none⟩ = some (.int .i64 (l[k]?.getD (0, 0)).1) ∧ w.cell? ⟨b, off + k * 2 + 1, none⟩ = some (.int .i64 (l[k]?.getD (0, 0)).2)
theorem SlP.below {w w' : World} {A : Option Addr} {l : List No.Sp} (h : SlP w A l) (hb : Below w.heap.size w w') : SlP w' A l := fun h0 => by
  obtain ⟨b, off, e, hlt, hc⟩ := h h0
  refine ⟨b, off, e, Nat.lt_of_lt_of_le hlt hb.size, fun k hk => ?_⟩
  obtain ⟨c0, c1⟩ := hc k hk
  exact ⟨(hb.cell (p := ⟨b, off + k * 2, none⟩) hlt).trans c0, (hb.cell (p := ⟨b, off + k * 2 + 1, none⟩) hlt).trans c1⟩
theorem SlP.nil (w : World) (A : Option Addr) : SlP w A [] := fun h => by simp at h
/-- What a call's own slice holds. -/
theorem own_p {w : World} {base : Nat} {e : TypeId} {v : Value} {n : Nat} {l : List No.Sp} (h : w.ownsRow base e 2 v n (vP l)) : l.length = n ∧ ∃ A cap, v = .slice A n cap ∧ SlP w A l ∧ (A = none → cap = 0) := by
  have hl : l.length = n := by have := h.1; rw [vP_length] at this; omega
  refine ⟨hl, ?_⟩
  rcases h.2 with ⟨hv, hn⟩ | ⟨b, cap, cur, hv, hb, hg, _⟩
  · subst hn
    exact ⟨none, 0, hv, fun h0 => by omega, fun _ => rfl⟩
  · refine ⟨some ⟨b, 0, none⟩, cap, hv, fun h0 => ⟨b, 0, rfl, (Array.getElem?_eq_some_iff.1 hg).1, fun k hk => ?_⟩, fun h => by cases h⟩
    have c0 := h.cells (g := b) (by rw [hv]; rfl) (k * 2 + 0) _ (by rw [vP_at hk (by decide)]; rfl)
    have c1 := h.cells (g := b) (by rw [hv]; rfl) (k * 2 + 1) _ (by rw [vP_at hk (by decide)]; rfl)
    rw [baddr_off] at c0 c1
    rw [Nat.zero_add]
    rw [Nat.zero_add] at c0 c1
    exact ⟨c0, c1⟩
end Go.Proofs.YthamkigdpgajaaaDoor

/- Pairs of integers, compared. -/
namespace Go.Proofs.YthamkigdpgajaaaDoor
open Go.RowKit

theorem infoInt2 : (Tryd.prog.info? 3).map (fun i => (i.zero, i.size, i.bytes)) = some (some (.int .i64 0), 1, 8) := by kernel_rfl
set_option maxRecDepth 100000 in
theorem eq2 (a b c d : Int) (f : Bool) (h : decide (a = c ∧ b = d) = f) (w : World) : (Go.Op.equalIn 10000 74 (.agg #[.int .i64 a, .int .i64 b]) (.agg #[.int .i64 c, .int .i64 d])).run Tryd.prog w = .ok f w := by
  obtain ⟨i, hi, _, hz, _⟩ := info_parts infoInt2
  have p1 : (part 3 #[.int .i64 a, .int .i64 b] (0 * 1)).run Tryd.prog w = .ok (.int .i64 a) w := run_part_plain w (by kernel_rfl) rfl
  have p2 : (part 3 #[.int .i64 c, .int .i64 d] (0 * 1)).run Tryd.prog w = .ok (.int .i64 c) w := run_part_plain w (by kernel_rfl) rfl
  have p3 : (part 3 #[.int .i64 a, .int .i64 b] (1 * 1)).run Tryd.prog w = .ok (.int .i64 b) w := run_part_plain w (by kernel_rfl) rfl
  have p4 : (part 3 #[.int .i64 c, .int .i64 d] (1 * 1)).run Tryd.prog w = .ok (.int .i64 d) w := run_part_plain w (by kernel_rfl) rfl
  have q1 := run_equalIn_int w 9998 3 .i64 .i64 a c Tryd.underlying3
  have q2 := run_equalIn_int w 9998 3 .i64 .i64 b d Tryd.underlying3
  have z : (Go.Op.eqItems 9999 3 1 #[.int .i64 a, .int .i64 b] #[.int .i64 c, .int .i64 d] []).run Tryd.prog w = .ok true w := by simp [Go.Op.eqItems]
  have s1 : ∀ is r, (Go.Op.eqItems 9999 3 1 #[.int .i64 a, .int .i64 b] #[.int .i64 c, .int .i64 d] is).run Tryd.prog w = .ok r w → (Go.Op.eqItems 9999 3 1 #[.int .i64 a, .int .i64 b] #[.int .i64 c, .int .i64 d] (1 :: is)).run Tryd.prog w = .ok (b == d && r) w := fun is r hr => by
    simp only [Go.Op.eqItems, Sem.run_bind, p3, p4, q2, Result.andThen_ok]
    cases (b == d) <;> simp [hr]
  have s0 : ∀ is r, (Go.Op.eqItems 9999 3 1 #[.int .i64 a, .int .i64 b] #[.int .i64 c, .int .i64 d] is).run Tryd.prog w = .ok r w → (Go.Op.eqItems 9999 3 1 #[.int .i64 a, .int .i64 b] #[.int .i64 c, .int .i64 d] (0 :: is)).run Tryd.prog w = .ok (a == c && r) w := fun is r hr => by
    simp only [Go.Op.eqItems, Sem.run_bind, p1, p2, q1, Result.andThen_ok]
    cases (a == c) <;> simp [hr]
  rw [run_equalIn_array w 9999 _ _ Tryd.underlying74 hi, show Tryd.prog.cellsOf 3 = 1 by kernel_rfl, show List.range 2 = [0, 1] from rfl, s0 _ _ (s1 _ _ z), ← h]
  congr 1
  rw [Bool.eq_iff_iff]
  simp
end Go.Proofs.YthamkigdpgajaaaDoor
