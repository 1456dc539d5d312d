import Derived.Test.YthamkigdpgajaaaDoorUc
/- NotesMatchesReference, call by call. -/
namespace Go.Proofs.YthamkigdpgajaaaDoor
open Go.RowKit

set_option maxRecDepth 100000 in
set_option maxHeartbeats 1600000 in
theorem notesMatchesReference_walk (Bb : Option Addr) (blen bcap : Nat) (bs : List Mt.B) (hbl : bs.length = blen) (hwb : Mt.Wf bs) (A : Option Addr) (len cap : Nat) (l : List No.Nt) (hl : l.length = len) (_hc : len ≤ cap) (_hA : A = none → cap = 0) (hwn : No.Wf l) (part bar : Int) (w : World) (hG : Glob w) (hB : SlB w Bb bs) (hL : SlO w A l) :
    Calls Tryd.prog 3 #[.slice Bb blen bcap, .slice A len cap, .int .i64 part, .int .i64 bar] w fun e w' => e = .returned (.bool true) ∧ Below w.heap.size w w' := by
  have HN := Lib.hid hbl
  have HM := Lib.hid hl
  have HWB := Lib.hid hwb
  have HWN := Lib.hid hwn
  clear hwb hwn
  by_cases h60 : blen ≤ 60 ∧ len ≤ 60
  case neg =>
    have HF := Lib.hid (decide_eq_false h60)
    clear h60 hbl hl hB hL
    go_enter Tryd.func3, Tryd.ntmps3
    go_wp2_with fail
    have B := Below.refl w.heap.size w
    refine (head_any _ hG).mono ?_; rintro e w1 ⟨rfl, hb⟩
    replace hG := hG.below hb
    replace B := B.trans (hb.mono (by have := B.size; simp <;> omega))
    clear hb
    go_wp2_with fail
    refine (lfew_is blen len _ _ _ _ false HF.out _).mono ?_; rintro e w2 ⟨rfl, hb⟩
    replace hG := hG.below hb
    replace B := B.trans (hb.mono (by have := B.size; simp <;> omega))
    clear hb
    go_wp2_with fail
    go_ret
    exact ⟨rfl, B⟩
  have HF := Lib.hid (decide_eq_true h60)
  by_cases hv : No.Val bs l
  case neg =>
    have HV := Lib.hid hv
    have HC : Hid (¬ (No.Val bs l ∧ (1 ≤ part ∧ part ≤ 1000000) ∧ 1 ≤ bar ∧ bar ≤ 1000000)) := Lib.hid (fun h => hv h.1)
    clear hv hbl hl
    go_enter Tryd.func3, Tryd.ntmps3
    go_wp2_with fail
    have B := Below.refl w.heap.size w
    refine (head_any _ hG).mono ?_; rintro e w1 ⟨rfl, hb⟩
    replace hB := hB.below hb
    replace hL := hL.below hb
    replace hG := hG.below hb
    replace B := B.trans (hb.mono (by have := B.size; simp <;> omega))
    clear hb
    go_wp2_with fail
    refine (lfew_is blen len _ _ _ _ true HF.out _).mono ?_; rintro e w2 ⟨rfl, hb⟩
    replace hB := hB.below hb
    replace hL := hL.below hb
    replace hG := hG.below hb
    replace B := B.trans (hb.mono (by have := B.size; simp <;> omega))
    clear hb
    go_wp2_with fail
    refine (tnsort_is bs l false _ _ _ _ _ _ ⟨(fun h => by cases h), fun h => absurd h HV.out⟩ HN.out HM.out HWB.out HWN.out _ hB hL hG).mono ?_; rintro e w3 ⟨hb, h⟩
    replace hB := hB.below hb
    replace hL := hL.below hb
    replace hG := hG.below hb
    replace B := B.trans (hb.mono (by have := B.size; simp <;> omega))
    clear hb
    obtain ⟨-, rfl⟩ := h.resolve_right (by rintro ⟨h, _⟩; cases h)
    clear h
    go_wp2_with fail
    refine (rsort_is bs l false _ _ _ _ _ _ ⟨(fun h => by cases h), fun h => absurd h HV.out⟩ HN.out HM.out _ hB hL).mono ?_; rintro e w4 ⟨hb, h⟩
    replace hB := hB.below hb
    replace hL := hL.below hb
    replace hG := hG.below hb
    replace B := B.trans (hb.mono (by have := B.size; simp <;> omega))
    clear hb
    obtain ⟨-, rfl⟩ := h.resolve_right (by rintro ⟨h, _⟩; cases h)
    clear h
    go_wp2_with fail
    refine (tvalid_is bs l false _ _ _ _ _ _ ⟨(fun h => by cases h), fun h => absurd h HV.out⟩ HN.out HM.out HWB.out HWN.out _ hB hL).mono ?_; rintro e w5 ⟨rfl, hb⟩
    replace hB := hB.below hb
    replace hL := hL.below hb
    replace hG := hG.below hb
    replace B := B.trans (hb.mono (by have := B.size; simp <;> omega))
    clear hb
    go_wp2_with fail
    refine (rnvalid_is bs l false _ _ _ _ _ _ ⟨(fun h => by cases h), fun h => absurd h HV.out⟩ HN.out HM.out _ hB hL).mono ?_; rintro e w6 ⟨rfl, hb⟩
    replace hB := hB.below hb
    replace hL := hL.below hb
    replace hG := hG.below hb
    replace B := B.trans (hb.mono (by have := B.size; simp <;> omega))
    clear hb
    go_wp2_with fail
    refine (rsameo_is [] 0 _ _ _ _ rfl (by omega) _ (SlO.nil _ _) (SlO.nil _ _)).mono ?_; rintro e w7 ⟨rfl, hb⟩
    replace hB := hB.below hb
    replace hL := hL.below hb
    replace hG := hG.below hb
    replace B := B.trans (hb.mono (by have := B.size; simp <;> omega))
    clear hb
    go_wp2_with fail
    refine (tof_is bs l part bar _ _ _ _ _ _ HN.out HM.out HWB.out HWN.out _ hB hL hG).mono ?_; rintro e w8 ⟨hP, hb⟩
    replace hB := hB.below hb
    replace hL := hL.below hb
    replace hG := hG.below hb
    replace B := B.trans (hb.mono (by have := B.size; simp <;> omega))
    clear hb
    rcases hP with ⟨_, rfl⟩ | ⟨h, _⟩ | ⟨h, _⟩
    rotate_left
    · exact absurd h HC.out
    · exact absurd h HC.out
    go_wp2_with fail
    refine (rof_is bs l part bar _ _ _ _ _ _ HN.out HM.out _ hB hL).mono ?_; rintro e w9 ⟨hP, hb⟩
    replace hB := hB.below hb
    replace hL := hL.below hb
    replace hG := hG.below hb
    replace B := B.trans (hb.mono (by have := B.size; simp <;> omega))
    clear hb
    rcases hP with ⟨_, rfl⟩ | ⟨h, _⟩ | ⟨h, _⟩
    rotate_left
    · exact absurd h HC.out
    · exact absurd h HC.out
    go_wp2_with fail
    refine (rsameo_is [] 0 _ _ _ _ rfl (by omega) _ (SlO.nil _ _) (SlO.nil _ _)).mono ?_; rintro e w10 ⟨rfl, hb⟩
    replace hB := hB.below hb
    replace hL := hL.below hb
    replace hG := hG.below hb
    replace B := B.trans (hb.mono (by have := B.size; simp <;> omega))
    clear hb
    go_wp2_with fail
    refine (tbusy_is bs l part bar _ _ _ _ _ _ HN.out HM.out HWB.out HWN.out _ hB hL hG).mono ?_; rintro e w11 ⟨hP, hb⟩
    replace hB := hB.below hb
    replace hL := hL.below hb
    replace hG := hG.below hb
    replace B := B.trans (hb.mono (by have := B.size; simp <;> omega))
    clear hb
    rcases hP with ⟨_, rfl⟩ | ⟨h, _⟩ | ⟨h, _⟩
    rotate_left
    · exact absurd h HC.out
    · exact absurd h HC.out
    go_wp2_with fail
    refine (rbusy_is bs l part bar _ _ _ _ _ _ HN.out HM.out _ hB hL).mono ?_; rintro e w12 ⟨hP, hb⟩
    replace hB := hB.below hb
    replace hL := hL.below hb
    replace hG := hG.below hb
    replace B := B.trans (hb.mono (by have := B.size; simp <;> omega))
    clear hb
    obtain ⟨E2, m2, cE2, err, rfl, hP⟩ := hP
    rcases hP with ⟨_, rfl, rfl⟩ | ⟨h, _⟩ | ⟨h, _⟩
    rotate_left
    · exact absurd h HC.out
    · exact absurd h HC.out
    go_wp2_with fail
    refine (rsames_is [] [] 0 0 _ _ _ _ rfl rfl (by omega) (by omega) (fun s hs => by cases hs) (fun s hs => by cases hs) true (decide_eq_true rfl) _ (SlR.nil _ _) (SlR.nil _ _)).mono ?_; rintro e w13 ⟨rfl, hb⟩
    replace hB := hB.below hb
    replace hL := hL.below hb
    replace hG := hG.below hb
    replace B := B.trans (hb.mono (by have := B.size; simp <;> omega))
    clear hb
    go_wp2_with fail
    refine (trests_is bs l part bar _ _ _ _ _ _ HN.out HM.out HWB.out HWN.out _ hB hL hG).mono ?_; rintro e w14 ⟨hP, hb⟩
    replace hB := hB.below hb
    replace hL := hL.below hb
    replace hG := hG.below hb
    replace B := B.trans (hb.mono (by have := B.size; simp <;> omega))
    clear hb
    rcases hP with ⟨_, rfl⟩ | ⟨h, _⟩ | ⟨h, _⟩
    rotate_left
    · exact absurd h HC.out
    · exact absurd h HC.out
    go_wp2_with fail
    refine (rrests_is bs l part bar _ _ _ _ _ _ HN.out HM.out _ hB hL).mono ?_; rintro e w15 ⟨hP, hb⟩
    replace hB := hB.below hb
    replace hL := hL.below hb
    replace hG := hG.below hb
    replace B := B.trans (hb.mono (by have := B.size; simp <;> omega))
    clear hb
    obtain ⟨E2, m2, cE2, err, rfl, hP⟩ := hP
    rcases hP with ⟨_, rfl, rfl⟩ | ⟨h, _⟩ | ⟨h, _⟩
    rotate_left
    · exact absurd h HC.out
    · exact absurd h HC.out
    go_wp2_with fail
    refine (rsames_is [] [] 0 0 _ _ _ _ rfl rfl (by omega) (by omega) (fun s hs => by cases hs) (fun s hs => by cases hs) true (decide_eq_true rfl) _ (SlR.nil _ _) (SlR.nil _ _)).mono ?_; rintro e w16 ⟨rfl, hb⟩
    replace hB := hB.below hb
    replace hL := hL.below hb
    replace hG := hG.below hb
    replace B := B.trans (hb.mono (by have := B.size; simp <;> omega))
    clear hb
    go_wp2_with fail
    go_ret
    exact ⟨rfl, B⟩
  have HV := Lib.hid hv
  have HSL : Hid ((No.srt (No.lt bs) l).length = len) := Lib.hid (by rw [(No.srt_perm l).length_eq]; exact hl)
  by_cases hc : (1 ≤ part ∧ part ≤ 1000000) ∧ 1 ≤ bar ∧ bar ≤ 1000000
  case neg =>
    have HC : Hid (¬ (No.Val bs l ∧ (1 ≤ part ∧ part ≤ 1000000) ∧ 1 ≤ bar ∧ bar ≤ 1000000)) := Lib.hid (fun h => hc h.2)
    clear hv hc hbl hl
    go_enter Tryd.func3, Tryd.ntmps3
    go_wp2_with fail
    have B := Below.refl w.heap.size w
    refine (head_any _ hG).mono ?_; rintro e w1 ⟨rfl, hb⟩
    replace hB := hB.below hb
    replace hL := hL.below hb
    replace hG := hG.below hb
    replace B := B.trans (hb.mono (by have := B.size; simp <;> omega))
    clear hb
    go_wp2_with fail
    refine (lfew_is blen len _ _ _ _ true HF.out _).mono ?_; rintro e w2 ⟨rfl, hb⟩
    replace hB := hB.below hb
    replace hL := hL.below hb
    replace hG := hG.below hb
    replace B := B.trans (hb.mono (by have := B.size; simp <;> omega))
    clear hb
    go_wp2_with fail
    refine (tnsort_is bs l true _ _ _ _ _ _ ⟨fun _ => HV.out, fun _ => rfl⟩ HN.out HM.out HWB.out HWN.out _ hB hL hG).mono ?_; rintro e w3 ⟨hb, h⟩
    replace hB := hB.below hb
    replace hL := hL.below hb
    replace hG := hG.below hb
    replace B := B.trans (hb.mono (by have := B.size; simp <;> omega))
    clear hb
    obtain ⟨-, D1, c1, rfl, S1, -, -⟩ := h.resolve_left (by rintro ⟨h, _⟩; cases h)
    clear h
    go_wp2_with fail
    refine (rsort_is bs l true _ _ _ _ _ _ ⟨fun _ => HV.out, fun _ => rfl⟩ HN.out HM.out _ hB hL).mono ?_; rintro e w4 ⟨hb, h⟩
    replace hB := hB.below hb
    replace hL := hL.below hb
    replace S1 := S1.below hb
    replace hG := hG.below hb
    replace B := B.trans (hb.mono (by have := B.size; simp <;> omega))
    clear hb
    obtain ⟨D2, c2, rfl, S2⟩ : ∃ D2 c2, _ = Ending.returned (.tuple #[.slice D2 len c2, .int .i64 0]) ∧ SlO _ D2 (No.srt (No.lt bs) l) := by
      obtain ⟨-, D2, c2, e2, S2, _⟩ := h.resolve_left (by rintro ⟨h, _⟩; cases h)
      exact ⟨D2, c2, e2, S2⟩
    clear h
    go_wp2_with fail
    refine (tvalid_is bs l true _ _ _ _ _ _ ⟨fun _ => HV.out, fun _ => rfl⟩ HN.out HM.out HWB.out HWN.out _ hB hL).mono ?_; rintro e w5 ⟨rfl, hb⟩
    replace hB := hB.below hb
    replace hL := hL.below hb
    replace S1 := S1.below hb
    replace S2 := S2.below hb
    replace hG := hG.below hb
    replace B := B.trans (hb.mono (by have := B.size; simp <;> omega))
    clear hb
    go_wp2_with fail
    refine (rnvalid_is bs l true _ _ _ _ _ _ ⟨fun _ => HV.out, fun _ => rfl⟩ HN.out HM.out _ hB hL).mono ?_; rintro e w6 ⟨rfl, hb⟩
    replace hB := hB.below hb
    replace hL := hL.below hb
    replace S1 := S1.below hb
    replace S2 := S2.below hb
    replace hG := hG.below hb
    replace B := B.trans (hb.mono (by have := B.size; simp <;> omega))
    clear hb
    go_wp2_with fail
    refine (rsameo_is _ _ _ _ _ _ HSL.out (by omega) _ S1 S2).mono ?_; rintro e w7 ⟨rfl, hb⟩
    replace hB := hB.below hb
    replace hL := hL.below hb
    replace S1 := S1.below hb
    replace S2 := S2.below hb
    replace hG := hG.below hb
    replace B := B.trans (hb.mono (by have := B.size; simp <;> omega))
    clear hb
    clear S1 S2
    go_wp2_with fail
    refine (tof_is bs l part bar _ _ _ _ _ _ HN.out HM.out HWB.out HWN.out _ hB hL hG).mono ?_; rintro e w8 ⟨hP, hb⟩
    replace hB := hB.below hb
    replace hL := hL.below hb
    replace hG := hG.below hb
    replace B := B.trans (hb.mono (by have := B.size; simp <;> omega))
    clear hb
    rcases hP with ⟨_, rfl⟩ | ⟨h, _⟩ | ⟨h, _⟩
    rotate_left
    · exact absurd h HC.out
    · exact absurd h HC.out
    go_wp2_with fail
    refine (rof_is bs l part bar _ _ _ _ _ _ HN.out HM.out _ hB hL).mono ?_; rintro e w9 ⟨hP, hb⟩
    replace hB := hB.below hb
    replace hL := hL.below hb
    replace hG := hG.below hb
    replace B := B.trans (hb.mono (by have := B.size; simp <;> omega))
    clear hb
    rcases hP with ⟨_, rfl⟩ | ⟨h, _⟩ | ⟨h, _⟩
    rotate_left
    · exact absurd h HC.out
    · exact absurd h HC.out
    go_wp2_with fail
    refine (rsameo_is [] 0 _ _ _ _ rfl (by omega) _ (SlO.nil _ _) (SlO.nil _ _)).mono ?_; rintro e w10 ⟨rfl, hb⟩
    replace hB := hB.below hb
    replace hL := hL.below hb
    replace hG := hG.below hb
    replace B := B.trans (hb.mono (by have := B.size; simp <;> omega))
    clear hb
    go_wp2_with fail
    refine (tbusy_is bs l part bar _ _ _ _ _ _ HN.out HM.out HWB.out HWN.out _ hB hL hG).mono ?_; rintro e w11 ⟨hP, hb⟩
    replace hB := hB.below hb
    replace hL := hL.below hb
    replace hG := hG.below hb
    replace B := B.trans (hb.mono (by have := B.size; simp <;> omega))
    clear hb
    rcases hP with ⟨_, rfl⟩ | ⟨h, _⟩ | ⟨h, _⟩
    rotate_left
    · exact absurd h HC.out
    · exact absurd h HC.out
    go_wp2_with fail
    refine (rbusy_is bs l part bar _ _ _ _ _ _ HN.out HM.out _ hB hL).mono ?_; rintro e w12 ⟨hP, hb⟩
    replace hB := hB.below hb
    replace hL := hL.below hb
    replace hG := hG.below hb
    replace B := B.trans (hb.mono (by have := B.size; simp <;> omega))
    clear hb
    obtain ⟨E2, m2, cE2, err, rfl, hP⟩ := hP
    rcases hP with ⟨_, rfl, rfl⟩ | ⟨h, _⟩ | ⟨h, _⟩
    rotate_left
    · exact absurd h HC.out
    · exact absurd h HC.out
    go_wp2_with fail
    refine (rsames_is [] [] 0 0 _ _ _ _ rfl rfl (by omega) (by omega) (fun s hs => by cases hs) (fun s hs => by cases hs) true (decide_eq_true rfl) _ (SlR.nil _ _) (SlR.nil _ _)).mono ?_; rintro e w13 ⟨rfl, hb⟩
    replace hB := hB.below hb
    replace hL := hL.below hb
    replace hG := hG.below hb
    replace B := B.trans (hb.mono (by have := B.size; simp <;> omega))
    clear hb
    go_wp2_with fail
    refine (trests_is bs l part bar _ _ _ _ _ _ HN.out HM.out HWB.out HWN.out _ hB hL hG).mono ?_; rintro e w14 ⟨hP, hb⟩
    replace hB := hB.below hb
    replace hL := hL.below hb
    replace hG := hG.below hb
    replace B := B.trans (hb.mono (by have := B.size; simp <;> omega))
    clear hb
    rcases hP with ⟨_, rfl⟩ | ⟨h, _⟩ | ⟨h, _⟩
    rotate_left
    · exact absurd h HC.out
    · exact absurd h HC.out
    go_wp2_with fail
    refine (rrests_is bs l part bar _ _ _ _ _ _ HN.out HM.out _ hB hL).mono ?_; rintro e w15 ⟨hP, hb⟩
    replace hB := hB.below hb
    replace hL := hL.below hb
    replace hG := hG.below hb
    replace B := B.trans (hb.mono (by have := B.size; simp <;> omega))
    clear hb
    obtain ⟨E2, m2, cE2, err, rfl, hP⟩ := hP
    rcases hP with ⟨_, rfl, rfl⟩ | ⟨h, _⟩ | ⟨h, _⟩
    rotate_left
    · exact absurd h HC.out
    · exact absurd h HC.out
    go_wp2_with fail
    refine (rsames_is [] [] 0 0 _ _ _ _ rfl rfl (by omega) (by omega) (fun s hs => by cases hs) (fun s hs => by cases hs) true (decide_eq_true rfl) _ (SlR.nil _ _) (SlR.nil _ _)).mono ?_; rintro e w16 ⟨rfl, hb⟩
    replace hB := hB.below hb
    replace hL := hL.below hb
    replace hG := hG.below hb
    replace B := B.trans (hb.mono (by have := B.size; simp <;> omega))
    clear hb
    go_wp2_with fail
    go_ret
    exact ⟨rfl, B⟩
  have HC : Hid (No.Val bs l ∧ (1 ≤ part ∧ part ≤ 1000000) ∧ 1 ≤ bar ∧ bar ≤ 1000000) := Lib.hid ⟨hv, hc⟩
  by_cases hx : No.bix bs bar < 0
  case pos =>
    have HX := Lib.hid hx
    clear hv hc hx hbl hl
    go_enter Tryd.func3, Tryd.ntmps3
    go_wp2_with fail
    have B := Below.refl w.heap.size w
    refine (head_any _ hG).mono ?_; rintro e w1 ⟨rfl, hb⟩
    replace hB := hB.below hb
    replace hL := hL.below hb
    replace hG := hG.below hb
    replace B := B.trans (hb.mono (by have := B.size; simp <;> omega))
    clear hb
    go_wp2_with fail
    refine (lfew_is blen len _ _ _ _ true HF.out _).mono ?_; rintro e w2 ⟨rfl, hb⟩
    replace hB := hB.below hb
    replace hL := hL.below hb
    replace hG := hG.below hb
    replace B := B.trans (hb.mono (by have := B.size; simp <;> omega))
    clear hb
    go_wp2_with fail
    refine (tnsort_is bs l true _ _ _ _ _ _ ⟨fun _ => HV.out, fun _ => rfl⟩ HN.out HM.out HWB.out HWN.out _ hB hL hG).mono ?_; rintro e w3 ⟨hb, h⟩
    replace hB := hB.below hb
    replace hL := hL.below hb
    replace hG := hG.below hb
    replace B := B.trans (hb.mono (by have := B.size; simp <;> omega))
    clear hb
    obtain ⟨-, D1, c1, rfl, S1, -, -⟩ := h.resolve_left (by rintro ⟨h, _⟩; cases h)
    clear h
    go_wp2_with fail
    refine (rsort_is bs l true _ _ _ _ _ _ ⟨fun _ => HV.out, fun _ => rfl⟩ HN.out HM.out _ hB hL).mono ?_; rintro e w4 ⟨hb, h⟩
    replace hB := hB.below hb
    replace hL := hL.below hb
    replace S1 := S1.below hb
    replace hG := hG.below hb
    replace B := B.trans (hb.mono (by have := B.size; simp <;> omega))
    clear hb
    obtain ⟨D2, c2, rfl, S2⟩ : ∃ D2 c2, _ = Ending.returned (.tuple #[.slice D2 len c2, .int .i64 0]) ∧ SlO _ D2 (No.srt (No.lt bs) l) := by
      obtain ⟨-, D2, c2, e2, S2, _⟩ := h.resolve_left (by rintro ⟨h, _⟩; cases h)
      exact ⟨D2, c2, e2, S2⟩
    clear h
    go_wp2_with fail
    refine (tvalid_is bs l true _ _ _ _ _ _ ⟨fun _ => HV.out, fun _ => rfl⟩ HN.out HM.out HWB.out HWN.out _ hB hL).mono ?_; rintro e w5 ⟨rfl, hb⟩
    replace hB := hB.below hb
    replace hL := hL.below hb
    replace S1 := S1.below hb
    replace S2 := S2.below hb
    replace hG := hG.below hb
    replace B := B.trans (hb.mono (by have := B.size; simp <;> omega))
    clear hb
    go_wp2_with fail
    refine (rnvalid_is bs l true _ _ _ _ _ _ ⟨fun _ => HV.out, fun _ => rfl⟩ HN.out HM.out _ hB hL).mono ?_; rintro e w6 ⟨rfl, hb⟩
    replace hB := hB.below hb
    replace hL := hL.below hb
    replace S1 := S1.below hb
    replace S2 := S2.below hb
    replace hG := hG.below hb
    replace B := B.trans (hb.mono (by have := B.size; simp <;> omega))
    clear hb
    go_wp2_with fail
    refine (rsameo_is _ _ _ _ _ _ HSL.out (by omega) _ S1 S2).mono ?_; rintro e w7 ⟨rfl, hb⟩
    replace hB := hB.below hb
    replace hL := hL.below hb
    replace S1 := S1.below hb
    replace S2 := S2.below hb
    replace hG := hG.below hb
    replace B := B.trans (hb.mono (by have := B.size; simp <;> omega))
    clear hb
    clear S1 S2
    go_wp2_with fail
    refine (tof_is bs l part bar _ _ _ _ _ _ HN.out HM.out HWB.out HWN.out _ hB hL hG).mono ?_; rintro e w8 ⟨hP, hb⟩
    replace hB := hB.below hb
    replace hL := hL.below hb
    replace hG := hG.below hb
    replace B := B.trans (hb.mono (by have := B.size; simp <;> omega))
    clear hb
    rcases hP with ⟨h, _⟩ | ⟨_, _, rfl⟩ | ⟨_, h, _⟩
    · exact absurd HC.out h
    rotate_left
    · exact absurd HX.out h
    go_wp2_with fail
    refine (rof_is bs l part bar _ _ _ _ _ _ HN.out HM.out _ hB hL).mono ?_; rintro e w9 ⟨hP, hb⟩
    replace hB := hB.below hb
    replace hL := hL.below hb
    replace hG := hG.below hb
    replace B := B.trans (hb.mono (by have := B.size; simp <;> omega))
    clear hb
    rcases hP with ⟨h, _⟩ | ⟨_, _, rfl⟩ | ⟨_, h, _⟩
    · exact absurd HC.out h
    rotate_left
    · exact absurd HX.out h
    go_wp2_with fail
    refine (rsameo_is [] 0 _ _ _ _ rfl (by omega) _ (SlO.nil _ _) (SlO.nil _ _)).mono ?_; rintro e w10 ⟨rfl, hb⟩
    replace hB := hB.below hb
    replace hL := hL.below hb
    replace hG := hG.below hb
    replace B := B.trans (hb.mono (by have := B.size; simp <;> omega))
    clear hb
    go_wp2_with fail
    refine (tbusy_is bs l part bar _ _ _ _ _ _ HN.out HM.out HWB.out HWN.out _ hB hL hG).mono ?_; rintro e w11 ⟨hP, hb⟩
    replace hB := hB.below hb
    replace hL := hL.below hb
    replace hG := hG.below hb
    replace B := B.trans (hb.mono (by have := B.size; simp <;> omega))
    clear hb
    rcases hP with ⟨h, _⟩ | ⟨_, _, rfl⟩ | ⟨_, h, _⟩
    · exact absurd HC.out h
    rotate_left
    · exact absurd HX.out h
    go_wp2_with fail
    refine (rbusy_is bs l part bar _ _ _ _ _ _ HN.out HM.out _ hB hL).mono ?_; rintro e w12 ⟨hP, hb⟩
    replace hB := hB.below hb
    replace hL := hL.below hb
    replace hG := hG.below hb
    replace B := B.trans (hb.mono (by have := B.size; simp <;> omega))
    clear hb
    obtain ⟨E2, m2, cE2, err, rfl, hP⟩ := hP
    rcases hP with ⟨h, _⟩ | ⟨_, _, rfl, rfl⟩ | ⟨_, h, _⟩
    · exact absurd HC.out h
    rotate_left
    · exact absurd HX.out h
    go_wp2_with fail
    refine (rsames_is [] [] 0 0 _ _ _ _ rfl rfl (by omega) (by omega) (fun s hs => by cases hs) (fun s hs => by cases hs) true (decide_eq_true rfl) _ (SlR.nil _ _) (SlR.nil _ _)).mono ?_; rintro e w13 ⟨rfl, hb⟩
    replace hB := hB.below hb
    replace hL := hL.below hb
    replace hG := hG.below hb
    replace B := B.trans (hb.mono (by have := B.size; simp <;> omega))
    clear hb
    go_wp2_with fail
    refine (trests_is bs l part bar _ _ _ _ _ _ HN.out HM.out HWB.out HWN.out _ hB hL hG).mono ?_; rintro e w14 ⟨hP, hb⟩
    replace hB := hB.below hb
    replace hL := hL.below hb
    replace hG := hG.below hb
    replace B := B.trans (hb.mono (by have := B.size; simp <;> omega))
    clear hb
    rcases hP with ⟨h, _⟩ | ⟨_, _, rfl⟩ | ⟨_, h, _⟩
    · exact absurd HC.out h
    rotate_left
    · exact absurd HX.out h
    go_wp2_with fail
    refine (rrests_is bs l part bar _ _ _ _ _ _ HN.out HM.out _ hB hL).mono ?_; rintro e w15 ⟨hP, hb⟩
    replace hB := hB.below hb
    replace hL := hL.below hb
    replace hG := hG.below hb
    replace B := B.trans (hb.mono (by have := B.size; simp <;> omega))
    clear hb
    obtain ⟨E2, m2, cE2, err, rfl, hP⟩ := hP
    rcases hP with ⟨h, _⟩ | ⟨_, _, rfl, rfl⟩ | ⟨_, h, _⟩
    · exact absurd HC.out h
    rotate_left
    · exact absurd HX.out h
    go_wp2_with fail
    refine (rsames_is [] [] 0 0 _ _ _ _ rfl rfl (by omega) (by omega) (fun s hs => by cases hs) (fun s hs => by cases hs) true (decide_eq_true rfl) _ (SlR.nil _ _) (SlR.nil _ _)).mono ?_; rintro e w16 ⟨rfl, hb⟩
    replace hB := hB.below hb
    replace hL := hL.below hb
    replace hG := hG.below hb
    replace B := B.trans (hb.mono (by have := B.size; simp <;> omega))
    clear hb
    go_wp2_with fail
    go_ret
    exact ⟨rfl, B⟩
  case neg =>
    have HX := Lib.hid (show 0 ≤ No.bix bs bar by omega)
    have HNbusy := Lib.hid (No.busy_nn hv (part := part) (bar := bar) HX.out)
    have HNrests := Lib.hid (No.rests_nn hv (part := part) (bar := bar) HX.out)
    clear hv hc hx hbl hl
    go_enter Tryd.func3, Tryd.ntmps3
    go_wp2_with fail
    have B := Below.refl w.heap.size w
    refine (head_any _ hG).mono ?_; rintro e w1 ⟨rfl, hb⟩
    replace hB := hB.below hb
    replace hL := hL.below hb
    replace hG := hG.below hb
    replace B := B.trans (hb.mono (by have := B.size; simp <;> omega))
    clear hb
    go_wp2_with fail
    refine (lfew_is blen len _ _ _ _ true HF.out _).mono ?_; rintro e w2 ⟨rfl, hb⟩
    replace hB := hB.below hb
    replace hL := hL.below hb
    replace hG := hG.below hb
    replace B := B.trans (hb.mono (by have := B.size; simp <;> omega))
    clear hb
    go_wp2_with fail
    refine (tnsort_is bs l true _ _ _ _ _ _ ⟨fun _ => HV.out, fun _ => rfl⟩ HN.out HM.out HWB.out HWN.out _ hB hL hG).mono ?_; rintro e w3 ⟨hb, h⟩
    replace hB := hB.below hb
    replace hL := hL.below hb
    replace hG := hG.below hb
    replace B := B.trans (hb.mono (by have := B.size; simp <;> omega))
    clear hb
    obtain ⟨-, D1, c1, rfl, S1, -, -⟩ := h.resolve_left (by rintro ⟨h, _⟩; cases h)
    clear h
    go_wp2_with fail
    refine (rsort_is bs l true _ _ _ _ _ _ ⟨fun _ => HV.out, fun _ => rfl⟩ HN.out HM.out _ hB hL).mono ?_; rintro e w4 ⟨hb, h⟩
    replace hB := hB.below hb
    replace hL := hL.below hb
    replace S1 := S1.below hb
    replace hG := hG.below hb
    replace B := B.trans (hb.mono (by have := B.size; simp <;> omega))
    clear hb
    obtain ⟨D2, c2, rfl, S2⟩ : ∃ D2 c2, _ = Ending.returned (.tuple #[.slice D2 len c2, .int .i64 0]) ∧ SlO _ D2 (No.srt (No.lt bs) l) := by
      obtain ⟨-, D2, c2, e2, S2, _⟩ := h.resolve_left (by rintro ⟨h, _⟩; cases h)
      exact ⟨D2, c2, e2, S2⟩
    clear h
    go_wp2_with fail
    refine (tvalid_is bs l true _ _ _ _ _ _ ⟨fun _ => HV.out, fun _ => rfl⟩ HN.out HM.out HWB.out HWN.out _ hB hL).mono ?_; rintro e w5 ⟨rfl, hb⟩
    replace hB := hB.below hb
    replace hL := hL.below hb
    replace S1 := S1.below hb
    replace S2 := S2.below hb
    replace hG := hG.below hb
    replace B := B.trans (hb.mono (by have := B.size; simp <;> omega))
    clear hb
    go_wp2_with fail
    refine (rnvalid_is bs l true _ _ _ _ _ _ ⟨fun _ => HV.out, fun _ => rfl⟩ HN.out HM.out _ hB hL).mono ?_; rintro e w6 ⟨rfl, hb⟩
    replace hB := hB.below hb
    replace hL := hL.below hb
    replace S1 := S1.below hb
    replace S2 := S2.below hb
    replace hG := hG.below hb
    replace B := B.trans (hb.mono (by have := B.size; simp <;> omega))
    clear hb
    go_wp2_with fail
    refine (rsameo_is _ _ _ _ _ _ HSL.out (by omega) _ S1 S2).mono ?_; rintro e w7 ⟨rfl, hb⟩
    replace hB := hB.below hb
    replace hL := hL.below hb
    replace S1 := S1.below hb
    replace S2 := S2.below hb
    replace hG := hG.below hb
    replace B := B.trans (hb.mono (by have := B.size; simp <;> omega))
    clear hb
    clear S1 S2
    go_wp2_with fail
    refine (tof_is bs l part bar _ _ _ _ _ _ HN.out HM.out HWB.out HWN.out _ hB hL hG).mono ?_; rintro e w8 ⟨hP, hb⟩
    replace hB := hB.below hb
    replace hL := hL.below hb
    replace hG := hG.below hb
    replace B := B.trans (hb.mono (by have := B.size; simp <;> omega))
    clear hb
    rcases hP with ⟨h, _⟩ | ⟨_, h, _⟩ | ⟨_, _, D3, nD3, cD3, rfl, hD3, SD3, -, -⟩
    · exact absurd HC.out h
    · exact absurd h (by have := HX.out; omega)
    go_wp2_with fail
    refine (rof_is bs l part bar _ _ _ _ _ _ HN.out HM.out _ hB hL).mono ?_; rintro e w9 ⟨hP, hb⟩
    replace hB := hB.below hb
    replace hL := hL.below hb
    replace SD3 := SD3.below hb
    replace hG := hG.below hb
    replace B := B.trans (hb.mono (by have := B.size; simp <;> omega))
    clear hb
    rcases hP with ⟨h, _⟩ | ⟨_, h, _⟩ | ⟨_, _, D4, nD4, cD4, rfl, hD4, SD4, -, -⟩
    · exact absurd HC.out h
    · exact absurd h (by have := HX.out; omega)
    go_wp2_with fail
    obtain rfl : nD4 = nD3 := hD4.symm.trans hD3
    have HL3 := Lib.hid hD3
    have hm3 : nD4 ≤ 1000000 := by have h := own_le bs l part bar; have h2 := HM.out; omega
    clear hD3 hD4
    refine (rsameo_is _ _ _ _ _ _ HL3.out hm3 _ SD3 SD4).mono ?_; rintro e w10 ⟨rfl, hb⟩
    replace hB := hB.below hb
    replace hL := hL.below hb
    replace SD3 := SD3.below hb
    replace SD4 := SD4.below hb
    replace hG := hG.below hb
    replace B := B.trans (hb.mono (by have := B.size; simp <;> omega))
    clear hb
    clear SD3 SD4
    go_wp2_with fail
    refine (tbusy_is bs l part bar _ _ _ _ _ _ HN.out HM.out HWB.out HWN.out _ hB hL hG).mono ?_; rintro e w11 ⟨hP, hb⟩
    replace hB := hB.below hb
    replace hL := hL.below hb
    replace hG := hG.below hb
    replace B := B.trans (hb.mono (by have := B.size; simp <;> omega))
    clear hb
    rcases hP with ⟨h, _⟩ | ⟨_, h, _⟩ | ⟨_, _, E, m, cE, rfl, hm, X, -, -⟩
    · exact absurd HC.out h
    · exact absurd h (by have := HX.out; omega)
    go_wp2_with fail
    refine (rbusy_is bs l part bar _ _ _ _ _ _ HN.out HM.out _ hB hL).mono ?_; rintro e w12 ⟨hP, hb⟩
    replace hB := hB.below hb
    replace hL := hL.below hb
    replace X := X.below hb
    replace hG := hG.below hb
    replace B := B.trans (hb.mono (by have := B.size; simp <;> omega))
    clear hb
    obtain ⟨E2, m2, cE2, err, rfl, hP⟩ := hP
    rcases hP with ⟨h, _⟩ | ⟨_, h, _⟩ | ⟨_, _, rfl, hm2, Y⟩
    · exact absurd HC.out h
    · exact absurd h (by have := HX.out; omega)
    obtain rfl : m2 = m := hm2.symm.trans hm
    have HMM := Lib.hid hm
    clear hm hm2
    go_wp2_with fail
    refine (rsames_is (No.busy bs l part bar) (No.busy bs l part bar) _ _ _ _ _ _ HMM.out HMM.out (by have := HNbusy.out.2.2; rw [HMM.out] at this; omega) (by have := HNbusy.out.2.2; rw [HMM.out] at this; omega) HNbusy.out.1 HNbusy.out.1 true (decide_eq_true rfl) _ X Y).mono ?_; rintro e w13 ⟨rfl, hb⟩
    replace hB := hB.below hb
    replace hL := hL.below hb
    replace X := X.below hb
    replace Y := Y.below hb
    replace hG := hG.below hb
    replace B := B.trans (hb.mono (by have := B.size; simp <;> omega))
    clear hb
    clear X Y
    clear HMM
    go_wp2_with fail
    refine (trests_is bs l part bar _ _ _ _ _ _ HN.out HM.out HWB.out HWN.out _ hB hL hG).mono ?_; rintro e w14 ⟨hP, hb⟩
    replace hB := hB.below hb
    replace hL := hL.below hb
    replace hG := hG.below hb
    replace B := B.trans (hb.mono (by have := B.size; simp <;> omega))
    clear hb
    rcases hP with ⟨h, _⟩ | ⟨_, h, _⟩ | ⟨_, _, E, m, cE, rfl, hm, X, -, -⟩
    · exact absurd HC.out h
    · exact absurd h (by have := HX.out; omega)
    go_wp2_with fail
    refine (rrests_is bs l part bar _ _ _ _ _ _ HN.out HM.out _ hB hL).mono ?_; rintro e w15 ⟨hP, hb⟩
    replace hB := hB.below hb
    replace hL := hL.below hb
    replace X := X.below hb
    replace hG := hG.below hb
    replace B := B.trans (hb.mono (by have := B.size; simp <;> omega))
    clear hb
    obtain ⟨E2, m2, cE2, err, rfl, hP⟩ := hP
    rcases hP with ⟨h, _⟩ | ⟨_, h, _⟩ | ⟨_, _, rfl, hm2, Y⟩
    · exact absurd HC.out h
    · exact absurd h (by have := HX.out; omega)
    obtain rfl : m2 = m := hm2.symm.trans hm
    have HMM := Lib.hid hm
    clear hm hm2
    go_wp2_with fail
    refine (rsames_is (No.rests bs l part bar) (No.rests bs l part bar) _ _ _ _ _ _ HMM.out HMM.out (by have := HNrests.out.2.2; rw [HMM.out] at this; omega) (by have := HNrests.out.2.2; rw [HMM.out] at this; omega) HNrests.out.1 HNrests.out.1 true (decide_eq_true rfl) _ X Y).mono ?_; rintro e w16 ⟨rfl, hb⟩
    replace hB := hB.below hb
    replace hL := hL.below hb
    replace X := X.below hb
    replace Y := Y.below hb
    replace hG := hG.below hb
    replace B := B.trans (hb.mono (by have := B.size; simp <;> omega))
    clear hb
    clear X Y
    clear HMM
    go_wp2_with fail
    go_ret
    exact ⟨rfl, B⟩
end Go.Proofs.YthamkigdpgajaaaDoor
