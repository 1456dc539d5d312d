import Derived.Test.YtahdlkdiadlgeaaGAX
import Derived.Test.YtahdlkdiadlgeaaGAV
import Derived.Test.YtahdlkdiadlgeaaGAF
import Derived.Laws.CopyOwn
/- The walk of the law TempoPlayed. -/
namespace Go.Proofs.Ytahdlkdiadlgeaa
open Go.RowKit

/-- The classes of the region that calls Seconds: its calls' answers, and the variable's block. -/
def sgV (v1 v2 : Value) : List Value → Prop
  | [] => True
  | [a] => a = v1
  | [a, b] => a = v1 ∧ b = v2
  | [a, b, _] => a = v1 ∧ b = v2
  | _ => False
def sgC (W : World) (v1 v2 : Value) (n d : Int) : List Value → Option Value → World → Prop := fun vs og w' =>
  sgV v1 v2 vs ∧ Below W.heap.size W w' ∧ (∀ p, og = some p → ∃ b, p = .pointer (some ⟨b, 0, none⟩) ∧ W.heap.size ≤ b ∧ w'.heap[b]? = some (.cells (if vs.length = 3 then #[.int .i64 n, .int .i64 d] else #[.int .i64 0, .int .i64 0]) 25 (0, 0))) ∧ (vs.length = 3 → og ≠ none)
theorem sgC.below {W w' w'' : World} {v1 v2 : Value} {n d : Int} {vs vs' : List Value} {og : Option Value} (h : sgC W v1 v2 n d vs og w') (hb : Below w'.heap.size w' w'') (hv : sgV v1 v2 vs') (hl : vs'.length = 3 ↔ vs.length = 3) : sgC W v1 v2 n d vs' og w'' :=
  ⟨hv, h.2.1.trans (hb.mono h.2.1.size), fun p hp => by
    obtain ⟨b, e, h1, h2⟩ := h.2.2.1 p hp
    refine ⟨b, e, h1, ?_⟩
    have h3 := (hb.block b (Array.getElem?_eq_some_iff.1 h2).1).trans h2
    by_cases k : vs.length = 3
    · rw [if_pos k] at h3
      rw [if_pos (hl.2 k)]
      exact h3
    · rw [if_neg k] at h3
      rw [if_neg (fun q => k (hl.1 q))]
      exact h3, fun k => h.2.2.2 (hl.1 k)⟩
theorem rat_row {w : World} {b : Nat} {x y n d : Int} (h : w.heap[b]? = some (.cells #[.int .i64 x, .int .i64 y] 25 (0, 0))) : ∃ w', (storeVar 25 ⟨b, 0, none⟩ (.agg #[.int .i64 n, .int .i64 d])).run Try.prog w = .ok () w' ∧ w'.heap[b]? = some (.cells #[.int .i64 n, .int .i64 d] 25 (0, 0)) ∧ ∀ {B : Nat} {w0 : World}, Below B w0 w → B ≤ b → Below B w0 w' :=
  ⟨_, run_storeVar_row (P := Try.prog) w b 25 25 #[.int .i64 x, .int .i64 y] #[.int .i64 n, .int .i64 d] h (by kernel_rfl) rfl (by simp [Value.oneCell']), setRow_heap w b #[.int .i64 x, .int .i64 y] _ 25 (0, 0) h, fun hb hB => below_setRow hb hB _⟩
theorem var2_of_blk9 {w : World} {b : Nat} {x y : Int} {t : TypeId} (h : w.heap[b]? = some (.cells #[.int .i64 x, .int .i64 y] t (0, 0))) : Var2 w b x y :=
  ⟨⟨(Array.getElem?_eq_some_iff.1 h).1, by unfold World.cell?; rw [h]; rfl, by unfold World.cell?; rw [h]; rfl⟩, by unfold World.frozen?; rw [h]; rfl, by unfold World.frozen?; rw [h]; rfl⟩
theorem rats_three (w : World) (a b c d e f : Int) : SliceIs (w.alloc (.cells #[.int .i64 a, .int .i64 b, .int .i64 c, .int .i64 d, .int .i64 e, .int .i64 f] 25)) (.slice (some ⟨w.heap.size, 0, none⟩) 3 3) [(a, b), (c, d), (e, f)] :=
  .inr ⟨w.heap.size, 0, 3, rfl, by simp, fun k hk => by
    have : k = 0 ∨ k = 1 ∨ k = 2 := by simp at hk; omega
    rcases this with rfl | rfl | rfl <;> (refine ⟨?_, ?_⟩ <;> go_simp)⟩
set_option maxRecDepth 100000 in
set_option maxHeartbeats 25600000 in
theorem tempoPlayed_walk (n1 c1 : Nat) (A1 : Option Addr) (bs : List Mt.B) (h1 : bs.length = n1) (n2 c2 : Nat) (A2 : Option Addr) (l : List Fo.T3) (h2 : l.length = n2) (h : FH) (f : Fo.Fm) (hwf : Mt.Wf bs) (hw3 : ∀ c ∈ f.cs, Fo.wf3 c) (hcap : h.cl ≤ h.cc) (which : Int) (h3 : 0 ≤ which ∧ which < 65536) (w : World) (hB : SlB w A1 bs) (hL : SlT w A2 l) (hF : SlF w h f) :
    Calls Try.prog 5 #[.slice A1 n1 c1, .slice A2 n2 c2, .agg #[.int .i64 h.n, .slice h.R h.rl h.rc, .slice h.E h.el h.ec, .int .i64 h.ja, .int .i64 h.jt, .int .i64 h.jf, .slice h.C h.cl h.cc], .int .u16 which] w fun e w' => e = .returned (.bool true) ∧ Below w.heap.size w w' := by
  have HWF := Lib.hid hwf
  clear hwf
  obtain ⟨u, hu⟩ : ∃ u : Bool, u = true ↔ useT bs l n1 n2 := ⟨@decide _ (Classical.propDecidable _), @decide_eq_true_iff _ (Classical.propDecidable _)⟩
  obtain ⟨u2, hu2⟩ : ∃ u : Bool, u = true ↔ fewH h := ⟨@decide _ (Classical.propDecidable _), @decide_eq_true_iff _ (Classical.propDecidable _)⟩
  have HU := Lib.hid hu; have HU2 := Lib.hid hu2; have HN1 := Lib.hid h1; have HN2 := Lib.hid h2; have HB := Lib.hid hB; have HL := Lib.hid hL; have HF := Lib.hid hF; have HW3 := Lib.hid hw3; have HCAP := Lib.hid hcap
  have Q := FB.new w h
  have B := (Below.refl w.heap.size w).alloc (Nat.le_refl _) (.cells #[.int .i64 h.n, .slice h.R h.rl h.rc, .slice h.E h.el h.ec, .int .i64 h.ja, .int .i64 h.jt, .int .i64 h.jf, .slice h.C h.cl h.cc] 47)
  clear hu hu2 h1 h2 hB hL hF hw3 hcap
  go_enter Try.func5, Try.ntmps5
  go_wp2_with fail
  refine (head_any _).mono ?_; rintro e w1 ⟨rfl, hb⟩
  replace Q := Q.below hb; replace B := B.trans (hb.mono B.size); clear hb
  go_wp2_with fail
  refine (lusable_is bs l u n1 c1 n2 c2 A1 A2 HU.out HN1.out HN2.out _ (HB.out.below B) (HL.out.below B)).mono ?_; rintro e w2 ⟨rfl, hb⟩
  replace Q := Q.below hb; replace B := B.trans (hb.mono B.size); clear hb
  cases u with
  | false =>
    go_wp2_with fail
    go_ret
    exact ⟨rfl, B⟩
  | true =>
  have HV := Lib.hid (HU.out.1 rfl).2.2
  have hn40 : n1 ≤ 40 := (HU.out.1 rfl).1
  have q_0 := Q.c0; have q_1 := Q.c1; have q_2 := Q.c2; have q_3 := Q.c3; have q_4 := Q.c4; have q_5 := Q.c5; have q_6 := Q.c6; have q_l := Q.lt
  go_wp2_with fail
  clear q_0 q_1 q_2 q_3 q_4 q_5 q_6 q_l
  refine (rfew_is h u2 HU2.out _).mono ?_; rintro e w3 ⟨rfl, hb⟩
  replace Q := Q.below hb; replace B := B.trans (hb.mono B.size); clear hb
  cases u2 with
  | false =>
    go_wp2_with fail
    go_ret
    exact ⟨rfl, B⟩
  | true =>
  by_cases m1 : h.n = (n1 : Int)
  case neg =>
    have m1' : (h.n != (n1 : Int)) = true := by simpa using m1
    have q0 := Q.c0
    clear m1
    go_wp2_with fail
    go_ret
    exact ⟨rfl, B⟩
  case pos =>
  have m1' : (h.n != (n1 : Int)) = false := by simpa using m1
  have HFN : Hid (f.n = (bs.length : Int)) := Lib.hid (by rw [HN1.out, HF.out.n]; exact m1)
  clear m1
  have q_0 := Q.c0; have q_1 := Q.c1; have q_2 := Q.c2; have q_3 := Q.c3; have q_4 := Q.c4; have q_5 := Q.c5; have q_6 := Q.c6; have q_l := Q.lt
  go_wp2_with fail
  clear q_0 q_1 q_2 q_3 q_4 q_5 q_6 q_l
  by_cases hv : Fo.Val f
  case neg =>
    refine (wUnfold_no h f hv HW3.out _ (HF.out.below B)).mono ?_; rintro e w9 ⟨rfl, hb⟩
    replace B := B.trans (hb.mono B.size)
    clear hb
    go_wp2_with fail
    go_ret
    exact ⟨rfl, B⟩
  case pos =>
  have HFV := Lib.hid hv
  clear hv
  obtain ⟨vs, hvs⟩ : ∃ x, Fo.unf f = x := ⟨_, rfl⟩
  obtain ⟨nv, hnv⟩ : ∃ n, (Fo.unf f).length = n := ⟨_, rfl⟩
  have hnvm : nv ≤ 20000 := by rw [← hnv]; exact Te.unf_most HFV.out
  have HNV := Lib.hid hnv; have HVS := Lib.hid hvs
  clear hnv hvs
  refine (wUnfold_is h f HFV.out HW3.out _ (HF.out.below B)).mono ?_; rintro e w4 ⟨hb, uv, rfl, OV⟩
  obtain ⟨-, VA, vc, rfl, LV, -⟩ := own_V OV
  rw [HNV.out]
  rw [HVS.out] at LV
  clear OV
  replace Q := Q.below hb; replace B := B.trans (hb.mono B.size); clear hb
  by_cases hz : nv = 0
  case pos =>
    subst hz
    go_wp2_with fail
    go_ret
    exact ⟨rfl, B⟩
  case neg =>
  have hz1 : ¬ (nv : Int) = 0 := by omega
  have hz2 : ((nv : Int) == 0) = false := by simpa using hz
  obtain ⟨k, hk⟩ : ∃ k : Nat, which % (nv : Int) = (k : Int) := ⟨(which % (nv : Int)).toNat, by have := Int.emod_nonneg which hz1; omega⟩
  have hkn : k < nv := by have := Int.emod_lt_of_pos which (show 0 < (nv : Int) by omega); omega
  have hk2 : which.tmod (nv : Int) = (k : Int) := by rw [Int.tmod_eq_emod_of_nonneg (by omega)]; exact hk
  obtain ⟨N0, D0, E0, A0⟩ := Te.plaA_ex bs l f 0 (nv : Int)
  obtain ⟨Na, Da, Ea, Aa⟩ := Te.plaA_ex bs l f 0 (k : Int)
  obtain ⟨Nb, Db, Eb, Ab⟩ := Te.plaA_ex bs l f (k : Int) ((k : Int) + 1)
  obtain ⟨Nc, Dc, Ec, Ac⟩ := Te.plaA_ex bs l f ((k : Int) + 1) (nv : Int)
  replace A0 := Lib.hid A0; replace Aa := Lib.hid Aa; replace Ab := Lib.hid Ab; replace Ac := Lib.hid Ac
  have hin := Te.unf_inb HFV.out HFN.out k (by rw [HNV.out]; exact hkn)
  rw [HVS.out] at hin
  obtain ⟨b, hb9⟩ : ∃ b : Nat, (atV vs k).b = (b : Int) := ⟨(atV vs k).b.toNat, by omega⟩
  have hbn : (b : Int) < (n1 : Int) := by rw [← HN1.out, ← hb9]; exact hin.2
  have HBV := Lib.hid hb9
  obtain ⟨rfl, hsec⟩ := Te.pla_one HV.out HFV.out HFN.out (k := k) (b := b) (by rw [HNV.out]; exact hkn) (by rw [HVS.out]; exact hb9) Ab.out
  have HSEC := Lib.hid hsec
  have HE0 : Hid (E0 = 0 ∨ E0 = 3) := Lib.hid ((Te.pla_e HV.out HFV.out HFN.out (i := 0) (j := nv) (by omega) (by rw [HNV.out]; exact Nat.le_refl _) A0.out).2.1.elim .inl (fun k => .inr k.1))
  have HEa : Hid (Ea = 0 ∨ Ea = 3) := Lib.hid ((Te.pla_e HV.out HFV.out HFN.out (i := 0) (j := k) (by omega) (by rw [HNV.out]; omega) Aa.out).2.1.elim .inl (fun k => .inr k.1))
  have HEc : Hid (Ec = 0 ∨ Ec = 3) := Lib.hid (by
    have h9 := Ac.out
    rw [show ((k : Int) + 1) = ((k + 1 : Nat) : Int) by omega] at h9
    exact (Te.pla_e HV.out HFV.out HFN.out (i := k + 1) (j := nv) (by omega) (by rw [HNV.out]; exact Nat.le_refl _) h9).2.1.elim .inl (fun k => .inr k.1))
  have HKN := Lib.hid hkn
  clear hin hb9 hsec hk
  go_wp2_with fail
  obtain ⟨wr, hwr⟩ : ∃ x, w4 = x := ⟨_, rfl⟩
  rw [hwr] at B Q LV
  try rw [hwr]
  clear hwr
  have hne := Ext.there wr
  refine Ext.region (by kernel_rfl) (by kernel_rfl) ?_
  repeat (go_big_quiet_step (fail))
  refine wpQuiet_nil ?_
  rintro _ ⟨xw, rfl⟩
  have hb := xw.h
  clear hne 
  generalize xw.w = w5 at *
  clear xw
  replace Q := Q.below hb; replace LV := LV.below hb; replace B := B.trans (hb.mono B.size); clear hb
  have q_0 := Q.c0; have q_1 := Q.c1; have q_2 := Q.c2; have q_3 := Q.c3; have q_4 := Q.c4; have q_5 := Q.c5; have q_6 := Q.c6; have q_l := Q.lt
  go_wp2_with fail
  clear q_0 q_1 q_2 q_3 q_4 q_5 q_6 q_l
  refine (wPlayed_is bs l h f 0 (nv : Int) N0 D0 E0 A0.out n1 c1 n2 c2 A1 A2 HN1.out HN2.out HWF.out HW3.out _ (HB.out.below B) (HL.out.below B) (HF.out.below B)).mono ?_; rintro e w6 ⟨rfl, hb⟩
  replace Q := Q.below hb; replace LV := LV.below hb; replace B := B.trans (hb.mono B.size); clear hb
  have RA := Var2.new w6 N0 D0 25
  replace Q := Q.alloc (.cells #[.int .i64 N0, .int .i64 D0] 25); replace LV := LV.alloc (.cells #[.int .i64 N0, .int .i64 D0] 25); replace B := B.alloc B.size (.cells #[.int .i64 N0, .int .i64 D0] 25)
  have q_0 := Q.c0; have q_1 := Q.c1; have q_2 := Q.c2; have q_3 := Q.c3; have q_4 := Q.c4; have q_5 := Q.c5; have q_6 := Q.c6; have q_l := Q.lt
  go_wp2_with fail
  clear q_0 q_1 q_2 q_3 q_4 q_5 q_6 q_l
  refine (wPlayed_is bs l h f 0 (k : Int) Na Da Ea Aa.out n1 c1 n2 c2 A1 A2 HN1.out HN2.out HWF.out HW3.out _ (HB.out.below B) (HL.out.below B) (HF.out.below B)).mono ?_; rintro e w7 ⟨rfl, hb⟩
  replace Q := Q.below hb; replace LV := LV.below hb; replace RA := RA.below hb; replace B := B.trans (hb.mono B.size); clear hb
  have RB := Var2.new w7 Na Da 25
  replace Q := Q.alloc (.cells #[.int .i64 Na, .int .i64 Da] 25); replace LV := LV.alloc (.cells #[.int .i64 Na, .int .i64 Da] 25); replace RA := RA.alloc (.cells #[.int .i64 Na, .int .i64 Da] 25); replace B := B.alloc B.size (.cells #[.int .i64 Na, .int .i64 Da] 25)
  have q_0 := Q.c0; have q_1 := Q.c1; have q_2 := Q.c2; have q_3 := Q.c3; have q_4 := Q.c4; have q_5 := Q.c5; have q_6 := Q.c6; have q_l := Q.lt
  go_wp2_with fail
  clear q_0 q_1 q_2 q_3 q_4 q_5 q_6 q_l
  refine (wPlayed_is bs l h f (k : Int) ((k : Int) + 1) Nb Db 0 Ab.out n1 c1 n2 c2 A1 A2 HN1.out HN2.out HWF.out HW3.out _ (HB.out.below B) (HL.out.below B) (HF.out.below B)).mono ?_; rintro e w8 ⟨rfl, hb⟩
  replace Q := Q.below hb; replace LV := LV.below hb; replace RA := RA.below hb; replace RB := RB.below hb; replace B := B.trans (hb.mono B.size); clear hb
  have RC := Var2.new w8 Nb Db 25
  replace Q := Q.alloc (.cells #[.int .i64 Nb, .int .i64 Db] 25); replace LV := LV.alloc (.cells #[.int .i64 Nb, .int .i64 Db] 25); replace RA := RA.alloc (.cells #[.int .i64 Nb, .int .i64 Db] 25); replace RB := RB.alloc (.cells #[.int .i64 Nb, .int .i64 Db] 25); replace B := B.alloc B.size (.cells #[.int .i64 Nb, .int .i64 Db] 25)
  have q_0 := Q.c0; have q_1 := Q.c1; have q_2 := Q.c2; have q_3 := Q.c3; have q_4 := Q.c4; have q_5 := Q.c5; have q_6 := Q.c6; have q_l := Q.lt
  go_wp2_with fail
  clear q_0 q_1 q_2 q_3 q_4 q_5 q_6 q_l
  refine (wPlayed_is bs l h f ((k : Int) + 1) (nv : Int) Nc Dc Ec Ac.out n1 c1 n2 c2 A1 A2 HN1.out HN2.out HWF.out HW3.out _ (HB.out.below B) (HL.out.below B) (HF.out.below B)).mono ?_; rintro e w9 ⟨rfl, hb⟩
  replace Q := Q.below hb; replace LV := LV.below hb; replace RA := RA.below hb; replace RB := RB.below hb; replace RC := RC.below hb; replace B := B.trans (hb.mono B.size); clear hb
  have RD := Var2.new w9 Nc Dc 25
  replace Q := Q.alloc (.cells #[.int .i64 Nc, .int .i64 Dc] 25); replace LV := LV.alloc (.cells #[.int .i64 Nc, .int .i64 Dc] 25); replace RA := RA.alloc (.cells #[.int .i64 Nc, .int .i64 Dc] 25); replace RB := RB.alloc (.cells #[.int .i64 Nc, .int .i64 Dc] 25); replace RC := RC.alloc (.cells #[.int .i64 Nc, .int .i64 Dc] 25); replace B := B.alloc B.size (.cells #[.int .i64 Nc, .int .i64 Dc] 25)
  obtain ⟨vb, vo, rfl, hvb, hvc⟩ := LV (by rw [← HVS.out, HNV.out]; omega)
  have hY := (hvc k (by rw [← HVS.out, HNV.out]; exact HKN.out)).c0
  rw [HBV.out] at hY
  have hb0 : ¬ (b : Int) < 0 := by omega
  have hb1 : ¬ (n1 : Int) ≤ (b : Int) := by omega
  have hb2 : ¬ n1 ≤ b := by omega
  clear hvc LV
  go_wp2_with fail
  clear hY hvb
  refine (lrat_is 0 1 _).mono ?_; rintro e w10 ⟨rfl, hb⟩
  replace Q := Q.below hb; replace RA := RA.below hb; replace RB := RB.below hb; replace RC := RC.below hb; replace RD := RD.below hb; replace B := B.trans (hb.mono B.size); clear hb
  have EP := Var3.new w10 ((b : Int) + 1) 0 1 27
  replace Q := Q.alloc (.cells #[.int .i64 ((b : Int) + 1), .int .i64 0, .int .i64 1] 27); replace RA := RA.alloc (.cells #[.int .i64 ((b : Int) + 1), .int .i64 0, .int .i64 1] 27); replace RB := RB.alloc (.cells #[.int .i64 ((b : Int) + 1), .int .i64 0, .int .i64 1] 27); replace RC := RC.alloc (.cells #[.int .i64 ((b : Int) + 1), .int .i64 0, .int .i64 1] 27); replace RD := RD.alloc (.cells #[.int .i64 ((b : Int) + 1), .int .i64 0, .int .i64 1] 27); replace B := B.alloc B.size (.cells #[.int .i64 ((b : Int) + 1), .int .i64 0, .int .i64 1] 27)
  go_wp2_with fail
  obtain ⟨wr, hwr⟩ : ∃ x, w10.alloc (.cells #[.int .i64 ((b : Int) + 1), .int .i64 0, .int .i64 1] 27) = x := ⟨_, rfl⟩
  rw [hwr] at B Q RA RB RC RD EP
  try rw [hwr]
  clear hwr
  have hqa := RA.at2.lt; have hqb := RB.at2.lt; have hqc := RC.at2.lt; have hqd := RD.at2.lt
  have z0 := fun x : PfW (sgC wr (.agg #[.int .i64 0, .int .i64 1]) (.tuple #[.agg #[.int .i64 Nb, .int .i64 Db], .int .i64 0]) Nb Db) => (EP.at3.below x.h.2.1).c0
  have z1 := fun x : PfW (sgC wr (.agg #[.int .i64 0, .int .i64 1]) (.tuple #[.agg #[.int .i64 Nb, .int .i64 Db], .int .i64 0]) Nb Db) => (EP.at3.below x.h.2.1).c1
  have z2 := fun x : PfW (sgC wr (.agg #[.int .i64 0, .int .i64 1]) (.tuple #[.agg #[.int .i64 Nb, .int .i64 Db], .int .i64 0]) Nb Db) => (EP.at3.below x.h.2.1).c2
  have hne : Nonempty (PfW (sgC wr (.agg #[.int .i64 0, .int .i64 1]) (.tuple #[.agg #[.int .i64 Nb, .int .i64 Db], .int .i64 0]) Nb Db)) := PfW.there (w := wr) ⟨trivial, Below.refl _ _, fun p hp => (by cases hp), fun k => (by simp at k)⟩
  refine region_pf (cs := [3, 6, 11]) (d := 10) (G := fun g => ∃ b, g = .pointer (some ⟨b, 0, none⟩) ∧ wr.heap.size ≤ b) (Cv := (sgC wr (.agg #[.int .i64 0, .int .i64 1]) (.tuple #[.agg #[.int .i64 Nb, .int .i64 Db], .int .i64 0]) Nb Db)) 12 ⟨_, _, rfl, Nat.le_refl _⟩ (by kernel_rfl) (by kernel_rfl) (by kernel_rfl) ⟨trivial, (Below.refl _ _).drew, fun p hp => (by cases hp), fun k => (by simp at k)⟩ ?_
  simp only [List.take_succ_cons, List.take_zero, List.drop_succ_cons, List.drop_zero]
  iterate 3 (refine pf_quiet (by decide) rfl rfl ?_; intro K' hK'; go_big_quiet_op; go_big_quiet_on)
  refine pf_enter (f := 12) (args := #[.int .i64 0, .int .i64 1]) ⟨by decide, rfl⟩ rfl ⟨none, wr, trivial, Below.refl _ _, fun p hp => (by cases hp), fun k => (by simp at k)⟩ (fun og w' hw' => ?_) (fun og w' hw' => ?_) ?_
  · simp [go_sem]
  · refine (lrat_is 0 1 w').mono ?_
    rintro e wa ⟨rfl, hb2⟩
    exact ⟨_, rfl, hw'.below hb2 rfl (by simp)⟩
  rintro _ ⟨_, _, rfl, -⟩
  simp only [Act.put, List.setIfInBounds_toArray, List.set_cons_succ, List.set_cons_zero]
  iterate 2 (refine pf_quiet (by decide) rfl rfl ?_; intro K' hK'; go_big_quiet_op; go_big_quiet_on)
  refine pf_enter (f := 11) (args := #[.slice A1 n1 c1, .slice A2 n2 c2, .agg #[.int .i64 (b : Int), .int .i64 0, .int .i64 1], .agg #[.int .i64 ((b : Int) + 1), .int .i64 0, .int .i64 1]]) ⟨by decide, rfl⟩ rfl ⟨none, wr, rfl, Below.refl _ _, fun p hp => (by cases hp), fun k => (by simp at k)⟩ (fun og w' hw' => ?_) (fun og w' hw' => ?_) ?_
  · simp [go_sem]
  · refine (wSeconds_is bs l (b : Int) 0 1 ((b : Int) + 1) 0 1 Nb Db 0 HSEC.out n1 c1 n2 c2 A1 A2 HN1.out HN2.out HWF.out w' (HB.out.below (B.trans (hw'.2.1.mono B.size))) (HL.out.below (B.trans (hw'.2.1.mono B.size)))).mono ?_
    rintro e wa ⟨rfl, hb2⟩
    exact ⟨_, rfl, hw'.below hb2 ⟨rfl, rfl⟩ (by simp)⟩
  rintro _ ⟨_, _, ⟨-, rfl⟩, -⟩
  simp only [Act.put, List.setIfInBounds_toArray, List.set_cons_succ, List.set_cons_zero]
  iterate 3 (refine pf_quiet (by decide) rfl rfl ?_; intro K' hK'; go_big_quiet_op; go_big_quiet_on)
  refine pf_floats rfl (fun j hj => (by cases hj; first | kernel_rfl | rfl | decide)) rfl (fun vs' w' hw' => ⟨.pointer (some ⟨w'.heap.size, 0, none⟩), w'.alloc (.cells #[.int .i64 0, .int .i64 0] 25), ?_, ⟨_, rfl, hw'.2.1.size⟩, ?_⟩) ?_
  · go_simp
  · have h3 : ¬ vs'.length = 3 := fun k => hw'.2.2.2 k rfl
    refine ⟨hw'.1, hw'.2.1.alloc hw'.2.1.size _, fun p hp => ?_, fun _ => (by simp)⟩
    cases hp
    refine ⟨w'.heap.size, rfl, hw'.2.1.size, ?_⟩
    rw [if_neg h3]
    exact heap_alloc_new w' _
  rintro _ ⟨bl, rfl, hbl⟩
  simp only [Act.put, List.setIfInBounds_toArray, List.set_cons_succ, List.set_cons_zero]
  refine pf_stored ⟨by decide, rfl⟩ rfl ⟨some (.pointer (some ⟨wr.heap.size, 0, none⟩)), wr.alloc (.cells #[.int .i64 Nb, .int .i64 Db] 25), ⟨rfl, rfl⟩, (Below.refl _ _).alloc (Nat.le_refl _) _, fun p hp => (by cases hp; exact ⟨_, rfl, Nat.le_refl _, heap_alloc_new wr _⟩), fun _ => (by simp)⟩ (fun w' hw' => ?_) ?_
  · obtain ⟨b', e', hl', hc'⟩ := hw'.2.2.1 _ rfl
    cases e'
    rw [if_neg (by simp)] at hc'
    obtain ⟨w2', h1, h2, h3⟩ := rat_row (n := Nb) (d := Db) hc'
    refine ⟨w2', ?_, ⟨rfl, rfl⟩, h3 hw'.2.1 hl', fun p hp => ?_, fun _ => (by simp)⟩
    · simp [execOp, Act.eval, Instr.storeAt, Instr.sureAddr, h1, Result.andThen]
    · cases hp
      exact ⟨bl, rfl, hl', by rw [if_pos (by simp)]; exact h2⟩
  rintro _ -
  simp only [Act.put]
  rintro w20 ⟨-, hb, hV3, -⟩
  obtain ⟨bl', e', -, hblc⟩ := hV3 (.pointer (some ⟨bl, 0, none⟩)) rfl
  cases e'
  rw [if_pos (by simp)] at hblc
  have RE := var2_of_blk9 hblc
  clear hV3 hblc z0 z1 z2 hne
  have hwr := B.size
  clear EP Q
  replace RA := RA.below hb; replace RB := RB.below hb; replace RC := RC.below hb; replace RD := RD.below hb; replace B := B.trans (hb.mono B.size); clear hb
  have heq := fun W => eqRatT Nb Db Nb Db true ⟨fun _ => ⟨rfl, rfl⟩, fun _ => rfl⟩ W
  have rc_0 := RC.at2.c0; have rc_1 := RC.at2.c1; have z0 := RE.at2.c0; have z1 := RE.at2.c1; have wl := B.size
  rcases HEa.out with rfl | rfl
  case inr =>
    rcases HE0.out with rfl | rfl
    all_goals (rcases HEc.out with rfl | rfl)
    all_goals
      go_wp2_with fail
      go_ret
      exact ⟨rfl, B⟩
  case inl =>
  rcases HEc.out with rfl | rfl
  case inr =>
    rcases HE0.out with rfl | rfl
    all_goals
      go_wp2_with fail
      go_ret
      exact ⟨rfl, B⟩
  case inl =>
  rcases HE0.out with rfl | rfl
  case inr =>
    go_wp2_with fail
    go_ret
    exact ⟨rfl, B⟩
  case inl =>
  obtain ⟨sx, sy, se, hsum, hse⟩ := Te.pla_sum HV.out HFV.out HFN.out (k := k) (n := nv) HKN.out HNV.out A0.out Aa.out Ab.out Ac.out
  have HSUM := Lib.hid hsum; have HSE := Lib.hid hse
  clear hsum hse
  have rb_0 := RB.at2.c0; have rb_1 := RB.at2.c1; have rd_0 := RD.at2.c0; have rd_1 := RD.at2.c1
  go_wp2_with fail
  clear rb_0 rb_1 rd_0 rd_1 rc_0 rc_1 z0 z1
  have hsl := rats_three w20 Na Da Nb Db Nc Dc
  clear RB
  clear RC
  clear RD
  clear RE
  replace RA := RA.alloc (.cells #[.int .i64 Na, .int .i64 Da, .int .i64 Nb, .int .i64 Db, .int .i64 Nc, .int .i64 Dc] 25); replace B := B.alloc B.size (.cells #[.int .i64 Na, .int .i64 Da, .int .i64 Nb, .int .i64 Db, .int .i64 Nc, .int .i64 Dc] 25)
  refine (sum_is _ [(Na, Da), (Nb, Db), (Nc, Dc)] sx sy se HSUM.out (by simp [maxLen]) _ hsl).mono ?_; rintro e w11 ⟨rfl, hb⟩
  replace RA := RA.below hb; replace B := B.trans (hb.mono B.size); clear hb
  clear hsl
  have RF := Var2.new w11 sx sy 25
  replace RA := RA.alloc (.cells #[.int .i64 sx, .int .i64 sy] 25); replace B := B.alloc B.size (.cells #[.int .i64 sx, .int .i64 sy] 25)
  rcases HSE.out with ⟨rfl, rfl, rfl⟩ | rfl
  case inl =>
    have heq2 := fun W => eqRatT sx sy sx sy true ⟨fun _ => ⟨rfl, rfl⟩, fun _ => rfl⟩ W
    have rf_0 := RF.at2.c0; have rf_1 := RF.at2.c1; have rf_l := RF.at2.lt
    have ra_0 := RA.at2.c0; have ra_1 := RA.at2.c1; have ra_l := RA.at2.lt
    go_wp2_with fail
    clear rf_0 rf_1 rf_l ra_0 ra_1 ra_l
    go_ret
    exact ⟨rfl, B⟩
  case inr =>
    have rf_0 := RF.at2.c0; have rf_1 := RF.at2.c1; have rf_l := RF.at2.lt
    have ra_0 := RA.at2.c0; have ra_1 := RA.at2.c1; have ra_l := RA.at2.lt
    go_wp2_with fail
    clear rf_0 rf_1 rf_l ra_0 ra_1 ra_l
    go_ret
    exact ⟨rfl, B⟩
end Go.Proofs.Ytahdlkdiadlgeaa
