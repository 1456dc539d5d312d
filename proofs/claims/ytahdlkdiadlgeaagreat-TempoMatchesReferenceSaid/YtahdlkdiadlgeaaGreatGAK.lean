import Derived.Test.YtahdlkdiadlgeaaGreatGAG
import Derived.Test.YtahdlkdiadlgeaaGreatGAF
import Derived.Maps.OwnSet
/- The walk of meter's Valid: a map of the IDs that have been seen. -/
namespace Go.Proofs.YtahdlkdiadlgeaaGreat
open Go.RowKit Go.Maps

/-- What a map's element of the kind bool reads as says what it is. -/
theorem plainElem_bool_back {H : Type} {P : Program} {e : TypeId} (he : P.underlying e = some .bool) {v : Value} {c : Bool} {ps : List MemPlace} (h : plainElem (H := H) P e v = some (.lit (.bool c), ps)) : v = .bool c := by
  unfold plainElem at h
  rw [he] at h
  cases v <;> simp at h
  rw [h.1]
/-- 'm[k]' in a map of bools that the call made. -/
theorem look_bool {P : Program} (w : World) {ops : Array Oper} {rest : List Oper} {o : Oper} {a : Act} {Q : Exit → Act → World → Prop}
    (hg : o.guard = none) (m x : Operand) (t : TypeId) (hop : o.op = Op.lookup t m x false)
    (k e : TypeId) (K : Keyed P k) (ht : P.underlying t = some (.map k e)) (he : P.underlying e = some .bool) (hz : (zeroValue e).run P w = .ok (.bool false) w) (b n : Nat) (D : DataW Unit)
    (hm : a.eval m = .map (some b)) (hown : w.ownsMap P k (plainElem P e) b n D) (key : Value) (kl : Lit) (hx : a.eval x = key) (hkey : keyOf P k key = some kl) (c : Bool) (hc : D.atKey kl (.lit (.bool false)) = .lit (.bool c))
    (hK : wpList P ops Q rest (a.put o.dst (.bool c)) w) : wpList P ops Q (o :: rest) a w := by
  refine wpList_plain hg fun K' hK' => ?_
  obtain ⟨v, ps, hrun, hv⟩ := hown.lookup K ht hz (plainElem_bool he false) hkey
  rw [hc] at hv
  obtain rfl := plainElem_bool_back he hv
  unfold Oper.wp
  simp [execOp, hop, hm, hx, hrun, Result.andThen]
  exact hK' _ _ hK
theorem run_mkHint (n : Int) (w : World) : (Instr.makeMap 77 (some (.int .i64 n))).run Tryz.prog w = .ok (.map (some w.heap.size)) (w.alloc (.map #[] 0)) := by
  simp [Instr.makeMap, run_underlying Tryz.underlying77, asInt, asIntOf, Result.andThen]

namespace Mt
/-- IDs are 64 bit integers. -/
def Wf (l : List B) : Prop := ∀ j, j < l.length → -9223372036854775808 ≤ (atB l j).1 ∧ (atB l j).1 ≤ 9223372036854775807
/-- The map holds the IDs of the first i bars. -/
def Seen (l : List B) (i : Nat) (D : DataW Unit) : Prop :=
  ∀ id : Int, (Lit.int .i64 id).wf = true → ∃ c : Bool, D.atKey (.int .i64 id) (.lit (.bool false)) = .lit (.bool c) ∧ (c = true ↔ ∃ m, m < i ∧ (atB l m).1 = id)
theorem Seen.start (l : List B) : Seen l 0 (.map []) := fun id _ => ⟨false, rfl, by simp⟩
theorem wf_id {x : Int} (h0 : -9223372036854775808 ≤ x) (h1 : x ≤ 9223372036854775807) : (Lit.int .i64 x).wf = true := WalkArith.wf_i64 (by omega)
end Mt
theorem mapK : Keyed Tryz.prog 3 := int_keyed Tryz.underlying3
theorem Mt.Seen.step {l : List B} {i : Nat} {D : DataW Unit} (h : Seen l i D) (hD : IsMap D) (hw : (Lit.int .i64 (atB l i).1).wf = true) : Seen l (i + 1) (D.put (.int .i64 (atB l i).1) (.lit (.bool true))) := fun id hid => by
  by_cases e : id = (atB l i).1
  · subst e
    exact ⟨true, atKey_put_same hD (mapK.key (keyOf_int_mk Tryz.underlying3 hid)) _ _, by simp only [true_iff]; exact ⟨i, by omega, rfl⟩⟩
  · obtain ⟨c, h1, h2⟩ := h id hid
    refine ⟨c, ?_, ?_⟩
    · rw [atKey_put_other (fun e2 => e (by simpa using e2))]
      exact h1
    · rw [h2]
      constructor
      · rintro ⟨m, hm, e2⟩
        exact ⟨m, by omega, e2⟩
      · rintro ⟨m, hm, e2⟩
        refine ⟨m, ?_, e2⟩
        rcases Nat.lt_or_eq_of_le (Nat.le_of_lt_succ hm) with h3 | h3
        · exact h3
        · subst h3; exact absurd e2.symm e

theorem below_grown' {a b : World} (h : Below a.heap.size a b) : a.grownBy b none := ⟨h.os, h.tape, h.output, h.size, fun i hi _ => h.block i hi⟩

set_option maxHeartbeats 1600000 in
theorem mvalid_is (l : List Mt.B) (f : Bool) (len cap : Nat) (A : Option Addr) (h : f = true ↔ Mt.Val l) (hl : l.length = len) (hwf : Mt.Wf l) (w : World) (hL : SlB w A l) :
    Calls Tryz.prog 19 #[.slice A len cap] w fun e w' => e = .returned (.bool f) ∧ Below w.heap.size w w' := by
  have HF := Lib.hid h
  have HN := Lib.hid hl
  have HL := Lib.hid hL
  have HW := Lib.hid hwf
  clear h hl hL hwf
  by_cases h1 : len < 1
  · have hf : f = false := by
      cases f with
      | false => rfl
      | true => have := (HF.out.1 rfl).1; rw [HN.out] at this; omega
    subst hf
    have h1' : len = 0 := by omega
    subst h1'
    clear h1
    go_enter Tryz.func19, Tryz.ntmps19
    go_wp2_with fail
    go_ret
    exact ⟨rfl, Below.refl _ _⟩
  by_cases h2 : 4000 < len
  · have hf : f = false := by
      cases f with
      | false => rfl
      | true => have := (HF.out.1 rfl).2.1; rw [HN.out] at this; omega
    subst hf
    have h1' : ((len : Int) == 0) = false := by simp; omega
    have h2' : (4000 : Int) < (len : Int) := by omega
    clear h1 h2
    go_enter Tryz.func19, Tryz.ntmps19
    go_wp2_with fail
    go_ret
    exact ⟨rfl, Below.refl _ _⟩
  have h1' : ((len : Int) == 0) = false := by simp; omega
  have h2' : ¬ (4000 : Int) < (len : Int) := by omega
  have hl1 : 1 ≤ len := by omega
  have hl4 : len ≤ 4000 := by omega
  clear h1 h2
  have hmm := run_mkHint
  go_enter Tryz.func19, Tryz.ntmps19
  go_wp2_with fail
  go_loopw [19] (fun s19 wr => ∃ (i : Nat) (q : Int), i ≤ len ∧ q = i ∧ s19 = .int .i64 q ∧ Hid ((∀ j, j < i → Mt.okB (atB l j)) ∧ ∀ j k, j < i → k < j → (atB l k).1 ≠ (atB l j).1) ∧ (∃ D : DataW Unit, wr.ownsMap Tryz.prog 3 (plainElem Tryz.prog 4) w.heap.size i D ∧ Hid (Mt.Seen l i D)) ∧ Below w.heap.size w wr) (fun s19 _ => len - (intOf s19).toNat)
  case atStart => exact ⟨0, 0, Nat.zero_le _, rfl, rfl, Lib.hid ⟨fun j hj => by omega, fun j k hj => by omega⟩, ⟨.map [], World.ownsMap_made _ _ _ _, Lib.hid (Mt.Seen.start l)⟩, (Below.refl _ _).alloc (Nat.le_refl _) _⟩
  case round =>
    clear hmm
    obtain ⟨i, q, hi, hq, rfl, HE, ⟨D, hown, HS⟩, hG⟩ := hrel
    by_cases hlt : i < len
    · have hil : i < l.length := by rw [HN.out]; omega
      obtain ⟨bb, off, rfl, hbb, hc⟩ := HL.out (by omega)
      have HC := Lib.hid hc
      obtain ⟨c0, c1, c2, c3⟩ := hc i hil
      have x0 := (hG.cell (p := ⟨bb, off + i * 4, none⟩) hbb).trans c0
      have x1 := (hG.cell (p := ⟨bb, off + i * 4 + 1, none⟩) hbb).trans c1
      have x2 := (hG.cell (p := ⟨bb, off + i * 4 + 2, none⟩) hbb).trans c2
      have x3 := (hG.cell (p := ⟨bb, off + i * 4 + 3, none⟩) hbb).trans c3
      obtain ⟨w0, w1⟩ := HW.out i hil
      have hq1 : q < (len : Int) := by omega
      have hq3 : 0 ≤ q := by omega
      have hqn : q.toNat = i := by omega
      have HQ := Lib.hid hq
      have HI := Lib.hid hil
      have hwfi := Mt.wf_id w0 w1
      obtain ⟨c, hat, hci⟩ := HS.out _ hwfi
      have hkey : keyOf Tryz.prog 3 (.int .i64 (atB l i).1) = some (.int .i64 (atB l i).1) := keyOf_int_mk Tryz.underlying3 hwfi
      have HCI := Lib.hid hci
      obtain ⟨fb, hfb⟩ : ∃ fb, decide (Mt.okB (atB l i)) = fb := ⟨_, rfl⟩
      have HFB : Hid (decide (Mt.okB ((atB l i).1, (atB l i).2.1, (atB l i).2.2.1, (atB l i).2.2.2)) = fb) := Lib.hid hfb
      have HSt : Hid (∀ D : DataW Unit, Mt.Seen l i D → IsMap D → Mt.Seen l (i + 1) (D.put (.int .i64 (atB l i).1) (.lit (.bool true)))) := Lib.hid (fun D h hD => Mt.Seen.step h hD hwfi)
      have HK : Hid ((∀ m, m < i → (atB l m).1 ≠ (atB l i).1) → Mt.okB (atB l i) → (∀ j, j < i + 1 → Mt.okB (atB l j)) ∧ ∀ j m, j < i + 1 → m < j → (atB l m).1 ≠ (atB l j).1) := Lib.hid (fun h1 h2 => ⟨fun j hj => by
        by_cases e : j = i
        · subst e; exact h2
        · exact HE.out.1 j (by omega), fun j m hj hm => by
        by_cases e : j = i
        · subst e; exact h1 m hm
        · exact HE.out.2 j m (by omega) hm⟩)
      have HFB2 := Lib.hid hfb
      clear hc c0 c1 c2 c3 hq hil hci w0 w1 hfb
      cases c with
      | true =>
        have hf : f = false := by
          cases f with
          | false => rfl
          | true =>
            obtain ⟨m, hm, e⟩ := HCI.out.1 rfl
            exact absurd e ((HF.out.1 rfl).2.2.2 i m HI.out hm)
        subst hf
        clear HFB HSt HK HFB2 HCI
        generalize (atB l i).1 = n0 at *
        generalize (atB l i).2.1 = n1 at *
        generalize (atB l i).2.2.1 = n2 at *
        generalize (atB l i).2.2.2 = n3 at *
        go_wp2_with (first | (at_lookup; refine look_bool _ rfl _ _ 77 rfl 3 4 mapK Tryz.underlying77 Tryz.underlying4 (Tryz.zeroValue4 _) w.heap.size i D rfl (hown.alloc _) _ _ rfl hkey true hat ?_) | fail)
        go_ret
        exact ⟨rfl, hG.alloc hG.size _⟩
      | false =>
        have hnew : ∀ m, m < i → (atB l m).1 ≠ (atB l i).1 := fun m hm e => by have := HCI.out.2 ⟨m, hm, e⟩; cases this
        cases fb with
        | false =>
          have hf : f = false := by
            cases f with
            | false => rfl
            | true => exact absurd ((HF.out.1 rfl).2.2.1 i HI.out) (of_decide_eq_false HFB2.out)
          subst hf
          clear HSt HK HFB2 HCI hnew
          generalize (atB l i).1 = n0 at *
          generalize (atB l i).2.1 = n1 at *
          generalize (atB l i).2.2.1 = n2 at *
          generalize (atB l i).2.2.2 = n3 at *
          go_wp2_with (first | (at_lookup; refine look_bool _ rfl _ _ 77 rfl 3 4 mapK Tryz.underlying77 Tryz.underlying4 (Tryz.zeroValue4 _) w.heap.size i D rfl (hown.alloc _) _ _ rfl hkey false hat ?_) | (go_at_call 37; refine (misbar_is n0 n1 n2 n3 false HFB.out _).mono ?_; rintro e w2 ⟨rfl, hb⟩; have G2 := (hG.alloc hG.size (.cells #[.int .i64 n0, .int .i64 n1, .int .i64 n2, .int .i64 n3] 46)).trans (hb.mono (by have := hG.size; simp; omega)); clear hb) | fail)
          go_ret
          exact ⟨rfl, G2⟩
        | true =>
          have HE2 := Lib.hid (HK.out hnew (of_decide_eq_true HFB2.out))
          have HS2 := Lib.hid (HSt.out D HS.out (hown.tidy mapK).isMap)
          clear HSt HK HFB2 HCI hnew HS HE
          generalize (atB l i).1 = n0 at *
          generalize (atB l i).2.1 = n1 at *
          generalize (atB l i).2.2.1 = n2 at *
          generalize (atB l i).2.2.2 = n3 at *
          have B0 : At4 (wr.alloc (.cells #[.int .i64 n0, .int .i64 n1, .int .i64 n2, .int .i64 n3] 46)) wr.heap.size n0 n1 n2 n3 := At4.new _ _ _ _ _ _
          go_wp2_with (first | (at_lookup; refine look_bool _ rfl _ _ 77 rfl 3 4 mapK Tryz.underlying77 Tryz.underlying4 (Tryz.zeroValue4 _) w.heap.size i D rfl (hown.alloc _) _ _ rfl hkey false hat ?_) | (go_at_call 37; refine (misbar_is n0 n1 n2 n3 true HFB.out _).mono ?_; rintro e w2 ⟨rfl, hb⟩; have G2 := (hG.alloc hG.size (.cells #[.int .i64 n0, .int .i64 n1, .int .i64 n2, .int .i64 n3] 46)).trans (hb.mono (by have := hG.size; simp; omega)); have hown2 := (hown.alloc (.cells #[.int .i64 n0, .int .i64 n1, .int .i64 n2, .int .i64 n3] 46)).kept (below_grown' hb) (by simp); have b0 := (B0.below hb).c0; clear hb) | (at_mapUpdate; refine wpList_mapUpdate_own _ rfl _ _ _ 77 rfl 3 4 mapK Tryz.underlying77 _ w.heap.size i D rfl hown2 (by unfold maxLen; omega) _ _ _ rfl rfl hkey _ [] (plainElem_bool Tryz.underlying4 true) ?_; intro w3 hown3 hg3) | fail)
          go_roundw
          case rel => exact ⟨i + 1, q + 1, by omega, (by have := HQ.out; omega), rfl, HE2, ⟨_, hown3, HS2⟩, G2.grown hg3 G2.size (fun k hk => by cases hk; exact Nat.le_refl _)⟩
          case measure => have := HQ.out; simp [intOf]; omega
    · obtain rfl : i = len := by omega
      have hf : f = true := HF.out.2 ⟨by rw [HN.out]; exact hl1, by rw [HN.out]; exact hl4, by rw [HN.out]; exact HE.out.1, by rw [HN.out]; exact HE.out.2⟩
      subst hf
      have hq1 : ¬ q < (i : Int) := by omega
      clear hq
      go_wp2_with fail
      go_ret
      exact ⟨rfl, hG⟩
end Go.Proofs.YtahdlkdiadlgeaaGreat
