import Derived.Test.YtbbjifhelbeniaaGreatDoorGE
import Derived.Test.YtbbjifhelbeniaaGreatDoorGC
import Derived.Maps.OwnSet
/- The walks of meter's isBar, isPosition. -/
namespace Go.Proofs.YtbbjifhelbeniaaGreatDoor
open Go.RowKit

/-- A block of four integers. -/
structure At4 (w : World) (b : Nat) (x y z u : Int) : Prop where
  lt : b < w.heap.size
  c0 : w.cell? ⟨b, 0, none⟩ = some (.int .i64 x)
  c1 : w.cell? ⟨b, 1, none⟩ = some (.int .i64 y)
  c2 : w.cell? ⟨b, 2, none⟩ = some (.int .i64 z)
  c3 : w.cell? ⟨b, 3, none⟩ = some (.int .i64 u)
theorem At4.below {w w' : World} {b : Nat} {x y z u : Int} (h : At4 w b x y z u) (hb : Below w.heap.size w w') : At4 w' b x y z u :=
  ⟨Nat.lt_of_lt_of_le h.lt hb.size, (hb.cell (p := ⟨b, 0, none⟩) h.lt).trans h.c0, (hb.cell (p := ⟨b, 1, none⟩) h.lt).trans h.c1, (hb.cell (p := ⟨b, 2, none⟩) h.lt).trans h.c2, (hb.cell (p := ⟨b, 3, none⟩) h.lt).trans h.c3⟩
theorem At4.alloc {w : World} {b : Nat} {x y z u : Int} (h : At4 w b x y z u) (o : Obj) : At4 (w.alloc o) b x y z u :=
  h.below ((Below.refl _ _).alloc (Nat.le_refl _) _)
theorem At4.new (w : World) (x y z u : Int) (t : TypeId) : At4 (w.alloc (.cells #[.int .i64 x, .int .i64 y, .int .i64 z, .int .i64 u] t)) w.heap.size x y z u :=
  ⟨by simp, by go_simp, by go_simp, by go_simp, by go_simp⟩

set_option maxHeartbeats 1600000 in
theorem misbar_is (i n d k : Int) (f : Bool) (h : decide (Mt.okB (i, n, d, k)) = f) (w : World) :
    Calls Tryz.prog 114 #[.agg #[.int .i64 i, .int .i64 n, .int .i64 d, .int .i64 k]] w fun e w' => e = .returned (.bool f) ∧ Below w.heap.size w w' := by
  have G0 := (Below.refl w.heap.size w).alloc (Nat.le_refl _) (.cells #[.int .i64 i, .int .i64 n, .int .i64 d, .int .i64 k] 43)
  have A0 : At4 (w.alloc (.cells #[.int .i64 i, .int .i64 n, .int .i64 d, .int .i64 k] 43)) w.heap.size i n d k := At4.new _ _ _ _ _ _
  have h' : decide (1 ≤ i ∧ i ≤ 1000000 ∧ 1 ≤ Mt.tk n d ∧ Mt.tk n d ≤ 40320 ∧ -7 ≤ k ∧ k ≤ 7) = f := h
  clear h
  obtain ⟨t, ht⟩ : ∃ t, Mt.tk n d = t := ⟨_, rfl⟩
  rw [ht] at h'
  by_cases h1 : 1 ≤ i ∧ i ≤ 1000000
  case neg =>
    rw [decide_eq_false (by omega)] at h'
    subst h'
    clear ht
    have H1 := Lib.hid (decide_eq_false h1)
    clear h1
    go_enter Tryz.func114, Tryz.ntmps114
    go_wp2_with fail
    refine (tisid_is i false H1.out _).mono ?_; rintro e w1 ⟨rfl, hb⟩
    have G1 := G0.trans (hb.mono G0.size)
    clear hb A0
    go_wp2_with fail
    go_ret
    exact ⟨rfl, G1⟩
  by_cases h2 : -7 ≤ k ∧ k ≤ 7
  case neg =>
    rw [decide_eq_false (by omega)] at h'
    subst h'
    clear ht
    have H1 := Lib.hid (decide_eq_true h1)
    have H2 := Lib.hid (decide_eq_false h2)
    clear h1 h2
    go_enter Tryz.func114, Tryz.ntmps114
    go_wp2_with fail
    refine (tisid_is i true H1.out _).mono ?_; rintro e w1 ⟨rfl, hb⟩
    have A1 := A0.below hb
    have G1 := G0.trans (hb.mono G0.size)
    clear hb A0
    have c0_3 := A1.c3
    go_wp2_with fail
    clear c0_3
    refine (tbetween_is k (-7) 7 false H2.out _).mono ?_; rintro e w2 ⟨rfl, hb⟩
    have G2 := G1.trans (hb.mono G1.size)
    clear hb A1
    go_wp2_with fail
    go_ret
    exact ⟨rfl, G2⟩
  have H1 := Lib.hid (decide_eq_true h1)
  have H2 := Lib.hid (decide_eq_true h2)
  by_cases h5 : 0 ≤ t
  · have hq : decide (0 ≤ Mt.tk n d) = true := by rw [ht]; simpa using h5
    have hp := Mt.tk_pos_n (n := n) (d := d) (by omega)
    rw [ht] at hp
    have HQ := Lib.hid hq
    have HT := Lib.hid ht
    clear hq ht
    by_cases h6 : 0 < n
    · have h7 : 1 ≤ t := hp.1 h6
      have hf : decide (t ≤ 40320) = f := by
        rw [← h']
        by_cases h8 : t ≤ 40320
        · rw [decide_eq_true h8, decide_eq_true (by omega)]
        · rw [decide_eq_false h8, decide_eq_false (by omega)]
      subst hf
      clear hp h7 h' h1 h2
      go_enter Tryz.func114, Tryz.ntmps114
      go_wp2_with (first | (go_at_call 34; refine (tisid_is i true H1.out _).mono ?_; rintro e w1 ⟨rfl, hb⟩; have A1 := A0.below hb; have c0_3 := A1.c3; have G1 := G0.trans (hb.mono G0.size); clear hb A0) | (go_at_call 63; refine (tbetween_is k (-7) 7 true H2.out _).mono ?_; rintro e w2 ⟨rfl, hb⟩; have A2 := A1.below hb; obtain ⟨b0, b1⟩ := And.intro A2.c1 A2.c2; have G2 := G1.trans (hb.mono G1.size); clear hb A1 c0_3) | (go_at_call 125; refine (mduration_is n d true HQ.out _).mono ?_; rintro e w3 ⟨rfl, hb⟩; have A3 := A2.below hb; obtain ⟨d0, d1⟩ := And.intro A3.c1 A3.c2; have G3 := G2.trans (hb.mono G2.size); clear hb b0 b1) | (go_at_call 102; refine (munits_is n d t HT.out h5 _).mono ?_; rintro e w4 ⟨rfl, hb⟩; have G4 := G3.trans (hb.mono G3.size); clear hb) | fail)
      go_ret
      exact ⟨rfl, G4⟩
    · have hf : f = false := by rw [← h', decide_eq_false (by omega)]
      subst hf
      clear hp h' h1 h2
      go_enter Tryz.func114, Tryz.ntmps114
      go_wp2_with (first | (go_at_call 34; refine (tisid_is i true H1.out _).mono ?_; rintro e w1 ⟨rfl, hb⟩; have A1 := A0.below hb; have c0_3 := A1.c3; have G1 := G0.trans (hb.mono G0.size); clear hb A0) | (go_at_call 63; refine (tbetween_is k (-7) 7 true H2.out _).mono ?_; rintro e w2 ⟨rfl, hb⟩; have A2 := A1.below hb; obtain ⟨b0, b1⟩ := And.intro A2.c1 A2.c2; have G2 := G1.trans (hb.mono G1.size); clear hb A1 c0_3) | (go_at_call 125; refine (mduration_is n d true HQ.out _).mono ?_; rintro e w3 ⟨rfl, hb⟩; have A3 := A2.below hb; obtain ⟨d0, d1⟩ := And.intro A3.c1 A3.c2; have G3 := G2.trans (hb.mono G2.size); clear hb b0 b1) | fail)
      go_ret
      exact ⟨rfl, G3⟩
  · have hq : decide (0 ≤ Mt.tk n d) = false := by rw [ht]; simpa using h5
    have hf : f = false := by rw [← h', decide_eq_false (by omega)]
    subst hf
    have HQ := Lib.hid hq
    clear hq ht h' h1 h2
    go_enter Tryz.func114, Tryz.ntmps114
    go_wp2_with (first | (go_at_call 34; refine (tisid_is i true H1.out _).mono ?_; rintro e w1 ⟨rfl, hb⟩; have A1 := A0.below hb; have c0_3 := A1.c3; have G1 := G0.trans (hb.mono G0.size); clear hb A0) | (go_at_call 63; refine (tbetween_is k (-7) 7 true H2.out _).mono ?_; rintro e w2 ⟨rfl, hb⟩; have A2 := A1.below hb; obtain ⟨b0, b1⟩ := And.intro A2.c1 A2.c2; have G2 := G1.trans (hb.mono G1.size); clear hb A1 c0_3) | (go_at_call 125; refine (mduration_is n d false HQ.out _).mono ?_; rintro e w3 ⟨rfl, hb⟩; have A3 := A2.below hb; obtain ⟨d0, d1⟩ := And.intro A3.c1 A3.c2; have G3 := G2.trans (hb.mono G2.size); clear hb b0 b1) | fail)
    go_ret
    exact ⟨rfl, G3⟩

end Go.Proofs.YtbbjifhelbeniaaGreatDoor

/- The walk of meter's Valid: a map of the IDs that have been seen. -/
namespace Go.Proofs.YtbbjifhelbeniaaGreatDoor
open Go.RowKit Go.Maps

/-- What a map's element of the kind bool reads as says what it is. -/
theorem plainElem_bool_back {H : Type} {P : Program} {e : TypeId} (he : P.underlying e = some .bool) {v : Value} {c : Bool} {ps : List MemPlace} (h : plainElem (H := H) P e v = some (.lit (.bool c), ps)) : v = .bool c := by
  unfold plainElem at h
  rw [he] at h
  cases v <;> simp at h
  rw [h.1]
/-- 'm[k]' in a map of bools that the call made. -/
theorem look_bool {P : Program} (w : World) {ops : Array Oper} {rest : List Oper} {o : Oper} {a : Act} {Q : Exit → Act → World → Prop}
    (hg : o.guard = none) (m x : Operand) (t : TypeId) (hop : o.op = Op.lookup t m x false)
    (k e : TypeId) (K : Keyed P k) (ht : P.underlying t = some (.map k e)) (he : P.underlying e = some .bool) (hz : (zeroValue e).run P w = .ok (.bool false) w) (b n : Nat) (D : DataW Unit)
    (hm : a.eval m = .map (some b)) (hown : w.ownsMap P k (plainElem P e) b n D) (key : Value) (kl : Lit) (hx : a.eval x = key) (hkey : keyOf P k key = some kl) (c : Bool) (hc : D.atKey kl (.lit (.bool false)) = .lit (.bool c))
    (hK : wpList P ops Q rest (a.put o.dst (.bool c)) w) : wpList P ops Q (o :: rest) a w := by
  refine wpList_plain hg fun K' hK' => ?_
  obtain ⟨v, ps, hrun, hv⟩ := hown.lookup K ht hz (plainElem_bool he false) hkey
  rw [hc] at hv
  obtain rfl := plainElem_bool_back he hv
  unfold Oper.wp
  simp [execOp, hop, hm, hx, hrun, Result.andThen]
  exact hK' _ _ hK
theorem run_mkHint (n : Int) (w : World) : (Instr.makeMap 95 (some (.int .i64 n))).run Tryz.prog w = .ok (.map (some w.heap.size)) (w.alloc (.map #[] 0)) := by
  simp [Instr.makeMap, run_underlying Tryz.underlying95, asInt, asIntOf, Result.andThen]

namespace Mt
/-- IDs are 64 bit integers. -/
def Wf (l : List B) : Prop := ∀ j, j < l.length → -9223372036854775808 ≤ (atB l j).1 ∧ (atB l j).1 ≤ 9223372036854775807
/-- The map holds the IDs of the first i bars. -/
def Seen (l : List B) (i : Nat) (D : DataW Unit) : Prop :=
  ∀ id : Int, (Lit.int .i64 id).wf = true → ∃ c : Bool, D.atKey (.int .i64 id) (.lit (.bool false)) = .lit (.bool c) ∧ (c = true ↔ ∃ m, m < i ∧ (atB l m).1 = id)
theorem Seen.start (l : List B) : Seen l 0 (.map []) := fun id _ => ⟨false, rfl, by simp⟩
theorem wf_id {x : Int} (h0 : -9223372036854775808 ≤ x) (h1 : x ≤ 9223372036854775807) : (Lit.int .i64 x).wf = true := WalkArith.wf_i64 (by omega)
end Mt
theorem mapK : Keyed Tryz.prog 3 := int_keyed Tryz.underlying3
theorem Mt.Seen.step {l : List B} {i : Nat} {D : DataW Unit} (h : Seen l i D) (hD : IsMap D) (hw : (Lit.int .i64 (atB l i).1).wf = true) : Seen l (i + 1) (D.put (.int .i64 (atB l i).1) (.lit (.bool true))) := fun id hid => by
  by_cases e : id = (atB l i).1
  · subst e
    exact ⟨true, atKey_put_same hD (mapK.key (keyOf_int_mk Tryz.underlying3 hid)) _ _, by simp only [true_iff]; exact ⟨i, by omega, rfl⟩⟩
  · obtain ⟨c, h1, h2⟩ := h id hid
    refine ⟨c, ?_, ?_⟩
    · rw [atKey_put_other (fun e2 => e (by simpa using e2))]
      exact h1
    · rw [h2]
      constructor
      · rintro ⟨m, hm, e2⟩
        exact ⟨m, by omega, e2⟩
      · rintro ⟨m, hm, e2⟩
        refine ⟨m, ?_, e2⟩
        rcases Nat.lt_or_eq_of_le (Nat.le_of_lt_succ hm) with h3 | h3
        · exact h3
        · subst h3; exact absurd e2.symm e

theorem below_grown' {a b : World} (h : Below a.heap.size a b) : a.grownBy b none := ⟨h.os, h.tape, h.output, h.size, fun i hi _ => h.block i hi⟩

set_option maxHeartbeats 1600000 in
theorem mvalid_is (l : List Mt.B) (f : Bool) (len cap : Nat) (A : Option Addr) (h : f = true ↔ Mt.Val l) (hl : l.length = len) (hwf : Mt.Wf l) (w : World) (hL : SlB w A l) :
    Calls Tryz.prog 93 #[.slice A len cap] w fun e w' => e = .returned (.bool f) ∧ Below w.heap.size w w' := by
  have HF := Lib.hid h
  have HN := Lib.hid hl
  have HL := Lib.hid hL
  have HW := Lib.hid hwf
  clear h hl hL hwf
  by_cases h1 : len < 1
  · have hf : f = false := by
      cases f with
      | false => rfl
      | true => have := (HF.out.1 rfl).1; rw [HN.out] at this; omega
    subst hf
    have h1' : len = 0 := by omega
    subst h1'
    clear h1
    go_enter Tryz.func93, Tryz.ntmps93
    go_wp2_with fail
    go_ret
    exact ⟨rfl, Below.refl _ _⟩
  by_cases h2 : 4000 < len
  · have hf : f = false := by
      cases f with
      | false => rfl
      | true => have := (HF.out.1 rfl).2.1; rw [HN.out] at this; omega
    subst hf
    have h1' : ((len : Int) == 0) = false := by simp; omega
    have h2' : (4000 : Int) < (len : Int) := by omega
    clear h1 h2
    go_enter Tryz.func93, Tryz.ntmps93
    go_wp2_with fail
    go_ret
    exact ⟨rfl, Below.refl _ _⟩
  have h1' : ((len : Int) == 0) = false := by simp; omega
  have h2' : ¬ (4000 : Int) < (len : Int) := by omega
  have hl1 : 1 ≤ len := by omega
  have hl4 : len ≤ 4000 := by omega
  clear h1 h2
  have hmm := run_mkHint
  go_enter Tryz.func93, Tryz.ntmps93
  go_wp2_with fail
  go_loopw [19] (fun s19 wr => ∃ (i : Nat) (q : Int), i ≤ len ∧ q = i ∧ s19 = .int .i64 q ∧ Hid ((∀ j, j < i → Mt.okB (atB l j)) ∧ ∀ j k, j < i → k < j → (atB l k).1 ≠ (atB l j).1) ∧ (∃ D : DataW Unit, wr.ownsMap Tryz.prog 3 (plainElem Tryz.prog 4) w.heap.size i D ∧ Hid (Mt.Seen l i D)) ∧ Below w.heap.size w wr) (fun s19 _ => len - (intOf s19).toNat)
  case atStart => exact ⟨0, 0, Nat.zero_le _, rfl, rfl, Lib.hid ⟨fun j hj => by omega, fun j k hj => by omega⟩, ⟨.map [], World.ownsMap_made _ _ _ _, Lib.hid (Mt.Seen.start l)⟩, (Below.refl _ _).alloc (Nat.le_refl _) _⟩
  case round =>
    clear hmm
    obtain ⟨i, q, hi, hq, rfl, HE, ⟨D, hown, HS⟩, hG⟩ := hrel
    by_cases hlt : i < len
    · have hil : i < l.length := by rw [HN.out]; omega
      obtain ⟨bb, off, rfl, hbb, hc⟩ := HL.out (by omega)
      have HC := Lib.hid hc
      obtain ⟨c0, c1, c2, c3⟩ := hc i hil
      have x0 := (hG.cell (p := ⟨bb, off + i * 4, none⟩) hbb).trans c0
      have x1 := (hG.cell (p := ⟨bb, off + i * 4 + 1, none⟩) hbb).trans c1
      have x2 := (hG.cell (p := ⟨bb, off + i * 4 + 2, none⟩) hbb).trans c2
      have x3 := (hG.cell (p := ⟨bb, off + i * 4 + 3, none⟩) hbb).trans c3
      obtain ⟨w0, w1⟩ := HW.out i hil
      have hq1 : q < (len : Int) := by omega
      have hq3 : 0 ≤ q := by omega
      have hqn : q.toNat = i := by omega
      have HQ := Lib.hid hq
      have HI := Lib.hid hil
      have hwfi := Mt.wf_id w0 w1
      obtain ⟨c, hat, hci⟩ := HS.out _ hwfi
      have hkey : keyOf Tryz.prog 3 (.int .i64 (atB l i).1) = some (.int .i64 (atB l i).1) := keyOf_int_mk Tryz.underlying3 hwfi
      have HCI := Lib.hid hci
      obtain ⟨fb, hfb⟩ : ∃ fb, decide (Mt.okB (atB l i)) = fb := ⟨_, rfl⟩
      have HFB : Hid (decide (Mt.okB ((atB l i).1, (atB l i).2.1, (atB l i).2.2.1, (atB l i).2.2.2)) = fb) := Lib.hid hfb
      have HSt : Hid (∀ D : DataW Unit, Mt.Seen l i D → IsMap D → Mt.Seen l (i + 1) (D.put (.int .i64 (atB l i).1) (.lit (.bool true)))) := Lib.hid (fun D h hD => Mt.Seen.step h hD hwfi)
      have HK : Hid ((∀ m, m < i → (atB l m).1 ≠ (atB l i).1) → Mt.okB (atB l i) → (∀ j, j < i + 1 → Mt.okB (atB l j)) ∧ ∀ j m, j < i + 1 → m < j → (atB l m).1 ≠ (atB l j).1) := Lib.hid (fun h1 h2 => ⟨fun j hj => by
        by_cases e : j = i
        · subst e; exact h2
        · exact HE.out.1 j (by omega), fun j m hj hm => by
        by_cases e : j = i
        · subst e; exact h1 m hm
        · exact HE.out.2 j m (by omega) hm⟩)
      have HFB2 := Lib.hid hfb
      clear hc c0 c1 c2 c3 hq hil hci w0 w1 hfb
      cases c with
      | true =>
        have hf : f = false := by
          cases f with
          | false => rfl
          | true =>
            obtain ⟨m, hm, e⟩ := HCI.out.1 rfl
            exact absurd e ((HF.out.1 rfl).2.2.2 i m HI.out hm)
        subst hf
        clear HFB HSt HK HFB2 HCI
        generalize (atB l i).1 = n0 at *
        generalize (atB l i).2.1 = n1 at *
        generalize (atB l i).2.2.1 = n2 at *
        generalize (atB l i).2.2.2 = n3 at *
        go_wp2_with (first | (at_lookup; refine look_bool _ rfl _ _ 95 rfl 3 4 mapK Tryz.underlying95 Tryz.underlying4 (Tryz.zeroValue4 _) w.heap.size i D rfl (hown.alloc _) _ _ rfl hkey true hat ?_) | fail)
        go_ret
        exact ⟨rfl, hG.alloc hG.size _⟩
      | false =>
        have hnew : ∀ m, m < i → (atB l m).1 ≠ (atB l i).1 := fun m hm e => by have := HCI.out.2 ⟨m, hm, e⟩; cases this
        cases fb with
        | false =>
          have hf : f = false := by
            cases f with
            | false => rfl
            | true => exact absurd ((HF.out.1 rfl).2.2.1 i HI.out) (of_decide_eq_false HFB2.out)
          subst hf
          clear HSt HK HFB2 HCI hnew
          generalize (atB l i).1 = n0 at *
          generalize (atB l i).2.1 = n1 at *
          generalize (atB l i).2.2.1 = n2 at *
          generalize (atB l i).2.2.2 = n3 at *
          go_wp2_with (first | (at_lookup; refine look_bool _ rfl _ _ 95 rfl 3 4 mapK Tryz.underlying95 Tryz.underlying4 (Tryz.zeroValue4 _) w.heap.size i D rfl (hown.alloc _) _ _ rfl hkey false hat ?_) | (go_at_call 114; refine (misbar_is n0 n1 n2 n3 false HFB.out _).mono ?_; rintro e w2 ⟨rfl, hb⟩; have G2 := (hG.alloc hG.size (.cells #[.int .i64 n0, .int .i64 n1, .int .i64 n2, .int .i64 n3] 43)).trans (hb.mono (by have := hG.size; simp; omega)); clear hb) | fail)
          go_ret
          exact ⟨rfl, G2⟩
        | true =>
          have HE2 := Lib.hid (HK.out hnew (of_decide_eq_true HFB2.out))
          have HS2 := Lib.hid (HSt.out D HS.out (hown.tidy mapK).isMap)
          clear HSt HK HFB2 HCI hnew HS HE
          generalize (atB l i).1 = n0 at *
          generalize (atB l i).2.1 = n1 at *
          generalize (atB l i).2.2.1 = n2 at *
          generalize (atB l i).2.2.2 = n3 at *
          have B0 : At4 (wr.alloc (.cells #[.int .i64 n0, .int .i64 n1, .int .i64 n2, .int .i64 n3] 43)) wr.heap.size n0 n1 n2 n3 := At4.new _ _ _ _ _ _
          go_wp2_with (first | (at_lookup; refine look_bool _ rfl _ _ 95 rfl 3 4 mapK Tryz.underlying95 Tryz.underlying4 (Tryz.zeroValue4 _) w.heap.size i D rfl (hown.alloc _) _ _ rfl hkey false hat ?_) | (go_at_call 114; refine (misbar_is n0 n1 n2 n3 true HFB.out _).mono ?_; rintro e w2 ⟨rfl, hb⟩; have G2 := (hG.alloc hG.size (.cells #[.int .i64 n0, .int .i64 n1, .int .i64 n2, .int .i64 n3] 43)).trans (hb.mono (by have := hG.size; simp; omega)); have hown2 := (hown.alloc (.cells #[.int .i64 n0, .int .i64 n1, .int .i64 n2, .int .i64 n3] 43)).kept (below_grown' hb) (by simp); have b0 := (B0.below hb).c0; clear hb) | (at_mapUpdate; refine wpList_mapUpdate_own _ rfl _ _ _ 95 rfl 3 4 mapK Tryz.underlying95 _ w.heap.size i D rfl hown2 (by unfold maxLen; omega) _ _ _ rfl rfl hkey _ [] (plainElem_bool Tryz.underlying4 true) ?_; intro w3 hown3 hg3) | fail)
          go_roundw
          case rel => exact ⟨i + 1, q + 1, by omega, (by have := HQ.out; omega), rfl, HE2, ⟨_, hown3, HS2⟩, G2.grown hg3 G2.size (fun k hk => by cases hk; exact Nat.le_refl _)⟩
          case measure => have := HQ.out; simp [intOf]; omega
    · obtain rfl : i = len := by omega
      have hf : f = true := HF.out.2 ⟨by rw [HN.out]; exact hl1, by rw [HN.out]; exact hl4, by rw [HN.out]; exact HE.out.1, by rw [HN.out]; exact HE.out.2⟩
      subst hf
      have hq1 : ¬ q < (i : Int) := by omega
      clear hq
      go_wp2_with fail
      go_ret
      exact ⟨rfl, hG⟩
end Go.Proofs.YtbbjifhelbeniaaGreatDoor

/- The walk of notes' indexes: a map from the IDs of bars to where they are. -/
namespace Go.Proofs.YtbbjifhelbeniaaGreatDoor
open Go.RowKit Go.Maps

theorem run_mkHintI (n : Int) (w : World) : (Instr.makeMap 119 (some (.int .i64 n))).run Tryz.prog w = .ok (.map (some w.heap.size)) (w.alloc (.map #[] 0)) := by
  simp [Instr.makeMap, run_underlying Tryz.underlying119, asInt, asIntOf, Result.andThen]

namespace No
theorem bix_eq {l : List Mt.B} (hd : ∀ j k, j < l.length → k < j → (atB l k).1 ≠ (atB l j).1) {m : Nat} (hm : m < l.length) : bix l (atB l m).1 = m := by
  rcases Int.lt_or_le (bix l (atB l m).1) 0 with h | h
  · have e : atB l m ∈ l := by rw [atB_eq hm]; exact List.getElem_mem hm
    exact absurd rfl (bix_none h _ e)
  · have h1 := bix_at h
    have h2 := bix_lt l (atB l m).1
    have h3 : (bix l (atB l m).1).toNat < l.length := by omega
    rcases Nat.lt_trichotomy (bix l (atB l m).1).toNat m with h4 | h4 | h4
    · exact absurd h1 (hd m _ hm h4)
    · omega
    · exact absurd h1.symm (hd _ m h3 h4)

/-- The map holds where the first i bars are. -/
def IdxAt (l : List Mt.B) (i : Nat) (D : DataW Unit) : Prop :=
  ∀ id : Int, (Lit.int .i64 id).wf = true → (Maps.has D (.int .i64 id) = true → ∃ m, m < i ∧ (atB l m).1 = id ∧ D.atKey (.int .i64 id) (.lit (.int .i64 0)) = .lit (.int .i64 (m : Int))) ∧ (Maps.has D (.int .i64 id) = false → ∀ m, m < i → (atB l m).1 ≠ id)
/-- The map holds where bars are. -/
def Idx (l : List Mt.B) (D : DataW Unit) : Prop :=
  ∀ id : Int, (Lit.int .i64 id).wf = true → Maps.has D (.int .i64 id) = decide (0 ≤ bix l id) ∧ D.atKey (.int .i64 id) (.lit (.int .i64 0)) = .lit (.int .i64 (if 0 ≤ bix l id then bix l id else 0))
theorem Idx.of {l : List Mt.B} {D : DataW Unit} (hd : ∀ j k, j < l.length → k < j → (atB l k).1 ≠ (atB l j).1) (h : IdxAt l l.length D) : Idx l D := fun id hid => by
  obtain ⟨h1, h2⟩ := h id hid
  cases e : Maps.has D (.int .i64 id) with
  | true =>
    obtain ⟨m, hm, rfl, ha⟩ := h1 e
    have hb := bix_eq hd hm
    have h0 : 0 ≤ bix l (atB l m).1 := by omega
    rw [if_pos h0, ha, hb]
    exact ⟨(decide_eq_true (by omega)).symm, rfl⟩
  | false =>
    have h3 := h2 e
    have h0 : ¬ 0 ≤ bix l id := fun h0 => by
      have h4 := bix_at h0
      have h5 := bix_lt l id
      exact h3 _ (by omega) h4
    rw [if_neg h0, atKey_of_not_has e]
    exact ⟨(decide_eq_false h0).symm, rfl⟩
theorem IdxAt.start (l : List Mt.B) : IdxAt l 0 (.map []) := fun id _ => And.intro (fun h => absurd h (by simp [Maps.has])) (fun _ m hm => absurd hm (Nat.not_lt_zero _))
theorem IdxAt.step {l : List Mt.B} {i : Nat} {D : DataW Unit} (h : IdxAt l i D) (hD : IsMap D) (hw : (Lit.int .i64 (atB l i).1).wf = true) : IdxAt l (i + 1) (D.put (.int .i64 (atB l i).1) (.lit (.int .i64 (i : Int)))) := fun id hid => by
  by_cases e : id = (atB l i).1
  · subst e
    have hk := mapK.key (keyOf_int_mk Tryz.underlying3 hid)
    refine ⟨fun _ => ⟨i, by omega, rfl, ?_⟩, fun h2 => ?_⟩
    · exact atKey_put_same hD hk _ _
    · rw [has_put_same hD hk] at h2; cases h2
  · have hne : (Lit.int .i64 id) ≠ (Lit.int .i64 (atB l i).1) := fun e2 => e (by simpa using e2)
    obtain ⟨h1, h2⟩ := h id hid
    rw [has_put_other hne, atKey_put_other hne]
    refine ⟨fun h3 => ?_, fun h3 m hm => ?_⟩
    · obtain ⟨m, hm, e2, ha⟩ := h1 h3
      exact ⟨m, by omega, e2, ha⟩
    · rcases Nat.lt_or_eq_of_le (Nat.le_of_lt_succ hm) with h4 | h4
      · exact h2 h3 m h4
      · subst h4; exact fun e2 => e e2.symm
end No

/-- 'v := m[k]' and 'v, ok := m[k]' in a map of integers that the call made. -/
theorem look_int {P : Program} (w : World) {ops : Array Oper} {rest : List Oper} {o : Oper} {a : Act} {Q : Exit → Act → World → Prop}
    (hg : o.guard = none) (m x : Operand) (t : TypeId) (hop : o.op = Op.lookup t m x false)
    (k e : TypeId) (K : Keyed P k) (ht : P.underlying t = some (.map k e)) (he : P.underlying e = some (.int .i64)) (hz : (zeroValue e).run P w = .ok (.int .i64 0) w) (b n : Nat) (D : DataW Unit)
    (hm : a.eval m = .map (some b)) (hown : w.ownsMap P k (plainElem P e) b n D) (key : Value) (kl : Lit) (hx : a.eval x = key) (hkey : keyOf P k key = some kl) (c : Int) (hc : D.atKey kl (.lit (.int .i64 0)) = .lit (.int .i64 c))
    (hK : wpList P ops Q rest (a.put o.dst (.int .i64 c)) w) : wpList P ops Q (o :: rest) a w := by
  refine wpList_plain hg fun K' hK' => ?_
  obtain ⟨c2, hrun, hv, _⟩ := hown.lookup_int K ht he hz hkey
  rw [hc] at hv
  obtain rfl : c = c2 := by simpa using hv
  unfold Oper.wp
  simp [execOp, hop, hm, hx, hrun, Result.andThen]
  exact hK' _ _ hK
theorem look_int_ok {P : Program} (w : World) {ops : Array Oper} {rest : List Oper} {o : Oper} {a : Act} {Q : Exit → Act → World → Prop}
    (hg : o.guard = none) (m x : Operand) (t : TypeId) (hop : o.op = Op.lookup t m x true)
    (k e : TypeId) (K : Keyed P k) (ht : P.underlying t = some (.map k e)) (he : P.underlying e = some (.int .i64)) (hz : (zeroValue e).run P w = .ok (.int .i64 0) w) (b n : Nat) (D : DataW Unit)
    (hm : a.eval m = .map (some b)) (hown : w.ownsMap P k (plainElem P e) b n D) (key : Value) (kl : Lit) (hx : a.eval x = key) (hkey : keyOf P k key = some kl) (c : Int) (hc : D.atKey kl (.lit (.int .i64 0)) = .lit (.int .i64 c)) (f : Bool) (hf : Maps.has D kl = f)
    (hK : wpList P ops Q rest (a.put o.dst (.tuple #[.int .i64 c, .bool f])) w) : wpList P ops Q (o :: rest) a w :=
  wpList_lookup_own_ok_int w hg m x t hop k e .i64 K ht he hz b n D hm hown key kl hx hkey (fun c2 h2 _ => by
    rw [hc] at h2
    obtain rfl : c = c2 := by simpa using h2
    rw [hf]
    exact hK)

set_option maxHeartbeats 1600000 in
theorem tindexes_is (l : List Mt.B) (len cap : Nat) (A : Option Addr) (hl : l.length = len) (hval : Mt.Val l) (w : World) (hL : SlB w A l) :
    Calls Tryz.prog 94 #[.slice A len cap] w fun e w' => e = .returned (.map (some w.heap.size)) ∧ Below w.heap.size w w' ∧ ∃ D : DataW Unit, w'.ownsMap Tryz.prog 3 (plainElem Tryz.prog 3) w.heap.size len D ∧ No.Idx l D := by
  have HN := Lib.hid hl
  have HL := Lib.hid hL
  have HV := Lib.hid hval
  have hl1 : 1 ≤ len := by have := hval.1; omega
  have hl4 : len ≤ 4000 := by have := hval.2.1; omega
  clear hl hL hval
  have hmm := run_mkHintI
  go_enter Tryz.func94, Tryz.ntmps94
  go_wp2_with fail
  go_loopw [11] (fun s11 wr => ∃ (i : Nat) (q : Int), i ≤ len ∧ q = i ∧ s11 = .int .i64 q ∧ (∃ D : DataW Unit, wr.ownsMap Tryz.prog 3 (plainElem Tryz.prog 3) w.heap.size i D ∧ Hid (No.IdxAt l i D)) ∧ Below w.heap.size w wr) (fun s11 _ => len - (intOf s11).toNat)
  case atStart => exact ⟨0, 0, Nat.zero_le _, rfl, rfl, ⟨.map [], World.ownsMap_made _ _ _ _, Lib.hid (No.IdxAt.start l)⟩, (Below.refl _ _).alloc (Nat.le_refl _) _⟩
  case round =>
    clear hmm
    obtain ⟨i, q, hi, hq, rfl, ⟨D, hown, HS⟩, hG⟩ := hrel
    by_cases hlt : i < len
    · have hil : i < l.length := by rw [HN.out]; omega
      obtain ⟨bb, off, rfl, hbb, hc⟩ := HL.out (by omega)
      have HC := Lib.hid hc
      obtain ⟨c0, c1, c2, c3⟩ := hc i hil
      have x0 := (hG.cell (p := ⟨bb, off + i * 4, none⟩) hbb).trans c0
      have x1 := (hG.cell (p := ⟨bb, off + i * 4 + 1, none⟩) hbb).trans c1
      have x2 := (hG.cell (p := ⟨bb, off + i * 4 + 2, none⟩) hbb).trans c2
      have x3 := (hG.cell (p := ⟨bb, off + i * 4 + 3, none⟩) hbb).trans c3
      have hok := HV.out.2.2.1 i hil
      have hq1 : q < (len : Int) := by omega
      have hq3 : 0 ≤ q := by omega
      have hqn : q.toNat = i := by omega
      have HQ := Lib.hid hq
      have hwfi : (Lit.int .i64 (atB l i).1).wf = true := Mt.wf_id (by have := hok.1; omega) (by have := hok.2.1; omega)
      have hkey : keyOf Tryz.prog 3 (.int .i64 (atB l i).1) = some (.int .i64 (atB l i).1) := keyOf_int_mk Tryz.underlying3 hwfi
      have hwq : (Lit.int .i64 q).wf = true := Mt.wf_id (by omega) (by omega)
      have HS2 := Lib.hid (HS.out.step (hown.tidy mapK).isMap hwfi)
      rw [← hq] at HS2
      clear hc c0 c1 c2 c3 hq hil hok hwfi HS
      generalize (atB l i).1 = n0 at *
      generalize (atB l i).2.1 = n1 at *
      generalize (atB l i).2.2.1 = n2 at *
      generalize (atB l i).2.2.2 = n3 at *
      have B0 : At4 (wr.alloc (.cells #[.int .i64 n0, .int .i64 n1, .int .i64 n2, .int .i64 n3] 43)) wr.heap.size n0 n1 n2 n3 := At4.new _ _ _ _ _ _
      have hown2 := hown.alloc (.cells #[.int .i64 n0, .int .i64 n1, .int .i64 n2, .int .i64 n3] 43)
      have b0 := B0.c0
      go_wp2_with (first | (at_mapUpdate; refine wpList_mapUpdate_own _ rfl _ _ _ 119 rfl 3 3 mapK Tryz.underlying119 _ w.heap.size i D rfl hown2 (by unfold maxLen; omega) _ _ _ rfl rfl hkey _ [] (plainElem_int Tryz.underlying3 hwq) ?_; intro w3 hown3 hg3) | fail)
      go_roundw
      case rel => exact ⟨i + 1, q + 1, by omega, (by have := HQ.out; omega), rfl, ⟨_, hown3, HS2⟩, (hG.alloc hG.size _).grown hg3 (by have := hG.size; simp; omega) (fun k hk => by cases hk; exact Nat.le_refl _)⟩
      case measure => have := HQ.out; simp [intOf]; omega
    · obtain rfl : i = len := by omega
      have hq1 : ¬ q < (i : Int) := by omega
      clear hq
      go_wp2_with fail
      go_ret
      refine ⟨rfl, hG, D, hown, No.Idx.of HV.out.2.2.2 ?_⟩
      rw [HN.out]
      exact HS.out
end Go.Proofs.YtbbjifhelbeniaaGreatDoor
