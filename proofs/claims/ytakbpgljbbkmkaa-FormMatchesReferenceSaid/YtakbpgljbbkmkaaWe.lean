/- Keys that are cuts; the walk of reprise's areCuts: a map of the cuts that have been seen. -/
import Derived.Test.YtakbpgljbbkmkaaWd
import Derived.Maps.OwnSet
import Derived.DeepKeys5
import Derived.WideKeyPair
namespace Go.Proofs.Ytakbpgljbbkmkaa
open Go.RowKit Go.Maps Go.WideMaps

/-- What a map's element of the kind bool reads as says what it is. -/
theorem plainElem_bool_back {H : Type} {P : Program} {e : TypeId} (he : P.underlying e = some .bool) {v : Value} {c : Bool} {ps : List MemPlace} (h : plainElem (H := H) P e v = some (.lit (.bool c), ps)) : v = .bool c := by
  unfold plainElem at h
  rw [he] at h
  cases v <;> simp at h
  rw [h.1]
/-- 'm[k]' in a map of bools that the call made. -/
theorem look_bool {P : Program} (w : World) {ops : Array Oper} {rest : List Oper} {o : Oper} {a : Act} {Q : Exit → Act → World → Prop}
    (hg : o.guard = none) (m x : Operand) (t : TypeId) (hop : o.op = Op.lookup t m x false)
    (k e : TypeId) (K : Keyed P k) (ht : P.underlying t = some (.map k e)) (he : P.underlying e = some .bool) (hz : (zeroValue e).run P w = .ok (.bool false) w) (b n : Nat) (D : DataW Unit)
    (hm : a.eval m = .map (some b)) (hown : w.ownsMap P k (plainElem P e) b n D) (key : Value) (kl : Lit) (hx : a.eval x = key) (hkey : keyOf P k key = some kl) (c : Bool) (hc : D.atKey kl (.lit (.bool false)) = .lit (.bool c))
    (hK : wpList P ops Q rest (a.put o.dst (.bool c)) w) : wpList P ops Q (o :: rest) a w := by
  refine wpList_plain hg fun K' hK' => ?_
  obtain ⟨v, ps, hrun, hv⟩ := hown.lookup K ht hz (plainElem_bool he false) hkey
  rw [hc] at hv
  obtain rfl := plainElem_bool_back he hv
  unfold Oper.wp
  simp [execOp, hop, hm, hx, hrun, Result.andThen]
  exact hK' _ _ hK
theorem laidOut : laidOutB Try.prog = true := by kernel_rfl
theorem cutLaw : Keyed Try.prog 32 := Keyed.of_law (deep_law_laid laidOut (m := 2) (by omega) (of_decide_eq_true (by kernel_rfl)) (by kernel_rfl) (by kernel_rfl))
instance (n : Int) (c : Fo.T3) : Decidable (Fo.okC n c) := by unfold Fo.okC; infer_instance
def ck (x : Fo.T3) : Lit := .string (keyBytes [.int .i64 x.a, .int .i64 x.b, .int .i64 x.c])
/-- 64 bit integers. -/
def i64 (x : Int) : Prop := -9223372036854775808 ≤ x ∧ x ≤ 9223372036854775807
def Fo.wf3 (x : Fo.T3) : Prop := i64 x.a ∧ i64 x.b ∧ i64 x.c
theorem wf_lit {x : Int} (h : i64 x) : (Lit.int .i64 x).wf = true := WalkArith.wf_i64 (by unfold i64 at h; omega)
theorem cutKT : Try.prog.keyType 32 = true := by kernel_rfl
theorem cutSz : ∃ m, Try.prog.types.size + 1 = m + 2 := ⟨Try.prog.types.size - 1, by have h : 0 < Try.prog.types.size := of_decide_eq_true (by kernel_rfl); omega⟩
theorem cutCells : Try.prog.cellsOf 32 = 3 := by kernel_rfl
theorem cellsInt : Try.prog.cellsOf 3 = 1 := by kernel_rfl
theorem ck_key {x : Fo.T3} (h : Fo.wf3 x) : keyOf Try.prog 32 (.agg #[.int .i64 x.a, .int .i64 x.b, .int .i64 x.c]) = some (ck x) := by
  obtain ⟨m, hm⟩ := cutSz
  have wa := wf_lit h.1; have wb := wf_lit h.2.1; have wc := wf_lit h.2.2
  unfold keyOf
  rw [Try.underlying32]
  dsimp only
  rw [cutKT, hm, if_pos (by simp [Value.formed, Try.underlying32, cutCells])]
  unfold Program.keyLits
  simp only [Try.underlying32, Value.cells]
  rw [if_pos ⟨by rw [cutCells]; rfl, by kernel_rfl⟩]
  simp [cellsInt, Program.keyLits, Try.underlying3, wa, wb, wc, ck]
theorem ck_ne {x y : Fo.T3} (hx : Fo.wf3 x) (hy : Fo.wf3 y) (h : x ≠ y) : ck x ≠ ck y := fun e => by
  have := cutLaw.inj (ck_key hx) (by rw [e]; exact ck_key hy)
  simp at this
  exact h (by cases x; cases y; simp_all)
/-- The map holds these cuts. -/
def SeenC (l : List Fo.T3) (D : DataW Unit) : Prop :=
  ∀ x, Fo.wf3 x → ∃ c : Bool, D.atKey (ck x) (.lit (.bool false)) = .lit (.bool c) ∧ (c = true ↔ x ∈ l)
theorem SeenC.start : SeenC [] (.map []) := fun x _ => ⟨false, rfl, by simp⟩
theorem SeenC.step {l : List Fo.T3} {D : DataW Unit} {y : Fo.T3} (h : SeenC l D) (hD : IsMap D) (hy : Fo.wf3 y) : SeenC (l ++ [y]) (D.put (ck y) (.lit (.bool true))) := fun x hx => by
  by_cases e : x = y
  · subst e
    exact ⟨true, atKey_put_same hD (cutLaw.key (ck_key hx)) _ _, by simp⟩
  · obtain ⟨c, h1, h2⟩ := h x hx
    refine ⟨c, ?_, ?_⟩
    · rw [atKey_put_other (ck_ne hx hy e)]
      exact h1
    · rw [h2, List.mem_append, List.mem_singleton]
      exact ⟨.inl, fun h => h.elim id (fun h => absurd h e)⟩
theorem run_mkNone (w : World) : (Instr.makeMap 86 none).run Try.prog w = .ok (.map (some w.heap.size)) (w.alloc (.map #[] 0)) := by
  simp [Instr.makeMap, Result.andThen]
theorem below_grown' {a b : World} (h : Below a.heap.size a b) : a.grownBy b none := ⟨h.os, h.tape, h.output, h.size, fun i hi _ => h.block i hi⟩
theorem FB.grownM {w w' : World} {b m : Nat} {h : FH} (s : FB w b h) (hg : w.grownBy w' (some m)) (hne : b ≠ m) : FB w' b h := by
  have hk := hg.block b s.lt (fun e => hne (Option.some.inj e))
  have c : ∀ j u, w.cell? ⟨b, j, none⟩ = some u → w'.cell? ⟨b, j, none⟩ = some u := fun j u hu => (World.cell?_of_block (w := w) (a := ⟨b, j, none⟩) hk).trans hu
  exact ⟨Nat.lt_of_lt_of_le s.lt hg.size, c 0 _ s.c0, c 1 _ s.c1, c 2 _ s.c2, c 3 _ s.c3, c 4 _ s.c4, c 5 _ s.c5, c 6 _ s.c6⟩
theorem Fo.take_at {l : List Fo.T3} {i : Nat} (h : i < l.length) : l.take (i + 1) = l.take i ++ [Fo.at3 l i] := by rw [Fo.at3_eq h]; exact List.take_succ_eq_append_getElem h
set_option maxHeartbeats 6400000 in
theorem wcuts_is (h : FH) (f : Fo.Fm) (r : Bool) (hr : r = true ↔ f.cs.length ≤ 100 ∧ (∀ c ∈ f.cs, Fo.okC h.n c) ∧ f.cs.Nodup) (hwf : ∀ c ∈ f.cs, Fo.wf3 c) (w : World) (hS : SlF w h f) :
    Calls Try.prog 39 #[.agg #[.int .i64 h.n, .slice h.R h.rl h.rc, .slice h.E h.el h.ec, .int .i64 h.ja, .int .i64 h.jt, .int .i64 h.jf, .slice h.C h.cl h.cc]] w fun e w' => e = .returned (.bool r) ∧ Below w.heap.size w w' := by
  have HN := Lib.hid hS.cl; have HL := Lib.hid hS.sc
  have HWF := Lib.hid hwf
  have B := (Below.refl w.heap.size w).alloc (Nat.le_refl _) (.cells #[.int .i64 h.n, .slice h.R h.rl h.rc, .slice h.E h.el h.ec, .int .i64 h.ja, .int .i64 h.jt, .int .i64 h.jf, .slice h.C h.cl h.cc] 28)
  by_cases h100 : h.cl ≤ 100
  case neg =>
    obtain rfl : r = false := by
      cases r with
      | false => rfl
      | true => exact absurd (hr.1 rfl).1 (by rw [hS.cl]; omega)
    have h1 : (h.cl : Int) > 100 := by omega
    clear hr hS h100 hwf
    go_enter Try.func39, Try.ntmps39
    go_wp2_with fail
    go_ret
    exact ⟨rfl, B⟩
  have HF : Hid (r = true ↔ (∀ c ∈ f.cs, Fo.okC h.n c) ∧ f.cs.Nodup) := Lib.hid (hr.trans ⟨fun h => h.2, fun h => ⟨by rw [hS.cl]; omega, h⟩⟩)
  have h1 : ¬ (h.cl : Int) > 100 := by omega
  have Q0 := (FB.new w h).alloc (.map #[] 0)
  have B0 := B.alloc (by simp) (.map #[] 0)
  have M0 : ((w.alloc (.cells #[.int .i64 h.n, .slice h.R h.rl h.rc, .slice h.E h.el h.ec, .int .i64 h.ja, .int .i64 h.jt, .int .i64 h.jf, .slice h.C h.cl h.cc] 28)).alloc (.map #[] 0)).ownsMap Try.prog 32 (plainElem Try.prog 4) (w.alloc (.cells #[.int .i64 h.n, .slice h.R h.rl h.rc, .slice h.E h.el h.ec, .int .i64 h.ja, .int .i64 h.jt, .int .i64 h.jf, .slice h.C h.cl h.cc] 28)).heap.size 0 (.map [] : DataW Unit) := World.ownsMap_made _ _ _ _
  rw [World.size_alloc] at M0
  clear hr hS B hwf
  have hmm := run_mkNone
  go_enter Try.func39, Try.ntmps39
  go_wp2_with fail
  have HM0 := Lib.hid M0; have HQ0 := Lib.hid Q0; have HB0 := Lib.hid B0
  clear M0 Q0 B0
  go_loopw [14] (fun s14 wr => ∃ (i : Nat), i ≤ h.cl ∧ s14 = .int .i64 (i : Int) ∧ Hid ((∀ c ∈ f.cs.take i, Fo.okC h.n c) ∧ (f.cs.take i).Nodup) ∧ (∃ D : DataW Unit, wr.ownsMap Try.prog 32 (plainElem Try.prog 4) (w.heap.size + 1) i D ∧ Hid (SeenC (f.cs.take i) D)) ∧ Hid (FB wr w.heap.size h) ∧ Below w.heap.size w wr) (fun s14 _ => h.cl - (intOf s14).toNat)
  case atStart => exact ⟨0, Nat.zero_le _, rfl, Lib.hid ⟨fun c hc => by simp at hc, by simp⟩, ⟨_, HM0.out, Lib.hid SeenC.start⟩, HQ0, HB0.out⟩
  case round =>
    clear hmm
    obtain ⟨i, hi, rfl, HJ, ⟨D, hown, HS⟩, HQ, hR⟩ := hrel
    by_cases hlt : i < h.cl
    · have hil : i < f.cs.length := by rw [HN.out]; exact hlt
      obtain ⟨b, off, hRe, hb, hc⟩ := HL.out (by omega)
      have X := (hc i hil).below hR hb
      obtain ⟨x, hx⟩ : ∃ x, Fo.at3 f.cs i = x := ⟨_, rfl⟩
      rw [hx] at X
      have HTA : Hid (f.cs.take (i + 1) = f.cs.take i ++ [x]) := Lib.hid (by rw [← hx]; exact Fo.take_at hil)
      have HME : Hid (x ∈ f.cs) := Lib.hid (by rw [← hx]; exact Fo.at3_mem hil)
      have HPRE : Hid (f.cs.take (i + 1) <+: f.cs) := Lib.hid (List.take_prefix _ _)
      have hkey := ck_key (HWF.out x HME.out)
      obtain ⟨c, hat, hci⟩ := HS.out x (HWF.out x HME.out)
      have HCI := Lib.hid hci
      obtain ⟨g, hg⟩ : ∃ g : Bool, g = true ↔ Fo.okC h.n x := ⟨decide _, decide_eq_true_iff⟩
      have HG := Lib.hid hg
      have XT := TB.new wr x 32
      have Q1 := HQ.out.alloc (.cells #[.int .i64 x.a, .int .i64 x.b, .int .i64 x.c] 32)
      have R1 := hR.alloc hR.size (.cells #[.int .i64 x.a, .int .i64 x.b, .int .i64 x.c] 32)
      have HSt : Hid (∀ D : DataW Unit, SeenC (f.cs.take i) D → IsMap D → SeenC (f.cs.take (i + 1)) (D.put (ck x) (.lit (.bool true)))) := Lib.hid (fun D h hD => by rw [HTA.out]; exact SeenC.step h hD (HWF.out x HME.out))
      have HXT := Lib.hid XT; have HR1 := Lib.hid R1
      have q0 := HQ.out.c0; have q1 := HQ.out.c1; have q2 := HQ.out.c2; have q3 := HQ.out.c3; have q4 := HQ.out.c4; have q5 := HQ.out.c5; have q6 := HQ.out.c6; have ql := HQ.out.lt
      obtain ⟨c0, c1, c2⟩ := X
      have hi1 : (i : Int) < (h.cl : Int) := by omega
      clear hc hx hil hci hg XT Q1 R1
      rw [hRe]
      cases c with
      | true =>
        obtain rfl : r = false := by
          cases r with
          | false => rfl
          | true => 
            have h3 := HPRE.out.sublist.nodup (HF.out.1 rfl).2
            rw [HTA.out] at h3
            have := (List.nodup_append.1 h3).2.2 x (HCI.out.1 rfl) x (by simp)
            exact absurd rfl this
        go_wp2_with (first | (at_lookup; refine look_bool _ rfl _ _ 86 rfl 32 4 cutLaw Try.underlying86 Try.underlying4 (Try.zeroValue4 _) (w.heap.size + 1) i D rfl (hown.alloc _) _ _ rfl hkey true hat ?_) | fail)
        go_ret
        exact ⟨rfl, HR1.out⟩
      | false =>
        have HNM : Hid (x ∉ f.cs.take i) := Lib.hid (fun h => by have := HCI.out.2 h; cases this)
        go_wp2_with (first | (at_lookup; refine look_bool _ rfl _ _ 86 rfl 32 4 cutLaw Try.underlying86 Try.underlying4 (Try.zeroValue4 _) (w.heap.size + 1) i D rfl (hown.alloc _) _ _ rfl hkey false hat ?_) | fail)
        refine (wcut_is {h with C := some ⟨b, off, none⟩} x g HG.out _).mono ?_; rintro e w2 ⟨rfl, hb2⟩
        have R2 := HR1.out.trans (hb2.mono HR1.out.size)
        have hown2 := (hown.alloc (.cells #[.int .i64 x.a, .int .i64 x.b, .int .i64 x.c] 32)).kept (below_grown' hb2) (by simp)
        have X2 := HXT.out.below hb2
        have Q2 := (HQ.out.alloc (.cells #[.int .i64 x.a, .int .i64 x.b, .int .i64 x.c] 32)).below hb2
        have x0 := X2.c0; have x1 := X2.c1; have x2 := X2.c2; have xl := X2.lt
        clear hb2 c0 c1 c2 q0 q1 q2 q3 q4 q5 q6 ql hown hat
        cases g with
        | false =>
          obtain rfl : r = false := by
            cases r with
            | false => rfl
            | true => exact absurd (HG.out.2 ((HF.out.1 rfl).1 x HME.out)) (by simp)
          clear X2 Q2
          go_wp2_with fail
          go_ret
          exact ⟨rfl, R2⟩
        | true =>
          have HJ2 : Hid ((∀ c ∈ f.cs.take (i + 1), Fo.okC h.n c) ∧ (f.cs.take (i + 1)).Nodup) := Lib.hid (by
            rw [HTA.out]
            refine ⟨fun c hc => ?_, ?_⟩
            · rcases List.mem_append.1 hc with hc | hc
              · exact HJ.out.1 c hc
              · rw [List.mem_singleton.1 hc]; exact HG.out.1 rfl
            · rw [List.nodup_append]
              refine ⟨HJ.out.2, by simp, fun a ha b hb => ?_⟩
              rw [List.mem_singleton.1 hb]
              rintro rfl
              exact HNM.out ha)
          have HS2 := Lib.hid (HSt.out D HS.out (hown2.tidy cutLaw).isMap)
          have HQ2 := Lib.hid Q2
          clear X2 Q2
          go_wp2_with (first | (at_mapUpdate; refine wpList_mapUpdate_own _ rfl _ _ _ 86 rfl 32 4 cutLaw Try.underlying86 _ (w.heap.size + 1) i D rfl hown2 (by unfold maxLen; omega) _ _ _ rfl rfl hkey _ [] (plainElem_bool Try.underlying4 true) ?_; intro w3 hown3 hg3) | fail)
          go_roundw
          case rel => exact ⟨i + 1, by omega, by simp, HJ2, ⟨_, hown3, HS2⟩, Lib.hid (HQ2.out.grownM hg3 (by simp)), R2.grown hg3 R2.size (fun k hk => by cases hk; simp)⟩
          case measure => simp [intOf]; omega
    · obtain rfl : i = h.cl := by omega
      obtain rfl : r = true := HF.out.2 (by
        have h := HJ.out
        rw [List.take_of_length_le (by rw [HN.out]; exact Nat.le_refl _)] at h
        exact h)
      go_wp2_with fail
      go_ret
      exact ⟨rfl, hR⟩
end Go.Proofs.Ytakbpgljbbkmkaa
