/- The walks of the library's AppendSeq and Collect over a form's order; reprise's Unfold. -/
import Derived.Test.YtakbpgljbbkmkaaWl
namespace Go.Proofs.Ytakbpgljbbkmkaa
open Go.RowKit Go.Shelf Go.Maps

attribute [local go_sem] Oper.semAt_some

/-- Worlds whose first blocks are the same. -/
structure Ahead (n : Nat) (X Y : World) : Prop where
  size : X.heap.size ≤ Y.heap.size
  same : ∀ k, k < n → Y.heap[k]? = X.heap[k]?
theorem Ahead.cell {n : Nat} {X Y : World} (h : Ahead n X Y) {b o : Nat} {v : Value} (hb : b < n) (hc : X.cell? ⟨b, o, none⟩ = some v) : Y.cell? ⟨b, o, none⟩ = some v := (World.cell?_of_block (w := X) (a := ⟨b, o, none⟩) (h.same b hb)).trans hc
theorem TAt.ahead {n : Nat} {X Y : World} {b o : Nat} {x : Fo.T3} (h : TAt X b o x) (ha : Ahead n X Y) (hb : b < n) : TAt Y b o x := ⟨ha.cell hb h.c0, ha.cell hb h.c1, ha.cell hb h.c2⟩
theorem SlT.ahead {X Y : World} {A : Option Addr} {l : List Fo.T3} (h : SlT X A l) (ha : Ahead X.heap.size X Y) : SlT Y A l := fun h0 => by
  obtain ⟨b, off, e, hlt, hc⟩ := h h0
  exact ⟨b, off, e, Nat.lt_of_lt_of_le hlt ha.size, fun k hk => (hc k hk).ahead ha hlt⟩
theorem SlF.ahead {X Y : World} {h : FH} {f : Fo.Fm} (s : SlF X h f) (ha : Ahead X.heap.size X Y) : SlF Y h f := ⟨s.n, s.ja, s.jt, s.jf, s.rl, s.el, s.cl, s.sr.ahead ha, s.se.ahead ha, s.sc.ahead ha⟩
theorem FB.ahead {X Y : World} {b : Nat} {h : FH} (s : FB X b h) (ha : Ahead X.heap.size X Y) : FB Y b h :=
  ⟨Nat.lt_of_lt_of_le s.lt ha.size, ha.cell s.lt s.c0, ha.cell s.lt s.c1, ha.cell s.lt s.c2, ha.cell s.lt s.c3, ha.cell s.lt s.c4, ha.cell s.lt s.c5, ha.cell s.lt s.c6⟩
theorem own_from {v5 v : Value} {n : Nat} {R Q : Nat → Prop} (h : v5.ownBlock = v.ownBlock ∨ v5.ownBlock = some n) (hv : ∀ j, v.ownBlock = some j → R j) (hn : v5.ownBlock = some n → Q n) : ∀ j, v5.ownBlock = some j → R j ∨ Q j := fun j hj => by
  rcases h with h | h
  · exact .inl (hv j (by rw [← h]; exact hj))
  · rw [h] at hj; cases hj; exact .inr (hn h)
theorem own_ac {N n : Nat} {R : Nat → Prop} {X Y : World} {e : TypeId} {size m : Nat} {v : Value} {xs : List Value} (h : X.ownsRow N e size v m xs) (hb : Ac n R X Y) (hv : ∀ j, v.ownBlock = some j → R j) : Y.ownsRow N e size v m xs :=
  own_same h (fun g hg hlt => hb.same g hlt (.inr (hv g hg)))
theorem infoVis : (Try.prog.info? 30).map (fun i => (i.zero, i.size, i.bytes)) = some (some (.agg #[.int .i64 0, .int .i64 0]), 2, 16) := by kernel_rfl
theorem Fo.unf_len {f : Fo.Fm} (V : Fo.Ok f) : (Fo.unf f).length ≤ 288000000 := by
  have h1 := List.length_filter_le (fun v => !decide (Fo.lft f.cs v)) (Fo.vis (Fo.whl f))
  rw [Fo.vis_length] at h1
  have := V.len2
  unfold Fo.unf
  omega
set_option maxHeartbeats 6400000 in
set_option maxRecDepth 100000 in
theorem wappendseq_is (h : FH) (f : Fo.Fm) (V : Fo.Ok f) (hcs : ∀ c ∈ f.cs, Fo.okC f.n c) (hcl : h.cl ≤ 1000000) (Bl : Nat) (w : World) (hQ : FB w Bl h) (hS : SlF w h f) :
    Calls Try.prog 53 #[.slice none 0 0, .func (.func 54) #[] #[.pointer (some ⟨Bl, 0, none⟩)]] w fun e w' => Below w.heap.size w w' ∧ ∃ v, e = .returned v ∧ w'.ownsRow w.heap.size 30 2 v (Fo.unf f).length (vV (Fo.unf f)) := by
  obtain ⟨i0, hi, hz0, hz1, hz2⟩ := info_parts infoVis
  have HLN := Lib.hid (Fo.unf_len V)
  obtain ⟨w3, hw3⟩ : ∃ w3, w.alloc (.cells #[.slice none 0 0] 35) = w3 := ⟨_, rfl⟩
  have hs3 : w3.heap.size = w.heap.size + 1 := by rw [← hw3]; simp
  have G3 : Below w.heap.size w w3 := by rw [← hw3]; exact (Below.refl _ _).alloc (Nat.le_refl _) _
  have B3 : w3.cell? ⟨w.heap.size, 0, none⟩ = some (.slice none 0 0) ∧ w3.frozen? ⟨w.heap.size, 0, none⟩ = false := by
    rw [← hw3]; exact new1 w (.slice none 0 0) 35
  have HSQ := Lib.hid (worder_seq h f V hcs hcl Bl (fun k => k < w.heap.size) w3 (fun k hk => by omega) (fun Y hY => by
    have ha : Ahead w.heap.size w Y := ⟨by have := hY.size; omega, fun k hk => (hY.same k (by omega) hk).trans (G3.block k hk)⟩
    exact ⟨hQ.ahead ha, hS.ahead ha⟩))
  clear hQ hS V hcs hcl
  refine (callsIn_wide (n := 10)).1 (callsIn_of_wp_marks Try.func53 rfl trivial (wpIn_wide.2 ?_) rfl)
  simp only [Try.ntmps53, List.size_toArray, List.length_cons, List.length_nil, Nat.reduceAdd, Nat.reduceSub, Array.replicate_succ, Array.replicate_zero, List.push_toArray, List.append_toArray, List.nil_append, List.cons_append]
  go_wp2_with fail
  (try rw [hw3])
  clear hw3
  refine wp_seqR (gf := 54) (lb := #[.pointer (some ⟨Bl, 0, none⟩)]) rfl (enters_of Try.func54 (by kernel_rfl) rfl) HSQ.out (fun k hk => by omega) (Below.refl _ _)
    (fun _ => rfl)
    (fun R pre X => (∃ v, (∀ j, v.ownBlock = some j → R j) ∧ X.cell? ⟨w.heap.size, 0, none⟩ = some v ∧ X.ownsRow w.heap.size 30 2 v pre.length (vV pre)) ∧ X.frozen? ⟨w.heap.size, 0, none⟩ = false ∧ Below w.heap.size w X)
    (fun _ _ _ => False) false 0 ?hmono (fun _ _ _ _ _ h => h) ?hI (fun _ _ _ _ h _ => h) ?h0
    (fun R x a' X => ∃ b, R b ∧ At2 X b x.b x.p ∧ a' = { tmps := #[.slice none 0 0, .func (.func 54) #[] #[.pointer (some ⟨Bl, 0, none⟩)], .pointer (some ⟨w.heap.size, 0, none⟩), undef, .slice none 0 0, .pointer (some ⟨b, 0, none⟩), .func (.func 54) #[] #[.pointer (some ⟨Bl, 0, none⟩)], .agg #[.int .i64 x.b, .int .i64 x.p], undef, undef, undef, undef, undef], defers := [] })
    ?hAx ?assign ?body ?done ?stop
  case hmono =>
    rintro R R2 s X hR ⟨⟨v, hv, hc, ho⟩, hf, hG⟩
    exact ⟨⟨v, fun j hj => hR j (hv j hj), hc, ho⟩, hf, hG⟩
  case hI =>
    rintro R s X Y ⟨⟨v, hv, hc, ho⟩, hf, hG⟩ hb
    exact ⟨⟨v, hv, hb.cell (.inl (by simp; omega)) hc, own_ac ho hb hv⟩, (hb.frozen (.inl (by simp; omega)) hc).trans hf, hG.trans (hb.below (by omega) hG.size)⟩
  case h0 => exact ⟨⟨_, fun j hj => (by cases hj), B3.1, World.ownsRow_nil _ _ _ _⟩, B3.2, G3⟩
  case hAx =>
    rintro R x a' X o o' hRn ⟨b, hb, hA, rfl⟩ _ _
    have hne : b ≠ w3.heap.size + 1 := fun e => hRn (e ▸ hb)
    exact ⟨b, hb, hA.sameB (by simp) (World.putObj_heap_other hne), rfl⟩
  case assign =>
    rintro Lr R pre x X hpre hRb ⟨⟨v, hv, hc, ho⟩, hf, hG⟩ hz
    gi_wp2
    have hbX : Below X.heap.size X (X.alloc (.cells #[.int .i64 x.b, .int .i64 x.p] 30)) := (Below.refl _ _).alloc (Nat.le_refl _) _
    exact ⟨KrR.ofBelow hbX, ⟨⟨v, hv, keep_alloc hc _, ho.alloc _⟩, (hbX.frozen (p := ⟨w.heap.size, 0, none⟩) (World.block_lt_of_cell? _ _ hc)).trans hf, hG.alloc hG.size _⟩, X.heap.size, .inr ⟨Nat.le_refl _, by simp⟩, At2.new _ _ _ _, rfl⟩
  case body =>
    rintro Lr R pre x a' X hpre hRb ⟨⟨v, hv, hc, ho⟩, hf, hG⟩ ⟨b, hRB, hA, rfl⟩ hz
    have hpl : pre.length + 1 ≤ 288000000 := by have h1 := hpre.length_le; have h2 := HLN.out; rw [List.length_append, List.length_singleton] at h1; omega
    obtain ⟨c0, c1⟩ := And.intro hA.c0 hA.c1
    have hlA := hA.lt
    have hlt : w.heap.size < X.heap.size := World.block_lt_of_cell? _ _ hc
    have K0 : KrR (fun k => k < w.heap.size) w3.heap.size R X (X.alloc (.cells #[.int .i64 x.b, .int .i64 x.p] 30)) := (KrR.refl _ _ _ _).alloc _
    have hcA := keep_alloc hc (.cells #[.int .i64 x.b, .int .i64 x.p] 30)
    have hbX : Below X.heap.size X (X.alloc (.cells #[.int .i64 x.b, .int .i64 x.p] 30)) := (Below.refl _ _).alloc (Nat.le_refl _) _
    have hfA := (hbX.frozen (p := ⟨w.heap.size, 0, none⟩) hlt).trans hf
    have hGA := hG.alloc hG.size (.cells #[.int .i64 x.b, .int .i64 x.p] 30)
    have hoA := ho.alloc (.cells #[.int .i64 x.b, .int .i64 x.p] 30)
    have hvn : v.ownBlock ≠ some w.heap.size := fun e => by have := hRb _ (hv _ e); omega
    have HV := Lib.hid hv; have HRB := Lib.hid hRb; have HOL := Lib.hid (own_blk_lt ho)
    clear ho hf hG hA hv hRb hbX
    gi_wp2_with (first | (gi_at_builtin; refine wpListIn_append_own_at _ rfl _ _ 35 rfl w.heap.size 30 i0 (.agg #[.int .i64 0, .int .i64 0]) 2 16 Try.underlying35 hi hz0 hz1 hz2 rfl (by decide) v pre.length (vV pre) rfl hoA ⟨X.heap.size, 0, none⟩ 1 1 [.int .i64 x.b, .int .i64 x.p] rfl rfl (cell_two_newS _ _ _ _) (fun u hu => by simp at hu; rcases hu with rfl | rfl <;> rfl) (by unfold maxLen; omega) (by omega) (by simp; omega) ?_; intro v' w1 hown' hgrow _ hat; have K1 := K0.grown hgrow (fun j hj => by have h1 := HRB.out j (HV.out j hj); exact ⟨by omega, .inr (.inl (HV.out j hj))⟩); have hG1 := hGA.grown hgrow hGA.size (fun j hj => by have h1 := HRB.out j (HV.out j hj); omega); have hbl := hgrow.block w.heap.size (by simp; omega) (fun e => hvn e.symm); have hc1 := (World.cell?_of_block (w' := w1) (a := ⟨w.heap.size, 0, none⟩) hbl).trans hcA; have hf1 := (World.frozen?_of_block (w' := w1) (a := ⟨w.heap.size, 0, none⟩) hbl).trans hfA; have hvn' := own_at hat hvn (by simp; omega); have hvl' := own_blk_lt hown'; have hs1 := hgrow.size; have HV2 : Hid (∀ j, v'.ownBlock = some j → R j ∨ X.heap.size ≤ j ∧ j < w1.heap.size) := Lib.hid (own_from (Q := fun j => X.heap.size ≤ j ∧ j < w1.heap.size) hat HV.out (fun hj => by have := own_blk_lt hown' _ hj; simp at this ⊢; omega)); obtain ⟨g', cap', rfl⟩ := own_succS hown') | fail)
    refine ⟨K1.setCell (p := ⟨w.heap.size, 0, none⟩) (by simp) (.inl (by simp; omega)) _, ⟨_, ?_, World.cell?_setCell_same' _ _ _ (by rw [hc1]; rfl), ?_⟩, by rw [World.frozen?_setCell]; exact hf1, hG1.setCell (p := ⟨w.heap.size, 0, none⟩) (Nat.le_refl _) _⟩
    · intro j hj
      rcases HV2.out j hj with h1 | h1
      · exact .inl h1
      · exact .inr ⟨h1.1, by simpa using h1.2⟩
    rw [List.length_append, List.length_singleton, vV_app, vV_one]
    exact own_setS hown' hvn' 0 _
  case done =>
    rintro D X hD _ ⟨R, hRb, ⟨v, hv, hc, ho⟩, hf, hG⟩ hK
    go_wp2_with fail
    refine ⟨by simp, .inl ⟨_, _, rfl, run_takeDeferred hK, ?_⟩⟩
    refine ⟨_, results_tmp rfl _ _ _, hG.trans (putObj_below (by omega) hG.size), _, rfl, ?_⟩
    exact ownsRow_putObj ho _ hK rfl
  case stop =>
    rintro D R pre X hD hpre hRb h
    exact h.elim
theorem wcollect_is (h : FH) (f : Fo.Fm) (V : Fo.Ok f) (hcs : ∀ c ∈ f.cs, Fo.okC f.n c) (hcl : h.cl ≤ 1000000) (Bl : Nat) (w : World) (hQ : FB w Bl h) (hS : SlF w h f) :
    Calls Try.prog 31 #[.func (.func 54) #[] #[.pointer (some ⟨Bl, 0, none⟩)]] w fun e w' => Below w.heap.size w w' ∧ ∃ v, e = .returned v ∧ w'.ownsRow w.heap.size 30 2 v (Fo.unf f).length (vV (Fo.unf f)) := by
  have HC := Lib.hid (wappendseq_is h f V hcs hcl Bl w hQ hS)
  clear hQ hS V hcs hcl
  go_enter Try.func31, Try.ntmps31
  go_wp2_with fail
  refine HC.out.mono ?_; rintro e w1 ⟨hb, v, rfl, ho⟩
  go_wp2_with fail
  go_ret
  exact ⟨hb, v, rfl, ho⟩
set_option maxHeartbeats 1600000 in
theorem wUnfold_no (h : FH) (f : Fo.Fm) (hV : ¬ Fo.Val f) (hwf : ∀ c ∈ f.cs, Fo.wf3 c) (w : World) (hS : SlF w h f) :
    Calls Try.prog 11 #[.agg #[.int .i64 h.n, .slice h.R h.rl h.rc, .slice h.E h.el h.ec, .int .i64 h.ja, .int .i64 h.jt, .int .i64 h.jf, .slice h.C h.cl h.cc]] w fun e w' => e = .returned (.tuple #[.slice none 0 0, .int .i64 1]) ∧ Below w.heap.size w w' := by
  have HS := Lib.hid (hS.alloc (.cells #[.int .i64 h.n, .slice h.R h.rl h.rc, .slice h.E h.el h.ec, .int .i64 h.ja, .int .i64 h.jt, .int .i64 h.jf, .slice h.C h.cl h.cc] 28))
  have B1 := (Below.refl w.heap.size w).alloc (Nat.le_refl _) (.cells #[.int .i64 h.n, .slice h.R h.rl h.rc, .slice h.E h.el h.ec, .int .i64 h.ja, .int .i64 h.jt, .int .i64 h.jf, .slice h.C h.cl h.cc] 28)
  clear hS
  go_enter Try.func11, Try.ntmps11
  go_wp2_with fail
  refine (wValid_is h f false ⟨fun h => (by cases h), fun h => absurd h hV⟩ hwf _ HS.out).mono ?_; rintro e w2 ⟨rfl, hb⟩
  have B2 := B1.trans (hb.mono (by simp))
  clear hb B1
  go_wp2_with fail
  go_ret2
  exact ⟨rfl, B2⟩
set_option maxHeartbeats 1600000 in
theorem wUnfold_is (h : FH) (f : Fo.Fm) (V : Fo.Val f) (hwf : ∀ c ∈ f.cs, Fo.wf3 c) (w : World) (hS : SlF w h f) :
    Calls Try.prog 11 #[.agg #[.int .i64 h.n, .slice h.R h.rl h.rc, .slice h.E h.el h.ec, .int .i64 h.ja, .int .i64 h.jt, .int .i64 h.jf, .slice h.C h.cl h.cc]] w fun e w' => Below w.heap.size w w' ∧ ∃ v, e = .returned (.tuple #[v, .int .i64 0]) ∧ w'.ownsRow w.heap.size 30 2 v (Fo.unf f).length (vV (Fo.unf f)) := by
  have HS := Lib.hid (hS.alloc (.cells #[.int .i64 h.n, .slice h.R h.rl h.rc, .slice h.E h.el h.ec, .int .i64 h.ja, .int .i64 h.jt, .int .i64 h.jf, .slice h.C h.cl h.cc] 28))
  have B1 := (Below.refl w.heap.size w).alloc (Nat.le_refl _) (.cells #[.int .i64 h.n, .slice h.R h.rl h.rc, .slice h.E h.el h.ec, .int .i64 h.ja, .int .i64 h.jt, .int .i64 h.jf, .slice h.C h.cl h.cc] 28)
  have Q1 := FB.new w h
  have HCL : Hid (h.cl ≤ 1000000) := Lib.hid (by have := V.cl; rw [hS.cl] at this; omega)
  have HV := Lib.hid V
  clear hS V
  go_enter Try.func11, Try.ntmps11
  go_wp2_with fail
  refine (wValid_is h f true ⟨fun _ => HV.out, fun _ => rfl⟩ hwf _ HS.out).mono ?_; rintro e w2 ⟨rfl, hb⟩
  have B2 := B1.trans (hb.mono (by simp))
  have Q2 := Q1.below hb
  have HS2 := Lib.hid (HS.out.below hb)
  have q0 := Q2.c0; have q1 := Q2.c1; have q2 := Q2.c2; have q3 := Q2.c3; have q4 := Q2.c4; have q5 := Q2.c5; have q6 := Q2.c6; have ql := Q2.lt
  clear hb B1 Q1
  go_wp2_with fail
  refine (worderm_is h w2).mono ?_; rintro e w3 ⟨rfl, rfl⟩
  have B3 := B2.alloc B2.size (.cells #[.int .i64 h.n, .slice h.R h.rl h.rc, .slice h.E h.el h.ec, .int .i64 h.ja, .int .i64 h.jt, .int .i64 h.jf, .slice h.C h.cl h.cc] 28)
  have HQ3 := Lib.hid (FB.new w2 h)
  have HS3 := Lib.hid (HS2.out.alloc (.cells #[.int .i64 h.n, .slice h.R h.rl h.rc, .slice h.E h.el h.ec, .int .i64 h.ja, .int .i64 h.jt, .int .i64 h.jf, .slice h.C h.cl h.cc] 28))
  clear q0 q1 q2 q3 q4 q5 q6 ql Q2
  go_wp2_with fail
  refine (wcollect_is h f HV.out.ok HV.out.cs HCL.out w2.heap.size _ HQ3.out HS3.out).mono ?_; rintro e w4 ⟨hb, v, rfl, ho⟩
  have B4 := B3.trans (hb.mono B3.size)
  have HO := Lib.hid (own_lessK ho (by have := B2.size; simp; omega : w.heap.size ≤ _))
  obtain ⟨-, A, c, rfl, -, -⟩ := own_V ho
  clear ho hb
  go_wp2_with fail
  go_ret2
  exact ⟨B4, _, rfl, HO.out⟩
end Go.Proofs.Ytakbpgljbbkmkaa
