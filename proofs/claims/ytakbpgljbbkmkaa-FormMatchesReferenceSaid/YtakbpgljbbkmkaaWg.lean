/- The walk of reprise's passage: what a repeat plays on a pass. -/
import Derived.Test.YtakbpgljbbkmkaaWf
import Derived.Test.YtakbpgljbbkmkaaPf
import Derived.Test.YtakbpgljbbkmkaaVk
import Derived.Maps.AppendAt
namespace Go.Proofs.Ytakbpgljbbkmkaa
open Go.RowKit

theorem infoSpan : (Try.prog.info? 80).map (fun i => (i.zero, i.size, i.bytes)) = some (some (.agg #[.int .i64 0, .int .i64 0]), 2, 16) := by kernel_rfl
/-- An empty slice of the call's own. -/
theorem own_emptyS (w : World) (t : TypeId) (size : Nat) : (w.alloc (.cells #[] t)).ownsRow w.heap.size t size (.slice (some ⟨w.heap.size, 0, none⟩) 0 0) 0 [] :=
  ⟨by simp, .inr ⟨w.heap.size, 0, #[], rfl, Nat.le_refl _, heap_alloc_new w _, Nat.le_refl _, Nat.zero_le _, by simp, by simp⟩⟩
/-- The classes of worlds where a slice and a variable are made, in whatever order. -/
def pgE (X : World) (t : TypeId) (v : Value) (w : World) : Prop := ∃ g, v = .slice (some ⟨g, 0, none⟩) 0 0 ∧ X.heap.size ≤ g ∧ w.heap[g]? = some (.cells #[] t (0, 0))
def pgV (X : World) (t : TypeId) (p : Value) (w : World) : Prop := ∃ b, p = .pointer (some ⟨b, 0, none⟩) ∧ X.heap.size ≤ b ∧ w.heap[b]? = some (.cells #[.int .i64 0, .int .i64 0] t (0, 0))
def pgC (X : World) (t : TypeId) (vs : List Value) (og : Option Value) (w : World) : Prop :=
  Below X.heap.size X w ∧ (∀ v ∈ vs, pgE X t v w) ∧ (∀ p, og = some p → pgV X t p w)
theorem pgE.below {X w w' : World} {t : TypeId} {v : Value} (h : pgE X t v w) (hb : Below w.heap.size w w') : pgE X t v w' := by
  obtain ⟨g, e, hg, hc⟩ := h
  exact ⟨g, e, hg, (hb.block g (Array.getElem?_eq_some_iff.1 hc).1).trans hc⟩
theorem pgV.below {X w w' : World} {t : TypeId} {v : Value} (h : pgV X t v w) (hb : Below w.heap.size w w') : pgV X t v w' := by
  obtain ⟨g, e, hg, hc⟩ := h
  exact ⟨g, e, hg, (hb.block g (Array.getElem?_eq_some_iff.1 hc).1).trans hc⟩
theorem pgC.below {X w w' : World} {t : TypeId} {vs : List Value} {og : Option Value} (h : pgC X t vs og w) (hb : Below w.heap.size w w') : pgC X t vs og w' :=
  ⟨h.1.trans (hb.mono h.1.size), fun v hv => (h.2.1 v hv).below hb, fun p hp => (h.2.2 p hp).below hb⟩
theorem cell_two_newS (w : World) (a b : Value) (t : TypeId) (_ha : a.cells.size = 1 := by rfl) (_hb : b.cells.size = 1 := by rfl) : ∀ j u, [a, b][j]? = some u → (w.alloc (.cells #[a, b] t)).cell? ((⟨w.heap.size, 0, none⟩ : Addr).add j) = some u := fun j u hj => by
  rw [Addr.add_lit]
  match j, hj with
  | 0, hj => simp at hj; subst hj; go_simp
  | 1, hj => simp at hj; subst hj; go_simp
  | j + 2, hj => simp at hj
theorem var2_of_blk {w : World} {b : Nat} {x y : Int} {t : TypeId} (h : w.heap[b]? = some (.cells #[.int .i64 x, .int .i64 y] t (0, 0))) : Var2 w b x y :=
  ⟨⟨(Array.getElem?_eq_some_iff.1 h).1, by unfold World.cell?; rw [h]; rfl, by unfold World.cell?; rw [h]; rfl⟩, by unfold World.frozen?; rw [h]; rfl, by unfold World.frozen?; rw [h]; rfl⟩
theorem Var2.grownS {w w' : World} {b : Nat} {x y : Int} {row : Option Nat} (h : Var2 w b x y) (hg : w.grownBy w' row) (hne : row ≠ some b) : Var2 w' b x y := by
  have hk := hg.block b h.at2.lt (fun e => hne e.symm)
  exact ⟨⟨Nat.lt_of_lt_of_le h.at2.lt hg.size, (World.cell?_of_block (w := w) (a := ⟨b, 0, none⟩) hk).trans h.at2.c0, (World.cell?_of_block (w := w) (a := ⟨b, 1, none⟩) hk).trans h.at2.c1⟩, (World.frozen?_of_block (w := w) (a := ⟨b, 0, none⟩) hk).trans h.f0, (World.frozen?_of_block (w := w) (a := ⟨b, 1, none⟩) hk).trans h.f1⟩
theorem TB.grownS {w w' : World} {b : Nat} {x : Fo.T3} {row : Option Nat} (h : TB w b x) (hg : w.grownBy w' row) (hne : row ≠ some b) : TB w' b x := by
  have hk := hg.block b h.lt (fun e => hne e.symm)
  exact ⟨Nat.lt_of_lt_of_le h.lt hg.size, (World.cell?_of_block (w := w) (a := ⟨b, 0, none⟩) hk).trans h.c0, (World.cell?_of_block (w := w) (a := ⟨b, 1, none⟩) hk).trans h.c1, (World.cell?_of_block (w := w) (a := ⟨b, 2, none⟩) hk).trans h.c2⟩
theorem own_blk_lt {w : World} {base : Nat} {e : TypeId} {size n : Nat} {v : Value} {xs : List Value} (h : w.ownsRow base e size v n xs) : ∀ j, v.ownBlock = some j → j < w.heap.size := fun j hj => by
  rcases h.2 with ⟨rfl, _⟩ | ⟨g, cap, cur, rfl, _, hg, _⟩
  · cases hj
  · have : g = j := by simpa [Value.ownBlock] using hj
    subst this
    exact (Array.getElem?_eq_some_iff.1 hg).1
theorem own_at {v5 v : Value} {n bl : Nat} (h : v5.ownBlock = v.ownBlock ∨ v5.ownBlock = some n) (hv : v.ownBlock ≠ some bl) (hn : bl < n) : v5.ownBlock ≠ some bl := by
  rcases h with h | h
  · rw [h]; exact hv
  · rw [h]; intro e; have := Option.some.inj e; omega
theorem own_succS {w : World} {base : Nat} {e : TypeId} {size n : Nat} {v : Value} {xs : List Value} (h : w.ownsRow base e size v (n + 1) xs) : ∃ g cap, v = .slice (some ⟨g, 0, none⟩) (n + 1) cap := by
  rcases h.2 with ⟨_, h0⟩ | ⟨g, cap, _, rfl, _⟩
  · omega
  · exact ⟨g, cap, rfl⟩
theorem own_setS {w : World} {base : Nat} {e : TypeId} {size n : Nat} {v : Value} {xs : List Value} (h : w.ownsRow base e size v n xs) {b : Nat} (hne : v.ownBlock ≠ some b) (j : Nat) (u : Value) : (w.setCell ⟨b, j, none⟩ u).ownsRow base e size v n xs := by
  refine ⟨h.1, ?_⟩
  rcases h.2 with h2 | ⟨g, cap, cur, h1, h2, h3, h4⟩
  · exact .inl h2
  · refine .inr ⟨g, cap, cur, h1, h2, (Below.heap_setCell w ⟨b, j, none⟩ u g (fun e => hne (by rw [h1]; simp [Value.ownBlock, e]))).trans h3, h4⟩
set_option maxRecDepth 100000 in
set_option maxHeartbeats 6400000 in
theorem wpassage_is (es : List Fo.T3) (r : Fo.T3) (pass : Int) (len cap : Nat) (A : Option Addr) (hl : es.length = len) (hmax : len ≤ 100) (w : World) (hL : SlT w A es) :
    Calls Try.prog 80 #[.slice A len cap, .agg #[.int .i64 r.a, .int .i64 r.b, .int .i64 r.c], .int .i64 pass] w fun e w' => Below w.heap.size w w' ∧ ∃ v, e = .returned v ∧ w'.ownsRow w.heap.size 80 2 v (Fo.psg pass r.b es r.a).length (vV (Fo.psg pass r.b es r.a)) := by
  obtain ⟨i0, hi0, hz0, hz1, hz2⟩ := info_parts infoSpan
  have HI0 := Lib.hid (And.intro hi0 (And.intro hz0 (And.intro hz1 hz2)))
  have HN := Lib.hid hl; have HL := Lib.hid hL
  have HTL := Lib.hid (Fo.psg_len pass r.b es r.a)
  obtain ⟨T, hT⟩ : ∃ T, Fo.psg pass r.b es r.a = T := ⟨_, rfl⟩
  have HT := Lib.hid hT
  rw [hT] at HTL ⊢
  clear hl hL hi0 hz0 hz1 hz2 hT
  have X0 := TB.new w r 54
  have B0 := (Below.refl w.heap.size w).alloc (Nat.le_refl _) (.cells #[.int .i64 r.a, .int .i64 r.b, .int .i64 r.c] 54)
  go_enter Try.func80, Try.ntmps80
  go_wp2_with fail
  obtain ⟨W1, hW1⟩ : ∃ W1, w.alloc (.cells #[.int .i64 r.a, .int .i64 r.b, .int .i64 r.c] 54) = W1 := ⟨_, rfl⟩
  have hs1 : W1.heap.size = w.heap.size + 1 := by rw [← hW1]; simp
  rw [hW1] at X0 B0 ⊢
  clear hW1
  have z0 := fun x : PfW (pgC W1 80) => (X0.below x.h.1).c0
  have z1 := fun x : PfW (pgC W1 80) => (X0.below x.h.1).c1
  have hne : Nonempty (PfW (pgC W1 80)) := PfW.there (w := W1) ⟨Below.refl _ _, fun v hv => by (cases hv), fun p hp => by (cases hp)⟩
  refine region_pf (cs := [0]) (d := 6) (G := fun g => ∃ b, g = .pointer (some ⟨b, 0, none⟩) ∧ W1.heap.size ≤ b) (Cv := pgC W1 80) 8 ⟨_, _, rfl, Nat.le_refl _⟩ (by kernel_rfl) (by kernel_rfl) (by kernel_rfl) ⟨(Below.refl _ _).drew, fun v hv => by (cases hv), fun p hp => by (cases hp)⟩ ?_
  simp only [List.take_succ_cons, List.take_zero, List.drop_succ_cons, List.drop_zero]
  refine pf_made ⟨by decide, rfl⟩ rfl ⟨none, W1, Below.refl _ _, fun v hv => by (cases hv), fun p hp => by (cases hp)⟩ (fun og w' hw' => ⟨.slice (some ⟨w'.heap.size, 0, none⟩) 0 0, w'.alloc (.cells #[] 80), ?_, ?_⟩) ?_
  · go_simp
  · have h2 := hw'.below ((Below.refl w'.heap.size w').alloc (Nat.le_refl _) (.cells #[] 80))
    refine ⟨h2.1, fun v hv => ?_, h2.2.2⟩
    rw [List.nil_append, List.mem_singleton] at hv
    exact ⟨w'.heap.size, hv, hw'.1.size, heap_alloc_new w' _⟩
  rintro u1 ⟨og1, w1, hw1⟩
  obtain ⟨g, rfl, hg1, -⟩ := hw1.2.1 u1 (by simp)
  clear hw1
  simp only [Act.put, List.setIfInBounds_toArray, List.set_cons_succ, List.set_cons_zero]
  iterate 5 (refine pf_quiet (by decide) rfl rfl ?_; intro K' hK'; go_big_quiet_op; go_big_quiet_on)
  refine pf_floats rfl (fun j hj => (by cases hj)) rfl (fun vs' w' hw' => ⟨.pointer (some ⟨w'.heap.size, 0, none⟩), w'.alloc (.cells #[.int .i64 0, .int .i64 0] 80), ?_, ⟨_, rfl, hw'.1.size⟩, ?_⟩) ?_
  · go_simp
  · have h2 := hw'.below ((Below.refl w'.heap.size w').alloc (Nat.le_refl _) (.cells #[.int .i64 0, .int .i64 0] 80))
    refine ⟨h2.1, h2.2.1, fun p hp => ?_⟩
    cases hp
    exact ⟨w'.heap.size, rfl, hw'.1.size, heap_alloc_new w' _⟩
  rintro _ ⟨bl, rfl, hbl⟩
  simp only [Act.put, List.setIfInBounds_toArray, List.set_cons_succ, List.set_cons_zero]
  iterate 1 (refine pf_quiet (by decide) rfl rfl ?_; intro K' hK'; go_big_quiet_op; go_big_quiet_on)
  rintro w3 ⟨hb3, hE3, hV3⟩
  obtain ⟨g', e', -, hgc⟩ := hE3 (.slice (some ⟨g, 0, none⟩) 0 0) (by simp)
  cases e'
  obtain ⟨bl', e', -, hblc⟩ := hV3 (.pointer (some ⟨bl, 0, none⟩)) rfl
  cases e'
  have hgb : g ≠ bl := fun e => by
    subst e
    rw [hgc] at hblc
    cases hblc
  have R3 := B0.trans (hb3.mono B0.size)
  have V3 := var2_of_blk hblc
  have O3 : w3.ownsRow w.heap.size 80 2 (.slice (some ⟨g, 0, none⟩) 0 0) 0 (vV []) := ⟨by simp [vV], .inr ⟨g, 0, #[], rfl, by omega, hgc, Nat.le_refl _, Nat.zero_le _, by simp, by simp [vV]⟩⟩
  clear hE3 hV3 hgc hblc z0 z1 hne
  have v0 := V3.at2.c0; have v1 := V3.at2.c1; have vf0 := V3.f0; have vf1 := V3.f1; have vl := V3.at2.lt
  have HV4 := Lib.hid (V3.put r.a r.b)
  have HR4 := Lib.hid ((R3.setCell (p := ⟨bl, 0, none⟩) (by simp; omega) (.int .i64 r.a)).setCell (p := ⟨bl, 1, none⟩) (by simp; omega) (.int .i64 r.b))
  have HO4 := Lib.hid (own_setS (own_setS O3 (b := bl) (by simp [Value.ownBlock]; exact hgb) 0 (.int .i64 r.a)) (b := bl) (by simp [Value.ownBlock]; exact hgb) 1 (.int .i64 r.b))
  have HGB := Lib.hid hgb; have HBL : Hid (w.heap.size ≤ bl) := Lib.hid (by omega)
  clear R3 V3 O3 hgb B0 hg1 hbl
  go_wp2_with fail
  go_loopw [7, 19] (fun s7 s19 wr => ∃ (P : List Fo.V2) (N i : Nat) (lo : Int), P.length = N ∧ i ≤ len ∧ s19 = .int .i64 (i : Int) ∧ Hid (P ++ Fo.psg pass r.b (es.drop i) lo = T) ∧ Hid (wr.ownsRow w.heap.size 80 2 s7 N (vV P)) ∧ Hid (s7.ownBlock ≠ some bl) ∧ Hid (Var2 wr bl lo r.b) ∧ Below w.heap.size w wr) (fun _ s19 _ => len - (intOf s19).toNat)
  case atStart => exact ⟨[], 0, 0, r.a, rfl, Nat.zero_le _, rfl, Lib.hid (by rw [List.drop_zero]; exact HT.out), HO4, Lib.hid (by simp [Value.ownBlock]; exact HGB.out), HV4, HR4.out⟩
  case round =>
    clear v0 v1 vf0 vf1 vl HV4 HR4 HO4
    obtain ⟨P, N, i, lo, hN, hi, rfl, HP, HOW, HNE, HV, hR⟩ := hrel
    have hPN : N ≤ 1000 := by
      have h1 := HTL.out
      rw [← HP.out, List.length_append, hN, HN.out] at h1
      omega
    have HNN := Lib.hid hN
    clear hN
    by_cases hlt : i < len
    · have hil : i < es.length := by rw [HN.out]; exact hlt
      obtain ⟨b, off, hRe, hb, hc⟩ := HL.out (by omega)
      have X := (hc i hil).below hR hb
      obtain ⟨x, hx⟩ : ∃ x, Fo.at3 es i = x := ⟨_, rfl⟩
      rw [hx] at X
      have hd := Fo.drop_at hil
      rw [hx] at hd
      have HP2 : Hid (P ++ (if x.c ≠ pass ∧ Fo.iw x.a x.b lo r.b then ⟨lo, x.a⟩ :: Fo.psg pass r.b (es.drop (i + 1)) x.b else Fo.psg pass r.b (es.drop (i + 1)) lo) = T) := Lib.hid (by have h := HP.out; rw [hd] at h; exact h)
      have HXT := Lib.hid (TB.new wr x 73)
      have HV1 := Lib.hid (HV.out.alloc (.cells #[.int .i64 x.a, .int .i64 x.b, .int .i64 x.c] 73))
      have HR1 := Lib.hid (hR.alloc hR.size (.cells #[.int .i64 x.a, .int .i64 x.b, .int .i64 x.c] 73))
      have HOW1 := Lib.hid (HOW.out.alloc (.cells #[.int .i64 x.a, .int .i64 x.b, .int .i64 x.c] 73))
      have v0 := HV.out.at2.c0; have v1 := HV.out.at2.c1; have vl := HV.out.at2.lt
      obtain ⟨c0, c1, c2⟩ := X
      have hi1 : (i : Int) < (len : Int) := by omega
      clear hc hx hil hd
      rw [hRe]
      by_cases hp : x.c = pass
      case pos =>
        have HP3 : Hid (P ++ Fo.psg pass r.b (es.drop (i + 1)) lo = T) := Lib.hid (by have h := HP2.out; rw [if_neg (fun h => h.1 hp)] at h; exact h)
        have hbe : (x.c != pass) = false := by simpa using hp
        clear hp
        go_wp2_with fail
        go_roundw
        case rel => exact ⟨P, N, i + 1, lo, HNN.out, by omega, by simp, HP3, HOW1, HNE, HV1, HR1.out⟩
        case measure => simp [intOf]; omega
      have HPP := Lib.hid hp
      have hbe : (x.c != pass) = true := by simpa using hp
      obtain ⟨q, hq⟩ : ∃ q : Bool, q = true ↔ Fo.iw x.a x.b lo r.b := ⟨decide _, decide_eq_true_iff⟩
      have HQ := Lib.hid hq
      clear hp hq
      go_wp2_with fail
      refine (wwithin_is x.a x.b lo r.b q HQ.out _).mono ?_; rintro e w3 ⟨rfl, hb3⟩
      have X3 := HXT.out.below hb3; have V3 := HV1.out.below hb3
      have hR3 := HR1.out.trans (hb3.mono HR1.out.size)
      have OW3 := HOW1.out.kept (below_grown hb3 none) none_ne
      clear hb3 v0 v1 vl c0 c1 c2 hbe
      cases q with
      | false =>
        have HP3 : Hid (P ++ Fo.psg pass r.b (es.drop (i + 1)) lo = T) := Lib.hid (by have h := HP2.out; rw [if_neg (fun h => by have := HQ.out.2 h.2; cases this)] at h; exact h)
        have HV3 := Lib.hid V3; have HOW3 := Lib.hid OW3
        clear X3 V3 OW3
        go_wp2_with fail
        go_roundw
        case rel => exact ⟨P, N, i + 1, lo, HNN.out, by omega, by simp, HP3, HOW3, HNE, HV3, hR3⟩
        case measure => simp [intOf]; omega
      | true =>
        have HP3 : Hid ((P ++ [⟨lo, x.a⟩]) ++ Fo.psg pass r.b (es.drop (i + 1)) x.b = T) := Lib.hid (by have h := HP2.out; rw [if_pos ⟨HPP.out, HQ.out.1 rfl⟩] at h; rw [List.append_assoc]; exact h)
        have x0 := X3.c0; have xl := X3.lt
        have v0 := V3.at2.c0; have vl := V3.at2.lt
        have hkeep := OW3.kept (below_grown ((Below.refl w3.heap.size w3).alloc (Nat.le_refl _) (.cells #[.int .i64 lo, .int .i64 x.a] 80)) none) none_ne
        have HXA := Lib.hid (X3.alloc (.cells #[.int .i64 lo, .int .i64 x.a] 80))
        have HVA := Lib.hid (V3.alloc (.cells #[.int .i64 lo, .int .i64 x.a] 80))
        have hRA := hR3.alloc hR3.size (.cells #[.int .i64 lo, .int .i64 x.a] 80)
        have V3L := Lib.hid V3.at2.lt
        have HXB := Lib.hid (show wr.heap.size ≤ w3.heap.size by omega)
        clear X3 V3 OW3
        go_wp2_with (first | (at_builtin; refine wpList_append_own_at _ rfl _ _ 87 rfl w.heap.size 80 i0 (.agg #[.int .i64 0, .int .i64 0]) 2 16 Try.underlying87 HI0.out.1 HI0.out.2.1 HI0.out.2.2.1 HI0.out.2.2.2 rfl (by decide) _ _ _ rfl hkeep ⟨w3.heap.size, 0, none⟩ 1 1 [.int .i64 lo, .int .i64 x.a] rfl rfl (cell_two_newS _ _ _ _) (fun u hu => by simp at hu; rcases hu with rfl | rfl <;> rfl) (by unfold maxLen; omega) (by omega) (by have := hR3.size; simp; omega) ?_; intro v5 w5 hown5 hgrow5 hnil5 hat5; have V5 := HVA.out.grownS hgrow5 HNE.out; have X5 := HXA.out.grownS hgrow5 (fun e => by have := own_blk_lt HOW.out _ e; omega); have R5 := hRA.grown hgrow5 hRA.size (own_ne hkeep); have HNE5 := Lib.hid (own_at hat5 HNE.out (by have := HVA.out.at2.lt; have := V3L.out; simp; omega)); have HR5 := Lib.hid (R5.setCell (p := ⟨bl, 0, none⟩) (by simp; exact HBL.out) (.int .i64 x.b)); have HV5 := Lib.hid (V5.put0 x.b); have HOW5 := Lib.hid (own_setS hown5 HNE5.out 0 (.int .i64 x.b)); have y1 := X5.c1; have yl := X5.lt; have vv0 := V5.at2.c0; have vvf := V5.f0; have vvl := V5.at2.lt; obtain ⟨g5, cap5, rfl⟩ := own_succS hown5; clear hown5 hgrow5 hnil5 hat5 hkeep V5 X5 R5 hRA x0 xl v0 vl) | fail)
        go_roundw
        case rel => exact ⟨P ++ [⟨lo, x.a⟩], N + 1, i + 1, x.b, by rw [List.length_append, HNN.out]; rfl, by omega, by simp, HP3, Lib.hid (by rw [vV_app, vV_one]; exact HOW5.out), HNE5, HV5, HR5.out⟩
        case measure => simp [intOf]; omega
    · obtain rfl : i = len := by omega
      have HP3 : Hid (P ++ [⟨lo, r.b⟩] = T) := Lib.hid (by have h := HP.out; rw [List.drop_of_length_le (by rw [HN.out]; exact Nat.le_refl _)] at h; exact h)
      have V3 := HV.out
      have v0 := V3.at2.c0; have v1 := V3.at2.c1; have vl := V3.at2.lt
      have hkeep := HOW.out.kept (below_grown ((Below.refl wr.heap.size wr).alloc (Nat.le_refl _) (.cells #[.int .i64 lo, .int .i64 r.b] 80)) none) none_ne
      have hR3 := hR
      have hRA := hR3.alloc hR3.size (.cells #[.int .i64 lo, .int .i64 r.b] 80)
      clear V3
      go_wp2_with (first | (at_builtin; refine wpList_append_own_at _ rfl _ _ 87 rfl w.heap.size 80 i0 (.agg #[.int .i64 0, .int .i64 0]) 2 16 Try.underlying87 HI0.out.1 HI0.out.2.1 HI0.out.2.2.1 HI0.out.2.2.2 rfl (by decide) _ _ _ rfl hkeep ⟨wr.heap.size, 0, none⟩ 1 1 [.int .i64 lo, .int .i64 r.b] rfl rfl (cell_two_newS _ _ _ _) (fun u hu => by simp at hu; rcases hu with rfl | rfl <;> rfl) (by unfold maxLen; omega) (by omega) (by have := hR3.size; simp; omega) ?_; intro v5 w5 hown5 hgrow5 hnil5 hat5) | fail)
      have R5 := hRA.grown hgrow5 hRA.size (own_ne hkeep)
      clear hgrow5 hnil5 hat5 hkeep
      go_ret
      refine ⟨R5, v5, rfl, ?_⟩
      rw [← HP3.out, List.length_append, HNN.out, vV_app, vV_one]
      exact hown5
end Go.Proofs.Ytakbpgljbbkmkaa
