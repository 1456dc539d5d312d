/- The walk of the function that reprise's visits gives: how often each bar came is counted in a map. -/
import Derived.Test.YtakbpgljbbkmkaaWj
import Derived.Test.YtakbpgljbbkmkaaRr
import Derived.RangeFuncBox
import Derived.RangeFuncBound
import Derived.Shelf.Abstract
import Derived.WalkKit
import Derived.OwnWalkIn
import Derived.TacticsInMore
import Derived.LoopNIn
import Derived.LoopIn
import Derived.Maps.OwnIn
namespace Go.Proofs.Ytakbpgljbbkmkaa
open Go.RowKit Go.Shelf Go.Maps

attribute [local go_sem] Oper.semAt_some

namespace Fo
theorem visA_app : ∀ (l acc r : List Int), visA acc (l ++ r) = visA acc l ++ visA (acc ++ l) r
  | [], acc, r => by simp [visA]
  | x :: l, acc, r => by
    rw [List.cons_append, visA, visA, visA_app l (acc ++ [x]) r]
    simp
theorem vis_prefix {a b : List Int} (h : a <+: b) : vis a <+: vis b := by
  obtain ⟨c, rfl⟩ := h
  unfold vis
  rw [visA_app]
  exact List.prefix_append _ _
theorem flat_prefix {l : List V2} {i : Nat} (h : i < l.length) {m : Int} (h1 : (atV l i).b ≤ m) (h2 : m < (atV l i).p) : flat (l.take i) ++ bars (atV l i).b m ++ [m] <+: flat l := by
  rw [List.append_assoc, ← bars_snoc h1]
  conv => rhs; rw [← List.take_append_drop i l, List.drop_eq_getElem_cons h, ← atV_eq h, flat_app, flat_cons, bars_app (show (atV l i).b ≤ m + 1 by omega) (show m + 1 ≤ (atV l i).p by omega)]
  rw [List.append_assoc, List.prefix_append_right_inj]
  exact List.prefix_append _ _
theorem flat_take_succ {l : List V2} {i : Nat} (h : i < l.length) : flat (l.take (i + 1)) = flat (l.take i) ++ bars (atV l i).b (atV l i).p := by rw [take_atV h, flat_app, flat_one]
/-- The map says how often each bar came. -/
def Cnt (P : List Int) (D : DataW Unit) : Prop := ∀ x, i64 x → D.atKey (.int .i64 x) (.lit (.int .i64 0)) = .lit (.int .i64 (P.count x : Int))
theorem Cnt.start : Cnt [] (.map []) := fun _ _ => rfl
end Fo
theorem intK : Keyed Try.prog 3 := int_keyed Try.underlying3
theorem int_key {x : Int} (h : i64 x) : keyOf Try.prog 3 (.int .i64 x) = some (.int .i64 x) := keyOf_int_mk Try.underlying3 (wf_lit h)
theorem Fo.Cnt.step {P : List Int} {D : DataW Unit} {y : Int} (h : Fo.Cnt P D) (hD : IsMap D) (hy : i64 y) : Fo.Cnt (P ++ [y]) (D.put (.int .i64 y) (.lit (.int .i64 ((P.count y : Int) + 1)))) := fun x hx => by
  by_cases e : x = y
  · subst e
    rw [atKey_put_same hD (intK.key (int_key hx)), List.count_append]
    simp
  · rw [atKey_put_other (fun e2 => e (by simpa using e2)), h x hx, List.count_append]
    have : List.count x [y] = 0 := List.count_eq_zero.2 (by simpa using e)
    rw [this, Nat.add_zero]
theorem run_mkHintI (n : Int) (w : World) : (Instr.makeMap 47 (some (.int .i64 n))).run Try.prog w = .ok (.map (some w.heap.size)) (w.alloc (.map #[] 0)) := by
  simp [Instr.makeMap, run_underlying Try.underlying47, asInt, asIntOf, Result.andThen]
theorem own_openS {w : World} {base : Nat} {e : TypeId} {v : Value} {m : Nat} {l : List Fo.V2} (h : w.ownsRow base e 2 v m (vV l)) (hl : 0 < l.length) : ∃ g cap, v = .slice (some ⟨g, 0, none⟩) m cap ∧ base ≤ g ∧ g < w.heap.size := by
  have hm : l.length = m := by have := h.1; rw [vV_length] at this; omega
  rcases h.2 with ⟨_, h0⟩ | ⟨g, cap, cur, hv, hb, hg, _⟩
  · omega
  · exact ⟨g, cap, hv, hb, (Array.getElem?_eq_some_iff.1 hg).1⟩
theorem spn_pos (f : Fo.Fm) : 0 < (Fo.spn f).length := by unfold Fo.spn; rw [List.length_append]; have := prtS_pos f.es (fun _ => 1) (if 0 < f.ja then f.ja else f.n) f.rs 0; omega
theorem Fo.Ok.len2 {f : Fo.Fm} (V : Fo.Ok f) : (Fo.whl f).length ≤ 288000000 := by
  have hj := V.j
  have hn := V.n
  unfold Fo.okJ at hj
  exact Fo.whl_len (V.rs.rgs hn.2) hn.2 (by omega) (by omega) (by omega)
theorem own_same {X Y : World} {base : Nat} {e : TypeId} {size n : Nat} {v : Value} {xs : List Value} (h : X.ownsRow base e size v n xs) (hb : ∀ g, v.ownBlock = some g → g < X.heap.size → Y.heap[g]? = X.heap[g]?) : Y.ownsRow base e size v n xs := by
  refine ⟨h.1, ?_⟩
  rcases h.2 with h2 | ⟨g, cap, cur, h1, h2, h3, h4⟩
  · exact .inl h2
  · exact .inr ⟨g, cap, cur, h1, h2, (hb g (by rw [h1]; rfl) (Array.getElem?_eq_some_iff.1 h3).1).trans h3, h4⟩
theorem map_same {X Y : World} {H : Type} {P : Program} {k : TypeId} {R : Value → Option (DataW H × List MemPlace)} {b n : Nat} {D : DataW H} (h : X.ownsMap P k R b n D) (hb : Y.heap[b]? = X.heap[b]?) : Y.ownsMap P k R b n D := by
  obtain ⟨es, clock, h1, h2⟩ := h
  exact ⟨es, clock, hb.trans h1, h2⟩
theorem At2.sameB {X Y : World} {b : Nat} {x y : Int} (h : At2 X b x y) (hs : X.heap.size ≤ Y.heap.size) (hb : Y.heap[b]? = X.heap[b]?) : At2 Y b x y :=
  ⟨Nat.lt_of_lt_of_le h.lt hs, (World.cell?_of_block (w := X) (a := ⟨b, 0, none⟩) hb).trans h.c0, (World.cell?_of_block (w := X) (a := ⟨b, 1, none⟩) hb).trans h.c1⟩
set_option maxHeartbeats 12800000 in
set_option maxRecDepth 100000 in
theorem wvisits_in (h : FH) (f : Fo.Fm) (V : Fo.Ok f) (L Bl : Nat) (S : Nat → Prop) (J Jx : (Nat → Prop) → List Fo.V2 → World → Prop) (W : World)
    (hJ : ∀ R s X Y, J R s X → Ac W.heap.size R X Y → J R s Y) (hQ : FB W Bl h) (hS : SlF W h f)
    (hY : ∀ (R : Nat → Prop) pre x X, pre ++ [x] <+: Fo.vis (Fo.whl f) → (∀ k, R k → W.heap.size ≤ k ∧ k < X.heap.size) → J R pre X → W.heap.size ≤ X.heap.size → YieldAt Fence.wide 7 Try.prog L #[.agg #[.int .i64 x.b, .int .i64 x.p]] X fun e Y =>
      (e = .returned (.bool true) ∧ J (grow R X Y) (pre ++ [x]) Y ∧ KrR S W.heap.size R X Y) ∨ (e = .returned (.bool false) ∧ Jx (grow R X Y) (pre ++ [x]) Y ∧ KrR S W.heap.size R X Y))
    (h0 : J (fun _ => False) [] W) :
    CallsIn Fence.wide 8 Try.prog 71 #[.func (.yield L) #[] #[], .pointer (some ⟨Bl, 0, none⟩)] W fun e Y => (∃ v, e = .returned v) ∧ ((W.heap.size ≤ Y.heap.size ∧ ∃ R : Nat → Prop, (∀ k, R k → W.heap.size ≤ k ∧ k < Y.heap.size) ∧ J R (Fo.vis (Fo.whl f)) Y) ∨ ∃ (R : Nat → Prop) (pre : List Fo.V2), pre <+: Fo.vis (Fo.whl f) ∧ (∀ k, R k → W.heap.size ≤ k ∧ k < Y.heap.size) ∧ Jx R pre Y) := by
  have HJ := Lib.hid hJ
  have HFL := Lib.hid V.flat; have HALL := Lib.hid V.all; have HLEN := Lib.hid V.len
  have HVV := Lib.hid V
  rw [← V.flat] at hY ⊢
  obtain ⟨l, hl⟩ : ∃ l, Fo.spn f = l := ⟨_, rfl⟩
  rw [hl] at hY HFL HALL HLEN ⊢
  have HL := Lib.hid hl
  have HY := Lib.hid hY
  clear hl
  have Q1 := hQ.alloc (.map #[] 0)
  have B1 := (Below.refl W.heap.size W).alloc (Nat.le_refl _) (.map #[] 0)
  have M1 : (W.alloc (.map #[] 0)).ownsMap Try.prog 3 (plainElem Try.prog 3) W.heap.size 0 (.map [] : DataW Unit) := World.ownsMap_made _ _ _ _
  have HJ1 := Lib.hid (hJ _ _ _ _ h0 ((Ac.refl W.heap.size _ W).alloc (.map #[] 0)))
  have HS1 := Lib.hid (hS.alloc (.map #[] 0))
  have hmm := run_mkHintI
  have qz0 := hQ.c0; have qzl := hQ.lt
  have q0 := Q1.c0; have q1 := Q1.c1; have q2 := Q1.c2; have q3 := Q1.c3; have q4 := Q1.c4; have q5 := Q1.c5; have q6 := Q1.c6; have ql := Q1.lt
  have HM1 := Lib.hid M1; have HB1 := Lib.hid B1
  clear hJ hQ hS hY h0 V Q1 M1 B1
  refine callsIn_of_wp Try.func71 rfl trivial ?_ rfl
  simp only [Try.ntmps71, List.size_toArray, List.length_cons, List.length_nil, Nat.reduceAdd, Nat.reduceSub, Array.replicate_succ, Array.replicate_zero, List.push_toArray, List.append_toArray, List.nil_append, List.cons_append]
  have hn7 : 1 ≤ 8 := by omega
  gi_wp2
  refine ⟨trivial, ?_⟩
  refine (callsIn_wide.2 (wspans_is h f HVV.out _ HS1.out)).mono ?_
  rintro e w2 ⟨hb2, v2, rfl, hown2⟩
  rw [HL.out] at hown2
  obtain ⟨len, hlen⟩ : ∃ len, l.length = len := ⟨_, rfl⟩
  rw [hlen] at hown2 HLEN
  obtain ⟨g, cp, rfl, hgb⟩ := own_openS hown2 (by rw [← HL.out]; exact spn_pos f)
  rw [World.size_alloc] at hgb
  have HN := Lib.hid hlen; have HGB := Lib.hid hgb; have HO2 := Lib.hid hown2; have HB2 := Lib.hid hb2
  have HM2 := Lib.hid (map_same HM1.out (hb2.block _ (by simp)))
  have HJ2 := Lib.hid (HJ.out _ _ _ _ HJ1.out (Ac.ofBelow hb2))
  clear hlen hgb hown2 hb2 hmm q0 q1 q2 q3 q4 q5 q6 ql qz0 qzl
  have hlen2 := HLEN.out
  have hs2 : W.heap.size + 1 ≤ w2.heap.size := by have := HB2.out.size; simpa using this
  gi_wp2
  gi_loopw [13] (fun s13 wr => ∃ (i N : Nat) (q : Int) (R : Nat → Prop) (D : DataW Unit), i ≤ len ∧ q = i ∧ s13 = .int .i64 q ∧ Hid (∀ k, R k → w2.heap.size ≤ k ∧ k < wr.heap.size) ∧ Hid (J R (Fo.vis (Fo.flat (l.take i))) wr) ∧ N = (Fo.flat (l.take i)).length ∧ Hid (wr.ownsMap Try.prog 3 (plainElem Try.prog 3) W.heap.size N D) ∧ Hid (Fo.Cnt (Fo.flat (l.take i)) D) ∧ Hid (wr.ownsRow (W.heap.size + 1) 80 2 (.slice (some ⟨g, 0, none⟩) len cp) len (vV l)) ∧ w2.heap.size ≤ wr.heap.size) (fun s13 _ => len - (intOf s13).toNat)
  case atStart =>
    refine ⟨0, 0, 0, fun _ => False, .map [], Nat.zero_le _, rfl, rfl, Lib.hid (fun k hk => hk.elim), Lib.hid HJ2.out, rfl, HM2, Lib.hid Fo.Cnt.start, Lib.hid ?_, Nat.le_refl _⟩
    have h := HO2.out
    rw [World.size_alloc] at h
    exact h
  case round =>
    clear HJ1 HS1 HM1 HB1 HO2 HB2 HM2 HJ2
    obtain ⟨i, N, q, R, D, hi, hq, rfl, HRB, HJs, HNN, HMA, HCN, HOW, hsz⟩ := hrel
    have HNN := Lib.hid HNN
    by_cases hlt : i < len
    · have hil : i < l.length := by rw [HN.out]; omega
      obtain ⟨-, A', cp', eA, hSl, -⟩ := own_V HOW.out
      cases eA
      obtain ⟨bb, off, e1, hbb, hc⟩ := hSl (by omega)
      cases e1
      obtain ⟨x, hx⟩ : ∃ x, atV l i = x := ⟨_, rfl⟩
      have X := hc i hil
      rw [hx, Nat.zero_add] at X
      have hxb := HALL.out x (by rw [← hx]; exact atV_mem hil)
      have HPF : Hid (∀ m, x.b ≤ m → m < x.p → Fo.flat (l.take i) ++ Fo.bars x.b m ++ [m] <+: Fo.flat l) := Lib.hid (fun m h1 h2 => by have := Fo.flat_prefix hil (m := m) (by rw [hx]; exact h1) (by rw [hx]; exact h2); rwa [hx] at this)
      have HTS : Hid (Fo.flat (l.take (i + 1)) = Fo.flat (l.take i) ++ Fo.bars x.b x.p) := Lib.hid (by have := Fo.flat_take_succ hil; rwa [hx] at this)
      have HFLN : Hid ((Fo.flat l).length ≤ 288000000) := Lib.hid (by rw [HFL.out]; exact HVV.out.len2)
      obtain ⟨x0, x1, x2⟩ := hxb
      obtain ⟨c0, c1⟩ := X
      replace c0 : wr.cell? ⟨g, i * 2, none⟩ = some (.int .i64 x.b) := c0
      have hq1 : q < (len : Int) := by omega
      have hq3 : 0 ≤ q := by omega
      have hqn : q.toNat = i := by omega
      have hq4 : q ≤ 1000000 := by omega
      have HQ := Lib.hid hq
      have HXL := Lib.hid (At2.new wr x.b x.p 80)
      have HJ3 := Lib.hid (HJ.out _ _ _ _ HJs.out ((Ac.refl W.heap.size R wr).alloc (.cells #[.int .i64 x.b, .int .i64 x.p] 80)))
      have HM3 := Lib.hid (map_same (Y := wr.alloc (.cells #[.int .i64 x.b, .int .i64 x.p] 80)) HMA.out (Below.heap_alloc _ _ _ (by omega)))
      have HO3 := Lib.hid (HOW.out.alloc (.cells #[.int .i64 x.b, .int .i64 x.p] 80))
      obtain ⟨vx, hvx⟩ : ∃ vx, wr.heap.size = vx := ⟨_, rfl⟩
      have HRB3 : Hid (∀ k, R k → (w2.heap.size ≤ k ∧ k < (wr.alloc (.cells #[.int .i64 x.b, .int .i64 x.p] 80)).heap.size) ∧ k ≠ vx) := Lib.hid (fun k hk => by have := HRB.out k hk; simp; omega)
      clear hc hil hx hSl hq
      gi_wp2
      gi_loopw [6] (fun s6 wq => ∃ (m N2 : Nat) (bar : Int) (R2 : Nat → Prop) (D2 : DataW Unit), x.b ≤ bar ∧ bar ≤ x.p ∧ s6 = .int .i64 bar ∧ Hid (∀ k, R2 k → (w2.heap.size ≤ k ∧ k < wq.heap.size) ∧ k ≠ vx) ∧ Hid (J R2 (Fo.vis (Fo.flat (l.take i) ++ Fo.bars x.b bar)) wq) ∧ N2 = (Fo.flat (l.take i) ++ Fo.bars x.b bar).length ∧ Hid (wq.ownsMap Try.prog 3 (plainElem Try.prog 3) W.heap.size N2 D2) ∧ Hid (Fo.Cnt (Fo.flat (l.take i) ++ Fo.bars x.b bar) D2) ∧ Hid (wq.ownsRow (W.heap.size + 1) 80 2 (.slice (some ⟨g, 0, none⟩) len cp) len (vV l)) ∧ Hid (At2 wq vx x.b x.p) ∧ vx < wq.heap.size) (fun s6 _ => (x.p - intOf s6).toNat)
      case atStart => exact ⟨0, N, x.b, R, D, Int.le_refl _, x1, rfl, HRB3, Lib.hid (by rw [Fo.bars_nil (Int.le_refl _), List.append_nil]; exact HJ3.out), by rw [Fo.bars_nil (Int.le_refl _), List.append_nil]; exact HNN.out, HM3, Lib.hid (by rw [Fo.bars_nil (Int.le_refl _), List.append_nil]; exact HCN.out), HO3, Lib.hid (by rw [← hvx]; exact HXL.out), by rw [← hvx]; simp⟩
      case round =>
        clear HJ3 HM3 HO3 HXL HRB3 HJs HMA HCN HOW HRB c0 c1
        obtain ⟨-, N2, bar, R2, D2, hb0, hb1, rfl, HRB, HJs, HN2, HMA, HCN, HOW, HXA, hsq⟩ := hrel
        have HN2 := Lib.hid HN2
        have a0 := HXA.out.c0; have a1 := HXA.out.c1; have al := HXA.out.lt
        by_cases hlb : bar < x.p
        · have hkey := int_key (x := bar) (by unfold i64; omega)
          have HPP := HPF.out bar hb0 hlb
          obtain ⟨P, hP⟩ : ∃ P, Fo.flat (l.take i) ++ Fo.bars x.b bar = P := ⟨_, rfl⟩
          rw [hP] at HPP HJs HN2 HCN
          obtain ⟨cv, hcv⟩ : ∃ cv : Int, (P.count bar : Int) = cv := ⟨_, rfl⟩
          have hcvb : 0 ≤ cv ∧ cv ≤ 288000000 := by
            have h1 := HPP.length_le
            have h2 := HFLN.out
            have h3 := List.count_le_length (a := bar) (l := P)
            rw [List.length_append] at h1
            omega
          have hNb : N2 ≤ 288000000 := by
            have h1 := HPP.length_le
            have h2 := HFLN.out
            rw [List.length_append] at h1
            have := HN2.out
            omega
          have HC : Hid (D2.atKey (.int .i64 bar) (.lit (.int .i64 0)) = .lit (.int .i64 cv)) := Lib.hid (by rw [HCN.out bar (by unfold i64; omega), hcv])
          have HC5 : Hid ((D2.put (.int .i64 bar) (.lit (.int .i64 (cv + 1)))).atKey (.int .i64 bar) (.lit (.int .i64 0)) = .lit (.int .i64 (cv + 1))) := Lib.hid (atKey_put_same (HMA.out.tidy intK).isMap (intK.key hkey) _ _)
          have HCN5 : Hid (Fo.Cnt (P ++ [bar]) (D2.put (.int .i64 bar) (.lit (.int .i64 (cv + 1))))) := Lib.hid (by rw [← hcv]; exact Fo.Cnt.step HCN.out (HMA.out.tidy intK).isMap (by unfold i64; omega))
          have HV5 : Hid (Fo.vis (P ++ [bar]) = Fo.vis P ++ [⟨bar, cv + 1⟩]) := Lib.hid (by rw [Fo.vis_snoc, hcv])
          have HPV := Lib.hid (Fo.vis_prefix HPP)
          have HP2 : Hid (Fo.flat (l.take i) ++ Fo.bars x.b (bar + 1) = P ++ [bar]) := Lib.hid (by rw [Fo.bars_snoc hb0, ← List.append_assoc, hP])
          obtain ⟨hc0, hc1⟩ := hcvb
          have hmap := HMA.out
          clear hP hcv HPP HMA HCN
          gi_wp2_with (first
            | (gi_at_lookup; refine wpListIn_lookup_own_int _ rfl _ _ 47 rfl 3 3 .i64 intK Try.underlying47 Try.underlying3 (Try.zeroValue3 _) W.heap.size (N2 + 1) (D2.put (.int .i64 bar) (.lit (.int .i64 (cv + 1)))) rfl hm5 _ _ rfl hkey ?_; intro c hat hwc; obtain rfl : c = cv + 1 := (by rw [HC5.out] at hat; simpa using hat.symm); clear hat hwc)
            | (gi_at_lookup; refine wpListIn_lookup_own_int _ rfl _ _ 47 rfl 3 3 .i64 intK Try.underlying47 Try.underlying3 (Try.zeroValue3 _) W.heap.size N2 D2 rfl hmap _ _ rfl hkey ?_; intro c hat hwc; obtain rfl : cv = c := (by rw [HC.out] at hat; simpa using hat); clear hat hwc)
            | (gi_at_mapUpdate; refine wpListIn_mapUpdate_own _ rfl _ _ _ 47 rfl 3 3 intK Try.underlying47 _ W.heap.size N2 D2 rfl hmap (by unfold maxLen; omega) _ _ _ rfl rfl hkey (.lit (.int .i64 (cv + 1))) [] (plainElem_int Try.underlying3 (wf_lit (by unfold i64; omega))) ?_; intro w5 hm5 hg5; have hA5 : Ac W.heap.size R2 wr w5 := Ac.grown hg5 (fun j hj => by cases hj; exact ⟨Nat.le_refl _, fun h => by have := HRB.out _ h; omega⟩); have HJ5 := HJ.out _ _ _ _ HJs.out hA5; have hX5 := HXA.out.sameB hg5.size (hg5.block _ hsq (fun e => by have := Option.some.inj e; omega)); have hO5 := own_same HOW.out (Y := w5) (fun g' hg' hlt' => hg5.block g' hlt' (fun e => by have := Option.some.inj e; have := HGB.out; have := Option.some.inj hg'; simp at this; omega)); have hz5 : wr.heap.size ≤ w5.heap.size := hg5.size; obtain ⟨fn, tmps, assign, body, hy, hRR⟩ := HY.out R2 _ ⟨bar, cv + 1⟩ w5 (by rw [← HV5.out]; exact HPV.out) (fun k hk => by have := HRB.out k hk; omega) HJ5 (by omega); have HR := Lib.hid hRR; have HX5 := Lib.hid hX5; have HO5 := Lib.hid hO5; clear hA5 HJ5 hX5 hO5 hg5 hRR a0 a1 al hmap)
            | fail)
          refine HR.out.mono ?_
          clear HR hy
          rintro e Y (⟨rfl, hJ6, hK6⟩ | ⟨rfl, hJx6, hK6⟩)
          · have hzY := hK6.size
            have hnm : ∀ k, k < w2.heap.size → ¬ R2 k := fun k hk h => by have := HRB.out k h; omega
            have HM6 := Lib.hid (map_same hm5 (hK6.same _ (by omega) (.inr ⟨Nat.le_refl _, hnm _ (by omega)⟩)))
            have HX6 := Lib.hid (HX5.out.sameB hzY (hK6.same _ (by omega) (.inr ⟨by omega, fun h => by have := HRB.out _ h; omega⟩)))
            have HO6 := Lib.hid (own_same HO5.out (Y := Y) (fun g' hg' hlt' => hK6.same g' hlt' (.inr (by have := HGB.out; have := Option.some.inj hg'; simp at this; exact ⟨by omega, hnm _ (by omega)⟩))))
            have HRB6 : Hid (∀ k, grow R2 w5 Y k → (w2.heap.size ≤ k ∧ k < Y.heap.size) ∧ k ≠ vx) := Lib.hid (fun k hk => by
              rcases hk with hk | hk
              · have := HRB.out k hk; omega
              · omega)
            have HJ6 := Lib.hid hJ6
            clear hJ6 hK6 hm5
            gi_wp2
            go_roundw
            case rel => exact ⟨0, N2 + 1, bar + 1, grow R2 w5 Y, _, by omega, by omega, rfl, HRB6, Lib.hid (by rw [HP2.out, HV5.out]; exact HJ6.out), by rw [HP2.out, List.length_append, HN2.out]; rfl, HM6, Lib.hid (by rw [HP2.out]; exact HCN5.out), HO6, HX6, by omega⟩
            case measure => simp [intOf]; omega
          · have hzY := hK6.size
            gi_wp2
            refine bodyPost_ret (results_none rfl _ _ _) rfl ?_
            refine ⟨⟨_, rfl⟩, .inr ⟨grow R2 w5 Y, _, HPV.out, fun k hk => ?_, by rw [HV5.out]; exact hJx6⟩⟩
            rcases hk with hk | hk
            · have := HRB.out k hk; omega
            · omega
        · obtain rfl : bar = x.p := by omega
          have HO4 := HOW
          gi_wp2
          go_roundw
          case rel => exact ⟨i + 1, N2, q + 1, R2, D2, by omega, (by have := HQ.out; omega), rfl, Lib.hid (fun k hk => (HRB.out k hk).1), Lib.hid (by rw [HTS.out]; exact HJs.out), by rw [HTS.out]; exact HN2.out, HMA, Lib.hid (by rw [HTS.out]; exact HCN.out), HO4, by omega⟩
          case measure => have := HQ.out; simp [intOf]; omega
    · obtain rfl : i = len := by omega
      have hq1 : ¬ q < (i : Int) := by omega
      have HJ3 : Hid (J R (Fo.vis (Fo.flat l)) wr) := Lib.hid (by have h := HJs.out; rwa [List.take_of_length_le (by rw [HN.out]; exact Nat.le_refl _)] at h)
      clear hq HJs
      gi_wp2
      go_end0
      exact ⟨⟨_, rfl⟩, .inl ⟨by omega, R, fun k hk => by have := HRB.out k hk; omega, HJ3.out⟩⟩
/-- All visits of a form without its cuts, one after the other. -/
theorem wvisits_seq (h : FH) (f : Fo.Fm) (V : Fo.Ok f) (Bl : Nat) (S : Nat → Prop) (w : World) (hQ : FB w Bl h) (hS : SlF w h f) :
    SeqR Try.prog 71 #[.pointer (some ⟨Bl, 0, none⟩)] (fun x : Fo.V2 => #[Value.agg #[.int .i64 x.b, .int .i64 x.p]]) S (Fo.vis (Fo.whl f)) w := fun L J Jx W hW hJ _ hY h0 =>
  wvisits_in h f V L Bl S J Jx W hJ (hQ.below hW) (hS.below hW) hY h0
end Go.Proofs.Ytakbpgljbbkmkaa
