import Derived.Test.YtahdlkdiadlgeaaGAU
import Derived.Test.YtahdlkdiadlgeaaGAI
import Derived.RangeFuncBox
import Derived.RangeFuncBound
import Derived.Shelf.Abstract
import Derived.WalkKit
import Derived.OwnWalkIn
import Derived.TacticsInMore
import Derived.LoopNIn
import Derived.LoopIn
import Derived.Maps.OwnIn
import Derived.Test.YtahdlkdiadlgeaaGAS
import Derived.Test.YtahdlkdiadlgeaaGAK
import Derived.Test.YtahdlkdiadlgeaaGAH
import Derived.Test.YtahdlkdiadlgeaaGAB
import Derived.Test.YtahdlkdiadlgeaaGAL
import Derived.Test.YtahdlkdiadlgeaaGAO
/- The walk of the function that reprise's visits gives: how often each bar came is counted in a map. -/
namespace Go.Proofs.Ytahdlkdiadlgeaa
open Go.RowKit Go.Shelf Go.Maps

attribute [local go_sem] Oper.semAt_some

namespace Fo
theorem visA_app : ∀ (l acc r : List Int), visA acc (l ++ r) = visA acc l ++ visA (acc ++ l) r
  | [], acc, r => by simp [visA]
  | x :: l, acc, r => by
    rw [List.cons_append, visA, visA, visA_app l (acc ++ [x]) r]
    simp
theorem vis_prefix {a b : List Int} (h : a <+: b) : vis a <+: vis b := by
  obtain ⟨c, rfl⟩ := h
  unfold vis
  rw [visA_app]
  exact List.prefix_append _ _
theorem flat_prefix {l : List V2} {i : Nat} (h : i < l.length) {m : Int} (h1 : (atV l i).b ≤ m) (h2 : m < (atV l i).p) : flat (l.take i) ++ bars (atV l i).b m ++ [m] <+: flat l := by
  rw [List.append_assoc, ← bars_snoc h1]
  conv => rhs; rw [← List.take_append_drop i l, List.drop_eq_getElem_cons h, ← atV_eq h, flat_app, flat_cons, bars_app (show (atV l i).b ≤ m + 1 by omega) (show m + 1 ≤ (atV l i).p by omega)]
  rw [List.append_assoc, List.prefix_append_right_inj]
  exact List.prefix_append _ _
theorem flat_take_succ {l : List V2} {i : Nat} (h : i < l.length) : flat (l.take (i + 1)) = flat (l.take i) ++ bars (atV l i).b (atV l i).p := by rw [take_atV h, flat_app, flat_one]
/-- The map says how often each bar came. -/
def Cnt (P : List Int) (D : DataW Unit) : Prop := ∀ x, i64 x → D.atKey (.int .i64 x) (.lit (.int .i64 0)) = .lit (.int .i64 (P.count x : Int))
theorem Cnt.start : Cnt [] (.map []) := fun _ _ => rfl
end Fo
theorem intK : Keyed Try.prog 3 := int_keyed Try.underlying3
theorem int_key {x : Int} (h : i64 x) : keyOf Try.prog 3 (.int .i64 x) = some (.int .i64 x) := keyOf_int_mk Try.underlying3 (wf_lit h)
theorem Fo.Cnt.step {P : List Int} {D : DataW Unit} {y : Int} (h : Fo.Cnt P D) (hD : IsMap D) (hy : i64 y) : Fo.Cnt (P ++ [y]) (D.put (.int .i64 y) (.lit (.int .i64 ((P.count y : Int) + 1)))) := fun x hx => by
  by_cases e : x = y
  · subst e
    rw [atKey_put_same hD (intK.key (int_key hx)), List.count_append]
    simp
  · rw [atKey_put_other (fun e2 => e (by simpa using e2)), h x hx, List.count_append]
    have : List.count x [y] = 0 := List.count_eq_zero.2 (by simpa using e)
    rw [this, Nat.add_zero]
theorem run_mkHintI (n : Int) (w : World) : (Instr.makeMap 125 (some (.int .i64 n))).run Try.prog w = .ok (.map (some w.heap.size)) (w.alloc (.map #[] 0)) := by
  simp [Instr.makeMap, run_underlying Try.underlying125, asInt, asIntOf, Result.andThen]
theorem own_openS {w : World} {base : Nat} {e : TypeId} {v : Value} {m : Nat} {l : List Fo.V2} (h : w.ownsRow base e 2 v m (vV l)) (hl : 0 < l.length) : ∃ g cap, v = .slice (some ⟨g, 0, none⟩) m cap ∧ base ≤ g ∧ g < w.heap.size := by
  have hm : l.length = m := by have := h.1; rw [vV_length] at this; omega
  rcases h.2 with ⟨_, h0⟩ | ⟨g, cap, cur, hv, hb, hg, _⟩
  · omega
  · exact ⟨g, cap, hv, hb, (Array.getElem?_eq_some_iff.1 hg).1⟩
theorem spn_pos (f : Fo.Fm) : 0 < (Fo.spn f).length := by unfold Fo.spn; rw [List.length_append]; have := prtS_pos f.es (fun _ => 1) (if 0 < f.ja then f.ja else f.n) f.rs 0; omega
theorem Fo.Ok.len2 {f : Fo.Fm} (V : Fo.Ok f) : (Fo.whl f).length ≤ 288000000 := by
  have hj := V.j
  have hn := V.n
  unfold Fo.okJ at hj
  exact Fo.whl_len (V.rs.rgs hn.2) hn.2 (by omega) (by omega) (by omega)
theorem own_same {X Y : World} {base : Nat} {e : TypeId} {size n : Nat} {v : Value} {xs : List Value} (h : X.ownsRow base e size v n xs) (hb : ∀ g, v.ownBlock = some g → g < X.heap.size → Y.heap[g]? = X.heap[g]?) : Y.ownsRow base e size v n xs := by
  refine ⟨h.1, ?_⟩
  rcases h.2 with h2 | ⟨g, cap, cur, h1, h2, h3, h4⟩
  · exact .inl h2
  · exact .inr ⟨g, cap, cur, h1, h2, (hb g (by rw [h1]; rfl) (Array.getElem?_eq_some_iff.1 h3).1).trans h3, h4⟩
theorem map_same {X Y : World} {H : Type} {P : Program} {k : TypeId} {R : Value → Option (DataW H × List MemPlace)} {b n : Nat} {D : DataW H} (h : X.ownsMap P k R b n D) (hb : Y.heap[b]? = X.heap[b]?) : Y.ownsMap P k R b n D := by
  obtain ⟨es, clock, h1, h2⟩ := h
  exact ⟨es, clock, hb.trans h1, h2⟩
theorem At2.sameB {X Y : World} {b : Nat} {x y : Int} (h : At2 X b x y) (hs : X.heap.size ≤ Y.heap.size) (hb : Y.heap[b]? = X.heap[b]?) : At2 Y b x y :=
  ⟨Nat.lt_of_lt_of_le h.lt hs, (World.cell?_of_block (w := X) (a := ⟨b, 0, none⟩) hb).trans h.c0, (World.cell?_of_block (w := X) (a := ⟨b, 1, none⟩) hb).trans h.c1⟩
set_option maxHeartbeats 12800000 in
set_option maxRecDepth 100000 in
theorem wvisits_in (h : FH) (f : Fo.Fm) (V : Fo.Ok f) (L Bl : Nat) (S : Nat → Prop) (J Jx : (Nat → Prop) → List Fo.V2 → World → Prop) (W : World)
    (hJ : ∀ R s X Y, J R s X → Ac W.heap.size R X Y → J R s Y) (hQ : FB W Bl h) (hS : SlF W h f)
    (hY : ∀ (R : Nat → Prop) pre x X, pre ++ [x] <+: Fo.vis (Fo.whl f) → (∀ k, R k → W.heap.size ≤ k ∧ k < X.heap.size) → J R pre X → W.heap.size ≤ X.heap.size → YieldAt Fence.wide 7 Try.prog L #[.agg #[.int .i64 x.b, .int .i64 x.p]] X fun e Y =>
      (e = .returned (.bool true) ∧ J (grow R X Y) (pre ++ [x]) Y ∧ KrR S W.heap.size R X Y) ∨ (e = .returned (.bool false) ∧ Jx (grow R X Y) (pre ++ [x]) Y ∧ KrR S W.heap.size R X Y))
    (h0 : J (fun _ => False) [] W) :
    CallsIn Fence.wide 8 Try.prog 87 #[.func (.yield L) #[] #[], .pointer (some ⟨Bl, 0, none⟩)] W fun e Y => (∃ v, e = .returned v) ∧ ((W.heap.size ≤ Y.heap.size ∧ ∃ R : Nat → Prop, (∀ k, R k → W.heap.size ≤ k ∧ k < Y.heap.size) ∧ J R (Fo.vis (Fo.whl f)) Y) ∨ ∃ (R : Nat → Prop) (pre : List Fo.V2), pre <+: Fo.vis (Fo.whl f) ∧ (∀ k, R k → W.heap.size ≤ k ∧ k < Y.heap.size) ∧ Jx R pre Y) := by
  have HJ := Lib.hid hJ
  have HFL := Lib.hid V.flat; have HALL := Lib.hid V.all; have HLEN := Lib.hid V.len
  have HVV := Lib.hid V
  rw [← V.flat] at hY ⊢
  obtain ⟨l, hl⟩ : ∃ l, Fo.spn f = l := ⟨_, rfl⟩
  rw [hl] at hY HFL HALL HLEN ⊢
  have HL := Lib.hid hl
  have HY := Lib.hid hY
  clear hl
  have Q1 := hQ.alloc (.map #[] 0)
  have B1 := (Below.refl W.heap.size W).alloc (Nat.le_refl _) (.map #[] 0)
  have M1 : (W.alloc (.map #[] 0)).ownsMap Try.prog 3 (plainElem Try.prog 3) W.heap.size 0 (.map [] : DataW Unit) := World.ownsMap_made _ _ _ _
  have HJ1 := Lib.hid (hJ _ _ _ _ h0 ((Ac.refl W.heap.size _ W).alloc (.map #[] 0)))
  have HS1 := Lib.hid (hS.alloc (.map #[] 0))
  have hmm := run_mkHintI
  have qz0 := hQ.c0; have qzl := hQ.lt
  have q0 := Q1.c0; have q1 := Q1.c1; have q2 := Q1.c2; have q3 := Q1.c3; have q4 := Q1.c4; have q5 := Q1.c5; have q6 := Q1.c6; have ql := Q1.lt
  have HM1 := Lib.hid M1; have HB1 := Lib.hid B1
  clear hJ hQ hS hY h0 V Q1 M1 B1
  refine callsIn_of_wp Try.func87 rfl trivial ?_ rfl
  simp only [Try.ntmps87, List.size_toArray, List.length_cons, List.length_nil, Nat.reduceAdd, Nat.reduceSub, Array.replicate_succ, Array.replicate_zero, List.push_toArray, List.append_toArray, List.nil_append, List.cons_append]
  have hn7 : 1 ≤ 8 := by omega
  gi_wp2
  refine ⟨trivial, ?_⟩
  refine (callsIn_wide.2 (wspans_is h f HVV.out _ HS1.out)).mono ?_
  rintro e w2 ⟨hb2, v2, rfl, hown2⟩
  rw [HL.out] at hown2
  obtain ⟨len, hlen⟩ : ∃ len, l.length = len := ⟨_, rfl⟩
  rw [hlen] at hown2 HLEN
  obtain ⟨g, cp, rfl, hgb⟩ := own_openS hown2 (by rw [← HL.out]; exact spn_pos f)
  rw [World.size_alloc] at hgb
  have HN := Lib.hid hlen; have HGB := Lib.hid hgb; have HO2 := Lib.hid hown2; have HB2 := Lib.hid hb2
  have HM2 := Lib.hid (map_same HM1.out (hb2.block _ (by simp)))
  have HJ2 := Lib.hid (HJ.out _ _ _ _ HJ1.out (Ac.ofBelow hb2))
  clear hlen hgb hown2 hb2 hmm q0 q1 q2 q3 q4 q5 q6 ql qz0 qzl
  have hlen2 := HLEN.out
  have hs2 : W.heap.size + 1 ≤ w2.heap.size := by have := HB2.out.size; simpa using this
  gi_wp2
  gi_loopw [13] (fun s13 wr => ∃ (i N : Nat) (q : Int) (R : Nat → Prop) (D : DataW Unit), i ≤ len ∧ q = i ∧ s13 = .int .i64 q ∧ Hid (∀ k, R k → w2.heap.size ≤ k ∧ k < wr.heap.size) ∧ Hid (J R (Fo.vis (Fo.flat (l.take i))) wr) ∧ N = (Fo.flat (l.take i)).length ∧ Hid (wr.ownsMap Try.prog 3 (plainElem Try.prog 3) W.heap.size N D) ∧ Hid (Fo.Cnt (Fo.flat (l.take i)) D) ∧ Hid (wr.ownsRow (W.heap.size + 1) 114 2 (.slice (some ⟨g, 0, none⟩) len cp) len (vV l)) ∧ w2.heap.size ≤ wr.heap.size) (fun s13 _ => len - (intOf s13).toNat)
  case atStart =>
    refine ⟨0, 0, 0, fun _ => False, .map [], Nat.zero_le _, rfl, rfl, Lib.hid (fun k hk => hk.elim), Lib.hid HJ2.out, rfl, HM2, Lib.hid Fo.Cnt.start, Lib.hid ?_, Nat.le_refl _⟩
    have h := HO2.out
    rw [World.size_alloc] at h
    exact h
  case round =>
    clear HJ1 HS1 HM1 HB1 HO2 HB2 HM2 HJ2
    obtain ⟨i, N, q, R, D, hi, hq, rfl, HRB, HJs, HNN, HMA, HCN, HOW, hsz⟩ := hrel
    have HNN := Lib.hid HNN
    by_cases hlt : i < len
    · have hil : i < l.length := by rw [HN.out]; omega
      obtain ⟨-, A', cp', eA, hSl, -⟩ := own_V HOW.out
      cases eA
      obtain ⟨bb, off, e1, hbb, hc⟩ := hSl (by omega)
      cases e1
      obtain ⟨x, hx⟩ : ∃ x, atV l i = x := ⟨_, rfl⟩
      have X := hc i hil
      rw [hx, Nat.zero_add] at X
      have hxb := HALL.out x (by rw [← hx]; exact atV_mem hil)
      have HPF : Hid (∀ m, x.b ≤ m → m < x.p → Fo.flat (l.take i) ++ Fo.bars x.b m ++ [m] <+: Fo.flat l) := Lib.hid (fun m h1 h2 => by have := Fo.flat_prefix hil (m := m) (by rw [hx]; exact h1) (by rw [hx]; exact h2); rwa [hx] at this)
      have HTS : Hid (Fo.flat (l.take (i + 1)) = Fo.flat (l.take i) ++ Fo.bars x.b x.p) := Lib.hid (by have := Fo.flat_take_succ hil; rwa [hx] at this)
      have HFLN : Hid ((Fo.flat l).length ≤ 288000000) := Lib.hid (by rw [HFL.out]; exact HVV.out.len2)
      obtain ⟨x0, x1, x2⟩ := hxb
      obtain ⟨c0, c1⟩ := X
      replace c0 : wr.cell? ⟨g, i * 2, none⟩ = some (.int .i64 x.b) := c0
      have hq1 : q < (len : Int) := by omega
      have hq3 : 0 ≤ q := by omega
      have hqn : q.toNat = i := by omega
      have hq4 : q ≤ 1000000 := by omega
      have HQ := Lib.hid hq
      have HXL := Lib.hid (At2.new wr x.b x.p 114)
      have HJ3 := Lib.hid (HJ.out _ _ _ _ HJs.out ((Ac.refl W.heap.size R wr).alloc (.cells #[.int .i64 x.b, .int .i64 x.p] 114)))
      have HM3 := Lib.hid (map_same (Y := wr.alloc (.cells #[.int .i64 x.b, .int .i64 x.p] 114)) HMA.out (Below.heap_alloc _ _ _ (by omega)))
      have HO3 := Lib.hid (HOW.out.alloc (.cells #[.int .i64 x.b, .int .i64 x.p] 114))
      obtain ⟨vx, hvx⟩ : ∃ vx, wr.heap.size = vx := ⟨_, rfl⟩
      have HRB3 : Hid (∀ k, R k → (w2.heap.size ≤ k ∧ k < (wr.alloc (.cells #[.int .i64 x.b, .int .i64 x.p] 114)).heap.size) ∧ k ≠ vx) := Lib.hid (fun k hk => by have := HRB.out k hk; simp; omega)
      clear hc hil hx hSl hq
      gi_wp2
      gi_loopw [6] (fun s6 wq => ∃ (m N2 : Nat) (bar : Int) (R2 : Nat → Prop) (D2 : DataW Unit), x.b ≤ bar ∧ bar ≤ x.p ∧ s6 = .int .i64 bar ∧ Hid (∀ k, R2 k → (w2.heap.size ≤ k ∧ k < wq.heap.size) ∧ k ≠ vx) ∧ Hid (J R2 (Fo.vis (Fo.flat (l.take i) ++ Fo.bars x.b bar)) wq) ∧ N2 = (Fo.flat (l.take i) ++ Fo.bars x.b bar).length ∧ Hid (wq.ownsMap Try.prog 3 (plainElem Try.prog 3) W.heap.size N2 D2) ∧ Hid (Fo.Cnt (Fo.flat (l.take i) ++ Fo.bars x.b bar) D2) ∧ Hid (wq.ownsRow (W.heap.size + 1) 114 2 (.slice (some ⟨g, 0, none⟩) len cp) len (vV l)) ∧ Hid (At2 wq vx x.b x.p) ∧ vx < wq.heap.size) (fun s6 _ => (x.p - intOf s6).toNat)
      case atStart => exact ⟨0, N, x.b, R, D, Int.le_refl _, x1, rfl, HRB3, Lib.hid (by rw [Fo.bars_nil (Int.le_refl _), List.append_nil]; exact HJ3.out), by rw [Fo.bars_nil (Int.le_refl _), List.append_nil]; exact HNN.out, HM3, Lib.hid (by rw [Fo.bars_nil (Int.le_refl _), List.append_nil]; exact HCN.out), HO3, Lib.hid (by rw [← hvx]; exact HXL.out), by rw [← hvx]; simp⟩
      case round =>
        clear HJ3 HM3 HO3 HXL HRB3 HJs HMA HCN HOW HRB c0 c1
        obtain ⟨-, N2, bar, R2, D2, hb0, hb1, rfl, HRB, HJs, HN2, HMA, HCN, HOW, HXA, hsq⟩ := hrel
        have HN2 := Lib.hid HN2
        have a0 := HXA.out.c0; have a1 := HXA.out.c1; have al := HXA.out.lt
        by_cases hlb : bar < x.p
        · have hkey := int_key (x := bar) (by unfold i64; omega)
          have HPP := HPF.out bar hb0 hlb
          obtain ⟨P, hP⟩ : ∃ P, Fo.flat (l.take i) ++ Fo.bars x.b bar = P := ⟨_, rfl⟩
          rw [hP] at HPP HJs HN2 HCN
          obtain ⟨cv, hcv⟩ : ∃ cv : Int, (P.count bar : Int) = cv := ⟨_, rfl⟩
          have hcvb : 0 ≤ cv ∧ cv ≤ 288000000 := by
            have h1 := HPP.length_le
            have h2 := HFLN.out
            have h3 := List.count_le_length (a := bar) (l := P)
            rw [List.length_append] at h1
            omega
          have hNb : N2 ≤ 288000000 := by
            have h1 := HPP.length_le
            have h2 := HFLN.out
            rw [List.length_append] at h1
            have := HN2.out
            omega
          have HC : Hid (D2.atKey (.int .i64 bar) (.lit (.int .i64 0)) = .lit (.int .i64 cv)) := Lib.hid (by rw [HCN.out bar (by unfold i64; omega), hcv])
          have HC5 : Hid ((D2.put (.int .i64 bar) (.lit (.int .i64 (cv + 1)))).atKey (.int .i64 bar) (.lit (.int .i64 0)) = .lit (.int .i64 (cv + 1))) := Lib.hid (atKey_put_same (HMA.out.tidy intK).isMap (intK.key hkey) _ _)
          have HCN5 : Hid (Fo.Cnt (P ++ [bar]) (D2.put (.int .i64 bar) (.lit (.int .i64 (cv + 1))))) := Lib.hid (by rw [← hcv]; exact Fo.Cnt.step HCN.out (HMA.out.tidy intK).isMap (by unfold i64; omega))
          have HV5 : Hid (Fo.vis (P ++ [bar]) = Fo.vis P ++ [⟨bar, cv + 1⟩]) := Lib.hid (by rw [Fo.vis_snoc, hcv])
          have HPV := Lib.hid (Fo.vis_prefix HPP)
          have HP2 : Hid (Fo.flat (l.take i) ++ Fo.bars x.b (bar + 1) = P ++ [bar]) := Lib.hid (by rw [Fo.bars_snoc hb0, ← List.append_assoc, hP])
          obtain ⟨hc0, hc1⟩ := hcvb
          have hmap := HMA.out
          clear hP hcv HPP HMA HCN
          gi_wp2_with (first
            | (gi_at_lookup; refine wpListIn_lookup_own_int _ rfl _ _ 125 rfl 3 3 .i64 intK Try.underlying125 Try.underlying3 (Try.zeroValue3 _) W.heap.size (N2 + 1) (D2.put (.int .i64 bar) (.lit (.int .i64 (cv + 1)))) rfl hm5 _ _ rfl hkey ?_; intro c hat hwc; obtain rfl : c = cv + 1 := (by rw [HC5.out] at hat; simpa using hat.symm); clear hat hwc)
            | (gi_at_lookup; refine wpListIn_lookup_own_int _ rfl _ _ 125 rfl 3 3 .i64 intK Try.underlying125 Try.underlying3 (Try.zeroValue3 _) W.heap.size N2 D2 rfl hmap _ _ rfl hkey ?_; intro c hat hwc; obtain rfl : cv = c := (by rw [HC.out] at hat; simpa using hat); clear hat hwc)
            | (gi_at_mapUpdate; refine wpListIn_mapUpdate_own _ rfl _ _ _ 125 rfl 3 3 intK Try.underlying125 _ W.heap.size N2 D2 rfl hmap (by unfold maxLen; omega) _ _ _ rfl rfl hkey (.lit (.int .i64 (cv + 1))) [] (plainElem_int Try.underlying3 (wf_lit (by unfold i64; omega))) ?_; intro w5 hm5 hg5; have hA5 : Ac W.heap.size R2 wr w5 := Ac.grown hg5 (fun j hj => by cases hj; exact ⟨Nat.le_refl _, fun h => by have := HRB.out _ h; omega⟩); have HJ5 := HJ.out _ _ _ _ HJs.out hA5; have hX5 := HXA.out.sameB hg5.size (hg5.block _ hsq (fun e => by have := Option.some.inj e; omega)); have hO5 := own_same HOW.out (Y := w5) (fun g' hg' hlt' => hg5.block g' hlt' (fun e => by have := Option.some.inj e; have := HGB.out; have := Option.some.inj hg'; simp at this; omega)); have hz5 : wr.heap.size ≤ w5.heap.size := hg5.size; obtain ⟨fn, tmps, assign, body, hy, hRR⟩ := HY.out R2 _ ⟨bar, cv + 1⟩ w5 (by rw [← HV5.out]; exact HPV.out) (fun k hk => by have := HRB.out k hk; omega) HJ5 (by omega); have HR := Lib.hid hRR; have HX5 := Lib.hid hX5; have HO5 := Lib.hid hO5; clear hA5 HJ5 hX5 hO5 hg5 hRR a0 a1 al hmap)
            | fail)
          refine HR.out.mono ?_
          clear HR hy
          rintro e Y (⟨rfl, hJ6, hK6⟩ | ⟨rfl, hJx6, hK6⟩)
          · have hzY := hK6.size
            have hnm : ∀ k, k < w2.heap.size → ¬ R2 k := fun k hk h => by have := HRB.out k h; omega
            have HM6 := Lib.hid (map_same hm5 (hK6.same _ (by omega) (.inr ⟨Nat.le_refl _, hnm _ (by omega)⟩)))
            have HX6 := Lib.hid (HX5.out.sameB hzY (hK6.same _ (by omega) (.inr ⟨by omega, fun h => by have := HRB.out _ h; omega⟩)))
            have HO6 := Lib.hid (own_same HO5.out (Y := Y) (fun g' hg' hlt' => hK6.same g' hlt' (.inr (by have := HGB.out; have := Option.some.inj hg'; simp at this; exact ⟨by omega, hnm _ (by omega)⟩))))
            have HRB6 : Hid (∀ k, grow R2 w5 Y k → (w2.heap.size ≤ k ∧ k < Y.heap.size) ∧ k ≠ vx) := Lib.hid (fun k hk => by
              rcases hk with hk | hk
              · have := HRB.out k hk; omega
              · omega)
            have HJ6 := Lib.hid hJ6
            clear hJ6 hK6 hm5
            gi_wp2
            go_roundw
            case rel => exact ⟨0, N2 + 1, bar + 1, grow R2 w5 Y, _, by omega, by omega, rfl, HRB6, Lib.hid (by rw [HP2.out, HV5.out]; exact HJ6.out), by rw [HP2.out, List.length_append, HN2.out]; rfl, HM6, Lib.hid (by rw [HP2.out]; exact HCN5.out), HO6, HX6, by omega⟩
            case measure => simp [intOf]; omega
          · have hzY := hK6.size
            gi_wp2
            refine bodyPost_ret (results_none rfl _ _ _) rfl ?_
            refine ⟨⟨_, rfl⟩, .inr ⟨grow R2 w5 Y, _, HPV.out, fun k hk => ?_, by rw [HV5.out]; exact hJx6⟩⟩
            rcases hk with hk | hk
            · have := HRB.out k hk; omega
            · omega
        · obtain rfl : bar = x.p := by omega
          have HO4 := HOW
          gi_wp2
          go_roundw
          case rel => exact ⟨i + 1, N2, q + 1, R2, D2, by omega, (by have := HQ.out; omega), rfl, Lib.hid (fun k hk => (HRB.out k hk).1), Lib.hid (by rw [HTS.out]; exact HJs.out), by rw [HTS.out]; exact HN2.out, HMA, Lib.hid (by rw [HTS.out]; exact HCN.out), HO4, by omega⟩
          case measure => have := HQ.out; simp [intOf]; omega
    · obtain rfl : i = len := by omega
      have hq1 : ¬ q < (i : Int) := by omega
      have HJ3 : Hid (J R (Fo.vis (Fo.flat l)) wr) := Lib.hid (by have h := HJs.out; rwa [List.take_of_length_le (by rw [HN.out]; exact Nat.le_refl _)] at h)
      clear hq HJs
      gi_wp2
      go_end0
      exact ⟨⟨_, rfl⟩, .inl ⟨by omega, R, fun k hk => by have := HRB.out k hk; omega, HJ3.out⟩⟩
/-- All visits of a form without its cuts, one after the other. -/
theorem wvisits_seq (h : FH) (f : Fo.Fm) (V : Fo.Ok f) (Bl : Nat) (S : Nat → Prop) (w : World) (hQ : FB w Bl h) (hS : SlF w h f) :
    SeqR Try.prog 87 #[.pointer (some ⟨Bl, 0, none⟩)] (fun x : Fo.V2 => #[Value.agg #[.int .i64 x.b, .int .i64 x.p]]) S (Fo.vis (Fo.whl f)) w := fun L J Jx W hW hJ _ hY h0 =>
  wvisits_in h f V L Bl S J Jx W hJ (hQ.below hW) (hS.below hW) hY h0
end Go.Proofs.Ytahdlkdiadlgeaa

/- The walks of order's closure, of ContainsFunc with it over cuts, and of the function that reprise's order gives. -/
namespace Go.Proofs.Ytahdlkdiadlgeaa
open Go.RowKit Go.Shelf Go.Maps

attribute [local go_sem] Oper.semAt_some

theorem room_any {F : Fence} (hd : F.depth = none) (k : Nat) : F.room k := fun d h => by rw [hd] at h; cases h
theorem round_any {F G : Fence} (hd : F.depth = none) (hf : G.fn = F.fn) {m m' : Nat} {P : Program} {l : Nat} {f : FuncId} {tmps : Array Value} {assign body : Code} {w : World} {R : Ending → World → Prop}
    (hG : Machine.fenced P G = Machine.fenced P F) (h : RoundIn F m P l f tmps assign body w R) : RoundIn G m' P l f tmps assign body w R := ⟨by rw [hf]; exact h.1, fun c cs _ => by rw [hG]; exact h.2 c cs (room_any hd _)⟩
/-- What no cut leaves out. -/
def Fo.flt (cs : List Fo.T3) (l : List Fo.V2) : List Fo.V2 := l.filter fun v => !decide (Fo.lft cs v)
theorem Fo.flt_snoc (cs : List Fo.T3) (l : List Fo.V2) (x : Fo.V2) : Fo.flt cs (l ++ [x]) = Fo.flt cs l ++ (if Fo.lft cs x then [] else [x]) := by
  unfold Fo.flt
  rw [List.filter_append]
  by_cases h : Fo.lft cs x
  · rw [if_pos h]; simp [h]
  · rw [if_neg h]; simp [h]
theorem Fo.flt_prefix {cs : List Fo.T3} {a b : List Fo.V2} (h : a <+: b) : Fo.flt cs a <+: Fo.flt cs b := by
  obtain ⟨c, rfl⟩ := h
  unfold Fo.flt
  rw [List.filter_append]
  exact List.prefix_append _ _
theorem i64_sub {x : Int} (h : i64 x) (hx : 0 < x) : i64 (x - 1) := by unfold i64 at h ⊢; omega
set_option maxHeartbeats 1600000 in
theorem wlvs_is (c : Fo.T3) (v : Fo.V2) (ob : Nat) (r : Bool) (hr : r = decide (Fo.lvs c v)) (hc : 0 ≤ c.a ∧ c.a < c.b ∧ c.b ≤ 4000) (w : World) (hB : At2 w ob v.b v.p) :
    Calls Try.prog 69 #[.agg #[.int .i64 c.a, .int .i64 c.b, .int .i64 c.c], .pointer (some ⟨ob, 0, none⟩)] w fun e w' => e = .returned (.bool r) ∧ Below w.heap.size w w' := by
  have B := (Below.refl w.heap.size w).alloc (Nat.le_refl _) (.cells #[.int .i64 c.a, .int .i64 c.b, .int .i64 c.c] 106)
  have v0 := hB.c0; have v1 := hB.c1; have vl := hB.lt
  obtain ⟨k0, k1, k2⟩ := hc
  obtain ⟨g, hg⟩ : ∃ g : Bool, g = true ↔ c.a ≤ v.b ∧ v.b ≤ c.b - 1 := ⟨decide _, decide_eq_true_iff⟩
  have HR : Hid (r = (g && (decide (c.c = 0) || decide (c.c = v.p)))) := Lib.hid (by
    rw [hr, Bool.eq_iff_iff, Bool.and_eq_true, Bool.or_eq_true, hg, decide_eq_true_eq, decide_eq_true_eq, decide_eq_true_eq]
    unfold Fo.lvs Fo.inn
    constructor
    · rintro ⟨⟨a, b⟩, h⟩; exact ⟨⟨a, by omega⟩, h⟩
    · rintro ⟨⟨a, b⟩, h⟩; exact ⟨⟨a, by omega⟩, h⟩)
  have HG := Lib.hid hg
  clear hr hB hg
  go_enter Try.func69, Try.ntmps69
  go_wp2_with fail
  refine (lbetween_is v.b c.a (c.b - 1) g HG.out _).mono ?_; rintro e w2 ⟨rfl, rfl⟩
  cases g with
  | false =>
    obtain rfl : r = false := HR.out
    go_wp2_with fail
    go_ret
    exact ⟨rfl, B⟩
  | true =>
    by_cases h0 : c.c = 0
    case pos =>
      obtain rfl : r = true := by rw [HR.out, decide_eq_true h0]; rfl
      have hbe : (c.c == 0) = true := by simpa using h0
      clear h0
      go_wp2_with fail
      go_ret
      exact ⟨rfl, B⟩
    case neg =>
      have hbe : (c.c == 0) = false := by simpa using h0
      obtain ⟨q, hq⟩ : ∃ q, (c.c == v.p) = q := ⟨_, rfl⟩
      obtain rfl : r = q := by rw [HR.out, decide_eq_false h0, ← hq, Bool.eq_iff_iff]; simp
      clear h0
      go_wp2_with fail
      go_ret
      exact ⟨rfl, B⟩
set_option maxRecDepth 100000 in
set_option maxHeartbeats 1600000 in
theorem woidx_is (l : List Fo.T3) (cl : Fo.T3 → Bool) (len cap : Nat) (A : Option Addr) (ob : Nat) (hl : l.length = len) (hmax : len ≤ 1000000) (w : World) (hL : SlT w A l) (hC : ∀ x ∈ l, ∀ w1, Below w.heap.size w w1 → Calls Try.prog 69 #[.agg #[.int .i64 x.a, .int .i64 x.b, .int .i64 x.c], .pointer (some ⟨ob, 0, none⟩)] w1 fun e w' => e = .returned (.bool (cl x)) ∧ Below w1.heap.size w1 w') :
    Calls Try.prog 88 #[.slice A len cap, .func (.func 69) #[] #[.pointer (some ⟨ob, 0, none⟩)]] w fun e w' => ∃ r : Int, e = .returned (.int .i64 r) ∧ (0 ≤ r ↔ ∃ x ∈ l, cl x = true) ∧ Below w.heap.size w w' := by
  have HN := Lib.hid hl
  have HL := Lib.hid hL
  have HC := Lib.hid hC
  clear hl hL hC
  go_enter Try.func88, Try.ntmps88
  go_wp2_with fail
  go_loopw [8] (fun s8 wr => ∃ (k : Nat), k ≤ len ∧ s8 = .int .i64 (k : Int) ∧ Hid (∀ j, j < k → cl (Fo.at3 l j) = false) ∧ Below w.heap.size w wr) (fun s8 _ => len - (intOf s8).toNat)
  case atStart => exact ⟨0, Nat.zero_le _, rfl, Lib.hid (fun j hj => by omega), Below.refl _ _⟩
  case round =>
    obtain ⟨k, hk, rfl, HP, hX⟩ := hrel
    by_cases hlt : k < len
    · have hx : k < l.length := by rw [HN.out]; exact hlt
      obtain ⟨bb, off, rfl, hbb, hc⟩ := HL.out (by rw [HN.out]; omega)
      have X := (hc k hx).below hX hbb
      obtain ⟨x, hn⟩ : ∃ x, Fo.at3 l k = x := ⟨_, rfl⟩
      rw [hn] at X
      have HNE := Lib.hid hn
      have HMEM : Hid (x ∈ l) := Lib.hid (by rw [← hn]; exact Fo.at3_mem hx)
      have hcall := HC.out x HMEM.out _ hX
      obtain ⟨g, hg⟩ : ∃ g, cl x = g := ⟨_, rfl⟩
      rw [hg] at hcall
      have HGE := Lib.hid hg
      have HCALL := Lib.hid hcall
      have hj1 : (k : Int) < (len : Int) := by omega
      obtain ⟨c0, c1, c2⟩ := X
      clear hx hc hn hg hcall
      cases g with
      | true =>
        have HGE2 := Lib.hid HGE.out
        go_wp2_with fail
        refine HCALL.out.mono ?_; rintro e w5 ⟨rfl, hb5⟩
        have hX5 := hX.trans (hb5.mono hX.size)
        clear hb5 c0 c1 c2
        go_wp2_with fail
        go_ret
        exact ⟨(k : Int), rfl, ⟨fun _ => ⟨x, HMEM.out, HGE2.out⟩, fun _ => by omega⟩, hX5⟩
      | false =>
        have HP2 : Hid (∀ j, j < k + 1 → cl (Fo.at3 l j) = false) := Lib.hid (fun j hj => by
          rcases Nat.lt_or_ge j k with a | a
          · exact HP.out j a
          · rw [show j = k by omega, HNE.out]; exact HGE.out)
        go_wp2_with fail
        refine HCALL.out.mono ?_; rintro e w5 ⟨rfl, hb5⟩
        have hX5 := hX.trans (hb5.mono hX.size)
        clear hb5 c0 c1 c2
        go_wp2_with fail
        go_roundw
        case rel => exact ⟨k + 1, by omega, by simp, HP2, hX5⟩
        case measure => simp [intOf]; omega
    · obtain rfl : k = len := by omega
      go_wp2_with fail
      go_ret
      refine ⟨-1, rfl, ⟨fun h => by omega, ?_⟩, hX⟩
      rintro ⟨n, hn, e⟩
      obtain ⟨j, hj, rfl⟩ := List.mem_iff_getElem.1 hn
      have h := HP.out j (by rw [← HN.out]; exact hj)
      rw [Fo.at3_eq hj, e] at h
      cases h
set_option maxHeartbeats 800000 in
theorem wocon_is (l : List Fo.T3) (cl : Fo.T3 → Bool) (f : Bool) (hf : f = true ↔ ∃ x ∈ l, cl x = true) (len cap : Nat) (A : Option Addr) (ob : Nat) (hl : l.length = len) (hmax : len ≤ 1000000) (w : World) (hL : SlT w A l) (hC : ∀ x ∈ l, ∀ w1, Below w.heap.size w w1 → Calls Try.prog 69 #[.agg #[.int .i64 x.a, .int .i64 x.b, .int .i64 x.c], .pointer (some ⟨ob, 0, none⟩)] w1 fun e w' => e = .returned (.bool (cl x)) ∧ Below w1.heap.size w1 w') :
    Calls Try.prog 70 #[.slice A len cap, .func (.func 69) #[] #[.pointer (some ⟨ob, 0, none⟩)]] w fun e w' => e = .returned (.bool f) ∧ Below w.heap.size w w' := by
  have HF := Lib.hid hf
  have HI := Lib.hid (woidx_is l cl len cap A ob hl hmax w hL hC)
  clear hf hl hL hC
  go_enter Try.func70, Try.ntmps70
  go_wp2_with fail
  refine HI.out.mono ?_; rintro e w1 ⟨r, rfl, hr, hb⟩
  obtain rfl : f = decide (0 ≤ r) := by rw [Bool.eq_iff_iff, HF.out, decide_eq_true_eq]; exact hr.symm
  clear hr
  go_wp2_with fail
  go_ret
  exact ⟨rfl, hb⟩
set_option maxHeartbeats 800000 in
theorem wvisitsm_is (h : FH) (w : World) :
    Calls Try.prog 68 #[.agg #[.int .i64 h.n, .slice h.R h.rl h.rc, .slice h.E h.el h.ec, .int .i64 h.ja, .int .i64 h.jt, .int .i64 h.jf, .slice h.C h.cl h.cc]] w fun e w' => e = .returned (.func (.func 87) #[] #[.pointer (some ⟨w.heap.size, 0, none⟩)]) ∧ w' = w.alloc (.cells #[.int .i64 h.n, .slice h.R h.rl h.rc, .slice h.E h.el h.ec, .int .i64 h.ja, .int .i64 h.jt, .int .i64 h.jf, .slice h.C h.cl h.cc] 47) := by
  go_enter Try.func68, Try.ntmps68
  go_wp2_with fail
  go_ret
  exact ⟨rfl, rfl⟩
set_option maxHeartbeats 800000 in
theorem worderm_is (h : FH) (w : World) :
    Calls Try.prog 40 #[.agg #[.int .i64 h.n, .slice h.R h.rl h.rc, .slice h.E h.el h.ec, .int .i64 h.ja, .int .i64 h.jt, .int .i64 h.jf, .slice h.C h.cl h.cc]] w fun e w' => e = .returned (.func (.func 67) #[] #[.pointer (some ⟨w.heap.size, 0, none⟩)]) ∧ w' = w.alloc (.cells #[.int .i64 h.n, .slice h.R h.rl h.rc, .slice h.E h.el h.ec, .int .i64 h.ja, .int .i64 h.jt, .int .i64 h.jf, .slice h.C h.cl h.cc] 47) := by
  go_enter Try.func40, Try.ntmps40
  go_wp2_with fail
  go_ret
  exact ⟨rfl, rfl⟩
set_option maxHeartbeats 12800000 in
set_option maxRecDepth 100000 in
theorem worder_in (h : FH) (f : Fo.Fm) (V : Fo.Ok f) (hcs : ∀ c ∈ f.cs, Fo.okC f.n c) (hcl : h.cl ≤ 1000000) (L Bl : Nat) (S : Nat → Prop) (J Jx : (Nat → Prop) → List Fo.V2 → World → Prop) (W : World) (hSlt : ∀ k, S k → k < W.heap.size)
    (hJ : ∀ R s X Y, J R s X → Ac W.heap.size R X Y → J R s Y) (hJx : ∀ R s X Y, Jx R s X → Ac W.heap.size R X Y → Jx R s Y) (hFx : ∀ Y, Stay S W Y → FB Y Bl h ∧ SlF Y h f)
    (hY : ∀ (R : Nat → Prop) pre x X, pre ++ [x] <+: Fo.unf f → (∀ k, R k → W.heap.size ≤ k ∧ k < X.heap.size) → J R pre X → W.heap.size ≤ X.heap.size → YieldAt Fence.wide 7 Try.prog L #[.agg #[.int .i64 x.b, .int .i64 x.p]] X fun e Y =>
      (e = .returned (.bool true) ∧ J (grow R X Y) (pre ++ [x]) Y ∧ KrR S W.heap.size R X Y) ∨ (e = .returned (.bool false) ∧ Jx (grow R X Y) (pre ++ [x]) Y ∧ KrR S W.heap.size R X Y))
    (h0 : J (fun _ => False) [] W) :
    CallsIn Fence.wide 8 Try.prog 67 #[.func (.yield L) #[] #[], .pointer (some ⟨Bl, 0, none⟩)] W fun e Y => (∃ v, e = .returned v) ∧ ((W.heap.size ≤ Y.heap.size ∧ ∃ R : Nat → Prop, (∀ k, R k → W.heap.size ≤ k ∧ k < Y.heap.size) ∧ J R (Fo.unf f) Y) ∨ ∃ (R : Nat → Prop) (pre : List Fo.V2), pre <+: Fo.unf f ∧ (∀ k, R k → W.heap.size ≤ k ∧ k < Y.heap.size) ∧ Jx R pre Y) := by
  have HJ := Lib.hid hJ; have HJX := Lib.hid hJx; have HY := Lib.hid hY; have HFX := Lib.hid hFx; have HCS := Lib.hid hcs; have HVV := Lib.hid V
  obtain ⟨Q0, S0⟩ := hFx W (Stay.refl _ _)
  have Q1 := Q0.alloc (.cells #[.func (.yield L) #[] #[]] 104)
  have S1 := S0.alloc (.cells #[.func (.yield L) #[] #[]] 104)
  have B1 := (Below.refl W.heap.size W).alloc (Nat.le_refl _) (.cells #[.func (.yield L) #[] #[]] 104)
  have Y1 := (new1 W (.func (.yield L) #[] #[]) 104).1
  have HS3 := Lib.hid (S1.alloc (.cells #[.int .i64 h.n, .slice h.R h.rl h.rc, .slice h.E h.el h.ec, .int .i64 h.ja, .int .i64 h.jt, .int .i64 h.jf, .slice h.C h.cl h.cc] 47))
  have HQ3 := FB.new (W.alloc (.cells #[.func (.yield L) #[] #[]] 104)) h
  rw [World.size_alloc] at HQ3
  have HQ3 := Lib.hid HQ3
  have B3 := B1.alloc (by simp) (.cells #[.int .i64 h.n, .slice h.R h.rl h.rc, .slice h.E h.el h.ec, .int .i64 h.ja, .int .i64 h.jt, .int .i64 h.jf, .slice h.C h.cl h.cc] 47)
  have HY3 := Lib.hid (keep_alloc Y1 (.cells #[.int .i64 h.n, .slice h.R h.rl h.rc, .slice h.E h.el h.ec, .int .i64 h.ja, .int .i64 h.jt, .int .i64 h.jf, .slice h.C h.cl h.cc] 47))
  have HJ3 := Lib.hid (hJ _ _ _ _ h0 (((Ac.refl W.heap.size _ W).alloc (.cells #[.func (.yield L) #[] #[]] 104)).alloc (.cells #[.int .i64 h.n, .slice h.R h.rl h.rc, .slice h.E h.el h.ec, .int .i64 h.ja, .int .i64 h.jt, .int .i64 h.jf, .slice h.C h.cl h.cc] 47)))
  have q0 := Q0.c0; have q1 := Q0.c1; have q2 := Q0.c2; have q3 := Q0.c3; have q4 := Q0.c4; have q5 := Q0.c5; have q6 := Q0.c6; have ql := Q0.lt
  have HB3 := Lib.hid B3
  clear hJ hJx hY hFx hcs h0 V Q0 S0 Q1 S1 B1 Y1 B3
  refine callsIn_of_wp_marks Try.func67 rfl trivial ?_ rfl
  simp only [Try.ntmps67, List.size_toArray, List.length_cons, List.length_nil, Nat.reduceAdd, Nat.reduceSub, Array.replicate_succ, Array.replicate_zero, List.push_toArray, List.append_toArray, List.nil_append, List.cons_append]
  have hn7 : 1 ≤ 8 := by omega
  gi_wp2
  refine ⟨trivial, ?_⟩
  refine (callsIn_wide.2 (wvisitsm_is h _)).mono ?_
  rintro e w3 ⟨rfl, rfl⟩
  obtain ⟨w3, hw3⟩ : ∃ w3, ((W.alloc (.cells #[.func (.yield L) #[] #[]] 104)).alloc (.cells #[.int .i64 h.n, .slice h.R h.rl h.rc, .slice h.E h.el h.ec, .int .i64 h.ja, .int .i64 h.jt, .int .i64 h.jf, .slice h.C h.cl h.cc] 47)) = w3 := ⟨_, rfl⟩
  have hs3 : w3.heap.size = W.heap.size + 2 := by rw [← hw3]; simp
  rw [hw3] at HS3 HQ3 HB3 HY3 HJ3
  have HW3 := Lib.hid hw3
  clear q0 q1 q2 q3 q4 q5 q6 ql hw3
  gi_wp2
  rw [HW3.out]
  refine wpIn_wide.2 (wp_seqR (gf := 87) (lb := #[.pointer (some ⟨W.heap.size + 1, 0, none⟩)]) rfl (enters_of Try.func87 (by kernel_rfl) rfl) (wvisits_seq h f HVV.out (W.heap.size + 1) (fun _ => False) w3 HQ3.out HS3.out) (fun k hk => hk.elim) (Below.refl _ _) (fun _ => rfl)
    (fun R pre X => (∃ Ro : Nat → Prop, (∀ k, Ro k → R k) ∧ J Ro (Fo.flt f.cs pre) X) ∧ X.cell? ⟨W.heap.size, 0, none⟩ = some (.func (.yield L) #[] #[]) ∧ Stay S W X)
    (fun R _ X => ∃ (Ro : Nat → Prop) (pre : List Fo.V2), (∀ k, Ro k → R k) ∧ pre <+: Fo.unf f ∧ Jx Ro pre X) true 0 ?hmono ?hmonox ?hI ?hIx ?h0
    (fun R x a' X => ∃ b, R b ∧ At2 X b x.b x.p ∧ a' = { tmps := #[.func (.yield L) #[] #[], .pointer (some ⟨Bl, 0, none⟩), .pointer (some ⟨W.heap.size, 0, none⟩), .pointer (some ⟨b, 0, none⟩), undef, .agg #[.int .i64 h.n, .slice h.R h.rl h.rc, .slice h.E h.el h.ec, .int .i64 h.ja, .int .i64 h.jt, .int .i64 h.jf, .slice h.C h.cl h.cc], .func (.func 87) #[] #[.pointer (some ⟨W.heap.size + 1, 0, none⟩)], .agg #[.int .i64 x.b, .int .i64 x.p], undef, undef, undef, undef, undef, undef, undef, undef, undef, undef, undef, undef], defers := [] })
    ?hAx ?assign ?body ?done ?stop)
  case hmono =>
    rintro R R2 s X hR ⟨⟨Ro, h1, h2⟩, h3⟩
    exact ⟨⟨Ro, fun k hk => hR k (h1 k hk), h2⟩, h3⟩
  case hmonox =>
    rintro R R2 s X hR ⟨Ro, pre, h1, h2⟩
    exact ⟨Ro, pre, fun k hk => hR k (h1 k hk), h2⟩
  case hI =>
    rintro R s X Y ⟨⟨Ro, h1, h2⟩, hy, hst⟩ hb
    exact ⟨⟨Ro, h1, HJ.out _ _ _ _ h2 (hb.less (by omega) (fun k hk => .inr (h1 k hk)))⟩, hb.cell (.inl (by simp; omega)) hy, hst.trans (hb.stay (fun k hk => by have := hSlt k hk; omega))⟩
  case hIx =>
    rintro R s X Y ⟨Ro, pre, h1, h2, h3⟩ hb
    exact ⟨Ro, pre, h1, h2, HJX.out _ _ _ _ h3 (hb.less (by omega) (fun k hk => .inr (h1 k hk)))⟩
  case h0 => exact ⟨⟨_, fun k hk => hk, HJ3.out⟩, HY3.out, Stay.ofBelow HB3.out⟩
  case hAx =>
    rintro R x a' X o o' hRn ⟨b, hb, hA, rfl⟩ _ _
    have hne : b ≠ w3.heap.size + 1 := fun e => hRn (e ▸ hb)
    exact ⟨b, hb, hA.sameB (by simp) (World.putObj_heap_other hne), rfl⟩
  case assign =>
    rintro Lr R pre x X hpre hRb ⟨⟨Ro, h1, h2⟩, hy, hst⟩ hz
    gi_wp2
    have hbX : Below X.heap.size X (X.alloc (.cells #[.int .i64 x.b, .int .i64 x.p] 55)) := (Below.refl _ _).alloc (Nat.le_refl _) _
    exact ⟨KrR.ofBelow hbX, ⟨⟨Ro, h1, HJ.out _ _ _ _ h2 (.ofBelow hbX)⟩, keep_alloc hy _, hst.alloc _⟩, X.heap.size, .inr ⟨Nat.le_refl _, by simp⟩, At2.new _ _ _ _, rfl⟩
  case body =>
    rintro Lr R pre x a' X hpre hRb ⟨⟨Ro, h1, h2⟩, hy, hst⟩ ⟨b, hRB, hA, rfl⟩ hz
    obtain ⟨QX, SX⟩ := HFX.out X hst
    have hFS := Fo.flt_snoc f.cs pre x
    have HPU : Hid (Fo.flt f.cs (pre ++ [x]) <+: Fo.unf f) := Lib.hid (Fo.flt_prefix hpre)
    obtain ⟨g, hg⟩ : ∃ g : Bool, g = true ↔ ∃ c ∈ f.cs, decide (Fo.lvs c x) = true := ⟨decide _, decide_eq_true_iff⟩
    have hgl : g = true ↔ Fo.lft f.cs x := hg.trans ⟨fun ⟨c, hc, h⟩ => ⟨c, hc, of_decide_eq_true h⟩, fun ⟨c, hc, h⟩ => ⟨c, hc, decide_eq_true h⟩⟩
    have HG := Lib.hid hg; have HGL := Lib.hid hgl; have HFS := Lib.hid hFS
    have q6 := QX.c6; have ql := QX.lt
    have HA := Lib.hid hA; have HSX := Lib.hid SX; have HJ4 := Lib.hid h2; have HST := Lib.hid hst; have HRO := Lib.hid h1; have HRBB := Lib.hid hRb
    have hyl := World.block_lt_of_cell? _ _ hy
    have HYY := Lib.hid hy
    clear QX SX hFS hg hgl hA h2 hst h1 hRb hy
    gi_wp2
    refine ⟨trivial, ?_⟩
    refine (CallsIn.inRound _ (callsIn_wide.2 (wocon_is f.cs (fun c => decide (Fo.lvs c x)) g HG.out h.cl h.cc h.C b HSX.out.cl hcl X HSX.out.sc (fun c hc w1 hw1 => wlvs_is c x b _ rfl (by have := HCS.out c hc; have := HVV.out.n; unfold Fo.okC at *; omega) w1 (HA.out.below hw1))))).mono ?_
    rintro e X2 ⟨rfl, hb2⟩
    have hz2 := hb2.size
    have hJ5 := HJ.out _ _ _ _ HJ4.out (Ac.ofBelow hb2)
    have HA2 := Lib.hid (HA.out.below hb2)
    have hy2 := keep_cell HYY.out hb2
    have HST2 := Lib.hid (HST.out.trans (Stay.ofBelow hb2))
    have HB2 := Lib.hid hb2
    clear q6 ql hb2
    cases g with
    | true =>
      have HF2 : Hid (Fo.flt f.cs (pre ++ [x]) = Fo.flt f.cs pre) := Lib.hid (by rw [HFS.out, if_pos (HGL.out.1 rfl), List.append_nil])
      have HJ5 := Lib.hid hJ5
      clear hJ5
      gi_wp2
      refine ⟨(by intro f h; cases h), ?_⟩
      gi_wp2
      exact ⟨KrR.ofBelow HB2.out, ⟨Ro, fun k hk => .inl (HRO.out k hk), by rw [HF2.out]; exact HJ5.out⟩, hy2, HST2.out⟩
    | false =>
      have HF2 : Hid (Fo.flt f.cs (pre ++ [x]) = Fo.flt f.cs pre ++ [x]) := Lib.hid (by rw [HFS.out, if_neg (fun h => by have := HGL.out.2 h; cases this)])
      have hpp : Fo.flt f.cs pre ++ [x] <+: Fo.unf f := by rw [← HF2.out]; exact HPU.out
      have hRoB : ∀ k, Ro k → W.heap.size ≤ k ∧ k < X2.heap.size := fun k hk => by have := HRBB.out k (HRO.out k hk); omega
      obtain ⟨fn, tmps, assign, body, hyl2, hR⟩ := HY.out Ro _ x X2 hpp hRoB hJ5 (by omega)
      have HR := Lib.hid hR; have HPP := Lib.hid hpp
      obtain ⟨a0, a1⟩ := And.intro HA2.out.c0 HA2.out.c1
      have al := HA2.out.lt
      have HNR : Hid (¬ Ro W.heap.size) := Lib.hid (fun h => by have := HRBB.out _ (HRO.out _ h); omega)
      clear hR hpp hJ5 hRoB
      gi_wp2
      refine (round_any rfl rfl rfl HR.out).mono ?_
      clear HR hyl2
      rintro e2 Y (⟨rfl, hJ6, hK6⟩ | ⟨rfl, hJx6, hK6⟩)
      · have zY := hK6.size
        have yy := hK6.cell (p := ⟨W.heap.size, 0, none⟩) (.inr ⟨Nat.le_refl _, HNR.out⟩) hy2
        have hKR : KrR (fun _ => False) w3.heap.size R X Y := (KrR.ofBelow HB2.out).trans (hK6.wide (fun k _ hk => hk.elim) (fun k hk hn hr => .inr ⟨by omega, fun h => hr (HRO.out k h)⟩))
        have hGR : ∀ k, grow Ro X2 Y k → grow R X Y k := fun k hk => by
          rcases hk with hk | hk
          · exact .inl (HRO.out k hk)
          · exact .inr ⟨by omega, hk.2⟩
        have HJ6 := Lib.hid hJ6; have HKR := Lib.hid hKR; have HGR := Lib.hid hGR
        have HST6 := Lib.hid (HST2.out.trans hK6.stay)
        clear hJ6 hK6 hKR hGR a0 a1 al
        gi_wp2
        exact ⟨HKR.out, ⟨_, HGR.out, by rw [HF2.out]; exact HJ6.out⟩, yy, HST6.out⟩
      · have hKR : KrR (fun _ => False) w3.heap.size R X Y := (KrR.ofBelow HB2.out).trans (hK6.wide (fun k _ hk => hk.elim) (fun k hk hn hr => .inr ⟨by omega, fun h => hr (HRO.out k h)⟩))
        have hGR : ∀ k, grow Ro X2 Y k → grow R X Y k := fun k hk => by
          rcases hk with hk | hk
          · exact .inl (HRO.out k hk)
          · exact .inr ⟨by omega, hk.2⟩
        gi_wp2
        exact ⟨by trivial, hKR, _, _, hGR, HPP.out, hJx6⟩
  case done =>
    rintro D X hD hzX ⟨R, hRb, ⟨Ro, h1, h2⟩, hy, hst⟩ hK
    obtain rfl : D = W.heap.size + 2 := by omega
    have JZ := Lib.hid (HJ.out _ _ _ _ h2 (Ac.putObj (l := W.heap.size + 2) (by omega) (fun h => by have := hRb _ (h1 _ h); omega) (.deferred none)))
    have HRB2 : Hid (∀ k, Ro k → W.heap.size ≤ k ∧ k < X.heap.size) := Lib.hid (fun k hk => by have := hRb k (h1 k hk); omega)
    clear h2 h1 hRb
    gi_wp2
    refine ⟨by simp, .inl ⟨_, _, rfl, run_takeDeferred hK, ?_⟩⟩
    exact ⟨_, results_none rfl _ _ _, ⟨_, rfl⟩, .inl ⟨by simp; omega, Ro, fun k hk => by have := HRB2.out k hk; simpa using this, JZ.out⟩⟩
  case stop =>
    rintro D R pre X hD hpre hRb ⟨Ro, pre2, h1, h2, h3⟩ hK
    obtain rfl : D = W.heap.size + 2 := by omega
    have JZ := Lib.hid (HJX.out _ _ _ _ h3 (Ac.putObj (l := W.heap.size + 2) (by omega) (fun h => by have := hRb _ (h1 _ h); omega) (.deferred none)))
    have HRB2 : Hid (∀ k, Ro k → W.heap.size ≤ k ∧ k < X.heap.size) := Lib.hid (fun k hk => by have := hRb k (h1 k hk); omega)
    have HP2 := Lib.hid h2
    clear h3 h1 hRb h2
    rw [if_pos rfl]
    gi_wp2
    refine ⟨by simp, .inl ⟨_, _, rfl, run_takeDeferred hK, ?_⟩⟩
    exact ⟨_, results_none rfl _ _ _, ⟨_, rfl⟩, .inr ⟨Ro, pre2, HP2.out, fun k hk => by have := HRB2.out k hk; simpa using this, JZ.out⟩⟩
/-- All visits of a form that no cut leaves out, one after the other. -/
theorem worder_seq (h : FH) (f : Fo.Fm) (V : Fo.Ok f) (hcs : ∀ c ∈ f.cs, Fo.okC f.n c) (hcl : h.cl ≤ 1000000) (Bl : Nat) (S : Nat → Prop) (w : World) (hSlt : ∀ k, S k → k < w.heap.size) (hFx : ∀ Y, Stay S w Y → FB Y Bl h ∧ SlF Y h f) :
    SeqR Try.prog 67 #[.pointer (some ⟨Bl, 0, none⟩)] (fun x : Fo.V2 => #[Value.agg #[.int .i64 x.b, .int .i64 x.p]]) S (Fo.unf f) w := fun L J Jx W hW hJ hJx hY h0 =>
  worder_in h f V hcs hcl L Bl S J Jx W (fun k hk => Nat.lt_of_lt_of_le (hSlt k hk) hW.size) hJ hJx (fun Y hY => hFx Y ((Stay.ofBelow hW).trans hY)) hY h0
end Go.Proofs.Ytahdlkdiadlgeaa

/- The walks of the library's AppendSeq and Collect over a form's order; reprise's Unfold. -/
namespace Go.Proofs.Ytahdlkdiadlgeaa
open Go.RowKit Go.Shelf Go.Maps

attribute [local go_sem] Oper.semAt_some

/-- Worlds whose first blocks are the same. -/
structure Ahead (n : Nat) (X Y : World) : Prop where
  size : X.heap.size ≤ Y.heap.size
  same : ∀ k, k < n → Y.heap[k]? = X.heap[k]?
theorem Ahead.cell {n : Nat} {X Y : World} (h : Ahead n X Y) {b o : Nat} {v : Value} (hb : b < n) (hc : X.cell? ⟨b, o, none⟩ = some v) : Y.cell? ⟨b, o, none⟩ = some v := (World.cell?_of_block (w := X) (a := ⟨b, o, none⟩) (h.same b hb)).trans hc
theorem TAt.ahead {n : Nat} {X Y : World} {b o : Nat} {x : Fo.T3} (h : TAt X b o x) (ha : Ahead n X Y) (hb : b < n) : TAt Y b o x := ⟨ha.cell hb h.c0, ha.cell hb h.c1, ha.cell hb h.c2⟩
theorem SlT.ahead {X Y : World} {A : Option Addr} {l : List Fo.T3} (h : SlT X A l) (ha : Ahead X.heap.size X Y) : SlT Y A l := fun h0 => by
  obtain ⟨b, off, e, hlt, hc⟩ := h h0
  exact ⟨b, off, e, Nat.lt_of_lt_of_le hlt ha.size, fun k hk => (hc k hk).ahead ha hlt⟩
theorem SlF.ahead {X Y : World} {h : FH} {f : Fo.Fm} (s : SlF X h f) (ha : Ahead X.heap.size X Y) : SlF Y h f := ⟨s.n, s.ja, s.jt, s.jf, s.rl, s.el, s.cl, s.sr.ahead ha, s.se.ahead ha, s.sc.ahead ha⟩
theorem FB.ahead {X Y : World} {b : Nat} {h : FH} (s : FB X b h) (ha : Ahead X.heap.size X Y) : FB Y b h :=
  ⟨Nat.lt_of_lt_of_le s.lt ha.size, ha.cell s.lt s.c0, ha.cell s.lt s.c1, ha.cell s.lt s.c2, ha.cell s.lt s.c3, ha.cell s.lt s.c4, ha.cell s.lt s.c5, ha.cell s.lt s.c6⟩
theorem own_from {v5 v : Value} {n : Nat} {R Q : Nat → Prop} (h : v5.ownBlock = v.ownBlock ∨ v5.ownBlock = some n) (hv : ∀ j, v.ownBlock = some j → R j) (hn : v5.ownBlock = some n → Q n) : ∀ j, v5.ownBlock = some j → R j ∨ Q j := fun j hj => by
  rcases h with h | h
  · exact .inl (hv j (by rw [← h]; exact hj))
  · rw [h] at hj; cases hj; exact .inr (hn h)
theorem own_ac {N n : Nat} {R : Nat → Prop} {X Y : World} {e : TypeId} {size m : Nat} {v : Value} {xs : List Value} (h : X.ownsRow N e size v m xs) (hb : Ac n R X Y) (hv : ∀ j, v.ownBlock = some j → R j) : Y.ownsRow N e size v m xs :=
  own_same h (fun g hg hlt => hb.same g hlt (.inr (hv g hg)))
theorem infoVis : (Try.prog.info? 55).map (fun i => (i.zero, i.size, i.bytes)) = some (some (.agg #[.int .i64 0, .int .i64 0]), 2, 16) := by kernel_rfl
theorem Fo.unf_len {f : Fo.Fm} (V : Fo.Ok f) : (Fo.unf f).length ≤ 288000000 := by
  have h1 := List.length_filter_le (fun v => !decide (Fo.lft f.cs v)) (Fo.vis (Fo.whl f))
  rw [Fo.vis_length] at h1
  have := V.len2
  unfold Fo.unf
  omega
set_option maxHeartbeats 6400000 in
set_option maxRecDepth 100000 in
theorem wappendseq_is (h : FH) (f : Fo.Fm) (V : Fo.Ok f) (hcs : ∀ c ∈ f.cs, Fo.okC f.n c) (hcl : h.cl ≤ 1000000) (Bl : Nat) (w : World) (hQ : FB w Bl h) (hS : SlF w h f) :
    Calls Try.prog 66 #[.slice none 0 0, .func (.func 67) #[] #[.pointer (some ⟨Bl, 0, none⟩)]] w fun e w' => Below w.heap.size w w' ∧ ∃ v, e = .returned v ∧ w'.ownsRow w.heap.size 55 2 v (Fo.unf f).length (vV (Fo.unf f)) := by
  obtain ⟨i0, hi, hz0, hz1, hz2⟩ := info_parts infoVis
  have HLN := Lib.hid (Fo.unf_len V)
  obtain ⟨w3, hw3⟩ : ∃ w3, w.alloc (.cells #[.slice none 0 0] 50) = w3 := ⟨_, rfl⟩
  have hs3 : w3.heap.size = w.heap.size + 1 := by rw [← hw3]; simp
  have G3 : Below w.heap.size w w3 := by rw [← hw3]; exact (Below.refl _ _).alloc (Nat.le_refl _) _
  have B3 : w3.cell? ⟨w.heap.size, 0, none⟩ = some (.slice none 0 0) ∧ w3.frozen? ⟨w.heap.size, 0, none⟩ = false := by
    rw [← hw3]; exact new1 w (.slice none 0 0) 50
  have HSQ := Lib.hid (worder_seq h f V hcs hcl Bl (fun k => k < w.heap.size) w3 (fun k hk => by omega) (fun Y hY => by
    have ha : Ahead w.heap.size w Y := ⟨by have := hY.size; omega, fun k hk => (hY.same k (by omega) hk).trans (G3.block k hk)⟩
    exact ⟨hQ.ahead ha, hS.ahead ha⟩))
  clear hQ hS V hcs hcl
  refine (callsIn_wide (n := 10)).1 (callsIn_of_wp_marks Try.func66 rfl trivial (wpIn_wide.2 ?_) rfl)
  simp only [Try.ntmps66, List.size_toArray, List.length_cons, List.length_nil, Nat.reduceAdd, Nat.reduceSub, Array.replicate_succ, Array.replicate_zero, List.push_toArray, List.append_toArray, List.nil_append, List.cons_append]
  go_wp2_with fail
  (try rw [hw3])
  clear hw3
  refine wp_seqR (gf := 67) (lb := #[.pointer (some ⟨Bl, 0, none⟩)]) rfl (enters_of Try.func67 (by kernel_rfl) rfl) HSQ.out (fun k hk => by omega) (Below.refl _ _)
    (fun _ => rfl)
    (fun R pre X => (∃ v, (∀ j, v.ownBlock = some j → R j) ∧ X.cell? ⟨w.heap.size, 0, none⟩ = some v ∧ X.ownsRow w.heap.size 55 2 v pre.length (vV pre)) ∧ X.frozen? ⟨w.heap.size, 0, none⟩ = false ∧ Below w.heap.size w X)
    (fun _ _ _ => False) false 0 ?hmono (fun _ _ _ _ _ h => h) ?hI (fun _ _ _ _ h _ => h) ?h0
    (fun R x a' X => ∃ b, R b ∧ At2 X b x.b x.p ∧ a' = { tmps := #[.slice none 0 0, .func (.func 67) #[] #[.pointer (some ⟨Bl, 0, none⟩)], .pointer (some ⟨w.heap.size, 0, none⟩), undef, .slice none 0 0, .pointer (some ⟨b, 0, none⟩), .func (.func 67) #[] #[.pointer (some ⟨Bl, 0, none⟩)], .agg #[.int .i64 x.b, .int .i64 x.p], undef, undef, undef, undef, undef], defers := [] })
    ?hAx ?assign ?body ?done ?stop
  case hmono =>
    rintro R R2 s X hR ⟨⟨v, hv, hc, ho⟩, hf, hG⟩
    exact ⟨⟨v, fun j hj => hR j (hv j hj), hc, ho⟩, hf, hG⟩
  case hI =>
    rintro R s X Y ⟨⟨v, hv, hc, ho⟩, hf, hG⟩ hb
    exact ⟨⟨v, hv, hb.cell (.inl (by simp; omega)) hc, own_ac ho hb hv⟩, (hb.frozen (.inl (by simp; omega)) hc).trans hf, hG.trans (hb.below (by omega) hG.size)⟩
  case h0 => exact ⟨⟨_, fun j hj => (by cases hj), B3.1, World.ownsRow_nil _ _ _ _⟩, B3.2, G3⟩
  case hAx =>
    rintro R x a' X o o' hRn ⟨b, hb, hA, rfl⟩ _ _
    have hne : b ≠ w3.heap.size + 1 := fun e => hRn (e ▸ hb)
    exact ⟨b, hb, hA.sameB (by simp) (World.putObj_heap_other hne), rfl⟩
  case assign =>
    rintro Lr R pre x X hpre hRb ⟨⟨v, hv, hc, ho⟩, hf, hG⟩ hz
    gi_wp2
    have hbX : Below X.heap.size X (X.alloc (.cells #[.int .i64 x.b, .int .i64 x.p] 55)) := (Below.refl _ _).alloc (Nat.le_refl _) _
    exact ⟨KrR.ofBelow hbX, ⟨⟨v, hv, keep_alloc hc _, ho.alloc _⟩, (hbX.frozen (p := ⟨w.heap.size, 0, none⟩) (World.block_lt_of_cell? _ _ hc)).trans hf, hG.alloc hG.size _⟩, X.heap.size, .inr ⟨Nat.le_refl _, by simp⟩, At2.new _ _ _ _, rfl⟩
  case body =>
    rintro Lr R pre x a' X hpre hRb ⟨⟨v, hv, hc, ho⟩, hf, hG⟩ ⟨b, hRB, hA, rfl⟩ hz
    have hpl : pre.length + 1 ≤ 288000000 := by have h1 := hpre.length_le; have h2 := HLN.out; rw [List.length_append, List.length_singleton] at h1; omega
    obtain ⟨c0, c1⟩ := And.intro hA.c0 hA.c1
    have hlA := hA.lt
    have hlt : w.heap.size < X.heap.size := World.block_lt_of_cell? _ _ hc
    have K0 : KrR (fun k => k < w.heap.size) w3.heap.size R X (X.alloc (.cells #[.int .i64 x.b, .int .i64 x.p] 55)) := (KrR.refl _ _ _ _).alloc _
    have hcA := keep_alloc hc (.cells #[.int .i64 x.b, .int .i64 x.p] 55)
    have hbX : Below X.heap.size X (X.alloc (.cells #[.int .i64 x.b, .int .i64 x.p] 55)) := (Below.refl _ _).alloc (Nat.le_refl _) _
    have hfA := (hbX.frozen (p := ⟨w.heap.size, 0, none⟩) hlt).trans hf
    have hGA := hG.alloc hG.size (.cells #[.int .i64 x.b, .int .i64 x.p] 55)
    have hoA := ho.alloc (.cells #[.int .i64 x.b, .int .i64 x.p] 55)
    have hvn : v.ownBlock ≠ some w.heap.size := fun e => by have := hRb _ (hv _ e); omega
    have HV := Lib.hid hv; have HRB := Lib.hid hRb; have HOL := Lib.hid (own_blk_lt ho)
    clear ho hf hG hA hv hRb hbX
    gi_wp2_with (first | (gi_at_builtin; refine wpListIn_append_own_at _ rfl _ _ 50 rfl w.heap.size 55 i0 (.agg #[.int .i64 0, .int .i64 0]) 2 16 Try.underlying50 hi hz0 hz1 hz2 rfl (by decide) v pre.length (vV pre) rfl hoA ⟨X.heap.size, 0, none⟩ 1 1 [.int .i64 x.b, .int .i64 x.p] rfl rfl (cell_two_newS _ _ _ _) (fun u hu => by simp at hu; rcases hu with rfl | rfl <;> rfl) (by unfold maxLen; omega) (by omega) (by simp; omega) ?_; intro v' w1 hown' hgrow _ hat; have K1 := K0.grown hgrow (fun j hj => by have h1 := HRB.out j (HV.out j hj); exact ⟨by omega, .inr (.inl (HV.out j hj))⟩); have hG1 := hGA.grown hgrow hGA.size (fun j hj => by have h1 := HRB.out j (HV.out j hj); omega); have hbl := hgrow.block w.heap.size (by simp; omega) (fun e => hvn e.symm); have hc1 := (World.cell?_of_block (w' := w1) (a := ⟨w.heap.size, 0, none⟩) hbl).trans hcA; have hf1 := (World.frozen?_of_block (w' := w1) (a := ⟨w.heap.size, 0, none⟩) hbl).trans hfA; have hvn' := own_at hat hvn (by simp; omega); have hvl' := own_blk_lt hown'; have hs1 := hgrow.size; have HV2 : Hid (∀ j, v'.ownBlock = some j → R j ∨ X.heap.size ≤ j ∧ j < w1.heap.size) := Lib.hid (own_from (Q := fun j => X.heap.size ≤ j ∧ j < w1.heap.size) hat HV.out (fun hj => by have := own_blk_lt hown' _ hj; simp at this ⊢; omega)); obtain ⟨g', cap', rfl⟩ := own_succS hown') | fail)
    refine ⟨K1.setCell (p := ⟨w.heap.size, 0, none⟩) (by simp) (.inl (by simp; omega)) _, ⟨_, ?_, World.cell?_setCell_same' _ _ _ (by rw [hc1]; rfl), ?_⟩, by rw [World.frozen?_setCell]; exact hf1, hG1.setCell (p := ⟨w.heap.size, 0, none⟩) (Nat.le_refl _) _⟩
    · intro j hj
      rcases HV2.out j hj with h1 | h1
      · exact .inl h1
      · exact .inr ⟨h1.1, by simpa using h1.2⟩
    rw [List.length_append, List.length_singleton, vV_app, vV_one]
    exact own_setS hown' hvn' 0 _
  case done =>
    rintro D X hD _ ⟨R, hRb, ⟨v, hv, hc, ho⟩, hf, hG⟩ hK
    go_wp2_with fail
    refine ⟨by simp, .inl ⟨_, _, rfl, run_takeDeferred hK, ?_⟩⟩
    refine ⟨_, results_tmp rfl _ _ _, hG.trans (putObj_below (by omega) hG.size), _, rfl, ?_⟩
    exact ownsRow_putObj ho _ hK rfl
  case stop =>
    rintro D R pre X hD hpre hRb h
    exact h.elim
theorem wcollect_is (h : FH) (f : Fo.Fm) (V : Fo.Ok f) (hcs : ∀ c ∈ f.cs, Fo.okC f.n c) (hcl : h.cl ≤ 1000000) (Bl : Nat) (w : World) (hQ : FB w Bl h) (hS : SlF w h f) :
    Calls Try.prog 39 #[.func (.func 67) #[] #[.pointer (some ⟨Bl, 0, none⟩)]] w fun e w' => Below w.heap.size w w' ∧ ∃ v, e = .returned v ∧ w'.ownsRow w.heap.size 55 2 v (Fo.unf f).length (vV (Fo.unf f)) := by
  have HC := Lib.hid (wappendseq_is h f V hcs hcl Bl w hQ hS)
  clear hQ hS V hcs hcl
  go_enter Try.func39, Try.ntmps39
  go_wp2_with fail
  refine HC.out.mono ?_; rintro e w1 ⟨hb, v, rfl, ho⟩
  go_wp2_with fail
  go_ret
  exact ⟨hb, v, rfl, ho⟩
set_option maxHeartbeats 1600000 in
theorem wUnfold_no (h : FH) (f : Fo.Fm) (hV : ¬ Fo.Val f) (hwf : ∀ c ∈ f.cs, Fo.wf3 c) (w : World) (hS : SlF w h f) :
    Calls Try.prog 18 #[.agg #[.int .i64 h.n, .slice h.R h.rl h.rc, .slice h.E h.el h.ec, .int .i64 h.ja, .int .i64 h.jt, .int .i64 h.jf, .slice h.C h.cl h.cc]] w fun e w' => e = .returned (.tuple #[.slice none 0 0, .int .i64 1]) ∧ Below w.heap.size w w' := by
  have HS := Lib.hid (hS.alloc (.cells #[.int .i64 h.n, .slice h.R h.rl h.rc, .slice h.E h.el h.ec, .int .i64 h.ja, .int .i64 h.jt, .int .i64 h.jf, .slice h.C h.cl h.cc] 47))
  have B1 := (Below.refl w.heap.size w).alloc (Nat.le_refl _) (.cells #[.int .i64 h.n, .slice h.R h.rl h.rc, .slice h.E h.el h.ec, .int .i64 h.ja, .int .i64 h.jt, .int .i64 h.jf, .slice h.C h.cl h.cc] 47)
  clear hS
  go_enter Try.func18, Try.ntmps18
  go_wp2_with fail
  refine (wValid_is h f false ⟨fun h => (by cases h), fun h => absurd h hV⟩ hwf _ HS.out).mono ?_; rintro e w2 ⟨rfl, hb⟩
  have B2 := B1.trans (hb.mono (by simp))
  clear hb B1
  go_wp2_with fail
  go_ret2
  exact ⟨rfl, B2⟩
set_option maxHeartbeats 1600000 in
theorem wUnfold_is (h : FH) (f : Fo.Fm) (V : Fo.Val f) (hwf : ∀ c ∈ f.cs, Fo.wf3 c) (w : World) (hS : SlF w h f) :
    Calls Try.prog 18 #[.agg #[.int .i64 h.n, .slice h.R h.rl h.rc, .slice h.E h.el h.ec, .int .i64 h.ja, .int .i64 h.jt, .int .i64 h.jf, .slice h.C h.cl h.cc]] w fun e w' => Below w.heap.size w w' ∧ ∃ v, e = .returned (.tuple #[v, .int .i64 0]) ∧ w'.ownsRow w.heap.size 55 2 v (Fo.unf f).length (vV (Fo.unf f)) := by
  have HS := Lib.hid (hS.alloc (.cells #[.int .i64 h.n, .slice h.R h.rl h.rc, .slice h.E h.el h.ec, .int .i64 h.ja, .int .i64 h.jt, .int .i64 h.jf, .slice h.C h.cl h.cc] 47))
  have B1 := (Below.refl w.heap.size w).alloc (Nat.le_refl _) (.cells #[.int .i64 h.n, .slice h.R h.rl h.rc, .slice h.E h.el h.ec, .int .i64 h.ja, .int .i64 h.jt, .int .i64 h.jf, .slice h.C h.cl h.cc] 47)
  have Q1 := FB.new w h
  have HCL : Hid (h.cl ≤ 1000000) := Lib.hid (by have := V.cl; rw [hS.cl] at this; omega)
  have HV := Lib.hid V
  clear hS V
  go_enter Try.func18, Try.ntmps18
  go_wp2_with fail
  refine (wValid_is h f true ⟨fun _ => HV.out, fun _ => rfl⟩ hwf _ HS.out).mono ?_; rintro e w2 ⟨rfl, hb⟩
  have B2 := B1.trans (hb.mono (by simp))
  have Q2 := Q1.below hb
  have HS2 := Lib.hid (HS.out.below hb)
  have q0 := Q2.c0; have q1 := Q2.c1; have q2 := Q2.c2; have q3 := Q2.c3; have q4 := Q2.c4; have q5 := Q2.c5; have q6 := Q2.c6; have ql := Q2.lt
  clear hb B1 Q1
  go_wp2_with fail
  refine (worderm_is h w2).mono ?_; rintro e w3 ⟨rfl, rfl⟩
  have B3 := B2.alloc B2.size (.cells #[.int .i64 h.n, .slice h.R h.rl h.rc, .slice h.E h.el h.ec, .int .i64 h.ja, .int .i64 h.jt, .int .i64 h.jf, .slice h.C h.cl h.cc] 47)
  have HQ3 := Lib.hid (FB.new w2 h)
  have HS3 := Lib.hid (HS2.out.alloc (.cells #[.int .i64 h.n, .slice h.R h.rl h.rc, .slice h.E h.el h.ec, .int .i64 h.ja, .int .i64 h.jt, .int .i64 h.jf, .slice h.C h.cl h.cc] 47))
  clear q0 q1 q2 q3 q4 q5 q6 ql Q2
  go_wp2_with fail
  refine (wcollect_is h f HV.out.ok HV.out.cs HCL.out w2.heap.size _ HQ3.out HS3.out).mono ?_; rintro e w4 ⟨hb, v, rfl, ho⟩
  have B4 := B3.trans (hb.mono B3.size)
  have HO := Lib.hid (own_lessK ho (by have := B2.size; simp; omega : w.heap.size ≤ _))
  obtain ⟨-, A, c, rfl, -, -⟩ := own_V ho
  clear ho hb
  go_wp2_with fail
  go_ret2
  exact ⟨B4, _, rfl, HO.out⟩
end Go.Proofs.Ytahdlkdiadlgeaa

/- The walk of reprise's Find: the order is ranged over until the visit comes. -/
namespace Go.Proofs.Ytahdlkdiadlgeaa
open Go.RowKit Go.Shelf Go.Maps

attribute [local go_sem] Oper.semAt_some

theorem wp_behind {P : Program} {c : Code} {Q : Exit → Act → World → Prop} {a : Act} {w : World} (h : ∀ Q2 : Exit → Act → World → Prop, (∀ e a w, Q e a w → Q2 e a w) → c.wp P Q2 a w) : c.wp P Q a w := h Q fun _ _ _ q => q
/-- A variable of one cell. -/
structure R1 (w : World) (b : Nat) (v : Value) : Prop where
  c : w.cell? ⟨b, 0, none⟩ = some v
  f : w.frozen? ⟨b, 0, none⟩ = false
theorem R1.lt {w : World} {b : Nat} {v : Value} (h : R1 w b v) : b < w.heap.size := World.block_lt_of_cell? _ _ h.c
theorem R1.sameB {w w' : World} {b : Nat} {v : Value} (h : R1 w b v) (hb : w'.heap[b]? = w.heap[b]?) : R1 w' b v :=
  ⟨(World.cell?_of_block (w := w) (a := ⟨b, 0, none⟩) hb).trans h.c, (World.frozen?_of_block (w := w) (a := ⟨b, 0, none⟩) hb).trans h.f⟩
theorem R1.below {w w' : World} {b : Nat} {v : Value} (h : R1 w b v) (hb : Below w.heap.size w w') : R1 w' b v := h.sameB (hb.block b h.lt)
theorem R1.alloc {w : World} {b : Nat} {v : Value} (h : R1 w b v) (o : Obj) : R1 (w.alloc o) b v := h.below ((Below.refl _ _).alloc (Nat.le_refl _) _)
theorem R1.set {w : World} {b : Nat} {v : Value} (h : R1 w b v) (u : Value) : R1 (w.setCell ⟨b, 0, none⟩ u) b u := ⟨World.cell?_setCell_same' _ _ _ (by rw [h.c]; rfl), by rw [World.frozen?_setCell]; exact h.f⟩
theorem R1.ne {w : World} {b c : Nat} {v : Value} (h : R1 w b v) (hn : b ≠ c) (k : Nat) (u : Value) : R1 (w.setCell ⟨c, k, none⟩ u) b v := h.sameB (Below.heap_setCell w ⟨c, k, none⟩ u b hn)
theorem R1.new (w : World) (v : Value) (t : TypeId) (h : v.cells.size = 1 := by rfl) : R1 (w.alloc (.cells #[v] t)) w.heap.size v := ⟨(new1 w v t h).1, (new1 w v t h).2⟩
theorem R1.put {w : World} {b : Nat} {v : Value} (h : R1 w b v) (l : Nat) (o : Obj) (hn : b ≠ l) : R1 (w.putObj l o) b v := h.sameB (World.putObj_heap_other hn)
theorem FB.sameB {w w' : World} {b : Nat} {h : FH} (s : FB w b h) (hs : w.heap.size ≤ w'.heap.size) (hk : w'.heap[b]? = w.heap[b]?) : FB w' b h := by
  have c : ∀ j u, w.cell? ⟨b, j, none⟩ = some u → w'.cell? ⟨b, j, none⟩ = some u := fun j u hu => (World.cell?_of_block (w := w) (a := ⟨b, j, none⟩) hk).trans hu
  exact ⟨Nat.lt_of_lt_of_le s.lt hs, c 0 _ s.c0, c 1 _ s.c1, c 2 _ s.c2, c 3 _ s.c3, c 4 _ s.c4, c 5 _ s.c5, c 6 _ s.c6⟩
end Go.Proofs.Ytahdlkdiadlgeaa

/- The landed tempo: parts, the tempo that is in force (with the library's Search), the clock. -/
namespace Go.Proofs.Ytahdlkdiadlgeaa
open Go.RowKit

set_option maxHeartbeats 800000 in
theorem wparts_is (n d v : Int) (hd : 1 ≤ d) (h1 : -1000000000 ≤ n) (h2 : n ≤ 1000000000) (hv : n * (60 / d) = v) (w : World) :
    Calls Try.prog 54 #[.agg #[.int .i64 n, .int .i64 d]] w fun e w' => e = .returned (.int .i64 v) ∧ Below w.heap.size w w' := by
  have G0 := (Below.refl w.heap.size w).alloc (Nat.le_refl _) (.cells #[.int .i64 n, .int .i64 d] 25)
  have hd0 : ¬ d = 0 := by omega
  obtain ⟨q, hq⟩ : ∃ q, (60 : Int) / d = q := ⟨_, rfl⟩
  have hqt : (60 : Int).tdiv d = q := by rw [Int.tdiv_eq_ediv_of_nonneg (by omega), hq]
  have hq0 : 0 ≤ q := by rw [← hq]; exact Int.ediv_nonneg (by omega) (by omega)
  have hq1 : q ≤ 60 := by rw [← hq]; exact Int.ediv_le_self _ (by omega)
  have hb := mul_in n q 1000000000 60 h1 h2 (by omega) hq1
  obtain ⟨hm0, hm1⟩ := hb
  have hm0' : -60000000000 ≤ n * q := by omega
  have hm1' : n * q ≤ 60000000000 := by omega
  rw [hq] at hv
  subst hv
  clear hq hm0 hm1
  go_enter Try.func54, Try.ntmps54
  go_wp2_with fail
  have A2 : At2 (w.alloc (.cells #[.int .i64 n, .int .i64 d] 25)) w.heap.size n d := At2.new _ _ _ _
  generalize w.alloc (.cells #[.int .i64 n, .int .i64 d] 25) = w2 at *
  have x0 := fun x : Ext w2 => x.cell A2.c0
  have x1 := fun x : Ext w2 => x.cell A2.c1
  have hne := Ext.there w2
  refine Ext.region (by kernel_rfl) (by kernel_rfl) ?_
  repeat (go_big_quiet_step (fail))
  refine wpQuiet_nil ?_
  rintro _ ⟨xw, rfl⟩
  have G1 := G0.trans (xw.h.mono G0.size)
  clear x0 x1 hne
  generalize xw.w = w3 at *
  clear xw
  go_wp2_with fail
  go_ret
  exact ⟨rfl, G1⟩

/-- Is a tempo behind a bar? -/
theorem wbehind_is (l : List Fo.T3) (b q : Int) (i LB BB len cap : Nat) (A : Option Addr) (r : Bool) (hq : q = i) (hr : decide (b < (Fo.at3 l i).a) = r) (hl : l.length = len) (hi : i < len) (hm : len ≤ 1000000) (w : World) (h1 : w.cell? ⟨LB, 0, none⟩ = some (.slice A len cap)) (h2 : w.cell? ⟨BB, 0, none⟩ = some (.int .i64 b)) (hL : SlT w A l) :
    Calls Try.prog 72 #[.int .i64 q, .pointer (some ⟨LB, 0, none⟩), .pointer (some ⟨BB, 0, none⟩)] w fun e w' => e = .returned (.bool r) ∧ Below w.heap.size w w' := by
  have HQ := Lib.hid hq
  have hq0 : 0 ≤ q := by omega
  have hqn : q.toNat = i := by omega
  have hqm : q < (len : Int) := by omega
  obtain ⟨bb, off, rfl, hbb, hc⟩ := hL (by omega)
  have X := hc i (by omega)
  obtain ⟨a, ha⟩ : ∃ a, (Fo.at3 l i).a = a := ⟨_, rfl⟩
  have X0 := X.c0
  rw [ha] at X0 hr
  have HR := Lib.hid hr
  clear hq hl hi hL hc X ha hr
  go_enter Try.func72, Try.ntmps72
  go_wp2_with fail
  have x0 := fun x : Ext w => x.cell h1
  have x1 := fun x : Ext w => x.cell h2
  have x2 := fun x : Ext w => x.cell X0
  have hne := Ext.there w
  refine Ext.region (by kernel_rfl) (by kernel_rfl) ?_
  repeat (go_big_quiet_step (fail))
  refine wpQuiet_nil ?_
  rintro _ ⟨xw, rfl⟩
  have G1 := xw.h
  clear x0 x1 x2 hne
  generalize xw.w = w3 at *
  clear xw
  go_wp2_with fail
  go_ret
  exact ⟨by first | rfl | (rw [← HR.out]; rfl), G1⟩

set_option maxHeartbeats 1600000 in
/-- The library's Search, at that closure: how many tempos are not behind a bar. -/
theorem wsearch_is (l : List Fo.T3) (b c : Int) (LB BB len cap : Nat) (A : Option Addr) (n0 : Nat) (V : Te.ValL n0 l) (hc : (Te.cnt l b : Int) = c) (hl : l.length = len) (w : World) (h1 : w.cell? ⟨LB, 0, none⟩ = some (.slice A len cap)) (h2 : w.cell? ⟨BB, 0, none⟩ = some (.int .i64 b)) (hL : SlT w A l) :
    Calls Try.prog 73 #[.int .i64 (len : Int), .func (.func 72) #[] #[.pointer (some ⟨LB, 0, none⟩), .pointer (some ⟨BB, 0, none⟩)]] w fun e w' => e = .returned (.int .i64 c) ∧ Below w.heap.size w w' := by
  have HV := Lib.hid V; have HC := Lib.hid hc; have HN := Lib.hid hl; have HL := Lib.hid hL; have H1 := Lib.hid h1; have H2 := Lib.hid h2
  have hm : len ≤ 1000 := by have := V.most; omega
  have B := Below.refl w.heap.size w
  clear V hc hl hL h1 h2
  go_enter Try.func73, Try.ntmps73
  go_wp2_with fail
  go_loopw [5, 6, 7] (fun s5 s6 _ wr => ∃ (lo hi : Nat) (p q : Int), lo ≤ hi ∧ hi ≤ len ∧ p = lo ∧ q = hi ∧ s5 = .int .i64 p ∧ s6 = .int .i64 q ∧ Hid ((∀ t, t < lo → (Fo.at3 l t).a ≤ b) ∧ (∀ t, hi ≤ t → t < len → b < (Fo.at3 l t).a)) ∧ Below w.heap.size w wr) (fun s5 s6 _ _ => (intOf s6).toNat - (intOf s5).toNat)
  case atStart => exact ⟨0, len, 0, len, Nat.zero_le _, Nat.le_refl _, rfl, rfl, rfl, rfl, Lib.hid ⟨fun t ht => absurd ht (Nat.not_lt_zero _), fun t h3 h4 => by omega⟩, B⟩
  case round =>
    clear B
    obtain ⟨lo, hi, p, q, hlh, hin, hp, hq, rfl, rfl, HJ, B⟩ := hrel
    by_cases hlt : lo < hi
    case neg =>
      obtain rfl : lo = hi := by omega
      have hpq : ¬ p < q := by omega
      have HP : Hid (p = c) := Lib.hid (by rw [hp, ← HC.out, Te.cnt_is (by rw [HN.out]; exact hin) HJ.out.1 (fun h => by have := HJ.out.2 lo (Nat.le_refl _) (by rw [← HN.out]; exact h); omega)])
      clear hp hq
      go_wp2_with fail
      go_ret
      exact ⟨by rw [← HP.out]; rfl, B⟩
    case pos =>
    have hpq : p < q := by omega
    have hp0 : 0 ≤ p := by omega
    have hq1 : q ≤ 1000 := by omega
    obtain ⟨m, hmm⟩ : ∃ m : Nat, (p + q) / 2 = (m : Int) := ⟨((p + q) / 2).toNat, by omega⟩
    have hm1 : lo ≤ m := by omega
    have hm2 : m < hi := by omega
    have HM := Lib.hid hmm; have HPQ := Lib.hid (And.intro hp hq); have HI := Lib.hid (And.intro hlh hin)
    obtain ⟨r, hr⟩ : ∃ r, decide (b < (Fo.at3 l m).a) = r := ⟨_, rfl⟩
    have HR := Lib.hid hr
    have hz0 : 0 ≤ (p + q) / 2 := by omega
    have hz1 : (p + q) / 2 ≤ 1000 := by omega
    have D1 := H1.out
    clear hp hq hr hmm
    go_wp2_with fail
    refine (wbehind_is l b _ m LB BB len cap A r HM.out HR.out HN.out (by omega) (by omega) _ ((B.cell (p := ⟨LB, 0, none⟩) (World.block_lt_of_cell? _ _ H1.out)).trans H1.out) ((B.cell (p := ⟨BB, 0, none⟩) (World.block_lt_of_cell? _ _ H2.out)).trans H2.out) (HL.out.below B)).mono ?_; rintro e w2 ⟨rfl, hb⟩
    replace B := B.trans (hb.mono B.size)
    clear hb
    cases r with
    | false =>
      have HJ2 : Hid ((∀ t, t < m + 1 → (Fo.at3 l t).a ≤ b) ∧ (∀ t, hi ≤ t → t < len → b < (Fo.at3 l t).a)) := Lib.hid ⟨fun t ht => by
        have h3 := HV.out.mono (i := t) (k := m - t) (by rw [HN.out]; omega)
        rw [show t + (m - t) = m by omega] at h3
        have h4 := of_decide_eq_false HR.out
        omega, HJ.out.2⟩
      go_wp2_with fail
      go_roundw
      case rel => exact ⟨m + 1, hi, (p + q) / 2 + 1, q, by omega, HI.out.2, by have := HM.out; omega, HPQ.out.2, rfl, rfl, HJ2, B⟩
      case measure => simp [intOf]; have := HPQ.out; omega
    | true =>
      have HJ2 : Hid ((∀ t, t < lo → (Fo.at3 l t).a ≤ b) ∧ (∀ t, m ≤ t → t < len → b < (Fo.at3 l t).a)) := Lib.hid ⟨HJ.out.1, fun t ht htl => by
        have h3 := HV.out.mono (i := m) (k := t - m) (by rw [HN.out]; omega)
        rw [show m + (t - m) = t by omega] at h3
        have h4 := of_decide_eq_true HR.out
        omega⟩
      go_wp2_with fail
      go_roundw
      case rel => exact ⟨lo, m, p, (p + q) / 2, hm1, by have := HI.out; omega, HPQ.out.1, HM.out, rfl, rfl, HJ2, B⟩
      case measure => simp [intOf]; have := HPQ.out; omega

set_option maxHeartbeats 1600000 in
theorem winforce_is (l : List Fo.T3) (b n d : Int) (n0 : Nat) (V : Te.ValL n0 l) (hb0 : 0 ≤ b) (hn : (Te.tmp l b).b = n) (hd : (Te.tmp l b).c = d) (len cap : Nat) (A : Option Addr) (hl : l.length = len) (w : World) (hL : SlT w A l) :
    Calls Try.prog 47 #[.slice A len cap, .int .i64 b] w fun e w' => e = .returned (.agg #[.int .i64 n, .int .i64 d]) ∧ Below w.heap.size w w' := by
  obtain ⟨c, hc⟩ : ∃ c, (Te.cnt l b : Int) = c := ⟨_, rfl⟩
  have hp := V.cnt_pos hb0
  have hle := Te.cnt_le l b
  have hm : len ≤ 1000 := by have := V.most; omega
  obtain ⟨k, hk⟩ : ∃ k, Te.cnt l b - 1 = k := ⟨_, rfl⟩
  have hkl : k < l.length := by omega
  have hck : (c - 1).toNat = k := by omega
  have hc1 : 1 ≤ c := by omega
  have hc2 : c - 1 < (len : Int) := by omega
  have hc3 : c ≤ 1000 := by omega
  unfold Te.tmp at hn hd
  rw [hk] at hn hd
  have HA : SlT (((w.alloc (.cells #[.slice A len cap] 23)).alloc (.cells #[.int .i64 b] 3)).alloc (.cells #[.int .i64 0, .int .i64 0] 25)) A l := ((hL.alloc _).alloc _).alloc _
  have L1 := ((R1.new w (.slice A len cap) 23).alloc (.cells #[.int .i64 b] 3)).alloc (.cells #[.int .i64 0, .int .i64 0] 25)
  have B1 := (R1.new (w.alloc (.cells #[.slice A len cap] 23)) (.int .i64 b) 3).alloc (.cells #[.int .i64 0, .int .i64 0] 25)
  have V1 := Var2.new ((w.alloc (.cells #[.slice A len cap] 23)).alloc (.cells #[.int .i64 b] 3)) 0 0 25
  have B := (((Below.refl w.heap.size w).alloc (Nat.le_refl _) (.cells #[.slice A len cap] 23)).alloc (by simp) (.cells #[.int .i64 b] 3)).alloc (by simp; omega) (.cells #[.int .i64 0, .int .i64 0] 25)
  simp only [World.size_alloc] at B1 V1
  have HV := Lib.hid V; have HC := Lib.hid hc; have HN := Lib.hid hl
  clear V hc hl hL hb0 hp hle hk
  go_enter Try.func47, Try.ntmps47
  go_wp2_with fail
  obtain ⟨w3, hw3⟩ : ∃ x, ((w.alloc (.cells #[.slice A len cap] 23)).alloc (.cells #[.int .i64 b] 3)).alloc (.cells #[.int .i64 0, .int .i64 0] 25) = x := ⟨_, rfl⟩
  rw [hw3] at HA L1 B1 V1 B ⊢
  clear hw3
  obtain ⟨bb, off, rfl, hbb, hcc⟩ := HA (by omega)
  have X := hcc k hkl
  have X1 := X.c1; have X2 := X.c2
  rw [hn] at X1
  rw [hd] at X2
  have x0 := fun x : Ext w3 => x.cell L1.c
  have x1 := fun x : Ext w3 => x.cell B1.c
  have x2 := fun x : Ext w3 => x.cell X1
  have x3 := fun x : Ext w3 => x.cell X2
  have HS := fun x : Ext w3 => wsearch_is l b c w.heap.size (w.heap.size + 1) len cap (some ⟨bb, off, none⟩) n0 HV.out HC.out HN.out x.w (x.cell L1.c) (x.cell B1.c) (HA.below x.h)
  have hne := Ext.there w3
  clear X X1 X2 hcc hn hd HA
  refine Ext.tail 9 (by kernel_rfl) (by kernel_rfl) ?_
  simp only [List.take_succ_cons, List.take_zero, List.drop_succ_cons, List.drop_zero]
  repeat (go_big_quiet_step ((go_at_call 73; with_reducible exact Ext.call _ (HS _))))
  refine wpQuiet_nil ?_
  rintro _ ⟨xw, rfl⟩
  have V2 := V1.below xw.h
  have B2 := B.trans (xw.h.mono B.size)
  clear x0 x1 x2 x3 HS hne
  generalize xw.w = w4 at *
  clear xw
  have v0 := V2.at2.c0; have v1 := V2.at2.c1; have vl := V2.at2.lt; have vf0 := V2.f0; have vf1 := V2.f1
  go_wp2_with fail
  clear v0 v1 vl vf0 vf1
  have R2 := V2.put n d
  have hB2 := (B2.setCell (p := ⟨w.heap.size + 1 + 1, 0, none⟩) (show w.heap.size ≤ w.heap.size + 1 + 1 by omega) (.int .i64 n)).setCell (p := ⟨w.heap.size + 1 + 1, 1, none⟩) (show w.heap.size ≤ w.heap.size + 1 + 1 by omega) (.int .i64 d)
  have z0 := R2.at2.c0; have z1 := R2.at2.c1
  refine bodyPost_ret (v := .agg #[.int .i64 n, .int .i64 d]) (by simp [results, Try.results47, z0, z1, go_sem]) rfl ⟨rfl, hB2⟩

/-- A clock: its ticks, and its tempos. -/
structure Ck (X : World) (C : Nat) (z : Int) (A : Option Addr) (n c : Nat) : Prop where
  t : X.cell? ⟨C, 0, none⟩ = some (.int .i64 z)
  f : X.frozen? ⟨C, 0, none⟩ = false
  l : X.cell? ⟨C, 1, none⟩ = some (.slice A n c)
theorem Ck.lt {X : World} {C : Nat} {z : Int} {A : Option Addr} {n c : Nat} (h : Ck X C z A n c) : C < X.heap.size := World.block_lt_of_cell? _ _ h.t
theorem Ck.sameB {X Y : World} {C : Nat} {z : Int} {A : Option Addr} {n c : Nat} (h : Ck X C z A n c) (hb : Y.heap[C]? = X.heap[C]?) : Ck Y C z A n c :=
  ⟨(World.cell?_of_block (w := X) (a := ⟨C, 0, none⟩) hb).trans h.t, (World.frozen?_of_block (w := X) (a := ⟨C, 0, none⟩) hb).trans h.f, (World.cell?_of_block (w := X) (a := ⟨C, 1, none⟩) hb).trans h.l⟩
theorem Ck.below {X Y : World} {C : Nat} {z : Int} {A : Option Addr} {n c : Nat} (h : Ck X C z A n c) (hb : Below X.heap.size X Y) : Ck Y C z A n c := h.sameB (hb.block C h.lt)
theorem Ck.alloc {X : World} {C : Nat} {z : Int} {A : Option Addr} {n c : Nat} (h : Ck X C z A n c) (o : Obj) : Ck (X.alloc o) C z A n c := h.below ((Below.refl _ _).alloc (Nat.le_refl _) _)
theorem Ck.set {X : World} {C : Nat} {z : Int} {A : Option Addr} {n c : Nat} (h : Ck X C z A n c) (v : Int) : Ck (X.setCell ⟨C, 0, none⟩ (.int .i64 v)) C v A n c :=
  ⟨World.cell?_setCell_same' _ _ _ (by rw [h.t]; rfl), by rw [World.frozen?_setCell]; exact h.f, by have := h.l; go_simp⟩
theorem Ck.new (w : World) (A : Option Addr) (n c : Nat) (t : TypeId) : Ck (w.alloc (.cells #[.int .i64 0, .slice A n c] t)) w.heap.size 0 A n c := ⟨by go_simp, by go_simp, by go_simp⟩
theorem grown_one {w : World} {S : Nat} {v : Value} : w.grownBy (w.setCell ⟨S, 0, none⟩ v) (some S) :=
  ⟨rfl, rfl, rfl, by simp [World.setCell], fun i _ hne => Below.heap_setCell _ _ _ _ (fun e => hne (by rw [e]))⟩
theorem grown_behind {w a b : World} {S : Nat} (hb : Below w.heap.size w a) (h : a.grownBy b (some S)) : w.grownBy b (some S) :=
  ⟨h.os.trans hb.os, h.tape.trans hb.tape, h.output.trans hb.output, Nat.le_trans hb.size h.size, fun i hi hne => (h.block i (Nat.lt_of_lt_of_le hi hb.size) hne).trans (hb.block i hi)⟩
theorem grown_then {w a b : World} {S : Nat} (h : w.grownBy a (some S)) (k : a.grownBy b (some S)) : w.grownBy b (some S) :=
  ⟨k.os.trans h.os, k.tape.trans h.tape, k.output.trans h.output, Nat.le_trans h.size k.size, fun i hi hne => (k.block i (Nat.lt_of_lt_of_le hi h.size) hne).trans (h.block i hi hne)⟩

theorem wadd_is (C : Nat) (z t : Int) (h0 : -4000000000000000 ≤ z + t) (h1 : z + t ≤ 4000000000000000) (A : Option Addr) (n c : Nat) (w : World) (K : Ck w C z A n c) :
    Calls Try.prog 53 #[.pointer (some ⟨C, 0, none⟩), .int .i64 t] w fun e w' => (∃ v, e = .returned v) ∧ Ck w' C (z + t) A n c ∧ w.grownBy w' (some C) := by
  have k0 := K.t; have kl := K.lt; have kf := K.f
  go_enter Try.func53, Try.ntmps53
  go_wp2_with fail
  go_end0
  exact ⟨⟨_, rfl⟩, K.set _, grown_one⟩

set_option maxHeartbeats 1600000 in
theorem wplay_is (l : List Fo.T3) (b u z v : Int) (n0 : Nat) (V : Te.ValL n0 l) (hb0 : 0 ≤ b) (hv : u * Te.sb l b = v) (hu0 : -1000000 ≤ u) (hu1 : u ≤ 1000000) (hz0 : -2000000000000000 ≤ z) (hz1 : z ≤ 2000000000000000) (C len cap : Nat) (A : Option Addr) (hl : l.length = len) (w : World) (K : Ck w C z A len cap) (hL : SlT w A l) :
    Calls Try.prog 28 #[.pointer (some ⟨C, 0, none⟩), .int .i64 b, .int .i64 u] w fun e w' => (∃ v, e = .returned v) ∧ Ck w' C (z + v) A len cap ∧ w.grownBy w' (some C) := by
  obtain ⟨n, hn⟩ : ∃ n, (Te.tmp l b).b = n := ⟨_, rfl⟩
  obtain ⟨d, hd⟩ : ∃ d, (Te.tmp l b).c = d := ⟨_, rfl⟩
  obtain ⟨s, hs⟩ : ∃ s, Te.sb l b = s := ⟨_, rfl⟩
  have hsr := V.sb_r b
  rw [hs] at hv hsr
  have hsc : 1 ≤ d ∧ -1000000000 ≤ n ∧ n ≤ 1000000000 ∧ n * (60 / d) = s := by
    rcases Te.sc_cases (Te.tmp l b).b (Te.tmp l b).c with h | h
    · have : Te.sb l b = -1 := h
      omega
    · rw [hn, hd] at h
      have e : Te.sc n d = s := by rw [← hs, ← hn, ← hd]; rfl
      have := (Rt.vld_lim h.1)
      refine ⟨h.2.2.2.2.1, by omega, by omega, by rw [← e]; exact h.2.2.2.2.2.2.2.2.2.symm⟩
  obtain ⟨hs1, hs2, hs3, hs4⟩ := hsc
  have hb := mul_in u s 1000000 600 hu0 hu1 (by omega) hsr.2
  rw [hv] at hb
  obtain ⟨hv0, hv1⟩ := hb
  have hv0' : -600000000 ≤ v := by omega
  have hv1' : v ≤ 600000000 := by omega
  have HF := fun x : Ext w => winforce_is l b n d n0 V hb0 hn hd len cap A hl x.w (hL.below x.h)
  have HP := fun x : Ext w => wparts_is n d s hs1 hs2 hs3 hs4 x.w
  have HV := Lib.hid hv
  have hu := HV.out
  clear hL V hl hs hs4 hv hn hd hv0 hv1 hsr hs1 hs2 hs3
  go_enter Try.func28, Try.ntmps28
  go_wp2_with fail
  have x0 := fun x : Ext w => x.cell K.t
  have x1 := fun x : Ext w => x.cell K.l
  have hne := Ext.there w
  refine Ext.tail 12 (by kernel_rfl) (by kernel_rfl) ?_
  simp only [List.take_succ_cons, List.take_zero, List.drop_succ_cons, List.drop_zero]
  repeat (go_big_quiet_step ((first | (go_at_call 47; with_reducible exact Ext.call _ (HF _)) | (go_at_call 54; with_reducible exact Ext.call _ (HP _)))))
  refine wpQuiet_nil ?_
  rintro _ ⟨xw, rfl⟩
  have hb := xw.h
  clear x0 x1 HF HP hne
  generalize xw.w = w3 at *
  clear xw
  have K3 := K.below hb
  go_wp2_with fail
  refine (wadd_is C z v (by omega) (by omega) A len cap w3 K3).mono ?_; rintro e w4 ⟨⟨r, rfl⟩, K4, hg⟩
  go_wp2_with fail
  go_end0
  exact ⟨⟨_, rfl⟩, K4, grown_behind hb hg⟩

theorem wcsec_is (C : Nat) (z N D E : Int) (h : Rt.makeR z 100800 = (N, D, E)) (w : World) (hc : w.cell? ⟨C, 0, none⟩ = some (.int .i64 z)) :
    Calls Try.prog 29 #[.pointer (some ⟨C, 0, none⟩)] w fun e w' => e = .returned (.tuple #[.agg #[.int .i64 N, .int .i64 D], .int .i64 E]) ∧ Below w.heap.size w w' := by
  have G0 := (Below.refl w.heap.size w).alloc (Nat.le_refl _) (.cells #[.int .i64 0, .int .i64 0] 25)
  have V0 : Var2 (w.alloc (.cells #[.int .i64 0, .int .i64 0] 25)) w.heap.size 0 0 := Var2.new _ _ _ _
  have kl := World.block_lt_of_cell? _ _ hc
  have kn : ¬ C = w.heap.size := by have : C < w.heap.size := kl; omega
  have H := Lib.hid h
  clear h
  go_enter Try.func29, Try.ntmps29
  go_wp2_with (first | (go_at_call 55; refine (make_is z 100800 N D E H.out _).mono ?_; rintro e w2 ⟨rfl, hb⟩; have V := V0.below hb; obtain ⟨v0, v1, f0, f1⟩ := And.intro V.at2.c0 (And.intro V.at2.c1 (And.intro V.f0 V.f1)); have G1 := G0.trans (hb.mono G0.size); clear hb) | fail)
  refine bodyPost_ret (v := .tuple #[.agg #[.int .i64 N, .int .i64 D], .int .i64 E]) (by simp [results, Try.results29, go_sem, v0, v1]) rfl ⟨rfl, (G1.setCell (by simp <;> omega) _).setCell (by simp <;> omega) _⟩
end Go.Proofs.Ytahdlkdiadlgeaa

/- The landed tempo's isQuarter and Valid. -/
namespace Go.Proofs.Ytahdlkdiadlgeaa
open Go.RowKit

set_option maxHeartbeats 1600000 in
theorem wisq_is (n d : Int) (r : Bool) (hr : r = true ↔ 0 ≤ Te.sc n d) (w : World) :
    Calls Try.prog 50 #[.agg #[.int .i64 n, .int .i64 d]] w fun e w' => e = .returned (.bool r) ∧ Below w.heap.size w w' := by
  obtain ⟨b, hb⟩ : ∃ b, Rt.vld n d = b := ⟨_, rfl⟩
  have HB := Lib.hid hb
  have A2 := At2.new w n d 25
  have G0 := (Below.refl w.heap.size w).alloc (Nat.le_refl _) (.cells #[.int .i64 n, .int .i64 d] 25)
  unfold Te.sc at hr
  cases b with
  | false =>
    rw [if_neg (by rw [hb]; simp)] at hr
    obtain rfl : r = false := by
      cases r with
      | false => rfl
      | true => exact absurd (hr.1 rfl) (by decide)
    clear hb hr
    go_enter Try.func50, Try.ntmps50
    go_wp2_with fail
    refine (valid_is n d _ HB.out _).mono ?_; rintro e w2 ⟨rfl, hb⟩
    replace A2 := A2.below hb; have G := G0.trans (hb.mono G0.size)
    have a0 := A2.c0; have a1 := A2.c1
    clear hb A2
    go_wp2_with fail
    go_ret
    exact ⟨rfl, G⟩
  | true =>
    have hlim := Rt.vld_lim hb
    obtain ⟨l1, l2, l3, l4⟩ := hlim
    have hd0 : ¬ d = 0 := by omega
    have hdm : (60 : Int).tmod d = 60 % d := Int.tmod_eq_emod_of_nonneg (by omega)
    by_cases h1 : 0 < n
    case neg =>
      have h1' : decide (0 < n) = false := decide_eq_false h1
      rw [if_neg (by omega)] at hr
      obtain rfl : r = false := by
        cases r with
        | false => rfl
        | true => exact absurd (hr.1 rfl) (by decide)
      clear hb hr
      go_enter Try.func50, Try.ntmps50
      go_wp2_with fail
      refine (valid_is n d _ HB.out _).mono ?_; rintro e w2 ⟨rfl, hb⟩
      replace A2 := A2.below hb; have G := G0.trans (hb.mono G0.size)
      have a0 := A2.c0; have a1 := A2.c1
      clear hb A2
      go_wp2_with fail
      go_ret
      exact ⟨rfl, G⟩
    have h1' : decide (0 < n) = true := decide_eq_true h1
    by_cases h2 : n ≤ 10 * d
    case neg =>
      have h2' : decide (n ≤ 10 * d) = false := decide_eq_false h2
      rw [if_neg (by omega)] at hr
      obtain rfl : r = false := by
        cases r with
        | false => rfl
        | true => exact absurd (hr.1 rfl) (by decide)
      clear hb hr
      go_enter Try.func50, Try.ntmps50
      go_wp2_with fail
      refine (valid_is n d _ HB.out _).mono ?_; rintro e w2 ⟨rfl, hb⟩
      replace A2 := A2.below hb; have G := G0.trans (hb.mono G0.size)
      have a0 := A2.c0; have a1 := A2.c1
      clear hb A2
      go_wp2_with fail
      go_ret
      exact ⟨rfl, G⟩
    have h2' : decide (n ≤ 10 * d) = true := decide_eq_true h2
    by_cases h3 : 60 % d = 0
    · have h3' : (60 % d == 0) = true := by simpa using h3
      obtain rfl : r = true := by
        rw [if_pos ⟨hb, by omega, by omega, h3⟩] at hr
        refine hr.2 (Int.mul_nonneg (by omega) (Int.ediv_nonneg (by omega) (by omega)))
      clear hb hr h3
      go_enter Try.func50, Try.ntmps50
      go_wp2_with fail
      refine (valid_is n d _ HB.out _).mono ?_; rintro e w2 ⟨rfl, hb⟩
      replace A2 := A2.below hb; have G := G0.trans (hb.mono G0.size)
      have a0 := A2.c0; have a1 := A2.c1
      clear hb A2
      go_wp2_with fail
      go_ret
      exact ⟨rfl, G⟩
    · have h3' : (60 % d == 0) = false := by simpa using h3
      rw [if_neg (fun k => h3 k.2.2.2)] at hr
      obtain rfl : r = false := by
        cases r with
        | false => rfl
        | true => exact absurd (hr.1 rfl) (by decide)
      clear hb hr h3
      go_enter Try.func50, Try.ntmps50
      go_wp2_with fail
      refine (valid_is n d _ HB.out _).mono ?_; rintro e w2 ⟨rfl, hb⟩
      replace A2 := A2.below hb; have G := G0.trans (hb.mono G0.size)
      have a0 := A2.c0; have a1 := A2.c1
      clear hb A2
      go_wp2_with fail
      go_ret
      exact ⟨rfl, G⟩

set_option maxRecDepth 100000 in
set_option maxHeartbeats 3200000 in
theorem wtvalid_is (bs : List Mt.B) (l : List Fo.T3) (r : Bool) (n1 c1 n2 c2 : Nat) (A1 A2 : Option Addr) (hr : r = true ↔ Te.Val bs l) (h1 : bs.length = n1) (h2 : l.length = n2) (hwf : Mt.Wf bs) (w : World) (hB : SlB w A1 bs) (hL : SlT w A2 l) :
    Calls Try.prog 24 #[.slice A1 n1 c1, .slice A2 n2 c2] w fun e w' => e = .returned (.bool r) ∧ Below w.heap.size w w' := by
  have HR := Lib.hid hr; have HN1 := Lib.hid h1; have HN2 := Lib.hid h2; have HB := Lib.hid hB; have HL := Lib.hid hL; have HWF := Lib.hid hwf
  obtain ⟨u, hu⟩ : ∃ u : Bool, u = true ↔ Mt.Val bs := ⟨@decide _ (Classical.propDecidable _), @decide_eq_true_iff _ (Classical.propDecidable _)⟩
  have HV := Lib.hid hu
  clear hr h1 h2 hB hL hu hwf
  cases u with
  | false =>
    obtain rfl : r = false := by
      cases r with
      | false => rfl
      | true => exact absurd (HR.out.1 rfl) (fun V => (by have := HV.out.2 V.1; cases this))
    go_enter Try.func24, Try.ntmps24
    go_wp2_with fail
    refine (mvalid_is bs false n1 c1 A1 HV.out HN1.out HWF.out _ HB.out).mono ?_; rintro e w2 ⟨rfl, hb⟩
    go_wp2_with fail
    go_ret
    exact ⟨rfl, hb⟩
  | true =>
  have HVB := Lib.hid (HV.out.1 rfl)
  have hn1 : n1 ≤ 4000 := by have := HVB.out.2.1; have := HN1.out; omega
  have hn0 : 1 ≤ n1 := by have := HVB.out.1; have := HN1.out; omega
  obtain ⟨g, hg⟩ : ∃ g : Bool, g = true ↔ 1 ≤ (n2 : Int) ∧ (n2 : Int) ≤ 1000 := ⟨decide _, decide_eq_true_iff⟩
  have HG := Lib.hid hg
  cases g with
  | false =>
    obtain rfl : r = false := by
      cases r with
      | false => rfl
      | true => exact absurd (HR.out.1 rfl) (fun V => (by have h3 := V.2.one; have h4 := V.2.most; have := HN2.out; have := HG.out.2 ⟨by omega, by omega⟩; cases this))
    clear hg
    go_enter Try.func24, Try.ntmps24
    go_wp2_with fail
    refine (mvalid_is bs true n1 c1 A1 ⟨fun _ => HVB.out, fun _ => rfl⟩ HN1.out HWF.out _ HB.out).mono ?_; rintro e w2 ⟨rfl, hb⟩
    go_wp2_with fail
    refine (lbetween_is (n2 : Int) 1 1000 false HG.out _).mono ?_; rintro e w3 ⟨rfl, rfl⟩
    go_wp2_with fail
    go_ret
    exact ⟨rfl, hb⟩
  | true =>
  obtain ⟨k1, k2⟩ := HG.out.1 rfl
  have hn2 : 1 ≤ n2 ∧ n2 ≤ 1000 := by omega
  obtain ⟨bb, off, rfl, hbb, hc⟩ := HL.out (by have := HN2.out; omega)
  have HC := Lib.hid hc
  have X0 := hc 0 (by have := HN2.out; omega)
  rw [Nat.zero_mul, Nat.add_zero] at X0
  obtain ⟨z, hz⟩ : ∃ z, (Fo.at3 l 0).a = z := ⟨_, rfl⟩
  have Z0 := X0.c0
  rw [hz] at Z0
  have HZ := Lib.hid hz
  have hl0 : (0 : Int) < (n2 : Int) := by omega
  clear hc X0 hz hg
  by_cases k3 : z = 0
  case neg =>
    have k3' : (z != 0) = true := by simpa using k3
    obtain rfl : r = false := by
      cases r with
      | false => rfl
      | true => exact absurd (HR.out.1 rfl) (fun V => (by have := V.2.zero; have := HZ.out; omega))
    go_enter Try.func24, Try.ntmps24
    go_wp2_with fail
    refine (mvalid_is bs true n1 c1 A1 ⟨fun _ => HVB.out, fun _ => rfl⟩ HN1.out HWF.out _ HB.out).mono ?_; rintro e w2 ⟨rfl, hb⟩
    have y0 := (hb.cell (p := ⟨bb, off, none⟩) hbb).trans Z0
    clear k3
    go_wp2_with fail
    refine (lbetween_is (n2 : Int) 1 1000 true ⟨fun _ => ⟨by omega, by omega⟩, fun _ => rfl⟩ _).mono ?_; rintro e w3 ⟨rfl, rfl⟩
    go_wp2_with fail
    go_ret
    exact ⟨rfl, hb⟩
  case pos =>
  have k3' : (z != 0) = false := by simpa using k3
  go_enter Try.func24, Try.ntmps24
  go_wp2_with fail
  refine (mvalid_is bs true n1 c1 A1 ⟨fun _ => HVB.out, fun _ => rfl⟩ HN1.out HWF.out _ HB.out).mono ?_; rintro e w2 ⟨rfl, hb⟩
  have y0 := (hb.cell (p := ⟨bb, off, none⟩) hbb).trans Z0
  have HK3 := Lib.hid k3
  clear k3
  go_wp2_with fail
  refine (lbetween_is (n2 : Int) 1 1000 true ⟨fun _ => ⟨by omega, by omega⟩, fun _ => rfl⟩ _).mono ?_; rintro e w3 ⟨rfl, rfl⟩
  go_wp2_with fail
  clear y0 Z0 k3' k1 k2
  go_loopw [5, 26] (fun s5 s26 wr => ∃ (i : Nat) (q a : Int), i ≤ n2 ∧ q = i ∧ s26 = .int .i64 q ∧ s5 = .int .i64 a ∧ Hid ((i = 0 → a = 0) ∧ (0 < i → a = (Fo.at3 l (i - 1)).a + 1)) ∧ 0 ≤ a ∧ Hid ((∀ j, j < i → 0 ≤ Te.scT (Fo.at3 l j) ∧ (Fo.at3 l j).a < (n1 : Int)) ∧ ∀ j, j + 1 < i → (Fo.at3 l j).a < (Fo.at3 l (j + 1)).a) ∧ Below w.heap.size w wr) (fun _ s26 _ => n2 - (intOf s26).toNat)
  case atStart => exact ⟨0, 0, 0, Nat.zero_le _, rfl, rfl, rfl, Lib.hid ⟨fun _ => rfl, fun h => absurd h (Nat.lt_irrefl _)⟩, by omega, Lib.hid ⟨fun j hj => by omega, fun j hj => by omega⟩, hb⟩
  case round =>
    clear hb
    obtain ⟨i, q, a, hi, hq, rfl, rfl, HA, ha0, HE, B⟩ := hrel
    have HQ := Lib.hid hq
    have hq0 : 0 ≤ q := by omega
    have hqn : q.toNat = i := by omega
    have hqm : q ≤ 1000 := by omega
    by_cases hlt : i < n2
    case neg =>
      obtain rfl : i = n2 := by omega
      have hq1 : ¬ q < (i : Int) := by omega
      obtain rfl : r = true := HR.out.2 ⟨HVB.out, by have := HN2.out; omega, by have := HN2.out; omega, by rw [HZ.out]; exact HK3.out, fun j hj => by have := HE.out.1 j (by rw [← HN2.out]; exact hj); rw [HN1.out]; exact this, fun j hj => HE.out.2 j (by rw [← HN2.out]; exact hj)⟩
      clear hq
      go_wp2_with fail
      go_ret
      exact ⟨rfl, B⟩
    case pos =>
    have hq1 : q < (n2 : Int) := by omega
    have HLT := Lib.hid hlt
    have X := (HC.out i (by rw [HN2.out]; exact hlt)).below B hbb
    obtain ⟨x, hx⟩ : ∃ x, Fo.at3 l i = x := ⟨_, rfl⟩
    rw [hx] at X
    have HX := Lib.hid hx
    obtain ⟨t0, t1, t2⟩ := X
    have T := TB.new wr x 38
    have B2 := B.alloc B.size (.cells #[.int .i64 x.a, .int .i64 x.b, .int .i64 x.c] 38)
    have y0 := T.c0; have y1 := T.c1; have y2 := T.c2; have yl := T.lt
    obtain ⟨g, hg⟩ : ∃ g : Bool, g = true ↔ a ≤ x.a ∧ x.a ≤ (n1 : Int) - 1 := ⟨decide _, decide_eq_true_iff⟩
    have HG := Lib.hid hg
    clear hq hlt hx hg
    go_wp2_with fail
    refine (lbetween_is x.a a ((n1 : Int) - 1) g HG.out _).mono ?_; rintro e w4 ⟨rfl, rfl⟩
    cases g with
    | false =>
      obtain rfl : r = false := by
        cases r with
        | false => rfl
        | true =>
          have V := HR.out.1 rfl
          have h9 := (V.2.ok i (by rw [HN2.out]; exact HLT.out)).2
          rw [HX.out, HN1.out] at h9
          have h8 : a ≤ x.a := by
            rcases Nat.eq_zero_or_pos i with h | h
            · subst h
              have h7 := V.2.zero
              rw [HX.out] at h7
              have := HA.out.1 rfl
              omega
            · have h7 := V.2.rise (i - 1) (by rw [HN2.out]; have := HLT.out; omega)
              rw [show i - 1 + 1 = i by omega, HX.out] at h7
              have := HA.out.2 h
              omega
          have := HG.out.2 ⟨h8, by omega⟩
          cases this
      go_wp2_with fail
      go_ret
      exact ⟨rfl, B2⟩
    | true =>
    obtain ⟨g1, g2⟩ := HG.out.1 rfl
    obtain ⟨k, hk⟩ : ∃ k : Bool, k = true ↔ 0 ≤ Te.sc x.b x.c := ⟨decide _, decide_eq_true_iff⟩
    have HK := Lib.hid hk
    clear hk
    go_wp2_with fail
    refine (wisq_is x.b x.c k HK.out _).mono ?_; rintro e w5 ⟨rfl, hb⟩
    replace T := T.below hb
    replace B2 := B2.trans (hb.mono B2.size)
    clear hb y0 y1 y2 yl t0 t1 t2
    cases k with
    | false =>
      obtain rfl : r = false := by
        cases r with
        | false => rfl
        | true =>
          have V := HR.out.1 rfl
          have h9 := (V.2.ok i (by rw [HN2.out]; exact HLT.out)).1
          rw [HX.out] at h9
          have := HK.out.2 h9
          cases this
      go_wp2_with fail
      go_ret
      exact ⟨rfl, B2⟩
    | true =>
    have y0 := T.c0; have yl := T.lt
    have HE2 : Hid ((∀ j, j < i + 1 → 0 ≤ Te.scT (Fo.at3 l j) ∧ (Fo.at3 l j).a < (n1 : Int)) ∧ ∀ j, j + 1 < i + 1 → (Fo.at3 l j).a < (Fo.at3 l (j + 1)).a) := Lib.hid ⟨fun j hj => (by
        rcases Nat.lt_or_ge j i with h | h
        · exact HE.out.1 j h
        · obtain rfl : j = i := by omega
          rw [HX.out]
          exact ⟨HK.out.1 rfl, by omega⟩), fun j hj => (by
        rcases Nat.lt_or_ge (j + 1) i with h | h
        · exact HE.out.2 j h
        · obtain rfl : i = j + 1 := by omega
          have := HA.out.2 (Nat.succ_pos _)
          rw [Nat.add_sub_cancel] at this
          rw [HX.out]
          omega)⟩
    have HA2 : Hid ((i + 1 = 0 → x.a + 1 = 0) ∧ (0 < i + 1 → x.a + 1 = (Fo.at3 l (i + 1 - 1)).a + 1)) := Lib.hid ⟨fun h => absurd h (Nat.succ_ne_zero _), fun _ => by rw [Nat.add_sub_cancel, HX.out]⟩
    clear HE HA T
    go_wp2_with fail
    go_roundw
    case rel => exact ⟨i + 1, q + 1, x.a + 1, by have := HLT.out; omega, by have := HQ.out; omega, rfl, rfl, HA2, by omega, HE2, B2⟩
    case measure => simp [intOf]; have := HLT.out; omega
end Go.Proofs.Ytahdlkdiadlgeaa
