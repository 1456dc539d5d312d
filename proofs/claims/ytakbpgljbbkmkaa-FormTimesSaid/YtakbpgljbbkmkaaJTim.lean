import Derived.Test.YtakbpgljbbkmkaaLu
import Derived.Test.YtakbpgljbbkmkaaHy
import Derived.Test.YtakbpgljbbkmkaaWs
import Derived.Test.YtakbpgljbbkmkaaWt
/- The walk of the laws' kept. -/
namespace Go.Proofs.Ytakbpgljbbkmkaa
open Go.RowKit

theorem Fo.lft_one {c : Fo.T3} {v : Fo.V2} : Fo.lft [c] v ↔ Fo.lvs c v := by unfold Fo.lft; simp
set_option maxRecDepth 100000 in
set_option maxHeartbeats 6400000 in
theorem lkept_is (l : List Fo.V2) (len cap : Nat) (A : Option Addr) (c : Fo.T3) (hl : l.length = len) (hmax : len ≤ 1000000) (w : World) (hL : SlV w A l) :
    Calls Try.prog 27 #[.slice A len cap, .agg #[.int .i64 c.a, .int .i64 c.b, .int .i64 c.c]] w fun e w' => Below w.heap.size w w' ∧ ∃ v, e = .returned v ∧ w'.ownsRow w.heap.size 30 2 v (Fo.kpt [c] l len).length (vV (Fo.kpt [c] l len)) := by
  obtain ⟨iv, hv0, hv1, hv2, hv3⟩ := info_parts infoVisit
  have HIV := Lib.hid (And.intro hv0 (And.intro hv1 (And.intro hv2 hv3)))
  have HN := Lib.hid hl; have HL := Lib.hid (hL.alloc (.cells #[.int .i64 c.a, .int .i64 c.b, .int .i64 c.c] 32))
  have HB := Lib.hid ((Below.refl w.heap.size w).alloc (Nat.le_refl _) (.cells #[.int .i64 c.a, .int .i64 c.b, .int .i64 c.c] 32))
  have HT := Lib.hid (TB.new w c 32)
  have hs1 : (w.alloc (.cells #[.int .i64 c.a, .int .i64 c.b, .int .i64 c.c] 32)).heap.size = w.heap.size + 1 := World.size_alloc _ _
  obtain ⟨w1, hw1⟩ : ∃ w1, w.alloc (.cells #[.int .i64 c.a, .int .i64 c.b, .int .i64 c.c] 32) = w1 := ⟨_, rfl⟩
  rw [hw1] at HL HB HT hs1
  clear hl hL hv0 hv1 hv2 hv3
  go_enter Try.func27, Try.ntmps27
  go_wp2_with fail
  try rw [hw1]
  clear hw1
  go_loopw [5, 10] (fun s5 s10 wr => ∃ (i N : Nat), i ≤ len ∧ s10 = .int .i64 (i : Int) ∧ (Fo.kpt [c] l i).length = N ∧ Hid (wr.ownsRow w1.heap.size 30 2 s5 N (vV (Fo.kpt [c] l i))) ∧ Below w1.heap.size w1 wr) (fun _ s10 _ => len - (intOf s10).toNat)
  case atStart => exact ⟨0, 0, Nat.zero_le _, rfl, rfl, Lib.hid (World.ownsRow_nil _ _ _ _), Below.refl _ _⟩
  case round =>
    obtain ⟨i, N, hi, rfl, hNL, HOW, hR⟩ := hrel
    have HNL := Lib.hid hNL
    have hNi : N ≤ i := by rw [← hNL]; exact Fo.kpt_len _ _ _
    clear hNL
    by_cases hlt : i < len
    · have hil : i < l.length := by rw [HN.out]; exact hlt
      obtain ⟨b, off, rfl, hb, hc⟩ := HL.out (by omega)
      have X := (hc i hil).below hR hb
      obtain ⟨x, hx⟩ : ∃ x, atV l i = x := ⟨_, rfl⟩
      rw [hx] at X
      have HKS := Lib.hid (Fo.kpt_snoc [c] l i hil)
      rw [hx] at HKS
      have CT := HT.out.below hR
      have XA := At2.new wr x.b x.p 30
      have hkeep := (HOW.out.kept (below_grown ((Below.refl wr.heap.size wr).alloc (Nat.le_refl _) (.cells #[.int .i64 x.b, .int .i64 x.p] 30)) none) none_ne).kept (below_grown ((Below.refl _ (wr.alloc (.cells #[.int .i64 x.b, .int .i64 x.p] 30))).alloc (Nat.le_refl _) (.cells #[.int .i64 x.b, .int .i64 x.p] 30)) none) none_ne
      have HOA := Lib.hid (HOW.out.kept (below_grown ((Below.refl wr.heap.size wr).alloc (Nat.le_refl _) (.cells #[.int .i64 x.b, .int .i64 x.p] 30)) none) none_ne)
      have HRA := Lib.hid (hR.alloc hR.size (.cells #[.int .i64 x.b, .int .i64 x.p] 30))
      have hRA := (hR.alloc hR.size (.cells #[.int .i64 x.b, .int .i64 x.p] 30)).alloc (by have := hR.size; simp; omega) (.cells #[.int .i64 x.b, .int .i64 x.p] 30)
      have hnew := cell_two_new (wr.alloc (.cells #[.int .i64 x.b, .int .i64 x.p] 30)) (.int .i64 x.b) (.int .i64 x.p) 30
      rw [World.size_alloc] at hnew
      have hsz := hR.size
      obtain ⟨c0, c1⟩ := X
      have t0 := CT.c0; have t1 := CT.c1; have t2 := CT.c2; have tl := CT.lt
      have x0 := XA.c0; have x1 := XA.c1; have xl := XA.lt
      have hi1 : (i : Int) < (len : Int) := by omega
      clear hc hx hil CT XA
      by_cases h1 : x.b < c.a
      case pos =>
        have HK2 : Hid (Fo.kpt [c] l (i + 1) = Fo.kpt [c] l i ++ [x]) := Lib.hid (by rw [HKS.out, if_neg (fun hh => (fun hv : Fo.lvs c x => by have := hv.1.1; omega) (Fo.lft_one.1 hh))])
        go_wp2_with (first | (at_builtin; refine wpList_append_own _ rfl _ _ 35 rfl w1.heap.size 30 iv (.agg #[.int .i64 0, .int .i64 0]) 2 16 Try.underlying35 HIV.out.1 HIV.out.2.1 HIV.out.2.2.1 HIV.out.2.2.2 rfl (by decide) _ N _ rfl hkeep ⟨wr.heap.size + 1, 0, none⟩ 1 1 [.int .i64 x.b, .int .i64 x.p] rfl rfl hnew (fun u hu => by simp at hu; rcases hu with rfl | rfl <;> rfl) (by unfold maxLen; omega) (by omega) (by simp; omega) ?_; intro v5 w5 hown5 hgrow5 hnil5; have HR5 := Lib.hid (hRA.grown hgrow5 hRA.size (own_ne hkeep)); have HO5 := Lib.hid hown5; clear hown5 hgrow5 hnil5 hkeep hRA hnew) | fail)
        go_roundw
        case rel => exact ⟨i + 1, N + 1, by omega, by simp, by rw [HK2.out, List.length_append, HNL.out]; rfl, Lib.hid (by rw [HK2.out, vV_app, vV_one]; exact HO5.out), HR5.out⟩
        case measure => simp [intOf]; omega
      case neg =>
        by_cases h2 : c.b ≤ x.b
        case pos =>
          have HK2 : Hid (Fo.kpt [c] l (i + 1) = Fo.kpt [c] l i ++ [x]) := Lib.hid (by rw [HKS.out, if_neg (fun hh => (fun hv : Fo.lvs c x => by have := hv.1.2; omega) (Fo.lft_one.1 hh))])
          go_wp2_with (first | (at_builtin; refine wpList_append_own _ rfl _ _ 35 rfl w1.heap.size 30 iv (.agg #[.int .i64 0, .int .i64 0]) 2 16 Try.underlying35 HIV.out.1 HIV.out.2.1 HIV.out.2.2.1 HIV.out.2.2.2 rfl (by decide) _ N _ rfl hkeep ⟨wr.heap.size + 1, 0, none⟩ 1 1 [.int .i64 x.b, .int .i64 x.p] rfl rfl hnew (fun u hu => by simp at hu; rcases hu with rfl | rfl <;> rfl) (by unfold maxLen; omega) (by omega) (by simp; omega) ?_; intro v5 w5 hown5 hgrow5 hnil5; have HR5 := Lib.hid (hRA.grown hgrow5 hRA.size (own_ne hkeep)); have HO5 := Lib.hid hown5; clear hown5 hgrow5 hnil5 hkeep hRA hnew) | fail)
          go_roundw
          case rel => exact ⟨i + 1, N + 1, by omega, by simp, by rw [HK2.out, List.length_append, HNL.out]; rfl, Lib.hid (by rw [HK2.out, vV_app, vV_one]; exact HO5.out), HR5.out⟩
          case measure => simp [intOf]; omega
        case neg =>
          by_cases h3 : c.c = 0
          case pos =>
            have e3 : (c.c != 0) = false := by simp [h3]
            have HV3 : Hid (Fo.lvs c x) := Lib.hid ⟨⟨by omega, by omega⟩, .inl h3⟩
            clear h3
            have HK2 : Hid (Fo.kpt [c] l (i + 1) = Fo.kpt [c] l i) := Lib.hid (by rw [HKS.out, if_pos (Fo.lft_one.2 HV3.out), List.append_nil])
            clear hkeep hRA hnew
            go_wp2_with fail
            go_roundw
            case rel => exact ⟨i + 1, N, by omega, by simp, by rw [HK2.out]; exact HNL.out, Lib.hid (by rw [HK2.out]; exact HOA.out), HRA.out⟩
            case measure => simp [intOf]; omega
          case neg =>
            have e3 : (c.c != 0) = true := by simpa using h3
            by_cases h4 : c.c = x.p
            case pos =>
              have e4 : (c.c != x.p) = false := by simp [h4]
              have HV3 : Hid (Fo.lvs c x) := Lib.hid ⟨⟨by omega, by omega⟩, .inr h4⟩
              clear h4
              have HK2 : Hid (Fo.kpt [c] l (i + 1) = Fo.kpt [c] l i) := Lib.hid (by rw [HKS.out, if_pos (Fo.lft_one.2 HV3.out), List.append_nil])
              clear hkeep hRA hnew
              go_wp2_with fail
              go_roundw
              case rel => exact ⟨i + 1, N, by omega, by simp, by rw [HK2.out]; exact HNL.out, Lib.hid (by rw [HK2.out]; exact HOA.out), HRA.out⟩
              case measure => simp [intOf]; omega
            case neg =>
              have e4 : (c.c != x.p) = true := by simpa using h4
              have HV3 : Hid (¬ Fo.lvs c x) := Lib.hid (fun hv => hv.2.elim h3 h4)
              have HK2 : Hid (Fo.kpt [c] l (i + 1) = Fo.kpt [c] l i ++ [x]) := Lib.hid (by rw [HKS.out, if_neg (fun hh => HV3.out (Fo.lft_one.1 hh))])
              go_wp2_with (first | (at_builtin; refine wpList_append_own _ rfl _ _ 35 rfl w1.heap.size 30 iv (.agg #[.int .i64 0, .int .i64 0]) 2 16 Try.underlying35 HIV.out.1 HIV.out.2.1 HIV.out.2.2.1 HIV.out.2.2.2 rfl (by decide) _ N _ rfl hkeep ⟨wr.heap.size + 1, 0, none⟩ 1 1 [.int .i64 x.b, .int .i64 x.p] rfl rfl hnew (fun u hu => by simp at hu; rcases hu with rfl | rfl <;> rfl) (by unfold maxLen; omega) (by omega) (by simp; omega) ?_; intro v5 w5 hown5 hgrow5 hnil5; have HR5 := Lib.hid (hRA.grown hgrow5 hRA.size (own_ne hkeep)); have HO5 := Lib.hid hown5; clear hown5 hgrow5 hnil5 hkeep hRA hnew) | fail)
              go_roundw
              case rel => exact ⟨i + 1, N + 1, by omega, by simp, by rw [HK2.out, List.length_append, HNL.out]; rfl, Lib.hid (by rw [HK2.out, vV_app, vV_one]; exact HO5.out), HR5.out⟩
              case measure => simp [intOf]; omega
    · obtain rfl : i = len := by omega
      go_wp2_with fail
      go_ret
      refine ⟨HB.out.trans (hR.mono HB.out.size), _, rfl, ?_⟩
      rw [HNL.out]
      exact own_lessK HOW.out (by omega)
end Go.Proofs.Ytakbpgljbbkmkaa

/- The mathematics of FormTimes: the visits of the bars that are not in the repeat. -/
namespace Go.Proofs.Ytakbpgljbbkmkaa
open Go.RowKit

namespace Fo
theorem vis_filter (P : Int → Bool) (L : List Int) : (vis L).filter (fun v => P v.b) = vis (L.filter P) := by
  rw [← List.reverse_reverse L]
  generalize L.reverse = m
  induction m with
  | nil => rfl
  | cons b m ih =>
    rw [List.reverse_cons, vis_snoc, List.filter_append, List.filter_append, ih]
    by_cases h : P b = true
    · rw [List.filter_cons_of_pos (by exact h), List.filter_cons_of_pos h, List.filter_nil, List.filter_nil, vis_snoc, List.count_filter h]
    · rw [List.filter_cons_of_neg (by exact h), List.filter_cons_of_neg h, List.filter_nil, List.filter_nil, List.append_nil, List.append_nil]
theorem six_setL : ∀ (l : List T3) (k : Nat) (t bar : Int), six (setL l k t) bar = six l bar
  | [], _, _, _ => by unfold setL; rfl
  | x :: l, 0, t, bar => by
    show six (⟨x.a, x.b, t⟩ :: l) bar = six (x :: l) bar
    unfold six
    rfl
  | x :: l, k + 1, t, bar => by
    show six (x :: setL l k t) bar = six (x :: l) bar
    unfold six
    rw [six_setL l k t bar]
theorem pss_in (f : Fm) {x : T3} (h : x.a < x.b) (first : Int) : ∀ (n : Nat), ∀ b ∈ pss f.es x first n, inn x b
  | 0, b, hb => by unfold pss at hb; cases hb
  | n + 1, b, hb => by
    unfold pss at hb
    rcases List.mem_append.1 hb with hb | hb
    · exact pss_in f h first n b hb
    · have := (run_pas f x.a (first + n) (x.b - x.a).toNat).inn b hb
      exact ⟨by omega, by omega⟩
theorem filter_none {α : Type} {P : α → Bool} {l : List α} (h : ∀ b ∈ l, P b = false) : l.filter P = [] := List.filter_eq_nil_iff.2 (fun b hb => by rw [h b hb]; simp)
theorem blk_setC {f : Fm} {k : Nat} {t : Int} (hk : k < f.rs.length) (hu : (at3 f.rs k).a < (at3 f.rs k).b) {P : Int → Bool} (hP : ∀ b, inn (at3 f.rs k) b → P b = false) (again : Bool) (bar : Int) : (blk (setC f k t) again bar).filter P = (blk f again bar).filter P := by
  unfold blk
  rw [show (setC f k t).rs = setL f.rs k t from rfl, show (setC f k t).es = f.es from rfl, six_setL]
  by_cases h : six f.rs bar < 0
  · rw [if_pos h, if_pos h]
  · rw [if_neg h, if_neg h]
    have h2 := six_lt f.rs bar
    rw [setL_at (by omega)]
    by_cases e : (six f.rs bar).toNat = k
    · rw [if_pos e, e, filter_none (fun b hb => hP b (pss_in f (x := ⟨(at3 f.rs k).a, (at3 f.rs k).b, t⟩) hu _ _ b hb)), filter_none (fun b hb => hP b (pss_in f hu _ _ b hb))]
    · rw [if_neg e]
theorem nxt_setC {f : Fm} {k : Nat} {t : Int} (bar : Int) : nxt (setC f k t) bar = nxt f bar := by
  unfold nxt
  show (if six (setL f.rs k t) bar < 0 then bar + 1 else (at3 (setL f.rs k t) (six (setL f.rs k t) bar).toNat).b) = _
  rw [six_setL]
  by_cases h : six f.rs bar < 0
  · rw [if_pos h, if_pos h]
  · rw [if_neg h, if_neg h]
    have h2 := six_lt f.rs bar
    rw [setL_at (by omega)]
    by_cases e : (six f.rs bar).toNat = k
    · rw [if_pos e, e]
    · rw [if_neg e]
theorem prt_setC {f : Fm} {k : Nat} {t : Int} (hk : k < f.rs.length) (hu : (at3 f.rs k).a < (at3 f.rs k).b) {P : Int → Bool} (hP : ∀ b, inn (at3 f.rs k) b → P b = false) (again : Bool) (hi : Int) : ∀ (m : Nat) (bar : Int), (prt (setC f k t) again hi m bar).filter P = (prt f again hi m bar).filter P
  | 0, _ => by unfold prt; rfl
  | m + 1, bar => by
    unfold prt
    by_cases h : bar < hi
    · rw [if_pos h, if_pos h, List.filter_append, List.filter_append, blk_setC hk hu hP, nxt_setC, prt_setC hk hu hP again hi m]
    · rw [if_neg h, if_neg h]
theorem whl_setC {f : Fm} {k : Nat} {t : Int} (hk : k < f.rs.length) (hu : (at3 f.rs k).a < (at3 f.rs k).b) {P : Int → Bool} (hP : ∀ b, inn (at3 f.rs k) b → P b = false) : (whl (setC f k t)).filter P = (whl f).filter P := by
  unfold whl par
  show (if f.ja = 0 then prt (setC f k t) false f.n (f.n - 0).toNat 0 else prt (setC f k t) false f.ja (f.ja - 0).toNat 0 ++ prt (setC f k t) true f.jf (f.jf - f.jt).toNat f.jt).filter P = _
  by_cases h : f.ja = 0
  · rw [if_pos h, if_pos h, prt_setC hk hu hP]
  · rw [if_neg h, if_neg h, List.filter_append, List.filter_append, prt_setC hk hu hP, prt_setC hk hu hP]
/-- The visits of all other bars stay. -/
theorem times_kept {f : Fm} {k : Nat} {t : Int} (hk : k < f.rs.length) (hu : (at3 f.rs k).a < (at3 f.rs k).b) : (unf (setC f k t)).filter (fun v => !decide (lft [⟨(at3 f.rs k).a, (at3 f.rs k).b, 0⟩] v)) = (unf f).filter (fun v => !decide (lft [⟨(at3 f.rs k).a, (at3 f.rs k).b, 0⟩] v)) := by
  have e : (fun v : V2 => !decide (lft [⟨(at3 f.rs k).a, (at3 f.rs k).b, 0⟩] v)) = fun v => (fun b => !decide (inn (at3 f.rs k) b)) v.b := by
    funext v
    have : lft [⟨(at3 f.rs k).a, (at3 f.rs k).b, 0⟩] v ↔ inn (at3 f.rs k) v.b := by
      rw [lft_one]
      exact ⟨fun h => h.1, fun h => ⟨h, .inl rfl⟩⟩
    simp only [this]
  rw [e]
  unfold unf
  rw [List.filter_filter, List.filter_filter]
  have c : ∀ L : List V2, L.filter (fun v => (!decide (inn (at3 f.rs k) v.b)) && !decide (lft f.cs v)) = (L.filter (fun v => (fun b => !decide (inn (at3 f.rs k) b)) v.b)).filter (fun v => !decide (lft f.cs v)) := fun L => by
    rw [List.filter_filter]
    congr 1
    funext v
    exact Bool.and_comm _ _
  show (vis (whl (setC f k t))).filter (fun v => (!decide (inn (at3 f.rs k) v.b)) && !decide (lft f.cs v)) = (vis (whl f)).filter (fun v => (!decide (inn (at3 f.rs k) v.b)) && !decide (lft f.cs v))
  rw [c, c, vis_filter (fun b => !decide (inn (at3 f.rs k) b)), vis_filter (fun b => !decide (inn (at3 f.rs k) b)), whl_setC hk hu (fun b hb => by simp [hb])]
theorem Val.setC {f : Fm} (V : Val f) {k : Nat} {t : Int} (ht : 1 ≤ t ∧ t ≤ 9) (h : (whl (setC f k t)).length ≤ 20000) : Val (setC f k t) := by
  have O := V.ok.setC (k := k) ht
  exact ⟨O.n, O.rl, O.rs, O.el, O.es, O.j, V.cl, V.cs, V.cd, h⟩
end Fo
end Go.Proofs.Ytakbpgljbbkmkaa

/- The walk of the law FormTimes. -/
namespace Go.Proofs.Ytakbpgljbbkmkaa
open Go.RowKit

/-- The classes of the last statement: as it begins, behind the one call, behind both, behind the comparison. -/
def tmC (W : World) (l1 l2 : List Fo.V2) : List Value → World → Prop
  | [], w => Below W.heap.size W w
  | [v1], w => Below W.heap.size W w ∧ ∃ A c, v1 = .slice A l1.length c ∧ SlV w A l1
  | [v1, v2], w => Below W.heap.size W w ∧ (∃ A c, v1 = .slice A l1.length c ∧ SlV w A l1) ∧ ∃ A c, v2 = .slice A l2.length c ∧ SlV w A l2
  | [_, _, v3], w => Below W.heap.size W w ∧ v3 = .bool true
  | _, _ => False
theorem tmC.below {W : World} {l1 l2 : List Fo.V2} : ∀ {vs : List Value} {w : World}, tmC W l1 l2 vs w → Below W.heap.size W w
  | [], _, h => h
  | [_], _, h => h.1
  | [_, _], _, h => h.1
  | [_, _, _], _, h => h.1
  | _ :: _ :: _ :: _ :: _, _, h => h.elim
theorem Fo.kpt_all (cs : List Fo.T3) (l : List Fo.V2) {n : Nat} (h : l.length = n) : Fo.kpt cs l n = l.filter fun v => !decide (Fo.lft cs v) := by
  unfold Fo.kpt
  rw [List.take_of_length_le (by omega)]
theorem unf_max {f : Fo.Fm} (V : Fo.Val f) : (Fo.unf f).length ≤ 20000 := by
  have h1 := Fo.unf_le f
  rw [Fo.vis_length] at h1
  have := V.most
  omega
set_option maxRecDepth 100000 in
set_option maxHeartbeats 12800000 in
theorem formTimes_walk (h : FH) (f : Fo.Fm) (hwf : ∀ c ∈ f.cs, Fo.wf3 c) (hcap : h.cl ≤ h.cc) (hN : Nils h) (k : Int) (_hk : -9223372036854775808 ≤ k ∧ k ≤ 9223372036854775807) (t : Int) (_ht : -9223372036854775808 ≤ t ∧ t ≤ 9223372036854775807) (w : World) (hS : SlF w h f) :
    Calls Try.prog 8 #[.agg #[.int .i64 h.n, .slice h.R h.rl h.rc, .slice h.E h.el h.ec, .int .i64 h.ja, .int .i64 h.jt, .int .i64 h.jf, .slice h.C h.cl h.cc], .int .i64 k, .int .i64 t] w fun e w' => e = .returned (.bool true) ∧ Below w.heap.size w w' := by
  have HWF := Lib.hid hwf; have HCAP := Lib.hid hcap; have HNN := Lib.hid hN
  have HS := Lib.hid hS
  have Q := FB.new w h
  have B := (Below.refl w.heap.size w).alloc (Nat.le_refl _) (.cells #[.int .i64 h.n, .slice h.R h.rl h.rc, .slice h.E h.el h.ec, .int .i64 h.ja, .int .i64 h.jt, .int .i64 h.jf, .slice h.C h.cl h.cc] 28)
  clear hS hwf hcap hN
  go_enter Try.func8, Try.ntmps8
  go_wp2_with fail
  refine (head_any _).mono ?_; rintro e w2 ⟨rfl, hb⟩
  replace Q := Q.below hb; replace B := B.trans (hb.mono B.size); clear hb
  have q0 := Q.c0; have q1 := Q.c1; have q2 := Q.c2; have q3 := Q.c3; have q4 := Q.c4; have q5 := Q.c5; have q6 := Q.c6; have ql := Q.lt
  go_wp2_with fail
  clear q0 q1 q2 q3 q4 q5 q6 ql
  obtain ⟨u, hu⟩ : ∃ u : Bool, u = true ↔ fewH h ∧ Fo.Val f := ⟨@decide _ (Classical.propDecidable _), @decide_eq_true_iff _ (Classical.propDecidable _)⟩
  have HU := Lib.hid hu
  clear hu
  refine (lusable_is h f u HU.out HCAP.out _ (HS.out.below B)).mono ?_; rintro e w3 ⟨rfl, hb⟩
  replace Q := Q.below hb; replace B := B.trans (hb.mono B.size); clear hb
  cases u with
  | false =>
    go_wp2_with fail
    go_ret
    exact ⟨rfl, B⟩
  | true =>
  have HV := Lib.hid (HU.out.1 rfl).2
  have q0 := Q.c0; have q1 := Q.c1; have q2 := Q.c2; have q3 := Q.c3; have q4 := Q.c4; have q5 := Q.c5; have q6 := Q.c6; have ql := Q.lt
  go_wp2_with fail
  clear q0 q1 q2 q3 q4 q5 q6 ql
  by_cases hk : 0 ≤ k ∧ k ≤ (h.rl : Int) - 1
  case neg =>
    refine (wTimes_four h f k t HV.out hk HWF.out _ (HS.out.below B)).mono ?_; rintro e w4 ⟨hb, h', rfl, FR⟩
    obtain rfl : h' = .zero := FR.no (by decide)
    replace Q := Q.below hb; replace B := B.trans (hb.mono B.size); clear hb
    go_wp2_with fail
    have B5 := B.alloc B.size (.cells #[.int .i64 0, .slice none 0 0, .slice none 0 0, .int .i64 0, .int .i64 0, .int .i64 0, .slice none 0 0] 28)
    refine (rsameF_is .zero .zero ⟨0, [], [], 0, 0, 0, []⟩ ⟨0, [], [], 0, 0, 0, []⟩ true ⟨fun _ => rfl, fun _ => rfl⟩ (Nat.zero_le _) (Nat.zero_le _) (Nat.zero_le _) _ (SlF.zero _) (SlF.zero _)).mono ?_; rintro e w5 ⟨rfl, hb⟩
    have B6 := B5.trans (hb.mono B5.size)
    go_wp2_with fail
    go_ret
    exact ⟨rfl, B6⟩
  case pos =>
  by_cases ht : 1 ≤ t ∧ t ≤ 9
  case neg =>
    refine (wTimes_one h f k t HV.out hk ht HWF.out _ (HS.out.below B)).mono ?_; rintro e w4 ⟨hb, h', rfl, FR⟩
    obtain rfl : h' = .zero := FR.no (by decide)
    replace Q := Q.below hb; replace B := B.trans (hb.mono B.size); clear hb
    go_wp2_with fail
    have B5 := B.alloc B.size (.cells #[.int .i64 0, .slice none 0 0, .slice none 0 0, .int .i64 0, .int .i64 0, .int .i64 0, .slice none 0 0] 28)
    refine (rsameF_is .zero .zero ⟨0, [], [], 0, 0, 0, []⟩ ⟨0, [], [], 0, 0, 0, []⟩ true ⟨fun _ => rfl, fun _ => rfl⟩ (Nat.zero_le _) (Nat.zero_le _) (Nat.zero_le _) _ (SlF.zero _) (SlF.zero _)).mono ?_; rintro e w5 ⟨rfl, hb⟩
    have B6 := B5.trans (hb.mono B5.size)
    go_wp2_with fail
    go_ret
    exact ⟨rfl, B6⟩
  case pos =>
  obtain ⟨m, rfl⟩ : ∃ m : Nat, k = m := ⟨k.toNat, by omega⟩
  have hm : m < h.rl := by omega
  by_cases hz : (Fo.whl (Fo.setC f m t)).length ≤ 20000
  case neg =>
    refine (wTimes_two h f m t HV.out hm ht (by omega) HNN.out HWF.out _ (HS.out.below B)).mono ?_; rintro e w4 ⟨hb, h', rfl, FR⟩
    obtain rfl : h' = .zero := FR.no (by decide)
    replace Q := Q.below hb; replace B := B.trans (hb.mono B.size); clear hb
    go_wp2_with fail
    have B5 := B.alloc B.size (.cells #[.int .i64 0, .slice none 0 0, .slice none 0 0, .int .i64 0, .int .i64 0, .int .i64 0, .slice none 0 0] 28)
    refine (rsameF_is .zero .zero ⟨0, [], [], 0, 0, 0, []⟩ ⟨0, [], [], 0, 0, 0, []⟩ true ⟨fun _ => rfl, fun _ => rfl⟩ (Nat.zero_le _) (Nat.zero_le _) (Nat.zero_le _) _ (SlF.zero _) (SlF.zero _)).mono ?_; rintro e w5 ⟨rfl, hb⟩
    have B6 := B5.trans (hb.mono B5.size)
    go_wp2_with fail
    go_ret
    exact ⟨rfl, B6⟩
  case pos =>
  refine (wTimes_ok h f m t HV.out hm ht hz HNN.out HWF.out _ (HS.out.below B)).mono ?_; rintro e w4 ⟨hb, h', rfl, FW4⟩
  replace Q := Q.below hb; replace B := B.trans (hb.mono B.size); clear hb
  have HV2 := Lib.hid (HV.out.setC (k := m) ht hz)
  have hml : m < f.rs.length := by have := HS.out.rl; omega
  have HTK := Lib.hid (Fo.times_kept (t := t) hml (by have := Fo.chR_all (Int.le_refl 0) HV.out.rs _ (Fo.at3_mem hml); exact this.2.2.1))
  obtain ⟨bb, off, hE, hbb, hcc⟩ := (HS.out.below B).sr (by omega)
  have X := hcc m hml
  have HSR : Hid (SlF w {h with R := some ⟨bb, off, none⟩} f) := Lib.hid (by rw [← hE]; exact HS.out)
  obtain ⟨x, hx⟩ : ∃ x, Fo.at3 f.rs m = x := ⟨_, rfl⟩
  rw [hx] at X HTK
  have G := ((FB.new w4 h').alloc (.cells #[.int .i64 x.a, .int .i64 x.b, .int .i64 x.c] 54)).alloc (.cells #[.int .i64 x.a, .int .i64 x.b, .int .i64 0] 32)
  have CT := TB.new ((w4.alloc (.cells #[.int .i64 h'.n, .slice h'.R h'.rl h'.rc, .slice h'.E h'.el h'.ec, .int .i64 h'.ja, .int .i64 h'.jt, .int .i64 h'.jf, .slice h'.C h'.cl h'.cc] 28)).alloc (.cells #[.int .i64 x.a, .int .i64 x.b, .int .i64 x.c] 54)) ⟨x.a, x.b, 0⟩ 32
  rw [World.size_alloc, World.size_alloc] at CT
  have HF4 := Lib.hid (((FW4.s.alloc (.cells #[.int .i64 h'.n, .slice h'.R h'.rl h'.rc, .slice h'.E h'.el h'.ec, .int .i64 h'.ja, .int .i64 h'.jt, .int .i64 h'.jf, .slice h'.C h'.cl h'.cc] 28)).alloc (.cells #[.int .i64 x.a, .int .i64 x.b, .int .i64 x.c] 54)).alloc (.cells #[.int .i64 x.a, .int .i64 x.b, .int .i64 0] 32))
  have B7 := ((B.alloc B.size (.cells #[.int .i64 h'.n, .slice h'.R h'.rl h'.rc, .slice h'.E h'.el h'.ec, .int .i64 h'.ja, .int .i64 h'.jt, .int .i64 h'.jf, .slice h'.C h'.cl h'.cc] 28)).alloc (by have := B.size; simp; omega) (.cells #[.int .i64 x.a, .int .i64 x.b, .int .i64 x.c] 54)).alloc (by have := B.size; simp; omega) (.cells #[.int .i64 x.a, .int .i64 x.b, .int .i64 0] 32)
  have Q7 := ((Q.alloc (.cells #[.int .i64 h'.n, .slice h'.R h'.rl h'.rc, .slice h'.E h'.el h'.ec, .int .i64 h'.ja, .int .i64 h'.jt, .int .i64 h'.jf, .slice h'.C h'.cl h'.cc] 28)).alloc (.cells #[.int .i64 x.a, .int .i64 x.b, .int .i64 x.c] 54)).alloc (.cells #[.int .i64 x.a, .int .i64 x.b, .int .i64 0] 32)
  obtain ⟨c0, c1, c2⟩ := X
  have hm1 : (m : Int) < (h.rl : Int) := by omega
  have hm2 : ¬ (m : Int) < 0 := by omega
  have hm3 : ¬ (h.rl : Int) ≤ (m : Int) := by omega
  clear hcc hx hz hk FW4
  have q0 := Q.c0; have q1 := Q.c1; have q2 := Q.c2; have q3 := Q.c3; have q4 := Q.c4; have q5 := Q.c5; have q6 := Q.c6; have ql := Q.lt
  have r0 := Q7.c0; have r1 := Q7.c1; have r2 := Q7.c2; have r3 := Q7.c3; have r4 := Q7.c4; have r5 := Q7.c5; have r6 := Q7.c6; have rl := Q7.lt
  go_wp2_with fail
  clear q0 q1 q2 q3 q4 q5 q6 ql
  clear r0 r1 r2 r3 r4 r5 r6 rl
  clear c0 c1 c2 Q B
  refine (wUnfold_is {h with R := some ⟨bb, off, none⟩} f HV.out HWF.out _ (HSR.out.below B7)).mono ?_; rintro e w8 ⟨hb, uv, rfl, OV⟩
  have HN1 := Lib.hid (unf_max HV.out)
  obtain ⟨l1, hl1⟩ : ∃ l, Fo.unf f = l := ⟨_, rfl⟩
  rw [hl1] at OV HTK HN1
  obtain ⟨-, LA, lc, rfl, SL1, -⟩ := own_V OV
  replace G := G.below hb; replace CT := CT.below hb
  have HF8 := Lib.hid (HF4.out.below hb)
  replace B7 := B7.trans (hb.mono B7.size)
  clear hb OV hl1 Q7 HF4
  have g0 := G.c0; have g1 := G.c1; have g2 := G.c2; have g3 := G.c3; have g4 := G.c4; have g5 := G.c5; have g6 := G.c6; have gl := G.lt
  go_wp2_with fail
  clear g0 g1 g2 g3 g4 g5 g6 gl
  refine (wUnfold_is h' (Fo.setC f m t) HV2.out HWF.out _ HF8.out).mono ?_; rintro e w9 ⟨hb, uv, rfl, OV⟩
  have HN2 := Lib.hid (unf_max HV2.out)
  obtain ⟨l2, hl2⟩ : ∃ l, Fo.unf (Fo.setC f m t) = l := ⟨_, rfl⟩
  rw [hl2] at OV HTK HN2
  obtain ⟨-, MA, mc, rfl, SL2, -⟩ := own_V OV
  replace SL1 := SL1.below hb
  replace CT := CT.below hb
  replace B7 := B7.trans (hb.mono B7.size)
  clear hb OV hl2 G HF8
  have HKE : Hid (Fo.kpt [⟨x.a, x.b, 0⟩] l1 l1.length = Fo.kpt [⟨x.a, x.b, 0⟩] l2 l2.length) := Lib.hid (by rw [Fo.kpt_all _ _ rfl, Fo.kpt_all _ _ rfl]; exact HTK.out.symm)
  have hkl : (Fo.kpt [⟨x.a, x.b, 0⟩] l1 l1.length).length ≤ 1000000 := by have h1 := Fo.kpt_len [⟨x.a, x.b, 0⟩] l1 l1.length; have := HN1.out; omega
  obtain ⟨k1, hk1⟩ : ∃ k1, Fo.kpt [⟨x.a, x.b, 0⟩] l1 l1.length = k1 := ⟨_, rfl⟩
  have HK1 := Lib.hid hk1
  have HK2 : Hid (Fo.kpt [⟨x.a, x.b, 0⟩] l2 l2.length = k1) := Lib.hid (by rw [← HKE.out]; exact hk1)
  rw [hk1] at hkl
  have HKL := Lib.hid hkl; have HSL1 := Lib.hid SL1; have HSL2 := Lib.hid SL2; have HB7 := Lib.hid B7
  clear hk1 hkl SL1 SL2 B7
  have t0 := fun y : PvW (tmC w9 k1 k1) => (tmC.below y.h).cell (p := ⟨w4.heap.size + 1 + 1, 0, none⟩) CT.lt |>.trans CT.c0
  have t1 := fun y : PvW (tmC w9 k1 k1) => (tmC.below y.h).cell (p := ⟨w4.heap.size + 1 + 1, 1, none⟩) CT.lt |>.trans CT.c1
  have t2 := fun y : PvW (tmC w9 k1 k1) => (tmC.below y.h).cell (p := ⟨w4.heap.size + 1 + 1, 2, none⟩) CT.lt |>.trans CT.c2
  have hne : Nonempty (PvW (tmC w9 k1 k1)) := PvW.there (w := w9.drew) (Below.refl _ _).drew
  clear CT
  go_wp2_with fail
  refine region_pv (V := fun _ _ => undef) (cs := [12, 15, 16]) (Cv := tmC w9 k1 k1) 18 (by kernel_rfl) (by kernel_rfl) (by kernel_rfl) (Below.refl _ _).drew ?_
  simp only [List.take_succ_cons, List.take_zero, List.drop_succ_cons, List.drop_zero]
  iterate 12 (refine pv_quiet (by decide) rfl rfl ?_; intro K' hK'; go_big_quiet_op; go_big_quiet_on)
  refine pv_enter (f := 27) (args := #[.slice LA l1.length lc, .agg #[.int .i64 x.a, .int .i64 x.b, .int .i64 0]]) rfl rfl (fun w' hw' => ?_) (fun w' hw' => ?_) ?_
  · simp [go_sem]
  · have hb' : Below w9.heap.size w9 w' := hw'
    refine (lkept_is l1 l1.length lc LA ⟨x.a, x.b, 0⟩ rfl (by have := HN1.out; omega) _ (HSL1.out.below hb')).mono ?_
    rintro e wa ⟨hb2, v, rfl, OK⟩
    rw [HK1.out] at OK
    obtain ⟨-, A1, cp1, rfl, S1, -⟩ := own_V OK
    exact ⟨_, rfl, hb'.trans (hb2.mono hb'.size), A1, cp1, rfl, S1⟩
  rintro _ ⟨_, _, A1, cp1, rfl, -⟩
  simp only [Act.put, List.setIfInBounds_toArray, List.set_cons_succ, List.set_cons_zero]
  iterate 2 (refine pv_quiet (by decide) rfl rfl ?_; intro K' hK'; go_big_quiet_op; go_big_quiet_on)
  refine pv_enter (f := 27) (args := #[.slice MA l2.length mc, .agg #[.int .i64 x.a, .int .i64 x.b, .int .i64 0]]) rfl rfl (fun w' hw' => ?_) (fun w' hw' => ?_) ?_
  · simp [go_sem]
  · obtain ⟨hb', A3, cp3, e3, S3⟩ := hw'
    cases e3
    refine (lkept_is l2 l2.length mc MA ⟨x.a, x.b, 0⟩ rfl (by have := HN2.out; omega) _ (HSL2.out.below hb')).mono ?_
    rintro e wa ⟨hb2, v, rfl, OK⟩
    rw [HK2.out] at OK
    obtain ⟨-, A2, cp2, rfl, S2, -⟩ := own_V OK
    exact ⟨_, rfl, hb'.trans (hb2.mono hb'.size), ⟨A1, cp1, rfl, S3.below hb2⟩, A2, cp2, rfl, S2⟩
  rintro _ ⟨_, _, _, A2, cp2, rfl, -⟩
  simp only [Act.put, List.setIfInBounds_toArray, List.set_cons_succ, List.set_cons_zero]
  refine pv_enter (f := 15) (args := #[.slice A1 k1.length cp1, .slice A2 k1.length cp2]) rfl rfl (fun w' hw' => ?_) (fun w' hw' => ?_) ?_
  · simp [go_sem]
  · obtain ⟨hb', ⟨A3, cp3, e3, S3⟩, A4, cp4, e4, S4⟩ := hw'
    cases e3; cases e4
    refine (rsameV_is k1 k1 true _ _ _ _ _ _ ⟨fun _ => rfl, fun _ => rfl⟩ rfl rfl HKL.out _ S3 S4).mono ?_
    rintro e wa ⟨rfl, hb2⟩
    exact ⟨_, rfl, hb'.trans (hb2.mono hb'.size), rfl⟩
  rintro _ ⟨_, _, rfl⟩
  simp only [Act.put, List.setIfInBounds_toArray, List.set_cons_succ, List.set_cons_zero]
  refine pv_quiet (by decide) rfl rfl ?_; intro K' hK'; go_big_quiet_op; go_big_quiet_on
  rintro wz hwz
  have BZ := HB7.out.trans (hwz.1.mono HB7.out.size)
  clear hwz t0 t1 t2 hne
  go_wp2_with fail
  go_ret
  exact ⟨rfl, BZ⟩
end Go.Proofs.Ytakbpgljbbkmkaa
