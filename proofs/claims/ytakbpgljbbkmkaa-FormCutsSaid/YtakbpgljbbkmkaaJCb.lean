import Derived.Test.YtakbpgljbbkmkaaLu
import Derived.Test.YtakbpgljbbkmkaaWq
import Derived.Test.YtakbpgljbbkmkaaJCa
/- The walk of the laws' kept. -/
namespace Go.Proofs.Ytakbpgljbbkmkaa
open Go.RowKit

theorem Fo.lft_one {c : Fo.T3} {v : Fo.V2} : Fo.lft [c] v ↔ Fo.lvs c v := by unfold Fo.lft; simp
set_option maxRecDepth 100000 in
set_option maxHeartbeats 6400000 in
theorem lkept_is (l : List Fo.V2) (len cap : Nat) (A : Option Addr) (c : Fo.T3) (hl : l.length = len) (hmax : len ≤ 1000000) (w : World) (hL : SlV w A l) :
    Calls Try.prog 27 #[.slice A len cap, .agg #[.int .i64 c.a, .int .i64 c.b, .int .i64 c.c]] w fun e w' => Below w.heap.size w w' ∧ ∃ v, e = .returned v ∧ w'.ownsRow w.heap.size 30 2 v (Fo.kpt [c] l len).length (vV (Fo.kpt [c] l len)) := by
  obtain ⟨iv, hv0, hv1, hv2, hv3⟩ := info_parts infoVisit
  have HIV := Lib.hid (And.intro hv0 (And.intro hv1 (And.intro hv2 hv3)))
  have HN := Lib.hid hl; have HL := Lib.hid (hL.alloc (.cells #[.int .i64 c.a, .int .i64 c.b, .int .i64 c.c] 32))
  have HB := Lib.hid ((Below.refl w.heap.size w).alloc (Nat.le_refl _) (.cells #[.int .i64 c.a, .int .i64 c.b, .int .i64 c.c] 32))
  have HT := Lib.hid (TB.new w c 32)
  have hs1 : (w.alloc (.cells #[.int .i64 c.a, .int .i64 c.b, .int .i64 c.c] 32)).heap.size = w.heap.size + 1 := World.size_alloc _ _
  obtain ⟨w1, hw1⟩ : ∃ w1, w.alloc (.cells #[.int .i64 c.a, .int .i64 c.b, .int .i64 c.c] 32) = w1 := ⟨_, rfl⟩
  rw [hw1] at HL HB HT hs1
  clear hl hL hv0 hv1 hv2 hv3
  go_enter Try.func27, Try.ntmps27
  go_wp2_with fail
  try rw [hw1]
  clear hw1
  go_loopw [5, 10] (fun s5 s10 wr => ∃ (i N : Nat), i ≤ len ∧ s10 = .int .i64 (i : Int) ∧ (Fo.kpt [c] l i).length = N ∧ Hid (wr.ownsRow w1.heap.size 30 2 s5 N (vV (Fo.kpt [c] l i))) ∧ Below w1.heap.size w1 wr) (fun _ s10 _ => len - (intOf s10).toNat)
  case atStart => exact ⟨0, 0, Nat.zero_le _, rfl, rfl, Lib.hid (World.ownsRow_nil _ _ _ _), Below.refl _ _⟩
  case round =>
    obtain ⟨i, N, hi, rfl, hNL, HOW, hR⟩ := hrel
    have HNL := Lib.hid hNL
    have hNi : N ≤ i := by rw [← hNL]; exact Fo.kpt_len _ _ _
    clear hNL
    by_cases hlt : i < len
    · have hil : i < l.length := by rw [HN.out]; exact hlt
      obtain ⟨b, off, rfl, hb, hc⟩ := HL.out (by omega)
      have X := (hc i hil).below hR hb
      obtain ⟨x, hx⟩ : ∃ x, atV l i = x := ⟨_, rfl⟩
      rw [hx] at X
      have HKS := Lib.hid (Fo.kpt_snoc [c] l i hil)
      rw [hx] at HKS
      have CT := HT.out.below hR
      have XA := At2.new wr x.b x.p 30
      have hkeep := (HOW.out.kept (below_grown ((Below.refl wr.heap.size wr).alloc (Nat.le_refl _) (.cells #[.int .i64 x.b, .int .i64 x.p] 30)) none) none_ne).kept (below_grown ((Below.refl _ (wr.alloc (.cells #[.int .i64 x.b, .int .i64 x.p] 30))).alloc (Nat.le_refl _) (.cells #[.int .i64 x.b, .int .i64 x.p] 30)) none) none_ne
      have HOA := Lib.hid (HOW.out.kept (below_grown ((Below.refl wr.heap.size wr).alloc (Nat.le_refl _) (.cells #[.int .i64 x.b, .int .i64 x.p] 30)) none) none_ne)
      have HRA := Lib.hid (hR.alloc hR.size (.cells #[.int .i64 x.b, .int .i64 x.p] 30))
      have hRA := (hR.alloc hR.size (.cells #[.int .i64 x.b, .int .i64 x.p] 30)).alloc (by have := hR.size; simp; omega) (.cells #[.int .i64 x.b, .int .i64 x.p] 30)
      have hnew := cell_two_new (wr.alloc (.cells #[.int .i64 x.b, .int .i64 x.p] 30)) (.int .i64 x.b) (.int .i64 x.p) 30
      rw [World.size_alloc] at hnew
      have hsz := hR.size
      obtain ⟨c0, c1⟩ := X
      have t0 := CT.c0; have t1 := CT.c1; have t2 := CT.c2; have tl := CT.lt
      have x0 := XA.c0; have x1 := XA.c1; have xl := XA.lt
      have hi1 : (i : Int) < (len : Int) := by omega
      clear hc hx hil CT XA
      by_cases h1 : x.b < c.a
      case pos =>
        have HK2 : Hid (Fo.kpt [c] l (i + 1) = Fo.kpt [c] l i ++ [x]) := Lib.hid (by rw [HKS.out, if_neg (fun hh => (fun hv : Fo.lvs c x => by have := hv.1.1; omega) (Fo.lft_one.1 hh))])
        go_wp2_with (first | (at_builtin; refine wpList_append_own _ rfl _ _ 35 rfl w1.heap.size 30 iv (.agg #[.int .i64 0, .int .i64 0]) 2 16 Try.underlying35 HIV.out.1 HIV.out.2.1 HIV.out.2.2.1 HIV.out.2.2.2 rfl (by decide) _ N _ rfl hkeep ⟨wr.heap.size + 1, 0, none⟩ 1 1 [.int .i64 x.b, .int .i64 x.p] rfl rfl hnew (fun u hu => by simp at hu; rcases hu with rfl | rfl <;> rfl) (by unfold maxLen; omega) (by omega) (by simp; omega) ?_; intro v5 w5 hown5 hgrow5 hnil5; have HR5 := Lib.hid (hRA.grown hgrow5 hRA.size (own_ne hkeep)); have HO5 := Lib.hid hown5; clear hown5 hgrow5 hnil5 hkeep hRA hnew) | fail)
        go_roundw
        case rel => exact ⟨i + 1, N + 1, by omega, by simp, by rw [HK2.out, List.length_append, HNL.out]; rfl, Lib.hid (by rw [HK2.out, vV_app, vV_one]; exact HO5.out), HR5.out⟩
        case measure => simp [intOf]; omega
      case neg =>
        by_cases h2 : c.b ≤ x.b
        case pos =>
          have HK2 : Hid (Fo.kpt [c] l (i + 1) = Fo.kpt [c] l i ++ [x]) := Lib.hid (by rw [HKS.out, if_neg (fun hh => (fun hv : Fo.lvs c x => by have := hv.1.2; omega) (Fo.lft_one.1 hh))])
          go_wp2_with (first | (at_builtin; refine wpList_append_own _ rfl _ _ 35 rfl w1.heap.size 30 iv (.agg #[.int .i64 0, .int .i64 0]) 2 16 Try.underlying35 HIV.out.1 HIV.out.2.1 HIV.out.2.2.1 HIV.out.2.2.2 rfl (by decide) _ N _ rfl hkeep ⟨wr.heap.size + 1, 0, none⟩ 1 1 [.int .i64 x.b, .int .i64 x.p] rfl rfl hnew (fun u hu => by simp at hu; rcases hu with rfl | rfl <;> rfl) (by unfold maxLen; omega) (by omega) (by simp; omega) ?_; intro v5 w5 hown5 hgrow5 hnil5; have HR5 := Lib.hid (hRA.grown hgrow5 hRA.size (own_ne hkeep)); have HO5 := Lib.hid hown5; clear hown5 hgrow5 hnil5 hkeep hRA hnew) | fail)
          go_roundw
          case rel => exact ⟨i + 1, N + 1, by omega, by simp, by rw [HK2.out, List.length_append, HNL.out]; rfl, Lib.hid (by rw [HK2.out, vV_app, vV_one]; exact HO5.out), HR5.out⟩
          case measure => simp [intOf]; omega
        case neg =>
          by_cases h3 : c.c = 0
          case pos =>
            have e3 : (c.c != 0) = false := by simp [h3]
            have HV3 : Hid (Fo.lvs c x) := Lib.hid ⟨⟨by omega, by omega⟩, .inl h3⟩
            clear h3
            have HK2 : Hid (Fo.kpt [c] l (i + 1) = Fo.kpt [c] l i) := Lib.hid (by rw [HKS.out, if_pos (Fo.lft_one.2 HV3.out), List.append_nil])
            clear hkeep hRA hnew
            go_wp2_with fail
            go_roundw
            case rel => exact ⟨i + 1, N, by omega, by simp, by rw [HK2.out]; exact HNL.out, Lib.hid (by rw [HK2.out]; exact HOA.out), HRA.out⟩
            case measure => simp [intOf]; omega
          case neg =>
            have e3 : (c.c != 0) = true := by simpa using h3
            by_cases h4 : c.c = x.p
            case pos =>
              have e4 : (c.c != x.p) = false := by simp [h4]
              have HV3 : Hid (Fo.lvs c x) := Lib.hid ⟨⟨by omega, by omega⟩, .inr h4⟩
              clear h4
              have HK2 : Hid (Fo.kpt [c] l (i + 1) = Fo.kpt [c] l i) := Lib.hid (by rw [HKS.out, if_pos (Fo.lft_one.2 HV3.out), List.append_nil])
              clear hkeep hRA hnew
              go_wp2_with fail
              go_roundw
              case rel => exact ⟨i + 1, N, by omega, by simp, by rw [HK2.out]; exact HNL.out, Lib.hid (by rw [HK2.out]; exact HOA.out), HRA.out⟩
              case measure => simp [intOf]; omega
            case neg =>
              have e4 : (c.c != x.p) = true := by simpa using h4
              have HV3 : Hid (¬ Fo.lvs c x) := Lib.hid (fun hv => hv.2.elim h3 h4)
              have HK2 : Hid (Fo.kpt [c] l (i + 1) = Fo.kpt [c] l i ++ [x]) := Lib.hid (by rw [HKS.out, if_neg (fun hh => HV3.out (Fo.lft_one.1 hh))])
              go_wp2_with (first | (at_builtin; refine wpList_append_own _ rfl _ _ 35 rfl w1.heap.size 30 iv (.agg #[.int .i64 0, .int .i64 0]) 2 16 Try.underlying35 HIV.out.1 HIV.out.2.1 HIV.out.2.2.1 HIV.out.2.2.2 rfl (by decide) _ N _ rfl hkeep ⟨wr.heap.size + 1, 0, none⟩ 1 1 [.int .i64 x.b, .int .i64 x.p] rfl rfl hnew (fun u hu => by simp at hu; rcases hu with rfl | rfl <;> rfl) (by unfold maxLen; omega) (by omega) (by simp; omega) ?_; intro v5 w5 hown5 hgrow5 hnil5; have HR5 := Lib.hid (hRA.grown hgrow5 hRA.size (own_ne hkeep)); have HO5 := Lib.hid hown5; clear hown5 hgrow5 hnil5 hkeep hRA hnew) | fail)
              go_roundw
              case rel => exact ⟨i + 1, N + 1, by omega, by simp, by rw [HK2.out, List.length_append, HNL.out]; rfl, Lib.hid (by rw [HK2.out, vV_app, vV_one]; exact HO5.out), HR5.out⟩
              case measure => simp [intOf]; omega
    · obtain rfl : i = len := by omega
      go_wp2_with fail
      go_ret
      refine ⟨HB.out.trans (hR.mono HB.out.size), _, rfl, ?_⟩
      rw [HNL.out]
      exact own_lessK HOW.out (by omega)
end Go.Proofs.Ytakbpgljbbkmkaa

/- The mathematics of FormCuts: a further cut is one more filter; the order of two plays no part. -/
namespace Go.Proofs.Ytakbpgljbbkmkaa
open Go.RowKit

namespace Fo
/-- A form with a further cut. -/
def addC (f : Fm) (c : T3) : Fm := {f with cs := f.cs ++ [c]}
theorem prt_cs (f : Fm) (cs : List T3) (again : Bool) (hi : Int) : ∀ (k : Nat) (bar : Int), prt {f with cs := cs} again hi k bar = prt f again hi k bar
  | 0, _ => by unfold prt; rfl
  | k + 1, bar => by
    unfold prt
    rw [prt_cs f cs again hi k]
    rfl
theorem whl_addC (f : Fm) (c : T3) : whl (addC f c) = whl f := by
  unfold whl par addC
  simp only [prt_cs]
theorem lft_app (cs : List T3) (c : T3) (v : V2) : lft (cs ++ [c]) v ↔ lft cs v ∨ lft [c] v := by
  constructor
  · rintro ⟨x, hx, h⟩
    rcases List.mem_append.1 hx with hx | hx
    · exact .inl ⟨x, hx, h⟩
    · exact .inr ⟨x, hx, h⟩
  · rintro (⟨x, hx, h⟩ | ⟨x, hx, h⟩)
    · exact ⟨x, List.mem_append_left _ hx, h⟩
    · exact ⟨x, List.mem_append_right _ hx, h⟩
theorem unf_addC (f : Fm) (c : T3) : unf (addC f c) = (unf f).filter fun v => !decide (lft [c] v) := by
  unfold unf
  rw [whl_addC, List.filter_filter]
  congr 1
  funext v
  show (!decide (lft (f.cs ++ [c]) v)) = _
  rw [decide_eq_decide.2 (lft_app f.cs c v), Bool.decide_or, Bool.not_or, Bool.and_comm]
theorem unf_swap (f : Fm) (c d : T3) : unf (addC (addC f c) d) = unf (addC (addC f d) c) := by
  rw [unf_addC, unf_addC, unf_addC, unf_addC, List.filter_filter, List.filter_filter]
  congr 1
  funext v
  exact Bool.and_comm _ _
theorem Val.addC {f : Fm} (V : Val f) {c : T3} (hc : okC f.n c) (hn : c ∉ f.cs) (hl : f.cs.length < 100) : Val (addC f c) := by
  refine ⟨V.n, V.rl, V.rs, V.el, V.es, V.j, by show (f.cs ++ [c]).length ≤ 100; rw [List.length_append]; simp; omega, fun x hx => ?_, ?_, by rw [whl_addC]; exact V.most⟩
  · rcases List.mem_append.1 hx with hx | hx
    · exact V.cs x hx
    · rw [List.mem_singleton.1 hx]; exact hc
  · show (f.cs ++ [c]).Nodup
    rw [List.nodup_append]
    refine ⟨V.cd, by simp, fun a ha b hb => ?_⟩
    rw [List.mem_singleton.1 hb]
    rintro rfl
    exact hn ha
end Fo
end Go.Proofs.Ytakbpgljbbkmkaa

/- Cut of a well-formed form: all its answers in one contract. -/
namespace Go.Proofs.Ytakbpgljbbkmkaa
open Go.RowKit

/-- What Cut answers. -/
def CutR (h : FH) (f : Fo.Fm) (c : Fo.T3) (h' : FH) (e : Int) (w' : World) : Prop :=
  (e = 0 ∧ (Fo.okC h.n c ∧ c ∉ f.cs ∧ h.cl < 100) ∧ FormW (Fo.addC f c) h' w') ∨ ((e = 1 ∨ e = 5 ∨ e = 2) ∧ h' = .zero ∧ ¬ (Fo.okC h.n c ∧ c ∉ f.cs ∧ h.cl < 100))
theorem wCut_any (h : FH) (f : Fo.Fm) (c : Fo.T3) (V : Fo.Val f) (hN : Nils h) (hwf : ∀ c ∈ f.cs, Fo.wf3 c) (w : World) (hS : SlF w h f) :
    Calls Try.prog 18 #[.agg #[.int .i64 h.n, .slice h.R h.rl h.rc, .slice h.E h.el h.ec, .int .i64 h.ja, .int .i64 h.jt, .int .i64 h.jf, .slice h.C h.cl h.cc], .agg #[.int .i64 c.a, .int .i64 c.b, .int .i64 c.c]] w fun y w' => Below w.heap.size w w' ∧ ∃ (h' : FH) (e : Int), y = .returned (.tuple #[.agg #[.int .i64 h'.n, .slice h'.R h'.rl h'.rc, .slice h'.E h'.el h'.ec, .int .i64 h'.ja, .int .i64 h'.jt, .int .i64 h'.jf, .slice h'.C h'.cl h'.cc], .int .i64 e]) ∧ CutR h f c h' e w' := by
  have hcl : h.cl ≤ 100 := by rw [← hS.cl]; exact V.cl
  by_cases h1 : Fo.okC h.n c
  · by_cases h2 : Fo.cix f.cs c < 0
    · by_cases h3 : h.cl < 100
      · refine (wCut_ok h f c V h1 h2 h3 hN hwf w hS).mono ?_
        rintro y w' ⟨hb, h', rfl, hw⟩
        exact ⟨hb, h', 0, rfl, .inl ⟨rfl, ⟨h1, Fo.cix_neg.1 h2, h3⟩, hw⟩⟩
      · refine (wCut_two h f c V h1 h2 (by omega) hwf w hS).mono ?_
        rintro y w' ⟨hb, h', rfl, hw⟩
        exact ⟨hb, h', 2, rfl, .inr ⟨.inr (.inr rfl), hw.no (by decide), fun k => h3 k.2.2⟩⟩
    · refine (wCut_five h f c V h1 (by omega) hwf w hS).mono ?_
      rintro y w' ⟨hb, h', rfl, hw⟩
      exact ⟨hb, h', 5, rfl, .inr ⟨.inr (.inl rfl), hw.no (by decide), fun k => h2 (Fo.cix_neg.2 k.2.1)⟩⟩
  · refine (wCut_one h f c V h1 hwf w hS).mono ?_
    rintro y w' ⟨hb, h', rfl, hw⟩
    exact ⟨hb, h', 1, rfl, .inr ⟨.inl rfl, hw.no (by decide), fun k => h1 k.1⟩⟩
end Go.Proofs.Ytakbpgljbbkmkaa

/- The walk of the law FormCuts. -/
namespace Go.Proofs.Ytakbpgljbbkmkaa
open Go.RowKit

theorem cix_last {l : List Fo.T3} {c : Fo.T3} (h : c ∉ l) : Fo.cix (l ++ [c]) c = (l.length : Int) := by
  refine Fo.cix_first (by rw [List.length_append]; simp) ?_ (fun k hk e => h ?_)
  · unfold Fo.at3
    rw [List.getElem?_append_right (Nat.le_refl _)]
    simp
  · have e2 : Fo.at3 (l ++ [c]) k = Fo.at3 l k := by unfold Fo.at3; rw [List.getElem?_append_left hk]
    rw [← e, e2]
    exact Fo.at3_mem hk
theorem back_addC (f : Fo.Fm) (c : Fo.T3) : ({Fo.addC f c with cs := (Fo.addC f c).cs.eraseIdx f.cs.length} : Fo.Fm) = f := by
  have e : (f.cs ++ [c]).eraseIdx f.cs.length = f.cs := by rw [List.eraseIdx_append_of_length_le (Nat.le_refl _), Nat.sub_self]; simp
  show ({f with cs := (f.cs ++ [c]).eraseIdx f.cs.length} : Fo.Fm) = f
  rw [e]
theorem kpt_addC (f : Fo.Fm) (c : Fo.T3) : Fo.unf (Fo.addC f c) = Fo.kpt [c] (Fo.unf f) (Fo.unf f).length := by
  rw [Fo.unf_addC]
  unfold Fo.kpt
  rw [List.take_of_length_le (Nat.le_refl _)]
theorem unf_max' {f : Fo.Fm} (V : Fo.Val f) : (Fo.unf f).length ≤ 20000 := by
  have h1 : (Fo.unf f).length ≤ (Fo.vis (Fo.whl f)).length := List.length_filter_le _ _
  rw [Fo.vis_length] at h1
  have := V.most
  omega
theorem wf_addC {f : Fo.Fm} {c : Fo.T3} (h : ∀ x ∈ f.cs, Fo.wf3 x) (hc : Fo.wf3 c) : ∀ x ∈ (Fo.addC f c).cs, Fo.wf3 x := fun x hx => by
  rcases List.mem_append.1 hx with hx | hx
  · exact h x hx
  · rw [List.mem_singleton.1 hx]; exact hc
set_option maxRecDepth 100000 in
set_option maxHeartbeats 25600000 in
theorem formCuts_walk (h : FH) (f : Fo.Fm) (hwf : ∀ c ∈ f.cs, Fo.wf3 c) (hcap : h.cl ≤ h.cc) (hN : Nils h) (c : Fo.T3) (hwc : Fo.wf3 c) (d : Fo.T3) (hwd : Fo.wf3 d) (w : World) (hS : SlF w h f) :
    Calls Try.prog 6 #[.agg #[.int .i64 h.n, .slice h.R h.rl h.rc, .slice h.E h.el h.ec, .int .i64 h.ja, .int .i64 h.jt, .int .i64 h.jf, .slice h.C h.cl h.cc], .agg #[.int .i64 c.a, .int .i64 c.b, .int .i64 c.c], .agg #[.int .i64 d.a, .int .i64 d.b, .int .i64 d.c]] w fun e w' => e = .returned (.bool true) ∧ Below w.heap.size w w' := by
  have HWF := Lib.hid hwf; have HCAP := Lib.hid hcap; have HNN := Lib.hid hN; have HWC := Lib.hid hwc; have HWD := Lib.hid hwd
  have Q := ((FB.new w h).alloc (.cells #[.int .i64 c.a, .int .i64 c.b, .int .i64 c.c] 32)).alloc (.cells #[.int .i64 d.a, .int .i64 d.b, .int .i64 d.c] 32)
  have C := (TB.new (w.alloc (.cells #[.int .i64 h.n, .slice h.R h.rl h.rc, .slice h.E h.el h.ec, .int .i64 h.ja, .int .i64 h.jt, .int .i64 h.jf, .slice h.C h.cl h.cc] 28)) c 32).alloc (.cells #[.int .i64 d.a, .int .i64 d.b, .int .i64 d.c] 32)
  have D := TB.new ((w.alloc (.cells #[.int .i64 h.n, .slice h.R h.rl h.rc, .slice h.E h.el h.ec, .int .i64 h.ja, .int .i64 h.jt, .int .i64 h.jf, .slice h.C h.cl h.cc] 28)).alloc (.cells #[.int .i64 c.a, .int .i64 c.b, .int .i64 c.c] 32)) d 32
  rw [World.size_alloc] at C
  rw [World.size_alloc, World.size_alloc] at D
  have S := ((hS.alloc (.cells #[.int .i64 h.n, .slice h.R h.rl h.rc, .slice h.E h.el h.ec, .int .i64 h.ja, .int .i64 h.jt, .int .i64 h.jf, .slice h.C h.cl h.cc] 28)).alloc (.cells #[.int .i64 c.a, .int .i64 c.b, .int .i64 c.c] 32)).alloc (.cells #[.int .i64 d.a, .int .i64 d.b, .int .i64 d.c] 32)
  have B := (((Below.refl w.heap.size w).alloc (Nat.le_refl _) (.cells #[.int .i64 h.n, .slice h.R h.rl h.rc, .slice h.E h.el h.ec, .int .i64 h.ja, .int .i64 h.jt, .int .i64 h.jf, .slice h.C h.cl h.cc] 28)).alloc (by simp) (.cells #[.int .i64 c.a, .int .i64 c.b, .int .i64 c.c] 32)).alloc (by simp; omega) (.cells #[.int .i64 d.a, .int .i64 d.b, .int .i64 d.c] 32)
  clear hS hwf hcap hN hwc hwd
  go_enter Try.func6, Try.ntmps6
  go_wp2_with fail
  refine (head_any _).mono ?_; rintro e w2 ⟨rfl, hb⟩
  replace Q := Q.below hb; replace C := C.below hb; replace D := D.below hb; replace S := S.below hb; replace B := B.trans (hb.mono B.size); clear hb
  have q0 := Q.c0; have q1 := Q.c1; have q2 := Q.c2; have q3 := Q.c3; have q4 := Q.c4; have q5 := Q.c5; have q6 := Q.c6; have ql := Q.lt
  go_wp2_with fail
  clear q0 q1 q2 q3 q4 q5 q6 ql
  obtain ⟨u, hu⟩ : ∃ u : Bool, u = true ↔ fewH h ∧ Fo.Val f := ⟨@decide _ (Classical.propDecidable _), @decide_eq_true_iff _ (Classical.propDecidable _)⟩
  have HU := Lib.hid hu
  clear hu
  refine (lusable_is h f u HU.out HCAP.out _ S).mono ?_; rintro e w3 ⟨rfl, hb⟩
  replace Q := Q.below hb; replace C := C.below hb; replace D := D.below hb; replace S := S.below hb; replace B := B.trans (hb.mono B.size); clear hb
  cases u with
  | false =>
    go_wp2_with fail
    go_ret
    exact ⟨rfl, B⟩
  | true =>
  have HV := Lib.hid (HU.out.1 rfl).2
  have HMX := Lib.hid (unf_max' HV.out)
  have q0 := Q.c0; have q1 := Q.c1; have q2 := Q.c2; have q3 := Q.c3; have q4 := Q.c4; have q5 := Q.c5; have q6 := Q.c6; have ql := Q.lt
  go_wp2_with fail
  clear q0 q1 q2 q3 q4 q5 q6 ql
  refine (wUnfold_is h f HV.out HWF.out _ S).mono ?_; rintro e w4 ⟨hb, uv, rfl, OV⟩
  obtain ⟨-, LA, lc, rfl, L, -⟩ := own_V OV
  clear OV
  replace Q := Q.below hb; replace C := C.below hb; replace D := D.below hb; replace S := S.below hb; replace B := B.trans (hb.mono B.size); clear hb
  have q0 := Q.c0; have q1 := Q.c1; have q2 := Q.c2; have q3 := Q.c3; have q4 := Q.c4; have q5 := Q.c5; have q6 := Q.c6; have ql := Q.lt
  have c0 := C.c0; have c1 := C.c1; have c2 := C.c2; have cl := C.lt
  go_wp2_with fail
  clear q0 q1 q2 q3 q4 q5 q6 ql c0 c1 c2 cl
  refine (wCut_any h f c HV.out HNN.out HWF.out _ S).mono ?_; rintro e w5 ⟨hb, h1, e1, rfl, CR⟩
  replace Q := Q.below hb; replace C := C.below hb; replace D := D.below hb; replace L := L.below hb; replace S := S.below hb; replace B := B.trans (hb.mono B.size); clear hb
  rcases CR with ⟨rfl, HC1, FW1⟩ | ⟨he1, rfl, -⟩
  case inr =>
    have BE := B.alloc B.size (.cells #[.int .i64 0, .slice none 0 0, .slice none 0 0, .int .i64 0, .int .i64 0, .int .i64 0, .slice none 0 0] 28)
    rcases he1 with rfl | rfl | rfl
    all_goals
      go_wp2_with fail
      go_ret
      exact ⟨rfl, BE⟩
  case inl =>
  have HC1 := Lib.hid HC1
  have S1 := FW1.s
  have HF1 := Lib.hid (And.intro FW1.cap FW1.nil)
  have HV1 := Lib.hid (HV.out.addC (c := c) (by rw [S.n]; exact HC1.out.1) HC1.out.2.1 (by rw [S.cl]; exact HC1.out.2.2))
  have HWF1 := Lib.hid (wf_addC HWF.out HWC.out)
  have G := FB.new w5 h1
  clear FW1
  replace Q := Q.alloc (.cells #[.int .i64 h1.n, .slice h1.R h1.rl h1.rc, .slice h1.E h1.el h1.ec, .int .i64 h1.ja, .int .i64 h1.jt, .int .i64 h1.jf, .slice h1.C h1.cl h1.cc] 28); replace C := C.alloc (.cells #[.int .i64 h1.n, .slice h1.R h1.rl h1.rc, .slice h1.E h1.el h1.ec, .int .i64 h1.ja, .int .i64 h1.jt, .int .i64 h1.jf, .slice h1.C h1.cl h1.cc] 28); replace D := D.alloc (.cells #[.int .i64 h1.n, .slice h1.R h1.rl h1.rc, .slice h1.E h1.el h1.ec, .int .i64 h1.ja, .int .i64 h1.jt, .int .i64 h1.jf, .slice h1.C h1.cl h1.cc] 28); replace L := L.alloc (.cells #[.int .i64 h1.n, .slice h1.R h1.rl h1.rc, .slice h1.E h1.el h1.ec, .int .i64 h1.ja, .int .i64 h1.jt, .int .i64 h1.jf, .slice h1.C h1.cl h1.cc] 28); replace S := S.alloc (.cells #[.int .i64 h1.n, .slice h1.R h1.rl h1.rc, .slice h1.E h1.el h1.ec, .int .i64 h1.ja, .int .i64 h1.jt, .int .i64 h1.jf, .slice h1.C h1.cl h1.cc] 28); replace S1 := S1.alloc (.cells #[.int .i64 h1.n, .slice h1.R h1.rl h1.rc, .slice h1.E h1.el h1.ec, .int .i64 h1.ja, .int .i64 h1.jt, .int .i64 h1.jf, .slice h1.C h1.cl h1.cc] 28); replace B := B.alloc B.size (.cells #[.int .i64 h1.n, .slice h1.R h1.rl h1.rc, .slice h1.E h1.el h1.ec, .int .i64 h1.ja, .int .i64 h1.jt, .int .i64 h1.jf, .slice h1.C h1.cl h1.cc] 28)
  have q0 := Q.c0; have q1 := Q.c1; have q2 := Q.c2; have q3 := Q.c3; have q4 := Q.c4; have q5 := Q.c5; have q6 := Q.c6; have ql := Q.lt
  have c0 := C.c0; have c1 := C.c1; have c2 := C.c2; have cl := C.lt
  have g0 := G.c0; have g1 := G.c1; have g2 := G.c2; have g3 := G.c3; have g4 := G.c4; have g5 := G.c5; have g6 := G.c6; have gl := G.lt
  go_wp2_with fail
  clear q0 q1 q2 q3 q4 q5 q6 ql c0 c1 c2 cl g0 g1 g2 g3 g4 g5 g6 gl
  refine (wUnfold_is h1 (Fo.addC f c) HV1.out HWF1.out _ S1).mono ?_; rintro e w6 ⟨hb, uv, rfl, OV⟩
  rw [kpt_addC] at OV
  obtain ⟨-, MA, mc, rfl, M, -⟩ := own_V OV
  clear OV
  replace Q := Q.below hb; replace G := G.below hb; replace C := C.below hb; replace D := D.below hb; replace L := L.below hb; replace S := S.below hb; replace S1 := S1.below hb; replace B := B.trans (hb.mono B.size); clear hb
  have q0 := Q.c0; have q1 := Q.c1; have q2 := Q.c2; have q3 := Q.c3; have q4 := Q.c4; have q5 := Q.c5; have q6 := Q.c6; have ql := Q.lt
  have c0 := C.c0; have c1 := C.c1; have c2 := C.c2; have cl := C.lt
  have g0 := G.c0; have g1 := G.c1; have g2 := G.c2; have g3 := G.c3; have g4 := G.c4; have g5 := G.c5; have g6 := G.c6; have gl := G.lt
  go_wp2_with fail
  clear q0 q1 q2 q3 q4 q5 q6 ql c0 c1 c2 cl g0 g1 g2 g3 g4 g5 g6 gl
  refine (wOpen_ok h1 (Fo.addC f c) c f.cs.length HV1.out (cix_last HC1.out.2.1) HF1.out.2 HWF1.out _ S1).mono ?_; rintro e w7 ⟨hb, h2, rfl, FW2⟩
  rw [back_addC] at FW2
  replace Q := Q.below hb; replace G := G.below hb; replace C := C.below hb; replace D := D.below hb; replace L := L.below hb; replace M := M.below hb; replace S := S.below hb; replace S1 := S1.below hb; replace B := B.trans (hb.mono B.size); clear hb
  have S2 := FW2.s
  have K := FB.new w7 h2
  clear FW2
  replace Q := Q.alloc (.cells #[.int .i64 h2.n, .slice h2.R h2.rl h2.rc, .slice h2.E h2.el h2.ec, .int .i64 h2.ja, .int .i64 h2.jt, .int .i64 h2.jf, .slice h2.C h2.cl h2.cc] 28); replace G := G.alloc (.cells #[.int .i64 h2.n, .slice h2.R h2.rl h2.rc, .slice h2.E h2.el h2.ec, .int .i64 h2.ja, .int .i64 h2.jt, .int .i64 h2.jf, .slice h2.C h2.cl h2.cc] 28); replace C := C.alloc (.cells #[.int .i64 h2.n, .slice h2.R h2.rl h2.rc, .slice h2.E h2.el h2.ec, .int .i64 h2.ja, .int .i64 h2.jt, .int .i64 h2.jf, .slice h2.C h2.cl h2.cc] 28); replace D := D.alloc (.cells #[.int .i64 h2.n, .slice h2.R h2.rl h2.rc, .slice h2.E h2.el h2.ec, .int .i64 h2.ja, .int .i64 h2.jt, .int .i64 h2.jf, .slice h2.C h2.cl h2.cc] 28); replace L := L.alloc (.cells #[.int .i64 h2.n, .slice h2.R h2.rl h2.rc, .slice h2.E h2.el h2.ec, .int .i64 h2.ja, .int .i64 h2.jt, .int .i64 h2.jf, .slice h2.C h2.cl h2.cc] 28); replace M := M.alloc (.cells #[.int .i64 h2.n, .slice h2.R h2.rl h2.rc, .slice h2.E h2.el h2.ec, .int .i64 h2.ja, .int .i64 h2.jt, .int .i64 h2.jf, .slice h2.C h2.cl h2.cc] 28); replace S := S.alloc (.cells #[.int .i64 h2.n, .slice h2.R h2.rl h2.rc, .slice h2.E h2.el h2.ec, .int .i64 h2.ja, .int .i64 h2.jt, .int .i64 h2.jf, .slice h2.C h2.cl h2.cc] 28); replace S1 := S1.alloc (.cells #[.int .i64 h2.n, .slice h2.R h2.rl h2.rc, .slice h2.E h2.el h2.ec, .int .i64 h2.ja, .int .i64 h2.jt, .int .i64 h2.jf, .slice h2.C h2.cl h2.cc] 28); replace S2 := S2.alloc (.cells #[.int .i64 h2.n, .slice h2.R h2.rl h2.rc, .slice h2.E h2.el h2.ec, .int .i64 h2.ja, .int .i64 h2.jt, .int .i64 h2.jf, .slice h2.C h2.cl h2.cc] 28); replace B := B.alloc B.size (.cells #[.int .i64 h2.n, .slice h2.R h2.rl h2.rc, .slice h2.E h2.el h2.ec, .int .i64 h2.ja, .int .i64 h2.jt, .int .i64 h2.jf, .slice h2.C h2.cl h2.cc] 28)
  have q0 := Q.c0; have q1 := Q.c1; have q2 := Q.c2; have q3 := Q.c3; have q4 := Q.c4; have q5 := Q.c5; have q6 := Q.c6; have ql := Q.lt
  have g0 := G.c0; have g1 := G.c1; have g2 := G.c2; have g3 := G.c3; have g4 := G.c4; have g5 := G.c5; have g6 := G.c6; have gl := G.lt
  have k0 := K.c0; have k1 := K.c1; have k2 := K.c2; have k3 := K.c3; have k4 := K.c4; have k5 := K.c5; have k6 := K.c6; have kl := K.lt
  have c0 := C.c0; have c1 := C.c1; have c2 := C.c2; have cl := C.lt
  have d0 := D.c0; have d1 := D.c1; have d2 := D.c2; have dl := D.lt
  go_wp2_with fail
  clear q0 q1 q2 q3 q4 q5 q6 ql g0 g1 g2 g3 g4 g5 g6 gl k0 k1 k2 k3 k4 k5 k6 kl c0 c1 c2 cl d0 d1 d2 dl
  refine (lkept_is (Fo.unf f) (Fo.unf f).length lc LA c rfl (Nat.le_trans HMX.out (by decide)) _ L).mono ?_; rintro e w8 ⟨hb, v8, rfl, OV⟩
  obtain ⟨-, PA, pc, rfl, P, -⟩ := own_V OV
  clear OV
  replace Q := Q.below hb; replace G := G.below hb; replace K := K.below hb; replace C := C.below hb; replace D := D.below hb; replace L := L.below hb; replace M := M.below hb; replace S := S.below hb; replace S1 := S1.below hb; replace S2 := S2.below hb; replace B := B.trans (hb.mono B.size); clear hb
  have q0 := Q.c0; have q1 := Q.c1; have q2 := Q.c2; have q3 := Q.c3; have q4 := Q.c4; have q5 := Q.c5; have q6 := Q.c6; have ql := Q.lt
  have g0 := G.c0; have g1 := G.c1; have g2 := G.c2; have g3 := G.c3; have g4 := G.c4; have g5 := G.c5; have g6 := G.c6; have gl := G.lt
  have k0 := K.c0; have k1 := K.c1; have k2 := K.c2; have k3 := K.c3; have k4 := K.c4; have k5 := K.c5; have k6 := K.c6; have kl := K.lt
  have c0 := C.c0; have c1 := C.c1; have c2 := C.c2; have cl := C.lt
  have d0 := D.c0; have d1 := D.c1; have d2 := D.c2; have dl := D.lt
  go_wp2_with fail
  clear q0 q1 q2 q3 q4 q5 q6 ql g0 g1 g2 g3 g4 g5 g6 gl k0 k1 k2 k3 k4 k5 k6 kl c0 c1 c2 cl d0 d1 d2 dl
  refine (rsameV_is (Fo.kpt [c] (Fo.unf f) (Fo.unf f).length) (Fo.kpt [c] (Fo.unf f) (Fo.unf f).length) true _ _ _ _ _ _ ⟨fun _ => rfl, fun _ => rfl⟩ rfl rfl (Nat.le_trans (Nat.le_trans (Fo.kpt_len _ _ _) HMX.out) (by decide)) _ M P).mono ?_; rintro e w9 ⟨rfl, hb⟩
  replace Q := Q.below hb; replace G := G.below hb; replace K := K.below hb; replace C := C.below hb; replace D := D.below hb; replace L := L.below hb; replace M := M.below hb; replace P := P.below hb; replace S := S.below hb; replace S1 := S1.below hb; replace S2 := S2.below hb; replace B := B.trans (hb.mono B.size); clear hb
  clear M P L
  have q0 := Q.c0; have q1 := Q.c1; have q2 := Q.c2; have q3 := Q.c3; have q4 := Q.c4; have q5 := Q.c5; have q6 := Q.c6; have ql := Q.lt
  have g0 := G.c0; have g1 := G.c1; have g2 := G.c2; have g3 := G.c3; have g4 := G.c4; have g5 := G.c5; have g6 := G.c6; have gl := G.lt
  have k0 := K.c0; have k1 := K.c1; have k2 := K.c2; have k3 := K.c3; have k4 := K.c4; have k5 := K.c5; have k6 := K.c6; have kl := K.lt
  have c0 := C.c0; have c1 := C.c1; have c2 := C.c2; have cl := C.lt
  have d0 := D.c0; have d1 := D.c1; have d2 := D.c2; have dl := D.lt
  go_wp2_with fail
  clear q0 q1 q2 q3 q4 q5 q6 ql g0 g1 g2 g3 g4 g5 g6 gl k0 k1 k2 k3 k4 k5 k6 kl c0 c1 c2 cl d0 d1 d2 dl
  refine (rsameF_is h2 h f f true ⟨fun _ => rfl, fun _ => rfl⟩ (by have := HV.out.rl; have := S2.rl; omega) (by have := HV.out.el; have := S2.el; omega) (by have := HV.out.cl; have := S2.cl; omega) _ S2 S).mono ?_; rintro e w10 ⟨rfl, hb⟩
  replace Q := Q.below hb; replace G := G.below hb; replace K := K.below hb; replace C := C.below hb; replace D := D.below hb; replace S := S.below hb; replace S1 := S1.below hb; replace S2 := S2.below hb; replace B := B.trans (hb.mono B.size); clear hb
  clear S2 K
  have q0 := Q.c0; have q1 := Q.c1; have q2 := Q.c2; have q3 := Q.c3; have q4 := Q.c4; have q5 := Q.c5; have q6 := Q.c6; have ql := Q.lt
  have g0 := G.c0; have g1 := G.c1; have g2 := G.c2; have g3 := G.c3; have g4 := G.c4; have g5 := G.c5; have g6 := G.c6; have gl := G.lt
  have c0 := C.c0; have c1 := C.c1; have c2 := C.c2; have cl := C.lt
  have d0 := D.c0; have d1 := D.c1; have d2 := D.c2; have dl := D.lt
  go_wp2_with fail
  clear q0 q1 q2 q3 q4 q5 q6 ql g0 g1 g2 g3 g4 g5 g6 gl c0 c1 c2 cl d0 d1 d2 dl
  refine (wCut_any h1 (Fo.addC f c) d HV1.out HF1.out.2 HWF1.out _ S1).mono ?_; rintro e w11 ⟨hb, h3, e3, rfl, CR3⟩
  replace Q := Q.below hb; replace G := G.below hb; replace C := C.below hb; replace D := D.below hb; replace S := S.below hb; replace S1 := S1.below hb; replace B := B.trans (hb.mono B.size); clear hb
  have N := FB.new w11 h3
  obtain ⟨wk, hwk⟩ : ∃ x, w11 = x := ⟨_, rfl⟩
  have HS3 : Hid (e3 = 0 ∧ (Fo.okC h1.n d ∧ d ∉ (Fo.addC f c).cs ∧ h1.cl < 100) ∧ SlF w11 h3 (Fo.addC (Fo.addC f c) d) ∨ (e3 != 0) = true) := Lib.hid (by
    rcases CR3 with ⟨h8, h9, fw⟩ | ⟨h8, -, -⟩
    · exact .inl ⟨h8, h9, fw.s⟩
    · refine .inr ?_
      rcases h8 with rfl | rfl | rfl <;> rfl)
  clear CR3 hwk wk
  have HS3 := HS3.out
  rcases HS3 with ⟨rfl, HC3, S3⟩ | he3
  case inr =>
    replace Q := Q.alloc (.cells #[.int .i64 h3.n, .slice h3.R h3.rl h3.rc, .slice h3.E h3.el h3.ec, .int .i64 h3.ja, .int .i64 h3.jt, .int .i64 h3.jf, .slice h3.C h3.cl h3.cc] 28); replace G := G.alloc (.cells #[.int .i64 h3.n, .slice h3.R h3.rl h3.rc, .slice h3.E h3.el h3.ec, .int .i64 h3.ja, .int .i64 h3.jt, .int .i64 h3.jf, .slice h3.C h3.cl h3.cc] 28); replace C := C.alloc (.cells #[.int .i64 h3.n, .slice h3.R h3.rl h3.rc, .slice h3.E h3.el h3.ec, .int .i64 h3.ja, .int .i64 h3.jt, .int .i64 h3.jf, .slice h3.C h3.cl h3.cc] 28); replace D := D.alloc (.cells #[.int .i64 h3.n, .slice h3.R h3.rl h3.rc, .slice h3.E h3.el h3.ec, .int .i64 h3.ja, .int .i64 h3.jt, .int .i64 h3.jf, .slice h3.C h3.cl h3.cc] 28); replace S := S.alloc (.cells #[.int .i64 h3.n, .slice h3.R h3.rl h3.rc, .slice h3.E h3.el h3.ec, .int .i64 h3.ja, .int .i64 h3.jt, .int .i64 h3.jf, .slice h3.C h3.cl h3.cc] 28); replace S1 := S1.alloc (.cells #[.int .i64 h3.n, .slice h3.R h3.rl h3.rc, .slice h3.E h3.el h3.ec, .int .i64 h3.ja, .int .i64 h3.jt, .int .i64 h3.jf, .slice h3.C h3.cl h3.cc] 28); replace B := B.alloc B.size (.cells #[.int .i64 h3.n, .slice h3.R h3.rl h3.rc, .slice h3.E h3.el h3.ec, .int .i64 h3.ja, .int .i64 h3.jt, .int .i64 h3.jf, .slice h3.C h3.cl h3.cc] 28)
    have q0 := Q.c0; have q1 := Q.c1; have q2 := Q.c2; have q3 := Q.c3; have q4 := Q.c4; have q5 := Q.c5; have q6 := Q.c6; have ql := Q.lt
    have g0 := G.c0; have g1 := G.c1; have g2 := G.c2; have g3 := G.c3; have g4 := G.c4; have g5 := G.c5; have g6 := G.c6; have gl := G.lt
    have n0 := N.c0; have n1 := N.c1; have n2 := N.c2; have n3 := N.c3; have n4 := N.c4; have n5 := N.c5; have n6 := N.c6; have nl := N.lt
    have c0 := C.c0; have c1 := C.c1; have c2 := C.c2; have cl := C.lt
    have d0 := D.c0; have d1 := D.c1; have d2 := D.c2; have dl := D.lt
    go_wp2_with fail
    clear q0 q1 q2 q3 q4 q5 q6 ql g0 g1 g2 g3 g4 g5 g6 gl n0 n1 n2 n3 n4 n5 n6 nl c0 c1 c2 cl d0 d1 d2 dl
    refine (wCut_any h f d HV.out HNN.out HWF.out _ S).mono ?_; rintro e w12 ⟨hb, h4, e4, rfl, -⟩
    have BE := (B.trans (hb.mono B.size)).alloc (B.trans (hb.mono B.size)).size (.cells #[.int .i64 h4.n, .slice h4.R h4.rl h4.rc, .slice h4.E h4.el h4.ec, .int .i64 h4.ja, .int .i64 h4.jt, .int .i64 h4.jf, .slice h4.C h4.cl h4.cc] 28)
    go_wp2_with fail
    go_ret
    exact ⟨rfl, BE⟩
  case inl =>
  have HC3 := Lib.hid HC3
  replace Q := Q.alloc (.cells #[.int .i64 h3.n, .slice h3.R h3.rl h3.rc, .slice h3.E h3.el h3.ec, .int .i64 h3.ja, .int .i64 h3.jt, .int .i64 h3.jf, .slice h3.C h3.cl h3.cc] 28); replace G := G.alloc (.cells #[.int .i64 h3.n, .slice h3.R h3.rl h3.rc, .slice h3.E h3.el h3.ec, .int .i64 h3.ja, .int .i64 h3.jt, .int .i64 h3.jf, .slice h3.C h3.cl h3.cc] 28); replace C := C.alloc (.cells #[.int .i64 h3.n, .slice h3.R h3.rl h3.rc, .slice h3.E h3.el h3.ec, .int .i64 h3.ja, .int .i64 h3.jt, .int .i64 h3.jf, .slice h3.C h3.cl h3.cc] 28); replace D := D.alloc (.cells #[.int .i64 h3.n, .slice h3.R h3.rl h3.rc, .slice h3.E h3.el h3.ec, .int .i64 h3.ja, .int .i64 h3.jt, .int .i64 h3.jf, .slice h3.C h3.cl h3.cc] 28); replace S := S.alloc (.cells #[.int .i64 h3.n, .slice h3.R h3.rl h3.rc, .slice h3.E h3.el h3.ec, .int .i64 h3.ja, .int .i64 h3.jt, .int .i64 h3.jf, .slice h3.C h3.cl h3.cc] 28); replace S1 := S1.alloc (.cells #[.int .i64 h3.n, .slice h3.R h3.rl h3.rc, .slice h3.E h3.el h3.ec, .int .i64 h3.ja, .int .i64 h3.jt, .int .i64 h3.jf, .slice h3.C h3.cl h3.cc] 28); replace S3 := S3.alloc (.cells #[.int .i64 h3.n, .slice h3.R h3.rl h3.rc, .slice h3.E h3.el h3.ec, .int .i64 h3.ja, .int .i64 h3.jt, .int .i64 h3.jf, .slice h3.C h3.cl h3.cc] 28); replace B := B.alloc B.size (.cells #[.int .i64 h3.n, .slice h3.R h3.rl h3.rc, .slice h3.E h3.el h3.ec, .int .i64 h3.ja, .int .i64 h3.jt, .int .i64 h3.jf, .slice h3.C h3.cl h3.cc] 28)
  have q0 := Q.c0; have q1 := Q.c1; have q2 := Q.c2; have q3 := Q.c3; have q4 := Q.c4; have q5 := Q.c5; have q6 := Q.c6; have ql := Q.lt
  have g0 := G.c0; have g1 := G.c1; have g2 := G.c2; have g3 := G.c3; have g4 := G.c4; have g5 := G.c5; have g6 := G.c6; have gl := G.lt
  have n0 := N.c0; have n1 := N.c1; have n2 := N.c2; have n3 := N.c3; have n4 := N.c4; have n5 := N.c5; have n6 := N.c6; have nl := N.lt
  have c0 := C.c0; have c1 := C.c1; have c2 := C.c2; have cl := C.lt
  have d0 := D.c0; have d1 := D.c1; have d2 := D.c2; have dl := D.lt
  go_wp2_with fail
  clear q0 q1 q2 q3 q4 q5 q6 ql g0 g1 g2 g3 g4 g5 g6 gl n0 n1 n2 n3 n4 n5 n6 nl c0 c1 c2 cl d0 d1 d2 dl
  refine (wCut_any h f d HV.out HNN.out HWF.out _ S).mono ?_; rintro e w12 ⟨hb, h4, e4, rfl, CR4⟩
  replace Q := Q.below hb; replace G := G.below hb; replace N := N.below hb; replace C := C.below hb; replace D := D.below hb; replace S := S.below hb; replace S1 := S1.below hb; replace S3 := S3.below hb; replace B := B.trans (hb.mono B.size); clear hb
  rcases CR4 with ⟨rfl, HC4, FW4⟩ | ⟨he4, rfl, -⟩
  case inr =>
    have BE := B.alloc B.size (.cells #[.int .i64 0, .slice none 0 0, .slice none 0 0, .int .i64 0, .int .i64 0, .int .i64 0, .slice none 0 0] 28)
    rcases he4 with rfl | rfl | rfl
    all_goals
      go_wp2_with fail
      go_ret
      exact ⟨rfl, BE⟩
  case inl =>
  have HC4 := Lib.hid HC4
  have S4 := FW4.s
  have HF4 := Lib.hid FW4.nil
  have HV4 := Lib.hid (HV.out.addC (c := d) (by rw [S.n]; exact HC4.out.1) HC4.out.2.1 (by rw [S.cl]; exact HC4.out.2.2))
  have HV3 := Lib.hid (HV1.out.addC (c := d) (by rw [S1.n]; exact HC3.out.1) HC3.out.2.1 (by rw [S1.cl]; exact HC3.out.2.2))
  have HWF4 := Lib.hid (wf_addC HWF.out HWD.out)
  have HWF3 := Lib.hid (wf_addC HWF1.out HWD.out)
  have HC5 : Hid (Fo.okC h4.n c ∧ c ∉ (Fo.addC f d).cs ∧ h4.cl < 100) := Lib.hid (by
    have n4 : f.n = h4.n := S4.n
    have l4 : (f.cs ++ [d]).length = h4.cl := S4.cl
    have l1 : (f.cs ++ [c]).length = h1.cl := S1.cl
    have h100 := HC3.out.2.2
    rw [List.length_append] at l4 l1
    refine ⟨by rw [← n4, S.n]; exact HC1.out.1, fun hm => ?_, by simp at l4 l1; omega⟩
    rcases List.mem_append.1 hm with hm | hm
    · exact HC1.out.2.1 hm
    · exact HC3.out.2.1 (List.mem_append_right _ (by rw [List.mem_singleton.1 hm]; simp)))
  have O := FB.new w12 h4
  clear FW4
  replace Q := Q.alloc (.cells #[.int .i64 h4.n, .slice h4.R h4.rl h4.rc, .slice h4.E h4.el h4.ec, .int .i64 h4.ja, .int .i64 h4.jt, .int .i64 h4.jf, .slice h4.C h4.cl h4.cc] 28); replace G := G.alloc (.cells #[.int .i64 h4.n, .slice h4.R h4.rl h4.rc, .slice h4.E h4.el h4.ec, .int .i64 h4.ja, .int .i64 h4.jt, .int .i64 h4.jf, .slice h4.C h4.cl h4.cc] 28); replace N := N.alloc (.cells #[.int .i64 h4.n, .slice h4.R h4.rl h4.rc, .slice h4.E h4.el h4.ec, .int .i64 h4.ja, .int .i64 h4.jt, .int .i64 h4.jf, .slice h4.C h4.cl h4.cc] 28); replace C := C.alloc (.cells #[.int .i64 h4.n, .slice h4.R h4.rl h4.rc, .slice h4.E h4.el h4.ec, .int .i64 h4.ja, .int .i64 h4.jt, .int .i64 h4.jf, .slice h4.C h4.cl h4.cc] 28); replace D := D.alloc (.cells #[.int .i64 h4.n, .slice h4.R h4.rl h4.rc, .slice h4.E h4.el h4.ec, .int .i64 h4.ja, .int .i64 h4.jt, .int .i64 h4.jf, .slice h4.C h4.cl h4.cc] 28); replace S := S.alloc (.cells #[.int .i64 h4.n, .slice h4.R h4.rl h4.rc, .slice h4.E h4.el h4.ec, .int .i64 h4.ja, .int .i64 h4.jt, .int .i64 h4.jf, .slice h4.C h4.cl h4.cc] 28); replace S1 := S1.alloc (.cells #[.int .i64 h4.n, .slice h4.R h4.rl h4.rc, .slice h4.E h4.el h4.ec, .int .i64 h4.ja, .int .i64 h4.jt, .int .i64 h4.jf, .slice h4.C h4.cl h4.cc] 28); replace S3 := S3.alloc (.cells #[.int .i64 h4.n, .slice h4.R h4.rl h4.rc, .slice h4.E h4.el h4.ec, .int .i64 h4.ja, .int .i64 h4.jt, .int .i64 h4.jf, .slice h4.C h4.cl h4.cc] 28); replace S4 := S4.alloc (.cells #[.int .i64 h4.n, .slice h4.R h4.rl h4.rc, .slice h4.E h4.el h4.ec, .int .i64 h4.ja, .int .i64 h4.jt, .int .i64 h4.jf, .slice h4.C h4.cl h4.cc] 28); replace B := B.alloc B.size (.cells #[.int .i64 h4.n, .slice h4.R h4.rl h4.rc, .slice h4.E h4.el h4.ec, .int .i64 h4.ja, .int .i64 h4.jt, .int .i64 h4.jf, .slice h4.C h4.cl h4.cc] 28)
  have q0 := Q.c0; have q1 := Q.c1; have q2 := Q.c2; have q3 := Q.c3; have q4 := Q.c4; have q5 := Q.c5; have q6 := Q.c6; have ql := Q.lt
  have g0 := G.c0; have g1 := G.c1; have g2 := G.c2; have g3 := G.c3; have g4 := G.c4; have g5 := G.c5; have g6 := G.c6; have gl := G.lt
  have n0 := N.c0; have n1 := N.c1; have n2 := N.c2; have n3 := N.c3; have n4 := N.c4; have n5 := N.c5; have n6 := N.c6; have nl := N.lt
  have o0 := O.c0; have o1 := O.c1; have o2 := O.c2; have o3 := O.c3; have o4 := O.c4; have o5 := O.c5; have o6 := O.c6; have ol := O.lt
  have c0 := C.c0; have c1 := C.c1; have c2 := C.c2; have cl := C.lt
  have d0 := D.c0; have d1 := D.c1; have d2 := D.c2; have dl := D.lt
  go_wp2_with fail
  clear q0 q1 q2 q3 q4 q5 q6 ql g0 g1 g2 g3 g4 g5 g6 gl n0 n1 n2 n3 n4 n5 n6 nl o0 o1 o2 o3 o4 o5 o6 ol c0 c1 c2 cl d0 d1 d2 dl
  refine (wCut_any h4 (Fo.addC f d) c HV4.out HF4.out HWF4.out _ S4).mono ?_; rintro e w13 ⟨hb, h5, e5, rfl, CR5⟩
  replace Q := Q.below hb; replace G := G.below hb; replace N := N.below hb; replace O := O.below hb; replace C := C.below hb; replace D := D.below hb; replace S := S.below hb; replace S1 := S1.below hb; replace S3 := S3.below hb; replace S4 := S4.below hb; replace B := B.trans (hb.mono B.size); clear hb
  rcases CR5 with ⟨rfl, -, FW5⟩ | ⟨-, -, hno⟩
  case inr => exact absurd HC5.out hno
  case inl =>
  have S5 := FW5.s
  have HV5 := Lib.hid (HV4.out.addC (c := c) (by rw [S4.n]; exact HC5.out.1) HC5.out.2.1 (by rw [S4.cl]; exact HC5.out.2.2))
  have HWF5 := Lib.hid (wf_addC HWF4.out HWC.out)
  have U := FB.new w13 h5
  clear FW5
  replace Q := Q.alloc (.cells #[.int .i64 h5.n, .slice h5.R h5.rl h5.rc, .slice h5.E h5.el h5.ec, .int .i64 h5.ja, .int .i64 h5.jt, .int .i64 h5.jf, .slice h5.C h5.cl h5.cc] 28); replace G := G.alloc (.cells #[.int .i64 h5.n, .slice h5.R h5.rl h5.rc, .slice h5.E h5.el h5.ec, .int .i64 h5.ja, .int .i64 h5.jt, .int .i64 h5.jf, .slice h5.C h5.cl h5.cc] 28); replace N := N.alloc (.cells #[.int .i64 h5.n, .slice h5.R h5.rl h5.rc, .slice h5.E h5.el h5.ec, .int .i64 h5.ja, .int .i64 h5.jt, .int .i64 h5.jf, .slice h5.C h5.cl h5.cc] 28); replace O := O.alloc (.cells #[.int .i64 h5.n, .slice h5.R h5.rl h5.rc, .slice h5.E h5.el h5.ec, .int .i64 h5.ja, .int .i64 h5.jt, .int .i64 h5.jf, .slice h5.C h5.cl h5.cc] 28); replace C := C.alloc (.cells #[.int .i64 h5.n, .slice h5.R h5.rl h5.rc, .slice h5.E h5.el h5.ec, .int .i64 h5.ja, .int .i64 h5.jt, .int .i64 h5.jf, .slice h5.C h5.cl h5.cc] 28); replace D := D.alloc (.cells #[.int .i64 h5.n, .slice h5.R h5.rl h5.rc, .slice h5.E h5.el h5.ec, .int .i64 h5.ja, .int .i64 h5.jt, .int .i64 h5.jf, .slice h5.C h5.cl h5.cc] 28); replace S := S.alloc (.cells #[.int .i64 h5.n, .slice h5.R h5.rl h5.rc, .slice h5.E h5.el h5.ec, .int .i64 h5.ja, .int .i64 h5.jt, .int .i64 h5.jf, .slice h5.C h5.cl h5.cc] 28); replace S1 := S1.alloc (.cells #[.int .i64 h5.n, .slice h5.R h5.rl h5.rc, .slice h5.E h5.el h5.ec, .int .i64 h5.ja, .int .i64 h5.jt, .int .i64 h5.jf, .slice h5.C h5.cl h5.cc] 28); replace S3 := S3.alloc (.cells #[.int .i64 h5.n, .slice h5.R h5.rl h5.rc, .slice h5.E h5.el h5.ec, .int .i64 h5.ja, .int .i64 h5.jt, .int .i64 h5.jf, .slice h5.C h5.cl h5.cc] 28); replace S4 := S4.alloc (.cells #[.int .i64 h5.n, .slice h5.R h5.rl h5.rc, .slice h5.E h5.el h5.ec, .int .i64 h5.ja, .int .i64 h5.jt, .int .i64 h5.jf, .slice h5.C h5.cl h5.cc] 28); replace S5 := S5.alloc (.cells #[.int .i64 h5.n, .slice h5.R h5.rl h5.rc, .slice h5.E h5.el h5.ec, .int .i64 h5.ja, .int .i64 h5.jt, .int .i64 h5.jf, .slice h5.C h5.cl h5.cc] 28); replace B := B.alloc B.size (.cells #[.int .i64 h5.n, .slice h5.R h5.rl h5.rc, .slice h5.E h5.el h5.ec, .int .i64 h5.ja, .int .i64 h5.jt, .int .i64 h5.jf, .slice h5.C h5.cl h5.cc] 28)
  have q0 := Q.c0; have q1 := Q.c1; have q2 := Q.c2; have q3 := Q.c3; have q4 := Q.c4; have q5 := Q.c5; have q6 := Q.c6; have ql := Q.lt
  have g0 := G.c0; have g1 := G.c1; have g2 := G.c2; have g3 := G.c3; have g4 := G.c4; have g5 := G.c5; have g6 := G.c6; have gl := G.lt
  have n0 := N.c0; have n1 := N.c1; have n2 := N.c2; have n3 := N.c3; have n4 := N.c4; have n5 := N.c5; have n6 := N.c6; have nl := N.lt
  have o0 := O.c0; have o1 := O.c1; have o2 := O.c2; have o3 := O.c3; have o4 := O.c4; have o5 := O.c5; have o6 := O.c6; have ol := O.lt
  have u0 := U.c0; have u1 := U.c1; have u2 := U.c2; have u3 := U.c3; have u4 := U.c4; have u5 := U.c5; have u6 := U.c6; have ul := U.lt
  have c0 := C.c0; have c1 := C.c1; have c2 := C.c2; have cl := C.lt
  have d0 := D.c0; have d1 := D.c1; have d2 := D.c2; have dl := D.lt
  go_wp2_with fail
  clear q0 q1 q2 q3 q4 q5 q6 ql g0 g1 g2 g3 g4 g5 g6 gl n0 n1 n2 n3 n4 n5 n6 nl o0 o1 o2 o3 o4 o5 o6 ol u0 u1 u2 u3 u4 u5 u6 ul c0 c1 c2 cl d0 d1 d2 dl
  refine (wUnfold_is h3 (Fo.addC (Fo.addC f c) d) HV3.out HWF3.out _ S3).mono ?_; rintro e w14 ⟨hb, uv, rfl, OV⟩
  rw [Fo.unf_swap] at OV
  obtain ⟨-, XA, xc, rfl, X, -⟩ := own_V OV
  clear OV
  replace Q := Q.below hb; replace G := G.below hb; replace N := N.below hb; replace O := O.below hb; replace U := U.below hb; replace C := C.below hb; replace D := D.below hb; replace S := S.below hb; replace S1 := S1.below hb; replace S3 := S3.below hb; replace S4 := S4.below hb; replace S5 := S5.below hb; replace B := B.trans (hb.mono B.size); clear hb
  have q0 := Q.c0; have q1 := Q.c1; have q2 := Q.c2; have q3 := Q.c3; have q4 := Q.c4; have q5 := Q.c5; have q6 := Q.c6; have ql := Q.lt
  have g0 := G.c0; have g1 := G.c1; have g2 := G.c2; have g3 := G.c3; have g4 := G.c4; have g5 := G.c5; have g6 := G.c6; have gl := G.lt
  have n0 := N.c0; have n1 := N.c1; have n2 := N.c2; have n3 := N.c3; have n4 := N.c4; have n5 := N.c5; have n6 := N.c6; have nl := N.lt
  have o0 := O.c0; have o1 := O.c1; have o2 := O.c2; have o3 := O.c3; have o4 := O.c4; have o5 := O.c5; have o6 := O.c6; have ol := O.lt
  have u0 := U.c0; have u1 := U.c1; have u2 := U.c2; have u3 := U.c3; have u4 := U.c4; have u5 := U.c5; have u6 := U.c6; have ul := U.lt
  have c0 := C.c0; have c1 := C.c1; have c2 := C.c2; have cl := C.lt
  have d0 := D.c0; have d1 := D.c1; have d2 := D.c2; have dl := D.lt
  go_wp2_with fail
  clear q0 q1 q2 q3 q4 q5 q6 ql g0 g1 g2 g3 g4 g5 g6 gl n0 n1 n2 n3 n4 n5 n6 nl o0 o1 o2 o3 o4 o5 o6 ol u0 u1 u2 u3 u4 u5 u6 ul c0 c1 c2 cl d0 d1 d2 dl
  refine (wUnfold_is h5 (Fo.addC (Fo.addC f d) c) HV5.out HWF5.out _ S5).mono ?_; rintro e w15 ⟨hb, uv, rfl, OV⟩
  obtain ⟨-, YA, yc, rfl, Y, -⟩ := own_V OV
  clear OV
  replace Q := Q.below hb; replace G := G.below hb; replace N := N.below hb; replace O := O.below hb; replace U := U.below hb; replace C := C.below hb; replace D := D.below hb; replace X := X.below hb; replace S := S.below hb; replace S1 := S1.below hb; replace S3 := S3.below hb; replace S4 := S4.below hb; replace S5 := S5.below hb; replace B := B.trans (hb.mono B.size); clear hb
  go_wp2_with fail
  refine (rsameV_is (Fo.unf (Fo.addC (Fo.addC f d) c)) (Fo.unf (Fo.addC (Fo.addC f d) c)) true _ _ _ _ _ _ ⟨fun _ => rfl, fun _ => rfl⟩ rfl rfl (Nat.le_trans (unf_max' HV5.out) (by decide)) _ X Y).mono ?_; rintro e w16 ⟨rfl, hb⟩
  have BE := B.trans (hb.mono B.size)
  go_wp2_with fail
  go_ret
  exact ⟨rfl, BE⟩
end Go.Proofs.Ytakbpgljbbkmkaa
