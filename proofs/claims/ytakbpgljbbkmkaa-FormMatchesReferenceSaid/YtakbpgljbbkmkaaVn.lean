/- The walk of the reference's Unfold. -/
import Derived.Test.YtakbpgljbbkmkaaVm
namespace Go.Proofs.Ytakbpgljbbkmkaa
open Go.RowKit

theorem cell_two_new (w : World) (a b : Value) (t : TypeId) : ∀ j u, [a, b][j]? = some u → (w.alloc (.cells #[a, b] t)).cell? ((⟨w.heap.size, 0, none⟩ : Addr).add j) = some u := fun j u hj => by
  rw [addr_add]
  match j, hj with
  | 0, hj => simp at hj; subst hj; go_simp
  | 1, hj => simp at hj; subst hj; go_simp
  | j + 2, hj => simp at hj
theorem Fo.lft_snoc (cs : List Fo.T3) (v : Fo.V2) (k : Nat) (h : k < cs.length) : Fo.lft (cs.take (k + 1)) v ↔ Fo.lft (cs.take k) v ∨ Fo.lvs (Fo.at3 cs k) v := by
  unfold Fo.lft
  rw [List.take_succ_eq_append_getElem h, Fo.at3_eq h]
  constructor
  · rintro ⟨c, hc, hl⟩
    rcases List.mem_append.1 hc with h1 | h1
    · exact .inl ⟨c, h1, hl⟩
    · rw [List.mem_singleton.1 h1] at hl; exact .inr hl
  · rintro (⟨c, hc, hl⟩ | hl)
    · exact ⟨c, List.mem_append_left _ hc, hl⟩
    · exact ⟨_, List.mem_append_right _ (List.mem_singleton.2 rfl), hl⟩
/-- The visits, up to the i-th one, that no cut leaves out. -/
def Fo.kpt (cs : List Fo.T3) (l : List Fo.V2) (i : Nat) : List Fo.V2 := (l.take i).filter fun v => !decide (Fo.lft cs v)
theorem Fo.kpt_snoc (cs : List Fo.T3) (l : List Fo.V2) (i : Nat) (h : i < l.length) : Fo.kpt cs l (i + 1) = Fo.kpt cs l i ++ (if Fo.lft cs (atV l i) then [] else [atV l i]) := by
  unfold Fo.kpt
  rw [List.take_succ_eq_append_getElem h, List.filter_append, atV_eq h]
  congr 1
  by_cases hl : Fo.lft cs l[i] <;> simp [hl]
theorem Fo.kpt_len (cs : List Fo.T3) (l : List Fo.V2) (i : Nat) : (Fo.kpt cs l i).length ≤ i := by
  unfold Fo.kpt
  refine Nat.le_trans (List.length_filter_le _ _) ?_
  rw [List.length_take]
  omega
/-- A form is not well-formed: nothing, and the error. -/
theorem runfold_no (h : FH) (f : Fo.Fm) (hV : ¬ Fo.Val f) (hcap : h.cl ≤ h.cc) (w : World) (hS : SlF w h f) :
    Calls Try.prog 12 #[.agg #[.int .i64 h.n, .slice h.R h.rl h.rc, .slice h.E h.el h.ec, .int .i64 h.ja, .int .i64 h.jt, .int .i64 h.jf, .slice h.C h.cl h.cc]] w fun e w' => Below w.heap.size w w' ∧ e = .returned (.tuple #[.slice none 0 0, .int .i64 1]) := by
  have B := (Below.refl w.heap.size w).alloc (Nat.le_refl _) (.cells #[.int .i64 h.n, .slice h.R h.rl h.rc, .slice h.E h.el h.ec, .int .i64 h.ja, .int .i64 h.jt, .int .i64 h.jf, .slice h.C h.cl h.cc] 28)
  have Q := FB.new w h
  have HSS := Lib.hid (hS.alloc (.cells #[.int .i64 h.n, .slice h.R h.rl h.rc, .slice h.E h.el h.ec, .int .i64 h.ja, .int .i64 h.jt, .int .i64 h.jf, .slice h.C h.cl h.cc] 28))
  have HV := Lib.hid hV; have HCAP := Lib.hid hcap
  clear hS hV hcap
  go_enter Try.func12, Try.ntmps12
  go_wp2_with fail
  clear Q
  refine (rValid_is h f false ⟨(fun h => by cases h), fun k => absurd k HV.out⟩ HCAP.out _ HSS.out).mono ?_; rintro e w2 ⟨rfl, hb⟩
  replace B := B.trans (hb.mono B.size)
  clear hb
  go_wp2_with fail
  refine bodyPost_ret (v := .tuple #[.slice none 0 0, .int .i64 1]) (by simp [results, Try.results12, go_sem]) rfl ⟨B, rfl⟩
set_option maxHeartbeats 6400000 in
theorem runfold_is (h : FH) (f : Fo.Fm) (V : Fo.Val f) (hcap : h.cl ≤ h.cc) (w : World) (hS : SlF w h f) :
    Calls Try.prog 12 #[.agg #[.int .i64 h.n, .slice h.R h.rl h.rc, .slice h.E h.el h.ec, .int .i64 h.ja, .int .i64 h.jt, .int .i64 h.jf, .slice h.C h.cl h.cc]] w fun e w' => Below w.heap.size w w' ∧ ∃ v, e = .returned (.tuple #[v, .int .i64 0]) ∧ w'.ownsRow w.heap.size 30 2 v (Fo.unf f).length (vV (Fo.unf f)) := by
  obtain ⟨iv, hv0, hv1, hv2, hv3⟩ := info_parts infoVisit
  have HIV := Lib.hid (And.intro hv0 (And.intro hv1 (And.intro hv2 hv3)))
  have B := (Below.refl w.heap.size w).alloc (Nat.le_refl _) (.cells #[.int .i64 h.n, .slice h.R h.rl h.rc, .slice h.E h.el h.ec, .int .i64 h.ja, .int .i64 h.jt, .int .i64 h.jf, .slice h.C h.cl h.cc] 28)
  have Q := FB.new w h
  have HSS := Lib.hid (hS.alloc (.cells #[.int .i64 h.n, .slice h.R h.rl h.rc, .slice h.E h.el h.ec, .int .i64 h.ja, .int .i64 h.jt, .int .i64 h.jf, .slice h.C h.cl h.cc] 28))
  have HV := Lib.hid V; have HCAP := Lib.hid hcap
  have hc100 := V.cl
  have HCL := Lib.hid hS.cl
  rw [hS.cl] at hc100
  clear hS V hcap hv0 hv1 hv2 hv3
  go_enter Try.func12, Try.ntmps12
  go_wp2_with fail
  obtain ⟨W1, hW1⟩ : ∃ W1, w.alloc (.cells #[.int .i64 h.n, .slice h.R h.rl h.rc, .slice h.E h.el h.ec, .int .i64 h.ja, .int .i64 h.jt, .int .i64 h.jf, .slice h.C h.cl h.cc] 28) = W1 := ⟨_, rfl⟩
  rw [hW1] at B Q HSS
  (try simp only [hW1])
  clear hW1
  have HQ := Lib.hid Q; have HB := Lib.hid B
  clear Q B
  refine (rValid_is h f true ⟨fun _ => HV.out, fun _ => rfl⟩ HCAP.out _ HSS.out).mono ?_; rintro e w2 ⟨rfl, hb⟩
  have Q := HQ.out.below hb
  have q0 := Q.c0; have q1 := Q.c1; have q2 := Q.c2; have q3 := Q.c3; have q4 := Q.c4; have q5 := Q.c5; have q6 := Q.c6; have ql := Q.lt
  have HB2 := Lib.hid hb
  clear hb
  go_wp2_with fail
  clear q0 q1 q2 q3 q4 q5 q6 ql Q
  refine (rWhole_is h f HV.out _ (HSS.out.below HB2.out)).mono ?_; rintro e w3 ⟨hb, v, rfl, hown⟩
  obtain ⟨hlen, A, cap, rfl, hsl, -⟩ := own_V hown
  have hm : (Fo.vis (Fo.whl f)).length ≤ 20000 := by rw [Fo.vis_length]; exact HV.out.most
  obtain ⟨l, hl⟩ : ∃ l, Fo.vis (Fo.whl f) = l := ⟨_, rfl⟩
  have HUN : Hid (Fo.unf f = Fo.kpt f.cs l l.length) := Lib.hid (by unfold Fo.unf Fo.kpt; rw [hl, List.take_of_length_le (Nat.le_refl _)])
  rw [hl] at hsl hm ⊢
  obtain ⟨len, hle⟩ : ∃ len, l.length = len := ⟨_, rfl⟩
  rw [hle] at hm HUN ⊢
  have HLE := Lib.hid hle; have HSL := Lib.hid hsl
  have HB3 := Lib.hid (HB2.out.trans (hb.mono HB2.out.size))
  have HSC := Lib.hid ((HSS.out.below HB2.out).sc.below hb)
  clear hown hlen hsl hb hl hle HSS
  go_wp2_with fail
  go_loopw [5, 6] (fun s5 s6 wr => ∃ (i N : Nat), i ≤ len ∧ s6 = .int .i64 (i : Int) ∧ (Fo.kpt f.cs l i).length = N ∧ Hid (wr.ownsRow w3.heap.size 30 2 s5 N (vV (Fo.kpt f.cs l i))) ∧ Below w3.heap.size w3 wr) (fun _ s6 _ => len - (intOf s6).toNat)
  case atStart => exact ⟨0, 0, Nat.zero_le _, rfl, rfl, Lib.hid (World.ownsRow_nil _ _ _ _), Below.refl _ _⟩
  case round =>
    obtain ⟨i, N, hi, rfl, hN, HOW, hR⟩ := hrel
    have hNl : N ≤ 20000 := by rw [← hN]; exact Nat.le_trans (Fo.kpt_len _ _ _) (by omega)
    have HN := Lib.hid hN
    clear hN
    by_cases hlt : i < len
    case neg =>
      obtain rfl : i = len := by omega
      go_wp2_with fail
      have hO := HOW.out
      refine bodyPost_ret (v := .tuple #[_, .int .i64 0]) (by simp [results, Try.results12, go_sem]; rfl) rfl ⟨HB.out.trans ((HB3.out.trans (hR.mono HB3.out.size)).mono HB.out.size), _, rfl, ?_⟩
      rw [HUN.out, HN.out]
      exact own_lessK hO (by have := HB3.out.size; have := HB.out.size; omega)
    have hil : i < l.length := by rw [HLE.out]; exact hlt
    obtain ⟨bA, oA, rfl, hbA, hcA⟩ := HSL.out (by omega)
    have X := hcA i hil
    have HKS := Lib.hid (Fo.kpt_snoc f.cs l i hil)
    obtain ⟨x, hx⟩ : ∃ x, atV l i = x := ⟨_, rfl⟩
    rw [hx] at X HKS
    have HX := Lib.hid X; have HBA := Lib.hid hbA
    have hi1 : (i : Int) < (len : Int) := by omega
    clear X hx hcA hbA hil
    go_wp2_with fail
    generalize wr = wo at *
    have HOW0 := HOW; have hR0 := hR
    clear HOW hR
    go_loopw [7, 8] (fun s7 s8 wr => ∃ (k : Nat) (g : Bool), k ≤ h.cl ∧ s8 = .int .i64 (k : Int) ∧ s7 = .bool g ∧ Hid (g = true ↔ Fo.lft (f.cs.take k) x) ∧ Below wo.heap.size wo wr) (fun _ s8 _ => h.cl - (intOf s8).toNat)
    case atStart => exact ⟨0, false, Nat.zero_le _, rfl, rfl, Lib.hid ⟨(fun h => by cases h), fun ⟨c, hc, _⟩ => by cases hc⟩, Below.refl _ _⟩
    case round =>
      obtain ⟨k, g, hk, rfl, rfl, HG, hK⟩ := hrel
      have hRK := hR0.trans (hK.mono hR0.size)
      have Q := HQ.out.below (HB3.out.trans (hRK.mono HB3.out.size))
      have q6 := Q.c6
      have X := HX.out.below hRK HBA.out
      by_cases hlk : k < h.cl
      case pos =>
        have hil : k < f.cs.length := by rw [HCL.out]; exact hlk
        obtain ⟨b, off, hCe, hb, hc⟩ := HSC.out (by omega)
        have Y := (hc k hil).below hRK hb
        have HLS := Lib.hid (Fo.lft_snoc f.cs x k hil)
        obtain ⟨y, hy⟩ : ∃ y, Fo.at3 f.cs k = y := ⟨_, rfl⟩
        rw [hy] at Y HLS
        rw [hCe] at q6
        have p0 := fun y : Ext wr => y.cell q6
        have z0 := fun y : Ext wr => y.cell X.c0; have z1 := fun y : Ext wr => y.cell X.c1
        have k0 := fun y : Ext wr => y.cell Y.c0; have k1 := fun y : Ext wr => y.cell Y.c1; have k2 := fun y : Ext wr => y.cell Y.c2
        have hne := Ext.there wr
        have hk1 : (k : Int) < (h.cl : Int) := by omega
        clear hc hb hCe hy hil X Y Q
        obtain ⟨g2, hg2⟩ : ∃ g2 : Bool, g2 = true ↔ Fo.lvs y x := ⟨decide _, decide_eq_true_iff⟩
        have HG2 := Lib.hid hg2
        clear hg2
        cases g with
        | true =>
          go_wp2_with fail
          refine Ext.region (by kernel_rfl) (by kernel_rfl) ?_
          repeat (go_big_quiet_step (fail))
          refine wpQuiet_nil ?_
          rintro _ ⟨xw, rfl⟩
          have hb6 := xw.h
          generalize xw.w = w6 at *
          clear xw p0 z0 z1 k0 k1 k2 hne q6
          go_wp2_with fail
          go_roundw
          case rel => exact ⟨k + 1, true, by omega, by simp, rfl, Lib.hid ⟨fun _ => HLS.out.2 (.inl (HG.out.1 (by first | trivial | rfl))), fun _ => rfl⟩, hK.trans (hb6.mono hK.size)⟩
          case measure => simp [intOf]; omega
        | false =>
          go_wp2_with fail
          refine Ext.region (by kernel_rfl) (by kernel_rfl) ?_
          repeat (go_big_quiet_step ((go_at_call 34; exact Ext.call _ (rleaves_is y x g2 HG2.out _))))
          refine wpQuiet_nil ?_
          rintro _ ⟨xw, rfl⟩
          have hb6 := xw.h
          generalize xw.w = w6 at *
          clear xw p0 z0 z1 k0 k1 k2 hne q6
          go_wp2_with fail
          go_roundw
          case rel => exact ⟨k + 1, g2, by omega, by simp, rfl, Lib.hid ⟨fun e => HLS.out.2 (.inr (HG2.out.1 e)), fun e => (HLS.out.1 e).elim (fun e => by have := HG.out.2 e; cases this) HG2.out.2⟩, hK.trans (hb6.mono hK.size)⟩
          case measure => simp [intOf]; omega
      case neg =>
        obtain rfl : k = h.cl := by omega
        have HGF : Hid (g = true ↔ Fo.lft f.cs x) := Lib.hid (by have k2 := HG.out; rwa [List.take_of_length_le (by rw [HCL.out]; exact Nat.le_refl _)] at k2)
        have HOWk := Lib.hid (HOW0.out.kept (below_grown hK none) none_ne)
        cases g with
        | true =>
          have HK2 : Hid (Fo.kpt f.cs l (i + 1) = Fo.kpt f.cs l i) := Lib.hid (by rw [HKS.out, if_pos (HGF.out.1 (by first | trivial | rfl)), List.append_nil])
          clear X Q
          go_wp2_with fail
          go_roundw
          case rel => exact ⟨i + 1, N, by omega, by simp, by rw [HK2.out]; exact HN.out, Lib.hid (by rw [HK2.out]; exact HOWk.out), hRK⟩
          case measure => simp [intOf]; omega
        | false =>
          have HK2 : Hid (Fo.kpt f.cs l (i + 1) = Fo.kpt f.cs l i ++ [x]) := Lib.hid (by rw [HKS.out, if_neg (fun h => by have := HGF.out.2 h; cases this)])
          have x0 := X.c0; have x1 := X.c1
          have hsz := hRK.size
          have hkeep := HOWk.out.kept (below_grown ((Below.refl wr.heap.size wr).alloc (Nat.le_refl _) (.cells #[.int .i64 x.b, .int .i64 x.p] 30)) none) none_ne
          clear X Q
          go_wp2_with (first | (at_builtin; refine wpList_append_own _ rfl _ _ 35 rfl w3.heap.size 30 iv (.agg #[.int .i64 0, .int .i64 0]) 2 16 Try.underlying35 HIV.out.1 HIV.out.2.1 HIV.out.2.2.1 HIV.out.2.2.2 rfl (by decide) _ _ _ rfl hkeep ⟨wr.heap.size, 0, none⟩ 1 1 [.int .i64 x.b, .int .i64 x.p] rfl rfl (cell_two_new _ _ _ _) (fun u hu => by simp at hu; rcases hu with rfl | rfl <;> rfl) (by unfold maxLen; omega) (by omega) (by simp; omega) ?_; intro v5 w5 hown5 hgrow5 hnil5) | fail)
          have HR5 := Lib.hid ((hRK.alloc hRK.size (.cells #[.int .i64 x.b, .int .i64 x.p] 30)).grown hgrow5 (by simp; omega) (own_ne hkeep))
          have HOW5 := Lib.hid hown5
          clear hown5 hgrow5 hnil5 hkeep x0 x1
          go_roundw
          case rel => exact ⟨i + 1, N + 1, by omega, by simp, by rw [HK2.out, List.length_append, HN.out]; rfl, Lib.hid (by rw [HK2.out, vV_app, vV_one]; exact HOW5.out), HR5.out⟩
          case measure => simp [intOf]; omega
end Go.Proofs.Ytakbpgljbbkmkaa
