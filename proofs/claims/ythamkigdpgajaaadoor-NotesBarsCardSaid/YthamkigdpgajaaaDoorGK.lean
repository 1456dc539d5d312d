import Derived.Test.YthamkigdpgajaaaDoorGJ
import Derived.Test.YthamkigdpgajaaaDoorGD
/- The walk of notes' Of. -/
namespace Go.Proofs.YthamkigdpgajaaaDoor
open Go.RowKit Go.Shelf Go.Maps

theorem ownsRow_empty (w : World) (e : TypeId) (size base : Nat) (hb : base ≤ w.heap.size) : (w.alloc (.cells #[] e)).ownsRow base e size (.slice (some ⟨w.heap.size, 0, none⟩) 0 0) 0 [] :=
  ⟨by simp, .inr ⟨w.heap.size, 0, #[], rfl, hb, heap_alloc_new w _, Nat.le_refl _, by unfold maxLen; omega, by simp, by simp⟩⟩

set_option maxHeartbeats 4000000 in
set_option maxRecDepth 100000 in
theorem tof_is (bs : List Mt.B) (l : List No.Nt) (part bar : Int) (blen bcap len cap : Nat) (B A : Option Addr) (hbl : bs.length = blen) (hl : l.length = len) (hwb : Mt.Wf bs) (hwn : No.Wf l) (w : World) (hB : SlB w B bs) (hL : SlO w A l) (hG : Glob w) :
    Calls Tryd.prog 16 #[.slice B blen bcap, .slice A len cap, .int .i64 part, .int .i64 bar] w fun e w' => OfP bs l part bar e w' ∧ Below w.heap.size w w' := by
  have HB := Lib.hid hB
  have HL := Lib.hid hL
  have HN := Lib.hid hbl
  have HM := Lib.hid hl
  have HWB := Lib.hid hwb
  have HWN := Lib.hid hwn
  have HG := Lib.hid hG
  clear hbl hl hB hL hwb hwn hG
  obtain ⟨f, hf⟩ : ∃ f : Bool, f = true ↔ No.Val bs l := by
    by_cases h : No.Val bs l
    · exact ⟨true, by simp [h]⟩
    · exact ⟨false, by simp [h]⟩
  obtain ⟨g2, h2⟩ : ∃ g, decide (1 ≤ part ∧ part ≤ 1000000) = g := ⟨_, rfl⟩
  obtain ⟨g3, h3⟩ : ∃ g, decide (1 ≤ bar ∧ bar ≤ 1000000) = g := ⟨_, rfl⟩
  have HF := Lib.hid hf
  have H2 := Lib.hid h2
  have H3 := Lib.hid h3
  clear hf h2 h3
  cases f with
  | false =>
    have HNV : Hid (¬ No.Val bs l) := Lib.hid (fun hv => by first | exact absurd (HF.out.2 hv) (by decide) | exact (HF.out.2 hv).elim)
    clear HF
    go_enter Tryd.func16, Tryd.ntmps16
    go_wp2_with fail
    refine (tvalid_is bs l false blen bcap len cap B A ⟨fun h => absurd h (by decide), fun h => absurd h HNV.out⟩ HN.out HM.out HWB.out HWN.out _ HB.out HL.out).mono ?_; rintro e w1 ⟨rfl, hb⟩
    go_wp2_with fail
    go_ret2
    exact ⟨.inl ⟨fun h => HNV.out h.1, rfl⟩, hb⟩
  | true =>
  replace HF : Hid (No.Val bs l) := Lib.hid (by first | exact HF.out.1 rfl | exact HF.out.1 trivial)
  cases g2 with
  | false =>
    go_enter Tryd.func16, Tryd.ntmps16
    go_wp2_with fail
    refine (tvalid_is bs l true blen bcap len cap B A ⟨fun _ => HF.out, fun _ => rfl⟩ HN.out HM.out HWB.out HWN.out _ HB.out HL.out).mono ?_; rintro e w1 ⟨rfl, hb⟩
    go_wp2_with fail
    refine (tisid_is part false H2.out _).mono ?_; rintro e w2 ⟨rfl, hb2⟩
    go_wp2_with fail
    go_ret2
    exact ⟨.inl ⟨fun h => of_decide_eq_false H2.out h.2.1, rfl⟩, hb.trans (hb2.mono hb.size)⟩
  | true =>
  cases g3 with
  | false =>
    go_enter Tryd.func16, Tryd.ntmps16
    go_wp2_with fail
    refine (tvalid_is bs l true blen bcap len cap B A ⟨fun _ => HF.out, fun _ => rfl⟩ HN.out HM.out HWB.out HWN.out _ HB.out HL.out).mono ?_; rintro e w1 ⟨rfl, hb⟩
    go_wp2_with fail
    refine (tisid_is part true H2.out _).mono ?_; rintro e w2 ⟨rfl, hb2⟩
    replace hb2 := hb.trans (hb2.mono hb.size)
    go_wp2_with fail
    refine (tisid_is bar false H3.out _).mono ?_; rintro e w3 ⟨rfl, hb3⟩
    go_wp2_with fail
    go_ret2
    exact ⟨.inl ⟨fun h => of_decide_eq_false H3.out h.2.2, rfl⟩, hb2.trans (hb3.mono hb2.size)⟩
  | true =>
  have HV : Hid (No.Val bs l ∧ (1 ≤ part ∧ part ≤ 1000000) ∧ 1 ≤ bar ∧ bar ≤ 1000000) := Lib.hid ⟨HF.out, of_decide_eq_true H2.out, of_decide_eq_true H3.out⟩
  obtain ⟨r, hr⟩ : ∃ r, No.bix bs bar = r := ⟨_, rfl⟩
  have HR := Lib.hid hr
  clear hr
  have hm : blen ≤ 4000 := by have := HF.out.1.2.1; rw [HN.out] at this; omega
  have hlen : len ≤ 20000 := by have := HF.out.2.1; rw [HM.out] at this; omega
  have hwfb : (Lit.int .i64 bar).wf = true := Mt.wf_id (by have := HV.out.2.2; omega) (by have := HV.out.2.2; omega)
  have hkeyb : keyOf Tryd.prog 3 (.int .i64 bar) = some (.int .i64 bar) := keyOf_int_mk Tryd.underlying3 hwfb
  obtain ⟨i0, hi, hz0, hz1, hz2⟩ := info_parts infoNote
  go_enter Tryd.func16, Tryd.ntmps16
  go_wp2_with fail
  refine (tvalid_is bs l true blen bcap len cap B A ⟨fun _ => HF.out, fun _ => rfl⟩ HN.out HM.out HWB.out HWN.out _ HB.out HL.out).mono ?_; rintro e w1 ⟨rfl, hb⟩
  go_wp2_with fail
  refine (tisid_is part true H2.out _).mono ?_; rintro e w2 ⟨rfl, hb2⟩
  replace hb2 := hb.trans (hb2.mono hb.size)
  clear hb
  go_wp2_with fail
  refine (tisid_is bar true H3.out _).mono ?_; rintro e w3 ⟨rfl, hb3⟩
  replace hb3 := hb2.trans (hb3.mono hb2.size)
  clear hb2
  go_wp2_with fail
  refine (tindexes_is bs blen bcap B HN.out HF.out.1 _ (HB.out.below hb3)).mono ?_; rintro e w4 ⟨rfl, hb4, D1, hown1, hidx⟩
  obtain ⟨hhas, hatI⟩ := hidx bar hwfb
  rw [HR.out] at hhas hatI
  replace hb4 := hb3.trans (hb4.mono hb3.size)
  clear hb3 hidx hwfb
  by_cases hr0 : r < 0
  · have hr1 : ¬ 0 ≤ r := by omega
    rw [if_neg hr1] at hatI
    rw [decide_eq_false hr1] at hhas
    go_wp2_with (first | (at_lookup; refine look_int_ok _ rfl _ _ 68 rfl 3 3 mapK Tryd.underlying68 Tryd.underlying3 (Tryd.zeroValue3 _) _ blen D1 rfl hown1 _ _ rfl hkeyb 0 hatI false hhas ?_) | fail)
    go_ret2
    exact ⟨.inr (.inl ⟨HV.out, by rw [HR.out]; exact hr0, rfl⟩), hb4⟩
  · have hr1 : 0 ≤ r := by omega
    rw [if_pos hr1] at hatI
    rw [decide_eq_true hr1] at hhas
    go_wp2_with (first | (at_lookup; refine look_int_ok _ rfl _ _ 68 rfl 3 3 mapK Tryd.underlying68 Tryd.underlying3 (Tryd.zeroValue3 _) _ blen D1 rfl hown1 _ _ rfl hkeyb r hatI true hhas ?_) | fail)
    have ho0 := ownsRow_empty w4 42 12 w4.heap.size (Nat.le_refl _)
    have hG0 := hb4.alloc hb4.size (.cells #[] 42)
    have z4 := hb4.size
    clear hown1 hatI hhas hkeyb
    go_loopw [12, 41] (fun s12 s41 wr => ∃ (i : Nat) (D : Option Addr) (n c : Nat), i ≤ len ∧ s41 = .int .i64 (i : Int) ∧ s12 = .slice D n c ∧ wr.ownsRow w4.heap.size 42 12 (.slice D n c) n (vO ((l.take i).filter (fun n : No.Nt => decide (n.pa = part) && decide (n.ba = bar)))) ∧ Below w.heap.size w wr ∧ w4.heap.size ≤ wr.heap.size) (fun _ s41 _ => len - (intOf s41).toNat)
    case atStart => exact ⟨0, _, 0, 0, Nat.zero_le _, rfl, rfl, ho0, hG0, by simp⟩
    case round =>
      clear ho0 hG0 hb4
      obtain ⟨i, D, n, c, hi', rfl, rfl, ho, hG, hsz⟩ := hrel
      by_cases hlt : i < len
      · have hil : i < l.length := by rw [HM.out]; exact hlt
        obtain ⟨bb, off, rfl, hbb, hc⟩ := HL.out (by omega)
        have HT : Hid (l.take (i + 1) = l.take i ++ [atO l i]) := Lib.hid (by rw [atO_eq hil]; exact List.take_succ_eq_append_getElem hil)
        obtain ⟨m, hm2⟩ : ∃ m, atO l i = m := ⟨_, rfl⟩
        have X := (hc i hil).below hG hbb
        rw [hm2] at X HT
        have hn6 : n ≤ 20000 := by
          have h := (own_o ho).1
          have h2 := List.length_filter_le (fun n : No.Nt => decide (n.pa = part) && decide (n.ba = bar)) (l.take i)
          rw [h, List.length_take] at h2
          omega
        have hq1 : (i : Int) < (len : Int) := by omega
        obtain ⟨c0, c1, c2, c3, c4, c5, c6, c7, c8, c9, c10, c11⟩ := And.intro X.c0 (And.intro X.c1 (And.intro X.c2 (And.intro X.c3 (And.intro X.c4 (And.intro X.c5 (And.intro X.c6 (And.intro X.c7 (And.intro X.c8 (And.intro X.c9 (And.intro X.c10 X.c11))))))))))
        replace c0 : wr.cell? ⟨bb, off + i * 12, none⟩ = some (.int .i64 m.id) := c0
        have NB := NtB.new wr m
        obtain ⟨d0, d1, d2, d3, d4, d5, d6, d7, d8, d9, d10, d11⟩ := And.intro NB.c0 (And.intro NB.c1 (And.intro NB.c2 (And.intro NB.c3 (And.intro NB.c4 (And.intro NB.c5 (And.intro NB.c6 (And.intro NB.c7 (And.intro NB.c8 (And.intro NB.c9 (And.intro NB.c10 NB.c11))))))))))
        have hoA := ho.alloc (.cells #[.int .i64 m.id, .int .i64 m.pa, .int .i64 m.ba, .int .i64 m.vo, .int .i64 m.os, .int .i64 m.sn, .int .i64 m.sd, .int .i64 m.ln, .int .i64 m.ld, .int .i64 m.st, .int .i64 m.al, .int .i64 m.oc] 42)
        have hGA := hG.alloc hG.size (.cells #[.int .i64 m.id, .int .i64 m.pa, .int .i64 m.ba, .int .i64 m.vo, .int .i64 m.os, .int .i64 m.sn, .int .i64 m.sd, .int .i64 m.ln, .int .i64 m.ld, .int .i64 m.st, .int .i64 m.al, .int .i64 m.oc] 42)
        clear X NB hc hm2 hil ho
        by_cases hpp : m.pa = part
        · by_cases hbp : m.ba = bar
          · have HS : Hid (vO ((l.take i).filter (fun n : No.Nt => decide (n.pa = part) && decide (n.ba = bar))) ++ rowO m = vO ((l.take (i + 1)).filter (fun n : No.Nt => decide (n.pa = part) && decide (n.ba = bar)))) := Lib.hid (by rw [HT.out, List.filter_append, vO_app]; congr 1; simp [List.filter, hpp, hbp, vO_one])
            have heq := fun W => eq2 m.pa m.ba part bar true (decide_eq_true ⟨hpp, hbp⟩) W
            clear hpp hbp
            have hne := oown_ne hoA
            have HOA := Lib.hid hoA
            clear hoA
            go_wp2_with (first | (at_builtin; refine wpList_append_own _ rfl _ _ 23 rfl w4.heap.size 42 i0 (.agg #[.int .i64 0, .int .i64 0, .int .i64 0, .int .i64 0, .int .i64 0, .int .i64 0, .int .i64 0, .int .i64 0, .int .i64 0, .int .i64 0, .int .i64 0, .int .i64 0]) 12 96 Tryd.underlying23 hi hz0 hz1 hz2 rfl (by decide) _ n _ rfl (HOA.out.alloc _) ⟨wr.heap.size + 1, 0, none⟩ 1 1 (rowO m) rfl rfl (by have h := newO (wr.alloc (.cells #[.int .i64 m.id, .int .i64 m.pa, .int .i64 m.ba, .int .i64 m.vo, .int .i64 m.os, .int .i64 m.sn, .int .i64 m.sd, .int .i64 m.ln, .int .i64 m.ld, .int .i64 m.st, .int .i64 m.al, .int .i64 m.oc] 42)) m; rw [World.size_alloc] at h; exact h) (rowO_cells m) (by unfold maxLen; omega) (by omega) (by simp; omega) ?_; intro v' w5 hown5 hgrow5 _; have hG5 := (hGA.alloc hGA.size (.cells #[.int .i64 m.id, .int .i64 m.pa, .int .i64 m.ba, .int .i64 m.vo, .int .i64 m.os, .int .i64 m.sn, .int .i64 m.sd, .int .i64 m.ln, .int .i64 m.ld, .int .i64 m.st, .int .i64 m.al, .int .i64 m.oc] 42)).grown hgrow5 (by have := hG.size; simp; omega) (fun j hj => by have := hne j hj; omega); have hsz5 := hgrow5.size; obtain ⟨g', cap', rfl⟩ := ownsRow_succ hown5) | fail)
            go_roundw
            case rel => exact ⟨i + 1, _, n + 1, _, by omega, (by simp), rfl, (by rw [← HS.out]; exact hown5), hG5, by simp at hsz5; omega⟩
            case measure => simp [intOf]; omega
          · have hoF : (wr.alloc (.cells #[.int .i64 m.id, .int .i64 m.pa, .int .i64 m.ba, .int .i64 m.vo, .int .i64 m.os, .int .i64 m.sn, .int .i64 m.sd, .int .i64 m.ln, .int .i64 m.ld, .int .i64 m.st, .int .i64 m.al, .int .i64 m.oc] 42)).ownsRow w4.heap.size 42 12 (.slice D n c) n (vO ((l.take (i + 1)).filter (fun n : No.Nt => decide (n.pa = part) && decide (n.ba = bar)))) := by
              rw [HT.out, List.filter_append]; simpa [List.filter, hpp, hbp] using hoA
            have heq := fun W => eq2 m.pa m.ba part bar false (decide_eq_false (fun h => hbp h.2)) W
            clear hpp hbp
            go_wp2_with fail
            go_roundw
            case rel => exact ⟨i + 1, D, n, c, by omega, (by simp), rfl, hoF, hGA, by simp; omega⟩
            case measure => simp [intOf]; omega
        · have hoF : (wr.alloc (.cells #[.int .i64 m.id, .int .i64 m.pa, .int .i64 m.ba, .int .i64 m.vo, .int .i64 m.os, .int .i64 m.sn, .int .i64 m.sd, .int .i64 m.ln, .int .i64 m.ld, .int .i64 m.st, .int .i64 m.al, .int .i64 m.oc] 42)).ownsRow w4.heap.size 42 12 (.slice D n c) n (vO ((l.take (i + 1)).filter (fun n : No.Nt => decide (n.pa = part) && decide (n.ba = bar)))) := by
            rw [HT.out, List.filter_append]; simpa [List.filter, hpp] using hoA
          have heq := fun W => eq2 m.pa m.ba part bar false (decide_eq_false (fun h => hpp h.1)) W
          clear hpp
          go_wp2_with fail
          go_roundw
          case rel => exact ⟨i + 1, D, n, c, by omega, (by simp), rfl, hoF, hGA, by simp; omega⟩
          case measure => simp [intOf]; omega
      · obtain rfl : i = len := by omega
        have HO : Hid (wr.ownsRow w4.heap.size 42 12 (.slice D n c) n (vO (l.filter (fun n : No.Nt => decide (n.pa = part) && decide (n.ba = bar))))) := Lib.hid (by rwa [List.take_of_length_le (by rw [HM.out]; exact Nat.le_refl _)] at ho)
        have hq1 : ¬ (i : Int) < (i : Int) := by omega
        clear ho
        go_wp2_with fail
        refine (torder_is bs blen bcap B HN.out HF.out.1 _ (HB.out.below hG) (HG.out.below hG)).mono ?_; rintro e w5 ⟨hb5, Bk, Bs, Bi, Bm, D2, rfl, hO, h1, h2, h3, h4⟩
        have HOR := Lib.hid hO
        have HO5 : Hid (w5.ownsRow w4.heap.size 42 12 (.slice D n c) n (vO (l.filter (fun n : No.Nt => decide (n.pa = part) && decide (n.ba = bar))))) := Lib.hid (HO.out.kept (below_grown' hb5) onone_ne)
        have HSH := Lib.hid (own_shape HO.out)
        have hgl := HG.out.lt
        have hb6 := hG.trans (hb5.mono hG.size)
        clear hO
        go_wp2_with fail
        refine (tsort_is bs HF.out.1 (l.filter (fun n : No.Nt => decide (n.pa = part) && decide (n.ba = bar))) (fun x hx => HF.out.2.2.1 x (List.mem_filter.1 hx).1) ((List.Pairwise.sublist List.filter_sublist HF.out.2.2.2)) (by have h := List.length_filter_le (fun n : No.Nt => decide (n.pa = part) && decide (n.ba = bar)) l; rw [HM.out] at h; omega) w4.heap.size 42 D n c w5 HO5.out (by have := hb5.size; omega) Bk Bs Bi Bm blen D2 HOR.out (fun g hg => by
          rcases HSH.out with ⟨k1, _⟩ | ⟨g2, k1, k2, k3⟩
          · rw [hg] at k1; cases k1
          · rw [hg] at k1; cases k1; omega)).mono ?_; rintro e w6 ⟨rfl, hs, hb7⟩
        have hD := own_o HO5.out
        go_wp2_with fail
        go_ret2
        refine ⟨.inr (.inr ⟨HV.out, by rw [HR.out]; omega, D, n, c, rfl, ?_, hs, ?_, own_cap HO5.out⟩), hb6.trans (hb7.mono z4)⟩
        · have := (No.srt_perm (lt := No.lt bs) (l.filter (fun n : No.Nt => decide (n.pa = part) && decide (n.ba = bar)))).length_eq
          unfold No.own
          rw [this]; exact hD.1
        · obtain ⟨_, A', c', e', _, h'⟩ := hD
          injection e' with e1 e2 e3
          subst e1 e3
          exact h'
end Go.Proofs.YthamkigdpgajaaaDoor

/- The walk of notes' spans: a function that is ranged over, with a variable of its own. -/
namespace Go.Proofs.YthamkigdpgajaaaDoor
open Go.RowKit Go.Shelf Go.Maps

attribute [local go_sem] Oper.semAt_some

namespace No
theorem fold_tail : ∀ (l : List Sp) (s : Sp) (t : List Sp), ∃ u, l.foldl (fun acc s => addS s acc) (s :: t) = u ++ t
  | [], s, t => ⟨[s], rfl⟩
  | x :: l, s, t => by
    rw [List.foldl_cons, addS_cons]
    split
    · exact fold_tail l _ t
    · obtain ⟨u, h2⟩ := fold_tail l x (s :: t)
      exact ⟨u ++ [s], by rw [h2]; simp⟩
theorem joinR_succ {l : List Sp} {k : Nat} (hk : k < l.length) : joinR (l.take (k + 1)) = addS l[k] (joinR (l.take k)) := by
  unfold joinR
  rw [List.take_succ_eq_append_getElem hk, List.foldl_append]
  rfl
theorem join_prefix {l : List Sp} {k : Nat} (hk : k < l.length) {acc : List Sp} (ha : joinR (l.take k) = acc) (hn : addS l[k] acc = l[k] :: acc) : acc.reverse <+: join l := by
  have h1 : joinR l = (l.drop (k + 1)).foldl (fun acc s => addS s acc) (l[k] :: acc) := by
    rw [← hn, ← ha, ← joinR_succ hk]
    conv => lhs; rw [← List.take_append_drop (k + 1) l]
    unfold joinR
    rw [List.foldl_append]
  obtain ⟨u, h2⟩ := fold_tail (l.drop (k + 1)) l[k] acc
  unfold join
  rw [h1, h2, List.reverse_append]
  exact List.prefix_append _ _
end No

theorem Var2.kr {c1 n1 n2 m b : Nat} {X Y : World} {x y : Int} (h : Var2 X b x y) (k : Kr c1 n1 n2 m X Y) (hb : n1 ≤ b ∧ b < n2) : Var2 Y b x y :=
  ⟨⟨Nat.lt_of_lt_of_le h.at2.lt k.size, k.cell (p := ⟨b, 0, none⟩) (.inr (.inl hb)) h.at2.c0, k.cell (p := ⟨b, 1, none⟩) (.inr (.inl hb)) h.at2.c1⟩, (k.frozen (p := ⟨b, 0, none⟩) (.inr (.inl hb)) h.at2.c0).trans h.f0, (k.frozen (p := ⟨b, 1, none⟩) (.inr (.inl hb)) h.at2.c1).trans h.f1⟩
theorem At2.kr {c1 n1 n2 m b : Nat} {X Y : World} {x y : Int} (h : At2 X b x y) (k : Kr c1 n1 n2 m X Y) (hb : n1 ≤ b ∧ b < n2) : At2 Y b x y :=
  ⟨Nat.lt_of_lt_of_le h.lt k.size, k.cell (p := ⟨b, 0, none⟩) (.inr (.inl hb)) h.c0, k.cell (p := ⟨b, 1, none⟩) (.inr (.inl hb)) h.c1⟩
theorem Var2.snd {w : World} {b : Nat} {x y : Int} (h : Var2 w b x y) (q : Int) : Var2 (w.setCell ⟨b, 1, none⟩ (.int .i64 q)) b x q := by
  obtain ⟨⟨l, c0, c1⟩, f0, f1⟩ := h
  refine ⟨⟨?_, ?_, ?_⟩, ?_, ?_⟩
  · simpa using l
  all_goals go_simp

set_option maxHeartbeats 8000000 in
set_option maxRecDepth 100000 in
theorem tspans_in (l : List No.Nt) (len cap : Nat) (A : Option Addr) (L Bl c1 : Nat) (hl : l.length = len) (hmax : len ≤ 1000000) (hok : ∀ n ∈ l, 0 ≤ No.start n ∧ 0 < No.leng n ∧ No.start n + No.leng n ≤ 1000000) (J : Nat → List No.Sp → World → Prop) (Jx : List No.Sp → World → Prop) (W : World)
    (hJ : ∀ m s X Y, J m s X → Acts W.heap.size (W.heap.size + 2) X Y → J m s Y) (hB : Bl < c1) (hc : c1 ≤ W.heap.size) (hBl : W.cell? ⟨Bl, 0, none⟩ = some (.slice A len cap)) (hA : 0 < l.length → ∀ b off, A = some ⟨b, off, none⟩ → b < c1) (hL : SlO W A l)
    (hY : ∀ m pre x X, pre ++ [x] <+: No.join (l.map No.spn) → W.heap.size ≤ m → m ≤ X.heap.size → J m pre X → W.heap.size + 2 ≤ X.heap.size → YieldAt Fence.wide 7 Tryd.prog L #[.agg #[.int .i64 x.1, .int .i64 x.2]] X fun e Y =>
      (e = .returned (.bool true) ∧ J Y.heap.size (pre ++ [x]) Y ∧ Kr c1 W.heap.size (W.heap.size + 2) m X Y) ∨ (e = .returned (.bool false) ∧ Jx (pre ++ [x]) Y ∧ Kr c1 W.heap.size (W.heap.size + 2) m X Y))
    (h0 : J W.heap.size [] W) :
    CallsIn Fence.wide 8 Tryd.prog 70 #[.func (.yield L) #[] #[], .pointer (some ⟨Bl, 0, none⟩)] W fun e Y => (∃ v, e = .returned v) ∧ ((W.heap.size + 2 ≤ Y.heap.size ∧ ∃ m, m ≤ Y.heap.size ∧ J m (No.join (l.map No.spn)) Y) ∨ ∃ pre, pre <+: No.join (l.map No.spn) ∧ Jx pre Y) := by
  have HN := Lib.hid hl
  have HL := Lib.hid hL
  have HJ := Lib.hid hJ
  have HY := Lib.hid hY
  have HA := Lib.hid hA
  have HOK := Lib.hid hok
  clear hl hL hJ hY hA hok
  refine callsIn_of_wp Tryd.func70 rfl trivial ?_ rfl
  simp only [Tryd.ntmps70, List.size_toArray, List.length_cons, List.length_nil, Nat.reduceAdd, Nat.reduceSub, Array.replicate_succ, Array.replicate_zero, List.push_toArray, List.append_toArray, List.nil_append, List.cons_append]
  have hn7 : 1 ≤ 8 := by omega
  have V0 : Var2 ((W.alloc (.cells #[.int .i64 0, .int .i64 0] 74)).alloc (.cells #[.int .i64 0, .int .i64 0] 74)) W.heap.size 0 0 := (Var2.new W 0 0 _).alloc _
  have N0 : At2 ((W.alloc (.cells #[.int .i64 0, .int .i64 0] 74)).alloc (.cells #[.int .i64 0, .int .i64 0] 74)) (W.heap.size + 1) 0 0 := by
    have h := At2.new (W.alloc (.cells #[.int .i64 0, .int .i64 0] 74)) 0 0 74
    rwa [World.size_alloc] at h
  have G0 : Below c1 W ((W.alloc (.cells #[.int .i64 0, .int .i64 0] 74)).alloc (.cells #[.int .i64 0, .int .i64 0] 74)) := ((Below.refl _ _).alloc hc _).alloc (by simp; omega) _
  have J0 := HJ.out _ _ _ _ h0 (((Acts.refl W.heap.size (W.heap.size + 2) W).alloc (.cells #[.int .i64 0, .int .i64 0] 74)).alloc (.cells #[.int .i64 0, .int .i64 0] 74))
  have hBl0 := (G0.cell (p := ⟨Bl, 0, none⟩) hB).trans hBl
  clear hBl h0
  gi_wp2
  clear hBl0
  gi_loopw [13] (fun s13 wr => ∃ (k m : Nat) (q jx jy : Int) (acc : List No.Sp), k ≤ len ∧ q = k ∧ s13 = .int .i64 q ∧ (W.heap.size ≤ m ∧ m ≤ wr.heap.size) ∧ Hid (No.joinR ((l.take k).map No.spn) = acc) ∧ ((acc = [] ∧ jx = 0 ∧ jy = 0) ∨ (∃ rest, acc = (jx, jy) :: rest) ∧ 0 ≤ jx ∧ jx < jy ∧ jy ≤ 1000000) ∧ Hid (J m acc.tail.reverse wr) ∧ Var2 wr W.heap.size jx jy ∧ At2 wr (W.heap.size + 1) 0 0 ∧ Below c1 W wr ∧ W.heap.size + 2 ≤ wr.heap.size) (fun s13 _ => len - (intOf s13).toNat)
  case atStart => exact ⟨0, W.heap.size, 0, 0, 0, [], Nat.zero_le _, rfl, rfl, ⟨Nat.le_refl _, by simp; omega⟩, Lib.hid rfl, .inl ⟨rfl, rfl, rfl⟩, Lib.hid J0, V0, N0, G0, by simp⟩
  case round =>
    clear V0 N0 G0 J0
    obtain ⟨k, m, q, jx, jy, acc, hk, hq, rfl, ⟨hm1, hm2⟩, HAC, hst, HJs, V, N, hG, hsz⟩ := hrel
    have hjy : 0 ≤ jx ∧ 0 ≤ jy ∧ jy ≤ 1000000 := by rcases hst with ⟨_, h1, h2⟩ | ⟨_, h1, h2, h3⟩ <;> omega
    obtain ⟨hj0, hj1, hj2⟩ := hjy
    by_cases hlt : k < len
    · have hil : k < l.length := by rw [HN.out]; omega
      obtain ⟨bb, off, rfl, hbb, hcc⟩ := HL.out (by omega)
      have hbc := HA.out (by omega) bb off rfl
      have NA := (hcc k hil).below hG hbc
      obtain ⟨hx0, hx1, hx2⟩ := HOK.out _ (atO_mem hil)
      obtain ⟨x, hx⟩ : ∃ x, atO l k = x := ⟨_, rfl⟩
      rw [hx] at NA hx0 hx1 hx2
      obtain ⟨t, ht⟩ : ∃ t, No.start x = t := ⟨_, rfl⟩
      obtain ⟨u, hu⟩ : ∃ u, No.leng x = u := ⟨_, rfl⟩
      rw [ht] at hx0 hx2
      rw [hu] at hx1 hx2
      have hil2 : k < (l.map No.spn).length := by simpa using hil
      have hspn : (l.map No.spn)[k] = (t, t + u) := by
        rw [List.getElem_map, ← atO_eq hil, hx]
        show (No.start x, No.start x + No.leng x) = _
        rw [ht, hu]
      have HAS : Hid (No.joinR ((l.take (k + 1)).map No.spn) = No.addS (t, t + u) acc) := Lib.hid (by
        rw [List.map_take, No.joinR_succ hil2, hspn, ← List.map_take, HAC.out])
      have HPX : Hid (No.addS (t, t + u) acc = (t, t + u) :: acc → acc.reverse <+: No.join (l.map No.spn)) := Lib.hid (fun h => No.join_prefix hil2 (by rw [← List.map_take]; exact HAC.out) (by rw [hspn]; exact h))
      have HT : Hid (Mt.tk x.sn x.sd = t) := Lib.hid ht
      have HU : Hid (Mt.tk x.ln x.ld = u) := Lib.hid hu
      have hq1 : q < (len : Int) := by omega
      have hq3 : 0 ≤ q := by omega
      have hqn : q.toNat = k := by omega
      have hq4 : q ≤ 1000000 := by omega
      have HQ := Lib.hid hq
      obtain ⟨c0, c1', c2, c3, c4, c5, c6, c7, c8, c9, c10, c11⟩ := NA
      replace c0 : wr.cell? ⟨bb, off + k * 12, none⟩ = some (.int .i64 x.id) := c0
      have X0 := NtB.new wr x
      obtain ⟨d5, d6⟩ := And.intro X0.c5 X0.c6
      have VA := V.alloc (.cells #[.int .i64 x.id, .int .i64 x.pa, .int .i64 x.ba, .int .i64 x.vo, .int .i64 x.os, .int .i64 x.sn, .int .i64 x.sd, .int .i64 x.ln, .int .i64 x.ld, .int .i64 x.st, .int .i64 x.al, .int .i64 x.oc] 42)
      have NA := N.alloc (.cells #[.int .i64 x.id, .int .i64 x.pa, .int .i64 x.ba, .int .i64 x.vo, .int .i64 x.os, .int .i64 x.sn, .int .i64 x.sd, .int .i64 x.ln, .int .i64 x.ld, .int .i64 x.st, .int .i64 x.al, .int .i64 x.oc] 42)
      have GA := hG.alloc (by omega) (.cells #[.int .i64 x.id, .int .i64 x.pa, .int .i64 x.ba, .int .i64 x.vo, .int .i64 x.os, .int .i64 x.sn, .int .i64 x.sd, .int .i64 x.ln, .int .i64 x.ld, .int .i64 x.st, .int .i64 x.al, .int .i64 x.oc] 42)
      have JA := Lib.hid (HJ.out _ _ _ _ HJs.out ((Acts.refl W.heap.size (W.heap.size + 2) wr).alloc (.cells #[.int .i64 x.id, .int .i64 x.pa, .int .i64 x.ba, .int .i64 x.vo, .int .i64 x.os, .int .i64 x.sn, .int .i64 x.sd, .int .i64 x.ln, .int .i64 x.ld, .int .i64 x.st, .int .i64 x.al, .int .i64 x.oc] 42)))
      clear hq hcc hil hil2 hspn ht hu hx V N hG HJs HAC
      gi_wp2_with fail
      refine ⟨trivial, ?_⟩
      refine (callsIn_wide.2 (munits_is x.sn x.sd t HT.out hx0 _)).mono ?_; rintro e w2 ⟨rfl, hb⟩
      have VB := VA.below hb
      have NB := NA.below hb
      have X1 := X0.below hb
      have GB := GA.trans (hb.mono (by simp; omega))
      have z2 : W.heap.size + 2 ≤ w2.heap.size ∧ m ≤ w2.heap.size := by have := hb.size; simp at this; omega
      have JB := Lib.hid (HJ.out _ _ _ _ JA.out (.ofBelow hb))
      clear c0 c1' c2 c3 c4 c5 c6 c7 c8 c9 c10 c11 d5 d6 hb X0 VA NA GA JA
      obtain ⟨d7, d8⟩ := And.intro X1.c7 X1.c8
      gi_wp2_with fail
      refine ⟨trivial, ?_⟩
      refine (callsIn_wide.2 (munits_is x.ln x.ld u HU.out (by omega) _)).mono ?_; rintro e w3 ⟨rfl, hb⟩
      have VC := VB.below hb
      have NC := NB.below hb
      have GC := GB.trans (hb.mono (by omega))
      obtain ⟨z3, m3⟩ : W.heap.size + 2 ≤ w3.heap.size ∧ m ≤ w3.heap.size := by have := hb.size; omega
      have JC := Lib.hid (HJ.out _ _ _ _ JB.out (.ofBelow hb))
      clear d7 d8 hb X1 VB NB GB JB
      obtain ⟨v0, v1, f0, f1⟩ := And.intro VC.at2.c0 (And.intro VC.at2.c1 (And.intro VC.f0 VC.f1))
      by_cases hle : t ≤ jy
      · obtain ⟨z, hz⟩ : ∃ z, max jy (t + u) = z := ⟨_, rfl⟩
        have hz1 : jy ≤ z ∧ t + u ≤ z ∧ z ≤ 1000000 := by omega
        have HAN : Hid (No.joinR ((l.take (k + 1)).map No.spn) = (jx, z) :: acc.tail) := Lib.hid (by
          rw [HAS.out]
          rcases hst with ⟨rfl, rfl, rfl⟩ | ⟨⟨rest, rfl⟩, _⟩
          · have : t = 0 := by omega
            subst this
            show [((0 : Int), 0 + u)] = _
            rw [← hz]; simp; omega
          · rw [No.addS_cons, if_pos hle, ← hz]; rfl)
        have hjz : jx < z := by rcases hst with ⟨_, h1, h2⟩ | ⟨_, h1, h2, h3⟩ <;> omega
        have VD := VC.snd z
        have ND := NC.ne W.heap.size 1 (.int .i64 z) (by omega)
        have GD := GC.setCell (p := ⟨W.heap.size, 1, none⟩) hc (.int .i64 z)
        have JD := Lib.hid (HJ.out _ _ _ _ JC.out (Acts.setCell (p := ⟨W.heap.size, 1, none⟩) (Nat.le_refl _) (by simp) (.int .i64 z)))
        clear hst HPX HAS VC NC GC JC
        gi_wp2
        go_roundw
        case rel => exact ⟨k + 1, m, q + 1, jx, z, (jx, z) :: acc.tail, by omega, (by have := HQ.out; omega), rfl, ⟨hm1, by simp; omega⟩, HAN, .inr ⟨⟨_, rfl⟩, hj0, hjz, hz1.2.2⟩, JD, VD, ND, GD, by simp; omega⟩
        case measure => have := HQ.out; simp [intOf]; omega
      · rcases hst with ⟨rfl, rfl, rfl⟩ | ⟨⟨rest, rfl⟩, h1, h2, h3⟩
        · have HAN : Hid (No.joinR ((l.take (k + 1)).map No.spn) = [(t, t + u)]) := HAS
          have heq := fun X => eq2 0 0 0 0 true (by decide) X
          obtain ⟨n0, n1⟩ := And.intro NC.c0 NC.c1
          have VD := VC.put t (t + u)
          have ND := (NC.ne W.heap.size 0 (.int .i64 t) (by omega)).ne W.heap.size 1 (.int .i64 (t + u)) (by omega)
          have GD := (GC.setCell (p := ⟨W.heap.size, 0, none⟩) hc (.int .i64 t)).setCell (p := ⟨W.heap.size, 1, none⟩) hc (.int .i64 (t + u))
          have JD := Lib.hid (HJ.out _ _ _ _ JC.out ((Acts.setCell (p := ⟨W.heap.size, 0, none⟩) (Nat.le_refl _) (by simp) (.int .i64 t)).trans (Acts.setCell (p := ⟨W.heap.size, 1, none⟩) (Nat.le_refl _) (by simp) (.int .i64 (t + u)))))
          clear HPX HAS VC NC GC JC
          gi_wp2
          refine ⟨(by intro f h; cases h), ?_⟩
          gi_wp2
          go_roundw
          case rel => exact ⟨k + 1, m, q + 1, t, t + u, [(t, t + u)], by omega, (by have := HQ.out; omega), rfl, ⟨hm1, by simp; omega⟩, HAN, .inr ⟨⟨_, rfl⟩, hx0, by omega, hx2⟩, JD, VD, ND, GD, by simp; omega⟩
          case measure => have := HQ.out; simp [intOf]; omega
        · have hadd : No.addS (t, t + u) ((jx, jy) :: rest) = (t, t + u) :: (jx, jy) :: rest := by rw [No.addS_cons, if_neg hle]
          have HAN : Hid (No.joinR ((l.take (k + 1)).map No.spn) = (t, t + u) :: (jx, jy) :: rest) := Lib.hid (by rw [HAS.out]; exact hadd)
          have hpre := HPX.out hadd
          rw [List.reverse_cons] at hpre
          have heq := fun X => eq2 jx jy 0 0 false (decide_eq_false (by omega)) X
          obtain ⟨n0, n1⟩ := And.intro NC.c0 NC.c1
          obtain ⟨fn, tmps, assign, body, hy, hR⟩ := HY.out m rest.reverse (jx, jy) w3 hpre hm1 m3 JC.out z3
          dsimp only at hy
          have HR := Lib.hid hR
          have HPP := Lib.hid hpre
          clear hR hpre hadd HPX HAS JC
          gi_wp2
          refine HR.out.mono ?_
          clear HR hy v0 v1 f0 f1 n0 n1
          rintro e Y (⟨rfl, hJ3, hK3⟩ | ⟨rfl, hJx3, hKx⟩)
          · have VK := VC.kr hK3 (by omega)
            have NK := NC.kr hK3 (by omega)
            have GK := GC.trans (hK3.below (by omega))
            have zY : W.heap.size + 2 ≤ Y.heap.size := by have := hK3.size; omega
            obtain ⟨v0, v1, f0, f1⟩ := And.intro VK.at2.c0 (And.intro VK.at2.c1 (And.intro VK.f0 VK.f1))
            have VD := VK.put t (t + u)
            have ND := (NK.ne W.heap.size 0 (.int .i64 t) (by omega)).ne W.heap.size 1 (.int .i64 (t + u)) (by omega)
            have GD := (GK.setCell (p := ⟨W.heap.size, 0, none⟩) hc (.int .i64 t)).setCell (p := ⟨W.heap.size, 1, none⟩) hc (.int .i64 (t + u))
            have JD := Lib.hid (HJ.out _ _ _ _ hJ3 ((Acts.setCell (p := ⟨W.heap.size, 0, none⟩) (Nat.le_refl _) (by simp) (.int .i64 t)).trans (Acts.setCell (p := ⟨W.heap.size, 1, none⟩) (Nat.le_refl _) (by simp) (.int .i64 (t + u)))))
            clear VC NC GC hJ3 hK3 VK NK GK
            gi_wp2
            go_roundw
            case rel => exact ⟨k + 1, Y.heap.size, q + 1, t, t + u, (t, t + u) :: (jx, jy) :: rest, by omega, (by have := HQ.out; omega), rfl, ⟨by omega, by simp⟩, HAN, .inr ⟨⟨_, rfl⟩, hx0, by omega, hx2⟩, Lib.hid (by rw [List.tail_cons, List.reverse_cons]; exact JD.out), VD, ND, GD, by simp; omega⟩
            case measure => have := HQ.out; simp [intOf]; omega
          · gi_wp2
            refine bodyPost_ret (results_none rfl _ _ _) rfl ?_
            exact ⟨⟨_, rfl⟩, .inr ⟨_, HPP.out, hJx3⟩⟩
    · obtain rfl : k = len := by omega
      have hq1 : ¬ q < (k : Int) := by omega
      have HF : Hid (No.join (l.map No.spn) = acc.reverse) := Lib.hid (by
        have h := HAC.out
        rw [List.take_of_length_le (by rw [HN.out]; exact Nat.le_refl _)] at h
        unfold No.join
        rw [h])
      obtain ⟨v0, v1, n0, n1⟩ := And.intro V.at2.c0 (And.intro V.at2.c1 (And.intro N.c0 N.c1))
      clear hq HAC
      rcases hst with ⟨rfl, rfl, rfl⟩ | ⟨⟨rest, rfl⟩, h1, h2, h3⟩
      · have heq := fun X => eq2 0 0 0 0 true (by decide) X
        gi_wp2
        go_end0
        exact ⟨⟨_, rfl⟩, .inl ⟨hsz, m, hm2, by rw [HF.out]; exact HJs.out⟩⟩
      · have heq := fun X => eq2 jx jy 0 0 false (decide_eq_false (by omega)) X
        have hfull : rest.reverse ++ [(jx, jy)] = No.join (l.map No.spn) := by rw [HF.out, List.reverse_cons]
        obtain ⟨fn, tmps, assign, body, hy, hR⟩ := HY.out m rest.reverse (jx, jy) wr (by rw [hfull]; exact List.prefix_refl _) hm1 hm2 HJs.out hsz
        dsimp only at hy
        have HR := Lib.hid hR
        have HFU := Lib.hid hfull
        clear hR hfull
        gi_wp2
        refine HR.out.mono ?_
        clear HR hy
        rintro e Y (⟨rfl, hJ3, hK3⟩ | ⟨rfl, hJx3, hKx⟩)
        · gi_wp2
          go_end0
          exact ⟨⟨_, rfl⟩, .inl ⟨by have := hK3.size; omega, _, Nat.le_refl _, by rw [← HFU.out]; exact hJ3⟩⟩
        · gi_wp2
          go_end0
          exact ⟨⟨_, rfl⟩, .inr ⟨_, by rw [← HFU.out]; exact List.prefix_refl _, hJx3⟩⟩

/-- The spans of notes, one after the other. -/
theorem tspans_seq (l : List No.Nt) (len cap : Nat) (A : Option Addr) (Bl c1 : Nat) (hl : l.length = len) (hmax : len ≤ 1000000) (hok : ∀ n ∈ l, 0 ≤ No.start n ∧ 0 < No.leng n ∧ No.start n + No.leng n ≤ 1000000) (w : World) (hB : Bl < c1) (hc : c1 ≤ w.heap.size) (hBl : w.cell? ⟨Bl, 0, none⟩ = some (.slice A len cap)) (hA : 0 < l.length → ∀ b off, A = some ⟨b, off, none⟩ → b < c1) (hL : SlO w A l) :
    Seq2 Tryd.prog 70 #[.pointer (some ⟨Bl, 0, none⟩)] (fun x : No.Sp => #[Value.agg #[.int .i64 x.1, .int .i64 x.2]]) c1 2 (No.join (l.map No.spn)) w := fun L J Jx W hW hJ _ hY h0 =>
  tspans_in l len cap A L Bl c1 hl hmax hok J Jx W hJ hB (Nat.le_trans hc hW.size) ((hW.cell (p := ⟨Bl, 0, none⟩) (Nat.lt_of_lt_of_le hB hc)).trans hBl) hA (hL.below hW) hY h0

set_option maxHeartbeats 800000 in
theorem tspansm_is (A : Option Addr) (len cap : Nat) (w : World) :
    Calls Tryd.prog 44 #[.slice A len cap] w fun e w' => e = .returned (.func (.func 70) #[] #[.pointer (some ⟨w.heap.size, 0, none⟩)]) ∧ w' = w.alloc (.cells #[.slice A len cap] 23) := by
  go_enter Tryd.func44, Tryd.ntmps44
  go_wp2_with fail
  go_ret
  exact ⟨rfl, rfl⟩
end Go.Proofs.YthamkigdpgajaaaDoor

/- The walk of notes' gaps: a function that is ranged over, and ranges over another one. -/
namespace Go.Proofs.YthamkigdpgajaaaDoor
open Go.RowKit Go.Shelf Go.Maps

attribute [local go_sem] Oper.semAt_some

theorem room_any {F : Fence} (hd : F.depth = none) (k : Nat) : F.room k := fun d h => by rw [hd] at h; cases h
theorem round_any {F G : Fence} (hd : F.depth = none) (hf : G.fn = F.fn) {m m' : Nat} {P : Program} {l : Nat} {f : FuncId} {tmps : Array Value} {assign body : Code} {w : World} {R : Ending → World → Prop}
    (hG : Machine.fenced P G = Machine.fenced P F) (h : RoundIn F m P l f tmps assign body w R) : RoundIn G m' P l f tmps assign body w R := ⟨by rw [hf]; exact h.1, fun c cs _ => by rw [hG]; exact h.2 c cs (room_any hd _)⟩

namespace No
/-- Where the spans so far end, and the gaps between them. -/
def gst (a : Int × List Sp) (s : Sp) : Int × List Sp := (s.2, if a.1 < s.1 then a.2 ++ [(a.1, s.1)] else a.2)
def gs (l : List Sp) : Int × List Sp := l.foldl gst (0, [])
theorem gs_snoc (l : List Sp) (s : Sp) : gs (l ++ [s]) = gst (gs l) s := by unfold gs; rw [List.foldl_append]; rfl
theorem gst_app : ∀ (l : List Sp) (f : Int) (g : List Sp), (l.foldl gst (f, g)).2 = g ++ (l.foldl gst (f, [])).2 ∧ (l.foldl gst (f, g)).1 = (l.foldl gst (f, [])).1
  | [], f, g => by simp
  | s :: l, f, g => by
    rw [List.foldl_cons, List.foldl_cons]
    by_cases h : f < s.1
    · have e1 : gst (f, g) s = (s.2, g ++ [(f, s.1)]) := by unfold gst; simp [h]
      have e2 : gst (f, []) s = (s.2, [] ++ [(f, s.1)]) := by unfold gst; simp [h]
      obtain ⟨a1, a2⟩ := gst_app l s.2 (g ++ [(f, s.1)])
      obtain ⟨b1, b2⟩ := gst_app l s.2 ([] ++ [(f, s.1)])
      rw [e1, e2]
      exact ⟨by rw [a1, b1]; simp, by rw [a2, b2]⟩
    · have e1 : gst (f, g) s = (s.2, g) := by unfold gst; simp [h]
      have e2 : gst (f, []) s = (s.2, []) := by unfold gst; simp [h]
      rw [e1, e2]
      exact gst_app l s.2 g
theorem gaps_gs (e : Int) : ∀ (l : List Sp) (f : Int), gaps e f l = (l.foldl gst (f, [])).2 ++ (if (l.foldl gst (f, [])).1 < e then [((l.foldl gst (f, [])).1, e)] else [])
  | [], f => by show (if f < e then [(f, e)] else []) = [] ++ (if f < e then [(f, e)] else []); rw [List.nil_append]
  | s :: l, f => by
    have h1 := gaps_gs e l s.2
    unfold gaps
    rw [List.foldl_cons, h1]
    by_cases h : f < s.1
    · have h2 : gst (f, []) s = (s.2, [(f, s.1)]) := by unfold gst; simp [h]
      obtain ⟨a1, a2⟩ := gst_app l s.2 [(f, s.1)]
      rw [if_pos h, h2, a1, a2]
      simp
    · have h2 : gst (f, []) s = (s.2, []) := by unfold gst; simp [h]
      rw [if_neg h, h2]
theorem gs_prefix {a b : List Sp} (h : a <+: b) : (gs a).2 <+: (gs b).2 := by
  obtain ⟨c, rfl⟩ := h
  unfold gs
  rw [List.foldl_append]
  obtain ⟨h1, _⟩ := gst_app c (a.foldl gst (0, [])).1 (a.foldl gst (0, [])).2
  rw [show ((a.foldl gst (0, [])).1, (a.foldl gst (0, [])).2) = a.foldl gst (0, []) from rfl] at h1
  rw [h1]
  exact List.prefix_append _ _
theorem gs_gaps (e : Int) (l : List Sp) : gaps e 0 l = (gs l).2 ++ (if (gs l).1 < e then [((gs l).1, e)] else []) := gaps_gs e l 0
end No

set_option maxHeartbeats 8000000 in
set_option maxRecDepth 100000 in
theorem tgaps_in (full : List No.Sp) (e : Int) (sp : Nat) (lb : Array Value) (esp : ∀ args w, (callFunc sp args).run Tryd.prog w = .ok (.enter sp args) w) (L Bs Bl c1 d : Nat) (J : Nat → List No.Sp → World → Prop) (Jx : List No.Sp → World → Prop) (W : World)
    (hin : Seq2 Tryd.prog sp lb (fun x : No.Sp => #[Value.agg #[.int .i64 x.1, .int .i64 x.2]]) c1 d full W)
    (hJ : ∀ m s X Y, J m s X → Acts W.heap.size (W.heap.size + (4 + d)) X Y → J m s Y) (hJx : ∀ s X Y, Jx s X → Acts W.heap.size (W.heap.size + (4 + d)) X Y → Jx s Y) (hB1 : Bs < c1) (hB2 : Bl < c1) (hc : c1 ≤ W.heap.size)
    (hBs : W.cell? ⟨Bs, 0, none⟩ = some (.func (.func sp) #[] lb)) (hBl : W.cell? ⟨Bl, 0, none⟩ = some (.int .i64 e))
    (hY : ∀ m pre x X, pre ++ [x] <+: No.gaps e 0 full → W.heap.size ≤ m → m ≤ X.heap.size → J m pre X → W.heap.size + (4 + d) ≤ X.heap.size → YieldAt Fence.wide 7 Tryd.prog L #[.agg #[.int .i64 x.1, .int .i64 x.2]] X fun e Y =>
      (e = .returned (.bool true) ∧ J Y.heap.size (pre ++ [x]) Y ∧ Kr c1 W.heap.size (W.heap.size + (4 + d)) m X Y) ∨ (e = .returned (.bool false) ∧ Jx (pre ++ [x]) Y ∧ Kr c1 W.heap.size (W.heap.size + (4 + d)) m X Y))
    (h0 : J W.heap.size [] W) :
    CallsIn Fence.wide 8 Tryd.prog 72 #[.func (.yield L) #[] #[], .pointer (some ⟨Bs, 0, none⟩), .pointer (some ⟨Bl, 0, none⟩)] W fun e' Y => (∃ v, e' = .returned v) ∧ ((W.heap.size + (4 + d) ≤ Y.heap.size ∧ ∃ m, m ≤ Y.heap.size ∧ J m (No.gaps e 0 full) Y) ∨ ∃ pre, pre <+: No.gaps e 0 full ∧ Jx pre Y) := by
  have HIN := Lib.hid hin
  have HJ := Lib.hid hJ
  have HJX := Lib.hid hJx
  have HY := Lib.hid hY
  clear hin hJ hJx hY
  refine callsIn_of_wp_marks Tryd.func72 rfl trivial ?_ rfl
  simp only [Tryd.ntmps72, List.size_toArray, List.length_cons, List.length_nil, Nat.reduceAdd, Nat.reduceSub, Array.replicate_succ, Array.replicate_zero, List.push_toArray, List.append_toArray, List.nil_append, List.cons_append]
  have hn7 : 1 ≤ 8 := by omega
  obtain ⟨w2, hw2⟩ : ∃ w2, (W.alloc (.cells #[.func (.yield L) #[] #[]] 101)).alloc (.cells #[.int .i64 0] 3) = w2 := ⟨_, rfl⟩
  have hs2 : w2.heap.size = W.heap.size + 2 := by rw [← hw2]; simp
  have G2 : Below c1 W w2 := by rw [← hw2]; exact ((Below.refl _ _).alloc hc _).alloc (by simp; omega) _
  have B2 : Below W.heap.size W w2 := by rw [← hw2]; exact ((Below.refl _ _).alloc (Nat.le_refl _) _).alloc (by simp) _
  have Y2 : w2.cell? ⟨W.heap.size, 0, none⟩ = some (.func (.yield L) #[] #[]) := by rw [← hw2]; exact keep_alloc (new1 W (.func (.yield L) #[] #[]) _).1 _
  have F2 : w2.cell? ⟨W.heap.size + 1, 0, none⟩ = some (.int .i64 0) ∧ w2.frozen? ⟨W.heap.size + 1, 0, none⟩ = false := by
    have h := new1 (W.alloc (.cells #[.func (.yield L) #[] #[]] 101)) (.int .i64 0) 3
    rw [World.size_alloc] at h
    rw [← hw2]; exact h
  obtain ⟨w3, hw3⟩ : ∃ w3, w2.setCell ⟨W.heap.size + 1, 0, none⟩ (.int .i64 0) = w3 := ⟨_, rfl⟩
  have hs3 : w3.heap.size = W.heap.size + 2 := by rw [← hw3]; simpa using hs2
  have G3 : Below c1 W w3 := by rw [← hw3]; exact G2.setCell (p := ⟨W.heap.size + 1, 0, none⟩) (by simp; omega) _
  have B3 : Below W.heap.size W w3 := by rw [← hw3]; exact B2.setCell (p := ⟨W.heap.size + 1, 0, none⟩) (by simp) _
  have Y3 : w3.cell? ⟨W.heap.size, 0, none⟩ = some (.func (.yield L) #[] #[]) := by rw [← hw3]; exact (set_cell_ne w2 W.heap.size (W.heap.size + 1) 0 0 (.int .i64 0) (by omega)).trans Y2
  have F3 : w3.cell? ⟨W.heap.size + 1, 0, none⟩ = some (.int .i64 0) ∧ w3.frozen? ⟨W.heap.size + 1, 0, none⟩ = false := by
    rw [← hw3]; exact ⟨World.cell?_setCell_same' _ _ _ (by rw [F2.1]; rfl), by rw [World.frozen?_setCell]; exact F2.2⟩
  have J3 := HJ.out _ _ _ _ h0 (.ofBelow B3)
  have S3 := (G3.cell (p := ⟨Bs, 0, none⟩) hB1).trans hBs
  have L3 := (G3.cell (p := ⟨Bl, 0, none⟩) hB2).trans hBl
  clear h0
  obtain ⟨f2a, f2b⟩ := F2
  clear G2 B2 Y2
  gi_wp2
  clear hw2 hw3 f2a f2b
  refine wpIn_wide.2 (wp_seq2 (gf := sp) (lb := lb) rfl esp HIN.out (by omega) B3 (fun _ => rfl)
    (fun m pre X => (∃ mo, mo ≤ m ∧ W.heap.size ≤ mo ∧ J mo (No.gs pre).2 X) ∧ X.cell? ⟨W.heap.size + 1, 0, none⟩ = some (.int .i64 (No.gs pre).1) ∧ X.frozen? ⟨W.heap.size + 1, 0, none⟩ = false ∧ X.cell? ⟨W.heap.size, 0, none⟩ = some (.func (.yield L) #[] #[]) ∧ Below c1 W X)
    (fun _ X => ∃ pre, pre <+: No.gaps e 0 full ∧ Jx pre X) true 0 ?hmono ?hI ?hIx ?h0
    (fun m x a' X => ∃ b, m ≤ b ∧ w3.heap.size + 2 + d ≤ b ∧ At2 X b x.1 x.2 ∧ a' = { tmps := #[.func (.yield L) #[] #[], .pointer (some ⟨Bs, 0, none⟩), .pointer (some ⟨Bl, 0, none⟩), .pointer (some ⟨W.heap.size, 0, none⟩), .pointer (some ⟨W.heap.size + 1, 0, none⟩), .pointer (some ⟨b, 0, none⟩), .func (.func sp) #[] lb, .agg #[.int .i64 x.1, .int .i64 x.2], undef, undef, undef, undef, undef, undef, undef, undef, undef, undef, undef, undef, undef, undef, undef, undef, undef, undef, undef, undef, undef, undef, undef], defers := [] })
    ?hAx ?assign ?body ?done ?stop)
  case hmono =>
    rintro m m2 s X hm ⟨⟨mo, h1, h2, h3⟩, h4⟩
    exact ⟨⟨mo, by omega, h2, h3⟩, h4⟩
  case hI =>
    rintro m s X Y ⟨⟨mo, h1, h2, h3⟩, hf, hfr, hy, hG⟩ hb
    exact ⟨⟨mo, h1, h2, HJ.out _ _ _ _ h3 (hb.wide (by omega) (by omega))⟩, hb.cell (.inl (by simp; omega)) hf, (hb.frozen (.inl (by simp; omega)) hf).trans hfr, hb.cell (.inl (by simp; omega)) hy, hG.trans (hb.below (by omega) (by have := hG.size; omega))⟩
  case hIx =>
    rintro s X Y ⟨pre, h1, h2⟩ hb
    exact ⟨pre, h1, HJX.out _ _ _ h2 (hb.wide (by omega) (by omega))⟩
  case h0 => exact ⟨⟨W.heap.size, by omega, Nat.le_refl _, J3⟩, F3.1, F3.2, Y3, G3⟩
  case hAx =>
    rintro m x a' X o o' ⟨b, h1, h2, hA, rfl⟩ _ _
    have hne : b ≠ w3.heap.size + 1 := by omega
    exact ⟨b, h1, h2, ⟨by have := hA.lt; simpa using this, (World.cell?_of_block (w := X) (a := ⟨b, 0, none⟩) (World.putObj_heap_other hne)).trans hA.c0, (World.cell?_of_block (w := X) (a := ⟨b, 1, none⟩) (World.putObj_heap_other hne)).trans hA.c1⟩, rfl⟩
  case assign =>
    rintro Lr m pre x X hpre hm1 hm2 ⟨⟨mo, h1, h2, h3⟩, hf, hfr, hy, hG⟩ hz
    gi_wp2
    have hbX : Below X.heap.size X (X.alloc (.cells #[.int .i64 x.1, .int .i64 x.2] 74)) := (Below.refl _ _).alloc (Nat.le_refl _) _
    exact ⟨(Kr.refl _ _ _ _ _).alloc _, ⟨⟨mo, h1, h2, HJ.out _ _ _ _ h3 (.ofBelow hbX)⟩, keep_alloc hf _, (hbX.frozen (p := ⟨W.heap.size + 1, 0, none⟩) (World.block_lt_of_cell? _ _ hf)).trans hfr, keep_alloc hy _, hG.alloc (by have := hG.size; omega) _⟩, X.heap.size, hm2, hz, At2.new _ _ _ _, rfl⟩
  case body =>
    rintro Lr m pre x a' X hpre hm1 hm2 ⟨⟨mo, h1, h2, h3⟩, hf, hfr, hy, hG⟩ ⟨b, hbm, hb, hA, rfl⟩ hz
    have HG1 := Lib.hid (No.gs_snoc pre x)
    have HPR : Hid ((No.gs (pre ++ [x])).2 <+: No.gaps e 0 full) := Lib.hid (by
      rw [No.gs_gaps]
      exact (No.gs_prefix hpre).trans (List.prefix_append _ _))
    obtain ⟨f, hgf⟩ : ∃ f, (No.gs pre).1 = f := ⟨_, rfl⟩
    obtain ⟨g, hgg⟩ : ∃ g, (No.gs pre).2 = g := ⟨_, rfl⟩
    rw [hgf] at hf
    rw [hgg] at h3
    have HG2 : Hid (No.gs (pre ++ [x]) = (x.2, if f < x.1 then g ++ [(f, x.1)] else g)) := Lib.hid (by rw [HG1.out]; unfold No.gst; rw [hgf, hgg])
    obtain ⟨a0, a1⟩ := And.intro hA.c0 hA.c1
    have hcb : c1 ≤ X.heap.size := by have := hG.size; omega
    clear HG1 hgf hgg
    by_cases hlt : f < x.1
    · have HG3 : Hid (No.gs (pre ++ [x]) = (x.2, g ++ [(f, x.1)])) := Lib.hid (by rw [HG2.out, if_pos hlt])
      have hpp : g ++ [(f, x.1)] <+: No.gaps e 0 full := by have h := HPR.out; rw [HG3.out] at h; exact h
      obtain ⟨fn, tmps, assign, body, hyl, hR⟩ := HY.out mo g (f, x.1) X hpp h2 (by omega) h3 (by omega)
      dsimp only at hyl
      have HR := Lib.hid hR
      have HPP := Lib.hid hpp
      have HA := Lib.hid hA
      clear hR hpp hA HG2 HPR h3
      gi_wp2
      refine (round_any rfl rfl rfl HR.out).mono ?_
      clear HR hyl
      rintro e2 Y (⟨rfl, hJ3, hK3⟩ | ⟨rfl, hJx3, hKx⟩)
      · have zY := hK3.size
        have y1 := hK3.cell (p := ⟨b, 1, none⟩) (.inr (.inr (by simp; omega))) a1
        have yf := hK3.cell (p := ⟨W.heap.size + 1, 0, none⟩) (.inr (.inl (by simp; omega))) hf
        have yfr := (hK3.frozen (p := ⟨W.heap.size + 1, 0, none⟩) (.inr (.inl (by simp; omega))) hf).trans hfr
        have yy := hK3.cell (p := ⟨W.heap.size, 0, none⟩) (.inr (.inl (by simp; omega))) hy
        have GY := hG.trans (hK3.below hcb)
        have KY : Kr c1 w3.heap.size (w3.heap.size + 2 + d) m X Y := hK3.wide (by omega) (by omega) (by omega)
        have KZ := KY.setCell (p := ⟨W.heap.size + 1, 0, none⟩) (by simp; omega) (.inl (by simp; omega)) (by simp; omega) (.int .i64 x.2)
        have GZ := GY.setCell (p := ⟨W.heap.size + 1, 0, none⟩) (by simp; omega) (.int .i64 x.2)
        have JZ := Lib.hid (HJ.out _ _ _ _ hJ3 (Acts.setCell (p := ⟨W.heap.size + 1, 0, none⟩) (by simp) (by simp; omega) (.int .i64 x.2)))
        have fz := (set_frozen_ne Y (W.heap.size + 1) (W.heap.size + 1) 0 0 (.int .i64 x.2))
        have cz : (Y.setCell ⟨W.heap.size + 1, 0, none⟩ (.int .i64 x.2)).cell? ⟨W.heap.size + 1, 0, none⟩ = some (.int .i64 x.2) := World.cell?_setCell_same' _ _ _ (by rw [yf]; rfl)
        have cy := (set_cell_ne Y W.heap.size (W.heap.size + 1) 0 0 (.int .i64 x.2) (by omega)).trans yy
        clear hK3 KY hJ3 a0 a1 hf hfr hy GY fz
        gi_wp2
        refine ⟨KZ, ⟨Y.heap.size, by simp, by omega, ?_⟩, ?_, by rw [World.frozen?_setCell]; exact yfr, cy, GZ⟩
        · rw [HG3.out]; exact JZ.out
        · rw [HG3.out]; exact cz
      · gi_wp2
        exact ⟨by trivial, hKx.wide (by omega) (by omega) (by omega), _, HPP.out, hJx3⟩
    · have HG3 : Hid (No.gs (pre ++ [x]) = (x.2, g)) := Lib.hid (by rw [HG2.out, if_neg hlt])
      have KZ := (Kr.refl c1 w3.heap.size (w3.heap.size + 2 + d) m X).setCell (p := ⟨W.heap.size + 1, 0, none⟩) (by simp; omega) (.inl (by simp; omega)) (by simp; omega) (.int .i64 x.2)
      have GZ := hG.setCell (p := ⟨W.heap.size + 1, 0, none⟩) (by simp; omega) (.int .i64 x.2)
      have JZ := Lib.hid (HJ.out _ _ _ _ h3 (Acts.setCell (p := ⟨W.heap.size + 1, 0, none⟩) (by simp) (by simp; omega) (.int .i64 x.2)))
      have cz : (X.setCell ⟨W.heap.size + 1, 0, none⟩ (.int .i64 x.2)).cell? ⟨W.heap.size + 1, 0, none⟩ = some (.int .i64 x.2) := World.cell?_setCell_same' _ _ _ (by rw [hf]; rfl)
      have cy := (set_cell_ne X W.heap.size (W.heap.size + 1) 0 0 (.int .i64 x.2) (by omega)).trans hy
      clear h3 hA hG HG2 HPR
      gi_wp2
      refine ⟨(by intro f h; cases h), ?_⟩
      gi_wp2
      refine ⟨KZ, ⟨mo, by simp; omega, by omega, ?_⟩, ?_, by rw [World.frozen?_setCell]; exact hfr, cy, GZ⟩
      · rw [HG3.out]; exact JZ.out
      · rw [HG3.out]; exact cz
  case done =>
    rintro D X hD hzX ⟨m, hmX, ⟨mo, h1, h2, h3⟩, hf, hfr, hy, hG⟩ hK
    obtain rfl : D = W.heap.size + 2 := by omega
    have HGP := Lib.hid (No.gs_gaps e full)
    obtain ⟨f, hgf⟩ : ∃ f, (No.gs full).1 = f := ⟨_, rfl⟩
    obtain ⟨g, hgg⟩ : ∃ g, (No.gs full).2 = g := ⟨_, rfl⟩
    rw [hgf] at hf
    rw [hgg] at h3
    have HG2 : Hid (No.gaps e 0 full = g ++ if f < e then [(f, e)] else []) := Lib.hid (by rw [HGP.out, hgf, hgg])
    have hl := (hG.cell (p := ⟨Bl, 0, none⟩) hB2).trans hBl
    clear HGP hgf hgg
    by_cases hlt : f < e
    · have HG3 : Hid (No.gaps e 0 full = g ++ [(f, e)]) := Lib.hid (by rw [HG2.out, if_pos hlt])
      obtain ⟨fn, tmps, assign, body, hyl, hR⟩ := HY.out mo g (f, e) X (by rw [HG3.out]; exact List.prefix_refl _) h2 (by omega) h3 (by omega)
      dsimp only at hyl
      have HR := Lib.hid hR
      clear hR h3 HG2
      gi_wp2
      refine HR.out.mono ?_
      clear HR hyl
      rintro e2 Y (⟨rfl, hJ3, hK3⟩ | ⟨rfl, hJx3, hKx⟩)
      · have hDY : Y.heap[W.heap.size + 2]? = some (.deferred (some [])) := (hK3.same (W.heap.size + 2) (Array.getElem?_eq_some_iff.1 hK).1 (.inr (.inl ⟨by omega, by omega⟩))).trans hK
        have zY := hK3.size
        have JZ := Lib.hid (HJ.out _ _ _ _ hJ3 (Acts.putObj (l := W.heap.size + 2) (by omega) (by omega) (.deferred none)))
        clear hJ3 hK3
        gi_wp2
        refine ⟨by simp, .inl ⟨_, _, rfl, run_takeDeferred hDY, ?_⟩⟩
        refine ⟨_, results_none rfl _ _ _, ⟨_, rfl⟩, .inl ⟨by simp; omega, _, ?_, by rw [HG3.out]; exact JZ.out⟩⟩
        simp
      · have hDY : Y.heap[W.heap.size + 2]? = some (.deferred (some [])) := (hKx.same (W.heap.size + 2) (Array.getElem?_eq_some_iff.1 hK).1 (.inr (.inl ⟨by omega, by omega⟩))).trans hK
        have JZ := Lib.hid (HJX.out _ _ _ hJx3 (Acts.putObj (l := W.heap.size + 2) (by omega) (by omega) (.deferred none)))
        clear hJx3 hKx
        gi_wp2
        refine ⟨by simp, .inl ⟨_, _, rfl, run_takeDeferred hDY, ?_⟩⟩
        exact ⟨_, results_none rfl _ _ _, ⟨_, rfl⟩, .inr ⟨_, by rw [HG3.out]; exact List.prefix_refl _, JZ.out⟩⟩
    · have HG3 : Hid (No.gaps e 0 full = g) := Lib.hid (by rw [HG2.out, if_neg hlt, List.append_nil])
      have JZ := Lib.hid (HJ.out _ _ _ _ h3 (Acts.putObj (l := W.heap.size + 2) (by omega) (by omega) (.deferred none)))
      clear h3 HG2
      gi_wp2
      refine ⟨by simp, .inl ⟨_, _, rfl, run_takeDeferred hK, ?_⟩⟩
      exact ⟨_, results_none rfl _ _ _, ⟨_, rfl⟩, .inl ⟨by simp; omega, mo, by simp; omega, by rw [HG3.out]; exact JZ.out⟩⟩
  case stop =>
    rintro D pre X hD hpre ⟨pre2, h1, h2⟩ hK
    obtain rfl : D = W.heap.size + 2 := by omega
    have JZ := Lib.hid (HJX.out _ _ _ h2 (Acts.putObj (l := W.heap.size + 2) (by omega) (by omega) (.deferred none)))
    clear h2
    rw [if_pos rfl]
    gi_wp2
    refine ⟨by simp, .inl ⟨_, _, rfl, run_takeDeferred hK, ?_⟩⟩
    exact ⟨_, results_none rfl _ _ _, ⟨_, rfl⟩, .inr ⟨pre2, h1, JZ.out⟩⟩

/-- The gaps that spans leave, one after the other. -/
theorem tgaps_seq (full : List No.Sp) (e : Int) (sp : Nat) (lb : Array Value) (esp : ∀ args w, (callFunc sp args).run Tryd.prog w = .ok (.enter sp args) w) (Bs Bl c1 d : Nat) (w : World)
    (hin : Seq2 Tryd.prog sp lb (fun x : No.Sp => #[Value.agg #[.int .i64 x.1, .int .i64 x.2]]) c1 d full w) (hB1 : Bs < c1) (hB2 : Bl < c1) (hc : c1 ≤ w.heap.size)
    (hBs : w.cell? ⟨Bs, 0, none⟩ = some (.func (.func sp) #[] lb)) (hBl : w.cell? ⟨Bl, 0, none⟩ = some (.int .i64 e)) :
    Seq2 Tryd.prog 72 #[.pointer (some ⟨Bs, 0, none⟩), .pointer (some ⟨Bl, 0, none⟩)] (fun x : No.Sp => #[Value.agg #[.int .i64 x.1, .int .i64 x.2]]) c1 (4 + d) (No.gaps e 0 full) w := fun L J Jx W hW hJ hJx hY h0 =>
  tgaps_in full e sp lb esp L Bs Bl c1 d J Jx W (fun l J Jx W' hb a b c h => hin l J Jx W' (hW.trans (hb.mono hW.size)) a b c h) hJ hJx hB1 hB2 (Nat.le_trans hc hW.size)
    ((hW.cell (p := ⟨Bs, 0, none⟩) (Nat.lt_of_lt_of_le hB1 hc)).trans hBs) ((hW.cell (p := ⟨Bl, 0, none⟩) (Nat.lt_of_lt_of_le hB2 hc)).trans hBl) hY h0

set_option maxHeartbeats 800000 in
theorem tgapsm_is (sp : Nat) (lb : Array Value) (e : Int) (w : World) :
    Calls Tryd.prog 47 #[.func (.func sp) #[] lb, .int .i64 e] w fun e' w' => e' = .returned (.func (.func 72) #[] #[.pointer (some ⟨w.heap.size, 0, none⟩), .pointer (some ⟨w.heap.size + 1, 0, none⟩)]) ∧ w' = (w.alloc (.cells #[.func (.func sp) #[] lb] 81)).alloc (.cells #[.int .i64 e] 3) := by
  go_enter Tryd.func47, Tryd.ntmps47
  go_wp2_with fail
  go_ret
  exact ⟨rfl, rfl⟩
end Go.Proofs.YthamkigdpgajaaaDoor
