/- The walks of reprise's part, spans and size. -/
import Derived.Test.YtakbpgljbbkmkaaWg
namespace Go.Proofs.Ytakbpgljbbkmkaa
open Go.RowKit

theorem FB.grownS {w w' : World} {b : Nat} {h : FH} {row : Option Nat} (s : FB w b h) (hg : w.grownBy w' row) (hne : row ≠ some b) : FB w' b h := by
  have hk := hg.block b s.lt (fun e => hne e.symm)
  have c : ∀ j u, w.cell? ⟨b, j, none⟩ = some u → w'.cell? ⟨b, j, none⟩ = some u := fun j u hu => (World.cell?_of_block (w := w) (a := ⟨b, j, none⟩) hk).trans hu
  exact ⟨Nat.lt_of_lt_of_le s.lt hg.size, c 0 _ s.c0, c 1 _ s.c1, c 2 _ s.c2, c 3 _ s.c3, c 4 _ s.c4, c 5 _ s.c5, c 6 _ s.c6⟩
/-- A call's own slice that is not empty. -/
theorem own_VS {w : World} {base : Nat} {e : TypeId} {v : Value} {m : Nat} {l : List Fo.V2} (h : w.ownsRow base e 2 v m (vV l)) (hl : 0 < l.length) : ∃ g cap, v = .slice (some ⟨g, 0, none⟩) m cap ∧ l.length = m ∧ ∀ j u, (vV l)[j]? = some u → w.cell? ((⟨g, 0, none⟩ : Addr).add j) = some u := by
  have hm : l.length = m := by have := h.1; rw [vV_length] at this; omega
  rcases h.2 with ⟨_, h0⟩ | ⟨g, cap, cur, hv, _, _, _⟩
  · omega
  · exact ⟨g, cap, hv, hm, fun j u hj => h.cells (g := g) (by rw [hv]; rfl) j u hj⟩
theorem vV_len2 {l : List Fo.V2} {m : Nat} (h : l.length = m) : (vV l).length = m * 2 := by rw [vV_length, h]
theorem psg_pos (pass hi : Int) : ∀ (l : List Fo.T3) (lo : Int), 0 < (Fo.psg pass hi l lo).length
  | [], lo => by rw [Fo.psg]; simp
  | e :: l, lo => by
    unfold Fo.psg
    split
    · simp
    · exact psg_pos pass hi l lo
theorem prtS_pos (es : List Fo.T3) (first : Fo.T3 → Int) (hi : Int) : ∀ (l : List Fo.T3) (lo : Int), 0 < (Fo.prtS es first hi l lo).length
  | [], lo => by rw [Fo.prtS]; simp
  | e :: l, lo => by
    unfold Fo.prtS
    split
    · simp
    · exact prtS_pos es first hi l lo
set_option maxHeartbeats 400000 in
theorem wf1_is (x : Fo.T3) (w : World) :
    Calls Try.prog 76 #[.agg #[.int .i64 x.a, .int .i64 x.b, .int .i64 x.c]] w fun e w' => e = .returned (.int .i64 (1)) ∧ Below w.heap.size w w' := by
  have B := (Below.refl w.heap.size w).alloc (Nat.le_refl _) (.cells #[.int .i64 x.a, .int .i64 x.b, .int .i64 x.c] 54)
  go_enter Try.func76, Try.ntmps76
  go_wp2_with fail
  go_ret
  exact ⟨rfl, B⟩
set_option maxHeartbeats 400000 in
theorem wf2_is (x : Fo.T3) (w : World) :
    Calls Try.prog 77 #[.agg #[.int .i64 x.a, .int .i64 x.b, .int .i64 x.c]] w fun e w' => e = .returned (.int .i64 (x.c)) ∧ Below w.heap.size w w' := by
  have B := (Below.refl w.heap.size w).alloc (Nat.le_refl _) (.cells #[.int .i64 x.a, .int .i64 x.b, .int .i64 x.c] 54)
  go_enter Try.func77, Try.ntmps77
  go_wp2_with fail
  go_ret
  exact ⟨rfl, B⟩
set_option maxRecDepth 100000 in
set_option maxHeartbeats 12800000 in
theorem wp1_is (h : FH) (f : Fo.Fm) (lo hi : Int) (hrc : ∀ x ∈ f.rs, 1 ≤ x.c ∧ x.c ≤ 9) (hrl : h.rl ≤ 100) (hel : h.el ≤ 100) (w : World) (hS : SlF w h f) :
    Calls Try.prog 75 #[.agg #[.int .i64 h.n, .slice h.R h.rl h.rc, .slice h.E h.el h.ec, .int .i64 h.ja, .int .i64 h.jt, .int .i64 h.jf, .slice h.C h.cl h.cc], .agg #[.int .i64 lo, .int .i64 hi], .func (.func 76) #[] #[]] w fun e w' => Below w.heap.size w w' ∧ ∃ v, e = .returned v ∧ w'.ownsRow w.heap.size 80 2 v (Fo.prtS f.es (fun _ => 1) hi f.rs lo).length (vV (Fo.prtS f.es (fun _ => 1) hi f.rs lo)) := by
  obtain ⟨i0, hi0, hz0, hz1, hz2⟩ := info_parts infoSpan
  have HI0 := Lib.hid (And.intro hi0 (And.intro hz0 (And.intro hz1 hz2)))
  have HN := Lib.hid hS.rl; have HL := Lib.hid hS.sr
  have HNE0 := Lib.hid hS.el; have HLE := Lib.hid hS.se
  have HRC := Lib.hid hrc; have HEL := Lib.hid hel
  have HTL := Lib.hid (Fo.prtS_len f.es (by rw [hS.el]; exact hel) (fun _ => 1) hi f.rs lo (fun r hr => by have := hrc r hr; show (1 : Int) ≤ 1 ∧ r.c ≤ 9; omega))
  obtain ⟨T, hT⟩ : ∃ T, Fo.prtS f.es (fun _ => 1) hi f.rs lo = T := ⟨_, rfl⟩
  have HT := Lib.hid hT
  rw [hT] at HTL ⊢
  clear hi0 hz0 hz1 hz2 hT hrc hel
  have V0 : Var2 ((w.alloc (.cells #[.int .i64 h.n, .slice h.R h.rl h.rc, .slice h.E h.el h.ec, .int .i64 h.ja, .int .i64 h.jt, .int .i64 h.jf, .slice h.C h.cl h.cc] 28)).alloc (.cells #[.int .i64 lo, .int .i64 hi] 80)) (w.alloc (.cells #[.int .i64 h.n, .slice h.R h.rl h.rc, .slice h.E h.el h.ec, .int .i64 h.ja, .int .i64 h.jt, .int .i64 h.jf, .slice h.C h.cl h.cc] 28)).heap.size lo hi := Var2.new _ _ _ _
  rw [World.size_alloc] at V0
  have O1 := own_emptyS ((w.alloc (.cells #[.int .i64 h.n, .slice h.R h.rl h.rc, .slice h.E h.el h.ec, .int .i64 h.ja, .int .i64 h.jt, .int .i64 h.jf, .slice h.C h.cl h.cc] 28)).alloc (.cells #[.int .i64 lo, .int .i64 hi] 80)) 80 2
  rw [World.size_alloc, World.size_alloc] at O1
  have HV1 := Lib.hid (V0.alloc (.cells #[] 80))
  have HQ1 := Lib.hid (((FB.new w h).alloc (.cells #[.int .i64 lo, .int .i64 hi] 80)).alloc (.cells #[] 80))
  have HR1 := Lib.hid ((((Below.refl w.heap.size w).alloc (Nat.le_refl _) (.cells #[.int .i64 h.n, .slice h.R h.rl h.rc, .slice h.E h.el h.ec, .int .i64 h.ja, .int .i64 h.jt, .int .i64 h.jf, .slice h.C h.cl h.cc] 28)).alloc (by simp) (.cells #[.int .i64 lo, .int .i64 hi] 80)).alloc (by simp; omega) (.cells #[] 80))
  have HO1 : Hid (World.ownsRow _ w.heap.size 80 2 (.slice (some ⟨w.heap.size + 1 + 1, 0, none⟩) 0 0) 0 (vV [])) := Lib.hid (own_lessK O1 (by omega))
  clear V0 O1 hS
  go_enter Try.func75, Try.ntmps75
  go_wp2_with fail
  go_loopw [7, 15] (fun s7 s15 wr => ∃ (P : List Fo.V2) (N i : Nat) (lq : Int), P.length = N ∧ i ≤ h.rl ∧ s15 = .int .i64 (i : Int) ∧ Hid (P ++ Fo.prtS f.es (fun _ => 1) hi (f.rs.drop i) lq = T) ∧ Hid (wr.ownsRow w.heap.size 80 2 s7 N (vV P)) ∧ Hid (s7.ownBlock ≠ some (w.heap.size + 1)) ∧ Hid (s7.ownBlock ≠ some w.heap.size) ∧ Hid (Var2 wr (w.heap.size + 1) lq hi) ∧ Hid (FB wr w.heap.size h) ∧ Below w.heap.size w wr) (fun _ s15 _ => h.rl - (intOf s15).toNat)
  case atStart => exact ⟨[], 0, 0, lo, rfl, Nat.zero_le _, rfl, Lib.hid (by rw [List.drop_zero]; exact HT.out), HO1, Lib.hid (by simp [Value.ownBlock]), Lib.hid (by simp [Value.ownBlock]; omega), HV1, HQ1, HR1.out⟩
  case round =>
    clear HV1 HQ1 HR1 HO1
    obtain ⟨P, N, i, lq, hN, hi2, rfl, HP, HOW, HNE, HNF, HV, HQ, hR⟩ := hrel
    have hPN : N ≤ 100001 := by
      have h1 := HTL.out
      rw [← HP.out, List.length_append, hN, HN.out] at h1
      omega
    have HNN := Lib.hid hN
    clear hN
    by_cases hlt : i < h.rl
    · have hil : i < f.rs.length := by rw [HN.out]; exact hlt
      obtain ⟨b, off, hRe, hb, hc⟩ := HL.out (by omega)
      have X := (hc i hil).below hR hb
      obtain ⟨x, hx⟩ : ∃ x, Fo.at3 f.rs i = x := ⟨_, rfl⟩
      rw [hx] at X
      have hd := Fo.drop_at hil
      rw [hx] at hd
      have hx9 := HRC.out x (by rw [← hx]; exact Fo.at3_mem hil)
      have HP2 : Hid (P ++ (if Fo.iw x.a x.b lq hi then ⟨lq, x.a⟩ :: (Fo.pssS f.es x (1) (x.c + 1 - (1)).toNat ++ Fo.prtS f.es (fun _ => 1) hi (f.rs.drop (i + 1)) x.b) else Fo.prtS f.es (fun _ => 1) hi (f.rs.drop (i + 1)) lq) = T) := Lib.hid (by have h := HP.out; rw [hd] at h; exact h)
      have HXT := Lib.hid (TB.new wr x 54)
      have HV1 := Lib.hid (HV.out.alloc (.cells #[.int .i64 x.a, .int .i64 x.b, .int .i64 x.c] 54))
      have HQ1 := Lib.hid (HQ.out.alloc (.cells #[.int .i64 x.a, .int .i64 x.b, .int .i64 x.c] 54))
      have HR1 := Lib.hid (hR.alloc hR.size (.cells #[.int .i64 x.a, .int .i64 x.b, .int .i64 x.c] 54))
      have HOW1 := Lib.hid (HOW.out.alloc (.cells #[.int .i64 x.a, .int .i64 x.b, .int .i64 x.c] 54))
      have v0 := HV.out.at2.c0; have v1 := HV.out.at2.c1; have vl := HV.out.at2.lt
      obtain ⟨c0, c1, c2⟩ := X
      have hi1 : (i : Int) < (h.rl : Int) := by omega
      obtain ⟨q, hq⟩ : ∃ q : Bool, q = true ↔ Fo.iw x.a x.b lq hi := ⟨decide _, decide_eq_true_iff⟩
      have HQQ := Lib.hid hq
      clear hc hx hil hd hq
      rw [hRe]
      go_wp2_with fail
      refine (wwithin_is x.a x.b lq hi q HQQ.out _).mono ?_; rintro e w3 ⟨rfl, hb3⟩
      have X3 := HXT.out.below hb3; have V3 := HV1.out.below hb3; have Q3 := HQ1.out.below hb3
      have hR3 := HR1.out.trans (hb3.mono HR1.out.size)
      have OW3 := HOW1.out.kept (below_grown hb3 none) none_ne
      have X3L := Lib.hid X3.lt; have V3L := Lib.hid V3.at2.lt
      clear hb3 v0 v1 vl c0 c1 c2
      cases q with
      | false =>
        have HP3 : Hid (P ++ Fo.prtS f.es (fun _ => 1) hi (f.rs.drop (i + 1)) lq = T) := Lib.hid (by have h := HP2.out; rw [if_neg (fun h => by have := HQQ.out.2 h; cases this)] at h; exact h)
        have HV3 := Lib.hid V3; have HOW3 := Lib.hid OW3; have HQ3 := Lib.hid Q3
        clear X3 V3 OW3 Q3
        go_wp2_with fail
        go_roundw
        case rel => exact ⟨P, N, i + 1, lq, HNN.out, by omega, by simp, HP3, HOW3, HNE, HNF, HV3, HQ3, hR3⟩
        case measure => simp [intOf]; omega
      | true =>
        have HP3 : Hid ((P ++ [(⟨lq, x.a⟩ : Fo.V2)]) ++ Fo.pssS f.es x (1) (x.c + 1 - (1)).toNat ++ Fo.prtS f.es (fun _ => 1) hi (f.rs.drop (i + 1)) x.b = T) := Lib.hid (by have h := HP2.out; rw [if_pos (HQQ.out.1 rfl)] at h; rw [← h]; simp)
        have x0 := X3.c0; have xl := X3.lt
        have v0 := V3.at2.c0; have vl := V3.at2.lt
        have hkeep := OW3.kept (below_grown ((Below.refl w3.heap.size w3).alloc (Nat.le_refl _) (.cells #[.int .i64 lq, .int .i64 x.a] 80)) none) none_ne
        have HXA := Lib.hid (X3.alloc (.cells #[.int .i64 lq, .int .i64 x.a] 80))
        have HVA := Lib.hid (V3.alloc (.cells #[.int .i64 lq, .int .i64 x.a] 80))
        have HQA := Lib.hid (Q3.alloc (.cells #[.int .i64 lq, .int .i64 x.a] 80))
        have hRA := hR3.alloc hR3.size (.cells #[.int .i64 lq, .int .i64 x.a] 80)
        clear X3 V3 OW3 Q3
        go_wp2_with (first | (at_builtin; refine wpList_append_own_at _ rfl _ _ 87 rfl w.heap.size 80 i0 (.agg #[.int .i64 0, .int .i64 0]) 2 16 Try.underlying87 HI0.out.1 HI0.out.2.1 HI0.out.2.2.1 HI0.out.2.2.2 rfl (by decide) _ N (vV P) rfl hkeep ⟨w3.heap.size, 0, none⟩ 1 1 [.int .i64 lq, .int .i64 x.a] rfl rfl (cell_two_newS _ _ _ _) (fun u hu => by simp at hu; rcases hu with rfl | rfl <;> rfl) (by unfold maxLen; omega) (by omega) (by have := hR3.size; simp; omega) ?_; intro v5 w5 hown5 hgrow5 hnil5 hat5; have V5 := HVA.out.grownS hgrow5 HNE.out; have X5 := HXA.out.grownS hgrow5 (fun e => by have := own_blk_lt HOW.out _ e; omega); have Q5 := HQA.out.grownS hgrow5 HNF.out; have R5 := hRA.grown hgrow5 hRA.size (own_ne hkeep); have HNE5 := Lib.hid (own_at hat5 HNE.out (by have := V3L.out; simp; omega)); have HNF5 := Lib.hid (own_at hat5 HNF.out (by have := V3L.out; simp; omega)); have HNX5 := Lib.hid (own_at (bl := wr.heap.size) hat5 (fun e => by have := own_blk_lt HOW.out _ e; omega) (by have := X3L.out; simp; omega)); have HX5 := Lib.hid X5; have HV5 := Lib.hid V5; have HQ5 := Lib.hid Q5; have HOW5 := Lib.hid hown5; have HR5 := Lib.hid R5; have y0 := X5.c0; have y1 := X5.c1; have y2 := X5.c2; have yl := X5.lt; obtain ⟨g5, cap5, rfl⟩ := own_succS hown5; clear hown5 hgrow5 hnil5 hat5 hkeep V5 X5 Q5 R5 hRA x0 xl v0 vl) | fail)
        refine (wf1_is x _).mono ?_; rintro e w6 ⟨rfl, hb6⟩
        have HX6 := Lib.hid (HX5.out.below hb6); have HV6 := Lib.hid (HV5.out.below hb6); have HQ6 := Lib.hid (HQ5.out.below hb6)
        have R6 := HR5.out.trans (hb6.mono HR5.out.size)
        have HOW6 := Lib.hid (HOW5.out.kept (below_grown hb6 none) none_ne)
        clear hb6 y0 y1 y2 yl HX5 HV5 HQ5 HR5 HOW5
        obtain ⟨cnt, hcnt⟩ : ∃ cnt : Nat, (x.c + 1 - (1)).toNat = cnt := ⟨_, rfl⟩
        have hcx : (1) + (cnt : Int) = x.c + 1 := by omega
        have hc9 : cnt ≤ 9 := by omega
        rw [hcnt] at HP3
        have hRi := R6
        clear hcnt R6 hR3 hR
        go_wp2_with fail
        go_loopw [7, 10] (fun s7 s10 wq => ∃ (k N2 : Nat), k ≤ cnt ∧ s10 = .int .i64 ((1) + (k : Int)) ∧ (P ++ [(⟨lq, x.a⟩ : Fo.V2)] ++ Fo.pssS f.es x (1) k).length = N2 ∧ Hid (wq.ownsRow w.heap.size 80 2 s7 N2 (vV (P ++ [(⟨lq, x.a⟩ : Fo.V2)] ++ Fo.pssS f.es x (1) k))) ∧ Hid (s7.ownBlock ≠ some (w.heap.size + 1)) ∧ Hid (s7.ownBlock ≠ some w.heap.size) ∧ Hid (s7.ownBlock ≠ some wr.heap.size) ∧ Hid (TB wq wr.heap.size x) ∧ Hid (Var2 wq (w.heap.size + 1) lq hi) ∧ Hid (FB wq w.heap.size h) ∧ Below w.heap.size w wq) (fun _ s10 _ => (x.c + 1 - intOf s10).toNat)
        case atStart => exact ⟨0, N + 1, Nat.zero_le _, by simp, by rw [show ∀ l : List Fo.V2, l ++ Fo.pssS f.es x (1) 0 = l from fun l => List.append_nil l, List.length_append, HNN.out]; rfl, Lib.hid (by rw [show ∀ l : List Fo.V2, l ++ Fo.pssS f.es x (1) 0 = l from fun l => List.append_nil l, vV_app, vV_one]; exact HOW6.out), HNE5, HNF5, HNX5, HX6, HV6, HQ6, hRi⟩
        case round =>
          clear HX6 HV6 HQ6 HOW6 HNE5 HNF5 HNX5 hRi HNE HNF HQ HV HOW HV1 HQ1 HR1 HOW1 HXT HXA HVA HQA X3L V3L HP HP2
          obtain ⟨k, N2, hk, rfl, hN2, HOW, HNE, HNF, HNX, HX, HV, HQ, hR⟩ := hrel
          have HN2 := Lib.hid hN2
          clear hN2
          have hkc : ((1) + (k : Int) ≤ x.c) ↔ k < cnt := by omega
          by_cases hlk : k < cnt
          case neg =>
            obtain rfl : k = cnt := by omega
            have hno : ¬ (1) + (k : Int) ≤ x.c := by omega
            have x1 := HX.out.c1; have x2 := HX.out.c2; have xl := HX.out.lt
            have v0 := HV.out.at2.c0; have vf := HV.out.f0; have vl := HV.out.at2.lt
            have HV4 := Lib.hid (HV.out.put0 x.b)
            have HQ4 := Lib.hid (HQ.out.other (p := ⟨w.heap.size + 1, 0, none⟩) (by simp) (.int .i64 x.b))
            have HR4 := Lib.hid (hR.setCell (p := ⟨w.heap.size + 1, 0, none⟩) (by simp) (.int .i64 x.b))
            have HOW4 := Lib.hid (own_setS HOW.out HNE.out 0 (.int .i64 x.b))
            clear hkc
            go_wp2_with fail
            go_roundw
            case rel => exact ⟨P ++ [(⟨lq, x.a⟩ : Fo.V2)] ++ Fo.pssS f.es x (1) k, N2, i + 1, x.b, HN2.out, by omega, by simp, HP3, HOW4, HNE, HNF, HV4, HQ4, HR4.out⟩
            case measure => simp [intOf]; omega
          have hyes := hkc.2 hlk
          have hN2b : N2 ≤ 101000 := by
            have h1 := HNN.out
            have h2 := Fo.pssS_len f.es x (1) k
            have h3 := HN2.out
            have h4 : k * (f.es.length + 1) ≤ 9 * 101 := Nat.mul_le_mul (by omega) (by rw [HNE0.out]; have := HEL.out; omega)
            rw [List.length_append, List.length_append, h1] at h3
            simp at h3
            omega
          have x0 := HX.out.c0; have x1 := HX.out.c1; have x2 := HX.out.c2; have xl := HX.out.lt
          have q2 := HQ.out.c2; have ql := HQ.out.lt
          clear hkc
          go_wp2_with fail
          refine (wpassage_is f.es x ((1) + (k : Int)) h.el h.ec h.E HNE0.out HEL.out _ (HLE.out.below hR)).mono ?_; rintro e w4 ⟨hb4, v4, rfl, hown4⟩
          obtain ⟨g4, c4, rfl, hm4, hnews4⟩ := own_VS hown4 (psg_pos _ _ _ _)
          obtain ⟨m4, hm⟩ : ∃ m, (Fo.psg ((1) + (k : Int)) x.b f.es x.a).length = m := ⟨_, rfl⟩
          have hm4b : m4 ≤ 101 := by have h1 := Fo.psg_len ((1) + (k : Int)) x.b f.es x.a; rw [hm, HNE0.out] at h1; have := HEL.out; omega
          rw [hm] at hown4 ⊢
          have HM := Lib.hid hm; have HNW := Lib.hid hnews4
          have X4 := HX.out.below hb4; have V4 := HV.out.below hb4; have Q4 := HQ.out.below hb4
          have R4 := hR.trans (hb4.mono hR.size)
          have hkeep := HOW.out.kept (below_grown hb4 none) none_ne
          have hR3 := R4
          clear hb4 hown4 hnews4 hm hm4 x0 x1 x2 xl q2 ql
          go_wp2_with (first | (at_builtin; refine wpList_append_own_at _ rfl _ _ 87 rfl w.heap.size 80 i0 (.agg #[.int .i64 0, .int .i64 0]) 2 16 Try.underlying87 HI0.out.1 HI0.out.2.1 HI0.out.2.2.1 HI0.out.2.2.2 rfl (by decide) _ N2 (vV (P ++ [(⟨lq, x.a⟩ : Fo.V2)] ++ Fo.pssS f.es x (1) k)) rfl hkeep ⟨g4, 0, none⟩ m4 c4 (vV (Fo.psg ((1) + (k : Int)) x.b f.es x.a)) rfl (vV_len2 HM.out) HNW.out (vV_cells _) (by unfold maxLen; omega) (by omega) (by have := hR3.size; simp; omega) ?_; intro v5 w5 hown5 hgrow5 hnil5 hat5; have V5 := V4.grownS hgrow5 HNE.out; have X5 := X4.grownS hgrow5 HNX.out; have Q5 := Q4.grownS hgrow5 HNF.out; have R5 := R4.grown hgrow5 R4.size (own_ne hkeep); have HNE5 := Lib.hid (own_at hat5 HNE.out V4.at2.lt); have HNF5 := Lib.hid (own_at hat5 HNF.out Q4.lt); have HNX5 := Lib.hid (own_at hat5 HNX.out X4.lt); have HX5 := Lib.hid X5; have HV5 := Lib.hid V5; have HQ5 := Lib.hid Q5; have HOW5 := Lib.hid hown5; have HR5 := Lib.hid R5; clear hown5 hgrow5 hnil5 hat5 hkeep V5 X5 Q5 R5 V4 X4 Q4 R4) | fail)
          go_roundw
          case rel => exact ⟨k + 1, N2 + m4, by omega, by (simp <;> omega), by rw [show Fo.pssS f.es x (1) (k + 1) = Fo.pssS f.es x (1) k ++ Fo.psg ((1) + (k : Int)) x.b f.es x.a from rfl, ← List.append_assoc, List.length_append, HN2.out, HM.out], Lib.hid (by rw [show Fo.pssS f.es x (1) (k + 1) = Fo.pssS f.es x (1) k ++ Fo.psg ((1) + (k : Int)) x.b f.es x.a from rfl, ← List.append_assoc, vV_app]; exact HOW5.out), HNE5, HNF5, HNX5, HX5, HV5, HQ5, HR5.out⟩
          case measure => simp [intOf]; omega
    · obtain rfl : i = h.rl := by omega
      have HP3 : Hid (P ++ [(⟨lq, hi⟩ : Fo.V2)] = T) := Lib.hid (by have h := HP.out; rw [List.drop_of_length_le (by rw [HN.out]; exact Nat.le_refl _)] at h; exact h)
      have v0 := HV.out.at2.c0; have v1 := HV.out.at2.c1; have vl := HV.out.at2.lt
      have hkeep := HOW.out.kept (below_grown ((Below.refl wr.heap.size wr).alloc (Nat.le_refl _) (.cells #[.int .i64 lq, .int .i64 hi] 80)) none) none_ne
      have hR3 := hR
      have hRA := hR3.alloc hR3.size (.cells #[.int .i64 lq, .int .i64 hi] 80)
      go_wp2_with (first | (at_builtin; refine wpList_append_own_at _ rfl _ _ 87 rfl w.heap.size 80 i0 (.agg #[.int .i64 0, .int .i64 0]) 2 16 Try.underlying87 HI0.out.1 HI0.out.2.1 HI0.out.2.2.1 HI0.out.2.2.2 rfl (by decide) _ N (vV P) rfl hkeep ⟨wr.heap.size, 0, none⟩ 1 1 [.int .i64 lq, .int .i64 hi] rfl rfl (cell_two_newS _ _ _ _) (fun u hu => by simp at hu; rcases hu with rfl | rfl <;> rfl) (by unfold maxLen; omega) (by omega) (by have := hR3.size; simp; omega) ?_; intro v5 w5 hown5 hgrow5 hnil5 hat5; have R5 := hRA.grown hgrow5 hRA.size (own_ne hkeep); clear hgrow5 hnil5 hat5 hkeep) | fail)
      go_ret
      refine ⟨R5, v5, rfl, ?_⟩
      rw [← HP3.out, List.length_append, HNN.out, vV_app, vV_one]
      exact hown5
set_option maxRecDepth 100000 in
set_option maxHeartbeats 12800000 in
theorem wp2_is (h : FH) (f : Fo.Fm) (lo hi : Int) (hrc : ∀ x ∈ f.rs, 1 ≤ x.c ∧ x.c ≤ 9) (hrl : h.rl ≤ 100) (hel : h.el ≤ 100) (w : World) (hS : SlF w h f) :
    Calls Try.prog 75 #[.agg #[.int .i64 h.n, .slice h.R h.rl h.rc, .slice h.E h.el h.ec, .int .i64 h.ja, .int .i64 h.jt, .int .i64 h.jf, .slice h.C h.cl h.cc], .agg #[.int .i64 lo, .int .i64 hi], .func (.func 77) #[] #[]] w fun e w' => Below w.heap.size w w' ∧ ∃ v, e = .returned v ∧ w'.ownsRow w.heap.size 80 2 v (Fo.prtS f.es (fun r => r.c) hi f.rs lo).length (vV (Fo.prtS f.es (fun r => r.c) hi f.rs lo)) := by
  obtain ⟨i0, hi0, hz0, hz1, hz2⟩ := info_parts infoSpan
  have HI0 := Lib.hid (And.intro hi0 (And.intro hz0 (And.intro hz1 hz2)))
  have HN := Lib.hid hS.rl; have HL := Lib.hid hS.sr
  have HNE0 := Lib.hid hS.el; have HLE := Lib.hid hS.se
  have HRC := Lib.hid hrc; have HEL := Lib.hid hel
  have HTL := Lib.hid (Fo.prtS_len f.es (by rw [hS.el]; exact hel) (fun r => r.c) hi f.rs lo (fun r hr => by have := hrc r hr; show (1 : Int) ≤ r.c ∧ r.c ≤ 9; omega))
  obtain ⟨T, hT⟩ : ∃ T, Fo.prtS f.es (fun r => r.c) hi f.rs lo = T := ⟨_, rfl⟩
  have HT := Lib.hid hT
  rw [hT] at HTL ⊢
  clear hi0 hz0 hz1 hz2 hT hrc hel
  have V0 : Var2 ((w.alloc (.cells #[.int .i64 h.n, .slice h.R h.rl h.rc, .slice h.E h.el h.ec, .int .i64 h.ja, .int .i64 h.jt, .int .i64 h.jf, .slice h.C h.cl h.cc] 28)).alloc (.cells #[.int .i64 lo, .int .i64 hi] 80)) (w.alloc (.cells #[.int .i64 h.n, .slice h.R h.rl h.rc, .slice h.E h.el h.ec, .int .i64 h.ja, .int .i64 h.jt, .int .i64 h.jf, .slice h.C h.cl h.cc] 28)).heap.size lo hi := Var2.new _ _ _ _
  rw [World.size_alloc] at V0
  have O1 := own_emptyS ((w.alloc (.cells #[.int .i64 h.n, .slice h.R h.rl h.rc, .slice h.E h.el h.ec, .int .i64 h.ja, .int .i64 h.jt, .int .i64 h.jf, .slice h.C h.cl h.cc] 28)).alloc (.cells #[.int .i64 lo, .int .i64 hi] 80)) 80 2
  rw [World.size_alloc, World.size_alloc] at O1
  have HV1 := Lib.hid (V0.alloc (.cells #[] 80))
  have HQ1 := Lib.hid (((FB.new w h).alloc (.cells #[.int .i64 lo, .int .i64 hi] 80)).alloc (.cells #[] 80))
  have HR1 := Lib.hid ((((Below.refl w.heap.size w).alloc (Nat.le_refl _) (.cells #[.int .i64 h.n, .slice h.R h.rl h.rc, .slice h.E h.el h.ec, .int .i64 h.ja, .int .i64 h.jt, .int .i64 h.jf, .slice h.C h.cl h.cc] 28)).alloc (by simp) (.cells #[.int .i64 lo, .int .i64 hi] 80)).alloc (by simp; omega) (.cells #[] 80))
  have HO1 : Hid (World.ownsRow _ w.heap.size 80 2 (.slice (some ⟨w.heap.size + 1 + 1, 0, none⟩) 0 0) 0 (vV [])) := Lib.hid (own_lessK O1 (by omega))
  clear V0 O1 hS
  go_enter Try.func75, Try.ntmps75
  go_wp2_with fail
  go_loopw [7, 15] (fun s7 s15 wr => ∃ (P : List Fo.V2) (N i : Nat) (lq : Int), P.length = N ∧ i ≤ h.rl ∧ s15 = .int .i64 (i : Int) ∧ Hid (P ++ Fo.prtS f.es (fun r => r.c) hi (f.rs.drop i) lq = T) ∧ Hid (wr.ownsRow w.heap.size 80 2 s7 N (vV P)) ∧ Hid (s7.ownBlock ≠ some (w.heap.size + 1)) ∧ Hid (s7.ownBlock ≠ some w.heap.size) ∧ Hid (Var2 wr (w.heap.size + 1) lq hi) ∧ Hid (FB wr w.heap.size h) ∧ Below w.heap.size w wr) (fun _ s15 _ => h.rl - (intOf s15).toNat)
  case atStart => exact ⟨[], 0, 0, lo, rfl, Nat.zero_le _, rfl, Lib.hid (by rw [List.drop_zero]; exact HT.out), HO1, Lib.hid (by simp [Value.ownBlock]), Lib.hid (by simp [Value.ownBlock]; omega), HV1, HQ1, HR1.out⟩
  case round =>
    clear HV1 HQ1 HR1 HO1
    obtain ⟨P, N, i, lq, hN, hi2, rfl, HP, HOW, HNE, HNF, HV, HQ, hR⟩ := hrel
    have hPN : N ≤ 100001 := by
      have h1 := HTL.out
      rw [← HP.out, List.length_append, hN, HN.out] at h1
      omega
    have HNN := Lib.hid hN
    clear hN
    by_cases hlt : i < h.rl
    · have hil : i < f.rs.length := by rw [HN.out]; exact hlt
      obtain ⟨b, off, hRe, hb, hc⟩ := HL.out (by omega)
      have X := (hc i hil).below hR hb
      obtain ⟨x, hx⟩ : ∃ x, Fo.at3 f.rs i = x := ⟨_, rfl⟩
      rw [hx] at X
      have hd := Fo.drop_at hil
      rw [hx] at hd
      have hx9 := HRC.out x (by rw [← hx]; exact Fo.at3_mem hil)
      have HP2 : Hid (P ++ (if Fo.iw x.a x.b lq hi then ⟨lq, x.a⟩ :: (Fo.pssS f.es x (x.c) (x.c + 1 - (x.c)).toNat ++ Fo.prtS f.es (fun r => r.c) hi (f.rs.drop (i + 1)) x.b) else Fo.prtS f.es (fun r => r.c) hi (f.rs.drop (i + 1)) lq) = T) := Lib.hid (by have h := HP.out; rw [hd] at h; exact h)
      have HXT := Lib.hid (TB.new wr x 54)
      have HV1 := Lib.hid (HV.out.alloc (.cells #[.int .i64 x.a, .int .i64 x.b, .int .i64 x.c] 54))
      have HQ1 := Lib.hid (HQ.out.alloc (.cells #[.int .i64 x.a, .int .i64 x.b, .int .i64 x.c] 54))
      have HR1 := Lib.hid (hR.alloc hR.size (.cells #[.int .i64 x.a, .int .i64 x.b, .int .i64 x.c] 54))
      have HOW1 := Lib.hid (HOW.out.alloc (.cells #[.int .i64 x.a, .int .i64 x.b, .int .i64 x.c] 54))
      have v0 := HV.out.at2.c0; have v1 := HV.out.at2.c1; have vl := HV.out.at2.lt
      obtain ⟨c0, c1, c2⟩ := X
      have hi1 : (i : Int) < (h.rl : Int) := by omega
      obtain ⟨q, hq⟩ : ∃ q : Bool, q = true ↔ Fo.iw x.a x.b lq hi := ⟨decide _, decide_eq_true_iff⟩
      have HQQ := Lib.hid hq
      clear hc hx hil hd hq
      rw [hRe]
      go_wp2_with fail
      refine (wwithin_is x.a x.b lq hi q HQQ.out _).mono ?_; rintro e w3 ⟨rfl, hb3⟩
      have X3 := HXT.out.below hb3; have V3 := HV1.out.below hb3; have Q3 := HQ1.out.below hb3
      have hR3 := HR1.out.trans (hb3.mono HR1.out.size)
      have OW3 := HOW1.out.kept (below_grown hb3 none) none_ne
      have X3L := Lib.hid X3.lt; have V3L := Lib.hid V3.at2.lt
      clear hb3 v0 v1 vl c0 c1 c2
      cases q with
      | false =>
        have HP3 : Hid (P ++ Fo.prtS f.es (fun r => r.c) hi (f.rs.drop (i + 1)) lq = T) := Lib.hid (by have h := HP2.out; rw [if_neg (fun h => by have := HQQ.out.2 h; cases this)] at h; exact h)
        have HV3 := Lib.hid V3; have HOW3 := Lib.hid OW3; have HQ3 := Lib.hid Q3
        clear X3 V3 OW3 Q3
        go_wp2_with fail
        go_roundw
        case rel => exact ⟨P, N, i + 1, lq, HNN.out, by omega, by simp, HP3, HOW3, HNE, HNF, HV3, HQ3, hR3⟩
        case measure => simp [intOf]; omega
      | true =>
        have HP3 : Hid ((P ++ [(⟨lq, x.a⟩ : Fo.V2)]) ++ Fo.pssS f.es x (x.c) (x.c + 1 - (x.c)).toNat ++ Fo.prtS f.es (fun r => r.c) hi (f.rs.drop (i + 1)) x.b = T) := Lib.hid (by have h := HP2.out; rw [if_pos (HQQ.out.1 rfl)] at h; rw [← h]; simp)
        have x0 := X3.c0; have xl := X3.lt
        have v0 := V3.at2.c0; have vl := V3.at2.lt
        have hkeep := OW3.kept (below_grown ((Below.refl w3.heap.size w3).alloc (Nat.le_refl _) (.cells #[.int .i64 lq, .int .i64 x.a] 80)) none) none_ne
        have HXA := Lib.hid (X3.alloc (.cells #[.int .i64 lq, .int .i64 x.a] 80))
        have HVA := Lib.hid (V3.alloc (.cells #[.int .i64 lq, .int .i64 x.a] 80))
        have HQA := Lib.hid (Q3.alloc (.cells #[.int .i64 lq, .int .i64 x.a] 80))
        have hRA := hR3.alloc hR3.size (.cells #[.int .i64 lq, .int .i64 x.a] 80)
        clear X3 V3 OW3 Q3
        go_wp2_with (first | (at_builtin; refine wpList_append_own_at _ rfl _ _ 87 rfl w.heap.size 80 i0 (.agg #[.int .i64 0, .int .i64 0]) 2 16 Try.underlying87 HI0.out.1 HI0.out.2.1 HI0.out.2.2.1 HI0.out.2.2.2 rfl (by decide) _ N (vV P) rfl hkeep ⟨w3.heap.size, 0, none⟩ 1 1 [.int .i64 lq, .int .i64 x.a] rfl rfl (cell_two_newS _ _ _ _) (fun u hu => by simp at hu; rcases hu with rfl | rfl <;> rfl) (by unfold maxLen; omega) (by omega) (by have := hR3.size; simp; omega) ?_; intro v5 w5 hown5 hgrow5 hnil5 hat5; have V5 := HVA.out.grownS hgrow5 HNE.out; have X5 := HXA.out.grownS hgrow5 (fun e => by have := own_blk_lt HOW.out _ e; omega); have Q5 := HQA.out.grownS hgrow5 HNF.out; have R5 := hRA.grown hgrow5 hRA.size (own_ne hkeep); have HNE5 := Lib.hid (own_at hat5 HNE.out (by have := V3L.out; simp; omega)); have HNF5 := Lib.hid (own_at hat5 HNF.out (by have := V3L.out; simp; omega)); have HNX5 := Lib.hid (own_at (bl := wr.heap.size) hat5 (fun e => by have := own_blk_lt HOW.out _ e; omega) (by have := X3L.out; simp; omega)); have HX5 := Lib.hid X5; have HV5 := Lib.hid V5; have HQ5 := Lib.hid Q5; have HOW5 := Lib.hid hown5; have HR5 := Lib.hid R5; have y0 := X5.c0; have y1 := X5.c1; have y2 := X5.c2; have yl := X5.lt; obtain ⟨g5, cap5, rfl⟩ := own_succS hown5; clear hown5 hgrow5 hnil5 hat5 hkeep V5 X5 Q5 R5 hRA x0 xl v0 vl) | fail)
        refine (wf2_is x _).mono ?_; rintro e w6 ⟨rfl, hb6⟩
        have HX6 := Lib.hid (HX5.out.below hb6); have HV6 := Lib.hid (HV5.out.below hb6); have HQ6 := Lib.hid (HQ5.out.below hb6)
        have R6 := HR5.out.trans (hb6.mono HR5.out.size)
        have HOW6 := Lib.hid (HOW5.out.kept (below_grown hb6 none) none_ne)
        clear hb6 y0 y1 y2 yl HX5 HV5 HQ5 HR5 HOW5
        obtain ⟨cnt, hcnt⟩ : ∃ cnt : Nat, (x.c + 1 - (x.c)).toNat = cnt := ⟨_, rfl⟩
        have hcx : (x.c) + (cnt : Int) = x.c + 1 := by omega
        have hc9 : cnt ≤ 9 := by omega
        rw [hcnt] at HP3
        have hRi := R6
        clear hcnt R6 hR3 hR
        go_wp2_with fail
        go_loopw [7, 10] (fun s7 s10 wq => ∃ (k N2 : Nat), k ≤ cnt ∧ s10 = .int .i64 ((x.c) + (k : Int)) ∧ (P ++ [(⟨lq, x.a⟩ : Fo.V2)] ++ Fo.pssS f.es x (x.c) k).length = N2 ∧ Hid (wq.ownsRow w.heap.size 80 2 s7 N2 (vV (P ++ [(⟨lq, x.a⟩ : Fo.V2)] ++ Fo.pssS f.es x (x.c) k))) ∧ Hid (s7.ownBlock ≠ some (w.heap.size + 1)) ∧ Hid (s7.ownBlock ≠ some w.heap.size) ∧ Hid (s7.ownBlock ≠ some wr.heap.size) ∧ Hid (TB wq wr.heap.size x) ∧ Hid (Var2 wq (w.heap.size + 1) lq hi) ∧ Hid (FB wq w.heap.size h) ∧ Below w.heap.size w wq) (fun _ s10 _ => (x.c + 1 - intOf s10).toNat)
        case atStart => exact ⟨0, N + 1, Nat.zero_le _, by simp, by rw [show ∀ l : List Fo.V2, l ++ Fo.pssS f.es x (x.c) 0 = l from fun l => List.append_nil l, List.length_append, HNN.out]; rfl, Lib.hid (by rw [show ∀ l : List Fo.V2, l ++ Fo.pssS f.es x (x.c) 0 = l from fun l => List.append_nil l, vV_app, vV_one]; exact HOW6.out), HNE5, HNF5, HNX5, HX6, HV6, HQ6, hRi⟩
        case round =>
          clear HX6 HV6 HQ6 HOW6 HNE5 HNF5 HNX5 hRi HNE HNF HQ HV HOW HV1 HQ1 HR1 HOW1 HXT HXA HVA HQA X3L V3L HP HP2
          obtain ⟨k, N2, hk, rfl, hN2, HOW, HNE, HNF, HNX, HX, HV, HQ, hR⟩ := hrel
          have HN2 := Lib.hid hN2
          clear hN2
          have hkc : ((x.c) + (k : Int) ≤ x.c) ↔ k < cnt := by omega
          by_cases hlk : k < cnt
          case neg =>
            obtain rfl : k = cnt := by omega
            have hno : ¬ (x.c) + (k : Int) ≤ x.c := by omega
            have x1 := HX.out.c1; have x2 := HX.out.c2; have xl := HX.out.lt
            have v0 := HV.out.at2.c0; have vf := HV.out.f0; have vl := HV.out.at2.lt
            have HV4 := Lib.hid (HV.out.put0 x.b)
            have HQ4 := Lib.hid (HQ.out.other (p := ⟨w.heap.size + 1, 0, none⟩) (by simp) (.int .i64 x.b))
            have HR4 := Lib.hid (hR.setCell (p := ⟨w.heap.size + 1, 0, none⟩) (by simp) (.int .i64 x.b))
            have HOW4 := Lib.hid (own_setS HOW.out HNE.out 0 (.int .i64 x.b))
            clear hkc
            go_wp2_with fail
            go_roundw
            case rel => exact ⟨P ++ [(⟨lq, x.a⟩ : Fo.V2)] ++ Fo.pssS f.es x (x.c) k, N2, i + 1, x.b, HN2.out, by omega, by simp, HP3, HOW4, HNE, HNF, HV4, HQ4, HR4.out⟩
            case measure => simp [intOf]; omega
          have hyes := hkc.2 hlk
          have hN2b : N2 ≤ 101000 := by
            have h1 := HNN.out
            have h2 := Fo.pssS_len f.es x (x.c) k
            have h3 := HN2.out
            have h4 : k * (f.es.length + 1) ≤ 9 * 101 := Nat.mul_le_mul (by omega) (by rw [HNE0.out]; have := HEL.out; omega)
            rw [List.length_append, List.length_append, h1] at h3
            simp at h3
            omega
          have x0 := HX.out.c0; have x1 := HX.out.c1; have x2 := HX.out.c2; have xl := HX.out.lt
          have q2 := HQ.out.c2; have ql := HQ.out.lt
          clear hkc
          go_wp2_with fail
          refine (wpassage_is f.es x ((x.c) + (k : Int)) h.el h.ec h.E HNE0.out HEL.out _ (HLE.out.below hR)).mono ?_; rintro e w4 ⟨hb4, v4, rfl, hown4⟩
          obtain ⟨g4, c4, rfl, hm4, hnews4⟩ := own_VS hown4 (psg_pos _ _ _ _)
          obtain ⟨m4, hm⟩ : ∃ m, (Fo.psg ((x.c) + (k : Int)) x.b f.es x.a).length = m := ⟨_, rfl⟩
          have hm4b : m4 ≤ 101 := by have h1 := Fo.psg_len ((x.c) + (k : Int)) x.b f.es x.a; rw [hm, HNE0.out] at h1; have := HEL.out; omega
          rw [hm] at hown4 ⊢
          have HM := Lib.hid hm; have HNW := Lib.hid hnews4
          have X4 := HX.out.below hb4; have V4 := HV.out.below hb4; have Q4 := HQ.out.below hb4
          have R4 := hR.trans (hb4.mono hR.size)
          have hkeep := HOW.out.kept (below_grown hb4 none) none_ne
          have hR3 := R4
          clear hb4 hown4 hnews4 hm hm4 x0 x1 x2 xl q2 ql
          go_wp2_with (first | (at_builtin; refine wpList_append_own_at _ rfl _ _ 87 rfl w.heap.size 80 i0 (.agg #[.int .i64 0, .int .i64 0]) 2 16 Try.underlying87 HI0.out.1 HI0.out.2.1 HI0.out.2.2.1 HI0.out.2.2.2 rfl (by decide) _ N2 (vV (P ++ [(⟨lq, x.a⟩ : Fo.V2)] ++ Fo.pssS f.es x (x.c) k)) rfl hkeep ⟨g4, 0, none⟩ m4 c4 (vV (Fo.psg ((x.c) + (k : Int)) x.b f.es x.a)) rfl (vV_len2 HM.out) HNW.out (vV_cells _) (by unfold maxLen; omega) (by omega) (by have := hR3.size; simp; omega) ?_; intro v5 w5 hown5 hgrow5 hnil5 hat5; have V5 := V4.grownS hgrow5 HNE.out; have X5 := X4.grownS hgrow5 HNX.out; have Q5 := Q4.grownS hgrow5 HNF.out; have R5 := R4.grown hgrow5 R4.size (own_ne hkeep); have HNE5 := Lib.hid (own_at hat5 HNE.out V4.at2.lt); have HNF5 := Lib.hid (own_at hat5 HNF.out Q4.lt); have HNX5 := Lib.hid (own_at hat5 HNX.out X4.lt); have HX5 := Lib.hid X5; have HV5 := Lib.hid V5; have HQ5 := Lib.hid Q5; have HOW5 := Lib.hid hown5; have HR5 := Lib.hid R5; clear hown5 hgrow5 hnil5 hat5 hkeep V5 X5 Q5 R5 V4 X4 Q4 R4) | fail)
          go_roundw
          case rel => exact ⟨k + 1, N2 + m4, by omega, by (simp <;> omega), by rw [show Fo.pssS f.es x (x.c) (k + 1) = Fo.pssS f.es x (x.c) k ++ Fo.psg ((x.c) + (k : Int)) x.b f.es x.a from rfl, ← List.append_assoc, List.length_append, HN2.out, HM.out], Lib.hid (by rw [show Fo.pssS f.es x (x.c) (k + 1) = Fo.pssS f.es x (x.c) k ++ Fo.psg ((x.c) + (k : Int)) x.b f.es x.a from rfl, ← List.append_assoc, vV_app]; exact HOW5.out), HNE5, HNF5, HNX5, HX5, HV5, HQ5, HR5.out⟩
          case measure => simp [intOf]; omega
    · obtain rfl : i = h.rl := by omega
      have HP3 : Hid (P ++ [(⟨lq, hi⟩ : Fo.V2)] = T) := Lib.hid (by have h := HP.out; rw [List.drop_of_length_le (by rw [HN.out]; exact Nat.le_refl _)] at h; exact h)
      have v0 := HV.out.at2.c0; have v1 := HV.out.at2.c1; have vl := HV.out.at2.lt
      have hkeep := HOW.out.kept (below_grown ((Below.refl wr.heap.size wr).alloc (Nat.le_refl _) (.cells #[.int .i64 lq, .int .i64 hi] 80)) none) none_ne
      have hR3 := hR
      have hRA := hR3.alloc hR3.size (.cells #[.int .i64 lq, .int .i64 hi] 80)
      go_wp2_with (first | (at_builtin; refine wpList_append_own_at _ rfl _ _ 87 rfl w.heap.size 80 i0 (.agg #[.int .i64 0, .int .i64 0]) 2 16 Try.underlying87 HI0.out.1 HI0.out.2.1 HI0.out.2.2.1 HI0.out.2.2.2 rfl (by decide) _ N (vV P) rfl hkeep ⟨wr.heap.size, 0, none⟩ 1 1 [.int .i64 lq, .int .i64 hi] rfl rfl (cell_two_newS _ _ _ _) (fun u hu => by simp at hu; rcases hu with rfl | rfl <;> rfl) (by unfold maxLen; omega) (by omega) (by have := hR3.size; simp; omega) ?_; intro v5 w5 hown5 hgrow5 hnil5 hat5; have R5 := hRA.grown hgrow5 hRA.size (own_ne hkeep); clear hgrow5 hnil5 hat5 hkeep) | fail)
      go_ret
      refine ⟨R5, v5, rfl, ?_⟩
      rw [← HP3.out, List.length_append, HNN.out, vV_app, vV_one]
      exact hown5
end Go.Proofs.Ytakbpgljbbkmkaa
