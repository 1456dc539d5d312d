/- The walks of areEndings' closure, of IndexFunc and ContainsFunc over repeats with it, and of areEndings. -/
import Derived.Test.YtakbpgljbbkmkaaWb
namespace Go.Proofs.Ytakbpgljbbkmkaa
open Go.RowKit

set_option maxHeartbeats 800000 in
theorem wend1_is (x : Fo.T3) (a b : Int) (ob : Nat) (r : Bool) (hr : r = decide (Fo.iw a b x.a x.b)) (w : World) (hB : At2 w ob a b) :
    Calls Try.prog 59 #[.agg #[.int .i64 x.a, .int .i64 x.b, .int .i64 x.c], .pointer (some ⟨ob, 0, none⟩)] w fun e w' => e = .returned (.bool r) ∧ Below w.heap.size w w' := by
  have B := (Below.refl w.heap.size w).alloc (Nat.le_refl _) (.cells #[.int .i64 x.a, .int .i64 x.b, .int .i64 x.c] 54)
  have v0 := hB.c0; have v1 := hB.c1; have vl := hB.lt
  have HR : Hid (r = true ↔ Fo.iw a b x.a x.b) := Lib.hid (by rw [hr, decide_eq_true_eq])
  clear hr hB
  go_enter Try.func59, Try.ntmps59
  go_wp2_with fail
  refine (wwithin_is a b x.a x.b r HR.out _).mono ?_; rintro e w2 ⟨rfl, hb⟩
  have B2 := B.trans (hb.mono (by simp))
  clear hb B
  go_wp2_with fail
  go_ret
  exact ⟨rfl, B2⟩
set_option maxRecDepth 100000 in
set_option maxHeartbeats 1600000 in
theorem weidx_is (l : List Fo.T3) (cl : Fo.T3 → Bool) (len cap : Nat) (A : Option Addr) (ob : Nat) (hl : l.length = len) (hmax : len ≤ 1000000) (w : World) (hL : SlT w A l) (hC : ∀ x ∈ l, ∀ w1, Below w.heap.size w w1 → Calls Try.prog 59 #[.agg #[.int .i64 x.a, .int .i64 x.b, .int .i64 x.c], .pointer (some ⟨ob, 0, none⟩)] w1 fun e w' => e = .returned (.bool (cl x)) ∧ Below w1.heap.size w1 w') :
    Calls Try.prog 73 #[.slice A len cap, .func (.func 59) #[] #[.pointer (some ⟨ob, 0, none⟩)]] w fun e w' => ∃ r : Int, e = .returned (.int .i64 r) ∧ (0 ≤ r ↔ ∃ x ∈ l, cl x = true) ∧ Below w.heap.size w w' := by
  have HN := Lib.hid hl
  have HL := Lib.hid hL
  have HC := Lib.hid hC
  clear hl hL hC
  go_enter Try.func73, Try.ntmps73
  go_wp2_with fail
  go_loopw [8] (fun s8 wr => ∃ (k : Nat), k ≤ len ∧ s8 = .int .i64 (k : Int) ∧ Hid (∀ j, j < k → cl (Fo.at3 l j) = false) ∧ Below w.heap.size w wr) (fun s8 _ => len - (intOf s8).toNat)
  case atStart => exact ⟨0, Nat.zero_le _, rfl, Lib.hid (fun j hj => by omega), Below.refl _ _⟩
  case round =>
    obtain ⟨k, hk, rfl, HP, hX⟩ := hrel
    by_cases hlt : k < len
    · have hx : k < l.length := by rw [HN.out]; exact hlt
      obtain ⟨bb, off, rfl, hbb, hc⟩ := HL.out (by rw [HN.out]; omega)
      have X := (hc k hx).below hX hbb
      obtain ⟨x, hn⟩ : ∃ x, Fo.at3 l k = x := ⟨_, rfl⟩
      rw [hn] at X
      have HNE := Lib.hid hn
      have HMEM : Hid (x ∈ l) := Lib.hid (by rw [← hn]; exact Fo.at3_mem hx)
      have hcall := HC.out x HMEM.out _ hX
      obtain ⟨g, hg⟩ : ∃ g, cl x = g := ⟨_, rfl⟩
      rw [hg] at hcall
      have HGE := Lib.hid hg
      have HCALL := Lib.hid hcall
      have hj1 : (k : Int) < (len : Int) := by omega
      obtain ⟨c0, c1, c2⟩ := X
      clear hx hc hn hg hcall
      cases g with
      | true =>
        have HGE2 := Lib.hid HGE.out
        go_wp2_with fail
        refine HCALL.out.mono ?_; rintro e w5 ⟨rfl, hb5⟩
        have hX5 := hX.trans (hb5.mono hX.size)
        clear hb5 c0 c1 c2
        go_wp2_with fail
        go_ret
        exact ⟨(k : Int), rfl, ⟨fun _ => ⟨x, HMEM.out, HGE2.out⟩, fun _ => by omega⟩, hX5⟩
      | false =>
        have HP2 : Hid (∀ j, j < k + 1 → cl (Fo.at3 l j) = false) := Lib.hid (fun j hj => by
          rcases Nat.lt_or_ge j k with a | a
          · exact HP.out j a
          · rw [show j = k by omega, HNE.out]; exact HGE.out)
        go_wp2_with fail
        refine HCALL.out.mono ?_; rintro e w5 ⟨rfl, hb5⟩
        have hX5 := hX.trans (hb5.mono hX.size)
        clear hb5 c0 c1 c2
        go_wp2_with fail
        go_roundw
        case rel => exact ⟨k + 1, by omega, by simp, HP2, hX5⟩
        case measure => simp [intOf]; omega
    · obtain rfl : k = len := by omega
      go_wp2_with fail
      go_ret
      refine ⟨-1, rfl, ⟨fun h => by omega, ?_⟩, hX⟩
      rintro ⟨n, hn, e⟩
      obtain ⟨j, hj, rfl⟩ := List.mem_iff_getElem.1 hn
      have h := HP.out j (by rw [← HN.out]; exact hj)
      rw [Fo.at3_eq hj, e] at h
      cases h
set_option maxHeartbeats 800000 in
theorem wecon_is (l : List Fo.T3) (cl : Fo.T3 → Bool) (f : Bool) (hf : f = true ↔ ∃ x ∈ l, cl x = true) (len cap : Nat) (A : Option Addr) (ob : Nat) (hl : l.length = len) (hmax : len ≤ 1000000) (w : World) (hL : SlT w A l) (hC : ∀ x ∈ l, ∀ w1, Below w.heap.size w w1 → Calls Try.prog 59 #[.agg #[.int .i64 x.a, .int .i64 x.b, .int .i64 x.c], .pointer (some ⟨ob, 0, none⟩)] w1 fun e w' => e = .returned (.bool (cl x)) ∧ Below w1.heap.size w1 w') :
    Calls Try.prog 60 #[.slice A len cap, .func (.func 59) #[] #[.pointer (some ⟨ob, 0, none⟩)]] w fun e w' => e = .returned (.bool f) ∧ Below w.heap.size w w' := by
  have HF := Lib.hid hf
  have HI := Lib.hid (weidx_is l cl len cap A ob hl hmax w hL hC)
  clear hf hl hL hC
  go_enter Try.func60, Try.ntmps60
  go_wp2_with fail
  refine HI.out.mono ?_; rintro e w1 ⟨r, rfl, hr, hb⟩
  obtain rfl : f = decide (0 ≤ r) := by rw [Bool.eq_iff_iff, HF.out, decide_eq_true_eq]; exact hr.symm
  clear hr
  go_wp2_with fail
  go_ret
  exact ⟨rfl, hb⟩
/-- The chain of endings, where the repeats are right: within what is left of all bars, too. -/
theorem Fo.chE_iff {n : Int} {rs : List Fo.T3} (hrs : ∀ x ∈ rs, x.b ≤ n) {last : Int} {x : Fo.T3} {l : List Fo.T3} : Fo.chE rs last (x :: l) ↔ (Fo.iw x.a x.b last n ∧ (1 ≤ x.c ∧ x.c ≤ 9) ∧ ∃ y ∈ rs, Fo.iw x.a x.b y.a y.b) ∧ Fo.chE rs x.b l := by
  show ((last ≤ x.a ∧ x.a < x.b ∧ Fo.ins rs x.a x.b ∧ 1 ≤ x.c ∧ x.c ≤ 9) ∧ Fo.chE rs x.b l) ↔ _
  unfold Fo.iw Fo.ins
  constructor
  · rintro ⟨⟨h1, h2, ⟨y, hy, h3, h4⟩, h5, h6⟩, h7⟩
    have := hrs y hy
    exact ⟨⟨⟨h1, h2, by omega⟩, ⟨h5, h6⟩, y, hy, h3, h2, h4⟩, h7⟩
  · rintro ⟨⟨⟨h1, h2, h3⟩, ⟨h4, h5⟩, y, hy, h6, h7, h8⟩, h9⟩
    exact ⟨⟨h1, h2, ⟨y, hy, h6, h8⟩, h4, h5⟩, h9⟩
set_option maxHeartbeats 6400000 in
theorem wendings_is (h : FH) (f : Fo.Fm) (r : Bool) (hr : r = true ↔ f.es.length ≤ 100 ∧ Fo.chE f.rs 0 f.es) (hrs : ∀ x ∈ f.rs, x.b ≤ h.n) (hrl : h.rl ≤ 100) (w : World) (hS : SlF w h f) :
    Calls Try.prog 37 #[.agg #[.int .i64 h.n, .slice h.R h.rl h.rc, .slice h.E h.el h.ec, .int .i64 h.ja, .int .i64 h.jt, .int .i64 h.jf, .slice h.C h.cl h.cc]] w fun e w' => e = .returned (.bool r) ∧ Below w.heap.size w w' := by
  have HN := Lib.hid hS.el; have HL := Lib.hid hS.se
  have HNR := Lib.hid hS.rl; have HLR := Lib.hid hS.sr
  have HRS := Lib.hid hrs
  have B := (Below.refl w.heap.size w).alloc (Nat.le_refl _) (.cells #[.int .i64 h.n, .slice h.R h.rl h.rc, .slice h.E h.el h.ec, .int .i64 h.ja, .int .i64 h.jt, .int .i64 h.jf, .slice h.C h.cl h.cc] 28)
  by_cases h100 : h.el ≤ 100
  case neg =>
    obtain rfl : r = false := by
      cases r with
      | false => rfl
      | true => exact absurd (hr.1 rfl).1 (by rw [hS.el]; omega)
    have h1 : (h.el : Int) > 100 := by omega
    clear hr hS h100 hrs
    go_enter Try.func37, Try.ntmps37
    go_wp2_with fail
    go_ret
    exact ⟨rfl, B⟩
  have HF : Hid (r = true ↔ Fo.chE f.rs 0 f.es) := Lib.hid (hr.trans ⟨fun h => h.2, fun h => ⟨by rw [hS.el]; omega, h⟩⟩)
  have h1 : ¬ (h.el : Int) > 100 := by omega
  have V0 : Var2 ((w.alloc (.cells #[.int .i64 h.n, .slice h.R h.rl h.rc, .slice h.E h.el h.ec, .int .i64 h.ja, .int .i64 h.jt, .int .i64 h.jf, .slice h.C h.cl h.cc] 28)).alloc (.cells #[.int .i64 0, .int .i64 h.n] 80)) (w.alloc (.cells #[.int .i64 h.n, .slice h.R h.rl h.rc, .slice h.E h.el h.ec, .int .i64 h.ja, .int .i64 h.jt, .int .i64 h.jf, .slice h.C h.cl h.cc] 28)).heap.size 0 h.n := Var2.new _ _ _ _
  have Q0 := (FB.new w h).alloc (.cells #[.int .i64 0, .int .i64 h.n] 80)
  have B0 := B.alloc (by simp) (.cells #[.int .i64 0, .int .i64 h.n] 80)
  rw [World.size_alloc] at V0
  clear hr hS B hrs
  go_enter Try.func37, Try.ntmps37
  go_wp2_with fail
  have HV0 := Lib.hid V0; have HQ0 := Lib.hid Q0; have HB0 := Lib.hid B0
  clear V0 Q0 B0
  go_loopw [18] (fun s18 wr => ∃ (i : Nat) (last : Int), i ≤ h.el ∧ s18 = .int .i64 (i : Int) ∧ Hid (Fo.chE f.rs 0 f.es ↔ Fo.chE f.rs last (f.es.drop i)) ∧ Hid (Var2 wr (w.heap.size + 1) last h.n) ∧ Hid (FB wr w.heap.size h) ∧ Below w.heap.size w wr) (fun s18 _ => h.el - (intOf s18).toNat)
  case atStart => exact ⟨0, 0, Nat.zero_le _, rfl, Lib.hid (by rw [List.drop_zero]), HV0, HQ0, HB0.out⟩
  case round =>
    obtain ⟨i, last, hi, rfl, HJ, HV, HQ, hR⟩ := hrel
    by_cases hlt : i < h.el
    · have hil : i < f.es.length := by rw [HN.out]; exact hlt
      obtain ⟨b, off, hRe, hb, hc⟩ := HL.out (by omega)
      have X := (hc i hil).below hR hb
      obtain ⟨x, hx⟩ : ∃ x, Fo.at3 f.es i = x := ⟨_, rfl⟩
      rw [hx] at X
      have hd := Fo.drop_at hil
      rw [hx] at hd
      replace HJ : Hid (Fo.chE f.rs 0 f.es ↔ (Fo.iw x.a x.b last h.n ∧ (1 ≤ x.c ∧ x.c ≤ 9) ∧ ∃ y ∈ f.rs, Fo.iw x.a x.b y.a y.b) ∧ Fo.chE f.rs x.b (f.es.drop (i + 1))) := Lib.hid (by have h := HJ.out; rw [hd, Fo.chE_iff HRS.out] at h; exact h)
      have XT := (TB.new wr x 73).alloc (.cells #[.int .i64 x.a, .int .i64 x.b] 80)
      have XS := At2.new (wr.alloc (.cells #[.int .i64 x.a, .int .i64 x.b, .int .i64 x.c] 73)) x.a x.b 80
      rw [World.size_alloc] at XS
      have V1 := (HV.out.alloc (.cells #[.int .i64 x.a, .int .i64 x.b, .int .i64 x.c] 73)).alloc (.cells #[.int .i64 x.a, .int .i64 x.b] 80)
      have Q1 := (HQ.out.alloc (.cells #[.int .i64 x.a, .int .i64 x.b, .int .i64 x.c] 73)).alloc (.cells #[.int .i64 x.a, .int .i64 x.b] 80)
      have R1 := (hR.alloc hR.size (.cells #[.int .i64 x.a, .int .i64 x.b, .int .i64 x.c] 73)).alloc (by have := hR.size; simp; omega) (.cells #[.int .i64 x.a, .int .i64 x.b] 80)
      have v0 := HV.out.at2.c0; have v1 := HV.out.at2.c1; have vl := HV.out.at2.lt
      have vl0 : w.heap.size < wr.heap.size := by omega
      obtain ⟨g, hg⟩ : ∃ g : Bool, g = true ↔ Fo.iw x.a x.b last h.n := ⟨decide _, decide_eq_true_iff⟩
      obtain ⟨k, hk⟩ : ∃ k : Bool, k = true ↔ 1 ≤ x.c ∧ x.c ≤ 9 := ⟨decide _, decide_eq_true_iff⟩
      obtain ⟨q, hq⟩ : ∃ q : Bool, q = true ↔ ∃ y ∈ f.rs, decide (Fo.iw x.a x.b y.a y.b) = true := ⟨decide _, decide_eq_true_iff⟩
      have HG := Lib.hid hg; have HK := Lib.hid hk; have HQQ := Lib.hid hq
      have HXT := Lib.hid XT; have HXS := Lib.hid XS; have HV1 := Lib.hid V1; have HQ1 := Lib.hid Q1; have HR1 := Lib.hid R1
      obtain ⟨c0, c1, c2⟩ := X
      have hi1 : (i : Int) < (h.el : Int) := by omega
      clear hc hx hil hd hg hk hq XT XS V1 Q1 R1
      rw [hRe]
      go_wp2_with fail
      refine (wwithin_is x.a x.b last h.n g HG.out _).mono ?_; rintro e w3 ⟨rfl, hb3⟩
      have X3 := HXT.out.below hb3; have S3 := HXS.out.below hb3; have V3 := HV1.out.below hb3; have Q3 := HQ1.out.below hb3
      have R3 := HR1.out.trans (hb3.mono HR1.out.size)
      clear hb3 v0 v1 vl vl0 c0 c1 c2
      cases g with
      | false =>
        obtain rfl : r = false := by
          cases r with
          | false => rfl
          | true => have h := (HJ.out.1 (HF.out.1 rfl)).1.1; exact absurd (HG.out.2 h) (by simp)
        go_wp2_with fail
        go_ret
        exact ⟨rfl, R3⟩
      | true =>
        have HG2 := Lib.hid (HG.out.1 rfl)
        have x2 := X3.c2; have xl := X3.lt
        go_wp2_with fail
        refine (lbetween_is x.c 1 9 k HK.out _).mono ?_; rintro e w4 ⟨rfl, rfl⟩
        cases k with
        | false =>
          obtain rfl : r = false := by
            cases r with
            | false => rfl
            | true => have h := (HJ.out.1 (HF.out.1 rfl)).1.2.1; exact absurd (HK.out.2 h) (by simp)
          go_wp2_with fail
          go_ret
          exact ⟨rfl, R3⟩
        | true =>
          have HK2 := Lib.hid (HK.out.1 rfl)
          have q1 := Q3.c1; have ql := Q3.lt
          go_wp2_with fail
          refine (wecon_is f.rs (fun y => decide (Fo.iw x.a x.b y.a y.b)) q HQQ.out h.rl h.rc h.R (wr.heap.size + 1) HNR.out (by omega) _ (HLR.out.below R3) (fun y _ w1 hw1 => wend1_is y x.a x.b _ _ rfl w1 (S3.below hw1))).mono ?_; rintro e w5 ⟨rfl, hb5⟩
          have X5 := X3.below hb5; have V5 := V3.below hb5; have Q5 := Q3.below hb5
          have R5 := R3.trans (hb5.mono R3.size)
          clear hb5 X3 S3 V3 Q3 R3 x2 xl q1 ql
          cases q with
          | false =>
            obtain rfl : r = false := by
              cases r with
              | false => rfl
              | true => obtain ⟨y, hy, h⟩ := (HJ.out.1 (HF.out.1 rfl)).1.2.2; exact absurd (HQQ.out.2 ⟨y, hy, decide_eq_true h⟩) (by simp)
            go_wp2_with fail
            go_ret
            exact ⟨rfl, R5⟩
          | true =>
            have HQ2 : Hid (∃ y ∈ f.rs, Fo.iw x.a x.b y.a y.b) := Lib.hid (by obtain ⟨y, hy, h⟩ := HQQ.out.1 rfl; exact ⟨y, hy, of_decide_eq_true h⟩)
            have HJ2 : Hid (Fo.chE f.rs 0 f.es ↔ Fo.chE f.rs x.b (f.es.drop (i + 1))) := Lib.hid (HJ.out.trans ⟨fun h => h.2, fun h => ⟨⟨HG2.out, HK2.out, HQ2.out⟩, h⟩⟩)
            have x1 := X5.c1; have xl := X5.lt
            have v0 := V5.at2.c0; have vf := V5.f0; have vl := V5.at2.lt
            have HV4 := Lib.hid (V5.put0 x.b)
            have HQ4 := Lib.hid (Q5.other (p := ⟨w.heap.size + 1, 0, none⟩) (by simp) (.int .i64 x.b))
            have HR4 := Lib.hid (R5.setCell (p := ⟨w.heap.size + 1, 0, none⟩) (by simp) (.int .i64 x.b))
            clear X5 V5 Q5 R5
            go_wp2_with fail
            go_roundw
            case rel => exact ⟨i + 1, x.b, by omega, by simp, HJ2, HV4, HQ4, HR4.out⟩
            case measure => simp [intOf]; omega
    · obtain rfl : i = h.el := by omega
      obtain rfl : r = true := HF.out.2 (HJ.out.2 (by rw [List.drop_of_length_le (by rw [HN.out]; exact Nat.le_refl _)]; exact trivial))
      go_wp2_with fail
      go_ret
      exact ⟨rfl, hR⟩
end Go.Proofs.Ytakbpgljbbkmkaa
