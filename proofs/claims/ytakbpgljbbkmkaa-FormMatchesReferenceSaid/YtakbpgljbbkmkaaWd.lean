/- The walks of isJump's closures, of IndexFunc and ContainsFunc with them, and of isJump. -/
import Derived.Test.YtakbpgljbbkmkaaWc
namespace Go.Proofs.Ytakbpgljbbkmkaa
open Go.RowKit

theorem itn_mem {l : List Int} {k : Nat} (h : k < l.length) : atI l k ∈ l := by rw [atI_eq h]; exact List.getElem_mem h
set_option maxHeartbeats 800000 in
theorem wjw_is (x : Fo.T3) (v : Int) (ob : Nat) (r : Bool) (hr : r = decide (x.a < v ∧ v < x.b)) (w : World) (hB : TB w ob x) :
    Calls Try.prog 62 #[.int .i64 v, .pointer (some ⟨ob, 0, none⟩)] w fun e w' => e = .returned (.bool r) ∧ Below w.heap.size w w' := by
  have v0 := hB.c0; have v1 := hB.c1; have vl := hB.lt
  by_cases q0 : x.a < v
  case neg =>
    obtain rfl : r = false := by rw [hr]; exact decide_eq_false (fun h => q0 h.1)
    clear hr hB
    go_enter Try.func62, Try.ntmps62
    go_wp2_with fail
    go_ret
    exact ⟨rfl, Below.refl _ _⟩
  by_cases q1 : v < x.b
  case neg =>
    obtain rfl : r = false := by rw [hr]; exact decide_eq_false (fun h => q1 h.2)
    clear hr hB
    go_enter Try.func62, Try.ntmps62
    go_wp2_with fail
    go_ret
    exact ⟨rfl, Below.refl _ _⟩
  obtain rfl : r = true := by rw [hr]; exact decide_eq_true ⟨q0, q1⟩
  clear hr hB
  go_enter Try.func62, Try.ntmps62
  go_wp2_with fail
  go_ret
  exact ⟨rfl, Below.refl _ _⟩
set_option maxRecDepth 100000 in
set_option maxHeartbeats 1600000 in
theorem wiidx_is (l : List Int) (cl : Int → Bool) (len cap : Nat) (A : Option Addr) (ob : Nat) (hl : l.length = len) (hmax : len ≤ 1000000) (w : World) (hL : SlK .i64 w A l) (hC : ∀ x ∈ l, ∀ w1, Below w.heap.size w w1 → Calls Try.prog 62 #[.int .i64 x, .pointer (some ⟨ob, 0, none⟩)] w1 fun e w' => e = .returned (.bool (cl x)) ∧ Below w1.heap.size w1 w') :
    Calls Try.prog 74 #[.slice A len cap, .func (.func 62) #[] #[.pointer (some ⟨ob, 0, none⟩)]] w fun e w' => ∃ r : Int, e = .returned (.int .i64 r) ∧ (0 ≤ r ↔ ∃ x ∈ l, cl x = true) ∧ Below w.heap.size w w' := by
  have HN := Lib.hid hl
  have HL := Lib.hid hL
  have HC := Lib.hid hC
  clear hl hL hC
  go_enter Try.func74, Try.ntmps74
  go_wp2_with fail
  go_loopw [8] (fun s8 wr => ∃ (k : Nat), k ≤ len ∧ s8 = .int .i64 (k : Int) ∧ Hid (∀ j, j < k → cl (atI l j) = false) ∧ Below w.heap.size w wr) (fun s8 _ => len - (intOf s8).toNat)
  case atStart => exact ⟨0, Nat.zero_le _, rfl, Lib.hid (fun j hj => by omega), Below.refl _ _⟩
  case round =>
    obtain ⟨k, hk, rfl, HP, hX⟩ := hrel
    by_cases hlt : k < len
    · have hx : k < l.length := by rw [HN.out]; exact hlt
      obtain ⟨bb, off, rfl, hbb, hc⟩ := HL.out (by rw [HN.out]; omega)
      have X := (hX.cell (p := ⟨bb, off + k, none⟩) hbb).trans (hc k hx)
      obtain ⟨x, hn⟩ : ∃ x, atI l k = x := ⟨_, rfl⟩
      rw [hn] at X
      have HNE := Lib.hid hn
      have HMEM : Hid (x ∈ l) := Lib.hid (by rw [← hn]; exact itn_mem hx)
      have hcall := HC.out x HMEM.out _ hX
      obtain ⟨g, hg⟩ : ∃ g, cl x = g := ⟨_, rfl⟩
      rw [hg] at hcall
      have HGE := Lib.hid hg
      have HCALL := Lib.hid hcall
      have hj1 : (k : Int) < (len : Int) := by omega
      have c0 := X
      clear hx hc hn hg hcall
      cases g with
      | true =>
        have HGE2 := Lib.hid HGE.out
        go_wp2_with fail
        refine HCALL.out.mono ?_; rintro e w5 ⟨rfl, hb5⟩
        have hX5 := hX.trans (hb5.mono hX.size)
        clear hb5 c0 X
        go_wp2_with fail
        go_ret
        exact ⟨(k : Int), rfl, ⟨fun _ => ⟨x, HMEM.out, HGE2.out⟩, fun _ => by omega⟩, hX5⟩
      | false =>
        have HP2 : Hid (∀ j, j < k + 1 → cl (atI l j) = false) := Lib.hid (fun j hj => by
          rcases Nat.lt_or_ge j k with a | a
          · exact HP.out j a
          · rw [show j = k by omega, HNE.out]; exact HGE.out)
        go_wp2_with fail
        refine HCALL.out.mono ?_; rintro e w5 ⟨rfl, hb5⟩
        have hX5 := hX.trans (hb5.mono hX.size)
        clear hb5 c0 X
        go_wp2_with fail
        go_roundw
        case rel => exact ⟨k + 1, by omega, by simp, HP2, hX5⟩
        case measure => simp [intOf]; omega
    · obtain rfl : k = len := by omega
      go_wp2_with fail
      go_ret
      refine ⟨-1, rfl, ⟨fun h => by omega, ?_⟩, hX⟩
      rintro ⟨n, hn, e⟩
      obtain ⟨j, hj, rfl⟩ := List.mem_iff_getElem.1 hn
      have h := HP.out j (by rw [← HN.out]; exact hj)
      rw [atI_eq hj, e] at h
      cases h
set_option maxHeartbeats 800000 in
theorem wicon_is (l : List Int) (cl : Int → Bool) (f : Bool) (hf : f = true ↔ ∃ x ∈ l, cl x = true) (len cap : Nat) (A : Option Addr) (ob : Nat) (hl : l.length = len) (hmax : len ≤ 1000000) (w : World) (hL : SlK .i64 w A l) (hC : ∀ x ∈ l, ∀ w1, Below w.heap.size w w1 → Calls Try.prog 62 #[.int .i64 x, .pointer (some ⟨ob, 0, none⟩)] w1 fun e w' => e = .returned (.bool (cl x)) ∧ Below w1.heap.size w1 w') :
    Calls Try.prog 63 #[.slice A len cap, .func (.func 62) #[] #[.pointer (some ⟨ob, 0, none⟩)]] w fun e w' => e = .returned (.bool f) ∧ Below w.heap.size w w' := by
  have HF := Lib.hid hf
  have HI := Lib.hid (wiidx_is l cl len cap A ob hl hmax w hL hC)
  clear hf hl hL hC
  go_enter Try.func63, Try.ntmps63
  go_wp2_with fail
  refine HI.out.mono ?_; rintro e w1 ⟨r, rfl, hr, hb⟩
  obtain rfl : f = decide (0 ≤ r) := by rw [Bool.eq_iff_iff, HF.out, decide_eq_true_eq]; exact hr.symm
  clear hr
  go_wp2_with fail
  go_ret
  exact ⟨rfl, hb⟩
theorem cells3_new (w : World) (a b c : Int) (t : TypeId) : SlK .i64 (w.alloc (.cells #[.int .i64 a, .int .i64 b, .int .i64 c] t)) (some ⟨w.heap.size, 0, none⟩) [a, b, c] := fun _ =>
  ⟨w.heap.size, 0, rfl, by simp, fun i hi => by
    match i, hi with
    | 0, _ => rw [show atI [a, b, c] 0 = a from rfl, Nat.zero_add]; go_simp
    | 1, _ => rw [show atI [a, b, c] 1 = b from rfl, Nat.zero_add]; go_simp
    | 2, _ => rw [show atI [a, b, c] 2 = c from rfl, Nat.zero_add]; go_simp
    | i + 3, hi => simp only [List.length_cons, List.length_nil] at hi; omega⟩
/-- A repeat that the jump breaks. -/
def Fo.brk (ja jt jf : Int) (x : Fo.T3) : Prop := ∃ v ∈ [ja, jt, jf], x.a < v ∧ v < x.b
instance (ja jt jf : Int) (x : Fo.T3) : Decidable (Fo.brk ja jt jf x) := by unfold Fo.brk; infer_instance
set_option maxHeartbeats 800000 in
theorem wjb_is (x : Fo.T3) (ja jt jf : Int) (ob : Nat) (r : Bool) (hr : r = decide (Fo.brk ja jt jf x)) (w : World) (hB : At3 w ob ja jt jf) :
    Calls Try.prog 61 #[.agg #[.int .i64 x.a, .int .i64 x.b, .int .i64 x.c], .pointer (some ⟨ob, 0, none⟩)] w fun e w' => e = .returned (.bool r) ∧ Below w.heap.size w w' := by
  have B := ((Below.refl w.heap.size w).alloc (Nat.le_refl _) (.cells #[.int .i64 x.a, .int .i64 x.b, .int .i64 x.c] 54)).alloc (by simp) (.cells #[.int .i64 ja, .int .i64 jt, .int .i64 jf] 3)
  have v0 := hB.c0; have v1 := hB.c1; have v2 := hB.c2; have vl := hB.lt
  have HT := Lib.hid ((TB.new w x 54).alloc (.cells #[.int .i64 ja, .int .i64 jt, .int .i64 jf] 3))
  have HSL := Lib.hid (cells3_new (w.alloc (.cells #[.int .i64 x.a, .int .i64 x.b, .int .i64 x.c] 54)) ja jt jf 3)
  rw [World.size_alloc] at HSL
  have HR : Hid (r = true ↔ ∃ v ∈ [ja, jt, jf], decide (x.a < v ∧ v < x.b) = true) := Lib.hid (by
    rw [hr, decide_eq_true_eq]
    unfold Fo.brk
    constructor
    · rintro ⟨v, hv, h⟩; exact ⟨v, hv, decide_eq_true h⟩
    · rintro ⟨v, hv, h⟩; exact ⟨v, hv, of_decide_eq_true h⟩)
  clear hr hB
  go_enter Try.func61, Try.ntmps61
  go_wp2_with fail
  refine (wicon_is [ja, jt, jf] (fun v => decide (x.a < v ∧ v < x.b)) r HR.out 3 3 _ w.heap.size rfl (by omega) _ HSL.out (fun v _ w1 hw1 => wjw_is x v _ _ rfl w1 (HT.out.below hw1))).mono ?_; rintro e w2 ⟨rfl, hb⟩
  have B2 := B.trans (hb.mono (by simp; omega))
  clear hb B
  go_wp2_with fail
  go_ret
  exact ⟨rfl, B2⟩
set_option maxRecDepth 100000 in
set_option maxHeartbeats 1600000 in
theorem wbidx_is (l : List Fo.T3) (cl : Fo.T3 → Bool) (len cap : Nat) (A : Option Addr) (ob : Nat) (hl : l.length = len) (hmax : len ≤ 1000000) (w : World) (hL : SlT w A l) (hC : ∀ x ∈ l, ∀ w1, Below w.heap.size w w1 → Calls Try.prog 61 #[.agg #[.int .i64 x.a, .int .i64 x.b, .int .i64 x.c], .pointer (some ⟨ob, 0, none⟩)] w1 fun e w' => e = .returned (.bool (cl x)) ∧ Below w1.heap.size w1 w') :
    Calls Try.prog 73 #[.slice A len cap, .func (.func 61) #[] #[.pointer (some ⟨ob, 0, none⟩)]] w fun e w' => ∃ r : Int, e = .returned (.int .i64 r) ∧ (0 ≤ r ↔ ∃ x ∈ l, cl x = true) ∧ Below w.heap.size w w' := by
  have HN := Lib.hid hl
  have HL := Lib.hid hL
  have HC := Lib.hid hC
  clear hl hL hC
  go_enter Try.func73, Try.ntmps73
  go_wp2_with fail
  go_loopw [8] (fun s8 wr => ∃ (k : Nat), k ≤ len ∧ s8 = .int .i64 (k : Int) ∧ Hid (∀ j, j < k → cl (Fo.at3 l j) = false) ∧ Below w.heap.size w wr) (fun s8 _ => len - (intOf s8).toNat)
  case atStart => exact ⟨0, Nat.zero_le _, rfl, Lib.hid (fun j hj => by omega), Below.refl _ _⟩
  case round =>
    obtain ⟨k, hk, rfl, HP, hX⟩ := hrel
    by_cases hlt : k < len
    · have hx : k < l.length := by rw [HN.out]; exact hlt
      obtain ⟨bb, off, rfl, hbb, hc⟩ := HL.out (by rw [HN.out]; omega)
      have X := (hc k hx).below hX hbb
      obtain ⟨x, hn⟩ : ∃ x, Fo.at3 l k = x := ⟨_, rfl⟩
      rw [hn] at X
      have HNE := Lib.hid hn
      have HMEM : Hid (x ∈ l) := Lib.hid (by rw [← hn]; exact Fo.at3_mem hx)
      have hcall := HC.out x HMEM.out _ hX
      obtain ⟨g, hg⟩ : ∃ g, cl x = g := ⟨_, rfl⟩
      rw [hg] at hcall
      have HGE := Lib.hid hg
      have HCALL := Lib.hid hcall
      have hj1 : (k : Int) < (len : Int) := by omega
      obtain ⟨c0, c1, c2⟩ := X
      clear hx hc hn hg hcall
      cases g with
      | true =>
        have HGE2 := Lib.hid HGE.out
        go_wp2_with fail
        refine HCALL.out.mono ?_; rintro e w5 ⟨rfl, hb5⟩
        have hX5 := hX.trans (hb5.mono hX.size)
        clear hb5 c0 c1 c2
        go_wp2_with fail
        go_ret
        exact ⟨(k : Int), rfl, ⟨fun _ => ⟨x, HMEM.out, HGE2.out⟩, fun _ => by omega⟩, hX5⟩
      | false =>
        have HP2 : Hid (∀ j, j < k + 1 → cl (Fo.at3 l j) = false) := Lib.hid (fun j hj => by
          rcases Nat.lt_or_ge j k with a | a
          · exact HP.out j a
          · rw [show j = k by omega, HNE.out]; exact HGE.out)
        go_wp2_with fail
        refine HCALL.out.mono ?_; rintro e w5 ⟨rfl, hb5⟩
        have hX5 := hX.trans (hb5.mono hX.size)
        clear hb5 c0 c1 c2
        go_wp2_with fail
        go_roundw
        case rel => exact ⟨k + 1, by omega, by simp, HP2, hX5⟩
        case measure => simp [intOf]; omega
    · obtain rfl : k = len := by omega
      go_wp2_with fail
      go_ret
      refine ⟨-1, rfl, ⟨fun h => by omega, ?_⟩, hX⟩
      rintro ⟨n, hn, e⟩
      obtain ⟨j, hj, rfl⟩ := List.mem_iff_getElem.1 hn
      have h := HP.out j (by rw [← HN.out]; exact hj)
      rw [Fo.at3_eq hj, e] at h
      cases h
set_option maxHeartbeats 800000 in
theorem wbcon_is (l : List Fo.T3) (cl : Fo.T3 → Bool) (f : Bool) (hf : f = true ↔ ∃ x ∈ l, cl x = true) (len cap : Nat) (A : Option Addr) (ob : Nat) (hl : l.length = len) (hmax : len ≤ 1000000) (w : World) (hL : SlT w A l) (hC : ∀ x ∈ l, ∀ w1, Below w.heap.size w w1 → Calls Try.prog 61 #[.agg #[.int .i64 x.a, .int .i64 x.b, .int .i64 x.c], .pointer (some ⟨ob, 0, none⟩)] w1 fun e w' => e = .returned (.bool (cl x)) ∧ Below w1.heap.size w1 w') :
    Calls Try.prog 60 #[.slice A len cap, .func (.func 61) #[] #[.pointer (some ⟨ob, 0, none⟩)]] w fun e w' => e = .returned (.bool f) ∧ Below w.heap.size w w' := by
  have HF := Lib.hid hf
  have HI := Lib.hid (wbidx_is l cl len cap A ob hl hmax w hL hC)
  clear hf hl hL hC
  go_enter Try.func60, Try.ntmps60
  go_wp2_with fail
  refine HI.out.mono ?_; rintro e w1 ⟨r, rfl, hr, hb⟩
  obtain rfl : f = decide (0 ≤ r) := by rw [Bool.eq_iff_iff, HF.out, decide_eq_true_eq]; exact hr.symm
  clear hr
  go_wp2_with fail
  go_ret
  exact ⟨rfl, hb⟩
theorem okJH_iff {h : FH} {rs : List Fo.T3} (h0 : ¬ (h.ja = 0 ∧ h.jt = 0 ∧ h.jf = 0)) : okJH h rs ↔ (Fo.iw h.jt h.ja 0 h.n ∧ Fo.iw h.jt h.jf 0 h.n) ∧ ¬ ∃ x ∈ rs, Fo.brk h.ja h.jt h.jf x := by
  unfold okJH Fo.iw Fo.wi Fo.brk
  constructor
  · rintro (h1 | ⟨h1, h2, h3, h4⟩)
    · exact absurd h1 h0
    · refine ⟨⟨by omega, by omega⟩, ?_⟩
      rintro ⟨x, hx, v, hv, h5⟩
      simp only [List.mem_cons, List.not_mem_nil, or_false] at hv
      rcases hv with rfl | rfl | rfl
      · exact h2 ⟨x, hx, h5⟩
      · exact h3 ⟨x, hx, h5⟩
      · exact h4 ⟨x, hx, h5⟩
  · rintro ⟨⟨h1, h2⟩, h3⟩
    refine .inr ⟨by omega, fun ⟨x, hx, h5⟩ => h3 ⟨x, hx, _, by simp, h5⟩, fun ⟨x, hx, h5⟩ => h3 ⟨x, hx, _, by simp, h5⟩, fun ⟨x, hx, h5⟩ => h3 ⟨x, hx, _, by simp, h5⟩⟩
set_option maxHeartbeats 3200000 in
theorem wjump_is (h : FH) (f : Fo.Fm) (r : Bool) (hr : r = true ↔ okJH h f.rs) (hmax : h.rl ≤ 100) (w : World) (hS : SlF w h f) :
    Calls Try.prog 38 #[.agg #[.int .i64 h.n, .slice h.R h.rl h.rc, .slice h.E h.el h.ec, .int .i64 h.ja, .int .i64 h.jt, .int .i64 h.jf, .slice h.C h.cl h.cc]] w fun e w' => e = .returned (.bool r) ∧ Below w.heap.size w w' := by
  have B := (Below.refl w.heap.size w).alloc (Nat.le_refl _) (.cells #[.int .i64 h.n, .slice h.R h.rl h.rc, .slice h.E h.el h.ec, .int .i64 h.ja, .int .i64 h.jt, .int .i64 h.jf, .slice h.C h.cl h.cc] 28)
  have BJ := B.alloc (by simp) (.cells #[.int .i64 h.ja, .int .i64 h.jt, .int .i64 h.jf] 25)
  have QJ := (FB.new w h).alloc (.cells #[.int .i64 h.ja, .int .i64 h.jt, .int .i64 h.jf] 25)
  have AJ := At3.new (w.alloc (.cells #[.int .i64 h.n, .slice h.R h.rl h.rc, .slice h.E h.el h.ec, .int .i64 h.ja, .int .i64 h.jt, .int .i64 h.jf, .slice h.C h.cl h.cc] 28)) h.ja h.jt h.jf 25
  rw [World.size_alloc] at AJ
  have hL := hS.sr
  have hl := hS.rl
  have heq := fun W => eqJump ⟨h.ja, h.jt, h.jf⟩ ⟨0, 0, 0⟩ (decide ((⟨h.ja, h.jt, h.jf⟩ : Fo.T3) = ⟨0, 0, 0⟩)) (by simp) W
  dsimp only at heq
  by_cases h0 : (⟨h.ja, h.jt, h.jf⟩ : Fo.T3) = ⟨0, 0, 0⟩
  case pos =>
    obtain ⟨e1, e2, e3⟩ : h.ja = 0 ∧ h.jt = 0 ∧ h.jf = 0 := by simpa using h0
    obtain rfl : r = true := hr.2 (.inl ⟨e1, e2, e3⟩)
    have hd := decide_eq_true h0
    rw [hd] at heq
    clear hr hS hL hl h0 e1 e2 e3 hd QJ AJ
    go_enter Try.func38, Try.ntmps38
    go_wp2_with (first | (simp only [heq]) | fail)
    go_ret
    exact ⟨rfl, BJ⟩
  have hd := decide_eq_false h0
  rw [hd] at heq
  have h0' : ¬ (h.ja = 0 ∧ h.jt = 0 ∧ h.jf = 0) := fun ⟨a, b, c⟩ => h0 (by rw [a, b, c])
  rw [okJH_iff h0'] at hr
  obtain ⟨g, hg⟩ : ∃ g : Bool, g = true ↔ Fo.iw h.jt h.ja 0 h.n := ⟨decide _, decide_eq_true_iff⟩
  obtain ⟨k, hk⟩ : ∃ k : Bool, k = true ↔ Fo.iw h.jt h.jf 0 h.n := ⟨decide _, decide_eq_true_iff⟩
  obtain ⟨q, hq⟩ : ∃ q : Bool, q = true ↔ ∃ x ∈ f.rs, decide (Fo.brk h.ja h.jt h.jf x) = true := ⟨decide _, decide_eq_true_iff⟩
  obtain rfl : r = ((g && k) && !q) := by
    have hq2 : q = true ↔ ∃ x ∈ f.rs, Fo.brk h.ja h.jt h.jf x := hq.trans ⟨fun ⟨x, hx, h⟩ => ⟨x, hx, of_decide_eq_true h⟩, fun ⟨x, hx, h⟩ => ⟨x, hx, decide_eq_true h⟩⟩
    rw [Bool.eq_iff_iff, hr, Bool.and_eq_true, Bool.and_eq_true, hg, hk, ← hq2]
    cases q <;> simp
  have HG := Lib.hid hg; have HK := Lib.hid hk; have HQ := Lib.hid hq
  have HLL := Lib.hid hL; have HLE := Lib.hid hl; have HMX := Lib.hid hmax
  have HB := Lib.hid BJ; have HQJ := Lib.hid QJ; have HAJ := Lib.hid AJ
  clear hr hS hL hl h0 hd hmax B BJ QJ AJ hg hk hq h0'
  go_enter Try.func38, Try.ntmps38
  go_wp2_with (first | (simp only [heq]) | fail)
  refine (wwithin_is h.jt h.ja 0 h.n g HG.out _).mono ?_; rintro e w2 ⟨rfl, hb⟩
  have B2 := HB.out.trans (hb.mono (by simp; omega)); have Q2 := HQJ.out.below hb; have A2 := HAJ.out.below hb
  clear hb heq
  cases g with
  | false =>
    go_wp2_with fail
    go_ret
    exact ⟨rfl, B2⟩
  | true =>
    have a1 := A2.c1; have a2 := A2.c2; have al := A2.lt
    have q0 := Q2.c0; have ql := Q2.lt
    go_wp2_with fail
    refine (wwithin_is h.jt h.jf 0 h.n k HK.out _).mono ?_; rintro e w3 ⟨rfl, hb⟩
    have B3 := B2.trans (hb.mono B2.size); have Q3 := Q2.below hb; have A3 := A2.below hb
    clear hb B2 Q2 A2 a1 a2 al q0 ql
    cases k with
    | false =>
      go_wp2_with fail
      go_ret
      exact ⟨rfl, B3⟩
    | true =>
      have q1 := Q3.c1; have ql := Q3.lt
      go_wp2_with fail
      refine (wbcon_is f.rs (fun x => decide (Fo.brk h.ja h.jt h.jf x)) q HQ.out h.rl h.rc h.R (w.heap.size + 1) HLE.out (by have := HMX.out; omega) _ (HLL.out.below B3) (fun x _ w1 hw1 => wjb_is x h.ja h.jt h.jf _ _ rfl w1 (A3.below hw1))).mono ?_; rintro e w4 ⟨rfl, hb⟩
      have B4 := B3.trans (hb.mono B3.size)
      clear hb B3 Q3 A3 q1 ql
      go_wp2_with fail
      go_ret
      exact ⟨rfl, B4⟩
end Go.Proofs.Ytakbpgljbbkmkaa
