/- The walks of order's closure, of ContainsFunc with it over cuts, and of the function that reprise's order gives. -/
import Derived.Test.YtakbpgljbbkmkaaWk
namespace Go.Proofs.Ytakbpgljbbkmkaa
open Go.RowKit Go.Shelf Go.Maps

attribute [local go_sem] Oper.semAt_some

theorem room_any {F : Fence} (hd : F.depth = none) (k : Nat) : F.room k := fun d h => by rw [hd] at h; cases h
theorem round_any {F G : Fence} (hd : F.depth = none) (hf : G.fn = F.fn) {m m' : Nat} {P : Program} {l : Nat} {f : FuncId} {tmps : Array Value} {assign body : Code} {w : World} {R : Ending → World → Prop}
    (hG : Machine.fenced P G = Machine.fenced P F) (h : RoundIn F m P l f tmps assign body w R) : RoundIn G m' P l f tmps assign body w R := ⟨by rw [hf]; exact h.1, fun c cs _ => by rw [hG]; exact h.2 c cs (room_any hd _)⟩
theorem new1 (w : World) (v : Value) (t : TypeId) (h : v.cells.size = 1 := by rfl) : (w.alloc (.cells #[v] t)).cell? ⟨w.heap.size, 0, none⟩ = some v ∧ (w.alloc (.cells #[v] t)).frozen? ⟨w.heap.size, 0, none⟩ = false := by
  have := h
  exact ⟨by go_simp, by go_simp⟩
/-- What no cut leaves out. -/
def Fo.flt (cs : List Fo.T3) (l : List Fo.V2) : List Fo.V2 := l.filter fun v => !decide (Fo.lft cs v)
theorem Fo.flt_snoc (cs : List Fo.T3) (l : List Fo.V2) (x : Fo.V2) : Fo.flt cs (l ++ [x]) = Fo.flt cs l ++ (if Fo.lft cs x then [] else [x]) := by
  unfold Fo.flt
  rw [List.filter_append]
  by_cases h : Fo.lft cs x
  · rw [if_pos h]; simp [h]
  · rw [if_neg h]; simp [h]
theorem Fo.flt_prefix {cs : List Fo.T3} {a b : List Fo.V2} (h : a <+: b) : Fo.flt cs a <+: Fo.flt cs b := by
  obtain ⟨c, rfl⟩ := h
  unfold Fo.flt
  rw [List.filter_append]
  exact List.prefix_append _ _
theorem i64_sub {x : Int} (h : i64 x) (hx : 0 < x) : i64 (x - 1) := by unfold i64 at h ⊢; omega
set_option maxHeartbeats 1600000 in
theorem wlvs_is (c : Fo.T3) (v : Fo.V2) (ob : Nat) (r : Bool) (hr : r = decide (Fo.lvs c v)) (hc : 0 ≤ c.a ∧ c.a < c.b ∧ c.b ≤ 4000) (w : World) (hB : At2 w ob v.b v.p) :
    Calls Try.prog 56 #[.agg #[.int .i64 c.a, .int .i64 c.b, .int .i64 c.c], .pointer (some ⟨ob, 0, none⟩)] w fun e w' => e = .returned (.bool r) ∧ Below w.heap.size w w' := by
  have B := (Below.refl w.heap.size w).alloc (Nat.le_refl _) (.cells #[.int .i64 c.a, .int .i64 c.b, .int .i64 c.c] 32)
  have v0 := hB.c0; have v1 := hB.c1; have vl := hB.lt
  obtain ⟨k0, k1, k2⟩ := hc
  obtain ⟨g, hg⟩ : ∃ g : Bool, g = true ↔ c.a ≤ v.b ∧ v.b ≤ c.b - 1 := ⟨decide _, decide_eq_true_iff⟩
  have HR : Hid (r = (g && (decide (c.c = 0) || decide (c.c = v.p)))) := Lib.hid (by
    rw [hr, Bool.eq_iff_iff, Bool.and_eq_true, Bool.or_eq_true, hg, decide_eq_true_eq, decide_eq_true_eq, decide_eq_true_eq]
    unfold Fo.lvs Fo.inn
    constructor
    · rintro ⟨⟨a, b⟩, h⟩; exact ⟨⟨a, by omega⟩, h⟩
    · rintro ⟨⟨a, b⟩, h⟩; exact ⟨⟨a, by omega⟩, h⟩)
  have HG := Lib.hid hg
  clear hr hB hg
  go_enter Try.func56, Try.ntmps56
  go_wp2_with fail
  refine (lbetween_is v.b c.a (c.b - 1) g HG.out _).mono ?_; rintro e w2 ⟨rfl, rfl⟩
  cases g with
  | false =>
    obtain rfl : r = false := HR.out
    go_wp2_with fail
    go_ret
    exact ⟨rfl, B⟩
  | true =>
    by_cases h0 : c.c = 0
    case pos =>
      obtain rfl : r = true := by rw [HR.out, decide_eq_true h0]; rfl
      have hbe : (c.c == 0) = true := by simpa using h0
      clear h0
      go_wp2_with fail
      go_ret
      exact ⟨rfl, B⟩
    case neg =>
      have hbe : (c.c == 0) = false := by simpa using h0
      obtain ⟨q, hq⟩ : ∃ q, (c.c == v.p) = q := ⟨_, rfl⟩
      obtain rfl : r = q := by rw [HR.out, decide_eq_false h0, ← hq, Bool.eq_iff_iff]; simp
      clear h0
      go_wp2_with fail
      go_ret
      exact ⟨rfl, B⟩
set_option maxRecDepth 100000 in
set_option maxHeartbeats 1600000 in
theorem woidx_is (l : List Fo.T3) (cl : Fo.T3 → Bool) (len cap : Nat) (A : Option Addr) (ob : Nat) (hl : l.length = len) (hmax : len ≤ 1000000) (w : World) (hL : SlT w A l) (hC : ∀ x ∈ l, ∀ w1, Below w.heap.size w w1 → Calls Try.prog 56 #[.agg #[.int .i64 x.a, .int .i64 x.b, .int .i64 x.c], .pointer (some ⟨ob, 0, none⟩)] w1 fun e w' => e = .returned (.bool (cl x)) ∧ Below w1.heap.size w1 w') :
    Calls Try.prog 72 #[.slice A len cap, .func (.func 56) #[] #[.pointer (some ⟨ob, 0, none⟩)]] w fun e w' => ∃ r : Int, e = .returned (.int .i64 r) ∧ (0 ≤ r ↔ ∃ x ∈ l, cl x = true) ∧ Below w.heap.size w w' := by
  have HN := Lib.hid hl
  have HL := Lib.hid hL
  have HC := Lib.hid hC
  clear hl hL hC
  go_enter Try.func72, Try.ntmps72
  go_wp2_with fail
  go_loopw [8] (fun s8 wr => ∃ (k : Nat), k ≤ len ∧ s8 = .int .i64 (k : Int) ∧ Hid (∀ j, j < k → cl (Fo.at3 l j) = false) ∧ Below w.heap.size w wr) (fun s8 _ => len - (intOf s8).toNat)
  case atStart => exact ⟨0, Nat.zero_le _, rfl, Lib.hid (fun j hj => by omega), Below.refl _ _⟩
  case round =>
    obtain ⟨k, hk, rfl, HP, hX⟩ := hrel
    by_cases hlt : k < len
    · have hx : k < l.length := by rw [HN.out]; exact hlt
      obtain ⟨bb, off, rfl, hbb, hc⟩ := HL.out (by rw [HN.out]; omega)
      have X := (hc k hx).below hX hbb
      obtain ⟨x, hn⟩ : ∃ x, Fo.at3 l k = x := ⟨_, rfl⟩
      rw [hn] at X
      have HNE := Lib.hid hn
      have HMEM : Hid (x ∈ l) := Lib.hid (by rw [← hn]; exact Fo.at3_mem hx)
      have hcall := HC.out x HMEM.out _ hX
      obtain ⟨g, hg⟩ : ∃ g, cl x = g := ⟨_, rfl⟩
      rw [hg] at hcall
      have HGE := Lib.hid hg
      have HCALL := Lib.hid hcall
      have hj1 : (k : Int) < (len : Int) := by omega
      obtain ⟨c0, c1, c2⟩ := X
      clear hx hc hn hg hcall
      cases g with
      | true =>
        have HGE2 := Lib.hid HGE.out
        go_wp2_with fail
        refine HCALL.out.mono ?_; rintro e w5 ⟨rfl, hb5⟩
        have hX5 := hX.trans (hb5.mono hX.size)
        clear hb5 c0 c1 c2
        go_wp2_with fail
        go_ret
        exact ⟨(k : Int), rfl, ⟨fun _ => ⟨x, HMEM.out, HGE2.out⟩, fun _ => by omega⟩, hX5⟩
      | false =>
        have HP2 : Hid (∀ j, j < k + 1 → cl (Fo.at3 l j) = false) := Lib.hid (fun j hj => by
          rcases Nat.lt_or_ge j k with a | a
          · exact HP.out j a
          · rw [show j = k by omega, HNE.out]; exact HGE.out)
        go_wp2_with fail
        refine HCALL.out.mono ?_; rintro e w5 ⟨rfl, hb5⟩
        have hX5 := hX.trans (hb5.mono hX.size)
        clear hb5 c0 c1 c2
        go_wp2_with fail
        go_roundw
        case rel => exact ⟨k + 1, by omega, by simp, HP2, hX5⟩
        case measure => simp [intOf]; omega
    · obtain rfl : k = len := by omega
      go_wp2_with fail
      go_ret
      refine ⟨-1, rfl, ⟨fun h => by omega, ?_⟩, hX⟩
      rintro ⟨n, hn, e⟩
      obtain ⟨j, hj, rfl⟩ := List.mem_iff_getElem.1 hn
      have h := HP.out j (by rw [← HN.out]; exact hj)
      rw [Fo.at3_eq hj, e] at h
      cases h
set_option maxHeartbeats 800000 in
theorem wocon_is (l : List Fo.T3) (cl : Fo.T3 → Bool) (f : Bool) (hf : f = true ↔ ∃ x ∈ l, cl x = true) (len cap : Nat) (A : Option Addr) (ob : Nat) (hl : l.length = len) (hmax : len ≤ 1000000) (w : World) (hL : SlT w A l) (hC : ∀ x ∈ l, ∀ w1, Below w.heap.size w w1 → Calls Try.prog 56 #[.agg #[.int .i64 x.a, .int .i64 x.b, .int .i64 x.c], .pointer (some ⟨ob, 0, none⟩)] w1 fun e w' => e = .returned (.bool (cl x)) ∧ Below w1.heap.size w1 w') :
    Calls Try.prog 57 #[.slice A len cap, .func (.func 56) #[] #[.pointer (some ⟨ob, 0, none⟩)]] w fun e w' => e = .returned (.bool f) ∧ Below w.heap.size w w' := by
  have HF := Lib.hid hf
  have HI := Lib.hid (woidx_is l cl len cap A ob hl hmax w hL hC)
  clear hf hl hL hC
  go_enter Try.func57, Try.ntmps57
  go_wp2_with fail
  refine HI.out.mono ?_; rintro e w1 ⟨r, rfl, hr, hb⟩
  obtain rfl : f = decide (0 ≤ r) := by rw [Bool.eq_iff_iff, HF.out, decide_eq_true_eq]; exact hr.symm
  clear hr
  go_wp2_with fail
  go_ret
  exact ⟨rfl, hb⟩
set_option maxHeartbeats 800000 in
theorem wvisitsm_is (h : FH) (w : World) :
    Calls Try.prog 55 #[.agg #[.int .i64 h.n, .slice h.R h.rl h.rc, .slice h.E h.el h.ec, .int .i64 h.ja, .int .i64 h.jt, .int .i64 h.jf, .slice h.C h.cl h.cc]] w fun e w' => e = .returned (.func (.func 71) #[] #[.pointer (some ⟨w.heap.size, 0, none⟩)]) ∧ w' = w.alloc (.cells #[.int .i64 h.n, .slice h.R h.rl h.rc, .slice h.E h.el h.ec, .int .i64 h.ja, .int .i64 h.jt, .int .i64 h.jf, .slice h.C h.cl h.cc] 28) := by
  go_enter Try.func55, Try.ntmps55
  go_wp2_with fail
  go_ret
  exact ⟨rfl, rfl⟩
set_option maxHeartbeats 800000 in
theorem worderm_is (h : FH) (w : World) :
    Calls Try.prog 32 #[.agg #[.int .i64 h.n, .slice h.R h.rl h.rc, .slice h.E h.el h.ec, .int .i64 h.ja, .int .i64 h.jt, .int .i64 h.jf, .slice h.C h.cl h.cc]] w fun e w' => e = .returned (.func (.func 54) #[] #[.pointer (some ⟨w.heap.size, 0, none⟩)]) ∧ w' = w.alloc (.cells #[.int .i64 h.n, .slice h.R h.rl h.rc, .slice h.E h.el h.ec, .int .i64 h.ja, .int .i64 h.jt, .int .i64 h.jf, .slice h.C h.cl h.cc] 28) := by
  go_enter Try.func32, Try.ntmps32
  go_wp2_with fail
  go_ret
  exact ⟨rfl, rfl⟩
set_option maxHeartbeats 12800000 in
set_option maxRecDepth 100000 in
theorem worder_in (h : FH) (f : Fo.Fm) (V : Fo.Ok f) (hcs : ∀ c ∈ f.cs, Fo.okC f.n c) (hcl : h.cl ≤ 1000000) (L Bl : Nat) (S : Nat → Prop) (J Jx : (Nat → Prop) → List Fo.V2 → World → Prop) (W : World) (hSlt : ∀ k, S k → k < W.heap.size)
    (hJ : ∀ R s X Y, J R s X → Ac W.heap.size R X Y → J R s Y) (hJx : ∀ R s X Y, Jx R s X → Ac W.heap.size R X Y → Jx R s Y) (hFx : ∀ Y, Stay S W Y → FB Y Bl h ∧ SlF Y h f)
    (hY : ∀ (R : Nat → Prop) pre x X, pre ++ [x] <+: Fo.unf f → (∀ k, R k → W.heap.size ≤ k ∧ k < X.heap.size) → J R pre X → W.heap.size ≤ X.heap.size → YieldAt Fence.wide 7 Try.prog L #[.agg #[.int .i64 x.b, .int .i64 x.p]] X fun e Y =>
      (e = .returned (.bool true) ∧ J (grow R X Y) (pre ++ [x]) Y ∧ KrR S W.heap.size R X Y) ∨ (e = .returned (.bool false) ∧ Jx (grow R X Y) (pre ++ [x]) Y ∧ KrR S W.heap.size R X Y))
    (h0 : J (fun _ => False) [] W) :
    CallsIn Fence.wide 8 Try.prog 54 #[.func (.yield L) #[] #[], .pointer (some ⟨Bl, 0, none⟩)] W fun e Y => (∃ v, e = .returned v) ∧ ((W.heap.size ≤ Y.heap.size ∧ ∃ R : Nat → Prop, (∀ k, R k → W.heap.size ≤ k ∧ k < Y.heap.size) ∧ J R (Fo.unf f) Y) ∨ ∃ (R : Nat → Prop) (pre : List Fo.V2), pre <+: Fo.unf f ∧ (∀ k, R k → W.heap.size ≤ k ∧ k < Y.heap.size) ∧ Jx R pre Y) := by
  have HJ := Lib.hid hJ; have HJX := Lib.hid hJx; have HY := Lib.hid hY; have HFX := Lib.hid hFx; have HCS := Lib.hid hcs; have HVV := Lib.hid V
  obtain ⟨Q0, S0⟩ := hFx W (Stay.refl _ _)
  have Q1 := Q0.alloc (.cells #[.func (.yield L) #[] #[]] 76)
  have S1 := S0.alloc (.cells #[.func (.yield L) #[] #[]] 76)
  have B1 := (Below.refl W.heap.size W).alloc (Nat.le_refl _) (.cells #[.func (.yield L) #[] #[]] 76)
  have Y1 := (new1 W (.func (.yield L) #[] #[]) 76).1
  have HS3 := Lib.hid (S1.alloc (.cells #[.int .i64 h.n, .slice h.R h.rl h.rc, .slice h.E h.el h.ec, .int .i64 h.ja, .int .i64 h.jt, .int .i64 h.jf, .slice h.C h.cl h.cc] 28))
  have HQ3 := FB.new (W.alloc (.cells #[.func (.yield L) #[] #[]] 76)) h
  rw [World.size_alloc] at HQ3
  have HQ3 := Lib.hid HQ3
  have B3 := B1.alloc (by simp) (.cells #[.int .i64 h.n, .slice h.R h.rl h.rc, .slice h.E h.el h.ec, .int .i64 h.ja, .int .i64 h.jt, .int .i64 h.jf, .slice h.C h.cl h.cc] 28)
  have HY3 := Lib.hid (keep_alloc Y1 (.cells #[.int .i64 h.n, .slice h.R h.rl h.rc, .slice h.E h.el h.ec, .int .i64 h.ja, .int .i64 h.jt, .int .i64 h.jf, .slice h.C h.cl h.cc] 28))
  have HJ3 := Lib.hid (hJ _ _ _ _ h0 (((Ac.refl W.heap.size _ W).alloc (.cells #[.func (.yield L) #[] #[]] 76)).alloc (.cells #[.int .i64 h.n, .slice h.R h.rl h.rc, .slice h.E h.el h.ec, .int .i64 h.ja, .int .i64 h.jt, .int .i64 h.jf, .slice h.C h.cl h.cc] 28)))
  have q0 := Q0.c0; have q1 := Q0.c1; have q2 := Q0.c2; have q3 := Q0.c3; have q4 := Q0.c4; have q5 := Q0.c5; have q6 := Q0.c6; have ql := Q0.lt
  have HB3 := Lib.hid B3
  clear hJ hJx hY hFx hcs h0 V Q0 S0 Q1 S1 B1 Y1 B3
  refine callsIn_of_wp_marks Try.func54 rfl trivial ?_ rfl
  simp only [Try.ntmps54, List.size_toArray, List.length_cons, List.length_nil, Nat.reduceAdd, Nat.reduceSub, Array.replicate_succ, Array.replicate_zero, List.push_toArray, List.append_toArray, List.nil_append, List.cons_append]
  have hn7 : 1 ≤ 8 := by omega
  gi_wp2
  refine ⟨trivial, ?_⟩
  refine (callsIn_wide.2 (wvisitsm_is h _)).mono ?_
  rintro e w3 ⟨rfl, rfl⟩
  obtain ⟨w3, hw3⟩ : ∃ w3, ((W.alloc (.cells #[.func (.yield L) #[] #[]] 76)).alloc (.cells #[.int .i64 h.n, .slice h.R h.rl h.rc, .slice h.E h.el h.ec, .int .i64 h.ja, .int .i64 h.jt, .int .i64 h.jf, .slice h.C h.cl h.cc] 28)) = w3 := ⟨_, rfl⟩
  have hs3 : w3.heap.size = W.heap.size + 2 := by rw [← hw3]; simp
  rw [hw3] at HS3 HQ3 HB3 HY3 HJ3
  have HW3 := Lib.hid hw3
  clear q0 q1 q2 q3 q4 q5 q6 ql hw3
  gi_wp2
  rw [HW3.out]
  refine wpIn_wide.2 (wp_seqR (gf := 71) (lb := #[.pointer (some ⟨W.heap.size + 1, 0, none⟩)]) rfl (enters_of Try.func71 (by kernel_rfl) rfl) (wvisits_seq h f HVV.out (W.heap.size + 1) (fun _ => False) w3 HQ3.out HS3.out) (fun k hk => hk.elim) (Below.refl _ _) (fun _ => rfl)
    (fun R pre X => (∃ Ro : Nat → Prop, (∀ k, Ro k → R k) ∧ J Ro (Fo.flt f.cs pre) X) ∧ X.cell? ⟨W.heap.size, 0, none⟩ = some (.func (.yield L) #[] #[]) ∧ Stay S W X)
    (fun R _ X => ∃ (Ro : Nat → Prop) (pre : List Fo.V2), (∀ k, Ro k → R k) ∧ pre <+: Fo.unf f ∧ Jx Ro pre X) true 0 ?hmono ?hmonox ?hI ?hIx ?h0
    (fun R x a' X => ∃ b, R b ∧ At2 X b x.b x.p ∧ a' = { tmps := #[.func (.yield L) #[] #[], .pointer (some ⟨Bl, 0, none⟩), .pointer (some ⟨W.heap.size, 0, none⟩), .pointer (some ⟨b, 0, none⟩), undef, .agg #[.int .i64 h.n, .slice h.R h.rl h.rc, .slice h.E h.el h.ec, .int .i64 h.ja, .int .i64 h.jt, .int .i64 h.jf, .slice h.C h.cl h.cc], .func (.func 71) #[] #[.pointer (some ⟨W.heap.size + 1, 0, none⟩)], .agg #[.int .i64 x.b, .int .i64 x.p], undef, undef, undef, undef, undef, undef, undef, undef, undef, undef, undef, undef], defers := [] })
    ?hAx ?assign ?body ?done ?stop)
  case hmono =>
    rintro R R2 s X hR ⟨⟨Ro, h1, h2⟩, h3⟩
    exact ⟨⟨Ro, fun k hk => hR k (h1 k hk), h2⟩, h3⟩
  case hmonox =>
    rintro R R2 s X hR ⟨Ro, pre, h1, h2⟩
    exact ⟨Ro, pre, fun k hk => hR k (h1 k hk), h2⟩
  case hI =>
    rintro R s X Y ⟨⟨Ro, h1, h2⟩, hy, hst⟩ hb
    exact ⟨⟨Ro, h1, HJ.out _ _ _ _ h2 (hb.less (by omega) (fun k hk => .inr (h1 k hk)))⟩, hb.cell (.inl (by simp; omega)) hy, hst.trans (hb.stay (fun k hk => by have := hSlt k hk; omega))⟩
  case hIx =>
    rintro R s X Y ⟨Ro, pre, h1, h2, h3⟩ hb
    exact ⟨Ro, pre, h1, h2, HJX.out _ _ _ _ h3 (hb.less (by omega) (fun k hk => .inr (h1 k hk)))⟩
  case h0 => exact ⟨⟨_, fun k hk => hk, HJ3.out⟩, HY3.out, Stay.ofBelow HB3.out⟩
  case hAx =>
    rintro R x a' X o o' hRn ⟨b, hb, hA, rfl⟩ _ _
    have hne : b ≠ w3.heap.size + 1 := fun e => hRn (e ▸ hb)
    exact ⟨b, hb, hA.sameB (by simp) (World.putObj_heap_other hne), rfl⟩
  case assign =>
    rintro Lr R pre x X hpre hRb ⟨⟨Ro, h1, h2⟩, hy, hst⟩ hz
    gi_wp2
    have hbX : Below X.heap.size X (X.alloc (.cells #[.int .i64 x.b, .int .i64 x.p] 30)) := (Below.refl _ _).alloc (Nat.le_refl _) _
    exact ⟨KrR.ofBelow hbX, ⟨⟨Ro, h1, HJ.out _ _ _ _ h2 (.ofBelow hbX)⟩, keep_alloc hy _, hst.alloc _⟩, X.heap.size, .inr ⟨Nat.le_refl _, by simp⟩, At2.new _ _ _ _, rfl⟩
  case body =>
    rintro Lr R pre x a' X hpre hRb ⟨⟨Ro, h1, h2⟩, hy, hst⟩ ⟨b, hRB, hA, rfl⟩ hz
    obtain ⟨QX, SX⟩ := HFX.out X hst
    have hFS := Fo.flt_snoc f.cs pre x
    have HPU : Hid (Fo.flt f.cs (pre ++ [x]) <+: Fo.unf f) := Lib.hid (Fo.flt_prefix hpre)
    obtain ⟨g, hg⟩ : ∃ g : Bool, g = true ↔ ∃ c ∈ f.cs, decide (Fo.lvs c x) = true := ⟨decide _, decide_eq_true_iff⟩
    have hgl : g = true ↔ Fo.lft f.cs x := hg.trans ⟨fun ⟨c, hc, h⟩ => ⟨c, hc, of_decide_eq_true h⟩, fun ⟨c, hc, h⟩ => ⟨c, hc, decide_eq_true h⟩⟩
    have HG := Lib.hid hg; have HGL := Lib.hid hgl; have HFS := Lib.hid hFS
    have q6 := QX.c6; have ql := QX.lt
    have HA := Lib.hid hA; have HSX := Lib.hid SX; have HJ4 := Lib.hid h2; have HST := Lib.hid hst; have HRO := Lib.hid h1; have HRBB := Lib.hid hRb
    have hyl := World.block_lt_of_cell? _ _ hy
    have HYY := Lib.hid hy
    clear QX SX hFS hg hgl hA h2 hst h1 hRb hy
    gi_wp2
    refine ⟨trivial, ?_⟩
    refine (CallsIn.inRound _ (callsIn_wide.2 (wocon_is f.cs (fun c => decide (Fo.lvs c x)) g HG.out h.cl h.cc h.C b HSX.out.cl hcl X HSX.out.sc (fun c hc w1 hw1 => wlvs_is c x b _ rfl (by have := HCS.out c hc; have := HVV.out.n; unfold Fo.okC at *; omega) w1 (HA.out.below hw1))))).mono ?_
    rintro e X2 ⟨rfl, hb2⟩
    have hz2 := hb2.size
    have hJ5 := HJ.out _ _ _ _ HJ4.out (Ac.ofBelow hb2)
    have HA2 := Lib.hid (HA.out.below hb2)
    have hy2 := keep_cell HYY.out hb2
    have HST2 := Lib.hid (HST.out.trans (Stay.ofBelow hb2))
    have HB2 := Lib.hid hb2
    clear q6 ql hb2
    cases g with
    | true =>
      have HF2 : Hid (Fo.flt f.cs (pre ++ [x]) = Fo.flt f.cs pre) := Lib.hid (by rw [HFS.out, if_pos (HGL.out.1 rfl), List.append_nil])
      have HJ5 := Lib.hid hJ5
      clear hJ5
      gi_wp2
      refine ⟨(by intro f h; cases h), ?_⟩
      gi_wp2
      exact ⟨KrR.ofBelow HB2.out, ⟨Ro, fun k hk => .inl (HRO.out k hk), by rw [HF2.out]; exact HJ5.out⟩, hy2, HST2.out⟩
    | false =>
      have HF2 : Hid (Fo.flt f.cs (pre ++ [x]) = Fo.flt f.cs pre ++ [x]) := Lib.hid (by rw [HFS.out, if_neg (fun h => by have := HGL.out.2 h; cases this)])
      have hpp : Fo.flt f.cs pre ++ [x] <+: Fo.unf f := by rw [← HF2.out]; exact HPU.out
      have hRoB : ∀ k, Ro k → W.heap.size ≤ k ∧ k < X2.heap.size := fun k hk => by have := HRBB.out k (HRO.out k hk); omega
      obtain ⟨fn, tmps, assign, body, hyl2, hR⟩ := HY.out Ro _ x X2 hpp hRoB hJ5 (by omega)
      have HR := Lib.hid hR; have HPP := Lib.hid hpp
      obtain ⟨a0, a1⟩ := And.intro HA2.out.c0 HA2.out.c1
      have al := HA2.out.lt
      have HNR : Hid (¬ Ro W.heap.size) := Lib.hid (fun h => by have := HRBB.out _ (HRO.out _ h); omega)
      clear hR hpp hJ5 hRoB
      gi_wp2
      refine (round_any rfl rfl rfl HR.out).mono ?_
      clear HR hyl2
      rintro e2 Y (⟨rfl, hJ6, hK6⟩ | ⟨rfl, hJx6, hK6⟩)
      · have zY := hK6.size
        have yy := hK6.cell (p := ⟨W.heap.size, 0, none⟩) (.inr ⟨Nat.le_refl _, HNR.out⟩) hy2
        have hKR : KrR (fun _ => False) w3.heap.size R X Y := (KrR.ofBelow HB2.out).trans (hK6.wide (fun k _ hk => hk.elim) (fun k hk hn hr => .inr ⟨by omega, fun h => hr (HRO.out k h)⟩))
        have hGR : ∀ k, grow Ro X2 Y k → grow R X Y k := fun k hk => by
          rcases hk with hk | hk
          · exact .inl (HRO.out k hk)
          · exact .inr ⟨by omega, hk.2⟩
        have HJ6 := Lib.hid hJ6; have HKR := Lib.hid hKR; have HGR := Lib.hid hGR
        have HST6 := Lib.hid (HST2.out.trans hK6.stay)
        clear hJ6 hK6 hKR hGR a0 a1 al
        gi_wp2
        exact ⟨HKR.out, ⟨_, HGR.out, by rw [HF2.out]; exact HJ6.out⟩, yy, HST6.out⟩
      · have hKR : KrR (fun _ => False) w3.heap.size R X Y := (KrR.ofBelow HB2.out).trans (hK6.wide (fun k _ hk => hk.elim) (fun k hk hn hr => .inr ⟨by omega, fun h => hr (HRO.out k h)⟩))
        have hGR : ∀ k, grow Ro X2 Y k → grow R X Y k := fun k hk => by
          rcases hk with hk | hk
          · exact .inl (HRO.out k hk)
          · exact .inr ⟨by omega, hk.2⟩
        gi_wp2
        exact ⟨by trivial, hKR, _, _, hGR, HPP.out, hJx6⟩
  case done =>
    rintro D X hD hzX ⟨R, hRb, ⟨Ro, h1, h2⟩, hy, hst⟩ hK
    obtain rfl : D = W.heap.size + 2 := by omega
    have JZ := Lib.hid (HJ.out _ _ _ _ h2 (Ac.putObj (l := W.heap.size + 2) (by omega) (fun h => by have := hRb _ (h1 _ h); omega) (.deferred none)))
    have HRB2 : Hid (∀ k, Ro k → W.heap.size ≤ k ∧ k < X.heap.size) := Lib.hid (fun k hk => by have := hRb k (h1 k hk); omega)
    clear h2 h1 hRb
    gi_wp2
    refine ⟨by simp, .inl ⟨_, _, rfl, run_takeDeferred hK, ?_⟩⟩
    exact ⟨_, results_none rfl _ _ _, ⟨_, rfl⟩, .inl ⟨by simp; omega, Ro, fun k hk => by have := HRB2.out k hk; simpa using this, JZ.out⟩⟩
  case stop =>
    rintro D R pre X hD hpre hRb ⟨Ro, pre2, h1, h2, h3⟩ hK
    obtain rfl : D = W.heap.size + 2 := by omega
    have JZ := Lib.hid (HJX.out _ _ _ _ h3 (Ac.putObj (l := W.heap.size + 2) (by omega) (fun h => by have := hRb _ (h1 _ h); omega) (.deferred none)))
    have HRB2 : Hid (∀ k, Ro k → W.heap.size ≤ k ∧ k < X.heap.size) := Lib.hid (fun k hk => by have := hRb k (h1 k hk); omega)
    have HP2 := Lib.hid h2
    clear h3 h1 hRb h2
    rw [if_pos rfl]
    gi_wp2
    refine ⟨by simp, .inl ⟨_, _, rfl, run_takeDeferred hK, ?_⟩⟩
    exact ⟨_, results_none rfl _ _ _, ⟨_, rfl⟩, .inr ⟨Ro, pre2, HP2.out, fun k hk => by have := HRB2.out k hk; simpa using this, JZ.out⟩⟩
/-- All visits of a form that no cut leaves out, one after the other. -/
theorem worder_seq (h : FH) (f : Fo.Fm) (V : Fo.Ok f) (hcs : ∀ c ∈ f.cs, Fo.okC f.n c) (hcl : h.cl ≤ 1000000) (Bl : Nat) (S : Nat → Prop) (w : World) (hSlt : ∀ k, S k → k < w.heap.size) (hFx : ∀ Y, Stay S w Y → FB Y Bl h ∧ SlF Y h f) :
    SeqR Try.prog 54 #[.pointer (some ⟨Bl, 0, none⟩)] (fun x : Fo.V2 => #[Value.agg #[.int .i64 x.b, .int .i64 x.p]]) S (Fo.unf f) w := fun L J Jx W hW hJ hJx hY h0 =>
  worder_in h f V hcs hcl L Bl S J Jx W (fun k hk => Nat.lt_of_lt_of_le (hSlt k hk) hW.size) hJ hJx (fun Y hY => hFx Y ((Stay.ofBelow hW).trans hY)) hY h0
end Go.Proofs.Ytakbpgljbbkmkaa
