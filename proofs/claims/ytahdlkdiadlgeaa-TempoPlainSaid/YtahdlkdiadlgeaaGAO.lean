import Derived.Test.YtahdlkdiadlgeaaGAM
import Derived.Test.YtahdlkdiadlgeaaGAN
/- The walks of the reference's part, whole. -/
namespace Go.Proofs.Ytahdlkdiadlgeaa
open Go.RowKit

namespace Fo
theorem pas_len (es : List T3) (lo pass : Int) : ∀ m : Nat, (pas es lo pass m).length ≤ m
  | 0 => Nat.le_refl _
  | m + 1 => by
    have := pas_len es lo pass m
    unfold pas
    rw [List.length_append]
    split <;> simp <;> omega
theorem pss_len (es : List T3) (x : T3) (first : Int) (h : (x.b - x.a).toNat ≤ 4000) : ∀ k : Nat, (pss es x first k).length ≤ k * 4000
  | 0 => Nat.le_refl _
  | k + 1 => by
    have := pss_len es x first h k
    have := pas_len es x.a (first + k) (x.b - x.a).toNat
    unfold pss
    rw [List.length_append]
    omega
/-- Repeats of forms: their bounds. -/
def rgs (rs : List T3) : Prop := ∀ x ∈ rs, 0 ≤ x.a ∧ x.a < x.b ∧ x.b ≤ 4000 ∧ 1 ≤ x.c ∧ x.c ≤ 9
theorem rgs.up {f : Fm} (h : rgs f.rs) : up f := fun x hx => (h x hx).2.1
theorem chR.rgs {n : Int} {rs : List T3} (h : chR n 0 rs) (hn : n ≤ 4000) : rgs rs := fun x hx => by
  have := chR_all (Int.le_refl 0) h x hx
  omega
theorem blk_len {f : Fm} (h : rgs f.rs) (again : Bool) (bar : Int) : (blk f again bar).length ≤ 36000 := by
  unfold blk
  split
  · simp
  · rename_i h0
    have h1 := h _ (at3_mem (l := f.rs) (i := (six f.rs bar).toNat) (by have := six_lt f.rs bar; omega))
    have h2 := pss_len f.es (at3 f.rs (six f.rs bar).toNat) (if again then (at3 f.rs (six f.rs bar).toNat).c else 1) (by omega) ((at3 f.rs (six f.rs bar).toNat).c + 1 - (if again then (at3 f.rs (six f.rs bar).toNat).c else 1)).toNat
    refine Nat.le_trans h2 ?_
    cases again <;> simp <;> omega
theorem prt_len {f : Fm} (h : rgs f.rs) (again : Bool) (hi : Int) : ∀ (k : Nat) (bar : Int), (prt f again hi k bar).length ≤ k * 36000
  | 0, _ => Nat.le_refl _
  | k + 1, bar => by
    have := prt_len h again hi k (nxt f bar)
    have := blk_len h again bar
    unfold prt
    split
    · rw [List.length_append]; omega
    · simp
theorem par_len {f : Fm} (h : rgs f.rs) (again : Bool) {bar hi : Int} (h0 : hi - bar ≤ 4000) : (par f again bar hi).length ≤ 144000000 := by
  have := prt_len h again hi (hi - bar).toNat bar
  unfold par
  omega
end Fo
theorem own_lessK {B N : Nat} {X : World} {e : TypeId} {size : Nat} {v : Value} {n : Nat} {xs : List Value} (h : X.ownsRow N e size v n xs) (hB : B ≤ N) : X.ownsRow B e size v n xs := by
  refine ⟨h.1, ?_⟩
  rcases h.2 with h2 | ⟨g, cap, cur, h1, h2, h3, h4⟩
  · exact .inl h2
  · exact .inr ⟨g, cap, cur, h1, by omega, h3, h4⟩
/-- A repeat in a variable of its own. -/
structure TV (w : World) (b : Nat) (x : Fo.T3) : Prop where
  at_ : TB w b x
  blk : ∃ arr, w.heap[b]? = some (.cells arr 66 (0, 0))
theorem TV.new (w : World) (x : Fo.T3) : TV (w.alloc (.cells #[.int .i64 x.a, .int .i64 x.b, .int .i64 x.c] 66)) w.heap.size x := ⟨TB.new w x _, _, heap_alloc_new w _⟩
theorem TV.below {w w' : World} {b : Nat} {x : Fo.T3} (h : TV w b x) (hb : Below w.heap.size w w') : TV w' b x :=
  ⟨h.at_.below hb, by obtain ⟨arr, h1⟩ := h.blk; exact ⟨arr, (hb.block b h.at_.lt).trans h1⟩⟩
theorem TV.grown {w w' : World} {b base : Nat} {x : Fo.T3} {v : Value} {n : Nat} {xs : List Value} (h : TV w b x) (hown : w.ownsRow base 3 1 v n xs) (hg : w.grownBy w' v.ownBlock) : TV w' b x := by
  have hne : some b ≠ v.ownBlock := fun e => by
    obtain ⟨arr, h4⟩ := h.blk
    rcases hown.2 with ⟨h1, _⟩ | ⟨g2, cap, cur, h1, _, h3, _⟩
    · rw [h1] at e; cases e
    · rw [h1] at e
      cases e
      rw [h4] at h3
      cases h3
  have hk := hg.block b h.at_.lt hne
  have c : ∀ j u, w.cell? ⟨b, j, none⟩ = some u → w'.cell? ⟨b, j, none⟩ = some u := fun j u hu => (World.cell?_of_block (w := w) (a := ⟨b, j, none⟩) hk).trans hu
  obtain ⟨arr, h4⟩ := h.blk
  exact ⟨⟨Nat.lt_of_lt_of_le h.at_.lt hg.size, c 0 _ h.at_.c0, c 1 _ h.at_.c1, c 2 _ h.at_.c2⟩, arr, hk.trans h4⟩
theorem infoInt : (Try.prog.info? 3).map (fun i => (i.zero, i.size, i.bytes)) = some (some (.int .i64 0), 1, 8) := by kernel_rfl

end Go.Proofs.Ytahdlkdiadlgeaa

/- The walk of the reference's whole. -/
namespace Go.Proofs.Ytahdlkdiadlgeaa
open Go.RowKit

theorem own_kn {k : IntKind} {w : World} {base : Nat} {e : TypeId} {v : Value} {n : Nat} {g : List Int} (h : w.ownsRow base e 1 v n (vK k g)) : g.length = n ∧ ∃ A cap, v = .slice A n cap ∧ (A = none → cap = 0) ∧ SlK k w A g := by
  obtain ⟨hl, A, cap, hv, hs⟩ := own_k h
  refine ⟨hl, A, cap, hv, fun hA => ?_, hs⟩
  subst hA
  rcases h.2 with ⟨h1, _⟩ | ⟨g2, cap2, cur, h1, _⟩
  · rw [h1] at hv; cases hv; rfl
  · rw [h1] at hv; cases hv
theorem Fo.whl_len {f : Fo.Fm} (h : Fo.rgs f.rs) (hn : f.n ≤ 4000) (ha : f.ja ≤ 4000) (ht : 0 ≤ f.jt) (hf : f.jf ≤ 4000) : (Fo.whl f).length ≤ 288000000 := by
  have h1 := Fo.par_len h false (bar := 0) (hi := f.n) (by omega)
  have h2 := Fo.par_len h false (bar := 0) (hi := f.ja) (by omega)
  have h3 := Fo.par_len h true (bar := f.jt) (hi := f.jf) (by omega)
  unfold Fo.whl
  split
  · omega
  · rw [List.length_append]; omega

end Go.Proofs.Ytahdlkdiadlgeaa

/- The walk of the reference's Valid. -/
namespace Go.Proofs.Ytahdlkdiadlgeaa
open Go.RowKit

theorem fo_nodup {l : List Fo.T3} : l.Nodup ↔ ∀ j, j < l.length → Fo.at3 l j ∉ l.take j := by
  unfold List.Nodup
  rw [List.pairwise_iff_getElem]
  constructor
  · intro h j hj hm
    rw [Fo.at3_eq hj] at hm
    obtain ⟨i, hi, he⟩ := List.mem_iff_getElem.1 hm
    rw [List.length_take] at hi
    rw [List.getElem_take] at he
    exact h i j (by omega) hj (by omega) he
  · intro h i j hi hj hij he
    refine h j hj ?_
    rw [Fo.at3_eq hj, ← he]
    exact List.mem_iff_getElem.2 ⟨i, by rw [List.length_take]; omega, by rw [List.getElem_take]⟩
theorem fo_allC {n : Int} {l : List Fo.T3} : (∀ c ∈ l, Fo.okC n c) ↔ ∀ j, j < l.length → Fo.okC n (Fo.at3 l j) :=
  ⟨fun h j hj => h _ (Fo.at3_mem hj), fun h c hc => by
    obtain ⟨j, hj, rfl⟩ := List.mem_iff_getElem.1 hc
    have := h j hj
    rwa [Fo.at3_eq hj] at this⟩
end Go.Proofs.Ytahdlkdiadlgeaa

/- The walks of limit.Between and of reprise's isWithin, isCut. -/
namespace Go.Proofs.Ytahdlkdiadlgeaa
open Go.RowKit

theorem lbetween_is (x lo hi : Int) (r : Bool) (hr : r = true ↔ lo ≤ x ∧ x ≤ hi) (w : World) :
    Calls Try.prog 41 #[.int .i64 x, .int .i64 lo, .int .i64 hi] w fun e w' => e = .returned (.bool r) ∧ w' = w := by
  by_cases q0 : lo ≤ x
  case neg =>
    obtain rfl : r = false := by
      cases r with
      | false => rfl
      | true => exact absurd (hr.1 rfl).1 q0
    clear hr
    go_enter Try.func41, Try.ntmps41
    go_wp2_with fail
    go_ret
    exact ⟨rfl, rfl⟩
  by_cases q1 : x ≤ hi
  case neg =>
    obtain rfl : r = false := by
      cases r with
      | false => rfl
      | true => exact absurd (hr.1 rfl).2 q1
    clear hr
    go_enter Try.func41, Try.ntmps41
    go_wp2_with fail
    go_ret
    exact ⟨rfl, rfl⟩
  obtain rfl : r = true := hr.2 ⟨q0, q1⟩
  clear hr
  go_enter Try.func41, Try.ntmps41
  go_wp2_with fail
  go_ret
  exact ⟨rfl, rfl⟩
/-- Bars that are all in others. -/
def Fo.iw (a b lo hi : Int) : Prop := lo ≤ a ∧ a < b ∧ b ≤ hi
instance (a b lo hi : Int) : Decidable (Fo.iw a b lo hi) := by unfold Fo.iw; infer_instance
theorem wwithin_is (a b lo hi : Int) (r : Bool) (hr : r = true ↔ Fo.iw a b lo hi) (w : World) :
    Calls Try.prog 79 #[.agg #[.int .i64 a, .int .i64 b], .agg #[.int .i64 lo, .int .i64 hi]] w fun e w' => e = .returned (.bool r) ∧ Below w.heap.size w w' := by
  have B := ((Below.refl w.heap.size w).alloc (Nat.le_refl _) (.cells #[.int .i64 a, .int .i64 b] 114)).alloc (by simp) (.cells #[.int .i64 lo, .int .i64 hi] 114)
  unfold Fo.iw at hr
  by_cases q0 : lo ≤ a
  case neg =>
    obtain rfl : r = false := by
      cases r with
      | false => rfl
      | true => exact absurd (hr.1 rfl).1 q0
    clear hr
    go_enter Try.func79, Try.ntmps79
    go_wp2_with fail
    go_ret
    exact ⟨rfl, B⟩
  by_cases q1 : a < b
  case neg =>
    obtain rfl : r = false := by
      cases r with
      | false => rfl
      | true => exact absurd (hr.1 rfl).2.1 q1
    clear hr
    go_enter Try.func79, Try.ntmps79
    go_wp2_with fail
    go_ret
    exact ⟨rfl, B⟩
  by_cases q2 : b ≤ hi
  case neg =>
    obtain rfl : r = false := by
      cases r with
      | false => rfl
      | true => exact absurd (hr.1 rfl).2.2 q2
    clear hr
    go_enter Try.func79, Try.ntmps79
    go_wp2_with fail
    go_ret
    exact ⟨rfl, B⟩
  obtain rfl : r = true := hr.2 ⟨q0, q1, q2⟩
  clear hr
  go_enter Try.func79, Try.ntmps79
  go_wp2_with fail
  go_ret
  exact ⟨rfl, B⟩
set_option maxHeartbeats 800000 in
theorem wcut_is (h : FH) (c : Fo.T3) (r : Bool) (hr : r = true ↔ Fo.okC h.n c) (w : World) :
    Calls Try.prog 85 #[.agg #[.int .i64 h.n, .slice h.R h.rl h.rc, .slice h.E h.el h.ec, .int .i64 h.ja, .int .i64 h.jt, .int .i64 h.jf, .slice h.C h.cl h.cc], .agg #[.int .i64 c.a, .int .i64 c.b, .int .i64 c.c]] w fun e w' => e = .returned (.bool r) ∧ Below w.heap.size w w' := by
  have B := ((Below.refl w.heap.size w).alloc (Nat.le_refl _) (.cells #[.int .i64 h.n, .slice h.R h.rl h.rc, .slice h.E h.el h.ec, .int .i64 h.ja, .int .i64 h.jt, .int .i64 h.jf, .slice h.C h.cl h.cc] 47)).alloc (by simp) (.cells #[.int .i64 c.a, .int .i64 c.b, .int .i64 c.c] 106)
  obtain ⟨g, hg⟩ : ∃ g : Bool, g = true ↔ Fo.iw c.a c.b 0 h.n := ⟨decide _, decide_eq_true_iff⟩
  obtain ⟨k, hk⟩ : ∃ k : Bool, k = true ↔ 0 ≤ c.c ∧ c.c ≤ 20 := ⟨decide _, decide_eq_true_iff⟩
  obtain rfl : r = (g && k) := by
    rw [Bool.eq_iff_iff, hr, Bool.and_eq_true, hg, hk]
    unfold Fo.okC Fo.iw
    constructor
    · rintro ⟨a, b, c, d, e⟩; exact ⟨⟨a, b, c⟩, d, e⟩
    · rintro ⟨⟨a, b, c⟩, d, e⟩; exact ⟨a, b, c, d, e⟩
  have HG := Lib.hid hg; have HK := Lib.hid hk
  clear hr hg hk
  go_enter Try.func85, Try.ntmps85
  go_wp2_with fail
  refine (wwithin_is c.a c.b 0 h.n g HG.out _).mono ?_; rintro e w2 ⟨rfl, hb⟩
  have B2 := B.trans (hb.mono (by simp; omega))
  have k2 := keep_cell (p := ⟨w.heap.size + 1, 2, none⟩) (v := .int .i64 c.c) (by go_simp) hb
  clear hb B
  cases g with
  | false =>
    go_wp2_with fail
    go_ret
    exact ⟨rfl, B2⟩
  | true =>
    go_wp2_with fail
    refine (lbetween_is c.c 0 20 k HK.out _).mono ?_; rintro e w3 ⟨rfl, rfl⟩
    go_wp2_with fail
    go_ret
    exact ⟨rfl, B2⟩
end Go.Proofs.Ytahdlkdiadlgeaa
