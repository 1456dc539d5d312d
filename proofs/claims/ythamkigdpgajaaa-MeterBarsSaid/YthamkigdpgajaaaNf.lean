/- The walk of meter's find: a loop over begins, with two variables that its rounds write. -/
import Derived.Test.YthamkigdpgajaaaNb
import Derived.Test.YthamkigdpgajaaaMq
import Derived.Test.YthamkigdpgajaaaMf
namespace Go.Proofs.Ythamkigdpgajaaa
open Go.RowKit Go.Shelf

attribute [local go_sem] Oper.semAt_some

namespace Mt
theorem before_mono {l : List B} (hok : ∀ b ∈ l, okB b) {i : Nat} : ∀ {j : Nat}, i ≤ j → j ≤ l.length → before l i ≤ before l j
  | 0, h, _ => by
    obtain rfl : i = 0 := by omega
    exact Int.le_refl _
  | j + 1, h, hj => by
    rcases Nat.lt_or_eq_of_le h with h1 | h1
    · have ih := before_mono hok (i := i) (j := j) (by omega) (by omega)
      have hjl : j < l.length := by omega
      have := before_succ hjl
      have hb := (hok _ (List.getElem_mem hjl)).2.2.1
      omega
    · subst h1; exact Int.le_refl _
theorem ok_pos {l : List B} (hok : ∀ b ∈ l, okB b) : ∀ b ∈ l, 1 ≤ bt b := fun b hb => (hok b hb).2.2.1
theorem wh_none {l : List B} {u : Int} (hok : ∀ b ∈ l, okB b) (h : u < 0 ∨ before l l.length < u) : wh l u = none := by
  cases hw : wh l u with
  | none => rfl
  | some p =>
    obtain ⟨k, t⟩ := p
    obtain ⟨⟨h1, h2, h3, h4⟩, h5⟩ := wh_some (ok_pos hok) hw
    have hb := before_bounds hok k h1
    rcases h with h | h
    · omega
    · exfalso
      by_cases hk : k < l.length
      · have := h4 hk
        have h6 := before_succ hk
        have h7 := before_mono hok (i := k + 1) (j := l.length) hk (Nat.le_refl _)
        omega
      · obtain rfl : k = l.length := by omega
        have := h3 rfl
        omega
theorem make_of {n : Nat} (h : n ≤ 1000000000) : Rt.makeR (n : Int) 1680 = (oN n, oD n, 0) := by
  have ht : Rt.takes (n : Int) 1680 = true := Rt.takes_iff.2 ⟨by omega, by omega, by omega, by omega⟩
  have hr := Rt.red_of (n := (n : Int)) (d := 1680) (by omega) (o_vld h) (by rw [o_mul, Int.mul_comm])
  obtain ⟨e1, e2, e3⟩ := Rt.op_yes (n : Int) 1680
  unfold Rt.makeR
  rw [ht, e1, e2, e3, hr.1, hr.2.1, hr.2.2]
theorem make_ne {n : Int} {N D E : Int} (h0 : n ≠ 0) (h : Rt.makeR n 1680 = (N, D, E)) (he : E = 0) : N ≠ 0 := by
  subst he
  unfold Rt.makeR at h
  cases ht : Rt.takes n 1680 with
  | false =>
    obtain ⟨e1, e2, e3⟩ := Rt.op_no n 1680
    rw [ht, e1, e2, e3] at h
    simp at h
  | true =>
    obtain ⟨e1, e2, e3⟩ := Rt.op_yes n 1680
    rw [ht, e1, e2, e3] at h
    simp only [Prod.mk.injEq] at h
    obtain ⟨hN, hD, hE⟩ := h
    obtain ⟨_, _, h3, _, _⟩ := Rt.red_ok hE
    intro hz
    rw [hN, hz] at h3
    have h4 : Rt.redD n 1680 ≠ 0 := by
      have := Rt.vld_lim (Rt.red_ok hE).2.1
      omega
    have := Int.mul_ne_zero h4 h0
    omega
/-- What is left of so many 1680ths behind j rounds. -/
def rest (l : List B) (u : Int) (j : Nat) : Int := if j = 0 then 0 else u - before l (j - 1)
theorem rest_succ (l : List B) (u : Int) (j : Nat) : rest l u (j + 1) = u - before l j := by simp [rest]
/-- What find makes of it. -/
theorem find_end {l : List B} {u : Int} {j : Nat} (hok : ∀ b ∈ l, okB b) (hj : j ≤ l.length + 1) (h1 : ∀ i, i < j → before l i ≤ u) (h2 : j ≤ l.length → u < before l j) :
    ∃ N D E, Rt.makeR (rest l u j) 1680 = (N, D, E) ∧
      ((E = 0 ∧ posB l ((j : Int) - 1) N D = true ∧ wh l u = some (j - 1, rest l u j) ∧ (((j - 1 : Nat) : Int) = (j : Int) - 1) ∧ N = oN (rest l u j).toNat ∧ D = oD (rest l u j).toNat) ∨
        (wh l u = none ∧ (E = 0 → posB l ((j : Int) - 1) N D = false))) := by
  cases j with
  | zero =>
    have hu := h2 (Nat.zero_le _)
    rw [before_zero] at hu
    refine ⟨_, _, _, make_of (n := 0) (by omega), .inr ⟨wh_none hok (.inl hu), fun _ => ?_⟩⟩
    unfold posB
    rw [decide_eq_false (by omega)]
    rfl
  | succ k =>
    rw [rest_succ]
    have hk1 := h1 k (Nat.lt_succ_self k)
    have e1 : (((k + 1 : Nat) : Int) - 1) = (k : Int) := by omega
    rw [e1, Nat.add_sub_cancel]
    obtain ⟨r, hr⟩ := Int.eq_ofNat_of_zero_le (show 0 ≤ u - before l k by omega)
    by_cases hkl : k < l.length
    · have h3 := h2 hkl
      have h4 := before_succ hkl
      have h5 := (hok _ (List.getElem_mem hkl)).2.2.2.1
      have hrl : r ≤ 1000000000 := by omega
      have hp : pos l k (r : Int) := ⟨by omega, by omega, fun e => by omega, fun _ => by omega⟩
      have hw := wh_pos (ok_pos hok) hp
      rw [show before l k + (r : Int) = u by omega] at hw
      refine ⟨_, _, _, by rw [hr]; exact make_of hrl, .inl ⟨rfl, ?_, by rw [hw, hr], rfl, by rw [hr, Int.toNat_natCast], by rw [hr, Int.toNat_natCast]⟩⟩
      rw [posB_iff, tk_of hrl, Int.toNat_natCast]
      exact ⟨by omega, hp⟩
    · obtain rfl : k = l.length := by omega
      rcases Nat.eq_zero_or_pos r with h0 | h0
      · subst h0
        have hp : pos l l.length ((0 : Nat) : Int) := ⟨by omega, by omega, fun e => rfl, fun h => absurd h (by omega)⟩
        have hw := wh_pos (ok_pos hok) hp
        rw [show before l l.length + ((0 : Nat) : Int) = u by omega] at hw
        refine ⟨_, _, _, by rw [hr]; exact make_of (by omega), .inl ⟨rfl, ?_, by rw [hw, hr], rfl, by rw [hr, Int.toNat_natCast], by rw [hr, Int.toNat_natCast]⟩⟩
        rw [posB_iff, tk_of (by omega), Int.toNat_natCast]
        exact ⟨by omega, hp⟩
      · obtain ⟨⟨N, D, E⟩, hm⟩ : ∃ x, Rt.makeR (u - before l l.length) 1680 = x := ⟨_, rfl⟩
        refine ⟨N, D, E, hm, .inr ⟨wh_none hok (.inr (by omega)), fun he => ?_⟩⟩
        have hN := make_ne (by omega) hm he
        unfold posB
        rw [if_pos rfl, decide_eq_false (fun e => hN (tk_zero.1 e).1), Bool.and_false]
end Mt

theorem Var3.low {B : Nat} {X Y : World} {b : Nat} {x y z : Int} (h : Var3 X b x y z) (hb : Below B X Y) (hB : b < B) : Var3 Y b x y z :=
  ⟨h.at3.low hb hB, (hb.frozen (p := ⟨b, 0, none⟩) hB).trans h.f0, (hb.frozen (p := ⟨b, 1, none⟩) hB).trans h.f1, (hb.frozen (p := ⟨b, 2, none⟩) hB).trans h.f2⟩
/-- The variables of find: time, the result, found, left. -/
structure Fnd (H : Nat) (X : World) (u f r : Int) : Prop where
  t : X.cell? ⟨H, 0, none⟩ = some (.int .i64 u)
  v : Var3 X (H + 1) 0 0 0
  f : X.cell? ⟨H + 2, 0, none⟩ = some (.int .i64 f)
  ff : X.frozen? ⟨H + 2, 0, none⟩ = false
  r : X.cell? ⟨H + 3, 0, none⟩ = some (.int .i64 r)
  rf : X.frozen? ⟨H + 3, 0, none⟩ = false
theorem Fnd.low {B H : Nat} {X Y : World} {u f r : Int} (h : Fnd H X u f r) (hb : Below B X Y) (hB : H + 4 ≤ B) : Fnd H Y u f r :=
  ⟨(hb.cell (p := ⟨H, 0, none⟩) (show H < B by omega)).trans h.t, h.v.low hb (by omega), (hb.cell (p := ⟨H + 2, 0, none⟩) (show H + 2 < B by omega)).trans h.f, (hb.frozen (p := ⟨H + 2, 0, none⟩) (show H + 2 < B by omega)).trans h.ff, (hb.cell (p := ⟨H + 3, 0, none⟩) (show H + 3 < B by omega)).trans h.r, (hb.frozen (p := ⟨H + 3, 0, none⟩) (show H + 3 < B by omega)).trans h.rf⟩
theorem Fnd.put {H : Nat} {X : World} {u f r : Int} (h : Fnd H X u f r) (f' r' : Int) : Fnd H ((X.setCell ⟨H + 2, 0, none⟩ (.int .i64 f')).setCell ⟨H + 3, 0, none⟩ (.int .i64 r')) u f' r' := by
  have hb : Below (H + 2) X ((X.setCell ⟨H + 2, 0, none⟩ (.int .i64 f')).setCell ⟨H + 3, 0, none⟩ (.int .i64 r')) := ((Below.refl _ X).setCell (p := ⟨H + 2, 0, none⟩) (Nat.le_refl _) _).setCell (p := ⟨H + 3, 0, none⟩) (Nat.le_succ _) _
  have hf := h.f
  have hr := h.r
  exact ⟨(hb.cell (p := ⟨H, 0, none⟩) (show H < H + 2 by omega)).trans h.t, h.v.low hb (by omega), by go_simp, by rw [World.frozen?_setCell, World.frozen?_setCell]; exact h.ff, by go_simp, by rw [World.frozen?_setCell, World.frozen?_setCell]; exact h.rf⟩

/-- The result is written, and the mark of the loop taken. -/
theorem fin3 {X : World} {H D : Nat} (V : Var3 X (H + 1) 0 0 0) (x y z : Int) (hD : H + 4 < D) (hlt : D < X.heap.size) (K : X.heap[D]? = some (.deferred (some []))) (w : World) (G : Below w.heap.size w X) (hH : w.heap.size = H := by rfl) :
    (((X.setCell ⟨H + 1, 0, none⟩ (.int .i64 x)).setCell ⟨H + 1, 1, none⟩ (.int .i64 y)).setCell ⟨H + 1, 2, none⟩ (.int .i64 z)).heap[D]? = some (.deferred (some [])) ∧
    At3 ((((X.setCell ⟨H + 1, 0, none⟩ (.int .i64 x)).setCell ⟨H + 1, 1, none⟩ (.int .i64 y)).setCell ⟨H + 1, 2, none⟩ (.int .i64 z)).putObj D (.deferred none)) (H + 1) x y z ∧
    Below w.heap.size w ((((X.setCell ⟨H + 1, 0, none⟩ (.int .i64 x)).setCell ⟨H + 1, 1, none⟩ (.int .i64 y)).setCell ⟨H + 1, 2, none⟩ (.int .i64 z)).putObj D (.deferred none)) := by
  have hS : (((X.setCell ⟨H + 1, 0, none⟩ (.int .i64 x)).setCell ⟨H + 1, 1, none⟩ (.int .i64 y)).setCell ⟨H + 1, 2, none⟩ (.int .i64 z)).heap.size = X.heap.size := by simp [World.setCell]
  have hA := put3 V x y z
  have hG : Below w.heap.size w (((X.setCell ⟨H + 1, 0, none⟩ (.int .i64 x)).setCell ⟨H + 1, 1, none⟩ (.int .i64 y)).setCell ⟨H + 1, 2, none⟩ (.int .i64 z)) := ((G.setCell (p := ⟨H + 1, 0, none⟩) (show w.heap.size ≤ H + 1 by omega) _).setCell (p := ⟨H + 1, 1, none⟩) (show w.heap.size ≤ H + 1 by omega) _).setCell (p := ⟨H + 1, 2, none⟩) (show w.heap.size ≤ H + 1 by omega) _
  refine ⟨?_, ?_, ?_⟩
  · rw [Below.heap_setCell _ _ _ _ (show D ≠ H + 1 by omega), Below.heap_setCell _ _ _ _ (show D ≠ H + 1 by omega), Below.heap_setCell _ _ _ _ (show D ≠ H + 1 by omega)]
    exact K
  · exact hA.low (putObj_below (B := D) (Nat.le_refl _) (by omega)) (by omega)
  · exact hG.trans (putObj_below (by omega) (by omega))

set_option maxHeartbeats 2000000 in
set_option maxRecDepth 100000 in
theorem mfind_is (l : List Mt.B) (u : Int) (O : Option (Nat × Int)) (len cap : Nat) (A : Option Addr) (hO : Mt.wh l u = O) (hu0 : -4000000000000 ≤ u) (hu1 : u ≤ 4000000000000) (hl : l.length = len) (hval : Mt.Val l) (w : World) (hL : SlB w A l) :
    Calls Try.prog 36 #[.slice A len cap, .int .i64 u] w fun e w' => PosP true O e ∧ Below w.heap.size w w' := by
  have hl0 : 0 < l.length := hval.1
  have hl4 : len ≤ 4000 := by have := hval.2.1; omega
  obtain ⟨bb, off, rfl, hbb, hc⟩ := hL hl0
  have HO := Lib.hid hO
  have HL := Lib.hid hL
  have HVal := Lib.hid hval
  have HN := Lib.hid hl
  clear hO hL hval hl hc hl0
  refine (callsIn_wide (n := 10)).1 (callsIn_of_wp_marks Try.func36 rfl trivial (wpIn_wide.2 ?_) rfl)
  simp only [Try.ntmps36, List.size_toArray, List.length_cons, List.length_nil, Nat.reduceAdd, Nat.reduceSub, Array.replicate_succ, Array.replicate_zero, List.push_toArray, List.append_toArray, List.nil_append, List.cons_append]
  go_wp2_with (first | (go_at_call 48; refine (mbegins_is _ _ _ _).mono ?_; rintro e w2 ⟨rfl, rfl⟩) | fail)
  obtain ⟨w5, hw5⟩ : ∃ w5, (((((w.alloc (.cells #[.int .i64 u] 3)).alloc (.cells #[.int .i64 0, .int .i64 0, .int .i64 0] 26)).alloc (.cells #[.int .i64 (-1)] 3)).alloc (.cells #[.int .i64 0] 3)).alloc (.cells #[.slice (some ⟨bb, off, none⟩) len cap] 22)) = w5 := ⟨_, rfl⟩
  have hs5 : w5.heap.size = w.heap.size + 5 := by rw [← hw5]; simp
  have G5 : Below w.heap.size w w5 := by rw [← hw5]; exact (((((Below.refl _ w).alloc (Nat.le_refl _) _).alloc (by simp) _).alloc (by simp; omega) _).alloc (by simp; omega) _).alloc (by simp; omega) _
  have F5 : Fnd w.heap.size w5 u (-1) 0 ∧ w5.cell? ⟨w.heap.size + 4, 0, none⟩ = some (.slice (some ⟨bb, off, none⟩) len cap) := by
    have e1 := new1 w (.int .i64 u) 3
    have b1 := (Below.refl w.heap.size w).alloc (Nat.le_refl _) (.cells #[.int .i64 u] 3)
    obtain ⟨x1, hx1⟩ : ∃ x, w.alloc (.cells #[.int .i64 u] 3) = x := ⟨_, rfl⟩
    rw [hx1] at e1 b1 hw5
    have z1 : x1.heap.size = w.heap.size + 1 := by rw [← hx1]; simp
    have e2 := Var3.new x1 0 0 0 26
    have b2 := (Below.refl x1.heap.size x1).alloc (Nat.le_refl _) (.cells #[.int .i64 0, .int .i64 0, .int .i64 0] 26)
    obtain ⟨x2, hx2⟩ : ∃ x, x1.alloc (.cells #[.int .i64 0, .int .i64 0, .int .i64 0] 26) = x := ⟨_, rfl⟩
    rw [hx2] at e2 b2 hw5
    have z2 : x2.heap.size = w.heap.size + 2 := by rw [← hx2]; simp [z1]
    have e3 := new1 x2 (.int .i64 (-1)) 3
    have b3 := (Below.refl x2.heap.size x2).alloc (Nat.le_refl _) (.cells #[.int .i64 (-1)] 3)
    obtain ⟨x3, hx3⟩ : ∃ x, x2.alloc (.cells #[.int .i64 (-1)] 3) = x := ⟨_, rfl⟩
    rw [hx3] at e3 b3 hw5
    have z3 : x3.heap.size = w.heap.size + 3 := by rw [← hx3]; simp [z2]
    have e4 := new1 x3 (.int .i64 0) 3
    have b4 := (Below.refl x3.heap.size x3).alloc (Nat.le_refl _) (.cells #[.int .i64 0] 3)
    obtain ⟨x4, hx4⟩ : ∃ x, x3.alloc (.cells #[.int .i64 0] 3) = x := ⟨_, rfl⟩
    rw [hx4] at e4 b4 hw5
    have z4 : x4.heap.size = w.heap.size + 4 := by rw [← hx4]; simp [z3]
    have e5 := new1 x4 (.slice (some ⟨bb, off, none⟩) len cap) 22
    have b5 := (Below.refl x4.heap.size x4).alloc (Nat.le_refl _) (.cells #[.slice (some ⟨bb, off, none⟩) len cap] 22)
    rw [hw5] at e5 b5
    rw [z1] at e2 b2
    rw [z2] at e3 b3
    rw [z3] at e4 b4
    rw [z4] at e5 b5
    have h25 := (b2.trans (b3.mono (Nat.le_succ _))).trans ((b4.mono (by omega)).trans (b5.mono (by omega)))
    have h35 := b3.trans ((b4.mono (by omega)).trans (b5.mono (by omega)))
    have h45 := b4.trans (b5.mono (by omega))
    exact ⟨⟨(h25.cell (p := ⟨w.heap.size, 0, none⟩) (by simp)).trans e1.1, e2.low h35 (by omega), (h45.cell (p := ⟨w.heap.size + 2, 0, none⟩) (by simp)).trans e3.1, (h45.frozen (p := ⟨w.heap.size + 2, 0, none⟩) (by simp)).trans e3.2, (b5.cell (p := ⟨w.heap.size + 3, 0, none⟩) (by simp)).trans e4.1, (b5.frozen (p := ⟨w.heap.size + 3, 0, none⟩) (by simp)).trans e4.2⟩, e5.1⟩
  rw [hw5]
  clear hw5
  refine wp_ranged (gf := 53) (lb := #[.pointer (some ⟨w.heap.size + 1 + 1 + 1 + 1, 0, none⟩)]) rfl (enters_of Try.func53 (by kernel_rfl) rfl)
    (mbegins_ranged l len cap _ (w.heap.size + 4) (w.heap.size + 2) (w.heap.size + 4) HN.out HVal.out.ok hl4 w5 (by omega) (by omega) (by omega) F5.2 (fun b o e => by cases e; omega) (HL.out.below G5))
    (Below.refl _ _) (fun h k => h.trans k) (fun X j o o' _ h hc => Keep.putObj h hc) (fun _ => rfl)
    (fun pre X => (∀ i, i < pre.length → Mt.before l i ≤ u) ∧ Fnd w.heap.size X u ((pre.length : Int) - 1) (Mt.rest l u pre.length) ∧ Below w.heap.size w X)
    (fun _ X => ∃ j, j ≤ len ∧ (∀ i, i < j → Mt.before l i ≤ u) ∧ u < Mt.before l j ∧ Fnd w.heap.size X u ((j : Int) - 1) (Mt.rest l u j) ∧ Below w.heap.size w X)
    0
    (fun s X Y h hb => ⟨h.1, h.2.1.low hb (by omega), h.2.2.trans (hb.mono (by omega))⟩)
    (fun s X Y h hb => by obtain ⟨j, a1, a2, a3, a4, a5⟩ := h; exact ⟨j, a1, a2, a3, a4.low hb (by omega), a5.trans (hb.mono (by omega))⟩)
    ⟨fun i hi => absurd hi (Nat.not_lt_zero i), F5.1, G5⟩
    (fun x => { tmps := #[.slice (some ⟨bb, off, none⟩) len cap, .int .i64 u, undef, .pointer (some ⟨w.heap.size, 0, none⟩), .pointer (some ⟨w.heap.size + 1, 0, none⟩), .int .i64 0, .pointer (some ⟨w.heap.size + 1 + 1, 0, none⟩), .pointer (some ⟨w.heap.size + 1 + 1 + 1, 0, none⟩), .int .i64 (x.1 : Int), .int .i64 x.2, undef, undef, undef, .slice (some ⟨bb, off, none⟩) len cap, .func (.func 53) #[] #[.pointer (some ⟨w.heap.size + 1 + 1 + 1 + 1, 0, none⟩)], .int .i64 (x.1 : Int), .int .i64 x.2, undef, undef, undef, undef, undef, undef, undef, undef, undef, undef, undef, undef, undef, undef, undef, undef, undef, undef, undef, undef, undef, undef, undef, undef, undef], defers := [] }) ?assign ?body ?done ?stop
  case assign =>
    intro L x X K hK
    gi_wp2
    exact hK
  case body =>
    rintro L pre x X hpre ⟨hlen, hF, hG⟩ hsz
    obtain ⟨rfl, hpl⟩ := Mt.pres_last hpre
    dsimp only
    obtain ⟨j, hj⟩ : ∃ j, pre.length = j := ⟨_, rfl⟩
    obtain ⟨y, hy⟩ : ∃ y, Mt.before l j = y := ⟨_, rfl⟩
    rw [hj] at hlen hF hpl ⊢
    rw [hy]
    have hyb := Mt.before_bounds HVal.out.ok j (by have := HN.out; omega)
    rw [hy] at hyb
    obtain ⟨y0, y1⟩ := hyb
    have HJ := Lib.hid hj
    have HY := Lib.hid hy
    have p0 := hF.t
    by_cases hjk : y ≤ u
    · have h1 : ¬ u < y := by omega
      obtain ⟨hf, hff, hr, hrf⟩ := And.intro hF.f (And.intro hF.ff (And.intro hF.r hF.rf))
      clear hy hj
      gi_wp2
      have hmix : Try.prog.follows .mixedOrders = true := by kernel_rfl
      have hwr : IntKind.i64.wrap (u - y) = u - y := by rw [IntKind.wrap_i64]; omega
      gi_region
      all_goals
        refine ⟨(((KeepsOthers.setCell _ _ _).trans (KeepsOthers.setCell _ _ _)).trans (KeepsOthers.drew _)).from _, ((Keep.setCell (p := ⟨w.heap.size + 2, 0, none⟩) (Nat.le_refl _) (by simp) _).trans (Keep.setCell (p := ⟨w.heap.size + 3, 0, none⟩) (by simp) (by simp) _)).trans ⟨Nat.le_refl _, fun _ _ _ h _ => h⟩, ?_, ?_, ((hG.setCell (p := ⟨w.heap.size + 2, 0, none⟩) (by simp) _).setCell (p := ⟨w.heap.size + 3, 0, none⟩) (by simp) _).drew⟩
        · intro i hi
          rw [List.length_append, HJ.out, List.length_singleton] at hi
          rcases Nat.lt_or_eq_of_le (Nat.le_of_lt_succ hi) with h3 | h3
          · exact hlen i h3
          · subst h3; rw [HY.out]; exact hjk
        · rw [List.length_append, HJ.out, List.length_singleton, Mt.rest_succ, HY.out, show (((j + 1 : Nat) : Int) - 1) = (j : Int) by omega]
          exact (hF.put (j : Int) (u - y)).low (B := ((X.setCell ⟨w.heap.size + 2, 0, none⟩ (.int .i64 (j : Int))).setCell ⟨w.heap.size + 3, 0, none⟩ (.int .i64 (u - y))).heap.size) (Below.refl _ _).drew (by simp [World.setCell]; omega)
    · have h1 : u < y := by omega
      clear hy hj
      gi_wp2
      refine ⟨rfl, KeepsFrom.refl _ _, j, by omega, hlen, by rw [HY.out]; exact h1, hF, hG⟩
  case done =>
    rintro D X hD ⟨hlen, hF, hG⟩ hK
    rw [Mt.pres_len] at hlen hF
    obtain ⟨j, hj⟩ : ∃ j, len + 1 = j := ⟨_, rfl⟩
    rw [hj] at hlen hF
    have hu : j ≤ len → u < Mt.before l j := fun h => by omega
    replace hj : j ≤ len + 1 := by omega
    have hlt : D < X.heap.size := (Array.getElem?_eq_some_iff.1 hK).1
    have hX4 : w.heap.size + 4 ≤ X.heap.size := by omega
    obtain ⟨N, Dn, E, hm, hcase⟩ := Mt.find_end HVal.out.ok (by rw [HN.out]; exact hj) hlen (fun h => hu (by rw [← HN.out]; exact h))
    rw [HO.out] at hcase
    obtain ⟨f, hf⟩ : ∃ f, (j : Int) - 1 = f := ⟨_, rfl⟩
    obtain ⟨r, hr⟩ : ∃ r, Mt.rest l u j = r := ⟨_, rfl⟩
    rw [hf, hr] at hF hcase
    rw [hr] at hm
    have HM := Lib.hid hm
    have cr := hF.r
    clear hm hf hr hlen hu hj
    rcases hcase with ⟨rfl, hpos, rfl, hj1, rfl, rfl⟩ | ⟨rfl, hno⟩
    · have HPos := Lib.hid hpos
      obtain ⟨N, hN⟩ : ∃ N, Mt.oN r.toNat = N := ⟨_, rfl⟩
      obtain ⟨Dn, hDn⟩ : ∃ Dn, Mt.oD r.toNat = Dn := ⟨_, rfl⟩
      rw [hN, hDn] at HPos HM
      have HPP : Hid (PosP true (some (j - 1, r)) (.returned (.tuple #[.agg #[.int .i64 f, .int .i64 N, .int .i64 Dn], .int .i64 0]))) := Lib.hid (by rw [← hj1, ← hN, ← hDn]; rfl)
      clear hpos hj1 hN hDn
      go_wp2_with (first | (go_at_call 33; refine (mquarters_is r N Dn 0 HM.out _).mono ?_; rintro e w6 ⟨rfl, hb⟩; have F6 := hF.low hb hX4; have G6 := hG.trans (hb.mono hG.size); have K6 := (hb.block D hlt).trans hK; have L6 := HL.out.below G6; have hX6 : w.heap.size + 4 ≤ w6.heap.size := Nat.le_trans hX4 hb.size; have hD6 : D < w6.heap.size := Nat.lt_of_lt_of_le hlt hb.size; have cf : (w6.alloc (.cells #[.int .i64 N, .int .i64 Dn] 24)).cell? ⟨w.heap.size + 1 + 1, 0, none⟩ = some (.int .i64 f) := (((Below.refl w6.heap.size w6).alloc (Nat.le_refl _) _).cell (p := ⟨w.heap.size + 2, 0, none⟩) (show w.heap.size + 2 < w6.heap.size by omega)).trans F6.f; have Q6 := (At3.new (w6.alloc (.cells #[.int .i64 N, .int .i64 Dn] 24)) f N Dn 26); have B6 := ((Below.refl w6.heap.size w6).alloc (Nat.le_refl _) (.cells #[.int .i64 N, .int .i64 Dn] 24)).alloc (by simp) (.cells #[.int .i64 f, .int .i64 N, .int .i64 Dn] 26); clear hb cr) | (go_at_call 32; refine (mposition_is l f N Dn true len cap _ HPos.out HN.out HVal.out.ok _ (L6.below B6)).mono ?_; rintro e w7 ⟨rfl, hb⟩; have C7 := B6.trans (hb.mono B6.size); have F7 := F6.low C7 hX6; have G7 := G6.trans (C7.mono G6.size); have K7 := (C7.block D hD6).trans K6; have hD7 : D < w7.heap.size := Nat.lt_of_lt_of_le hD6 C7.size; obtain ⟨q0, q1, q2⟩ := And.intro (Q6.below hb).c0 (And.intro (Q6.below hb).c1 (Q6.below hb).c2); rw [World.size_alloc] at q0 q1 q2; obtain ⟨v0, v1, v2, f0, f1, f2⟩ := And.intro F7.v.at3.c0 (And.intro F7.v.at3.c1 (And.intro F7.v.at3.c2 (And.intro F7.v.f0 (And.intro F7.v.f1 F7.v.f2)))); clear hb C7 cf) | fail)
      obtain ⟨KF, ⟨_, r0, r1, r2⟩, BF⟩ := fin3 F7.v f N Dn (show w.heap.size + 4 < D by omega) hD7 K7 w G7
      refine ⟨by simp, .inl ⟨_, _, rfl, run_takeDeferred KF, ?_⟩⟩
      exact ⟨.tuple #[.agg #[.int .i64 f, .int .i64 N, .int .i64 Dn], .int .i64 0], by simp [results, Try.results36, go_sem, r0, r1, r2], HPP.out, BF⟩
    · have HPP : Hid (PosP true none (.returned (.tuple #[.agg #[.int .i64 0, .int .i64 0, .int .i64 0], .int .i64 3]))) := Lib.hid rfl
      by_cases hE : E = 0
      · subst hE
        have HPos := Lib.hid (hno rfl)
        clear hno
        go_wp2_with (first | (go_at_call 33; refine (mquarters_is r N Dn 0 HM.out _).mono ?_; rintro e w6 ⟨rfl, hb⟩; have F6 := hF.low hb hX4; have G6 := hG.trans (hb.mono hG.size); have K6 := (hb.block D hlt).trans hK; have L6 := HL.out.below G6; have hX6 : w.heap.size + 4 ≤ w6.heap.size := Nat.le_trans hX4 hb.size; have hD6 : D < w6.heap.size := Nat.lt_of_lt_of_le hlt hb.size; have cf : (w6.alloc (.cells #[.int .i64 N, .int .i64 Dn] 24)).cell? ⟨w.heap.size + 1 + 1, 0, none⟩ = some (.int .i64 f) := (((Below.refl w6.heap.size w6).alloc (Nat.le_refl _) _).cell (p := ⟨w.heap.size + 2, 0, none⟩) (show w.heap.size + 2 < w6.heap.size by omega)).trans F6.f; have Q6 := (At3.new (w6.alloc (.cells #[.int .i64 N, .int .i64 Dn] 24)) f N Dn 26); have B6 := ((Below.refl w6.heap.size w6).alloc (Nat.le_refl _) (.cells #[.int .i64 N, .int .i64 Dn] 24)).alloc (by simp) (.cells #[.int .i64 f, .int .i64 N, .int .i64 Dn] 26); clear hb cr) | (go_at_call 32; refine (mposition_is l f N Dn false len cap _ HPos.out HN.out HVal.out.ok _ (L6.below B6)).mono ?_; rintro e w7 ⟨rfl, hb⟩; have C7 := B6.trans (hb.mono B6.size); have F7 := F6.low C7 hX6; have G7 := G6.trans (C7.mono G6.size); have K7 := (C7.block D hD6).trans K6; have hD7 : D < w7.heap.size := Nat.lt_of_lt_of_le hD6 C7.size; obtain ⟨q0, q1, q2⟩ := And.intro (Q6.below hb).c0 (And.intro (Q6.below hb).c1 (Q6.below hb).c2); rw [World.size_alloc] at q0 q1 q2; obtain ⟨v0, v1, v2, f0, f1, f2⟩ := And.intro F7.v.at3.c0 (And.intro F7.v.at3.c1 (And.intro F7.v.at3.c2 (And.intro F7.v.f0 (And.intro F7.v.f1 F7.v.f2)))); clear hb C7 cf) | fail)
        obtain ⟨KF, ⟨_, r0, r1, r2⟩, BF⟩ := fin3 F7.v 0 0 0 (show w.heap.size + 4 < D by omega) hD7 K7 w G7
        refine ⟨by simp, .inl ⟨_, _, rfl, run_takeDeferred KF, ?_⟩⟩
        exact ⟨.tuple #[.agg #[.int .i64 0, .int .i64 0, .int .i64 0], .int .i64 3], by simp [results, Try.results36, go_sem, r0, r1, r2], HPP.out, BF⟩
      · have hEn : (E != 0) = true := by simpa using hE
        clear hno hE
        go_wp2_with (first | (go_at_call 33; refine (mquarters_is r N Dn E HM.out _).mono ?_; rintro e w6 ⟨rfl, hb⟩; have F6 := hF.low hb hX4; have G6 := hG.trans (hb.mono hG.size); have K6 := (hb.block D hlt).trans hK; have L6 := HL.out.below G6; have hX6 : w.heap.size + 4 ≤ w6.heap.size := Nat.le_trans hX4 hb.size; have hD6 : D < w6.heap.size := Nat.lt_of_lt_of_le hlt hb.size; have cf : (w6.alloc (.cells #[.int .i64 N, .int .i64 Dn] 24)).cell? ⟨w.heap.size + 1 + 1, 0, none⟩ = some (.int .i64 f) := (((Below.refl w6.heap.size w6).alloc (Nat.le_refl _) _).cell (p := ⟨w.heap.size + 2, 0, none⟩) (show w.heap.size + 2 < w6.heap.size by omega)).trans F6.f; have Q6 := (At3.new (w6.alloc (.cells #[.int .i64 N, .int .i64 Dn] 24)) f N Dn 26); have B6 := ((Below.refl w6.heap.size w6).alloc (Nat.le_refl _) (.cells #[.int .i64 N, .int .i64 Dn] 24)).alloc (by simp) (.cells #[.int .i64 f, .int .i64 N, .int .i64 Dn] 26); clear hb cr; have F7 := F6.low B6 hX6; have G7 := G6.trans (B6.mono G6.size); have K7 := (B6.block D hD6).trans K6; have hD7 : D < ((w6.alloc (.cells #[.int .i64 N, .int .i64 Dn] 24)).alloc (.cells #[.int .i64 f, .int .i64 N, .int .i64 Dn] 26)).heap.size := Nat.lt_of_lt_of_le hD6 B6.size; obtain ⟨v0, v1, v2, f0, f1, f2⟩ := And.intro F7.v.at3.c0 (And.intro F7.v.at3.c1 (And.intro F7.v.at3.c2 (And.intro F7.v.f0 (And.intro F7.v.f1 F7.v.f2))))) | fail)
        obtain ⟨KF, ⟨_, r0, r1, r2⟩, BF⟩ := fin3 F7.v 0 0 0 (show w.heap.size + 4 < D by omega) hD7 K7 w G7
        refine ⟨by simp, .inl ⟨_, _, rfl, run_takeDeferred KF, ?_⟩⟩
        exact ⟨.tuple #[.agg #[.int .i64 0, .int .i64 0, .int .i64 0], .int .i64 3], by simp [results, Try.results36, go_sem, r0, r1, r2], HPP.out, BF⟩
  case stop =>
    rintro D _ X hD _ ⟨j, hj, hlen, hu, hF, hG⟩ hK
    replace hu : j ≤ len → u < Mt.before l j := fun _ => hu
    replace hj : j ≤ len + 1 := by omega
    have hlt : D < X.heap.size := (Array.getElem?_eq_some_iff.1 hK).1
    have hX4 : w.heap.size + 4 ≤ X.heap.size := by omega
    obtain ⟨N, Dn, E, hm, hcase⟩ := Mt.find_end HVal.out.ok (by rw [HN.out]; exact hj) hlen (fun h => hu (by rw [← HN.out]; exact h))
    rw [HO.out] at hcase
    obtain ⟨f, hf⟩ : ∃ f, (j : Int) - 1 = f := ⟨_, rfl⟩
    obtain ⟨r, hr⟩ : ∃ r, Mt.rest l u j = r := ⟨_, rfl⟩
    rw [hf, hr] at hF hcase
    rw [hr] at hm
    have HM := Lib.hid hm
    have cr := hF.r
    clear hm hf hr hlen hu hj
    rcases hcase with ⟨rfl, hpos, rfl, hj1, rfl, rfl⟩ | ⟨rfl, hno⟩
    · have HPos := Lib.hid hpos
      obtain ⟨N, hN⟩ : ∃ N, Mt.oN r.toNat = N := ⟨_, rfl⟩
      obtain ⟨Dn, hDn⟩ : ∃ Dn, Mt.oD r.toNat = Dn := ⟨_, rfl⟩
      rw [hN, hDn] at HPos HM
      have HPP : Hid (PosP true (some (j - 1, r)) (.returned (.tuple #[.agg #[.int .i64 f, .int .i64 N, .int .i64 Dn], .int .i64 0]))) := Lib.hid (by rw [← hj1, ← hN, ← hDn]; rfl)
      clear hpos hj1 hN hDn
      go_wp2_with (first | (go_at_call 33; refine (mquarters_is r N Dn 0 HM.out _).mono ?_; rintro e w6 ⟨rfl, hb⟩; have F6 := hF.low hb hX4; have G6 := hG.trans (hb.mono hG.size); have K6 := (hb.block D hlt).trans hK; have L6 := HL.out.below G6; have hX6 : w.heap.size + 4 ≤ w6.heap.size := Nat.le_trans hX4 hb.size; have hD6 : D < w6.heap.size := Nat.lt_of_lt_of_le hlt hb.size; have cf : (w6.alloc (.cells #[.int .i64 N, .int .i64 Dn] 24)).cell? ⟨w.heap.size + 1 + 1, 0, none⟩ = some (.int .i64 f) := (((Below.refl w6.heap.size w6).alloc (Nat.le_refl _) _).cell (p := ⟨w.heap.size + 2, 0, none⟩) (show w.heap.size + 2 < w6.heap.size by omega)).trans F6.f; have Q6 := (At3.new (w6.alloc (.cells #[.int .i64 N, .int .i64 Dn] 24)) f N Dn 26); have B6 := ((Below.refl w6.heap.size w6).alloc (Nat.le_refl _) (.cells #[.int .i64 N, .int .i64 Dn] 24)).alloc (by simp) (.cells #[.int .i64 f, .int .i64 N, .int .i64 Dn] 26); clear hb cr) | (go_at_call 32; refine (mposition_is l f N Dn true len cap _ HPos.out HN.out HVal.out.ok _ (L6.below B6)).mono ?_; rintro e w7 ⟨rfl, hb⟩; have C7 := B6.trans (hb.mono B6.size); have F7 := F6.low C7 hX6; have G7 := G6.trans (C7.mono G6.size); have K7 := (C7.block D hD6).trans K6; have hD7 : D < w7.heap.size := Nat.lt_of_lt_of_le hD6 C7.size; obtain ⟨q0, q1, q2⟩ := And.intro (Q6.below hb).c0 (And.intro (Q6.below hb).c1 (Q6.below hb).c2); rw [World.size_alloc] at q0 q1 q2; obtain ⟨v0, v1, v2, f0, f1, f2⟩ := And.intro F7.v.at3.c0 (And.intro F7.v.at3.c1 (And.intro F7.v.at3.c2 (And.intro F7.v.f0 (And.intro F7.v.f1 F7.v.f2)))); clear hb C7 cf) | fail)
      obtain ⟨KF, ⟨_, r0, r1, r2⟩, BF⟩ := fin3 F7.v f N Dn (show w.heap.size + 4 < D by omega) hD7 K7 w G7
      refine ⟨by simp, .inl ⟨_, _, rfl, run_takeDeferred KF, ?_⟩⟩
      exact ⟨.tuple #[.agg #[.int .i64 f, .int .i64 N, .int .i64 Dn], .int .i64 0], by simp [results, Try.results36, go_sem, r0, r1, r2], HPP.out, BF⟩
    · have HPP : Hid (PosP true none (.returned (.tuple #[.agg #[.int .i64 0, .int .i64 0, .int .i64 0], .int .i64 3]))) := Lib.hid rfl
      by_cases hE : E = 0
      · subst hE
        have HPos := Lib.hid (hno rfl)
        clear hno
        go_wp2_with (first | (go_at_call 33; refine (mquarters_is r N Dn 0 HM.out _).mono ?_; rintro e w6 ⟨rfl, hb⟩; have F6 := hF.low hb hX4; have G6 := hG.trans (hb.mono hG.size); have K6 := (hb.block D hlt).trans hK; have L6 := HL.out.below G6; have hX6 : w.heap.size + 4 ≤ w6.heap.size := Nat.le_trans hX4 hb.size; have hD6 : D < w6.heap.size := Nat.lt_of_lt_of_le hlt hb.size; have cf : (w6.alloc (.cells #[.int .i64 N, .int .i64 Dn] 24)).cell? ⟨w.heap.size + 1 + 1, 0, none⟩ = some (.int .i64 f) := (((Below.refl w6.heap.size w6).alloc (Nat.le_refl _) _).cell (p := ⟨w.heap.size + 2, 0, none⟩) (show w.heap.size + 2 < w6.heap.size by omega)).trans F6.f; have Q6 := (At3.new (w6.alloc (.cells #[.int .i64 N, .int .i64 Dn] 24)) f N Dn 26); have B6 := ((Below.refl w6.heap.size w6).alloc (Nat.le_refl _) (.cells #[.int .i64 N, .int .i64 Dn] 24)).alloc (by simp) (.cells #[.int .i64 f, .int .i64 N, .int .i64 Dn] 26); clear hb cr) | (go_at_call 32; refine (mposition_is l f N Dn false len cap _ HPos.out HN.out HVal.out.ok _ (L6.below B6)).mono ?_; rintro e w7 ⟨rfl, hb⟩; have C7 := B6.trans (hb.mono B6.size); have F7 := F6.low C7 hX6; have G7 := G6.trans (C7.mono G6.size); have K7 := (C7.block D hD6).trans K6; have hD7 : D < w7.heap.size := Nat.lt_of_lt_of_le hD6 C7.size; obtain ⟨q0, q1, q2⟩ := And.intro (Q6.below hb).c0 (And.intro (Q6.below hb).c1 (Q6.below hb).c2); rw [World.size_alloc] at q0 q1 q2; obtain ⟨v0, v1, v2, f0, f1, f2⟩ := And.intro F7.v.at3.c0 (And.intro F7.v.at3.c1 (And.intro F7.v.at3.c2 (And.intro F7.v.f0 (And.intro F7.v.f1 F7.v.f2)))); clear hb C7 cf) | fail)
        obtain ⟨KF, ⟨_, r0, r1, r2⟩, BF⟩ := fin3 F7.v 0 0 0 (show w.heap.size + 4 < D by omega) hD7 K7 w G7
        refine ⟨by simp, .inl ⟨_, _, rfl, run_takeDeferred KF, ?_⟩⟩
        exact ⟨.tuple #[.agg #[.int .i64 0, .int .i64 0, .int .i64 0], .int .i64 3], by simp [results, Try.results36, go_sem, r0, r1, r2], HPP.out, BF⟩
      · have hEn : (E != 0) = true := by simpa using hE
        clear hno hE
        go_wp2_with (first | (go_at_call 33; refine (mquarters_is r N Dn E HM.out _).mono ?_; rintro e w6 ⟨rfl, hb⟩; have F6 := hF.low hb hX4; have G6 := hG.trans (hb.mono hG.size); have K6 := (hb.block D hlt).trans hK; have L6 := HL.out.below G6; have hX6 : w.heap.size + 4 ≤ w6.heap.size := Nat.le_trans hX4 hb.size; have hD6 : D < w6.heap.size := Nat.lt_of_lt_of_le hlt hb.size; have cf : (w6.alloc (.cells #[.int .i64 N, .int .i64 Dn] 24)).cell? ⟨w.heap.size + 1 + 1, 0, none⟩ = some (.int .i64 f) := (((Below.refl w6.heap.size w6).alloc (Nat.le_refl _) _).cell (p := ⟨w.heap.size + 2, 0, none⟩) (show w.heap.size + 2 < w6.heap.size by omega)).trans F6.f; have Q6 := (At3.new (w6.alloc (.cells #[.int .i64 N, .int .i64 Dn] 24)) f N Dn 26); have B6 := ((Below.refl w6.heap.size w6).alloc (Nat.le_refl _) (.cells #[.int .i64 N, .int .i64 Dn] 24)).alloc (by simp) (.cells #[.int .i64 f, .int .i64 N, .int .i64 Dn] 26); clear hb cr; have F7 := F6.low B6 hX6; have G7 := G6.trans (B6.mono G6.size); have K7 := (B6.block D hD6).trans K6; have hD7 : D < ((w6.alloc (.cells #[.int .i64 N, .int .i64 Dn] 24)).alloc (.cells #[.int .i64 f, .int .i64 N, .int .i64 Dn] 26)).heap.size := Nat.lt_of_lt_of_le hD6 B6.size; obtain ⟨v0, v1, v2, f0, f1, f2⟩ := And.intro F7.v.at3.c0 (And.intro F7.v.at3.c1 (And.intro F7.v.at3.c2 (And.intro F7.v.f0 (And.intro F7.v.f1 F7.v.f2))))) | fail)
        obtain ⟨KF, ⟨_, r0, r1, r2⟩, BF⟩ := fin3 F7.v 0 0 0 (show w.heap.size + 4 < D by omega) hD7 K7 w G7
        refine ⟨by simp, .inl ⟨_, _, rfl, run_takeDeferred KF, ?_⟩⟩
        exact ⟨.tuple #[.agg #[.int .i64 0, .int .i64 0, .int .i64 0], .int .i64 3], by simp [results, Try.results36, go_sem, r0, r1, r2], HPP.out, BF⟩
end Go.Proofs.Ythamkigdpgajaaa
