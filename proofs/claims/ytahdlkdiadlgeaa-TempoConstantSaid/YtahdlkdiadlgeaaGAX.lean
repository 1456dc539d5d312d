import Derived.Test.YtahdlkdiadlgeaaGAW
import Derived.Test.YtahdlkdiadlgeaaGAD
import Derived.Test.YtahdlkdiadlgeaaGAE
import Derived.Test.YtahdlkdiadlgeaaGAQ
import Derived.Test.YtahdlkdiadlgeaaGAV
/- Mathematics of the laws of tempo: forms without repeats, visits one after the other. -/
namespace Go.Proofs.Ytahdlkdiadlgeaa
namespace Te
open Fo (T3 at3)
theorem visA_bars : ∀ (l acc : List Int), (Fo.visA acc l).map (fun v => v.b) = l
  | [], _ => rfl
  | b :: l, acc => by rw [Fo.visA, List.map_cons, visA_bars l]
theorem vis_atb {L : List Int} {i : Nat} (h : i < L.length) : (atV (Fo.vis L) i).b = L[i] := by
  have h1 : i < (Fo.vis L).length := by rw [Fo.vis_length]; exact h
  have h2 := visA_bars L []
  rw [atV_eq h1]
  have h3 : ((Fo.vis L).map (fun v => v.b))[i]'(by rw [List.length_map]; exact h1) = L[i] := by
    simp only [Fo.vis, h2]
  rwa [List.getElem_map] at h3
/-- A form without repeats, jump and cuts. -/
def pf (n : Int) : Fo.Fm := ⟨n, [], [], 0, 0, 0, []⟩
theorem prt_pf (n : Int) (hi : Int) : ∀ (k : Nat) (bar : Int), bar + k ≤ hi → (Fo.prt (pf n) false hi k bar).length = k ∧ ∀ (i : Nat) (h : i < (Fo.prt (pf n) false hi k bar).length), (Fo.prt (pf n) false hi k bar)[i] = bar + i
  | 0, _, _ => ⟨rfl, fun i h => by simp [Fo.prt] at h⟩
  | k + 1, bar, h => by
    have e : Fo.prt (pf n) false hi (k + 1) bar = bar :: Fo.prt (pf n) false hi k (bar + 1) := by
      conv => lhs; unfold Fo.prt
      rw [if_pos (by omega)]
      rfl
    obtain ⟨h1, h2⟩ := prt_pf n hi k (bar + 1) (by omega)
    rw [e]
    refine ⟨by rw [List.length_cons, h1], fun i hi2 => ?_⟩
    cases i with
    | zero => simp
    | succ i =>
      rw [List.getElem_cons_succ, h2 i (by simpa using hi2)]
      omega
theorem whl_pf {n : Nat} : (Fo.whl (pf n)).length = n ∧ ∀ (i : Nat) (h : i < (Fo.whl (pf n)).length), (Fo.whl (pf n))[i] = (i : Int) := by
  have e : Fo.whl (pf n) = Fo.prt (pf n) false n n 0 := by
    unfold Fo.whl Fo.par
    rw [if_pos (show (pf (n : Int)).ja = 0 from rfl)]
    show Fo.prt (pf n) false (n : Int) ((n : Int) - 0).toNat 0 = _
    rw [show ((n : Int) - 0).toNat = n by omega]
  rw [e]
  obtain ⟨h1, h2⟩ := prt_pf n n n 0 (by omega)
  exact ⟨h1, fun i h => by rw [h2 i h]; omega⟩
theorem unf_pf (n : Int) : Fo.unf (pf n) = Fo.vis (Fo.whl (pf n)) := by
  unfold Fo.unf
  refine List.filter_eq_self.2 fun v _ => ?_
  have : ¬ Fo.lft (pf n).cs v := fun ⟨c, hc, _⟩ => by cases hc
  simp [this]
theorem pf_val {n : Nat} (h : 1 ≤ n ∧ n ≤ 4000) : Fo.Val (pf n) :=
  ⟨by show 1 ≤ (n : Int) ∧ (n : Int) ≤ 4000; omega, by show (0 : Nat) ≤ 100; omega, trivial, by show (0 : Nat) ≤ 100; omega, trivial, .inl ⟨rfl, rfl, rfl⟩, by show (0 : Nat) ≤ 100; omega, fun c hc => (by cases hc), List.nodup_nil, by rw [whl_pf.1]; omega⟩
theorem pre_pf (bs : List Mt.B) (l : List T3) {n : Nat} : ∀ {k : Nat}, k ≤ n → pre bs l (Fo.unf (pf n)) k = cum bs l k
  | 0, _ => rfl
  | k + 1, h => by
    have e : (atV (Fo.unf (pf n)) k).b = (k : Int) := by
      rw [unf_pf, vis_atb (by rw [whl_pf.1]; omega)]
      exact whl_pf.2 k _
    rw [pre_succ, cum_succ, pre_pf bs l (n := n) (k := k) (by omega), e, Int.toNat_natCast]
theorem pf_len {n : Nat} : (Fo.unf (pf n)).length = n := by rw [unf_pf, Fo.vis_length, whl_pf.1]
theorem tk01 : Mt.tk 0 1 = 0 := by decide +kernel
theorem pos01 {bs : List Mt.B} (V : Mt.Val bs) {k : Nat} (h : k ≤ bs.length) : Mt.posB bs (k : Int) 0 1 = true := by
  refine Mt.posB_iff.2 ⟨by omega, ?_⟩
  rw [Int.toNat_natCast, tk01]
  refine ⟨h, by omega, fun _ => rfl, fun h1 => ?_⟩
  have := (bt_r V h1).1
  rw [atB_eq h1] at this
  omega
theorem tm01 (bs : List Mt.B) (l : List T3) (k : Nat) : tm bs l ((k : Int).toNat) (Mt.tk 0 1) = cum bs l k := by
  rw [tk01, Int.toNat_natCast]
  unfold tm
  split <;> omega
theorem nbef01 {i j : Nat} (h : i ≤ j) : ¬ Bef (j : Int) 0 1 (i : Int) 0 1 := by
  unfold Bef
  omega
/-- Visits of a plain form take as long as from bar to bar. -/
theorem plain {bs : List Mt.B} {l : List T3} (V : Val bs l) {i j : Nat} (hij : i ≤ j) (hj : j ≤ bs.length) {N D E : Int} (A : SecA bs l i 0 1 j 0 1 N D E) : PlaA bs l (pf bs.length) i j N D E ∧ (E = 0 ∨ E = 3) := by
  have hA : Ask bs l i 0 1 j 0 1 := ⟨V, pos01 V.1 (by omega), pos01 V.1 hj, nbef01 hij⟩
  have h1 := A.ok hA
  rw [tm01, tm01] at h1
  have h2 := (sec_yes V hA.2.1 hA.2.2.1 A hA.2.2.2).2.2.2
  refine ⟨⟨fun _ => ?_, fun k => absurd ⟨V, pf_val ⟨V.1.1, V.1.2.1⟩, rfl, by omega, by omega, by rw [pf_len]; omega⟩ k⟩, h2.elim .inl (fun k => .inr k.1)⟩
  rw [Int.toNat_natCast, Int.toNat_natCast, pre_pf bs l hj, pre_pf bs l (Nat.le_trans hij hj)]
  exact h1
/-! ### visits one after the other -/
theorem mk_small {n N D E : Int} (h : -1000000000 ≤ n ∧ n ≤ 1000000000) (hm : Rt.makeR n 100800 = (N, D, E)) : E = 0 := by
  rw [Rt.make_ok (takes_mk (by omega))] at hm
  simp only [Prod.mk.injEq] at hm
  obtain ⟨-, -, h3⟩ := hm
  rw [← h3]
  unfold Rt.redE
  rw [if_neg (by decide), if_pos]
  have hg := (Rt.redG_sign (n := n) (d := 100800) (by decide)).1 (by decide)
  have q1 := Rt.q_n (n := n) (d := 100800) (by decide)
  have q2 := Rt.q_d (n := n) (d := 100800) (by decide)
  have q3 := Rt.qD_pos (n := n) (d := 100800) (by decide)
  refine Rt.lim_iff.2 ⟨?_, ?_, by omega, ?_⟩
  · rcases Int.lt_or_le (Rt.qN n 100800) (-1000000000) with a | a
    · have : Rt.redG n 100800 * Rt.qN n 100800 ≤ 1 * Rt.qN n 100800 := Int.mul_le_mul_of_nonpos_right (by omega) (by omega)
      omega
    · exact a
  · rcases Int.lt_or_le 1000000000 (Rt.qN n 100800) with a | a
    · have : 1 * Rt.qN n 100800 ≤ Rt.redG n 100800 * Rt.qN n 100800 := Int.mul_le_mul_of_nonneg_right (by omega) (by omega)
      omega
    · exact a
  · have : 1 * Rt.qD n 100800 ≤ Rt.redG n 100800 * Rt.qD n 100800 := Int.mul_le_mul_of_nonneg_right (by omega) (by omega)
    omega
end Te
end Go.Proofs.Ytahdlkdiadlgeaa

/- Mathematics of TempoConstant: one tempo alone. -/
namespace Go.Proofs.Ytahdlkdiadlgeaa
namespace Te
open Fo (T3 at3)
theorem tmp_one (x : T3) (b : Int) : tmp [x] b = x := by
  unfold tmp
  have h : cnt [x] b ≤ 1 := cnt_le [x] b
  rw [show cnt [x] b - 1 = 0 by omega]
  rfl
theorem sb_one (x : T3) (b : Int) : sb [x] b = scT x := by unfold sb; rw [tmp_one]
theorem cum_one (bs : List Mt.B) (x : T3) : ∀ {k : Nat}, k ≤ bs.length → cum bs [x] k = Mt.before bs k * scT x
  | 0, _ => by rw [Mt.before_zero, Int.zero_mul]; rfl
  | k + 1, h => by
    rw [cum_succ, cum_one bs x (k := k) (by omega), Mt.before_succ (by omega), sb_one, Int.add_mul, atB_eq (by omega)]
theorem tm_one {bs : List Mt.B} {x : T3} {a n d : Int} (hp : Mt.posB bs a n d = true) : tm bs [x] a.toNat (Mt.tk n d) = (Mt.before bs a.toNat + Mt.tk n d) * scT x := by
  obtain ⟨h0, h1, h2, h3, h4⟩ := pos_lt hp
  unfold tm
  rw [cum_one bs x h1, Int.add_mul]
  by_cases h : a.toNat < bs.length
  · rw [if_pos h, sb_one]
  · rw [if_neg h, h3 (by omega), Int.zero_mul]
theorem before_r {bs : List Mt.B} (V : Mt.Val bs) : ∀ {k : Nat}, k ≤ bs.length → 0 ≤ Mt.before bs k ∧ Mt.before bs k ≤ k * 40320
  | 0, _ => by rw [Mt.before_zero]; simp
  | k + 1, h => by
    have h1 := before_r V (k := k) (by omega)
    have h2 := bt_r V (k := k) (by omega)
    rw [atB_eq (by omega)] at h2
    rw [Mt.before_succ (by omega)]
    push_cast
    omega
theorem time_r {bs : List Mt.B} (V : Mt.Val bs) {a n d : Int} (hp : Mt.posB bs a n d = true) : 0 ≤ Mt.before bs a.toNat + Mt.tk n d ∧ Mt.before bs a.toNat + Mt.tk n d ≤ 200000000 := by
  obtain ⟨h0, h1, h2, h3, h4⟩ := pos_lt hp
  have h5 := before_r V h1
  have h6 := V.2.1
  by_cases h : a.toNat < bs.length
  · have h7 := bt_r V h
    have := h4 h
    omega
  · have := h3 (by omega)
    omega
/-- With one tempo a time is the tempo times the duration. -/
theorem const {bs : List Mt.B} {x : T3} (V : Val bs [x]) {a an ad b bn bd N D : Int} (hp : Mt.posB bs a an ad = true) (hq : Mt.posB bs b bn bd = true) (A : SecA bs [x] a an ad b bn bd N D 0) (h : ¬ Bef b bn bd a an ad) :
    ∃ dN dD, Rt.subR (Mt.oN (Mt.before bs b.toNat + Mt.tk bn bd).toNat) (Mt.oD (Mt.before bs b.toNat + Mt.tk bn bd).toNat) (Mt.oN (Mt.before bs a.toNat + Mt.tk an ad).toNat) (Mt.oD (Mt.before bs a.toNat + Mt.tk an ad).toNat) = (dN, dD, 0) ∧ Rt.mulR dN dD x.b x.c = (N, D, 0) := by
  obtain ⟨e1, x1, y1, _⟩ := sec_yes V hp hq A h
  rw [tm_one hp, tm_one hq, ← Int.sub_mul] at e1 x1 y1
  obtain ⟨v1, e2, p1⟩ := mk_ok (by omega) e1
  have r1 := time_r V.1 hp
  have r2 := time_r V.1 hq
  have hs := V.2.scr (i := 0) (by simp)
  have hx : at3 [x] 0 = x := rfl
  rw [hx] at hs
  have hv := V.2.vld (i := 0) (by simp)
  rw [hx] at hv
  have hsx : scT x * x.c = 60 * x.b := by
    rcases sc_cases x.b x.c with k | k
    · have : scT x = -1 := k
      omega
    · exact k.2.2.2.2.2.2.2.2.1
  obtain ⟨m1, hm1⟩ := Int.eq_ofNat_of_zero_le r1.1
  obtain ⟨m2, hm2⟩ := Int.eq_ofNat_of_zero_le r2.1
  rw [hm1, hm2] at e2 x1
  rw [hm1] at r1 ⊢
  rw [hm2] at r2 ⊢
  rw [Int.toNat_natCast, Int.toNat_natCast]
  have hle : m1 ≤ m2 := by
    rcases Nat.lt_or_ge m2 m1 with k | k
    · have : ((m2 : Int) - (m1 : Int)) * scT x ≤ ((m2 : Int) - (m1 : Int)) * 1 := Int.mul_le_mul_of_nonpos_left (by omega) hs.1
      omega
    · exact k
  obtain ⟨m, rfl⟩ : ∃ m, m2 = m + m1 := ⟨m2 - m1, by omega⟩
  have hadd := Mt.add_of (a := m) (b := m1) (by omega)
  refine ⟨Mt.oN m, Mt.oD m, Rt.add_back hadd, ?_⟩
  have o1 := Mt.o_mul m
  refine Rt.mul_of (Mt.o_vld (by omega)) hv v1 ?_
  refine Int.eq_of_mul_eq_mul_right (show (100800 : Int) ≠ 0 by decide) ?_
  have e3 : N * 100800 = D * ((m : Int) * scT x) := by rw [e2]; congr 1; push_cast; congr 1; omega
  grind
end Te
end Go.Proofs.Ytahdlkdiadlgeaa

/- Mathematics of TempoPlayed: parts of the visits; sums of three. -/
namespace Go.Proofs.Ytahdlkdiadlgeaa
namespace Rt
theorem sum_three_no {a b c d e f : Int} (h1 : vld a b = true) (h2 : vld c d = true) (h3 : vld e f = true) (hx : addR a b c d = (0, 0, 3)) : sumR [(a, b), (c, d), (e, f)] = (0, 0, 3) := by
  unfold sumR
  simp only [List.length_cons, List.length_nil, List.all_cons, List.all_nil, h1, h2, h3]
  simp only [fold, add_zero h1, hx]
  simp
end Rt
namespace Te
open Fo (T3 at3)
/-- What a part of the visits takes. -/
theorem pla_e {bs : List Mt.B} {l : List T3} {f : Fo.Fm} (V : Val bs l) (F : Fo.Val f) (hn : f.n = (bs.length : Int)) {i j : Nat} (hij : i ≤ j) (hj : j ≤ (Fo.unf f).length) {N D E : Int} (A : PlaA bs l f i j N D E) :
    Rt.makeR (pre bs l (Fo.unf f) j - pre bs l (Fo.unf f) i) 100800 = (N, D, E) ∧ (E = 0 ∨ (E = 3 ∧ N = 0 ∧ D = 0)) ∧ 0 ≤ pre bs l (Fo.unf f) j - pre bs l (Fo.unf f) i ∧ pre bs l (Fo.unf f) j - pre bs l (Fo.unf f) i ≤ 1000000000000 := by
  have h1 := A.ok ⟨V, F, hn, by omega, by omega, by omega⟩
  rw [Int.toNat_natCast, Int.toNat_natCast] at h1
  have h2 := pre_mono V (unf_inb F hn) (i := i) (k := j - i) (by omega)
  rw [show i + (j - i) = j by omega] at h2
  have h3 := unf_most F
  exact ⟨h1, mk_e (by omega) h1, by omega, by omega⟩
/-- One visit takes as long as its bar. -/
theorem pla_one {bs : List Mt.B} {l : List T3} {f : Fo.Fm} (V : Val bs l) (F : Fo.Val f) (hn : f.n = (bs.length : Int)) {k b : Nat} (hk : k < (Fo.unf f).length) (hb : (atV (Fo.unf f) k).b = (b : Int)) {N D E : Int} (A : PlaA bs l f k ((k : Int) + 1) N D E) :
    E = 0 ∧ SecA bs l b 0 1 ((b : Int) + 1) 0 1 N D E := by
  have hin := unf_inb F hn k hk
  rw [hb] at hin
  have e1 : ((k : Int) + 1) = ((k + 1 : Nat) : Int) := by omega
  have e2 : ((b : Int) + 1) = ((b + 1 : Nat) : Int) := by omega
  rw [e1] at A
  obtain ⟨h1, h2, h3, h4⟩ := pla_e V F hn (Nat.le_succ k) (by omega) A
  rw [pre_succ, hb, Int.toNat_natCast] at h1
  have h5 : pre bs l (Fo.unf f) k + Mt.bt (atB bs b) * sb l (b : Int) - pre bs l (Fo.unf f) k = cum bs l (b + 1) - cum bs l b := by rw [cum_succ]; omega
  rw [h5] at h1
  have h6 := step_r V (k := b) (by omega)
  refine ⟨mk_small (by rw [cum_succ]; omega) h1, fun _ => ?_, fun k2 => absurd ?_ k2⟩
  · rw [e2, tm01, tm01]
    exact h1
  · rw [e2]
    exact ⟨V, pos01 V.1 (by omega), pos01 V.1 (by omega), nbef01 (Nat.le_succ b)⟩
/-- The sum of three parts one after the other. -/
theorem pla_sum {bs : List Mt.B} {l : List T3} {f : Fo.Fm} (V : Val bs l) (F : Fo.Val f) (hn : f.n = (bs.length : Int)) {k n : Nat} (hk : k < n) (hl : (Fo.unf f).length = n) {N D N1 D1 N2 D2 N3 D3 : Int}
    (A0 : PlaA bs l f 0 n N D 0) (A1 : PlaA bs l f 0 k N1 D1 0) (A2 : PlaA bs l f k ((k : Int) + 1) N2 D2 0) (A3 : PlaA bs l f ((k : Int) + 1) n N3 D3 0) :
    ∃ x y e, Rt.sumR [(N1, D1), (N2, D2), (N3, D3)] = (x, y, e) ∧ ((e = 0 ∧ x = N ∧ y = D) ∨ e = 3) := by
  have e1 : ((k : Int) + 1) = ((k + 1 : Nat) : Int) := by omega
  rw [e1] at A2 A3
  obtain ⟨m0, -, a0, b0⟩ := pla_e V F hn (i := 0) (j := n) (by omega) (by omega) A0
  obtain ⟨m1, -, a1, b1⟩ := pla_e V F hn (i := 0) (j := k) (by omega) (by omega) A1
  obtain ⟨m2, -, a2, b2⟩ := pla_e V F hn (i := k) (j := k + 1) (by omega) (by omega) A2
  obtain ⟨m3, -, a3, b3⟩ := pla_e V F hn (i := k + 1) (j := n) (by omega) (by omega) A3
  have v1 := (mk_ok (by omega) m1).1
  have v2 := (mk_ok (by omega) m2).1
  have v3 := (mk_ok (by omega) m3).1
  obtain ⟨x, y, e, hxy⟩ : ∃ x y e, Rt.addR N1 D1 N2 D2 = (x, y, e) := ⟨_, _, _, rfl⟩
  by_cases he : e = 0
  · subst he
    obtain ⟨va, vb, vx, hbd, hq⟩ := Rt.add_ok hxy
    -- the sum of the first two
    have hz : Rt.makeR (pre bs l (Fo.unf f) (k + 1) - pre bs l (Fo.unf f) 0) 100800 = (x, y, 0) := by
      obtain ⟨-, q1, p1⟩ := mk_ok (by omega) m1
      obtain ⟨-, q2, p2⟩ := mk_ok (by omega) m2
      have hr := Rt.red_of (n := pre bs l (Fo.unf f) (k + 1) - pre bs l (Fo.unf f) 0) (d := 100800) (by decide) vx (by
        refine Int.eq_of_mul_eq_mul_right hbd ?_
        have : pre bs l (Fo.unf f) (k + 1) - pre bs l (Fo.unf f) 0 = (pre bs l (Fo.unf f) k - pre bs l (Fo.unf f) 0) + (pre bs l (Fo.unf f) (k + 1) - pre bs l (Fo.unf f) k) := by omega
        rw [this]
        grind)
      rw [Rt.make_ok (takes_mk (by omega)), hr.1, hr.2.1, hr.2.2]
    have hs := mk_add (n := pre bs l (Fo.unf f) (k + 1) - pre bs l (Fo.unf f) 0) (m := pre bs l (Fo.unf f) n - pre bs l (Fo.unf f) (k + 1)) (by omega) (by omega) hz m3 (by rw [← m0]; congr 1; omega)
    exact ⟨N, D, 0, Rt.sum_three hxy hs, .inl ⟨rfl, rfl, rfl⟩⟩
  · obtain ⟨rfl, rfl, h⟩ := Rt.add_err hxy he
    rcases h with ⟨rfl, -, -⟩ | ⟨rfl, h | h⟩
    · exact ⟨0, 0, 3, Rt.sum_three_no v1 v2 v3 hxy, .inr rfl⟩
    · rw [v1, v2] at h
      cases h
    · have p1 := (Rt.vld_lim v1).2.2.1
      have p2 := (Rt.vld_lim v2).2.2.1
      rcases Int.mul_eq_zero.1 h with h | h <;> omega
end Te
end Go.Proofs.Ytahdlkdiadlgeaa

/- Mathematics of TempoLater: tempos up to one of them, and this one changed. -/
namespace Go.Proofs.Ytahdlkdiadlgeaa
namespace Te
open Fo (T3 at3)
/-- The tempos up to one of them, which has another number. -/
def oth (l : List T3) (k : Nat) (n d : Int) : List T3 := (l.take (k + 1)).set k ⟨(at3 l k).a, n, d⟩
theorem oth_len {l : List T3} {k : Nat} (hk : k < l.length) (n d : Int) : (oth l k n d).length = k + 1 := by
  unfold oth
  rw [List.length_set, List.length_take]
  omega
theorem oth_lt {l : List T3} {k : Nat} (_hk : k < l.length) (n d : Int) {i : Nat} (hi : i < k) : at3 (oth l k n d) i = at3 l i := by
  unfold oth at3
  rw [List.getElem?_set_ne (by omega), List.getElem?_take, if_pos (by omega)]
theorem oth_k {l : List T3} {k : Nat} (hk : k < l.length) (n d : Int) : at3 (oth l k n d) k = ⟨(at3 l k).a, n, d⟩ := by
  unfold oth
  unfold at3
  rw [List.getElem?_set_self (by rw [List.length_take]; omega)]
  rfl
theorem oth_a {l : List T3} {k : Nat} (hk : k < l.length) (n d : Int) {i : Nat} (hi : i ≤ k) : (at3 (oth l k n d) i).a = (at3 l i).a := by
  rcases Nat.lt_or_ge i k with h | h
  · rw [oth_lt hk n d h]
  · obtain rfl : i = k := by omega
    rw [oth_k hk]
theorem cnt_le_of {l : List T3} {k : Nat} {b : Int} (h : b < (at3 l k).a) : cnt l b ≤ k := by
  rcases Nat.lt_or_ge k (cnt l b) with h1 | h1
  · have := cnt_below h1
    omega
  · exact h1
theorem cnt_gt_of {n : Nat} {l : List T3} (V : ValL n l) {k : Nat} (hk : k < l.length) {b : Int} (h : (at3 l k).a ≤ b) : k + 1 ≤ cnt l b := by
  rcases Nat.lt_or_ge (cnt l b) (k + 1) with h1 | h1
  · have h2 := cnt_stop (l := l) (b := b) (by omega)
    have h3 := V.mono (i := cnt l b) (k := k - cnt l b) (by omega)
    rw [show cnt l b + (k - cnt l b) = k by omega] at h3
    omega
  · exact h1
theorem oth_before {n : Nat} {l : List T3} (V : ValL n l) {k : Nat} (hk : k < l.length) (t d : Int) {b : Int} (hb : 0 ≤ b) (h : b < (at3 l k).a) : tmp (oth l k t d) b = tmp l b := by
  have h1 := cnt_le_of h
  have h2 := V.cnt_pos hb
  have h3 : cnt (oth l k t d) b = cnt l b := by
    refine cnt_is (by rw [oth_len hk]; omega) (fun j hj => ?_) (fun hl => ?_)
    · rw [oth_a hk t d (by omega)]
      exact cnt_below hj
    · rw [oth_a hk t d h1]
      exact cnt_stop (by omega)
  unfold tmp
  rw [h3, oth_lt hk t d (by omega)]
theorem oth_behind {n : Nat} {l : List T3} (V : ValL n l) {k : Nat} (hk : k < l.length) (t d : Int) {b : Int} (h : (at3 l k).a ≤ b) : tmp (oth l k t d) b = ⟨(at3 l k).a, t, d⟩ := by
  have h3 : cnt (oth l k t d) b = k + 1 := by
    refine cnt_is (by rw [oth_len hk]; omega) (fun j hj => ?_) (fun hl => ?_)
    · rw [oth_a hk t d (by omega)]
      have h4 := V.mono (i := j) (k := k - j) (by omega)
      rw [show j + (k - j) = k by omega] at h4
      omega
    · rw [oth_len hk] at hl
      omega
  unfold tmp
  rw [h3, Nat.add_sub_cancel, oth_k hk]
/-- What the last tempo is, of those up to one of them. -/
theorem oth_tmp {n : Nat} {l : List T3} (V : ValL n l) {k : Nat} (hk : k < l.length) (t d : Int) {b : Int} (hb : 0 ≤ b) :
    (tmp (oth l k t d) b).b = (if cnt l b - 1 < k then (at3 l (cnt l b - 1)).b else t) ∧ (tmp (oth l k t d) b).c = (if cnt l b - 1 < k then (at3 l (cnt l b - 1)).c else d) := by
  have h2 := V.cnt_pos hb
  rcases Int.lt_or_le b (at3 l k).a with h | h
  · have h1 := cnt_le_of h
    rw [oth_before V hk t d hb h, if_pos (by omega), if_pos (by omega)]
    exact ⟨rfl, rfl⟩
  · have h1 := cnt_gt_of V hk h
    rw [oth_behind V hk t d h, if_neg (by omega), if_neg (by omega)]
    exact ⟨rfl, rfl⟩
theorem cum_oth {bs : List Mt.B} {l : List T3} (V : Val bs l) {k : Nat} (hk : k < l.length) (t d : Int) : ∀ {i : Nat}, (i : Int) ≤ (at3 l k).a → cum bs (oth l k t d) i = cum bs l i
  | 0, _ => rfl
  | i + 1, h => by
    have e : sb (oth l k t d) (i : Int) = sb l (i : Int) := by
      unfold sb
      rw [oth_before V.2 hk t d (by omega) (by omega)]
    rw [cum_succ, cum_succ, cum_oth V hk t d (i := i) (by omega), e]
/-- What happens before a bar does not depend on the tempos from this bar on. -/
theorem sec_oth {bs : List Mt.B} {l : List T3} (V : Val bs l) {k : Nat} (hk : k < l.length) (t d : Int) (V2 : Val bs (oth l k t d)) {a an ad N D E : Int} (hp : Mt.posB bs a an ad = true) (hc : a < (at3 l k).a ∨ (a = (at3 l k).a ∧ an = 0)) (A : SecA bs l 0 0 1 a an ad N D E) : SecA bs (oth l k t d) 0 0 1 a an ad N D E := by
  obtain ⟨h0, h1, h2, h3, h4⟩ := pos_lt hp
  have hs : Mt.posB bs 0 0 1 = true := pos01 V.1 (k := 0) (by omega)
  have e0 : tm bs (oth l k t d) (0 : Int).toNat (Mt.tk 0 1) = tm bs l (0 : Int).toNat (Mt.tk 0 1) := by
    rw [show (0 : Int).toNat = ((0 : Nat) : Int).toNat from rfl, tm01, tm01]
    rfl
  have e1 : tm bs (oth l k t d) a.toNat (Mt.tk an ad) = tm bs l a.toNat (Mt.tk an ad) := by
    unfold tm
    rw [cum_oth V hk t d (by omega)]
    congr 1
    rcases hc with hc | ⟨hc, rfl⟩
    · have e : sb (oth l k t d) ((a.toNat : Nat) : Int) = sb l ((a.toNat : Nat) : Int) := by
        unfold sb
        rw [oth_before V.2 hk t d (by omega) (by omega)]
      rw [e]
    · have : Mt.tk 0 ad = 0 := by
        rcases Mt.tk_cases 0 ad with h | h
        · omega
        · rw [h.2.2.2.2.2, Int.zero_mul]
      rw [this, Int.zero_mul, Int.zero_mul]
  refine ⟨fun k2 => ?_, fun k2 => A.no (fun k3 => k2 ⟨V2, k3.2⟩)⟩
  rw [e0, e1]
  exact A.ok ⟨V, k2.2⟩
/-- The law's two variables behind so many of the tempos. -/
structure WL (l : List T3) (k : Nat) (t d i : Int) (j : Nat) (wb wc lb lc : Int) : Prop where
  b : (at3 l (min j (cnt l i) - 1)).b = wb
  c : (at3 l (min j (cnt l i) - 1)).c = wc
  lb : (if 0 < min j (cnt l i) ∧ min j (cnt l i) - 1 < k then (at3 l (min j (cnt l i) - 1)).b else t) = lb
  lc : (if 0 < min j (cnt l i) ∧ min j (cnt l i) - 1 < k then (at3 l (min j (cnt l i) - 1)).c else d) = lc
theorem WL.start (l : List T3) (k : Nat) (t d i : Int) : WL l k t d i 0 (at3 l 0).b (at3 l 0).c t d := by
  have h : min 0 (cnt l i) = 0 := Nat.zero_min _
  refine ⟨by rw [h], by rw [h], ?_, ?_⟩ <;> rw [h, if_neg (by omega)]
theorem WL.yes {l : List T3} {k : Nat} {t d i : Int} {j : Nat} (hj : j < cnt l i) (hk : j < k) : WL l k t d i (j + 1) (at3 l j).b (at3 l j).c (at3 l j).b (at3 l j).c := by
  have h : min (j + 1) (cnt l i) = j + 1 := Nat.min_eq_left (by omega)
  refine ⟨by rw [h]; rfl, by rw [h]; rfl, ?_, ?_⟩ <;> rw [h, if_pos (by omega)] <;> rfl
theorem WL.yest {l : List T3} {k : Nat} {t d i : Int} {j : Nat} (hj : j < cnt l i) (hk : ¬ j < k) : WL l k t d i (j + 1) (at3 l j).b (at3 l j).c t d := by
  have h : min (j + 1) (cnt l i) = j + 1 := Nat.min_eq_left (by omega)
  refine ⟨by rw [h]; rfl, by rw [h]; rfl, ?_, ?_⟩ <;> rw [h, if_neg (by omega)]
theorem WL.no {l : List T3} {k : Nat} {t d i : Int} {j : Nat} {wb wc lb lc : Int} (h : WL l k t d i j wb wc lb lc) (hj : ¬ j < cnt l i) : WL l k t d i (j + 1) wb wc lb lc := by
  have h1 : min (j + 1) (cnt l i) = min j (cnt l i) := by rw [Nat.min_eq_right (by omega), Nat.min_eq_right (by omega)]
  exact ⟨by rw [h1]; exact h.b, by rw [h1]; exact h.c, by rw [h1]; exact h.lb, by rw [h1]; exact h.lc⟩
theorem WL.fin {bs : List Mt.B} {l : List T3} (V : Val bs l) {k : Nat} (hk : k < l.length) {t d : Int} {i : Nat} {wb wc lb lc : Int} (V2 : Val bs (oth l k t d)) (h : WL l k t d i l.length wb wc lb lc) : AtA bs l i wb wc 0 ∧ AtA bs (oth l k t d) i lb lc 0 ∨ ¬ i < bs.length := by
  by_cases hi : i < bs.length
  case neg => exact .inr hi
  refine .inl ?_
  have h1 : min l.length (cnt l i) = cnt l i := Nat.min_eq_right (cnt_le l i)
  have h2 := V.2.cnt_pos (b := (i : Int)) (by omega)
  obtain ⟨e1, e2⟩ := oth_tmp V.2 hk t d (b := (i : Int)) (by omega)
  have a := h.b; have b := h.c; have c := h.lb; have e := h.lc
  rw [h1] at a b c e
  refine ⟨⟨fun _ => ⟨a, b, rfl⟩, fun k2 => absurd ⟨V, by omega, by omega⟩ k2⟩, ⟨fun _ => ⟨?_, ?_, rfl⟩, fun k2 => absurd ⟨V2, by omega, by omega⟩ k2⟩⟩
  · rw [e1, ← c]
    by_cases q : cnt l i - 1 < k
    · rw [if_pos q, if_pos ⟨h2, q⟩]
    · rw [if_neg q, if_neg (fun z => q z.2)]
  · rw [e2, ← e]
    by_cases q : cnt l i - 1 < k
    · rw [if_pos q, if_pos ⟨h2, q⟩]
    · rw [if_neg q, if_neg (fun z => q z.2)]
theorem in_cnt {n : Nat} {l : List T3} (V : ValL n l) {i : Int} {j : Nat} (hj : j < l.length) : (at3 l j).a ≤ i ↔ j < cnt l i := by
  constructor
  · intro h
    have := cnt_gt_of V hj h
    omega
  · exact cnt_below
end Te
end Go.Proofs.Ytahdlkdiadlgeaa

/- A row of tempos of which one ratio is written. -/
namespace Go.Proofs.Ytahdlkdiadlgeaa
open Go.RowKit

theorem vT_cons9 (b : Fo.T3) (l : List Fo.T3) : vT (b :: l) = [.int .i64 b.a, .int .i64 b.b, .int .i64 b.c] ++ vT l := by unfold vT; rw [List.flatMap_cons]; rfl
theorem vT_setQ : ∀ (l : List Fo.T3) (k : Nat) (a n d : Int), k < l.length → (Fo.at3 l k).a = a → vT (l.set k ⟨a, n, d⟩) = ((vT l).set (k * 3 + 1) (.int .i64 n)).set (k * 3 + 2) (.int .i64 d)
  | [], _, _, _, _, h, _ => by simp at h
  | b :: l, 0, a, n, d, _, e => by
    have e2 : b.a = a := e
    rw [List.set_cons_zero, vT_cons9, vT_cons9]
    subst e2
    rfl
  | b :: l, k + 1, a, n, d, h, e => by
    rw [List.set_cons_succ, vT_cons9, vT_cons9, vT_setQ l k a n d (by simpa using h) e, show (k + 1) * 3 + 1 = (k * 3 + 1) + 3 by omega, show (k + 1) * 3 + 2 = (k * 3 + 2) + 3 by omega]
    rfl
theorem own_cell9 {w : World} {base g n cap : Nat} {e : TypeId} {s : Nat} {xs : List Value} (h : w.ownsRow base e s (.slice (some ⟨g, 0, none⟩) n cap) n xs) : ∃ cur, w.heap[g]? = some (.cells cur e (0, 0)) ∧ cur.toList.take (n * s) = xs ∧ base ≤ g ∧ n ≤ cap ∧ cap ≤ maxLen ∧ cur.size = cap * s := by
  rcases h.2 with ⟨e1, _⟩ | ⟨g2, cap2, cur, e1, h1, h2, h3, h4, h5, h6⟩
  · cases e1
  · cases e1
    exact ⟨cur, h2, h6, h1, h3, h4, h5⟩
theorem own_putQ {w : World} {base g n cap k : Nat} {e : TypeId} {l : List Fo.T3} {a t d : Int} (h : w.ownsRow base e 3 (.slice (some ⟨g, 0, none⟩) n cap) n (vT l)) (hk : k < l.length) (ha : (Fo.at3 l k).a = a) :
    ((w.setCell ⟨g, k * 3 + 1, none⟩ (.int .i64 t)).setCell ⟨g, k * 3 + 2, none⟩ (.int .i64 d)).ownsRow base e 3 (.slice (some ⟨g, 0, none⟩) n cap) n (vT (l.set k ⟨a, t, d⟩)) := by
  obtain ⟨cur, h2, h6, h1, h3, h4, h5⟩ := own_cell9 h
  have e1 := heap_setCell_same w g (k * 3 + 1) cur e (.int .i64 t) h2
  have e2 := heap_setCell_same _ g (k * 3 + 2) _ e (.int .i64 d) e1
  refine ⟨by rw [vT_length, List.length_set, ← vT_length]; exact h.1, .inr ⟨g, cap, _, rfl, h1, e2, h3, h4, by rw [Array.size_setIfInBounds, Array.size_setIfInBounds]; exact h5, ?_⟩⟩
  rw [vT_setQ l k a t d hk ha, ← h6, Array.toList_setIfInBounds, Array.toList_setIfInBounds, List.take_set, List.take_set]
theorem own_cellQ {w : World} {base g n cap k : Nat} {e : TypeId} {l : List Fo.T3} (h : w.ownsRow base e 3 (.slice (some ⟨g, 0, none⟩) n cap) n (vT l)) (hk : k < l.length) : w.cell? ⟨g, k * 3 + 1, none⟩ = some (.int .i64 (Fo.at3 l k).b) ∧ w.cell? ⟨g, k * 3 + 2, none⟩ = some (.int .i64 (Fo.at3 l k).c) ∧ w.frozen? ⟨g, k * 3 + 1, none⟩ = false ∧ w.frozen? ⟨g, k * 3 + 2, none⟩ = false := by
  obtain ⟨cur, h2, -⟩ := own_cell9 h
  obtain ⟨hl, _, _, e1, s1, -⟩ := own_T h
  cases e1
  obtain ⟨b9, o9, e9, _, hc9⟩ := s1 (by omega)
  cases e9
  have := hc9 k hk
  have c1 := this.c1
  have c2 := this.c2
  rw [Nat.zero_add] at c1 c2
  exact ⟨c1, c2, frozen_of_row w g _ cur e h2, frozen_of_row w g _ cur e h2⟩
theorem own_openT9 {w : World} {base : Nat} {A : Option Addr} {e : TypeId} {n cap : Nat} {l : List Fo.T3} (h : w.ownsRow base e 3 (.slice A n cap) n (vT l)) (h0 : 0 < n) : ∃ g, A = some ⟨g, 0, none⟩ ∧ base ≤ g ∧ g < w.heap.size := by
  rcases h.2 with ⟨_, h1⟩ | ⟨g2, cap2, cur, e1, h1, h2, _⟩
  · omega
  · cases e1
    exact ⟨g2, rfl, h1, (Array.getElem?_eq_some_iff.1 h2).1⟩
theorem infoTempo : (Try.prog.info? 38).map (fun i => (i.zero, i.size, i.bytes)) = some (some (.agg #[.int .i64 0, .int .i64 0, .int .i64 0]), 3, 24) := by kernel_rfl
theorem Var2.blk {w w' : World} {b : Nat} {x y : Int} (h : Var2 w b x y) (hs : w.heap.size ≤ w'.heap.size) (e : w'.heap[b]? = w.heap[b]?) : Var2 w' b x y :=
  ⟨⟨Nat.lt_of_lt_of_le h.at2.lt hs, (World.cell?_of_block (w := w) (a := ⟨b, 0, none⟩) e).trans h.at2.c0, (World.cell?_of_block (w := w) (a := ⟨b, 1, none⟩) e).trans h.at2.c1⟩, (World.frozen?_of_block (w := w) (a := ⟨b, 0, none⟩) e).trans h.f0, (World.frozen?_of_block (w := w) (a := ⟨b, 1, none⟩) e).trans h.f1⟩
theorem Var3.blk {w w' : World} {b : Nat} {x y z : Int} (h : Var3 w b x y z) (hs : w.heap.size ≤ w'.heap.size) (e : w'.heap[b]? = w.heap[b]?) : Var3 w' b x y z :=
  ⟨⟨Nat.lt_of_lt_of_le h.at3.lt hs, (World.cell?_of_block (w := w) (a := ⟨b, 0, none⟩) e).trans h.at3.c0, (World.cell?_of_block (w := w) (a := ⟨b, 1, none⟩) e).trans h.at3.c1, (World.cell?_of_block (w := w) (a := ⟨b, 2, none⟩) e).trans h.at3.c2⟩, (World.frozen?_of_block (w := w) (a := ⟨b, 0, none⟩) e).trans h.f0, (World.frozen?_of_block (w := w) (a := ⟨b, 1, none⟩) e).trans h.f1, (World.frozen?_of_block (w := w) (a := ⟨b, 2, none⟩) e).trans h.f2⟩
end Go.Proofs.Ytahdlkdiadlgeaa

/- The walks of the library's Index and Contains over cuts, of its Clone, and of reprise's clone. -/
namespace Go.Proofs.Ytahdlkdiadlgeaa
open Go.RowKit

theorem infoRepeatK : (Try.prog.info? 66).map (fun i => (i.zero, i.size, i.bytes)) = some (some (.agg #[.int .i64 0, .int .i64 0, .int .i64 0]), 3, 24) := by kernel_rfl
theorem infoEndingK : (Try.prog.info? 116).map (fun i => (i.zero, i.size, i.bytes)) = some (some (.agg #[.int .i64 0, .int .i64 0, .int .i64 0]), 3, 24) := by kernel_rfl
/-- What clone's three calls have made so far. -/
def clC (X : World) (h : FH) (f : Fo.Fm) (vs : List Value) (w : World) : Prop :=
  Below X.heap.size X w ∧ (∀ v, vs[0]? = some v → w.ownsRow X.heap.size 66 3 v h.rl (vT f.rs)) ∧ (∀ v, vs[1]? = some v → w.ownsRow X.heap.size 116 3 v h.el (vT f.es)) ∧ (∀ v, vs[2]? = some v → w.ownsRow X.heap.size 106 3 v h.cl (vT f.cs))
theorem clC.below {X w w' : World} {h : FH} {f : Fo.Fm} {vs : List Value} (s : clC X h f vs w) (hb : Below w.heap.size w w') : clC X h f vs w' :=
  ⟨s.1.trans (hb.mono s.1.size), fun v hv => (s.2.1 v hv).kept (below_grown hb none) none_ne, fun v hv => (s.2.2.1 v hv).kept (below_grown hb none) none_ne, fun v hv => (s.2.2.2 v hv).kept (below_grown hb none) none_ne⟩
/-- Nil slices have no room. -/
structure Nils (h : FH) : Prop where
  r : h.R = none → h.rc = 0
  e : h.E = none → h.ec = 0
  c : h.C = none → h.cc = 0
/-- A form whose slices are the call's own. -/
structure OwnF (w : World) (base : Nat) (h : FH) (f : Fo.Fm) : Prop where
  s : SlF w h f
  r : w.ownsRow base 66 3 (.slice h.R h.rl h.rc) h.rl (vT f.rs)
  e : w.ownsRow base 116 3 (.slice h.E h.el h.ec) h.el (vT f.es)
  c : w.ownsRow base 106 3 (.slice h.C h.cl h.cc) h.cl (vT f.cs)
end Go.Proofs.Ytahdlkdiadlgeaa
