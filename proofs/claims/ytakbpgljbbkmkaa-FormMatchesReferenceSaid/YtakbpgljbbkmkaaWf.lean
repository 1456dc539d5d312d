/- Mathematics of spans: what the spans of a form play is its order. -/
import Derived.Test.YtakbpgljbbkmkaaWe
import Derived.Test.YtakbpgljbbkmkaaVl
namespace Go.Proofs.Ytakbpgljbbkmkaa

namespace Fo
/-- Bars from one to before another one. -/
def bars (a b : Int) : List Int := (List.range (b - a).toNat).map fun (i : Nat) => a + (i : Int)
theorem bars_len (a b : Int) : (bars a b).length = (b - a).toNat := by unfold bars; rw [List.length_map, List.length_range]
theorem bars_nil {a b : Int} (h : b ≤ a) : bars a b = [] := by unfold bars; rw [show (b - a).toNat = 0 by omega]; rfl
theorem bars_mem {a b x : Int} (h : x ∈ bars a b) : a ≤ x ∧ x < b := by
  unfold bars at h
  obtain ⟨i, hi, rfl⟩ := List.mem_map.1 h
  rw [List.mem_range] at hi
  omega
theorem bars_app {a b c : Int} (h : a ≤ b) (h2 : b ≤ c) : bars a c = bars a b ++ bars b c := by
  unfold bars
  have e : (c - a).toNat = (b - a).toNat + (c - b).toNat := by omega
  rw [e, List.range_add, List.map_append, List.map_map]
  congr 1
  apply List.map_congr_left
  intro i hi
  simp only [Function.comp]
  omega
theorem bars_snoc {a b : Int} (h : a ≤ b) : bars a (b + 1) = bars a b ++ [b] := by
  rw [bars_app h (show b ≤ b + 1 by omega)]
  congr 1
  unfold bars
  rw [show (b + 1 - b).toNat = 1 by omega]
  simp
theorem bars_cons {a b : Int} (h : a < b) : bars a b = a :: bars (a + 1) b := by
  rw [bars_app (show a ≤ a + 1 by omega) (show a + 1 ≤ b by omega), bars_snoc (Int.le_refl a), bars_nil (Int.le_refl a)]
  rfl
def flat (l : List V2) : List Int := l.flatMap fun s => bars s.b s.p
theorem flat_app (a b : List V2) : flat (a ++ b) = flat a ++ flat b := List.flatMap_append
theorem flat_one (s : V2) : flat [s] = bars s.b s.p := by simp [flat]
theorem flat_cons (s : V2) (l : List V2) : flat (s :: l) = bars s.b s.p ++ flat l := List.flatMap_cons
/-- The bars of a pass are those of all bars that are played on it. -/
theorem pas_filter (es : List T3) (lo pass : Int) : ∀ m : Nat, pas es lo pass m = (bars lo (lo + m)).filter fun b => decide (pld es b pass)
  | 0 => by rw [bars_nil (by simp)]; rfl
  | m + 1 => by
    rw [show (lo + ((m + 1 : Nat) : Int)) = lo + m + 1 by omega, bars_snoc (by omega), List.filter_append, ← pas_filter es lo pass m]
    show pas es lo pass m ++ (if pld es (lo + m) pass then [lo + (m : Int)] else []) = _
    congr 1
    by_cases h : pld es (lo + m) pass
    · rw [if_pos h]; simp [h]
    · rw [if_neg h]; simp [h]
/-- What a pass plays, span by span. -/
def psg (pass hi : Int) : List T3 → Int → List V2
  | [], lo => [⟨lo, hi⟩]
  | e :: l, lo => if e.c ≠ pass ∧ iw e.a e.b lo hi then ⟨lo, e.a⟩ :: psg pass hi l e.b else psg pass hi l lo
def rising (l : List T3) : Prop := l.Pairwise fun x y => x.b ≤ y.a
theorem pld_cons {e : T3} {l : List T3} {b pass : Int} : pld (e :: l) b pass ↔ (inn e b → e.c = pass) ∧ pld l b pass := by
  unfold pld
  simp
theorem psg_flat (pass hi : Int) : ∀ (l : List T3) (lo : Int), lo ≤ hi → rising l → (∀ x ∈ l, x.a < x.b) → (∀ x ∈ l, (lo ≤ x.a ∧ x.b ≤ hi) ∨ x.b ≤ lo ∨ hi ≤ x.a) → flat (psg pass hi l lo) = (bars lo hi).filter fun b => decide (pld l b pass)
  | [], lo, _, _, _, _ => by
    rw [psg, flat_one, List.filter_eq_self.2]
    intro b _
    exact decide_eq_true (fun x hx => by cases hx)
  | e :: l, lo, hle, hr, hlt, hin => by
    obtain ⟨hr1, hr2⟩ := List.pairwise_cons.1 hr
    have he := hlt e (List.mem_cons_self ..)
    have hE := hin e (List.mem_cons_self ..)
    have hl : ∀ x ∈ l, x.a < x.b := fun x hx => hlt x (List.mem_cons_of_mem _ hx)
    have hL := fun x hx => hin x (List.mem_cons_of_mem _ hx)
    by_cases hc : e.c ≠ pass ∧ iw e.a e.b lo hi
    · obtain ⟨hp, h1, h2, h3⟩ := hc
      rw [psg, if_pos ⟨hp, h1, h2, h3⟩, flat_cons, psg_flat pass hi l e.b h3 hr2 hl (fun x hx => by have := hr1 x hx; have := hL x hx; have := hl x hx; omega)]
      rw [bars_app h1 (show e.a ≤ hi by omega), bars_app (show e.a ≤ e.b by omega) h3, List.filter_append, List.filter_append]
      have f1 : (bars lo e.a).filter (fun b => decide (pld (e :: l) b pass)) = bars lo e.a := List.filter_eq_self.2 (fun b hb => by
        have := bars_mem hb
        refine decide_eq_true (fun x hx hn => ?_)
        unfold inn at hn
        rcases List.mem_cons.1 hx with rfl | hx
        · omega
        · have := hr1 x hx; omega)
      have f2 : (bars e.a e.b).filter (fun b => decide (pld (e :: l) b pass)) = [] := List.filter_eq_nil_iff.2 (fun b hb => by
        have := bars_mem hb
        rw [decide_eq_true_eq, pld_cons]
        exact fun h => hp (h.1 this))
      have f3 : (bars e.b hi).filter (fun b => decide (pld (e :: l) b pass)) = (bars e.b hi).filter (fun b => decide (pld l b pass)) := List.filter_congr (fun b hb => by
        have := bars_mem hb
        rw [decide_eq_decide, pld_cons]
        exact ⟨fun h => h.2, fun h => ⟨fun hn => by unfold inn at hn; omega, h⟩⟩)
      rw [f1, f2, f3]
      simp
    · rw [psg, if_neg hc, psg_flat pass hi l lo hle hr2 hl hL]
      refine List.filter_congr (fun b hb => ?_)
      have := bars_mem hb
      rw [decide_eq_decide, pld_cons]
      refine ⟨fun h => ⟨fun hn => ?_, h⟩, fun h => h.2⟩
      by_cases hp : e.c = pass
      · exact hp
      · exact absurd ⟨hp, by unfold inn at hn; unfold iw; omega⟩ hc
theorem psg_pas {pass : Int} {l : List T3} {lo hi : Int} (h : lo ≤ hi) (hr : rising l) (hlt : ∀ x ∈ l, x.a < x.b) (hin : ∀ x ∈ l, (lo ≤ x.a ∧ x.b ≤ hi) ∨ x.b ≤ lo ∨ hi ≤ x.a) : flat (psg pass hi l lo) = pas l lo pass (hi - lo).toNat := by
  rw [psg_flat pass hi l lo h hr hlt hin, pas_filter, show lo + ((hi - lo).toNat : Int) = hi by omega]
/-- What all passes of a repeat play. -/
def pssS (es : List T3) (x : T3) (first : Int) : Nat → List V2
  | 0 => []
  | k + 1 => pssS es x first k ++ psg (first + k) x.b es x.a
/-- What a part plays: from lo on, the repeats that are all in it with as many passes as they have from first on. -/
def prtS (es : List T3) (first : T3 → Int) (hi : Int) : List T3 → Int → List V2
  | [], lo => [⟨lo, hi⟩]
  | r :: l, lo => if iw r.a r.b lo hi then ⟨lo, r.a⟩ :: (pssS es r (first r) (r.c + 1 - first r).toNat ++ prtS es first hi l r.b) else prtS es first hi l lo
/-- Endings that are each in a repeat, and rise. -/
structure OkE (rs es : List T3) : Prop where
  r : rising es
  lt : ∀ x ∈ es, x.a < x.b
  ins : ∀ x ∈ es, ∃ r ∈ rs, r.a ≤ x.a ∧ x.b ≤ r.b
structure OkR (rs : List T3) : Prop where
  r : rising rs
  lt : ∀ x ∈ rs, x.a < x.b
theorem rising_apart {rs : List T3} (h : rising rs) {x y : T3} (hx : x ∈ rs) (hy : y ∈ rs) : x = y ∨ x.b ≤ y.a ∨ y.b ≤ x.a := by
  induction rs with
  | nil => cases hx
  | cons z l ih =>
    obtain ⟨h1, h2⟩ := List.pairwise_cons.1 h
    rcases List.mem_cons.1 hx with e1 | hx2
    · rcases List.mem_cons.1 hy with e2 | hy2
      · exact .inl (e1.trans e2.symm)
      · exact .inr (.inl (by rw [e1]; exact h1 y hy2))
    · rcases List.mem_cons.1 hy with e2 | hy2
      · exact .inr (.inr (by rw [e2]; exact h1 x hx2))
      · exact ih h2 hx2 hy2
theorem OkE.at_ {rs es : List T3} (h : OkE rs es) (hR : OkR rs) {r : T3} (hr : r ∈ rs) : ∀ x ∈ es, (r.a ≤ x.a ∧ x.b ≤ r.b) ∨ x.b ≤ r.a ∨ r.b ≤ x.a := fun x hx => by
  obtain ⟨q, hq, h1, h2⟩ := h.ins x hx
  rcases rising_apart hR.r hr hq with rfl | h3 | h3
  · exact .inl ⟨h1, h2⟩
  · exact .inr (.inr (by omega))
  · exact .inr (.inl (by omega))
theorem pssS_flat {rs es : List T3} (h : OkE rs es) (hR : OkR rs) {r : T3} (hr : r ∈ rs) (first : Int) : ∀ k : Nat, flat (pssS es r first k) = pss es r first k
  | 0 => rfl
  | k + 1 => by
    have := hR.lt r hr
    unfold pssS pss
    rw [flat_app, pssS_flat h hR hr first k, psg_pas (by omega) h.r h.lt (h.at_ hR hr)]
/-- A stretch in which no repeat begins. -/
theorem par_plain {f : Fm} (h : up f) (again : Bool) {hi : Int} : ∀ (k : Nat) {lo mid : Int}, (mid - lo).toNat = k → lo ≤ mid → mid ≤ hi → (∀ x ∈ f.rs, ¬ (lo ≤ x.a ∧ x.a < mid)) → par f again lo hi = bars lo mid ++ par f again mid hi
  | 0, lo, mid, hk, h1, h2, hno => by
    obtain rfl : mid = lo := by omega
    rw [bars_nil (Int.le_refl _)]
    rfl
  | k + 1, lo, mid, hk, h1, h2, hno => by
    have hs : six f.rs lo < 0 := by
      by_cases h0 : 0 ≤ six f.rs lo
      · have h3 := six_at h0
        have h4 := six_lt f.rs lo
        exact absurd ⟨by rw [h3]; exact Int.le_refl _, by omega⟩ (hno _ (at3_mem (l := f.rs) (i := (six f.rs lo).toNat) (by omega)))
      · omega
    rw [par_step h again (show lo < hi by omega), show blk f again lo = [lo] by unfold blk; rw [if_pos hs], show nxt f lo = lo + 1 by unfold nxt; rw [if_pos hs], par_plain h again k (lo := lo + 1) (mid := mid) (by omega) (by omega) h2 (fun x hx hn => hno x hx (by omega)), bars_cons (show lo < mid by omega)]
    rfl
/-- At a repeat. -/
theorem par_rep {f : Fm} (hR : OkR f.rs) (again : Bool) {hi : Int} {r : T3} (hr : r ∈ f.rs) (h : r.a < hi) : par f again r.a hi = pss f.es r (if again then r.c else 1) (r.c + 1 - (if again then r.c else 1)).toNat ++ par f again r.b hi := by
  have hs : 0 ≤ six f.rs r.a := by
    by_cases h0 : 0 ≤ six f.rs r.a
    · exact h0
    · exact absurd rfl (six_none (l := f.rs) (bar := r.a) (by omega) r hr)
  have h1 := six_at hs
  have h2 := six_lt f.rs r.a
  have h3 := at3_mem (l := f.rs) (i := (six f.rs r.a).toNat) (by omega)
  have h4 : at3 f.rs (six f.rs r.a).toNat = r := by
    have q1 := hR.lt r hr
    have q2 := hR.lt _ h3
    rcases rising_apart hR.r h3 hr with h5 | h5 | h5
    · exact h5
    · omega
    · omega
  rw [par_step hR.lt again h]
  congr 1
  · unfold blk
    rw [if_neg (by omega), h4]
  · unfold nxt
    rw [if_neg (by omega), h4]
theorem prtS_flat {f : Fm} (hE : OkE f.rs f.es) (hR : OkR f.rs) (again : Bool) {first : T3 → Int} (hf : ∀ r, first r = if again then r.c else 1) {hi : Int} : ∀ (l : List T3) (lo : Int) (done : List T3), f.rs = done ++ l → lo ≤ hi →
    (∀ x ∈ done, x.a < lo ∨ hi ≤ x.a) → (∀ x ∈ l, ¬ (x.a < lo ∧ lo < x.b)) → (∀ x ∈ f.rs, ¬ (x.a < hi ∧ hi < x.b)) → flat (prtS f.es first hi l lo) = par f again lo hi
  | [], lo, done, e, hle, hd, _, _ => by
    rw [List.append_nil] at e
    rw [prtS, flat_one, par_plain hR.lt again (hi := hi) (mid := hi) _ rfl hle (Int.le_refl _) (fun x hx hn => by rw [e] at hx; have := hd x hx; omega), par_end f again (by omega), List.append_nil]
  | r :: l, lo, done, e, hle, hd, hlo, hhi => by
    have hrm : r ∈ f.rs := by rw [e]; simp
    have hrl := hR.lt r hrm
    have hpw := hR.r
    rw [e] at hpw
    have hrest : ∀ x ∈ l, r.b ≤ x.a := fun x hx => (List.pairwise_cons.1 (List.pairwise_append.1 hpw).2.1).1 x hx
    have e2 : f.rs = (done ++ [r]) ++ l := by rw [e]; simp
    by_cases hc : iw r.a r.b lo hi
    · obtain ⟨h1, h2, h3⟩ := hc
      rw [prtS, if_pos ⟨h1, h2, h3⟩, flat_cons, flat_app, pssS_flat hE hR hrm, hf r]
      rw [prtS_flat hE hR again hf l r.b (done ++ [r]) e2 h3 (fun x hx => by
        rcases List.mem_append.1 hx with hx | hx
        · have := hd x hx; omega
        · rw [List.mem_singleton.1 hx]; omega) (fun x hx hn => by have := hrest x hx; omega) hhi]
      rw [par_plain hR.lt again (lo := lo) (mid := r.a) (hi := hi) _ rfl h1 (by omega) (fun x hx hn => by
        rw [e] at hx
        rcases List.mem_append.1 hx with hx | hx
        · have := hd x hx; omega
        · rcases List.mem_cons.1 hx with rfl | hx
          · omega
          · have := hrest x hx; omega), par_rep hR again hrm (by omega)]
    · rw [prtS, if_neg hc]
      refine prtS_flat hE hR again hf l lo (done ++ [r]) e2 hle (fun x hx => ?_) (fun x hx => hlo x (List.mem_cons_of_mem _ hx)) hhi
      rcases List.mem_append.1 hx with hx | hx
      · exact hd x hx
      · rw [List.mem_singleton.1 hx]
        have h1 := hlo r (List.mem_cons_self ..)
        have h2 := hhi r hrm
        unfold iw at hc
        omega
/-- All spans of a form. -/
def spn (f : Fm) : List V2 := prtS f.es (fun _ => 1) (if 0 < f.ja then f.ja else f.n) f.rs 0 ++ prtS f.es (fun r => r.c) f.jf f.rs f.jt
/-- A form with repeats, endings and a jump that are right. -/
structure Ok (f : Fm) : Prop where
  n : 1 ≤ f.n ∧ f.n ≤ 4000
  rl : f.rs.length ≤ 100
  rs : chR f.n 0 f.rs
  el : f.es.length ≤ 100
  es : chE f.rs 0 f.es
  j : okJ f
theorem chR_rising {n : Int} : ∀ {last : Int} {l : List T3}, chR n last l → rising l
  | _, [], _ => List.Pairwise.nil
  | last, x :: l, ⟨h1, h2⟩ => by
    refine List.Pairwise.cons (fun y hy => ?_) (chR_rising h2)
    have : ∀ {q : Int} {l : List T3}, chR n q l → ∀ y ∈ l, q ≤ y.a := by
      intro q l
      induction l generalizing q with
      | nil => intro _ y hy; cases hy
      | cons z l ih =>
        rintro ⟨a1, a2⟩ y hy
        rcases List.mem_cons.1 hy with rfl | hy
        · exact a1.1
        · have := ih a2 y hy; omega
    exact this h2 y hy
theorem chE_all {rs : List T3} : ∀ {last : Int} {l : List T3}, chE rs last l → rising l ∧ (∀ x ∈ l, last ≤ x.a ∧ x.a < x.b ∧ ins rs x.a x.b ∧ 1 ≤ x.c ∧ x.c ≤ 9)
  | _, [], _ => ⟨List.Pairwise.nil, fun x hx => by cases hx⟩
  | last, x :: l, ⟨h1, h2⟩ => by
    obtain ⟨i1, i2⟩ := chE_all h2
    refine ⟨List.Pairwise.cons (fun y hy => (i2 y hy).1) i1, fun y hy => ?_⟩
    rcases List.mem_cons.1 hy with rfl | hy
    · exact h1
    · have := i2 y hy
      exact ⟨by omega, this.2⟩
theorem Ok.okR {f : Fm} (h : Ok f) : OkR f.rs := ⟨chR_rising h.rs, fun x hx => (chR_all (Int.le_refl 0) h.rs x hx).2.2.1⟩
theorem Ok.okE {f : Fm} (h : Ok f) : OkE f.rs f.es := ⟨(chE_all h.es).1, fun x hx => ((chE_all h.es).2 x hx).2.1, fun x hx => ((chE_all h.es).2 x hx).2.2.1⟩
theorem Ok.flat {f : Fm} (h : Ok f) : flat (spn f) = whl f := by
  have hb := chR_all (Int.le_refl 0) h.rs
  unfold spn whl
  rw [flat_app]
  rcases h.j with ⟨j1, j2, j3⟩ | ⟨⟨j1, j2, j3, j4, j5, j6⟩, k1, k2, k3⟩
  · rw [if_neg (show ¬ 0 < f.ja by omega), if_pos j1, j2, j3]
    rw [prtS_flat h.okE h.okR false (first := fun _ => 1) (fun r => rfl) f.rs 0 [] rfl (by have := h.n; omega) (fun x hx => by cases hx) (fun x hx hn => by have := hb x hx; omega) (fun x hx hn => by have := hb x hx; omega)]
    rw [prtS_flat h.okE h.okR true (first := fun r => r.c) (fun r => rfl) f.rs 0 [] rfl (Int.le_refl _) (fun x hx => by cases hx) (fun x hx hn => by have := hb x hx; omega) (fun x hx hn => by have := hb x hx; omega)]
    rw [par_end f true (by omega), List.append_nil]
  · rw [if_pos (show 0 < f.ja by omega), if_neg (show ¬ f.ja = 0 by omega)]
    rw [prtS_flat h.okE h.okR false (first := fun _ => 1) (fun r => rfl) f.rs 0 [] rfl (by omega) (fun x hx => by cases hx) (fun x hx hn => by have := hb x hx; omega) (fun x hx hn => k1 ⟨x, hx, hn⟩)]
    rw [prtS_flat h.okE h.okR true (first := fun r => r.c) (fun r => rfl) f.rs f.jt [] rfl (by omega) (fun x hx => by cases hx) (fun x hx hn => k2 ⟨x, hx, hn⟩) (fun x hx hn => k3 ⟨x, hx, hn⟩)]
/-! ### bounds -/
theorem psg_all (pass hi : Int) : ∀ (l : List T3) (lo : Int), lo ≤ hi → ∀ s ∈ psg pass hi l lo, lo ≤ s.b ∧ s.b ≤ s.p ∧ s.p ≤ hi
  | [], lo, h, s, hs => by rw [psg] at hs; rw [List.mem_singleton.1 hs]; exact ⟨Int.le_refl _, h, Int.le_refl _⟩
  | e :: l, lo, h, s, hs => by
    unfold psg at hs
    split at hs
    · rename_i hc
      obtain ⟨_, h1, h2, h3⟩ := hc
      rcases List.mem_cons.1 hs with rfl | hs
      · exact ⟨Int.le_refl _, h1, by show e.a ≤ hi; omega⟩
      · have := psg_all pass hi l e.b h3 s hs; omega
    · exact psg_all pass hi l lo h s hs
theorem psg_len (pass hi : Int) : ∀ (l : List T3) (lo : Int), (psg pass hi l lo).length ≤ l.length + 1
  | [], lo => by rw [psg]; simp
  | e :: l, lo => by
    unfold psg
    have h1 := psg_len pass hi l e.b
    have h2 := psg_len pass hi l lo
    split
    · simp only [List.length_cons]; omega
    · simp only [List.length_cons]; omega
theorem pssS_all (es : List T3) (x : T3) (first : Int) (h : x.a ≤ x.b) : ∀ (k : Nat), ∀ s ∈ pssS es x first k, x.a ≤ s.b ∧ s.b ≤ s.p ∧ s.p ≤ x.b
  | 0, s, hs => by cases hs
  | k + 1, s, hs => by
    unfold pssS at hs
    rcases List.mem_append.1 hs with hs | hs
    · exact pssS_all es x first h k s hs
    · exact psg_all _ _ _ _ h s hs
theorem pssS_len (es : List T3) (x : T3) (first : Int) : ∀ (k : Nat), (pssS es x first k).length ≤ k * (es.length + 1)
  | 0 => by simp [pssS]
  | k + 1 => by
    have h1 := pssS_len es x first k
    have h2 := psg_len (first + k) x.b es x.a
    unfold pssS
    rw [List.length_append, Nat.succ_mul]
    omega
theorem prtS_all (es : List T3) (first : T3 → Int) (hi : Int) : ∀ (l : List T3) (lo : Int), lo ≤ hi → ∀ s ∈ prtS es first hi l lo, lo ≤ s.b ∧ s.b ≤ s.p ∧ s.p ≤ hi
  | [], lo, h, s, hs => by rw [prtS] at hs; rw [List.mem_singleton.1 hs]; exact ⟨Int.le_refl _, h, Int.le_refl _⟩
  | r :: l, lo, h, s, hs => by
    unfold prtS at hs
    split at hs
    · rename_i hc
      obtain ⟨h1, h2, h3⟩ := hc
      rcases List.mem_cons.1 hs with rfl | hs
      · exact ⟨Int.le_refl _, h1, by show r.a ≤ hi; omega⟩
      · rcases List.mem_append.1 hs with hs | hs
        · have := pssS_all es r (first r) (by omega) _ s hs; omega
        · have := prtS_all es first hi l r.b h3 s hs; omega
    · exact prtS_all es first hi l lo h s hs
set_option maxRecDepth 100000 in
theorem prtS_len (es : List T3) (he : es.length ≤ 100) (first : T3 → Int) (hi : Int) : ∀ (l : List T3) (lo : Int), (∀ r ∈ l, 1 ≤ first r ∧ r.c ≤ 9) → (prtS es first hi l lo).length ≤ l.length * 1000 + 1
  | [], lo, _ => by rw [prtS]; simp
  | r :: l, lo, hc => by
    have h1 := prtS_len es he first hi l r.b (fun x hx => hc x (List.mem_cons_of_mem _ hx))
    have h2 := prtS_len es he first hi l lo (fun x hx => hc x (List.mem_cons_of_mem _ hx))
    have h3 := pssS_len es r (first r) (r.c + 1 - first r).toNat
    have h4 := hc r (List.mem_cons_self ..)
    have h5 : (r.c + 1 - first r).toNat * (es.length + 1) ≤ 9 * 101 := Nat.mul_le_mul (by omega) (by omega)
    unfold prtS
    split
    · simp only [List.length_cons, List.length_append]; omega
    · simp only [List.length_cons]; omega
/-- How many bars spans have. -/
def tot (l : List V2) : Int := l.foldl (fun n s => n + (s.p - s.b)) 0
theorem tot_snoc (l : List V2) (s : V2) : tot (l ++ [s]) = tot l + (s.p - s.b) := by unfold tot; rw [List.foldl_append]; rfl
theorem tot_flat {l : List V2} (h : ∀ s ∈ l, s.b ≤ s.p) : tot l = (flat l).length := by
  rw [← List.reverse_reverse l] at h ⊢
  generalize l.reverse = m at h ⊢
  induction m with
  | nil => rfl
  | cons s m ih =>
    rw [List.reverse_cons, tot_snoc, flat_app, flat_one, List.length_append, bars_len, ih (fun t ht => h t (by simp at ht ⊢; exact .inl ht))]
    have := h s (by simp)
    omega
end Fo
end Go.Proofs.Ytakbpgljbbkmkaa
