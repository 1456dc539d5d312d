/- Mathematics of forms: in which order bars are played. -/
import Derived.Test.YtakbpgljbbkmkaaHelp
namespace Go.Proofs.Ytakbpgljbbkmkaa

namespace Fo
/-- Three integers: a repeat (From, Until, Times), an ending or a cut (From, Until, Pass). -/
structure T3 where
  a : Int
  b : Int
  c : Int
deriving instance DecidableEq for T3
/-- A visit: a bar, and the how many-th time it comes. -/
structure V2 where
  b : Int
  p : Int
deriving instance DecidableEq for V2
/-- A form. -/
structure Fm where
  n : Int
  rs : List T3
  es : List T3
  ja : Int
  jt : Int
  jf : Int
  cs : List T3
def at3 (l : List T3) (i : Nat) : T3 := l[i]?.getD ⟨0, 0, 0⟩
theorem at3_eq {l : List T3} {i : Nat} (h : i < l.length) : at3 l i = l[i] := by unfold at3; rw [List.getElem?_eq_getElem h]; rfl
theorem at3_mem {l : List T3} {i : Nat} (h : i < l.length) : at3 l i ∈ l := by rw [at3_eq h]; exact List.getElem_mem h
def inn (x : T3) (bar : Int) : Prop := x.a ≤ bar ∧ bar < x.b
instance (x : T3) (bar : Int) : Decidable (inn x bar) := by unfold inn; infer_instance
/-- A bar is played on a pass. -/
def pld (es : List T3) (bar pass : Int) : Prop := ∀ x ∈ es, inn x bar → x.c = pass
instance (es : List T3) (bar pass : Int) : Decidable (pld es bar pass) := by unfold pld; infer_instance
/-! ### where a repeat begins -/
def six : List T3 → Int → Int
  | [], _ => -1
  | x :: l, bar => if x.a = bar then 0 else if six l bar < 0 then -1 else six l bar + 1
theorem six_ge : ∀ (l : List T3) (bar : Int), -1 ≤ six l bar
  | [], _ => Int.le_refl _
  | b :: l, bar => by
    have := six_ge l bar
    unfold six
    split
    · omega
    · split <;> omega
theorem six_lt : ∀ (l : List T3) (bar : Int), six l bar < l.length
  | [], _ => by unfold six; simp
  | b :: l, bar => by
    have := six_lt l bar
    unfold six
    simp only [List.length_cons]
    split
    · omega
    · split <;> omega
theorem six_at : ∀ {l : List T3} {bar : Int}, 0 ≤ six l bar → (at3 l (six l bar).toNat).a = bar
  | [], bar, h => by unfold six at h; omega
  | b :: l, bar, h => by
    unfold six at h ⊢
    split
    · rename_i e; exact e
    · rename_i e
      rw [if_neg e] at h
      split
      · rename_i h1; rw [if_pos h1] at h; omega
      · rename_i h1
        have ih := six_at (l := l) (bar := bar) (by omega)
        rw [show (six l bar + 1).toNat = (six l bar).toNat + 1 by omega]
        exact ih
theorem six_none : ∀ {l : List T3} {bar : Int}, six l bar < 0 → ∀ x ∈ l, x.a ≠ bar
  | [], _, _, _, hx => by cases hx
  | b :: l, bar, h, x, hx => by
    unfold six at h
    by_cases e : b.a = bar
    · rw [if_pos e] at h; omega
    · rw [if_neg e] at h
      rcases List.mem_cons.1 hx with rfl | hx
      · exact e
      · refine six_none (l := l) ?_ x hx
        split at h
        · assumption
        · omega
theorem six_first : ∀ {l : List T3} {bar : Int} {i : Nat}, i < l.length → (at3 l i).a = bar → (∀ k, k < i → (at3 l k).a ≠ bar) → six l bar = i
  | [], _, _, hi, _, _ => by simp at hi
  | b :: l, bar, 0, _, h, _ => by unfold six; rw [if_pos (show b.a = bar from h)]; rfl
  | b :: l, bar, i + 1, hi, h, hk => by
    have e : b.a ≠ bar := hk 0 (by omega)
    have ih := six_first (l := l) (bar := bar) (i := i) (by simpa using hi) h (fun k hk2 => hk (k + 1) (by omega))
    unfold six
    rw [if_neg e, if_neg (by omega), ih]
    rfl
/-! ### the order -/
/-- The bars of one pass, up to the m-th one from lo on. -/
def pas (es : List T3) (lo pass : Int) : Nat → List Int
  | 0 => []
  | m + 1 => pas es lo pass m ++ (if pld es (lo + m) pass then [lo + m] else [])
/-- All passes: k of them, from first on. -/
def pss (es : List T3) (x : T3) (first : Int) : Nat → List Int
  | 0 => []
  | k + 1 => pss es x first k ++ pas es x.a (first + k) (x.b - x.a).toNat
def blk (f : Fm) (again : Bool) (bar : Int) : List Int := if six f.rs bar < 0 then [bar] else
  pss f.es (at3 f.rs (six f.rs bar).toNat) (if again then (at3 f.rs (six f.rs bar).toNat).c else 1) ((at3 f.rs (six f.rs bar).toNat).c + 1 - (if again then (at3 f.rs (six f.rs bar).toNat).c else 1)).toNat
def nxt (f : Fm) (bar : Int) : Int := if six f.rs bar < 0 then bar + 1 else (at3 f.rs (six f.rs bar).toNat).b
def prt (f : Fm) (again : Bool) (hi : Int) : Nat → Int → List Int
  | 0, _ => []
  | k + 1, bar => if bar < hi then blk f again bar ++ prt f again hi k (nxt f bar) else []
def up (f : Fm) : Prop := ∀ x ∈ f.rs, x.a < x.b
theorem nxt_lt {f : Fm} (h : up f) (bar : Int) : bar < nxt f bar := by
  unfold nxt
  split
  · omega
  · rename_i h0
    have h1 := six_at (l := f.rs) (bar := bar) (by omega)
    have h2 := six_lt f.rs bar
    have h3 := h _ (at3_mem (l := f.rs) (i := (six f.rs bar).toNat) (by omega))
    omega
theorem prt_fuel {f : Fm} (h : up f) (again : Bool) (hi : Int) : ∀ (k : Nat) (bar : Int), (hi - bar).toNat ≤ k → prt f again hi k bar = prt f again hi (k + 1) bar
  | 0, bar, hk => by
    unfold prt
    rw [if_neg (by omega)]
  | k + 1, bar, hk => by
    have h1 := nxt_lt h bar
    conv => lhs; unfold prt
    conv => rhs; unfold prt
    by_cases hb : bar < hi
    · rw [if_pos hb, if_pos hb, prt_fuel h again hi k (nxt f bar) (by omega)]
    · rw [if_neg hb, if_neg hb]
theorem prt_more {f : Fm} (h : up f) (again : Bool) (hi : Int) (bar : Int) : ∀ (k : Nat), (hi - bar).toNat ≤ k → prt f again hi k bar = prt f again hi (hi - bar).toNat bar := fun k hk => by
  obtain ⟨m, rfl⟩ : ∃ m, k = (hi - bar).toNat + m := ⟨k - (hi - bar).toNat, by omega⟩
  induction m with
  | zero => rfl
  | succ m ih => rw [← Nat.add_assoc, ← prt_fuel h again hi _ bar (by omega)]; exact ih (by omega)
/-- From bar on to before hi. -/
def par (f : Fm) (again : Bool) (bar hi : Int) : List Int := prt f again hi (hi - bar).toNat bar
theorem par_end (f : Fm) (again : Bool) {bar hi : Int} (h : ¬ bar < hi) : par f again bar hi = [] := by
  unfold par
  rw [show (hi - bar).toNat = 0 by omega]
  rfl
theorem par_step {f : Fm} (h : up f) (again : Bool) {bar hi : Int} (hb : bar < hi) : par f again bar hi = blk f again bar ++ par f again (nxt f bar) hi := by
  have h1 := nxt_lt h bar
  obtain ⟨k, hk⟩ : ∃ k, (hi - bar).toNat = k + 1 := ⟨(hi - bar).toNat - 1, by omega⟩
  unfold par
  rw [hk]
  conv => lhs; unfold prt
  rw [if_pos hb, prt_more h again hi (nxt f bar) k (by omega)]
/-- All bars, without cuts. -/
def whl (f : Fm) : List Int := if f.ja = 0 then par f false 0 f.n else par f false 0 f.ja ++ par f true f.jt f.jf
/-! ### visits -/
def visA : List Int → List Int → List V2
  | _, [] => []
  | acc, b :: r => ⟨b, (acc.count b : Int) + 1⟩ :: visA (acc ++ [b]) r
def vis (l : List Int) : List V2 := visA [] l
theorem visA_snoc : ∀ (l acc : List Int) (b : Int), visA acc (l ++ [b]) = visA acc l ++ [⟨b, ((acc ++ l).count b : Int) + 1⟩]
  | [], acc, b => by simp [visA]
  | x :: l, acc, b => by
    rw [List.cons_append, visA, visA, visA_snoc l (acc ++ [x]) b]
    simp
theorem vis_snoc (l : List Int) (b : Int) : vis (l ++ [b]) = vis l ++ [⟨b, (l.count b : Int) + 1⟩] := visA_snoc l [] b
theorem visA_length : ∀ (l acc : List Int), (visA acc l).length = l.length
  | [], _ => rfl
  | _ :: l, acc => by rw [visA, List.length_cons, visA_length l, List.length_cons]
theorem vis_length (l : List Int) : (vis l).length = l.length := visA_length l []
/-- A cut leaves out a visit. -/
def lvs (c : T3) (v : V2) : Prop := inn c v.b ∧ (c.c = 0 ∨ c.c = v.p)
instance (c : T3) (v : V2) : Decidable (lvs c v) := by unfold lvs; infer_instance
def lft (cs : List T3) (v : V2) : Prop := ∃ c ∈ cs, lvs c v
instance (cs : List T3) (v : V2) : Decidable (lft cs v) := by unfold lft; infer_instance
/-- The order of a form. -/
def unf (f : Fm) : List V2 := (vis (whl f)).filter fun v => !decide (lft f.cs v)
/-! ### well-formed -/
def wi (l : List T3) (bar : Int) : Prop := ∃ x ∈ l, x.a < bar ∧ bar < x.b
instance (l : List T3) (bar : Int) : Decidable (wi l bar) := by unfold wi; infer_instance
def ins (l : List T3) (lo hi : Int) : Prop := ∃ x ∈ l, x.a ≤ lo ∧ hi ≤ x.b
instance (l : List T3) (lo hi : Int) : Decidable (ins l lo hi) := by unfold ins; infer_instance
def chR (n : Int) : Int → List T3 → Prop
  | _, [] => True
  | last, x :: l => (last ≤ x.a ∧ x.a < x.b ∧ x.b ≤ n ∧ 1 ≤ x.c ∧ x.c ≤ 9) ∧ chR n x.b l
def chE (rs : List T3) : Int → List T3 → Prop
  | _, [] => True
  | last, x :: l => (last ≤ x.a ∧ x.a < x.b ∧ ins rs x.a x.b ∧ 1 ≤ x.c ∧ x.c ≤ 9) ∧ chE rs x.b l
def okJ (f : Fm) : Prop := (f.ja = 0 ∧ f.jt = 0 ∧ f.jf = 0) ∨ ((1 ≤ f.ja ∧ f.ja ≤ f.n ∧ 0 ≤ f.jt ∧ f.jt < f.ja ∧ f.jt < f.jf ∧ f.jf ≤ f.n) ∧ ¬ wi f.rs f.ja ∧ ¬ wi f.rs f.jt ∧ ¬ wi f.rs f.jf)
def okC (n : Int) (c : T3) : Prop := 0 ≤ c.a ∧ c.a < c.b ∧ c.b ≤ n ∧ 0 ≤ c.c ∧ c.c ≤ 20
structure Val (f : Fm) : Prop where
  n : 1 ≤ f.n ∧ f.n ≤ 4000
  rl : f.rs.length ≤ 100
  rs : chR f.n 0 f.rs
  el : f.es.length ≤ 100
  es : chE f.rs 0 f.es
  j : okJ f
  cl : f.cs.length ≤ 100
  cs : ∀ c ∈ f.cs, okC f.n c
  cd : f.cs.Nodup
  most : (whl f).length ≤ 20000
theorem chR_all {n : Int} : ∀ {last : Int} {l : List T3}, 0 ≤ last → chR n last l → ∀ x ∈ l, 0 ≤ x.a ∧ last ≤ x.a ∧ x.a < x.b ∧ x.b ≤ n ∧ 1 ≤ x.c ∧ x.c ≤ 9
  | _, [], _, _, x, hx => by cases hx
  | last, y :: l, h0, ⟨h1, h2⟩, x, hx => by
    rcases List.mem_cons.1 hx with rfl | hx
    · omega
    · have := chR_all (last := y.b) (by omega) h2 x hx
      omega
theorem Val.up {f : Fm} (h : Val f) : up f := fun x hx => (chR_all (Int.le_refl 0) h.rs x hx).2.2.1
end Fo
end Go.Proofs.Ytakbpgljbbkmkaa
