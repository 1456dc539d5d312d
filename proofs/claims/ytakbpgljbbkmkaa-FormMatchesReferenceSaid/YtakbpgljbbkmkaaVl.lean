/- The bars of an order lie in the form; how often each bar has come. -/
import Derived.Test.YtakbpgljbbkmkaaVk
namespace Go.Proofs.Ytakbpgljbbkmkaa
open Go.RowKit
namespace Fo
theorem pas_rng (es : List T3) (lo pass : Int) : ∀ (m : Nat), ∀ b ∈ pas es lo pass m, lo ≤ b ∧ b < lo + m
  | 0, b, h => by unfold pas at h; cases h
  | m + 1, b, h => by
    unfold pas at h
    rcases List.mem_append.1 h with h | h
    · have := pas_rng es lo pass m b h
      omega
    · split at h
      · have := List.mem_singleton.1 h
        omega
      · cases h
theorem pss_rng (es : List T3) (x : T3) (first : Int) (hx : x.a ≤ x.b) : ∀ (k : Nat), ∀ b ∈ pss es x first k, x.a ≤ b ∧ b < x.b
  | 0, b, h => by unfold pss at h; cases h
  | k + 1, b, h => by
    unfold pss at h
    rcases List.mem_append.1 h with h | h
    · exact pss_rng es x first hx k b h
    · have := pas_rng es x.a (first + k) (x.b - x.a).toNat b h
      omega
theorem blk_rng {f : Fm} (hu : up f) (again : Bool) (bar : Int) : ∀ b ∈ blk f again bar, bar ≤ b ∧ b < nxt f bar := fun b h => by
  unfold blk at h
  unfold nxt
  split at h
  · rename_i h0
    rw [if_pos h0]
    have := List.mem_singleton.1 h
    omega
  · rename_i h0
    rw [if_neg h0]
    have h1 := six_at (l := f.rs) (bar := bar) (by omega)
    have h2 := six_lt f.rs bar
    have h3 := hu _ (at3_mem (l := f.rs) (i := (six f.rs bar).toNat) (by omega))
    have h4 := pss_rng _ _ _ (Int.le_of_lt h3) _ b h
    omega
theorem nxt_le {f : Fm} (hb : ∀ x ∈ f.rs, x.b ≤ f.n) {bar : Int} (h : bar < f.n) : nxt f bar ≤ f.n := by
  unfold nxt
  split
  · omega
  · have h2 := six_lt f.rs bar
    exact hb _ (at3_mem (l := f.rs) (i := (six f.rs bar).toNat) (by omega))
theorem prt_rng {f : Fm} (hu : up f) (hb : ∀ x ∈ f.rs, x.b ≤ f.n) (again : Bool) {hi : Int} (hh : hi ≤ f.n) : ∀ (k : Nat) (bar : Int), ∀ b ∈ prt f again hi k bar, bar ≤ b ∧ b < f.n
  | 0, bar, b, h => by unfold prt at h; cases h
  | k + 1, bar, b, h => by
    unfold prt at h
    split at h
    · rename_i h0
      have h1 := nxt_le hb (bar := bar) (by omega)
      have h2 := nxt_lt hu bar
      rcases List.mem_append.1 h with h | h
      · have := blk_rng hu again bar b h
        omega
      · have := prt_rng hu hb again hh k (nxt f bar) b h
        omega
    · cases h
theorem Val.rgs {f : Fm} (V : Val f) : rgs f.rs := V.rs.rgs V.n.2
theorem Val.bars {f : Fm} (V : Val f) : ∀ b ∈ whl f, 0 ≤ b ∧ b < f.n := fun b h => by
  have hb : ∀ x ∈ f.rs, x.b ≤ f.n := fun x hx => (chR_all (Int.le_refl 0) V.rs x hx).2.2.2.1
  have hj := V.j
  unfold okJ at hj
  unfold whl par at h
  split at h
  · exact prt_rng V.up hb false (Int.le_refl _) _ _ b h
  · rename_i h0
    rcases List.mem_append.1 h with h | h
    · exact prt_rng V.up hb false (by omega) _ _ b h
    · have := prt_rng V.up hb true (hi := f.jf) (by omega) _ _ b h
      omega
/-- How often each of n bars comes. -/
def cnts (l : List Int) (n : Nat) : List Int := (List.range n).map fun (i : Nat) => (l.count (i : Int) : Int)
theorem cnts_length (l : List Int) (n : Nat) : (cnts l n).length = n := by unfold cnts; simp
theorem cnts_at {l : List Int} {n i : Nat} (h : i < n) : atI (cnts l n) i = (l.count (i : Int) : Int) := by
  unfold atI cnts
  simp [h]
theorem cnts_nil (n : Nat) : cnts [] n = List.replicate n 0 := by
  unfold cnts
  refine List.ext_getElem (by simp) fun i h1 h2 => by simp
theorem cnts_snoc (l : List Int) (n i : Nat) (hi : i < n) : cnts (l ++ [(i : Int)]) n = (cnts l n).set i (atI (cnts l n) i + 1) := by
  rw [cnts_at hi]
  unfold cnts
  refine List.ext_getElem (by simp) fun j h1 h2 => ?_
  rw [List.getElem_set]
  simp only [List.getElem_map, List.getElem_range, List.count_append, List.count_singleton]
  by_cases e : i = j
  · subst e
    simp
  · rw [if_neg e, if_neg (by simp; omega)]
    simp
end Fo
end Go.Proofs.Ytakbpgljbbkmkaa
