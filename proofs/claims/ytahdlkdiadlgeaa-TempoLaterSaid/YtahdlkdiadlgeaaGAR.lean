import Derived.Test.YtahdlkdiadlgeaaGAK
import Derived.Test.YtahdlkdiadlgeaaGAP
/- The walks of Played and Few. -/
namespace Go.Proofs.Ytahdlkdiadlgeaa
open Go.RowKit

namespace Te
open Fo (T3)
/-- How long the first visits take, in 100800ths of a second. -/
def pre (bs : List Mt.B) (l : List T3) (vs : List Fo.V2) : Nat → Int
  | 0 => 0
  | k + 1 => pre bs l vs k + Mt.bt (atB bs (atV vs k).b.toNat) * sb l (atV vs k).b
theorem pre_succ (bs : List Mt.B) (l : List T3) (vs : List Fo.V2) (k : Nat) : pre bs l vs (k + 1) = pre bs l vs k + Mt.bt (atB bs (atV vs k).b.toNat) * sb l (atV vs k).b := rfl
end Te
namespace Fo
theorem vis_le9 : ∀ (l : List Int) (x : V2), x ∈ vis l → 1 ≤ x.p ∧ x.p ≤ (l.count x.b : Int) := fun l => by
  rw [← List.reverse_reverse l]
  generalize l.reverse = m
  induction m with
  | nil => intro x hx; cases hx
  | cons b m ih =>
    intro x hx
    rw [List.reverse_cons, vis_snoc] at hx
    rw [List.reverse_cons, List.count_append]
    rcases List.mem_append.1 hx with hx | hx
    · have := ih x hx
      omega
    · rw [List.mem_singleton.1 hx]
      simp
      omega
theorem vis_in9 {l : List Int} {x : V2} (h : x ∈ vis l) : x.b ∈ l := by
  have := vis_le9 l x h
  exact List.count_pos_iff.1 (by omega)
end Fo
namespace Te
open Fo (T3)
theorem unf_bar {f : Fo.Fm} (V : Fo.Val f) {x : Fo.V2} (h : x ∈ Fo.unf f) : 0 ≤ x.b ∧ x.b < f.n := V.bars x.b (Fo.vis_in9 (List.mem_filter.1 h).1)
theorem unf_most {f : Fo.Fm} (V : Fo.Val f) : (Fo.unf f).length ≤ 20000 := by
  have h1 : (Fo.unf f).length ≤ (Fo.vis (Fo.whl f)).length := List.length_filter_le _ _
  rw [Fo.vis_length] at h1
  have := V.most
  omega
/-- Visits of these bars. -/
def In (bs : List Mt.B) (vs : List Fo.V2) : Prop := ∀ k, k < vs.length → 0 ≤ (atV vs k).b ∧ (atV vs k).b < (bs.length : Int)
theorem unf_inb {f : Fo.Fm} (V : Fo.Val f) {bs : List Mt.B} (h : f.n = (bs.length : Int)) : In bs (Fo.unf f) := fun k hk => by
  rw [atV_eq hk, ← h]
  exact unf_bar V (List.getElem_mem _)
theorem vstep_r {bs : List Mt.B} {l : List T3} (V : Val bs l) {vs : List Fo.V2} (I : In bs vs) {k : Nat} (hk : k < vs.length) : 1 ≤ Mt.bt (atB bs (atV vs k).b.toNat) * sb l (atV vs k).b ∧ Mt.bt (atB bs (atV vs k).b.toNat) * sb l (atV vs k).b ≤ 24192000 := by
  obtain ⟨h1, h2⟩ := I k hk
  have h := step_r V (k := (atV vs k).b.toNat) (by omega)
  rwa [Int.toNat_of_nonneg h1] at h
theorem pre_mono {bs : List Mt.B} {l : List T3} (V : Val bs l) {vs : List Fo.V2} (I : In bs vs) {i : Nat} : ∀ {k : Nat}, i + k ≤ vs.length → pre bs l vs i + k ≤ pre bs l vs (i + k) ∧ pre bs l vs (i + k) ≤ pre bs l vs i + k * 24192000
  | 0, _ => ⟨by simp, by simp⟩
  | k + 1, h => by
    obtain ⟨h1, h2⟩ := pre_mono V I (i := i) (k := k) (by omega)
    obtain ⟨h3, h4⟩ := vstep_r V I (k := i + k) (by omega)
    rw [show i + (k + 1) = (i + k) + 1 by omega, pre_succ]
    constructor
    · push_cast at h1 h2 h3 h4 ⊢
      omega
    · push_cast at h1 h2 h3 h4 ⊢
      omega
/-- May be asked how long these visits take? -/
def AskP (bs : List Mt.B) (l : List T3) (f : Fo.Fm) (a b : Int) : Prop := Val bs l ∧ Fo.Val f ∧ f.n = (bs.length : Int) ∧ 0 ≤ a ∧ a ≤ b ∧ b ≤ ((Fo.unf f).length : Int)
/-- What Played answers. -/
structure PlaA (bs : List Mt.B) (l : List T3) (f : Fo.Fm) (a b N D E : Int) : Prop where
  ok : AskP bs l f a b → Rt.makeR (pre bs l (Fo.unf f) b.toNat - pre bs l (Fo.unf f) a.toNat) 100800 = (N, D, E)
  no : ¬ AskP bs l f a b → N = 0 ∧ D = 0 ∧ E = 1
theorem plaA_ex (bs : List Mt.B) (l : List T3) (f : Fo.Fm) (a b : Int) : ∃ N D E, PlaA bs l f a b N D E := by
  by_cases h : AskP bs l f a b
  · exact ⟨_, _, _, fun _ => rfl, fun k => absurd h k⟩
  · exact ⟨_, _, _, fun k => absurd k h, fun _ => ⟨rfl, rfl, rfl⟩⟩
end Te
def fewT (h : FH) (n1 n2 : Nat) : Prop := fewH h ∧ n1 ≤ 40 ∧ n2 ≤ 60
end Go.Proofs.Ytahdlkdiadlgeaa

/- Mathematics of the chapter's example. -/
namespace Go.Proofs.Ytahdlkdiadlgeaa
open Go.RowKit

def txB : List Mt.B := [(3, 4, 1, 0), (1, 4, 1, 0), (2, 4, 1, 0)]
def txT : List Fo.T3 := [⟨0, 1, 1⟩, ⟨2, 1, 2⟩]
def txF : Fo.Fm := ⟨3, [⟨2, 3, 2⟩], [], 0, 0, 0, []⟩
theorem txB_val : Mt.Val txB := by
  refine ⟨by decide, by decide, fun j hj => ?_, fun j k hj hk => ?_⟩
  · have : j = 0 ∨ j = 1 ∨ j = 2 := by simp [txB] at hj; omega
    rcases this with rfl | rfl | rfl <;> (unfold Mt.okB; decide +kernel)
  · have : (j = 1 ∧ k = 0) ∨ (j = 2 ∧ k = 0) ∨ (j = 2 ∧ k = 1) := by simp [txB] at hj; omega
    rcases this with ⟨rfl, rfl⟩ | ⟨rfl, rfl⟩ | ⟨rfl, rfl⟩ <;> decide
theorem txT_val : Te.ValL 3 txT := by
  refine ⟨by decide, by decide, rfl, fun j hj => ?_, fun j hj => ?_⟩
  · have : j = 0 ∨ j = 1 := by simp [txT] at hj; omega
    rcases this with rfl | rfl <;> decide +kernel
  · have : j = 0 := by simp [txT] at hj; omega
    subst this
    decide
theorem tx_val : Te.Val txB txT := ⟨txB_val, txT_val⟩
theorem tx_no : ¬ Te.Val txB (txT.drop 1) := fun V => by
  have := V.2.zero
  exact absurd this (by decide)
theorem txF_val : Fo.Val txF := ⟨by decide, by decide, ⟨by decide, trivial⟩, by decide, trivial, .inl ⟨rfl, rfl, rfl⟩, by decide, fun c hc => (by cases hc), List.nodup_nil, by decide +kernel⟩
theorem txF_unf : Fo.unf txF = [⟨0, 1⟩, ⟨1, 1⟩, ⟨2, 1⟩, ⟨2, 2⟩] := by decide +kernel
theorem tx_s1 : Te.SecA txB txT 0 0 1 3 0 1 10 1 0 :=
  ⟨fun _ => by decide +kernel, fun k => absurd ⟨tx_val, by decide +kernel, by decide +kernel, fun h => by
    rcases h with h | ⟨h, _⟩
    · exact absurd h (by decide)
    · exact absurd h (by decide)⟩ k⟩
theorem tx_s2 : Te.SecA txB txT 1 3 1 2 1 1 3 2 0 :=
  ⟨fun _ => by decide +kernel, fun k => absurd ⟨tx_val, by decide +kernel, by decide +kernel, fun h => by
    rcases h with h | ⟨h, _⟩
    · exact absurd h (by decide)
    · exact absurd h (by decide)⟩ k⟩
theorem tx_s3 : Te.SecA txB txT 3 0 1 0 0 1 0 0 1 :=
  ⟨fun k => absurd (.inl (by decide)) k.2.2.2, fun _ => ⟨rfl, rfl, rfl⟩⟩
theorem tx_p : Te.PlaA txB txT txF 0 4 12 1 0 :=
  ⟨fun _ => by rw [txF_unf]; decide +kernel, fun k => absurd ⟨tx_val, txF_val, rfl, by decide, by decide, by rw [txF_unf]; decide⟩ k⟩
theorem tx_a : Te.AtA txB txT 1 1 1 0 := ⟨fun _ => by decide +kernel, fun k => absurd ⟨tx_val, by decide, by decide⟩ k⟩
theorem txB_sl (w : World) : SlB (w.alloc (.cells #[.int .i64 3, .int .i64 4, .int .i64 1, .int .i64 0, .int .i64 1, .int .i64 4, .int .i64 1, .int .i64 0, .int .i64 2, .int .i64 4, .int .i64 1, .int .i64 0] 64)) (some ⟨w.heap.size, 0, none⟩) txB := fun _ => by
  refine ⟨w.heap.size, 0, rfl, by simp, fun i hi => ?_⟩
  have : i = 0 ∨ i = 1 ∨ i = 2 := by simp [txB] at hi; omega
  rcases this with rfl | rfl | rfl <;> (refine ⟨?_, ?_, ?_, ?_⟩ <;> (go_simp; rfl))
theorem txT_sl (w : World) : SlT (w.alloc (.cells #[.int .i64 0, .int .i64 1, .int .i64 1, .int .i64 2, .int .i64 1, .int .i64 2] 38)) (some ⟨w.heap.size, 0, none⟩) txT := fun _ => by
  refine ⟨w.heap.size, 0, rfl, by simp, fun i hi => ?_⟩
  have : i = 0 ∨ i = 1 := by simp [txT] at hi; omega
  rcases this with rfl | rfl <;> (refine ⟨?_, ?_, ?_⟩ <;> (go_simp; rfl))
theorem txR_sl (w : World) : SlT (w.alloc (.cells #[.int .i64 2, .int .i64 3, .int .i64 2] 66)) (some ⟨w.heap.size, 0, none⟩) [⟨2, 3, 2⟩] := fun _ => by
  refine ⟨w.heap.size, 0, rfl, by simp, fun i hi => ?_⟩
  have : i = 0 := by simp at hi; omega
  subst this
  refine ⟨?_, ?_, ?_⟩ <;> (go_simp; rfl)
theorem txF_sl (w : World) : SlF (w.alloc (.cells #[.int .i64 2, .int .i64 3, .int .i64 2] 66)) (⟨3, some ⟨w.heap.size, 0, none⟩, 1, 1, none, 0, 0, 0, 0, 0, none, 0, 0⟩ : FH) txF :=
  ⟨rfl, rfl, rfl, rfl, rfl, rfl, rfl, txR_sl w, SlT.nil _ _, SlT.nil _ _⟩
end Go.Proofs.Ytahdlkdiadlgeaa
