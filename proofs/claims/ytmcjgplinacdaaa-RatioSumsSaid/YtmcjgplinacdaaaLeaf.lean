/- The walks of the smallest functions of package ratio and of the reference. -/
import Derived.Test.YtmcjgplinacdaaaMath
import Derived.WalkKit
import Derived.WalkSpells
import Derived.WalkLawsBesides
import Derived.BigQuiet
import Derived.Deep.QuietTactic
import Derived.Lib.Hide
namespace Go.Proofs.Ytmcjgplinacdaaa
open Go.RowKit

set_option maxHeartbeats 400000 in
theorem between_yes (n a b : Int) (w : World) (h1 : a ≤ n) (h2 : n ≤ b) :
    Calls Try.prog 31 #[.int .i64 n, .int .i64 a, .int .i64 b] w fun e w' => e = .returned (.bool true) ∧ w = w' := by
  go_enter Try.func31, Try.ntmps31
  go_wp2
  go_ret
  exact ⟨rfl, rfl⟩

set_option maxHeartbeats 400000 in
theorem between_no (n a b : Int) (w : World) (h : n < a ∨ b < n) :
    Calls Try.prog 31 #[.int .i64 n, .int .i64 a, .int .i64 b] w fun e w' => e = .returned (.bool false) ∧ w = w' := by
  by_cases h1 : a ≤ n
  · have h2 : b < n := by omega
    have h3 : decide (n ≤ b) = false := by simp; omega
    clear h
    go_enter Try.func31, Try.ntmps31
    go_wp2
    go_ret
    exact ⟨rfl, rfl⟩
  · clear h
    go_enter Try.func31, Try.ntmps31
    go_wp2
    go_ret
    exact ⟨rfl, rfl⟩

theorem bcell {W w1 : World} (hb : Below W.heap.size W w1) : (∀ b o, b < W.heap.size → w1.cell? ⟨b, o, none⟩ = W.cell? ⟨b, o, none⟩) ∧ (∀ b o, b < W.heap.size → w1.frozen? ⟨b, o, none⟩ = W.frozen? ⟨b, o, none⟩) :=
  ⟨fun b o h => hb.cell (p := ⟨b, o, none⟩) h, fun b o h => hb.frozen (p := ⟨b, o, none⟩) h⟩

/-- A world that has grown out of W, everything of W being as it was: for regions that draw their order, read old memory, and hold calls that make memory. -/
structure Ext (W : World) where
  w : World
  h : Below W.heap.size W w
theorem Ext.there (W : World) : Nonempty (Ext W) := ⟨⟨W, Below.refl _ _⟩⟩
theorem Ext.call {W : World} {P : Program} {f : FuncId} {args : Array Value} {v : Value} (x : Ext W) (h : Calls P f args x.w fun e w' => e = .returned v ∧ Below x.w.heap.size x.w w') :
    Calls P f args x.w fun e w'' => e = .returned v ∧ ∃ y : Ext W, w'' = y.w :=
  h.mono fun _ w' ⟨he, hb⟩ => ⟨he, ⟨w', x.h.trans (hb.mono x.h.size)⟩, rfl⟩
theorem Ext.same {W : World} {P : Program} {f : FuncId} {args : Array Value} {v : Value} (x : Ext W) (h : Calls P f args x.w fun e w' => e = .returned v ∧ x.w = w') :
    Calls P f args x.w fun e w'' => e = .returned v ∧ ∃ y : Ext W, w'' = y.w :=
  h.mono fun _ w' ⟨he, hb⟩ => ⟨he, ⟨w', hb ▸ x.h⟩, rfl⟩
theorem Ext.cell {W : World} (x : Ext W) {b o : Nat} {v : Value} (h : W.cell? ⟨b, o, none⟩ = some v) : x.w.cell? ⟨b, o, none⟩ = some v :=
  (x.h.cell (p := ⟨b, o, none⟩) (World.block_lt_of_cell? W _ h)).trans h
theorem Ext.region {W : World} {P : Program} {id : Nat} {ops : List Oper} {Q : Exit → Act → World → Prop} {a : Act} (hm : P.follows .mixedOrders = true) (hB : Region.lexB .any ops.toArray = true)
    (h : wpQuiet P ops.toArray (fun w' => ∃ x : Ext W, w' = x.w) (fun a' => ∀ w', (∃ x : Ext W, w' = x.w) → Q .normal a' w') ops a) : (Code.region id ops.toArray true).wp P Q a W :=
  wp_region_quiet (C := fun w' => ∃ x : Ext W, w' = x.w) hm hB ⟨⟨W.drew, (Below.refl _ _).drew⟩, rfl⟩ (by simpa using h)

theorem keep_cell {w w' : World} {p : Addr} {v : Value} (h : w.cell? p = some v) (hb : Below w.heap.size w w') : w'.cell? p = some v :=
  (hb.cell (World.block_lt_of_cell? _ _ h)).trans h
/-- A block whose first two cells hold these integers. -/
structure At2 (w : World) (b : Nat) (x y : Int) : Prop where
  lt : b < w.heap.size
  c0 : w.cell? ⟨b, 0, none⟩ = some (.int .i64 x)
  c1 : w.cell? ⟨b, 1, none⟩ = some (.int .i64 y)
theorem At2.below {w w' : World} {b : Nat} {x y : Int} (h : At2 w b x y) (hb : Below w.heap.size w w') : At2 w' b x y :=
  ⟨Nat.lt_of_lt_of_le h.lt hb.size, (hb.cell (p := ⟨b, 0, none⟩) h.lt).trans h.c0, (hb.cell (p := ⟨b, 1, none⟩) h.lt).trans h.c1⟩
theorem At2.alloc {w : World} {b : Nat} {x y : Int} (h : At2 w b x y) (o : Obj) : At2 (w.alloc o) b x y :=
  h.below ((Below.refl _ _).alloc (Nat.le_refl _) _)
theorem At2.new (w : World) (x y : Int) (t : TypeId) : At2 (w.alloc (.cells #[.int .i64 x, .int .i64 y] t)) w.heap.size x y :=
  ⟨by simp, by go_simp, by go_simp⟩

def QuietInt (x : Int) (w : World) (e : Ending) (w' : World) : Prop := e = .returned (.int .i64 x) ∧ ∃ m, w' = w.drewN m

set_option maxHeartbeats 400000 in
theorem divisor_any (k : Nat) : ∀ (a b : Int) (w : World) (p : Addr), b.natAbs ≤ k → -9223372036854775807 ≤ a → a ≤ 9223372036854775807 → -9223372036854775807 ≤ b → b ≤ 9223372036854775807 →
    w.cell? p = some (.func (.func 46) #[] #[.pointer (some p)]) →
    Calls Try.prog 46 #[.int .i64 a, .int .i64 b, .pointer (some p)] w (QuietInt (Rt.tgcd a b) w) := by
  induction k with
  | zero =>
    intro a b w p hk _ _ _ _ hc
    have hb : b = 0 := by omega
    subst hb
    have e : Rt.tgcd a 0 = a := by unfold Rt.tgcd; simp
    have E := Lib.hid e; clear e hk
    go_enter Try.func46, Try.ntmps46
    go_wp2_with fail
    go_ret
    exact ⟨by rw [E.out]; rfl, 0, rfl⟩
  | succ k ih =>
    intro a b w p hk ha ha' hb hb' hc
    by_cases h0 : b = 0
    · subst h0
      have e : Rt.tgcd a 0 = a := by unfold Rt.tgcd; simp
      have E := Lib.hid e; clear e hk ih
      go_enter Try.func46, Try.ntmps46
      go_wp2_with fail
      go_ret
      exact ⟨by rw [E.out]; rfl, 0, rfl⟩
    · have e : Rt.tgcd a b = Rt.tgcd b (a.tmod b) := by rw [Rt.tgcd.eq_1 a b]; rw [if_neg h0]
      have E := Lib.hid e; clear e
      have hbb : (b == 0) = false := by simpa using h0
      have hm : (a.tmod b).natAbs < b.natAbs := by rw [Int.natAbs_tmod]; exact Nat.mod_lt _ (by omega)
      have IH := Lib.hid (fun w' hc' => ih b (a.tmod b) w' p (by omega) hb hb' (by omega) (by omega) hc')
      clear ih
      go_enter Try.func46, Try.ntmps46
      go_wp2_with fail
      go_quiet ((go_at_call 46; exact Calls.quiet_of (IH.out _ hc)))
      go_wp2_with fail
      go_ret
      exact ⟨by rw [E.out]; rfl, _, rfl⟩

end Go.Proofs.Ytmcjgplinacdaaa
