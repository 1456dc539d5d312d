import Derived.Test.YtahdlkdiadlgeaaRows
import Derived.WalkKit
import Derived.WalkSpells
import Derived.WalkLawsBesides
import Derived.BigQuiet
import Derived.Deep.QuietTactic
import Derived.Lib.Hide
import Derived.Handy
import Derived.Laws.EntriesVeiled
import Derived.RegionTactic
import Derived.Deep.DeepCutAuto
import Derived.Deep.RegionHeld3
import Derived.Deep.LoopGhost
import Derived.Test.YtahdlkdiadlgeaaGAA
/- Small laws for walks: what is kept over calls that make memory; blocks of integers; regions that draw. -/
namespace Go.Proofs.Ytahdlkdiadlgeaa
open Go.RowKit

theorem bcell {W w1 : World} (hb : Below W.heap.size W w1) : (∀ b o, b < W.heap.size → w1.cell? ⟨b, o, none⟩ = W.cell? ⟨b, o, none⟩) ∧ (∀ b o, b < W.heap.size → w1.frozen? ⟨b, o, none⟩ = W.frozen? ⟨b, o, none⟩) :=
  ⟨fun b o h => hb.cell (p := ⟨b, o, none⟩) h, fun b o h => hb.frozen (p := ⟨b, o, none⟩) h⟩
theorem keep_cell {w w' : World} {p : Addr} {v : Value} (h : w.cell? p = some v) (hb : Below w.heap.size w w') : w'.cell? p = some v :=
  (hb.cell (World.block_lt_of_cell? _ _ h)).trans h
theorem keep_alloc {w : World} {p : Addr} {v : Value} (h : w.cell? p = some v) (o : Obj) : (w.alloc o).cell? p = some v :=
  (World.cell?_alloc_lt w o p (World.block_lt_of_cell? _ _ h)).trans h
theorem quiet_left {P : Program} {f : FuncId} {args : Array Value} {w : World} {n : Nat} {v : Value}
    (h : Calls P f args (w.drewN n) fun e w' => e = .returned v ∧ w.drewN n = w') : Calls P f args (w.drewN n) fun e w'' => e = .returned v ∧ ∃ m, w'' = w.drewN m :=
  h.mono fun _ _ ⟨he, hm⟩ => ⟨he, n, hm.symm⟩

/-- A world that has grown out of W, everything of W being as it was: for regions that draw their order, read old memory, and hold calls that make memory. -/
structure Ext (W : World) where
  w : World
  h : Below W.heap.size W w
theorem Ext.there (W : World) : Nonempty (Ext W) := ⟨⟨W, Below.refl _ _⟩⟩
theorem Ext.call {W : World} {P : Program} {f : FuncId} {args : Array Value} {v : Value} (x : Ext W) (h : Calls P f args x.w fun e w' => e = .returned v ∧ Below x.w.heap.size x.w w') :
    Calls P f args x.w fun e w'' => e = .returned v ∧ ∃ y : Ext W, w'' = y.w :=
  h.mono fun _ w' ⟨he, hb⟩ => ⟨he, ⟨w', x.h.trans (hb.mono x.h.size)⟩, rfl⟩
theorem Ext.same {W : World} {P : Program} {f : FuncId} {args : Array Value} {v : Value} (x : Ext W) (h : Calls P f args x.w fun e w' => e = .returned v ∧ x.w = w') :
    Calls P f args x.w fun e w'' => e = .returned v ∧ ∃ y : Ext W, w'' = y.w :=
  h.mono fun _ w' ⟨he, hb⟩ => ⟨he, ⟨w', hb ▸ x.h⟩, rfl⟩
theorem Ext.cell {W : World} (x : Ext W) {b o : Nat} {v : Value} (h : W.cell? ⟨b, o, none⟩ = some v) : x.w.cell? ⟨b, o, none⟩ = some v :=
  (x.h.cell (p := ⟨b, o, none⟩) (World.block_lt_of_cell? W _ h)).trans h
theorem Ext.region {W : World} {P : Program} {id : Nat} {ops : List Oper} {Q : Exit → Act → World → Prop} {a : Act} (hm : P.follows .mixedOrders = true) (hB : Region.lexB .any ops.toArray = true)
    (h : wpQuiet P ops.toArray (fun w' => ∃ x : Ext W, w' = x.w) (fun a' => ∀ w', (∃ x : Ext W, w' = x.w) → Q .normal a' w') ops a) : (Code.region id ops.toArray true).wp P Q a W :=
  wp_region_quiet (C := fun w' => ∃ x : Ext W, w' = x.w) hm hB ⟨⟨W.drew, (Below.refl _ _).drew⟩, rfl⟩ (by simpa using h)

/-- A block whose first 2 cells hold these integers. -/
structure At2 (w : World) (b : Nat) (x y : Int) : Prop where
  lt : b < w.heap.size
  c0 : w.cell? ⟨b, 0, none⟩ = some (.int .i64 x)
  c1 : w.cell? ⟨b, 1, none⟩ = some (.int .i64 y)
theorem At2.below {w w' : World} {b : Nat} {x y : Int} (h : At2 w b x y) (hb : Below w.heap.size w w') : At2 w' b x y :=
  ⟨Nat.lt_of_lt_of_le h.lt hb.size, (hb.cell (p := ⟨b, 0, none⟩) h.lt).trans h.c0, (hb.cell (p := ⟨b, 1, none⟩) h.lt).trans h.c1⟩
theorem At2.alloc {w : World} {b : Nat} {x y : Int} (h : At2 w b x y) (o : Obj) : At2 (w.alloc o) b x y :=
  h.below ((Below.refl _ _).alloc (Nat.le_refl _) _)
theorem At2.new (w : World) (x y : Int) (t : TypeId) : At2 (w.alloc (.cells #[.int .i64 x, .int .i64 y] t)) w.heap.size x y :=
  ⟨by simp, by go_simp, by go_simp⟩
theorem At2.at {w : World} {b : Nat} {x y : Int} (b' : Nat) (h : At2 w b x y) (e : b = b') : At2 w b' x y := e ▸ h
/-- The same of a variable: its cells can be written, too. -/
structure Var2 (w : World) (b : Nat) (x y : Int) : Prop where
  at2 : At2 w b x y
  f0 : w.frozen? ⟨b, 0, none⟩ = false
  f1 : w.frozen? ⟨b, 1, none⟩ = false
theorem Var2.below {w w' : World} {b : Nat} {x y : Int} (h : Var2 w b x y) (hb : Below w.heap.size w w') : Var2 w' b x y :=
  ⟨h.at2.below hb, (hb.frozen (p := ⟨b, 0, none⟩) h.at2.lt).trans h.f0, (hb.frozen (p := ⟨b, 1, none⟩) h.at2.lt).trans h.f1⟩
theorem Var2.new (w : World) (x y : Int) (t : TypeId) : Var2 (w.alloc (.cells #[.int .i64 x, .int .i64 y] t)) w.heap.size x y :=
  ⟨At2.new w x y t, by go_simp, by go_simp⟩
theorem Var2.alloc {w : World} {b : Nat} {x y : Int} (h : Var2 w b x y) (o : Obj) : Var2 (w.alloc o) b x y :=
  h.below ((Below.refl _ _).alloc (Nat.le_refl _) _)
theorem Var2.at {w : World} {b : Nat} {x y : Int} (b' : Nat) (h : Var2 w b x y) (e : b = b') : Var2 w b' x y := e ▸ h

/-- A block whose first 3 cells hold these integers. -/
structure At3 (w : World) (b : Nat) (x y z : Int) : Prop where
  lt : b < w.heap.size
  c0 : w.cell? ⟨b, 0, none⟩ = some (.int .i64 x)
  c1 : w.cell? ⟨b, 1, none⟩ = some (.int .i64 y)
  c2 : w.cell? ⟨b, 2, none⟩ = some (.int .i64 z)
theorem At3.below {w w' : World} {b : Nat} {x y z : Int} (h : At3 w b x y z) (hb : Below w.heap.size w w') : At3 w' b x y z :=
  ⟨Nat.lt_of_lt_of_le h.lt hb.size, (hb.cell (p := ⟨b, 0, none⟩) h.lt).trans h.c0, (hb.cell (p := ⟨b, 1, none⟩) h.lt).trans h.c1, (hb.cell (p := ⟨b, 2, none⟩) h.lt).trans h.c2⟩
theorem At3.alloc {w : World} {b : Nat} {x y z : Int} (h : At3 w b x y z) (o : Obj) : At3 (w.alloc o) b x y z :=
  h.below ((Below.refl _ _).alloc (Nat.le_refl _) _)
theorem At3.new (w : World) (x y z : Int) (t : TypeId) : At3 (w.alloc (.cells #[.int .i64 x, .int .i64 y, .int .i64 z] t)) w.heap.size x y z :=
  ⟨by simp, by go_simp, by go_simp, by go_simp⟩
theorem At3.at {w : World} {b : Nat} {x y z : Int} (b' : Nat) (h : At3 w b x y z) (e : b = b') : At3 w b' x y z := e ▸ h
/-- The same of a variable: its cells can be written, too. -/
structure Var3 (w : World) (b : Nat) (x y z : Int) : Prop where
  at3 : At3 w b x y z
  f0 : w.frozen? ⟨b, 0, none⟩ = false
  f1 : w.frozen? ⟨b, 1, none⟩ = false
  f2 : w.frozen? ⟨b, 2, none⟩ = false
theorem Var3.below {w w' : World} {b : Nat} {x y z : Int} (h : Var3 w b x y z) (hb : Below w.heap.size w w') : Var3 w' b x y z :=
  ⟨h.at3.below hb, (hb.frozen (p := ⟨b, 0, none⟩) h.at3.lt).trans h.f0, (hb.frozen (p := ⟨b, 1, none⟩) h.at3.lt).trans h.f1, (hb.frozen (p := ⟨b, 2, none⟩) h.at3.lt).trans h.f2⟩
theorem Var3.new (w : World) (x y z : Int) (t : TypeId) : Var3 (w.alloc (.cells #[.int .i64 x, .int .i64 y, .int .i64 z] t)) w.heap.size x y z :=
  ⟨At3.new w x y z t, by go_simp, by go_simp, by go_simp⟩
theorem Var3.alloc {w : World} {b : Nat} {x y z : Int} (h : Var3 w b x y z) (o : Obj) : Var3 (w.alloc o) b x y z :=
  h.below ((Below.refl _ _).alloc (Nat.le_refl _) _)
theorem Var3.at {w : World} {b : Nat} {x y z : Int} (b' : Nat) (h : Var3 w b x y z) (e : b = b') : Var3 w b' x y z := e ▸ h

end Go.Proofs.Ytahdlkdiadlgeaa

/- Variables that are carried over stores into other variables. -/
namespace Go.Proofs.Ytahdlkdiadlgeaa
open Go.RowKit

theorem set_cell_ne (w : World) (b c k j : Nat) (v : Value) (h : b ≠ c) : (w.setCell ⟨c, k, none⟩ v).cell? ⟨b, j, none⟩ = w.cell? ⟨b, j, none⟩ :=
  World.cell?_of_block (w := w) (a := ⟨b, j, none⟩) (Below.heap_setCell w ⟨c, k, none⟩ v b h)
theorem set_frozen_ne (w : World) (b c k j : Nat) (v : Value) (h : b ≠ c) : (w.setCell ⟨c, k, none⟩ v).frozen? ⟨b, j, none⟩ = w.frozen? ⟨b, j, none⟩ :=
  World.frozen?_of_block (w := w) (a := ⟨b, j, none⟩) (Below.heap_setCell w ⟨c, k, none⟩ v b h)
theorem At2.ne {w : World} {b : Nat} {x y : Int} (h : At2 w b x y) (c k : Nat) (v : Value) (hn : b ≠ c) : At2 (w.setCell ⟨c, k, none⟩ v) b x y :=
  ⟨by simpa using h.lt, (set_cell_ne _ _ _ _ _ _ hn).trans h.c0, (set_cell_ne _ _ _ _ _ _ hn).trans h.c1⟩
theorem At3.ne {w : World} {b : Nat} {x y z : Int} (h : At3 w b x y z) (c k : Nat) (v : Value) (hn : b ≠ c) : At3 (w.setCell ⟨c, k, none⟩ v) b x y z :=
  ⟨by simpa using h.lt, (set_cell_ne _ _ _ _ _ _ hn).trans h.c0, (set_cell_ne _ _ _ _ _ _ hn).trans h.c1, (set_cell_ne _ _ _ _ _ _ hn).trans h.c2⟩
theorem Var2.ne {w : World} {b : Nat} {x y : Int} (h : Var2 w b x y) (c k : Nat) (v : Value) (hn : b ≠ c) : Var2 (w.setCell ⟨c, k, none⟩ v) b x y :=
  ⟨h.at2.ne c k v hn, (set_frozen_ne _ _ _ _ _ _ hn).trans h.f0, (set_frozen_ne _ _ _ _ _ _ hn).trans h.f1⟩
theorem Var3.ne {w : World} {b : Nat} {x y z : Int} (h : Var3 w b x y z) (c k : Nat) (v : Value) (hn : b ≠ c) : Var3 (w.setCell ⟨c, k, none⟩ v) b x y z :=
  ⟨h.at3.ne c k v hn, (set_frozen_ne _ _ _ _ _ _ hn).trans h.f0, (set_frozen_ne _ _ _ _ _ _ hn).trans h.f1, (set_frozen_ne _ _ _ _ _ _ hn).trans h.f2⟩
theorem Var2.put {w : World} {b : Nat} {x y : Int} (h : Var2 w b x y) (p q : Int) : Var2 ((w.setCell ⟨b, 0, none⟩ (.int .i64 p)).setCell ⟨b, 1, none⟩ (.int .i64 q)) b p q := by
  obtain ⟨⟨l, c0, c1⟩, f0, f1⟩ := h
  refine ⟨⟨?_, ?_, ?_⟩, ?_, ?_⟩
  · simpa using l
  all_goals go_simp
theorem Var3.put {w : World} {b : Nat} {x y z : Int} (h : Var3 w b x y z) (p q r : Int) : Var3 (((w.setCell ⟨b, 0, none⟩ (.int .i64 p)).setCell ⟨b, 1, none⟩ (.int .i64 q)).setCell ⟨b, 2, none⟩ (.int .i64 r)) b p q r := by
  obtain ⟨⟨l, c0, c1, c2⟩, f0, f1, f2⟩ := h
  refine ⟨⟨?_, ?_, ?_, ?_⟩, ?_, ?_, ?_⟩
  · simpa using l
  all_goals go_simp
end Go.Proofs.Ytahdlkdiadlgeaa

/- Mathematics of bars: 1680ths, before, where. -/
namespace Go.Proofs.Ytahdlkdiadlgeaa.Mt

/-- How many 1680ths a duration is; -1: it is none. -/
def tk (n d : Int) : Int := if d < 1 ∨ 1680 % d ≠ 0 ∨ n < 0 ∨ 1000000000 < n ∨ Int.gcd n d ≠ 1 then -1 else n * (1680 / d)
def oN (n : Nat) : Int := ((n / Nat.gcd n 1680 : Nat) : Int)
def oD (n : Nat) : Int := ((1680 / Nat.gcd n 1680 : Nat) : Int)
theorem tk_cases (n d : Int) : tk n d = -1 ∨ (1 ≤ d ∧ 1680 % d = 0 ∧ 0 ≤ n ∧ n ≤ 1000000000 ∧ Int.gcd n d = 1 ∧ tk n d = n * (1680 / d)) := by
  unfold tk
  split
  · exact .inl rfl
  · rename_i h
    simp only [not_or, Decidable.not_not] at h
    exact .inr ⟨by omega, h.2.1, by omega, by omega, h.2.2.2.2, rfl⟩
theorem tk_parts {n d : Int} (h : tk n d ≠ -1) : ∃ a b k : Nat, n = a ∧ d = b ∧ 1680 = b * k ∧ 0 < b ∧ 0 < k ∧ a ≤ 1000000000 ∧ Nat.gcd a b = 1 ∧ tk n d = ((a * k : Nat) : Int) := by
  rcases tk_cases n d with h1 | ⟨h1, h2, h3, h4, h5, h6⟩
  · exact absurd h1 h
  · obtain ⟨a, rfl⟩ := Int.eq_ofNat_of_zero_le h3
    obtain ⟨b, rfl⟩ := Int.eq_ofNat_of_zero_le (show 0 ≤ d by omega)
    have hb : 0 < b := by omega
    have hdv : (b : Int) ∣ 1680 := Int.dvd_of_emod_eq_zero h2
    have hdv2 : b ∣ 1680 := Int.natCast_dvd_natCast.1 (show ((b : Nat) : Int) ∣ ((1680 : Nat) : Int) from hdv)
    obtain ⟨k, hk⟩ := hdv2
    have hkp : 0 < k := by
      rcases Nat.eq_zero_or_pos k with h0 | h0
      · subst h0; omega
      · exact h0
    refine ⟨a, b, k, rfl, rfl, hk, hb, hkp, by omega, by simpa [Int.gcd] using h5, ?_⟩
    have hq : (1680 : Int) / (b : Int) = (k : Int) := by
      have h7 : (1680 : Int) = (b : Int) * (k : Int) := by rw [← Int.natCast_mul, ← hk]; rfl
      rw [h7]
      exact Int.mul_ediv_cancel_left _ (by omega)
    rw [h6, hq]
    simp
theorem tk_ge (n d : Int) : -1 ≤ tk n d := by
  by_cases h : tk n d = -1
  · omega
  · obtain ⟨a, b, k, _, _, _, _, _, _, _, h8⟩ := tk_parts h
    omega
theorem tk_le (n d : Int) : tk n d ≤ 1680000000000 := by
  by_cases h : tk n d = -1
  · omega
  · obtain ⟨a, b, k, _, _, h3, h4, _, h6, _, h8⟩ := tk_parts h
    have hk : k ≤ 1680 := by rw [h3]; exact Nat.le_mul_of_pos_left k h4
    have := Nat.mul_le_mul h6 hk
    omega
/-- The duration of a duration's 1680ths is this one. -/
theorem of_tk {n d : Int} (h : tk n d ≠ -1) : oN (tk n d).toNat = n ∧ oD (tk n d).toNat = d := by
  obtain ⟨a, b, k, rfl, rfl, h3, h4, h5, _, h7, h8⟩ := tk_parts h
  have hg : Nat.gcd (a * k) 1680 = k := by rw [h3, Nat.gcd_mul_right, h7, Nat.one_mul]
  rw [h8, Int.toNat_natCast]
  unfold oN oD
  rw [hg, Nat.mul_div_cancel _ h5]
  refine ⟨rfl, ?_⟩
  conv => lhs; rw [h3]
  rw [Nat.mul_div_cancel _ h5]
/-- How many 1680ths the duration of so many 1680ths is. -/
theorem tk_of {n : Nat} (h : n ≤ 1000000000) : tk (oN n) (oD n) = (n : Int) := by
  have hg : 0 < Nat.gcd n 1680 := Nat.gcd_pos_of_pos_right _ (by omega)
  obtain ⟨a, ha⟩ := Nat.gcd_dvd_left n 1680
  obtain ⟨b, hb⟩ := Nat.gcd_dvd_right n 1680
  have hab : Nat.gcd a b = 1 := by
    have h1 : Nat.gcd (Nat.gcd n 1680 * a) (Nat.gcd n 1680 * b) = Nat.gcd n 1680 * Nat.gcd a b := Nat.gcd_mul_left ..
    rw [← ha, ← hb] at h1
    exact (Nat.eq_of_mul_eq_mul_left hg (by rw [Nat.mul_one]; exact h1)).symm
  have ea : n / Nat.gcd n 1680 = a := Nat.div_eq_of_eq_mul_right hg ha
  have eb : 1680 / Nat.gcd n 1680 = b := Nat.div_eq_of_eq_mul_right hg hb
  unfold oN oD
  rw [ea, eb]
  generalize Nat.gcd n 1680 = g at *
  have hb0 : 0 < b := by
    rcases Nat.eq_zero_or_pos b with h0 | h0
    · subst h0; omega
    · exact h0
  have han : a ≤ n := by rw [ha]; exact Nat.le_mul_of_pos_left a hg
  have hd : (1680 : Int) = (b : Int) * (g : Int) := by rw [Int.mul_comm, ← Int.natCast_mul, ← hb]; rfl
  unfold tk
  rw [if_neg]
  · rw [hd, Int.mul_ediv_cancel_left _ (by omega)]
    have : (n : Int) = (g : Int) * (a : Int) := by rw [← Int.natCast_mul, ← ha]
    rw [this, Int.mul_comm]
  · simp only [not_or, Decidable.not_not]
    refine ⟨by omega, ?_, by omega, by omega, by simpa [Int.gcd] using hab⟩
    rw [hd]
    exact Int.mul_emod_right _ _

/-- A bar: ID, Length, Key. -/
abbrev B := Int × Int × Int × Int
def bt (b : B) : Int := tk b.2.1 b.2.2.1
def okB (b : B) : Prop := 1 ≤ b.1 ∧ b.1 ≤ 1000000 ∧ 1 ≤ bt b ∧ bt b ≤ 40320 ∧ -7 ≤ b.2.2.2 ∧ b.2.2.2 ≤ 7
instance (b : B) : Decidable (okB b) := by unfold okB; infer_instance
def before (l : List B) (k : Nat) : Int := ((l.take k).map bt).sum
theorem before_zero (l : List B) : before l 0 = 0 := rfl
theorem before_succ {l : List B} {k : Nat} (h : k < l.length) : before l (k + 1) = before l k + bt l[k] := by
  unfold before
  rw [List.take_succ_eq_append_getElem h, List.map_append, List.sum_append]
  simp
/-- Where so many 1680ths are: the bar, and what is left of them. -/
def wh : List B → Int → Option (Nat × Int)
  | [], n => if n = 0 then some (0, 0) else none
  | b :: r, n => if 0 ≤ n ∧ n < bt b then some (0, n) else (wh r (n - bt b)).map fun p => (p.1 + 1, p.2)
def pos (l : List B) (k : Nat) (t : Int) : Prop := k ≤ l.length ∧ 0 ≤ t ∧ (k = l.length → t = 0) ∧ ∀ h : k < l.length, t < bt l[k]
theorem wh_pos : ∀ {l : List B} {k : Nat} {t : Int}, (∀ b ∈ l, 1 ≤ bt b) → pos l k t → wh l (before l k + t) = some (k, t)
  | [], k, t, _, ⟨h1, h2, h3, h4⟩ => by
    obtain rfl : k = 0 := by simpa using h1
    have := h3 rfl
    subst this
    rfl
  | b :: r, 0, t, _, ⟨h1, h2, h3, h4⟩ => by
    have := h4 (by simp)
    rw [List.getElem_cons_zero] at this
    rw [before_zero, Int.zero_add, wh, if_pos ⟨h2, this⟩]
  | b :: r, k + 1, t, hb, ⟨h1, h2, h3, h4⟩ => by
    have hr : ∀ x ∈ r, 1 ≤ bt x := fun x hx => hb x (by simp [hx])
    have ih := wh_pos (l := r) (k := k) (t := t) hr ⟨by simpa using h1, h2, fun h => h3 (by simp [h]), fun h => by have := h4 (by simpa using h); simpa using this⟩
    have e : before (b :: r) (k + 1) = bt b + before r k := by unfold before; simp
    have h0 : 0 ≤ before r k := by
      unfold before
      have : ∀ l : List B, (∀ x ∈ l, 1 ≤ bt x) → 0 ≤ (l.map bt).sum := fun l => by
        induction l with
        | nil => intro _; simp
        | cons x s ih => intro h; have := ih (fun y hy => h y (by simp [hy])); have := h x (by simp); simp; omega
      exact this _ (fun x hx => hr x (List.mem_of_mem_take hx))
    rw [e, wh, if_neg (by omega), show bt b + before r k + t - bt b = before r k + t by omega, ih]
    rfl
theorem wh_some : ∀ {l : List B} {n : Int} {k : Nat} {t : Int}, (∀ b ∈ l, 1 ≤ bt b) → wh l n = some (k, t) → pos l k t ∧ before l k + t = n
  | [], n, k, t, _, h => by
    rw [wh] at h
    split at h
    · cases h
      rename_i h0
      exact ⟨⟨Nat.le_refl _, Int.le_refl _, fun _ => rfl, fun h => by simp at h⟩, by rw [before_zero]; omega⟩
    · cases h
  | b :: r, n, k, t, hb, h => by
    rw [wh] at h
    split at h
    · rename_i h0
      cases h
      exact ⟨⟨Nat.zero_le _, h0.1, fun h => by simp at h, fun _ => h0.2⟩, by rw [before_zero]; omega⟩
    · cases h2 : wh r (n - bt b) with
      | none => rw [h2] at h; cases h
      | some p =>
        obtain ⟨i, s⟩ := p
        rw [h2] at h
        cases h
        obtain ⟨⟨a1, a2, a3, a4⟩, a5⟩ := wh_some (l := r) (fun x hx => hb x (by simp [hx])) h2
        refine ⟨⟨by simpa using a1, a2, fun h => a3 (by simpa using h), fun h => by have := a4 (by simpa using h); simpa using this⟩, ?_⟩
        have e : before (b :: r) (i + 1) = bt b + before r i := by unfold before; simp
        rw [e]
        omega
end Go.Proofs.Ytahdlkdiadlgeaa.Mt

/- The walks of the smallest functions of package ratio. -/
namespace Go.Proofs.Ytahdlkdiadlgeaa
open Go.RowKit

set_option maxHeartbeats 400000 in
theorem between_yes (n a b : Int) (w : World) (h1 : a ≤ n) (h2 : n ≤ b) :
    Calls Try.prog 74 #[.int .i64 n, .int .i64 a, .int .i64 b] w fun e w' => e = .returned (.bool true) ∧ w = w' := by
  go_enter Try.func74, Try.ntmps74
  go_wp2
  go_ret
  exact ⟨rfl, rfl⟩

set_option maxHeartbeats 400000 in
theorem between_no (n a b : Int) (w : World) (h : n < a ∨ b < n) :
    Calls Try.prog 74 #[.int .i64 n, .int .i64 a, .int .i64 b] w fun e w' => e = .returned (.bool false) ∧ w = w' := by
  by_cases h1 : a ≤ n
  · have h2 : b < n := by omega
    have h3 : decide (n ≤ b) = false := by simp; omega
    clear h
    go_enter Try.func74, Try.ntmps74
    go_wp2
    go_ret
    exact ⟨rfl, rfl⟩
  · clear h
    go_enter Try.func74, Try.ntmps74
    go_wp2
    go_ret
    exact ⟨rfl, rfl⟩

def QuietInt (x : Int) (w : World) (e : Ending) (w' : World) : Prop := e = .returned (.int .i64 x) ∧ ∃ m, w' = w.drewN m

set_option maxHeartbeats 400000 in
theorem divisor_any (k : Nat) : ∀ (a b : Int) (w : World) (p : Addr), b.natAbs ≤ k → -9223372036854775807 ≤ a → a ≤ 9223372036854775807 → -9223372036854775807 ≤ b → b ≤ 9223372036854775807 →
    w.cell? p = some (.func (.func 75) #[] #[.pointer (some p)]) →
    Calls Try.prog 75 #[.int .i64 a, .int .i64 b, .pointer (some p)] w (QuietInt (Rt.tgcd a b) w) := by
  induction k with
  | zero =>
    intro a b w p hk _ _ _ _ hc
    have hb : b = 0 := by omega
    subst hb
    have e : Rt.tgcd a 0 = a := by unfold Rt.tgcd; simp
    have E := Lib.hid e; clear e hk
    go_enter Try.func75, Try.ntmps75
    go_wp2_with fail
    go_ret
    exact ⟨by rw [E.out]; rfl, 0, rfl⟩
  | succ k ih =>
    intro a b w p hk ha ha' hb hb' hc
    by_cases h0 : b = 0
    · subst h0
      have e : Rt.tgcd a 0 = a := by unfold Rt.tgcd; simp
      have E := Lib.hid e; clear e hk ih
      go_enter Try.func75, Try.ntmps75
      go_wp2_with fail
      go_ret
      exact ⟨by rw [E.out]; rfl, 0, rfl⟩
    · have e : Rt.tgcd a b = Rt.tgcd b (a.tmod b) := by rw [Rt.tgcd.eq_1 a b]; rw [if_neg h0]
      have E := Lib.hid e; clear e
      have hbb : (b == 0) = false := by simpa using h0
      have hm : (a.tmod b).natAbs < b.natAbs := by rw [Int.natAbs_tmod]; exact Nat.mod_lt _ (by omega)
      have IH := Lib.hid (fun w' hc' => ih b (a.tmod b) w' p (by omega) hb hb' (by omega) (by omega) hc')
      clear ih
      go_enter Try.func75, Try.ntmps75
      go_wp2_with fail
      go_quiet ((go_at_call 75; exact Calls.quiet_of (IH.out _ hc)))
      go_wp2_with fail
      go_ret
      exact ⟨by rw [E.out]; rfl, _, rfl⟩

end Go.Proofs.Ytahdlkdiadlgeaa

/- The walks of the reference's smallest functions: abs, gcd, Valid. -/
namespace Go.Proofs.Ytahdlkdiadlgeaa
open Go.RowKit

set_option maxHeartbeats 400000 in
theorem abs_any (n : Int) (w : World) (h : -9223372036854775807 ≤ n) (h' : n ≤ 9223372036854775807) :
    Calls Try.prog 49 #[.int .i64 n] w fun e w' => e = .returned (.int .i64 (n.natAbs : Int)) ∧ w = w' := by
  by_cases h0 : n < 0
  · have e : ((n.natAbs : Nat) : Int) = -n := by omega
    rw [e]; clear e
    go_enter Try.func49, Try.ntmps49
    go_wp2
    go_ret
    exact ⟨rfl, rfl⟩
  · have e : ((n.natAbs : Nat) : Int) = n := by omega
    rw [e]; clear e
    go_enter Try.func49, Try.ntmps49
    go_wp2
    go_ret
    exact ⟨rfl, rfl⟩

theorem gcd_step (a b : Nat) : Nat.gcd b (a % b) = Nat.gcd a b := by
  rw [Nat.gcd_comm, ← Nat.gcd_rec, Nat.gcd_comm]

set_option maxHeartbeats 400000 in
theorem gcd_any (a b : Nat) (w : World) (ha : a ≤ 9223372036854775807) (hb : b ≤ 9223372036854775807) :
    Calls Try.prog 48 #[.int .i64 a, .int .i64 b] w fun e w' => e = .returned (.int .i64 (Nat.gcd a b : Nat)) ∧ w = w' := by
  go_enter Try.func48, Try.ntmps48
  go_wp2
  go_loop [0, 1, 5] (fun s0 s1 _ => ∃ x y : Nat, x ≤ 9223372036854775807 ∧ y ≤ 9223372036854775807 ∧ s0 = .int .i64 x ∧ s1 = .int .i64 y ∧ Hid (Nat.gcd x y = Nat.gcd a b)) (fun _ s1 _ => (intOf s1).toNat)
  case atStart => exact ⟨a, b, ha, hb, rfl, rfl, Lib.hid rfl⟩
  case round =>
    obtain ⟨x, y, hx, hy, rfl, rfl, HG⟩ := hrel
    by_cases h0 : y = 0
    · subst h0
      go_wp2
      go_ret
      exact ⟨by rw [← HG.out]; simp, rfl⟩
    · have h1 : 0 < y := by omega
      have h2 : x % y < y := Nat.mod_lt _ h1
      have h3 : ¬ ((y : Int) = 0) := by omega
      have h4 : ((y : Int) != 0) = true := by simpa using h0
      go_wp2
      go_round
      case rel => exact ⟨y, x % y, by omega, by omega, rfl, by simp, Lib.hid ((gcd_step x y).trans HG.out)⟩
      case measure => simp [intOf]; omega
end Go.Proofs.Ytahdlkdiadlgeaa

/- The walks of the reference's Valid, Duration, reduce and both. -/
namespace Go.Proofs.Ytahdlkdiadlgeaa
open Go.RowKit

theorem abs_is (n k : Int) (hk : ((n.natAbs : Nat) : Int) = k) (w : World) (h : -9223372036854775807 ≤ n) (h' : n ≤ 9223372036854775807) :
    Calls Try.prog 49 #[.int .i64 n] w fun e w' => e = .returned (.int .i64 k) ∧ w = w' := by
  subst hk; exact abs_any n w h h'
theorem gcd_int (a b : Int) (w : World) (ha : 0 ≤ a) (ha' : a ≤ 9223372036854775807) (hb : 0 ≤ b) (hb' : b ≤ 9223372036854775807) :
    Calls Try.prog 48 #[.int .i64 a, .int .i64 b] w fun e w' => e = .returned (.int .i64 (Int.gcd a b : Nat)) ∧ w = w' := by
  have h := gcd_any a.natAbs b.natAbs w (by omega) (by omega)
  rw [Int.natAbs_of_nonneg ha, Int.natAbs_of_nonneg hb] at h
  exact h

set_option maxHeartbeats 400000 in
theorem rvalid_lim (n d : Int) (w : World) (h : Rt.lim n d = true) :
    Calls Try.prog 23 #[.agg #[.int .i64 n, .int .i64 d]] w fun e w' => e = .returned (.bool (((Int.gcd n d : Nat) : Int) == 1)) ∧ Below w.heap.size w w' := by
  obtain ⟨h1, h2, h3, h4⟩ := Rt.lim_iff.1 h
  clear h
  have e0 : Int.gcd ((n.natAbs : Nat) : Int) d = Int.gcd n d := by simp [Int.gcd]
  have E := Lib.hid e0; clear e0
  have C : ∀ w', Calls Try.prog 48 #[.int .i64 ((n.natAbs : Nat) : Int), .int .i64 d] w' fun e w'' => e = .returned (.int .i64 (Int.gcd n d : Nat)) ∧ w' = w'' := by
    intro w'
    rw [← E.out]
    exact gcd_int _ _ w' (by omega) (by omega) (by omega) (by omega)
  have CH := Lib.hid C; clear C
  go_enter Try.func23, Try.ntmps23
  go_wp2_with fail
  go_quiet ((first | (go_at_call 49; exact quiet_left (abs_any n _ (by omega) (by omega))) | (go_at_call 48; exact quiet_left (CH.out _))))
  go_wp2_with fail
  go_ret
  exact ⟨rfl, below_drewN (by go_grown) _⟩

set_option maxHeartbeats 400000 in
theorem rvalid_out (n d : Int) (w : World) (h : Rt.lim n d = false) :
    Calls Try.prog 23 #[.agg #[.int .i64 n, .int .i64 d]] w fun e w' => e = .returned (.bool false) ∧ Below w.heap.size w w' := by
  have h' := Rt.lim_no h
  clear h
  by_cases a1 : d < 1
  · clear h'
    go_enter Try.func23, Try.ntmps23
    go_wp2_with fail
    go_ret
    exact ⟨rfl, by go_grown⟩
  · by_cases a2 : 1000000 < d
    · clear h'
      go_enter Try.func23, Try.ntmps23
      go_wp2_with fail
      go_ret
      exact ⟨rfl, by go_grown⟩
    · by_cases a3 : n < -1000000000
      · clear h'
        go_enter Try.func23, Try.ntmps23
        go_wp2_with fail
        go_ret
        exact ⟨rfl, by go_grown⟩
      · have a4 : 1000000000 < n := by omega
        clear h'
        go_enter Try.func23, Try.ntmps23
        go_wp2_with fail
        go_ret
        exact ⟨rfl, by go_grown⟩

theorem rvalid_any (n d : Int) (w : World) :
    Calls Try.prog 23 #[.agg #[.int .i64 n, .int .i64 d]] w fun e w' => e = .returned (.bool (Rt.vld n d)) ∧ Below w.heap.size w w' := by
  by_cases h : Rt.lim n d = true
  · have e : Rt.vld n d = (((Int.gcd n d : Nat) : Int) == 1) := by
      unfold Rt.vld; rw [h, Bool.true_and, Bool.eq_iff_iff]; simp; omega
    rw [e]; exact rvalid_lim n d w h
  · have h' : Rt.lim n d = false := by simpa using h
    have e : Rt.vld n d = false := by unfold Rt.vld; rw [h']; rfl
    rw [e]; exact rvalid_out n d w h'
theorem rvalid_is (n d : Int) (b : Bool) (hb : Rt.vld n d = b) (w : World) :
    Calls Try.prog 23 #[.agg #[.int .i64 n, .int .i64 d]] w fun e w' => e = .returned (.bool b) ∧ Below w.heap.size w w' := by
  subst hb; exact rvalid_any n d w

/-- Is it a duration? -/
def Rt.dur (n d : Int) : Bool := Rt.vld n d && decide (0 ≤ n) && decide ((1680 : Int) % d = 0)

end Go.Proofs.Ytahdlkdiadlgeaa
