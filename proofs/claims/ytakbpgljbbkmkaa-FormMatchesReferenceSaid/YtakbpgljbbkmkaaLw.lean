/- Variables that are carried over stores into other variables. -/
import Derived.Test.YtakbpgljbbkmkaaHelp
namespace Go.Proofs.Ytakbpgljbbkmkaa
open Go.RowKit

theorem set_cell_ne (w : World) (b c k j : Nat) (v : Value) (h : b ≠ c) : (w.setCell ⟨c, k, none⟩ v).cell? ⟨b, j, none⟩ = w.cell? ⟨b, j, none⟩ :=
  World.cell?_of_block (w := w) (a := ⟨b, j, none⟩) (Below.heap_setCell w ⟨c, k, none⟩ v b h)
theorem set_frozen_ne (w : World) (b c k j : Nat) (v : Value) (h : b ≠ c) : (w.setCell ⟨c, k, none⟩ v).frozen? ⟨b, j, none⟩ = w.frozen? ⟨b, j, none⟩ :=
  World.frozen?_of_block (w := w) (a := ⟨b, j, none⟩) (Below.heap_setCell w ⟨c, k, none⟩ v b h)
theorem At2.ne {w : World} {b : Nat} {x y : Int} (h : At2 w b x y) (c k : Nat) (v : Value) (hn : b ≠ c) : At2 (w.setCell ⟨c, k, none⟩ v) b x y :=
  ⟨by simpa using h.lt, (set_cell_ne _ _ _ _ _ _ hn).trans h.c0, (set_cell_ne _ _ _ _ _ _ hn).trans h.c1⟩
theorem At3.ne {w : World} {b : Nat} {x y z : Int} (h : At3 w b x y z) (c k : Nat) (v : Value) (hn : b ≠ c) : At3 (w.setCell ⟨c, k, none⟩ v) b x y z :=
  ⟨by simpa using h.lt, (set_cell_ne _ _ _ _ _ _ hn).trans h.c0, (set_cell_ne _ _ _ _ _ _ hn).trans h.c1, (set_cell_ne _ _ _ _ _ _ hn).trans h.c2⟩
theorem Var2.ne {w : World} {b : Nat} {x y : Int} (h : Var2 w b x y) (c k : Nat) (v : Value) (hn : b ≠ c) : Var2 (w.setCell ⟨c, k, none⟩ v) b x y :=
  ⟨h.at2.ne c k v hn, (set_frozen_ne _ _ _ _ _ _ hn).trans h.f0, (set_frozen_ne _ _ _ _ _ _ hn).trans h.f1⟩
theorem Var3.ne {w : World} {b : Nat} {x y z : Int} (h : Var3 w b x y z) (c k : Nat) (v : Value) (hn : b ≠ c) : Var3 (w.setCell ⟨c, k, none⟩ v) b x y z :=
  ⟨h.at3.ne c k v hn, (set_frozen_ne _ _ _ _ _ _ hn).trans h.f0, (set_frozen_ne _ _ _ _ _ _ hn).trans h.f1, (set_frozen_ne _ _ _ _ _ _ hn).trans h.f2⟩
theorem Var2.put {w : World} {b : Nat} {x y : Int} (h : Var2 w b x y) (p q : Int) : Var2 ((w.setCell ⟨b, 0, none⟩ (.int .i64 p)).setCell ⟨b, 1, none⟩ (.int .i64 q)) b p q := by
  obtain ⟨⟨l, c0, c1⟩, f0, f1⟩ := h
  refine ⟨⟨?_, ?_, ?_⟩, ?_, ?_⟩
  · simpa using l
  all_goals go_simp
theorem Var3.put {w : World} {b : Nat} {x y z : Int} (h : Var3 w b x y z) (p q r : Int) : Var3 (((w.setCell ⟨b, 0, none⟩ (.int .i64 p)).setCell ⟨b, 1, none⟩ (.int .i64 q)).setCell ⟨b, 2, none⟩ (.int .i64 r)) b p q r := by
  obtain ⟨⟨l, c0, c1, c2⟩, f0, f1, f2⟩ := h
  refine ⟨⟨?_, ?_, ?_, ?_⟩, ?_, ?_, ?_⟩
  · simpa using l
  all_goals go_simp
end Go.Proofs.Ytakbpgljbbkmkaa
