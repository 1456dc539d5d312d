/- The table of powers of ten, and the library's texts of integers. -/
import Derived.Test.YtmpimbolhjmapaaDoorDn
import Derived.Test.YtmpimbolhjmapaaDoorGs
import Derived.Test.YtmpimbolhjmapaaDoorShelf
import Derived.Lib.OthersKept
import Derived.Lib.AppendIntMem
namespace Go.Proofs.YtmpimbolhjmapaaDoor
open Go.RowKit

theorem gPow : Tryd.prog.globalNamed "internal/strconv.uint64pow10" = some 0 := by kernel_rfl
/-- What the table holds that is read. -/
structure GK (w : World) : Prop where
  lt : 0 < w.heap.size
  pow : Lib.TabIs Tryd.prog w "internal/strconv.uint64pow10" .u64 Lib.pow10Tab
theorem GK.below {w w' : World} (h : GK w) (hb : Below w.heap.size w w') : GK w' :=
  ⟨Nat.lt_of_lt_of_le h.lt hb.size, var?_below hb gPow h.lt h.pow⟩
theorem GK.alloc {w : World} (h : GK w) (o : Obj) : GK (w.alloc o) := h.below ((Below.refl _ _).alloc (Nat.le_refl _) _)
theorem ditoa_is (n : Int) (S : ByteArray) (l0 : -9223372036854775808 ≤ n) (l1 : n ≤ 9223372036854775807) (hS : ⟨(Lib.itoa n).toArray⟩ = S) (w : World) (hG : GK w) :
    Calls Tryd.prog 20 #[.int .i64 n] w fun e w' => e = .returned (.string S) ∧ Below w.heap.size w w' := by
  subst hS
  refine (Tryd.strconv_Itoa n l0 l1 w hG.pow).mono ?_
  rintro e w' ⟨rfl, k, os, rfl⟩
  exact ⟨rfl, Lib.below_grow _ _ (Nat.le_refl _) _ _⟩
end Go.Proofs.YtmpimbolhjmapaaDoor
