/- A plain fact on changed bytes. -/
import Derived.Test.YtnnhpbkhfaaaeaaCu
namespace Go.Proofs.Ytnnhpbkhfaaaeaa
theorem xor_self0 {x y : Nat} (h : x ^^^ y = x) : y = 0 := by
  have h1 : x ^^^ (x ^^^ y) = x ^^^ x := by rw [h]
  rwa [← Nat.xor_assoc, Nat.xor_self, Nat.zero_xor] at h1
end Go.Proofs.Ytnnhpbkhfaaaeaa
