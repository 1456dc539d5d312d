/- Plain facts on what ratio makes of two numbers. -/
import Derived.Test.YthamkigdpgajaaaRval
namespace Go.Proofs.Ythamkigdpgajaaa
open Go.RowKit

/-- What an operator makes of two ratios: the numbers of the result, and its error. -/
def Rt.opE (ok : Bool) (x y : Int) : Int := if ok = true then Rt.redE x y else 1
def Rt.opN (ok : Bool) (x y : Int) : Int := if ok = true then Rt.redN x y else 0
def Rt.opD (ok : Bool) (x y : Int) : Int := if ok = true then Rt.redD x y else 0
theorem Rt.op_yes (x y : Int) : Rt.opE true x y = Rt.redE x y ∧ Rt.opN true x y = Rt.redN x y ∧ Rt.opD true x y = Rt.redD x y := ⟨rfl, rfl, rfl⟩
theorem Rt.op_no (x y : Int) : Rt.opE false x y = 1 ∧ Rt.opN false x y = 0 ∧ Rt.opD false x y = 0 := ⟨rfl, rfl, rfl⟩

theorem mul_in (a b A B : Int) (h1 : -A ≤ a) (h2 : a ≤ A) (h3 : -B ≤ b) (h4 : b ≤ B) : -(A * B) ≤ a * b ∧ a * b ≤ A * B := by
  have h : (a * b).natAbs ≤ (A * B).natAbs := by
    rw [Int.natAbs_mul, Int.natAbs_mul]; exact Nat.mul_le_mul (by omega) (by omega)
  have h5 : 0 ≤ A * B := Int.mul_nonneg (by omega) (by omega)
  omega
theorem muls_in (a b c d : Int) (h1 : -1000000000 ≤ a) (h2 : a ≤ 1000000000) (h3 : 1 ≤ b) (h4 : b ≤ 1000000) (h5 : -1000000000 ≤ c) (h6 : c ≤ 1000000000) (h7 : 1 ≤ d) (h8 : d ≤ 1000000) :
    (-1000000000000000 ≤ a * d ∧ a * d ≤ 1000000000000000) ∧ (-1000000000000000 ≤ c * b ∧ c * b ≤ 1000000000000000) ∧ (-1000000000000 ≤ b * d ∧ b * d ≤ 1000000000000) ∧
    (-1000000000000000000 ≤ a * c ∧ a * c ≤ 1000000000000000000) ∧ (-1000000000000000 ≤ b * c ∧ b * c ≤ 1000000000000000) := by
  have p1 := mul_in a d 1000000000 1000000 h1 h2 (by omega) h8
  have p3 := mul_in c b 1000000000 1000000 h5 h6 (by omega) h4
  have p5 := mul_in b d 1000000 1000000 (by omega) h4 (by omega) h8
  have p7 := mul_in a c 1000000000 1000000000 h1 h2 h5 h6
  have p9 := mul_in b c 1000000 1000000000 (by omega) h4 h5 h6
  omega

end Go.Proofs.Ythamkigdpgajaaa
