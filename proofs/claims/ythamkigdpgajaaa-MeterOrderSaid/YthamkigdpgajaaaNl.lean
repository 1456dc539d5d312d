/- The contracts of the meter and of the reference, letter by letter. -/
import Derived.Test.YthamkigdpgajaaaMh
import Derived.Test.YthamkigdpgajaaaMq
import Derived.Test.YthamkigdpgajaaaLw
namespace Go.Proofs.Ythamkigdpgajaaa
open Go.RowKit

namespace Mt
theorem iff_tt {p : Prop} (h : p) : true = true ↔ p := ⟨fun _ => h, fun _ => rfl⟩
theorem iff_ff {p : Prop} (h : ¬ p) : false = true ↔ p := ⟨(fun e => Bool.noConfusion e), fun e => absurd e h⟩
/-- A position and an error, as Where and Shift return them. -/
def pC (c : Bool) (O : Option (Nat × Int)) : Int × Int × Int × Int := if c = true then pR O else (0, 0, 0, 1)
end Mt
theorem PosP.ltc {c : Bool} {O : Option (Nat × Int)} {X Y Z E : Int} (h : Mt.pC c O = (X, Y, Z, E)) (e : Ending) : PosP c O e ↔ e = .returned (.tuple #[.agg #[.int .i64 X, .int .i64 Y, .int .i64 Z], .int .i64 E]) := by
  cases c with
  | true => exact PosP.lt h e
  | false => simp only [Mt.pC, Bool.false_eq_true, if_false, Prod.mk.injEq] at h; obtain ⟨rfl, rfl, rfl, rfl⟩ := h; exact Iff.rfl
theorem mtotal_lt (l : List Mt.B) (g : Bool) (X Y E : Int) (len cap : Nat) (A : Option Addr) (hv : g = true ↔ Mt.Val l) (hR : Mt.rR g (Mt.totN l) (Mt.totD l) = (X, Y, E)) (hl : l.length = len) (hwf : Mt.Wf l) (w : World) (hL : SlB w A l) :
    Calls Try.prog 11 #[.slice A len cap] w fun e w' => e = .returned (.tuple #[.agg #[.int .i64 X, .int .i64 Y], .int .i64 E]) ∧ Below w.heap.size w w' :=
  (mtotal_is l g _ _ len cap A hv rfl rfl hl hwf w hL).mono fun e _ h => ⟨(RatP.lt hR e).1 h.1, h.2⟩
theorem mtime_lt (l : List Mt.B) (b n d : Int) (g p : Bool) (X Y E : Int) (len cap : Nat) (A : Option Addr) (hv : g = true ↔ Mt.Val l) (hp : Mt.posB l b n d = p) (hR : Mt.rR (g && p) (Mt.oN (Mt.before l b.toNat + Mt.tk n d).toNat) (Mt.oD (Mt.before l b.toNat + Mt.tk n d).toNat) = (X, Y, E)) (hl : l.length = len) (hwf : Mt.Wf l) (w : World) (hL : SlB w A l) :
    Calls Try.prog 15 #[.slice A len cap, .agg #[.int .i64 b, .int .i64 n, .int .i64 d]] w fun e w' => e = .returned (.tuple #[.agg #[.int .i64 X, .int .i64 Y], .int .i64 E]) ∧ Below w.heap.size w w' :=
  (mtime_is l b n d g p _ _ len cap A hv hp rfl rfl hl hwf w hL).mono fun e _ h => ⟨(RatP.lt hR e).1 h.1, h.2⟩
theorem mwhere_lt (l : List Mt.B) (n d : Int) (g q : Bool) (X Y Z E : Int) (len cap : Nat) (A : Option Addr) (hv : g = true ↔ Mt.Val l) (hq : decide (0 ≤ Mt.tk n d) = q) (hR : Mt.pC (g && q) (Mt.wh l (Mt.tk n d)) = (X, Y, Z, E)) (hl : l.length = len) (hwf : Mt.Wf l) (w : World) (hL : SlB w A l) :
    Calls Try.prog 17 #[.slice A len cap, .agg #[.int .i64 n, .int .i64 d]] w fun e w' => e = .returned (.tuple #[.agg #[.int .i64 X, .int .i64 Y, .int .i64 Z], .int .i64 E]) ∧ Below w.heap.size w w' :=
  (mwhere_is l n d g q _ len cap A hv hq rfl hl hwf w hL).mono fun e _ h => ⟨(PosP.ltc hR e).1 h.1, h.2⟩
theorem mshift_lt (l : List Mt.B) (b n d bn bd : Int) (g p q : Bool) (X Y Z E : Int) (len cap : Nat) (A : Option Addr) (hv : g = true ↔ Mt.Val l) (hp : Mt.posB l b n d = p) (hq : (Mt.byT bn bd).isSome = q) (hR : Mt.pC (g && p && q) (Mt.shO l b n d bn bd) = (X, Y, Z, E)) (hl : l.length = len) (hwf : Mt.Wf l) (hbn : -9223372036854775808 ≤ bn ∧ bn ≤ 9223372036854775807) (w : World) (hL : SlB w A l) :
    Calls Try.prog 19 #[.slice A len cap, .agg #[.int .i64 b, .int .i64 n, .int .i64 d], .agg #[.int .i64 bn, .int .i64 bd]] w fun e w' => e = .returned (.tuple #[.agg #[.int .i64 X, .int .i64 Y, .int .i64 Z], .int .i64 E]) ∧ Below w.heap.size w w' :=
  (mshift_is l b n d bn bd g p q _ len cap A hv hp hq rfl hl hwf hbn w hL).mono fun e _ h => ⟨(PosP.ltc hR e).1 h.1, h.2⟩
theorem ktotal_lt (l : List Mt.B) (g : Bool) (X Y E : Int) (len cap : Nat) (A : Option Addr) (hv : g = true ↔ Mt.Val l) (hR : Mt.rR g (Mt.totN l) (Mt.totD l) = (X, Y, E)) (hl : l.length = len) (w : World) (hL : SlB w A l) :
    Calls Try.prog 12 #[.slice A len cap] w fun e w' => e = .returned (.tuple #[.agg #[.int .i64 X, .int .i64 Y], .int .i64 E]) ∧ Below w.heap.size w w' :=
  (ktotal_is l g _ _ len cap A hv rfl rfl hl w hL).mono fun e _ h => ⟨(RatP.lt hR e).1 h.1, h.2⟩
theorem ktime_lt (l : List Mt.B) (b n d : Int) (g p : Bool) (X Y E : Int) (len cap : Nat) (A : Option Addr) (hv : g = true ↔ Mt.Val l) (hp : Mt.posB l b n d = p) (hR : Mt.rR (g && p) (Mt.oN (Mt.before l b.toNat + Mt.tk n d).toNat) (Mt.oD (Mt.before l b.toNat + Mt.tk n d).toNat) = (X, Y, E)) (hl : l.length = len) (w : World) (hL : SlB w A l) :
    Calls Try.prog 16 #[.slice A len cap, .agg #[.int .i64 b, .int .i64 n, .int .i64 d]] w fun e w' => e = .returned (.tuple #[.agg #[.int .i64 X, .int .i64 Y], .int .i64 E]) ∧ Below w.heap.size w w' :=
  (ktime_is l b n d g p _ _ len cap A hv hp rfl rfl hl w hL).mono fun e _ h => ⟨(RatP.lt hR e).1 h.1, h.2⟩
theorem kwhere_lt (l : List Mt.B) (n d : Int) (g q : Bool) (X Y Z E : Int) (len cap : Nat) (A : Option Addr) (hv : g = true ↔ Mt.Val l) (hq : decide (0 ≤ Mt.tk n d) = q) (hR : Mt.pC (g && q) (Mt.wh l (Mt.tk n d)) = (X, Y, Z, E)) (hl : l.length = len) (w : World) (hL : SlB w A l) :
    Calls Try.prog 18 #[.slice A len cap, .agg #[.int .i64 n, .int .i64 d]] w fun e w' => e = .returned (.tuple #[.agg #[.int .i64 X, .int .i64 Y, .int .i64 Z], .int .i64 E]) ∧ Below w.heap.size w w' :=
  (kwhere_is l n d g q _ len cap A hv hq rfl hl w hL).mono fun e _ h => ⟨(PosP.ltc hR e).1 h.1, h.2⟩
theorem kshift_lt (l : List Mt.B) (b n d bn bd : Int) (g p q : Bool) (X Y Z E : Int) (len cap : Nat) (A : Option Addr) (hv : g = true ↔ Mt.Val l) (hp : Mt.posB l b n d = p) (hq : (Mt.byT bn bd).isSome = q) (hR : Mt.pC (g && p && q) (Mt.shO l b n d bn bd) = (X, Y, Z, E)) (hl : l.length = len) (hbn : -9223372036854775808 ≤ bn ∧ bn ≤ 9223372036854775807) (w : World) (hL : SlB w A l) :
    Calls Try.prog 20 #[.slice A len cap, .agg #[.int .i64 b, .int .i64 n, .int .i64 d], .agg #[.int .i64 bn, .int .i64 bd]] w fun e w' => e = .returned (.tuple #[.agg #[.int .i64 X, .int .i64 Y, .int .i64 Z], .int .i64 E]) ∧ Below w.heap.size w w' :=
  (kshift_is l b n d bn bd g p q _ len cap A hv hp hq rfl hl hbn w hL).mono fun e _ h => ⟨(PosP.ltc hR e).1 h.1, h.2⟩
end Go.Proofs.Ythamkigdpgajaaa
