/- Plain facts on digests, and on the texts of integers; nothing of the program is read here. -/
import Derived.Test.YtnnhpbkhfaaaeaaHelp
import Derived.Lib.ItoaNum
import Derived.Lib.ItoaMem
namespace Go.Proofs.Ytnnhpbkhfaaaeaa.Dg

/-- A digest, carried on by one byte. -/
def stp (d x : Nat) : Nat := (d ^^^ x) * 1099511628211 % 18446744073709551616
def fnv (d : Nat) (l : List Nat) : Nat := l.foldl stp d
def beg : Nat := 14695981039346656037
def sum (l : List Nat) : Nat := fnv beg l
theorem stp_lt (d x : Nat) : stp d x < 18446744073709551616 := Nat.mod_lt _ (by omega)
theorem fnv_app (d : Nat) (a b : List Nat) : fnv d (a ++ b) = fnv (fnv d a) b := List.foldl_append ..
theorem fnv_one (d x : Nat) : fnv d [x] = stp d x := by unfold fnv; rw [List.foldl_cons, List.foldl_nil]
theorem fnv_cons (d x : Nat) (r : List Nat) : fnv d (x :: r) = fnv (stp d x) r := by unfold fnv; rw [List.foldl_cons]
theorem fnv_lt {d : Nat} (h : d < 18446744073709551616) (l : List Nat) : fnv d l < 18446744073709551616 := by
  induction l generalizing d with
  | nil => exact h
  | cons x r ih => rw [fnv_cons]; exact ih (stp_lt d x)
theorem sum_lt (l : List Nat) : sum l < 18446744073709551616 := fnv_lt (by decide) l
theorem sum_app (a b : List Nat) : sum (a ++ b) = fnv (sum a) b := fnv_app _ _ _
/-- The prime is odd: what is multiplied by it can be told. -/
theorem mul_inj {a b : Nat} (ha : a < 18446744073709551616) (hb : b < 18446744073709551616) (h : a * 1099511628211 % 18446744073709551616 = b * 1099511628211 % 18446744073709551616) : a = b := by
  have hq : ∀ c : Nat, c < 18446744073709551616 → (c * 1099511628211 % 18446744073709551616) * 14886173955864302971 % 18446744073709551616 = c := fun c hc => by
    rw [Nat.mul_mod, Nat.mod_mod, ← Nat.mul_mod, Nat.mul_assoc, Nat.mul_mod]
    have : 1099511628211 * 14886173955864302971 % 18446744073709551616 = 1 := by decide
    rw [this, Nat.mul_one, Nat.mod_mod, Nat.mod_eq_of_lt hc]
  have h1 := hq a ha
  rw [h, hq b hb] at h1
  exact h1.symm
theorem xor_lt {d x : Nat} (hd : d < 18446744073709551616) (hx : x < 256) : d ^^^ x < 18446744073709551616 := Nat.xor_lt_two_pow (n := 64) hd (by omega)
theorem xor_left {a b c : Nat} (h : a ^^^ b = a ^^^ c) : b = c := by
  have e : a ^^^ (a ^^^ b) = a ^^^ (a ^^^ c) := by rw [h]
  rwa [← Nat.xor_assoc, ← Nat.xor_assoc, Nat.xor_self, Nat.zero_xor, Nat.zero_xor] at e
theorem xor_right {a b c : Nat} (h : b ^^^ a = c ^^^ a) : b = c := by
  rw [Nat.xor_comm b, Nat.xor_comm c] at h
  exact xor_left h
theorem stp_inj {d e x : Nat} (hd : d < 18446744073709551616) (he : e < 18446744073709551616) (hx : x < 256) (h : stp d x = stp e x) : d = e :=
  xor_right (mul_inj (xor_lt hd hx) (xor_lt he hx) h)
theorem stp_ne {d x y : Nat} (hd : d < 18446744073709551616) (hx : x < 256) (hy : y < 256) (h : stp d x = stp d y) : x = y :=
  xor_left (mul_inj (xor_lt hd hx) (xor_lt hd hy) h)
/-- Different digests stay different behind the same bytes. -/
theorem fnv_inj {d e : Nat} {l : List Nat} (hd : d < 18446744073709551616) (he : e < 18446744073709551616) (hl : ∀ x ∈ l, x < 256) (h : fnv d l = fnv e l) : d = e := by
  induction l generalizing d e with
  | nil => exact h
  | cons x r ih => rw [fnv_cons, fnv_cons] at h; exact stp_inj hd he (hl x (by simp)) (ih (stp_lt _ _) (stp_lt _ _) (fun y hy => hl y (by simp [hy])) h)
/-- Bytes that differ in one place have another digest. -/
theorem fnv_place {d x y : Nat} {a b : List Nat} (hd : d < 18446744073709551616) (hx : x < 256) (hy : y < 256) (hb : ∀ z ∈ b, z < 256) (h : fnv d (a ++ x :: b) = fnv d (a ++ y :: b)) : x = y := by
  rw [fnv_app, fnv_app, fnv_cons, fnv_cons] at h
  exact stp_ne (fnv_lt hd a) hx hy (fnv_inj (stp_lt _ _) (stp_lt _ _) hb h)

/-- The text of an integer. -/
def dec (n : Int) : List Nat := (Lib.itoa n).map UInt8.toNat
/-- The eight bytes of a number. -/
def be8 (d : Nat) : List Nat := [d / 72057594037927936 % 256, d / 281474976710656 % 256, d / 1099511627776 % 256, d / 4294967296 % 256, d / 16777216 % 256, d / 65536 % 256, d / 256 % 256, d % 256]
def txs (l : List Int) : List Nat := l.flatMap fun n => dec n ++ [32]
def txt (d : Nat) (l : List Int) : List Nat := be8 d ++ txs l
def next (d : Nat) (l : List Int) : Nat := sum (txt d l)
def chain (l : List (List Int)) : Nat := l.foldl (fun d x => next d ((x.length : Int) :: x)) beg
theorem dec_lt (n : Int) : ∀ x ∈ dec n, x < 256 := fun x hx => by
  obtain ⟨y, _, rfl⟩ := List.mem_map.1 hx
  exact y.toNat_lt
theorem txs_lt (l : List Int) : ∀ x ∈ txs l, x < 256 := fun x hx => by
  obtain ⟨n, _, h⟩ := List.mem_flatMap.1 hx
  rcases List.mem_append.1 h with h | h
  · exact dec_lt n x h
  · simp at h; omega
theorem txs_app (a b : List Int) : txs (a ++ b) = txs a ++ txs b := List.flatMap_append ..
theorem txs_cons (n : Int) (b : List Int) : txs (n :: b) = dec n ++ ([32] ++ txs b) := by unfold txs; rw [List.flatMap_cons, List.append_assoc]
theorem next_lt (d : Nat) (l : List Int) : next d l < 18446744073709551616 := sum_lt _
theorem chain_lt (l : List (List Int)) : chain l < 18446744073709551616 := by
  unfold chain
  have : ∀ (l : List (List Int)) (d : Nat), d < 18446744073709551616 → l.foldl (fun d x => next d ((x.length : Int) :: x)) d < 18446744073709551616 := fun l => by
    induction l with
    | nil => exact fun d h => h
    | cons x r ih => exact fun d _ => ih _ (next_lt _ _)
  exact this l _ (by decide)
theorem chain_app (a b : List (List Int)) : chain (a ++ b) = b.foldl (fun d x => next d ((x.length : Int) :: x)) (chain a) := List.foldl_append ..
theorem chain_last (a : List (List Int)) (x : List Int) : chain (a ++ [x]) = next (chain a) ((x.length : Int) :: x) := by rw [chain_app, List.foldl_cons, List.foldl_nil]
/-- An integer that is not negative: all digits but the last one, and this one. -/
theorem dec_nat (n : Nat) : ∃ a, ∀ k, k < 10 → dec ((n / 10 * 10 + k : Nat) : Int) = a ++ [48 + k] := by
  by_cases h : n / 10 = 0
  · refine ⟨[], fun k hk => ?_⟩
    rw [h]
    unfold dec
    rw [Lib.itoa_nonneg, Lib.decDigits_one (by omega)]
    simp
    omega
  · refine ⟨(Lib.decDigits (n / 10)).map UInt8.toNat, fun k hk => ?_⟩
    unfold dec
    rw [Lib.itoa_nonneg, Lib.decDigits, dif_neg (by omega), List.map_append]
    rw [show (n / 10 * 10 + k) / 10 = n / 10 by omega, show (n / 10 * 10 + k) % 10 = k by omega]
    congr 1
    simp
    omega
/-- Another last digit: another text, in one place. -/
theorem dec_turned {n : Int} (h0 : 0 ≤ n) {k : Int} (k0 : 0 ≤ k) (k1 : k < 10) : ∃ a, dec n = a ++ [48 + (n % 10).toNat] ∧ dec (n - n % 10 + k) = a ++ [48 + k.toNat] := by
  obtain ⟨a, ha⟩ := dec_nat n.toNat
  have h1 := ha (n % 10).toNat (by omega)
  have h2 := ha k.toNat (by omega)
  have e1 : ((n.toNat / 10 * 10 + (n % 10).toNat : Nat) : Int) = n := by omega
  have e2 : ((n.toNat / 10 * 10 + k.toNat : Nat) : Int) = n - n % 10 + k := by omega
  rw [e1] at h1
  rw [e2] at h2
  exact ⟨a, h1, h2⟩
/-- If the last digit of one integer is another one, it is another digest. -/
theorem next_turned {d : Nat} {a b : List Int} {n k : Int} (h0 : 0 ≤ n) (k0 : 0 ≤ k) (k1 : k < 10) (hk : k ≠ n % 10) : next d (a ++ n :: b) ≠ next d (a ++ (n - n % 10 + k) :: b) := fun h => by
  obtain ⟨t, h1, h2⟩ := dec_turned h0 k0 k1
  unfold next txt at h
  rw [txs_app, txs_app, txs_cons, txs_cons, h1, h2] at h
  have e : ∀ x, be8 d ++ (txs a ++ (t ++ [x] ++ ([32] ++ txs b))) = (be8 d ++ txs a ++ t) ++ x :: ([32] ++ txs b) := fun x => by simp
  rw [e, e] at h
  have := fnv_place (d := beg) (by decide) (by omega) (by omega) (fun z hz => by
    rcases List.mem_append.1 hz with hz | hz
    · simp at hz; omega
    · exact txs_lt b z hz) h
  omega
end Go.Proofs.Ytnnhpbkhfaaaeaa.Dg
