/- Plain facts on frames; nothing of the program is read here. -/
import Derived.Test.YtnnhpbkhfaaaeaaCf
import Derived.Test.YtnnhpbkhfaaaeaaSl
namespace Go.Proofs.Ytnnhpbkhfaaaeaa.Cd
open Go.Proofs.Ytnnhpbkhfaaaeaa.Dg

theorem be8_len (d : Nat) : (be8 d).length = 8 := rfl
theorem be8_by8 (d : Nat) : by8 (be8 d) := fun x hx => by
  simp [be8] at hx
  omega
theorem be8_inj {d e : Nat} (hd : d < 18446744073709551616) (he : e < 18446744073709551616) (h : be8 d = be8 e) : d = e := by
  simp only [be8, List.cons.injEq, and_true] at h
  omega
def hd3 (n : Nat) : List Nat := [n / 65536, n / 256 % 256, n % 256]
/-- A frame: how many bytes, these, and their digest. -/
def body (l : List Int) : List Nat := hd3 (put l).length ++ put l
def frame (l : List Int) : List Nat := body l ++ be8 (sum (body l))
theorem body_len (l : List Int) : (body l).length = 3 + (put l).length := by unfold body hd3; simp; omega
theorem frame_len (l : List Int) : (frame l).length = (put l).length + 11 := by unfold frame; rw [List.length_append, body_len, be8_len]; omega
theorem put_small {l : List Int} (h : ok l) : (put l).length < 16777216 := by have := put_len h.2 h.1; have := h.1; omega
theorem body_by8 {l : List Int} (h : ok l) : by8 (body l) := by
  have := put_small h
  refine by8.app (fun x hx => ?_) (put_by8 l)
  simp [hd3] at hx
  omega
theorem frame_by8 {l : List Int} (h : ok l) : by8 (frame l) := by8.app (body_by8 h) (be8_by8 _)
/-- How many bytes the first three say. -/
def says (b : List Nat) : Nat := atN b 0 * 65536 + atN b 1 * 256 + atN b 2
def whole (b : List Nat) : Option (List Int × Nat) :=
  if b.length < 11 then none
  else if b.length < says b + 11 then none
  else if be8 (sum (b.take (3 + says b))) = (b.drop (3 + says b)).take 8 then (get ((b.drop 3).take (says b))).map fun l => (l, says b + 11)
  else none
theorem says_frame {l : List Int} (h : ok l) (rest : List Nat) : says (frame l ++ rest) = (put l).length := by
  have := put_small h
  unfold says frame body hd3 atN
  simp
  omega
theorem whole_frame {l : List Int} (h : ok l) (rest : List Nat) : whole (frame l ++ rest) = some (l, (frame l).length) := by
  unfold whole
  have hf := frame_len l
  rw [says_frame h, if_neg (by rw [List.length_append]; omega), if_neg (by rw [List.length_append]; omega)]
  have e1 : (frame l ++ rest).take (3 + (put l).length) = body l := by
    unfold frame
    rw [List.append_assoc, List.take_left' (body_len l)]
  have e2 : ((frame l ++ rest).drop (3 + (put l).length)).take 8 = be8 (sum (body l)) := by
    unfold frame
    rw [List.append_assoc, List.drop_left' (body_len l), List.take_left' (be8_len _)]
  have e3 : ((frame l ++ rest).drop 3).take (put l).length = put l := by
    unfold frame body
    rw [List.append_assoc, List.append_assoc, show ∀ (n : Nat) (t : List Nat), (hd3 n ++ t).drop 3 = t from fun _ _ => rfl, List.take_left' rfl]
  rw [e1, e2, if_pos rfl, e3, get_put h, hf]
  rfl
theorem whole_some {b : List Nat} {l : List Int} {k : Nat} (h : whole b = some (l, k)) (hb : by8 b) : ok l ∧ k = (frame l).length ∧ k ≤ b.length ∧ b = frame l ++ b.drop k ∧ (put l).length = says b := by
  unfold whole at h
  by_cases h1 : b.length < 11
  · rw [if_pos h1] at h; cases h
  rw [if_neg h1] at h
  by_cases h2 : b.length < says b + 11
  · rw [if_pos h2] at h; cases h
  rw [if_neg h2] at h
  by_cases h3 : be8 (sum (b.take (3 + says b))) = (b.drop (3 + says b)).take 8
  · rw [if_pos h3, Option.map_eq_some_iff] at h
    obtain ⟨m, h4, h5⟩ := h
    cases h5
    obtain ⟨e1, e2⟩ := put_get h4 ((hb.drop 3).take _)
    have hl : (put l).length = says b := by rw [e1, List.length_take, List.length_drop]; omega
    have e3 : b.take 3 = hd3 (says b) := by
      obtain ⟨x, y, z, t, hbt⟩ : ∃ x y z t, b = x :: y :: z :: t := by
        rcases b with _ | ⟨x, _ | ⟨y, _ | ⟨z, t⟩⟩⟩
        · exact absurd (by simp) h1
        · exact absurd (by simp) h1
        · exact absurd (by simp) h1
        · exact ⟨x, y, z, t, rfl⟩
      have hx := hb x (by rw [hbt]; simp)
      have hy := hb y (by rw [hbt]; simp)
      have hz := hb z (by rw [hbt]; simp)
      have e : says b = x * 65536 + y * 256 + z := by rw [hbt]; rfl
      rw [e, hbt]
      unfold hd3
      simp only [List.take_succ_cons, List.take_zero, List.cons.injEq, and_true]
      omega
    have e4 : body l = b.take (3 + says b) := by
      unfold body
      rw [hl, e1, ← e3, List.take_add]
    have e5 : frame l = b.take (says b + 11) := by
      unfold frame
      rw [e4, h3, show says b + 11 = 3 + says b + 8 by omega, ← List.take_add]
    refine ⟨e2, by rw [frame_len, hl], by omega, ?_, hl⟩
    rw [e5, List.take_append_drop]
  · rw [if_neg h3] at h; cases h
theorem whole_pos {b : List Nat} {l : List Int} {k : Nat} (h : whole b = some (l, k)) : 0 < k ∧ k ≤ b.length := by
  unfold whole at h
  split at h
  · cases h
  · split at h
    · cases h
    · split at h
      · rw [Option.map_eq_some_iff] at h
        obtain ⟨m, _, h5⟩ := h
        cases h5
        omega
      · cases h
/-- A frame that is cut is none. -/
theorem whole_torn {l : List Int} (h : ok l) {j : Nat} (hj : j < (frame l).length) : whole ((frame l).take j) = none := by
  cases h1 : whole ((frame l).take j) with
  | none => rfl
  | some p =>
    obtain ⟨m, k⟩ := p
    obtain ⟨e1, e2, e3, e4, _⟩ := whole_some h1 ((frame_by8 h).take j)
    have hlen : ((frame l).take j).length = j := by rw [List.length_take]; omega
    have h2 := whole_frame e1 (((frame l).take j).drop k ++ (frame l).drop j)
    rw [← List.append_assoc, ← e4, List.take_append_drop] at h2
    have h3 := whole_frame h []
    rw [List.append_nil, h2] at h3
    cases h3
    omega
/-- One byte turned, behind the first three: none. -/
theorem whole_set {l : List Int} (h : ok l) {p y : Nat} (hp : p < (frame l).length) (h3 : 3 ≤ p) (hy : y < 256) (hne : y ≠ atN (frame l) p) : whole ((frame l).set p y) = none := by
  cases h1 : whole ((frame l).set p y) with
  | none => rfl
  | some q =>
    exfalso
    obtain ⟨m, k⟩ := q
    have hb : by8 ((frame l).set p y) := fun x hx => by
      rcases List.mem_or_eq_of_mem_set hx with h' | h'
      · exact frame_by8 h x h'
      · omega
    obtain ⟨e1, e2, e3, e4, e5⟩ := whole_some h1 hb
    have hs : says ((frame l).set p y) = (put l).length := by
      have e0 : says ((frame l).set p y) = says (frame l) := by
        have : ∀ i, i < 3 → atN ((frame l).set p y) i = atN (frame l) i := fun i hi => by
          unfold atN
          rw [List.getElem?_set, if_neg (by omega)]
        unfold says
        rw [this 0 (by omega), this 1 (by omega), this 2 (by omega)]
      have := says_frame h []
      rw [List.append_nil] at this
      rw [e0, this]
    rw [hs] at e5
    have hk : (frame m).length = (frame l).length := by rw [frame_len, frame_len, e5]
    have hd : ((frame l).set p y).drop k = [] := List.drop_eq_nil_of_le (by rw [List.length_set]; omega)
    rw [hd, List.append_nil] at e4
    have hfl : (frame l).set p y = body m ++ be8 (sum (body m)) := e4
    have hbl : (body m).length = (body l).length := by rw [body_len, body_len, e5]
    by_cases hpb : p < (body l).length
    · have e6 : (frame l).set p y = (body l).set p y ++ be8 (sum (body l)) := by unfold frame; rw [List.set_append_left _ _ hpb]
      rw [e6] at hfl
      obtain ⟨e7, e8⟩ := List.append_inj hfl (by rw [List.length_set]; exact hbl.symm)
      have e9 := be8_inj (sum_lt _) (sum_lt _) e8
      rw [← e7] at e9
      have ha : atN (frame l) p = (body l)[p] := by unfold atN frame; rw [List.getElem?_append_left hpb, List.getElem?_eq_getElem hpb]; rfl
      have hset : (body l).set p y = (body l).take p ++ y :: (body l).drop (p + 1) := by rw [List.set_eq_take_append_cons_drop, if_pos hpb]
      have hid : body l = (body l).take p ++ (body l)[p] :: (body l).drop (p + 1) := by rw [← List.drop_eq_getElem_cons hpb, List.take_append_drop]
      rw [hset] at e9
      conv at e9 => lhs; rw [hid]
      have hbb := body_by8 h
      have := fnv_place (d := beg) (by decide) (hbb _ (List.getElem_mem hpb)) hy (fun z hz => hbb z (List.mem_of_mem_drop hz)) e9
      exact hne (by rw [ha]; exact this.symm)
    · have hpb' : (body l).length ≤ p := by omega
      have e6 : (frame l).set p y = body l ++ (be8 (sum (body l))).set (p - (body l).length) y := by unfold frame; rw [List.set_append_right _ _ hpb']
      rw [e6] at hfl
      obtain ⟨e7, e8⟩ := List.append_inj hfl hbl.symm
      rw [← e7] at e8
      have hlt : p - (body l).length < (be8 (sum (body l))).length := by rw [be8_len]; rw [frame_len] at hp; rw [body_len] at hpb' ⊢; omega
      have e9 := congrArg (fun t => t[p - (body l).length]?) e8
      simp only [List.getElem?_set_self hlt] at e9
      refine hne ?_
      unfold atN frame
      rw [List.getElem?_append_right hpb', ← e9]
      rfl
end Go.Proofs.Ytnnhpbkhfaaaeaa.Cd
