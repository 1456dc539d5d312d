/- Plain facts on the texts of pitches; nothing of the program is read here. -/
import Derived.Test.YtgehnciegolkhaaDoorPm
import Derived.Lib.ItoaNum
import Derived.Lib.Repeat
import Derived.Lib.Bytealg
import Derived.Laws.RangeAny
import Derived.RowKit
namespace Go.Proofs.YtgehnciegolkhaaDoor.Tx
open Go.RowKit

def lets : List UInt8 := [67, 68, 69, 70, 71, 65, 66]
def letsB : ByteArray := ⟨#[67, 68, 69, 70, 71, 65, 66]⟩
def dec1 (n : Nat) : List UInt8 := if n < 10 then [UInt8.ofNat (48 + n)] else [UInt8.ofNat (48 + n / 10), UInt8.ofNat (48 + n % 10)]
def dec (o : Int) : List UInt8 := if o < 0 then 45 :: dec1 o.natAbs else dec1 o.toNat
def alt (a : Int) : List UInt8 := List.replicate a.toNat 35 ++ List.replicate (-a).toNat 98
def txt (s a o : Int) : List UInt8 := lets.getD s.toNat 0 :: (alt a ++ dec o)
def txtB (s a o : Int) : ByteArray := ⟨(txt s a o).toArray⟩

theorem decDigits_dec {n : Nat} (h : n < 100) : Lib.decDigits n = dec1 n := by
  unfold dec1
  rw [Lib.decDigits]
  split
  · rfl
  · rw [Lib.decDigits, dif_pos (by omega)]; rfl
theorem itoa_dec {o : Int} (h0 : -100 < o) (h1 : o < 100) : Lib.itoa o = dec o := by
  unfold Lib.itoa dec
  split
  · rw [decDigits_dec (by omega)]
  · rw [decDigits_dec (by omega)]
theorem repeat_one (x : UInt8) (c : Nat) : Lib.repeatL [x] c = List.replicate c x := by
  induction c with
  | zero => rfl
  | succ c ih => simp [Lib.repeatL, ih, List.replicate_succ]
theorem append_mk (a b : List UInt8) : (⟨a.toArray⟩ : ByteArray) ++ ⟨b.toArray⟩ = ⟨(a ++ b).toArray⟩ := by
  apply ByteArray.ext; simp
theorem size_mk (a : List UInt8) : (⟨a.toArray⟩ : ByteArray).size = a.length := by show a.toArray.size = _; simp
theorem mk_inj {a b : List UInt8} (h : (⟨a.toArray⟩ : ByteArray) = ⟨b.toArray⟩) : a = b := by
  have := congrArg (fun x : ByteArray => x.data.toList) h
  simpa using this
theorem dec1_le (n : Nat) : (dec1 n).length ≤ 2 ∧ 1 ≤ (dec1 n).length := by unfold dec1; split <;> simp
theorem dec_le (o : Int) : (dec o).length ≤ 3 := by
  unfold dec
  have := dec1_le o.natAbs
  have := dec1_le o.toNat
  split <;> simp <;> omega
theorem alt_le {a : Int} (h0 : -4 ≤ a) (h1 : a ≤ 4) : (alt a).length ≤ 4 := by unfold alt; simp; omega
theorem txt_len {s a o : Int} (h : Pt.pv s a o = true) : 1 ≤ (txtB s a o).size ∧ (txtB s a o).size ≤ 8 := by
  obtain ⟨_, _, h0, h1, _, _⟩ := Pt.pv_iff.1 h
  unfold txtB
  rw [size_mk]
  unfold txt
  have := alt_le h0 h1
  have := dec_le o
  simp
  omega

/-- Which letter a rune is. -/
def idx (r : Nat) : Int := if r < 128 then Lib.indexByte lets r.toUInt8 else -1
/-- A rune that is read at a place: step, alter, octave, sign. -/
def step (pos r : Nat) (S A O g : Int) : Int × Int × Int × Int :=
  if pos = 0 then (idx r, A, O, g)
  else if r = 35 then (S, wrap64 (A + 1), O, g)
  else if r = 98 then (S, wrap64 (A - 1), O, g)
  else if r = 45 then (S, A, O, -1)
  else if 48 ≤ r ∧ r ≤ 57 then (S, A, wrap64 (wrap64 (10 * O) + ((r : Int) - 48)), g)
  else (S, A, O, g)
def rdFrom (s : ByteArray) : Nat → Nat → Int → Int → Int → Int → Int × Int × Int
  | 0, _, S, A, O, g => (S, A, wrap64 (O * g))
  | f + 1, pos, S, A, O, g =>
    if pos < s.size then
      rdFrom s f (pos + (Utf8.decode s pos).2) (step pos (Utf8.decode s pos).1 S A O g).1 (step pos (Utf8.decode s pos).1 S A O g).2.1 (step pos (Utf8.decode s pos).1 S A O g).2.2.1 (step pos (Utf8.decode s pos).1 S A O g).2.2.2
    else (S, A, wrap64 (O * g))
def rd (s : ByteArray) : Int × Int × Int := rdFrom s (s.size + 1) 0 0 0 0 1
theorem rdFrom_end {s : ByteArray} {f pos : Nat} {S A O g : Int} (h : ¬ pos < s.size) : rdFrom s f pos S A O g = (S, A, wrap64 (O * g)) := by
  cases f <;> simp [rdFrom, h]

/-- Each text is read as its pitch. -/
theorem rd_all : (List.range 7).all (fun s => (List.range 9).all fun a => (List.range 29).all fun o => decide (rd (txtB (s : Int) ((a : Int) - 4) ((o : Int) - 8)) = ((s : Int), (a : Int) - 4, (o : Int) - 8))) = true := by decide +kernel
theorem rd_txt {s a o : Int} (h : Pt.pv s a o = true) : rd (txtB s a o) = (s, a, o) := by
  obtain ⟨h1, h2, h3, h4, h5, h6⟩ := Pt.pv_iff.1 h
  have e := List.all_eq_true.1 rd_all s.toNat (List.mem_range.2 (by omega))
  have e := List.all_eq_true.1 e (a + 4).toNat (List.mem_range.2 (by omega))
  have e := List.all_eq_true.1 e (o + 8).toNat (List.mem_range.2 (by omega))
  have e := of_decide_eq_true e
  have a1 : ((s.toNat : Nat) : Int) = s := by omega
  have a2 : (((a + 4).toNat : Nat) : Int) - 4 = a := by omega
  have a3 : (((o + 8).toNat : Nat) : Int) - 8 = o := by omega
  rwa [a1, a2, a3] at e
theorem txt_inj {s a o p b q : Int} (h1 : Pt.pv s a o = true) (h2 : Pt.pv p b q = true) (h : txtB s a o = txtB p b q) : s = p ∧ a = b ∧ o = q := by
  have := (rd_txt h1).symm.trans ((congrArg rd h).trans (rd_txt h2))
  simpa using this

/-- Text: the text, error. -/
def txR (s a o : Int) : ByteArray × Int := if Pt.pv s a o = true then (txtB s a o, 0) else (⟨#[]⟩, 1)
/-- Parse: step, alter, octave, error. -/
def paR (s : ByteArray) : Int × Int × Int × Int :=
  if Pt.pv (rd s).1 (rd s).2.1 (rd s).2.2 = true ∧ txtB (rd s).1 (rd s).2.1 (rd s).2.2 = s then ((rd s).1, (rd s).2.1, (rd s).2.2, 0) else (0, 0, 0, 7)
theorem paR_of {s a o : Int} (h : Pt.pv s a o = true) : paR (txtB s a o) = (s, a, o, 0) := by
  unfold paR
  rw [rd_txt h]
  simp [h]
theorem paR_ok {s : ByteArray} {x y z : Int} (h : paR s = (x, y, z, 0)) : Pt.pv x y z = true ∧ txtB x y z = s := by
  unfold paR at h
  split at h
  · rename_i h1
    simp only [Prod.mk.injEq] at h
    obtain ⟨rfl, rfl, rfl, _⟩ := h
    exact h1
  · simp at h
/-- What is the text of no pitch is refused. -/
theorem paR_none {t : ByteArray} (h : ∀ s a o, Pt.pv s a o = true → txtB s a o ≠ t) : paR t = (0, 0, 0, 7) := by
  unfold paR
  rw [if_neg]
  rintro ⟨h1, h2⟩
  exact h _ _ _ h1 h2
end Go.Proofs.YtgehnciegolkhaaDoor.Tx
