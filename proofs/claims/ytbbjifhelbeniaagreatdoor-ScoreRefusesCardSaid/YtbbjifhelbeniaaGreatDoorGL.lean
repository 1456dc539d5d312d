import Derived.Test.YtbbjifhelbeniaaGreatDoorGK
import Derived.Test.YtbbjifhelbeniaaGreatDoorGH
/- The walks of the reference's Sorted and Sort. -/
namespace Go.Proofs.YtbbjifhelbeniaaGreatDoor
open Go.RowKit

theorem srt_step {bs : List Mt.B} {l : List No.Nt} {i : Nat} (h : i < l.length) : No.ins (No.lt bs) (No.srt (No.lt bs) (l.take i)) (atO l i) = No.srt (No.lt bs) (l.take (i + 1)) := by
  rw [List.take_succ_eq_append_getElem h, No.srt_snoc, atO_eq h]
theorem srt_length (bs : List Mt.B) (l : List No.Nt) : (No.srt (No.lt bs) l).length = l.length := (No.srt_perm (lt := No.lt bs) l).length_eq

set_option maxHeartbeats 1600000 in
theorem rsorted_is (bs : List Mt.B) (l : List No.Nt) (blen bcap len cap : Nat) (B A : Option Addr) (hbl : bs.length = blen) (hl : l.length = len) (hmax : blen ≤ 4000000) (hlen : len ≤ 1000000) (hall : ∀ m ∈ l, No.isN m.st m.al m.oc) (w : World) (hB : SlB w B bs) (hL : SlO w A l) :
    Calls Tryz.prog 59 #[.slice B blen bcap, .slice A len cap] w fun e w' => ∃ D c, e = .returned (.slice D len c) ∧ SlO w' D (No.srt (No.lt bs) l) ∧ (D = none → c = 0) ∧ len ≤ c ∧ Below w.heap.size w w' := by
  have HB := Lib.hid hB
  have HL := Lib.hid hL
  have HN := Lib.hid hbl
  have HM := Lib.hid hl
  have HA := Lib.hid hall
  clear hbl hl hall hB hL
  go_enter Tryz.func59, Tryz.ntmps59
  go_wp2_with fail
  go_loopw [5, 6] (fun s5 s6 wr => ∃ (i : Nat) (D : Option Addr) (c : Nat), i ≤ len ∧ s6 = .int .i64 (i : Int) ∧ s5 = .slice D i c ∧ Hid (SlO wr D (No.srt (No.lt bs) (l.take i))) ∧ (D = none → c = 0) ∧ i ≤ c ∧ Below w.heap.size w wr) (fun _ s6 _ => len - (intOf s6).toNat)
  case atStart => exact ⟨0, none, 0, Nat.zero_le _, rfl, rfl, Lib.hid (SlO.nil _ _), fun _ => rfl, Nat.le_refl _, Below.refl _ _⟩
  case round =>
    obtain ⟨i, D, c, hi, rfl, rfl, HD, hDn, hic, hG⟩ := hrel
    by_cases hlt : i < len
    · have hil : i < l.length := by rw [HM.out]; exact hlt
      have HS := Lib.hid (srt_step (bs := bs) hil)
      obtain ⟨bb, off, rfl, hbb, hc⟩ := HL.out (by omega)
      obtain ⟨m, hm⟩ : ∃ m, atO l i = m := ⟨_, rfl⟩
      have X := (hc i hil).below hG hbb
      rw [hm] at X HS
      have HIN : Hid (No.isN m.st m.al m.oc) := Lib.hid (by rw [← hm]; exact HA.out _ (atO_mem hil))
      have HT : Hid ((No.srt (No.lt bs) (l.take i)).length = i) := Lib.hid (by rw [srt_length, List.length_take]; omega)
      have HAL : Hid (∀ x ∈ No.srt (No.lt bs) (l.take i), No.isN x.st x.al x.oc) := Lib.hid (fun x hx => HA.out x (List.mem_of_mem_take ((No.srt_perm (lt := No.lt bs) _).subset hx)))
      have hq1 : (i : Int) < (len : Int) := by omega
      have hi6 : i ≤ 1000000 := by omega
      obtain ⟨c0, c1, c2, c3, c4, c5, c6, c7, c8, c9, c10, c11⟩ := And.intro X.c0 (And.intro X.c1 (And.intro X.c2 (And.intro X.c3 (And.intro X.c4 (And.intro X.c5 (And.intro X.c6 (And.intro X.c7 (And.intro X.c8 (And.intro X.c9 (And.intro X.c10 X.c11))))))))))
      replace c0 : wr.cell? ⟨bb, off + i * 12, none⟩ = some (.int .i64 m.id) := c0
      clear X hc hm hil
      go_wp2_with fail
      clear c0 c1 c2 c3 c4 c5 c6 c7 c8 c9 c10 c11
      refine (rput_is bs (No.srt (No.lt bs) (l.take i)) m blen bcap i c B D HN.out HT.out hmax hi6 hic hDn HIN.out HAL.out _ (HB.out.below hG) HD.out).mono ?_; rintro e w2 ⟨D2, c2, rfl, hD2, hDn2, hic2, hb⟩
      rw [HS.out] at hD2
      have G2 := hG.trans (hb.mono hG.size)
      clear HD hDn hic hb hG
      go_wp2_with fail
      go_roundw
      case rel => exact ⟨i + 1, D2, c2, by omega, (by simp), rfl, Lib.hid hD2, hDn2, hic2, G2⟩
      case measure => simp [intOf]; omega
    · obtain rfl : i = len := by omega
      have HX : Hid (SlO wr D (No.srt (No.lt bs) l)) := Lib.hid (by have h := HD.out; rwa [List.take_of_length_le (by rw [HM.out]; exact Nat.le_refl _)] at h)
      go_wp2_with fail
      go_ret
      exact ⟨D, c, rfl, HX.out, hDn, hic, hG⟩

theorem okN_isN {bs : List Mt.B} {l : List No.Nt} (h : No.Val bs l) : ∀ m ∈ l, No.isN m.st m.al m.oc := fun m hm => (h.2.2.1 m hm).2.1

end Go.Proofs.YtbbjifhelbeniaaGreatDoor

/- The walk of the reference's Same, of two slices that hold the same notes. -/
namespace Go.Proofs.YtbbjifhelbeniaaGreatDoor
open Go.RowKit

set_option maxHeartbeats 1600000 in
theorem rsameo_is (l : List No.Nt) (len cap cap2 : Nat) (A C : Option Addr) (hl : l.length = len) (hmax : len ≤ 1000000) (w : World) (hL : SlO w A l) (hL2 : SlO w C l) :
    Calls Tryz.prog 21 #[.slice A len cap, .slice C len cap2] w fun e w' => e = .returned (.bool true) ∧ Below w.heap.size w w' := by
  have HL := Lib.hid hL
  have HK := Lib.hid hL2
  have HM := Lib.hid hl
  clear hl hL hL2
  go_enter Tryz.func21, Tryz.ntmps21
  go_wp2_with fail
  go_loopw [5] (fun s5 wr => ∃ (i : Nat), i ≤ len ∧ s5 = .int .i64 (i : Int) ∧ Below w.heap.size w wr) (fun s5 _ => len - (intOf s5).toNat)
  case atStart => exact ⟨0, Nat.zero_le _, rfl, Below.refl _ _⟩
  case round =>
    obtain ⟨i, hi, rfl, hX⟩ := hrel
    by_cases hlt : i < len
    · have hil : i < l.length := by rw [HM.out]; exact hlt
      obtain ⟨bb, off, rfl, hbb, hc⟩ := HL.out (by omega)
      obtain ⟨bd, ofd, rfl, hbd, hd⟩ := HK.out (by omega)
      obtain ⟨m, hm⟩ : ∃ m, atO l i = m := ⟨_, rfl⟩
      have X := (hc i hil).below hX hbb
      have Y := (hd i hil).below hX hbd
      rw [hm] at X Y
      have z0 : wr.cell? ⟨bb, off + i * 12, none⟩ = some (.int .i64 m.id) := X.c0
      have z1 : wr.cell? ⟨bd, ofd + i * 12, none⟩ = some (.int .i64 m.id) := Y.c0
      have x0 := fun y : Ext wr => y.cell z0
      have y0 := fun y : Ext wr => y.cell z1
      have x1 := fun y : Ext wr => y.cell X.c1; have x2 := fun y : Ext wr => y.cell X.c2; have x3 := fun y : Ext wr => y.cell X.c3; have x4 := fun y : Ext wr => y.cell X.c4; have x5 := fun y : Ext wr => y.cell X.c5; have x6 := fun y : Ext wr => y.cell X.c6; have x7 := fun y : Ext wr => y.cell X.c7; have x8 := fun y : Ext wr => y.cell X.c8; have x9 := fun y : Ext wr => y.cell X.c9; have x10 := fun y : Ext wr => y.cell X.c10; have x11 := fun y : Ext wr => y.cell X.c11
      have y1 := fun y : Ext wr => y.cell Y.c1; have y2 := fun y : Ext wr => y.cell Y.c2; have y3 := fun y : Ext wr => y.cell Y.c3; have y4 := fun y : Ext wr => y.cell Y.c4; have y5 := fun y : Ext wr => y.cell Y.c5; have y6 := fun y : Ext wr => y.cell Y.c6; have y7 := fun y : Ext wr => y.cell Y.c7; have y8 := fun y : Ext wr => y.cell Y.c8; have y9 := fun y : Ext wr => y.cell Y.c9; have y10 := fun y : Ext wr => y.cell Y.c10; have y11 := fun y : Ext wr => y.cell Y.c11
      have hne := Ext.there wr
      have hq1 : (i : Int) < (len : Int) := by omega
      clear X Y z0 z1 hc hd hm hil
      go_wp2_with fail
      refine Ext.region (by kernel_rfl) (by kernel_rfl) ?_
      repeat (go_big_quiet_step (fail))
      refine wpQuiet_nil ?_
      rintro _ ⟨xw, rfl⟩
      replace hX := hX.trans (xw.h.mono hX.size)
      clear x0 x1 x2 x3 x4 x5 x6 x7 x8 x9 x10 x11 y0 y1 y2 y3 y4 y5 y6 y7 y8 y9 y10 y11 hne
      generalize xw.w = w3 at *
      clear xw
      go_wp2_with fail
      go_roundw
      case rel => exact ⟨i + 1, by omega, (by simp), hX⟩
      case measure => simp [intOf]; omega
    · obtain rfl : i = len := by omega
      go_wp2_with fail
      go_ret
      exact ⟨rfl, hX⟩
end Go.Proofs.YtbbjifhelbeniaaGreatDoor

/- Maps by integers whose elements are whatever: what they hold is read as it stands. -/
namespace Go.Proofs.YtbbjifhelbeniaaGreatDoor
open Go.RowKit Go.Maps

/-- An element reads as itself. -/
def rdV (v : Value) : Option (DataW Value × List MemPlace) := some (.held v, [])
/-- The map holds what f says; z is what a key that is not there reads as. -/
def MapIs (D : DataW Value) (z : Value) (f : Int → Option Value) : Prop :=
  IsMap D ∧ ∀ id : Int, (Lit.int .i64 id).wf = true → Maps.has D (.int .i64 id) = (f id).isSome ∧ D.atKey (.int .i64 id) (.held z) = .held ((f id).getD z)
theorem MapIs.start (z : Value) : MapIs (.map []) z (fun _ => none) := ⟨⟨[], rfl⟩, fun _ _ => ⟨rfl, rfl⟩⟩
theorem isMap_put {D : DataW Value} (h : IsMap D) (k : Lit) (d : DataW Value) : IsMap (D.put k d) := by
  obtain ⟨es, rfl⟩ := h
  exact ⟨_, rfl⟩
theorem MapIs.put {D : DataW Value} {z : Value} {f : Int → Option Value} (h : MapIs D z f) {id : Int} (hw : (Lit.int .i64 id).wf = true) (v : Value) : MapIs (D.put (.int .i64 id) (.held v)) z (fun x => if x = id then some v else f x) := by
  refine ⟨isMap_put h.1 _ _, fun x hx => ?_⟩
  by_cases e : x = id
  · subst e
    have hk := mapK.key (keyOf_int_mk Tryz.underlying3 hx)
    rw [has_put_same h.1 hk, atKey_put_same h.1 hk]
    simp
  · have hne : (Lit.int .i64 x) ≠ (Lit.int .i64 id) := fun e2 => e (by simpa using e2)
    rw [has_put_other hne, atKey_put_other hne]
    simp only [if_neg e]
    exact h.2 x hx
/-- 'v := m[k]'. -/
theorem look_v {P : Program} (w : World) {ops : Array Oper} {rest : List Oper} {o : Oper} {a : Act} {Q : Exit → Act → World → Prop}
    (hg : o.guard = none) (m x : Operand) (t : TypeId) (hop : o.op = Op.lookup t m x false)
    (k e : TypeId) (K : Keyed P k) (ht : P.underlying t = some (.map k e)) (z : Value) (hz : (zeroValue e).run P w = .ok z w) (b n : Nat) (D : DataW Value)
    (hm : a.eval m = .map (some b)) (hown : w.ownsMap P k rdV b n D) (key : Value) (kl : Lit) (hx : a.eval x = key) (hkey : keyOf P k key = some kl) (c : Value) (hc : D.atKey kl (.held z) = .held c)
    (hK : wpList P ops Q rest (a.put o.dst c) w) : wpList P ops Q (o :: rest) a w := by
  refine wpList_plain hg fun K' hK' => ?_
  obtain ⟨v, ps, hrun, hv⟩ := hown.lookup K ht hz (show rdV z = some (.held z, []) from rfl) hkey
  rw [hc] at hv
  obtain rfl : v = c := by simpa [rdV] using (congrArg (fun x => x.map Prod.fst) hv)
  unfold Oper.wp
  simp [execOp, hop, hm, hx, hrun, Result.andThen]
  exact hK' _ _ hK
/-- 'v, ok := m[k]'. -/
theorem look_v_ok {P : Program} (w : World) {ops : Array Oper} {rest : List Oper} {o : Oper} {a : Act} {Q : Exit → Act → World → Prop}
    (hg : o.guard = none) (m x : Operand) (t : TypeId) (hop : o.op = Op.lookup t m x true)
    (k e : TypeId) (K : Keyed P k) (ht : P.underlying t = some (.map k e)) (z : Value) (hz : (zeroValue e).run P w = .ok z w) (b n : Nat) (D : DataW Value)
    (hm : a.eval m = .map (some b)) (hown : w.ownsMap P k rdV b n D) (key : Value) (kl : Lit) (hx : a.eval x = key) (hkey : keyOf P k key = some kl) (c : Value) (hc : D.atKey kl (.held z) = .held c) (f : Bool) (hf : Maps.has D kl = f)
    (hK : wpList P ops Q rest (a.put o.dst (.tuple #[c, .bool f])) w) : wpList P ops Q (o :: rest) a w := by
  refine wpList_plain hg fun K' hK' => ?_
  obtain ⟨v, ps, hrun, hv⟩ := hown.look_ok K ht hz (show rdV z = some (.held z, []) from rfl) hkey
  rw [hc] at hv
  obtain rfl : v = c := by simpa [rdV] using (congrArg (fun x => x.map Prod.fst) hv)
  rw [hf] at hrun
  unfold Oper.wp
  simp [execOp, hop, hm, hx, hrun, Result.andThen]
  exact hK' _ _ hK
end Go.Proofs.YtbbjifhelbeniaaGreatDoor
