/- Slices of integers and of pitches; the walk of the reference's force. -/
import Derived.Test.YtnjacgjcoikngaaDoorKs
namespace Go.Proofs.YtnjacgjcoikngaaDoor
open Go.RowKit

/-- At this address lie these integers (nothing is said where there are none). -/
def SlI (w : World) (A : Option Addr) (g : List Int) : Prop :=
  0 < g.length → ∃ b off, A = some ⟨b, off, none⟩ ∧ b < w.heap.size ∧ ∀ k, k < g.length → w.cell? ⟨b, off + k, none⟩ = some (.int .i64 (Ky.atI g k))
/-- At this address lie these pitches. -/
def SlP (w : World) (A : Option Addr) (l : List Ky.P3) : Prop :=
  0 < l.length → ∃ b off, A = some ⟨b, off, none⟩ ∧ b < w.heap.size ∧ ∀ k, k < l.length → w.cell? ⟨b, off + k * 3, none⟩ = some (.int .i64 (Ky.at3 l k).1) ∧
    w.cell? ⟨b, off + k * 3 + 1, none⟩ = some (.int .i64 (Ky.at3 l k).2.1) ∧ w.cell? ⟨b, off + k * 3 + 2, none⟩ = some (.int .i64 (Ky.at3 l k).2.2)
theorem SlI.below {w w' : World} {A : Option Addr} {g : List Int} (h : SlI w A g) (hb : Below w.heap.size w w') : SlI w' A g := fun h0 => by
  obtain ⟨b, off, e, hlt, hc⟩ := h h0
  exact ⟨b, off, e, Nat.lt_of_lt_of_le hlt hb.size, fun k hk => (hb.cell (p := ⟨b, off + k, none⟩) hlt).trans (hc k hk)⟩
theorem SlP.below {w w' : World} {A : Option Addr} {l : List Ky.P3} (h : SlP w A l) (hb : Below w.heap.size w w') : SlP w' A l := fun h0 => by
  obtain ⟨b, off, e, hlt, hc⟩ := h h0
  exact ⟨b, off, e, Nat.lt_of_lt_of_le hlt hb.size, fun k hk => ⟨(hb.cell (p := ⟨b, off + k * 3, none⟩) hlt).trans (hc k hk).1, (hb.cell (p := ⟨b, off + k * 3 + 1, none⟩) hlt).trans (hc k hk).2.1, (hb.cell (p := ⟨b, off + k * 3 + 2, none⟩) hlt).trans (hc k hk).2.2⟩⟩

set_option maxHeartbeats 1600000 in
theorem kforce_is (k : Int) (l : List Ky.P3) (g : List Int) (n len gl cap gcap : Nat) (A D : Option Addr) (v : Int) (h : Ky.frc k l g n = v) (hl : l.length = len) (hg : g.length = gl) (hn : n < len) (hng : n ≤ gl) (hmax : len ≤ 100000) (k0 : -1000 ≤ k) (k1 : k ≤ 1000) (w : World)
    (hL : SlP w A l) (hG : SlI w D g) (hz : ∀ j, j < n → Ky.atI g j = 0 ∨ (6 ≤ Ky.atI g j ∧ Ky.atI g j ≤ 14)) :
    Calls Tryd.prog 38 #[.int .i64 k, .slice A len cap, .slice D gl gcap, .int .i64 n] w fun e w' => e = .returned (.int .i64 v) ∧ Below w.heap.size w w' := by
  subst h
  obtain ⟨b, off, rfl, hb, hc⟩ := hL (by omega)
  obtain ⟨n0, n1, n2⟩ := hc n (by omega)
  have HC := Lib.hid hc
  have HD := Lib.hid hG
  have HA := Lib.hid (fun (s v : Int) (h : Ky.alt k s = v) (w' : World) => kalter_is k s v h k0 k1 w')
  obtain ⟨s, hs⟩ : ∃ s, (Ky.at3 l n).1 = s := ⟨_, rfl⟩
  obtain ⟨o, ho⟩ : ∃ o, (Ky.at3 l n).2.2 = o := ⟨_, rfl⟩
  rw [hs] at n0
  rw [ho] at n2
  obtain ⟨F, hF⟩ : ∃ F, Ky.frc k l g n = F := ⟨_, rfl⟩
  have HF : Hid (Ky.frcA k s o l g n = F) := Lib.hid (by rw [← hF, ← hs, ← ho]; rfl)
  have HL := Lib.hid hl
  have HN := Lib.hid hg
  have HZ := Lib.hid hz
  clear hz
  rw [hF]
  clear hc hG hs ho hF n1 hL hl hg
  go_enter Tryd.func38, Tryd.ntmps38
  go_wp2
  go_loopw [9] (fun s9 wr => (∃ m : Nat, m ≤ n ∧ s9 = .int .i64 ((m : Int) - 1) ∧ Hid (Ky.frcA k s o l g m = F)) ∧ Below w.heap.size w wr) (fun s9 _ => (intOf s9 + 1).toNat)
  case atStart => exact ⟨⟨n, Nat.le_refl _, rfl, HF⟩, Below.refl _ _⟩
  case round =>
    obtain ⟨⟨m, hm, rfl, hI⟩, hB⟩ := hrel
    cases m with
    | zero =>
      have HE : Hid (Ky.alt k s = F) := Lib.hid hI.out
      clear hI
      have c0 := (hB.cell (p := ⟨b, off + n * 3, none⟩) hb).trans n0
      go_wp2_with fail
      refine (HA.out _ _ HE.out _).mono ?_; rintro e w2 ⟨rfl, hb2⟩
      go_wp2
      go_ret
      exact ⟨rfl, hB.trans (hb2.mono hB.size)⟩
    | succ j =>
      have hj : j < len := by omega
      have hjg : j < gl := by omega
      obtain ⟨b2, off2, rfl, hb2, hc2⟩ := HD.out (by have := HN.out; omega)
      obtain ⟨x0, x1, x2⟩ := HC.out j (by have := HL.out; omega)
      have y0 := hc2 j (by have := HN.out; omega)
      have HI : Hid (F = if (Ky.at3 l j).1 = s ∧ (Ky.at3 l j).2.2 = o ∧ Ky.atI g j ≠ 0 then Ky.atI g j - 10 else Ky.frcA k s o l g j) := Lib.hid hI.out.symm
      have ej : (((j + 1 : Nat) : Int) - 1) = (j : Int) := by omega
      rw [ej]
      have xx0 := fun x : Ext wr => x.cell ((hB.cell (p := ⟨b, off + j * 3, none⟩) hb).trans x0)
      have xx2 := fun x : Ext wr => x.cell ((hB.cell (p := ⟨b, off + j * 3 + 2, none⟩) hb).trans x2)
      have xn0 := fun x : Ext wr => x.cell ((hB.cell (p := ⟨b, off + n * 3, none⟩) hb).trans n0)
      have xn2 := fun x : Ext wr => x.cell ((hB.cell (p := ⟨b, off + n * 3 + 2, none⟩) hb).trans n2)
      have xy := fun x : Ext wr => x.cell ((hB.cell (p := ⟨b2, off2 + j, none⟩) hb2).trans y0)
      have hne := Ext.there wr
      clear x0 x1 x2 y0 hc2 hI ej n0 n2
      have zr := HZ.out j (by omega)
      generalize (Ky.at3 l j).1 = p at *
      generalize (Ky.at3 l j).2.2 = q at *
      generalize Ky.atI g j = z at *
      by_cases e1 : p = s
      · subst e1
        by_cases e2 : q = o
        · subst e2
          by_cases e3 : z = 0
          · subst e3
            have HJ : Hid (Ky.frcA k p q l g j = F) := Lib.hid (by rw [HI.out, if_neg (fun h => h.2.2 rfl)])
            clear HI
            go_wp2_with fail
            refine Ext.region (by kernel_rfl) (by kernel_rfl) ?_
            repeat (go_big_quiet_step (fail))
            refine wpQuiet_nil ?_
            rintro _ ⟨xw, rfl⟩
            replace hB := hB.trans (xw.h.mono hB.size)
            clear xx0 xx2 xn0 xn2 xy hne
            generalize xw.w = w3 at *
            clear xw
            go_wp2
            go_roundw
            case rel => exact ⟨⟨j, by omega, rfl, HJ⟩, hB⟩
            case measure => simp [intOf] <;> omega
          · have hz : (z != 0) = true := by simpa using e3
            have z6 : 6 ≤ z := by omega
            have z14 : z ≤ 14 := by omega
            have HJ : Hid (F = z - 10) := Lib.hid (by rw [HI.out, if_pos ⟨rfl, rfl, e3⟩])
            clear HI
            go_wp2_with fail
            refine Ext.region (by kernel_rfl) (by kernel_rfl) ?_
            repeat (go_big_quiet_step (fail))
            refine wpQuiet_nil ?_
            rintro _ ⟨xw, rfl⟩
            replace hB := hB.trans (xw.h.mono hB.size)
            have yy := xy xw
            clear xx0 xx2 xn0 xn2 xy hne
            generalize xw.w = w3 at *
            clear xw
            go_wp2
            rw [HJ.out]
            go_ret
            exact ⟨rfl, hB⟩
        · have HJ : Hid (Ky.frcA k p o l g j = F) := Lib.hid (by rw [HI.out, if_neg (fun h => e2 h.2.1)])
          have e2' : (q == o) = false := by simpa using e2
          clear HI
          go_wp2_with fail
          refine Ext.region (by kernel_rfl) (by kernel_rfl) ?_
          repeat (go_big_quiet_step (fail))
          refine wpQuiet_nil ?_
          rintro _ ⟨xw, rfl⟩
          replace hB := hB.trans (xw.h.mono hB.size)
          clear xx0 xx2 xn0 xn2 xy hne
          generalize xw.w = w3 at *
          clear xw
          go_wp2
          go_roundw
          case rel => exact ⟨⟨j, by omega, rfl, HJ⟩, hB⟩
          case measure => simp [intOf] <;> omega
      · have HJ : Hid (Ky.frcA k s o l g j = F) := Lib.hid (by rw [HI.out, if_neg (fun h => e1 h.1)])
        have e1' : (p == s) = false := by simpa using e1
        clear HI
        go_wp2_with fail
        refine Ext.region (by kernel_rfl) (by kernel_rfl) ?_
        repeat (go_big_quiet_step (fail))
        refine wpQuiet_nil ?_
        rintro _ ⟨xw, rfl⟩
        replace hB := hB.trans (xw.h.mono hB.size)
        clear xx0 xx2 xn0 xn2 xy hne
        generalize xw.w = w3 at *
        clear xw
        go_wp2
        go_roundw
        case rel => exact ⟨⟨j, by omega, rfl, HJ⟩, hB⟩
        case measure => simp [intOf] <;> omega
end Go.Proofs.YtnjacgjcoikngaaDoor
