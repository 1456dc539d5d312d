import Derived.Test.YthamkigdpgajaaaDoorHu
/- NotesBars, call by call. -/
namespace Go.Proofs.YthamkigdpgajaaaDoor
open Go.RowKit

namespace No
theorem bars_len {bs : List Mt.B} {l all : List Nt} {j last : Int} (hi : BarsInv bs l all j last) : all.length ≤ l.length :=
  List.Nodup.length_le_of_subset (hi.1.imp (fun {a b} hab e => by
    subst e
    have := lt_asymm bs a a hab
    rw [hab] at this
    cases this)) (fun n hn => ((hi.2 n).1 hn).1)
/-- The next part, of the first k notes. -/
def NextI (l : List Nt) (last : Int) (k : Nat) (nx : Int) : Prop :=
  (nx = 0 ∧ ∀ q, q < k → (atO l q).pa ≤ last) ∨ (last < nx ∧ (∃ q, q < k ∧ (atO l q).pa = nx) ∧ ∀ q, q < k → last < (atO l q).pa → nx ≤ (atO l q).pa)
theorem next_start (l : List Nt) (last : Int) : NextI l last 0 0 := .inl ⟨rfl, fun q hq => by omega⟩
theorem next_low {l : List Nt} {last nx : Int} {k : Nat} (h : NextI l last k nx) (hp : ¬ last < (atO l k).pa) : NextI l last (k + 1) nx := by
  rcases h with ⟨h1, h2⟩ | ⟨h1, ⟨q, hq, e⟩, h3⟩
  · refine .inl ⟨h1, fun q hq => ?_⟩
    rcases Nat.lt_or_ge q k with h | h
    · exact h2 q h
    · rw [show q = k by omega]; omega
  · refine .inr ⟨h1, ⟨q, by omega, e⟩, fun q hq h => ?_⟩
    rcases Nat.lt_or_ge q k with h4 | h4
    · exact h3 q h4 h
    · rw [show q = k by omega] at h; omega
theorem next_new {l : List Nt} {last nx : Int} {k : Nat} (h : NextI l last k nx) (hp : last < (atO l k).pa) (hn : nx = 0 ∨ (atO l k).pa < nx) (h0 : 0 ≤ last) : NextI l last (k + 1) (atO l k).pa := by
  refine .inr ⟨hp, ⟨k, by omega, rfl⟩, fun q hq hq2 => ?_⟩
  rcases Nat.lt_or_ge q k with h4 | h4
  · rcases h with ⟨h1, h2⟩ | ⟨h1, _, h3⟩
    · have := h2 q h4; omega
    · have := h3 q h4 hq2; omega
  · rw [show q = k by omega]; exact Int.le_refl _
theorem next_keep {l : List Nt} {last nx : Int} {k : Nat} (h : NextI l last k nx) (hn : ¬ nx = 0) (hp : ¬ (atO l k).pa < nx) : NextI l last (k + 1) nx := by
  rcases h with ⟨h1, h2⟩ | ⟨h1, ⟨q, hq, e⟩, h3⟩
  · exact absurd h1 hn
  · refine .inr ⟨h1, ⟨q, by omega, e⟩, fun q hq h => ?_⟩
    rcases Nat.lt_or_ge q k with h4 | h4
    · exact h3 q h4 h
    · rw [show q = k by omega]; omega
end No
theorem blk_cell {w : World} {v : Nat} {cs : Array Value} {t : TypeId} {fr : Nat × Nat} (h : w.heap[v]? = some (.cells cs t fr)) (j : Nat) : w.cell? ⟨v, j, none⟩ = cs[j]? := by simp [World.cell?, h]
theorem blk_below {w w' : World} {v : Nat} {o : Obj} (h : w.heap[v]? = some o) (hb : Below w.heap.size w w') : w'.heap[v]? = some o := (hb.block v (Array.getElem?_eq_some_iff.1 h).1).trans h
/-- A block of another type is no row of one's own. -/
theorem own_apart {w : World} {base : Nat} {e t : TypeId} {size n : Nat} {v : Value} {xs : List Value} {b : Nat} {cs : Array Value} {fr : Nat × Nat} (h : w.ownsRow base e size v n xs) (hb : w.heap[b]? = some (.cells cs t fr)) (ht : t ≠ e) : some b ≠ v.ownBlock := by
  rcases h.2 with ⟨rfl, _⟩ | ⟨g, c, cur, rfl, _, hg, _⟩
  · simp [Value.ownBlock]
  · intro e2
    have e3 : b = g := by simpa [Value.ownBlock] using e2
    subst e3
    rw [hb] at hg
    cases hg
    exact ht rfl
set_option maxRecDepth 100000 in
set_option maxHeartbeats 1600000 in
theorem notesBars_walk (Bb : Option Addr) (blen bcap : Nat) (bs : List Mt.B) (hbl : bs.length = blen) (_hwb : Mt.Wf bs) (A : Option Addr) (len cap : Nat) (l : List No.Nt) (hl : l.length = len) (_hc : len ≤ cap) (_hA : A = none → cap = 0) (_hwn : No.Wf l) (w : World) (hG : Glob w) (hB : SlB w Bb bs) (hL : SlO w A l) :
    Calls Tryd.prog 5 #[.slice Bb blen bcap, .slice A len cap] w fun e w' => e = .returned (.bool true) ∧ Below w.heap.size w w' := by
  have HN := Lib.hid hbl
  have HM := Lib.hid hl
  by_cases hu : Usb bs l
  case neg =>
    have HU := Lib.hid hu
    clear hu hbl hl
    go_enter Tryd.func5, Tryd.ntmps5
    go_wp2_with fail
    have B := Below.refl w.heap.size w
    refine (head_any _ hG).mono ?_; rintro e w1 ⟨rfl, hb⟩
    replace hB := hB.below hb
    replace hL := hL.below hb
    replace hG := hG.below hb
    replace B := B.trans (hb.mono (by have := B.size; simp <;> omega))
    clear hb
    go_wp2_with fail
    refine (lusable_is bs l false _ _ _ _ _ _ ⟨(fun h => by cases h), fun h => absurd h HU.out⟩ HN.out HM.out _ hB hL).mono ?_; rintro e w2 ⟨rfl, hb⟩
    replace hB := hB.below hb
    replace hL := hL.below hb
    replace hG := hG.below hb
    replace B := B.trans (hb.mono (by have := B.size; simp <;> omega))
    clear hb
    go_wp2_with fail
    go_ret
    exact ⟨rfl, B⟩
  have HU := Lib.hid hu
  have HV := Lib.hid hu.2
  have h60 := hu.1
  rw [hbl, hl] at h60
  obtain ⟨i0, hi, hz0, hz1, hz2⟩ := info_parts infoNote
  have HI0 := Lib.hid (And.intro hi (And.intro hz0 (And.intro hz1 hz2)))
  have HBX : Hid (∀ j, j < blen → No.bix bs (atB bs j).1 = j ∧ 1 ≤ (atB bs j).1 ∧ (atB bs j).1 ≤ 1000000) := Lib.hid (fun j hj => by
    have hjb : j < bs.length := by rw [hbl]; exact hj
    have h := No.bix_of hu.2.1 hjb
    exact ⟨h, No.bar_in hu.2.1 (by omega)⟩)
  have HPA : Hid (∀ q, q < len → 1 ≤ (atO l q).pa ∧ (atO l q).pa ≤ 1000000) := Lib.hid (fun q hq => by
    have := hu.2.2.2.1 _ (atO_mem (i := q) (by rw [hl]; exact hq))
    exact ⟨this.2.2.2.2.1, this.2.2.2.2.2.1⟩)
  clear hi hz0 hz1 hz2 hu hbl hl
  go_enter Tryd.func5, Tryd.ntmps5
  go_wp2_with fail
  have B := Below.refl w.heap.size w
  refine (head_any _ hG).mono ?_; rintro e w1 ⟨rfl, hb⟩
  replace hB := hB.below hb
  replace hL := hL.below hb
  replace hG := hG.below hb
  replace B := B.trans (hb.mono (by have := B.size; simp <;> omega))
  clear hb
  go_wp2_with fail
  refine (lusable_is bs l true _ _ _ _ _ _ ⟨fun _ => HU.out, fun _ => rfl⟩ HN.out HM.out _ hB hL).mono ?_; rintro e w2 ⟨rfl, hb⟩
  replace hB := hB.below hb
  replace hL := hL.below hb
  replace hG := hG.below hb
  replace B := B.trans (hb.mono (by have := B.size; simp <;> omega))
  clear hb
  go_wp2_with fail
  have HLB := Lib.hid hB; have HLL := Lib.hid hL; have HGG := Lib.hid hG; have HB0 := Lib.hid B
  clear hB hL hG B
  refine (tnsort_is bs l true _ _ _ _ _ _ ⟨fun _ => HV.out, fun _ => rfl⟩ HN.out HM.out (Mt.val_wf HV.out.1) (No.val_wf HV.out) _ HLB.out HLL.out HGG.out).mono ?_; rintro e z1 ⟨hb, h⟩
  obtain ⟨-, D1, c1, rfl, hS1, hD1, hc1⟩ := h.resolve_left (by rintro ⟨h, _⟩; cases h)
  have HS1 := Lib.hid hS1
  have HB1 := Lib.hid (HB0.out.trans (hb.mono HB0.out.size))
  replace HLB := Lib.hid (HLB.out.below hb)
  replace HLL := Lib.hid (HLL.out.below hb)
  replace HGG := Lib.hid (HGG.out.below hb)
  clear hb hS1 h HB0
  go_wp2_with fail
  go_loopw [5, 8, 35] (fun s5 s8 s35 wr => ∃ (j N : Nat) (all : List No.Nt), j ≤ blen ∧ s35 = .int .i64 (j : Int) ∧ s5 = .bool true ∧ Hid (all.length = N) ∧ Hid (wr.ownsRow z1.heap.size 42 12 s8 N (vO all)) ∧ Hid (No.BarsInv bs l all j 0) ∧ Below z1.heap.size z1 wr) (fun _ _ s35 _ => blen - (intOf s35).toNat)
  case atStart => exact ⟨0, 0, [], Nat.zero_le _, rfl, rfl, Lib.hid rfl, Lib.hid (World.ownsRow_nil _ _ _ _), Lib.hid (No.bars_start HV.out), Below.refl _ _⟩
  case round =>
    obtain ⟨j, N, all, hj, rfl, rfl, HL0, HO, HI, hX⟩ := hrel
    by_cases hlt : j < blen
    · have hx : j < bs.length := by rw [HN.out]; exact hlt
      obtain ⟨bb, of1, rfl, hbb, hc⟩ := HLB.out (by rw [HN.out]; omega)
      obtain ⟨bx1, bx2, bx3⟩ := HBX.out j hlt
      obtain ⟨bar, hbar⟩ : ∃ bar, (atB bs j).1 = bar := ⟨_, rfl⟩
      obtain ⟨en, hen⟩ : ∃ en, (atB bs j).2.1 = en := ⟨_, rfl⟩
      obtain ⟨ed, hed⟩ : ∃ ed, (atB bs j).2.2.1 = ed := ⟨_, rfl⟩
      obtain ⟨eb, heb⟩ : ∃ eb, (atB bs j).2.2.2 = eb := ⟨_, rfl⟩
      have X := hc j hx
      rw [hbar, hen, hed, heb] at X
      rw [hbar] at bx1 bx2 bx3
      have HX1 := Lib.hid bx1
      have HX2 := Lib.hid (And.intro bx2 bx3)
      obtain ⟨X0, X1, X2, X3⟩ := X
      have c0 := (hX.cell (p := ⟨bb, of1 + j * 4, none⟩) hbb).trans X0
      have c1' := (hX.cell (p := ⟨bb, of1 + j * 4 + 1, none⟩) hbb).trans X1
      have c2 := (hX.cell (p := ⟨bb, of1 + j * 4 + 2, none⟩) hbb).trans X2
      have c3 := (hX.cell (p := ⟨bb, of1 + j * 4 + 3, none⟩) hbb).trans X3
      have hj1 : (j : Int) < (blen : Int) := by omega
      clear hx hc bx1 bx2 bx3 hbar hen hed heb X0 X1 X2 X3
      go_wp2_with fail
      clear c0 c1' c2 c3
      have BV := heap_alloc_new wr (.cells #[.int .i64 bar, .int .i64 en, .int .i64 ed, .int .i64 eb] 48)
      have HO1 := Lib.hid (HO.out.alloc (.cells #[.int .i64 bar, .int .i64 en, .int .i64 ed, .int .i64 eb] 48))
      have hX1 := hX.alloc hX.size (.cells #[.int .i64 bar, .int .i64 en, .int .i64 ed, .int .i64 eb] 48)
      obtain ⟨wq, hwq⟩ : ∃ wq, World.alloc wr (.cells #[.int .i64 bar, .int .i64 en, .int .i64 ed, .int .i64 eb] 48) = wq := ⟨_, rfl⟩
      rw [hwq] at BV HO1 hX1
      simp only [hwq]
      clear hwq
      obtain ⟨vb, hvb⟩ : ∃ vb, wr.heap.size = vb := ⟨_, rfl⟩
      rw [hvb] at BV
      simp only [hvb]
      have HBV := Lib.hid BV
      clear hvb hX HO BV
      go_loopw [5, 8, 11] (fun s5 s8 s11 wr => ∃ (N : Nat) (all : List No.Nt) (last : Int), s11 = .int .i64 last ∧ 0 ≤ last ∧ last ≤ 1000000 ∧ s5 = .bool true ∧ Hid (all.length = N) ∧ Hid (wr.ownsRow z1.heap.size 42 12 s8 N (vO all)) ∧ Hid (No.BarsInv bs l all j last) ∧ Below z1.heap.size z1 wr ∧ Hid (wr.heap[vb]? = some (.cells #[.int .i64 bar, .int .i64 en, .int .i64 ed, .int .i64 eb] 48))) (fun _ _ s11 _ => 1000001 - (intOf s11).toNat)
      case atStart => exact ⟨N, all, 0, rfl, by omega, by omega, rfl, HL0, HO1, HI, hX1, HBV⟩
      case round =>
        clear hX1 HO1 HI HL0 HBV N all
        obtain ⟨N, all, last, rfl, hl0, hl1, rfl, HL0, HO, HI, hX, HY⟩ := hrel
        go_wp2_with fail
        go_loopw [12, 41] (fun s12 s41 wr2 => ∃ (k : Nat) (nx : Int), k ≤ len ∧ s41 = .int .i64 (k : Int) ∧ s12 = .int .i64 nx ∧ Hid (No.NextI l last k nx) ∧ Below wr.heap.size wr wr2) (fun _ s41 _ => len - (intOf s41).toNat)
        case atStart => exact ⟨0, 0, Nat.zero_le _, rfl, rfl, Lib.hid (No.next_start l last), Below.refl _ _⟩
        case round =>
          obtain ⟨k, nx, hk, rfl, rfl, HNX, hZ⟩ := hrel
          by_cases hlt2 : k < len
          · have hx : k < l.length := by rw [HM.out]; exact hlt2
            obtain ⟨b2, of2, rfl, hb2, hc⟩ := HLL.out (by rw [HM.out]; omega)
            obtain ⟨n, hn⟩ : ∃ n, atO l k = n := ⟨_, rfl⟩
            have Y := (hc k hx).below (hX.trans (hZ.mono hX.size)) hb2
            rw [hn] at Y
            have hN1 : Hid (¬ last < n.pa → No.NextI l last (k + 1) nx) := Lib.hid (fun h => No.next_low HNX.out (by rw [hn]; exact h))
            have hN2 : Hid (last < n.pa → (nx = 0 ∨ n.pa < nx) → No.NextI l last (k + 1) n.pa) := Lib.hid (fun h1 h2 => by
              have h := No.next_new HNX.out (by rw [hn]; exact h1) (by rw [hn]; exact h2) hl0
              rwa [hn] at h)
            have hN3 : Hid (¬ nx = 0 → ¬ n.pa < nx → No.NextI l last (k + 1) nx) := Lib.hid (fun h1 h2 => No.next_keep HNX.out h1 (by rw [hn]; exact h2))
            have hj2 : (k : Int) < (len : Int) := by omega
            obtain ⟨c0, c1', c2, c3, c4, c5, c6, c7, c8, c9, c10, c11⟩ := Y
            rw [Nat.add_zero] at c0
            clear hn hx hc
            have hZ2 := hZ.alloc hZ.size (.cells #[.int .i64 n.id, .int .i64 n.pa, .int .i64 n.ba, .int .i64 n.vo, .int .i64 n.os, .int .i64 n.sn, .int .i64 n.sd, .int .i64 n.ln, .int .i64 n.ld, .int .i64 n.st, .int .i64 n.al, .int .i64 n.oc] 42)
            by_cases p1 : last < n.pa
            · by_cases p2 : nx = 0
              · have pb : (nx == 0) = true := by simpa using p2
                go_wp2_with fail
                go_roundw
                case rel => exact ⟨k + 1, n.pa, by omega, by simp, rfl, Lib.hid (hN2.out p1 (.inl p2)), hZ2⟩
                case measure => simp [intOf]; omega
              · have pb : (nx == 0) = false := by simpa using p2
                by_cases p3 : n.pa < nx
                · go_wp2_with fail
                  go_roundw
                  case rel => exact ⟨k + 1, n.pa, by omega, by simp, rfl, Lib.hid (hN2.out p1 (.inr p3)), hZ2⟩
                  case measure => simp [intOf]; omega
                · go_wp2_with fail
                  go_roundw
                  case rel => exact ⟨k + 1, nx, by omega, by simp, rfl, Lib.hid (hN3.out p2 p3), hZ2⟩
                  case measure => simp [intOf]; omega
            · go_wp2_with fail
              go_roundw
              case rel => exact ⟨k + 1, nx, by omega, by simp, rfl, Lib.hid (hN1.out p1), hZ2⟩
              case measure => simp [intOf]; omega
          · obtain rfl : k = len := by omega
            by_cases p0 : nx = 0
            · have pb : (nx == 0) = true := by simpa using p0

              have HIN : Hid (No.BarsInv bs l all (j + 1) 0) := Lib.hid (No.bars_next HV.out HI.out (fun n hn => by
                obtain ⟨q, hq, rfl⟩ := List.mem_iff_getElem.1 hn
                rcases HNX.out with ⟨_, h⟩ | ⟨h, _, _⟩
                · have := h q (by rw [← HM.out]; exact hq)
                  rwa [atO_eq hq] at this
                · omega))
              have HO2 := Lib.hid (HO.out.kept (obelow_grown hZ none) onone_ne)
              have hX2 := hX.trans (hZ.mono hX.size)
              go_wp2_with fail
              go_roundw
              case rel => exact ⟨j + 1, N, all, by omega, by simp, rfl, HL0, HO2, HIN, hX2⟩
              case measure => simp [intOf]; omega
            · have pb : (nx == 0) = false := by simpa using p0
              have hnx : last < nx ∧ (1 ≤ nx ∧ nx ≤ 1000000) ∧ ∀ n ∈ l, last < n.pa → nx ≤ n.pa := by
                rcases HNX.out with ⟨h, _⟩ | ⟨h1, ⟨q, hq, e⟩, h3⟩
                · exact absurd h p0
                · refine ⟨h1, by rw [← e]; exact HPA.out q hq, fun n hn h => ?_⟩
                  obtain ⟨q, hq, rfl⟩ := List.mem_iff_getElem.1 hn
                  rw [← atO_eq hq] at h ⊢
                  exact h3 q (by rw [← HM.out]; exact hq) h
              obtain ⟨hn1, hn2, hn3⟩ := hnx
              have HNB := Lib.hid hn2
              have hbx0 : 0 ≤ No.bix bs bar := by rw [HX1.out]; omega
              have HIN : Hid (No.BarsInv bs l (all ++ No.own bs l nx bar) j nx) := Lib.hid (No.bars_part HV.out HI.out hbx0 HX1.out hn1 hn3)
              have HBX0 := Lib.hid hbx0
              have HO2 := Lib.hid (HO.out.kept (obelow_grown hZ none) onone_ne)
              have hX2 := hX.trans (hZ.mono hX.size)
              have HY2 := Lib.hid (blk_below HY.out hZ)
              have b0 : wr.cell? ⟨vb, 0, none⟩ = some (.int .i64 bar) := blk_cell HY2.out 0
              clear HO hX HY hZ hn3 hbx0
              go_wp2_with fail
              clear b0
              refine (tof_is bs l nx bar _ _ _ _ _ _ HN.out HM.out (Mt.val_wf HV.out.1) (No.val_wf HV.out) _ (HLB.out.below hX2) (HLL.out.below hX2) (HGG.out.below hX2)).mono ?_; rintro e z2 ⟨hP, hb⟩
              rcases hP with ⟨h, _⟩ | ⟨_, h, _⟩ | ⟨_, _, D, m, c, rfl, hm, hD, hDn, hmc⟩
              · exact absurd ⟨HV.out, HNB.out, HX2.out⟩ h
              · exact absurd h (by have := HBX0.out; omega)
              have HOW := Lib.hid (HO2.out.kept (obelow_grown hb none) onone_ne)
              have hX3 := hX2.trans (hb.mono hX2.size)
              have HY3 := Lib.hid (blk_below HY2.out hb)
              have HMM := Lib.hid hm
              have HDD := Lib.hid hD
              have hm60 : m ≤ 60 := by
                have h := own_le bs l nx bar
                have h2 := HM.out
                omega
              have HWN : Hid (∀ q, q < m → (atO (No.own bs l nx bar) q).pa = nx ∧ (atO (No.own bs l nx bar) q).ba = bar) := Lib.hid (fun q hq => (No.own_mem.1 (atO_mem (by rw [HMM.out]; exact hq))).2)
              have hN60 : N ≤ 60 := by
                have h := No.bars_len HI.out
                have h2 := HM.out
                have h3 := HL0.out
                omega
              clear hX2 HY2 HO2 hb hm hD
              go_wp2_with fail
              go_loopw [5, 77] (fun s5 s77 wr3 => ∃ q : Nat, q ≤ m ∧ s77 = .int .i64 (q : Int) ∧ s5 = .bool true ∧ Below z2.heap.size z2 wr3) (fun _ s77 _ => m - (intOf s77).toNat)
              case atStart => exact ⟨0, Nat.zero_le _, rfl, rfl, Below.refl _ _⟩
              case round =>
                obtain ⟨q, hq, rfl, rfl, hZ⟩ := hrel
                by_cases hlt4 : q < m
                · obtain ⟨b3, of3, rfl, hb3, hc3⟩ := HDD.out (by rw [HMM.out]; omega)
                  obtain ⟨n, hn⟩ : ∃ n, atO (No.own bs l nx bar) q = n := ⟨_, rfl⟩
                  have Y := (hc3 q (by rw [HMM.out]; exact hlt4)).below hZ hb3
                  obtain ⟨e1, e2⟩ := HWN.out q hlt4
                  rw [hn] at Y e1 e2
                  have BV := blk_below HY3.out hZ
                  have b0 : wr.cell? ⟨vb, 0, none⟩ = some (.int .i64 bar) := blk_cell BV 0
                  have lb := (Array.getElem?_eq_some_iff.1 BV).1
                  have hj3 : (q : Int) < (m : Int) := by omega
                  obtain ⟨c0, c1', c2, c3, c4, c5, c6, c7, c8, c9, c10, c11⟩ := Y
                  rw [Nat.add_zero] at c0
                  rw [e1] at c1'
                  rw [e2] at c2
                  clear hn hc3 e1 e2 BV
                  go_wp2_with fail
                  go_roundw
                  case rel => exact ⟨q + 1, by omega, by simp, rfl, hZ.alloc hZ.size _⟩
                  case measure => simp [intOf]; omega
                · obtain rfl : q = m := by omega
                  have HOA := Lib.hid (HOW.out.kept (obelow_grown hZ none) onone_ne)
                  have hX4 := hX3.trans (hZ.mono hX3.size)
                  have HY4 := Lib.hid (blk_below HY3.out hZ)
                  have hDZ := HDD.out.below hZ
                  go_wp2_with (first | (at_builtin; go_loud (refine append_slo rfl _ _ 23 rfl z1.heap.size 42 i0 _ 96 Tryd.underlying23 HI0.out.1 HI0.out.2.1 HI0.out.2.2.1 HI0.out.2.2.2 rfl _ N (vO all) rfl HOA.out D q c _ rfl hDn HMM.out hDZ (by unfold maxLen; omega) (by omega) hX4.size ?_; intro v5 w5 hown5 hgrow5)) | fail)
                  have hX5 := hX4.grown hgrow5 hX4.size (oown_ne HOA.out)
                  have HO5 := Lib.hid hown5
                  have HY5 : Hid (w5.heap[vb]? = some (.cells #[.int .i64 bar, .int .i64 en, .int .i64 ed, .int .i64 eb] 48)) := Lib.hid ((hgrow5.block vb (Array.getElem?_eq_some_iff.1 HY4.out).1 (own_apart HOA.out HY4.out (by decide))).trans HY4.out)
                  clear hown5 hgrow5
                  go_roundw
                  case rel => exact ⟨N + q, _, nx, rfl, by omega, hn2.2, rfl, Lib.hid (by rw [List.length_append, HL0.out, HMM.out]), Lib.hid (by rw [vO_app]; exact HO5.out), HIN, hX5, HY5⟩
                  case measure => simp [intOf]; omega
    · obtain rfl : j = blen := by omega
      have HE : Hid (all = No.srt (No.lt bs) l) := Lib.hid (No.bars_end HV.out (by have h := HI.out; rw [← HN.out] at h; exact h))
      obtain ⟨hNl, A3, c3, rfl, L3, _⟩ := own_o HO.out
      rw [HE.out] at L3 hNl
      have HSL : (No.srt (No.lt bs) l).length = len := by rw [(No.srt_perm l).length_eq]; exact HM.out
      obtain rfl : N = len := by omega
      have HL3 := Lib.hid L3
      have HSL2 := Lib.hid HSL
      have hS1 := HS1.out.below hX
      clear L3 hNl HSL
      go_wp2_with fail
      refine (rsameo_is _ _ _ _ _ _ HSL2.out (by omega) _ HL3.out hS1).mono ?_; rintro e z4 ⟨rfl, hb⟩
      go_wp2_with fail
      go_ret
      exact ⟨rfl, HB1.out.trans ((hX.trans (hb.mono hX.size)).mono HB1.out.size)⟩
end Go.Proofs.YthamkigdpgajaaaDoor
