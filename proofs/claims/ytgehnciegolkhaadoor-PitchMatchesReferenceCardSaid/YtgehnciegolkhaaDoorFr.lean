/- The walk of pitch's read. -/
import Derived.Test.YtgehnciegolkhaaDoorFi
import Derived.Test.YtgehnciegolkhaaDoorFe
namespace Go.Proofs.YtgehnciegolkhaaDoor
open Go.RowKit

theorem Var3.set0 {w : World} {b : Nat} {x y z : Int} (h : Var3 w b x y z) (v : Int) : Var3 (w.setCell ⟨b, 0, none⟩ (.int .i64 v)) b v y z := by
  obtain ⟨⟨l, c0, c1, c2⟩, f0, f1, f2⟩ := h
  refine ⟨⟨?_, ?_, ?_, ?_⟩, ?_, ?_, ?_⟩
  · simpa using l
  all_goals go_simp
theorem Var3.set2 {w : World} {b : Nat} {x y z : Int} (h : Var3 w b x y z) (v : Int) : Var3 (w.setCell ⟨b, 2, none⟩ (.int .i64 v)) b x y v := by
  obtain ⟨⟨l, c0, c1, c2⟩, f0, f1, f2⟩ := h
  refine ⟨⟨?_, ?_, ?_, ?_⟩, ?_, ?_, ?_⟩
  · simpa using l
  all_goals go_simp
theorem Var3.iterAt {w : World} {b k : Nat} {x y z : Int} (h : Var3 w b x y z) (s : ByteArray) (pos : Nat) (hne : b ≠ k) : Var3 (w.iterAt k s pos) b x y z := by
  have hb := Lib.iterAt_other w k b s pos hne
  obtain ⟨⟨l, c0, c1, c2⟩, f0, f1, f2⟩ := h
  exact ⟨⟨by rw [Lib.iterAt_size]; exact l, (World.cell?_of_block (w := w) hb).trans c0, (World.cell?_of_block (w := w) hb).trans c1, (World.cell?_of_block (w := w) hb).trans c2⟩,
    (World.frozen?_of_block (w := w) hb).trans f0, (World.frozen?_of_block (w := w) hb).trans f1, (World.frozen?_of_block (w := w) hb).trans f2⟩
theorem iter_set {w : World} {k b o : Nat} {v : Value} {x : Obj} (h : w.heap[k]? = some x) (hne : k ≠ b) : (w.setCell ⟨b, o, none⟩ v).heap[k]? = some x :=
  (Below.heap_setCell w ⟨b, o, none⟩ v k hne).trans h

/-- Where the reading of a string stands. -/
structure Rd (s : ByteArray) (w wr : World) (pos f : Nat) (S A O g : Int) : Prop where
  it : wr.heap[w.heap.size + 2]? = some (.stringIter s pos)
  bel : Below w.heap.size w wr
  p : Var3 wr (w.heap.size + 1) S A O
  out : Var3 wr w.heap.size 0 0 0
  rest : Tx.rdFrom s f pos S A O g = Tx.rd s
  fuel : s.size < pos + f
theorem Rd.lt {s : ByteArray} {w wr : World} {pos f : Nat} {S A O g : Int} (h : Rd s w wr pos f S A O g) : w.heap.size + 2 < wr.heap.size := (Array.getElem?_eq_some_iff.1 h.it).1
/-- A rune further; the reading is carried on by hand behind it. -/
structure Rn (s : ByteArray) (w wr : World) (pos f : Nat) (S A O : Int) : Prop where
  it : wr.heap[w.heap.size + 2]? = some (.stringIter s pos)
  bel : Below w.heap.size w wr
  p : Var3 wr (w.heap.size + 1) S A O
  out : Var3 wr w.heap.size 0 0 0
  fuel : s.size < pos + f
theorem Rn.below {s : ByteArray} {w wr w' : World} {pos f : Nat} {S A O : Int} (h : Rn s w wr pos f S A O) (hb : Below wr.heap.size wr w') : Rn s w w' pos f S A O :=
  ⟨(hb.block _ (Array.getElem?_eq_some_iff.1 h.it).1).trans h.it, h.bel.trans (hb.mono h.bel.size), h.p.below hb, h.out.below hb, h.fuel⟩
theorem Rn.set0 {s : ByteArray} {w wr : World} {pos f : Nat} {S A O : Int} (h : Rn s w wr pos f S A O) (v : Int) : Rn s w (wr.setCell ⟨w.heap.size + 1, 0, none⟩ (.int .i64 v)) pos f v A O :=
  ⟨iter_set h.it (by omega), h.bel.setCell (by simp) _, h.p.set0 v, h.out.setNe _ (by omega), h.fuel⟩
theorem Rn.set1 {s : ByteArray} {w wr : World} {pos f : Nat} {S A O : Int} (h : Rn s w wr pos f S A O) (v : Int) : Rn s w (wr.setCell ⟨w.heap.size + 1, 1, none⟩ (.int .i64 v)) pos f S v O :=
  ⟨iter_set h.it (by omega), h.bel.setCell (by simp) _, h.p.set1 v, h.out.setNe _ (by omega), h.fuel⟩
theorem Rn.set2 {s : ByteArray} {w wr : World} {pos f : Nat} {S A O : Int} (h : Rn s w wr pos f S A O) (v : Int) : Rn s w (wr.setCell ⟨w.heap.size + 1, 2, none⟩ (.int .i64 v)) pos f S A v :=
  ⟨iter_set h.it (by omega), h.bel.setCell (by simp) _, h.p.set2 v, h.out.setNe _ (by omega), h.fuel⟩
theorem Rn.to {s : ByteArray} {w wr : World} {pos f : Nat} {S A O g : Int} (h : Rn s w wr pos f S A O) (e : Tx.rdFrom s f pos S A O g = Tx.rd s) : Rd s w wr pos f S A O g := ⟨h.it, h.bel, h.p, h.out, e, h.fuel⟩
theorem width_pos (s : ByteArray) (pos : Nat) : 1 ≤ (Utf8.decode s pos).2 := by
  simp only [Utf8.decode]
  (repeat' split) <;> simp

set_option maxHeartbeats 1600000 in
theorem read_is (s : ByteArray) (X Y Z : Int) (h : Tx.rd s = (X, Y, Z)) (w : World) :
    Calls Tryd.prog 41 #[.string s] w fun e w' => e = .returned (.agg #[.int .i64 X, .int .i64 Y, .int .i64 Z]) ∧ Below w.heap.size w w' := by
  have H := Lib.hid h
  clear h
  go_enter Tryd.func41, Tryd.ntmps41
  go_wp2
  go_loopw [4] (fun s4 wr => ∃ (pos f : Nat) (S A O g : Int), s4 = .int .i64 g ∧ Rd s w wr pos f S A O g) (fun _ wr => s.size - wr.iterPos (w.heap.size + 2))
  case atStart =>
    refine ⟨0, s.size + 1, 0, 0, 0, 1, rfl, ?_, ?_, ?_, ?_, rfl, by omega⟩
    · have := World.iter_heap ((w.alloc (.cells #[.int .i64 0, .int .i64 0, .int .i64 0] 23)).alloc (.cells #[.int .i64 0, .int .i64 0, .int .i64 0] 23)) s 0
      simpa using this
    · exact (((Below.refl _ w).alloc (Nat.le_refl _) _).alloc (by simp) _).alloc (by simp; omega) _
    · have := (Var3.new (w.alloc (.cells #[.int .i64 0, .int .i64 0, .int .i64 0] 23)) 0 0 0 23).alloc (.stringIter s 0)
      rw [World.size_alloc] at this
      exact this
    · exact ((Var3.new w 0 0 0 23).alloc _).alloc _
  case round =>
    obtain ⟨pos, f, S, A, O, g, rfl, R⟩ := hrel
    by_cases hp : pos < s.size
    · have hnx : ∀ ty, (Instr.next (.pointer (some ⟨w.heap.size + 2, 0, none⟩)) true ty).run Tryd.prog wr = _ := fun ty => Lib.run_next_any_at wr (w.heap.size + 2) s pos ty R.it hp
      have hd1 := decode_le s pos
      have hd2 := width_pos s pos
      obtain ⟨f, rfl⟩ : ∃ f', f = f' + 1 := ⟨f - 1, by have := R.fuel; omega⟩
      have hre := R.rest
      unfold Tx.rdFrom at hre
      rw [if_pos hp] at hre
      have N : Rn s w (wr.iterAt (w.heap.size + 2) s (pos + (Utf8.decode s pos).2)) (pos + (Utf8.decode s pos).2) f S A O :=
        ⟨Lib.iterAt_heap _ _ _ _ _ R.it, Lib.below_iterAt R.bel (by omega) _ _, R.p.iterAt _ _ (by omega), R.out.iterAt _ _ (by omega), by have := R.fuel; omega⟩
      have hit := R.it
      clear R
      have HM : Hid ((wr.iterAt (w.heap.size + 2) s (pos + (Utf8.decode s pos).2)).iterPos (w.heap.size + 2) = pos + (Utf8.decode s pos).2) := Lib.hid (by simp only [World.iterPos, N.it])
      have HP : Hid (wr.iterPos (w.heap.size + 2) = pos) := Lib.hid (by simp only [World.iterPos, hit])
      generalize wr.iterAt (w.heap.size + 2) s (pos + (Utf8.decode s pos).2) = wi at *
      generalize (Utf8.decode s pos).1 = r at *
      generalize (Utf8.decode s pos).2 = d at *
      have HI := Lib.hid hit
      clear hit
      unfold Tx.step at hre
      by_cases k0 : pos = 0
      · subst k0
        rw [if_pos rfl] at hre
        simp only [] at hre
        go_wp2_with fail
        refine (irune_is r _ rfl _).mono ?_; rintro e w2 ⟨rfl, hb⟩
        replace N := N.below hb
        clear hb
        have p0 := N.p.at3.c0; have p1 := N.p.at3.c1; have p2 := N.p.at3.c2
        have q0 := N.p.f0; have q1 := N.p.f1; have q2 := N.p.f2
        go_wp2
        go_roundw
        case rel => exact ⟨_, f, _, _, _, _, rfl, (N.set0 _).to hre⟩
        case measure =>
          simp only [World.iterPos, (N.set0 _).it, HI.out]
          omega
      · rw [if_neg k0] at hre
        have k0' : ((pos : Int) == 0) = false := by simp; omega
        have p0 := N.p.at3.c0; have p1 := N.p.at3.c1; have p2 := N.p.at3.c2
        have q0 := N.p.f0; have q1 := N.p.f1; have q2 := N.p.f2
        by_cases k1 : r = 35
        · subst k1
          rw [if_pos rfl] at hre
          simp only [] at hre
          go_wp2
          go_roundw
          case rel => exact ⟨_, f, _, _, _, _, rfl, (N.set1 _).to hre⟩
          case measure =>
            simp only [World.iterPos, (N.set1 _).it, HI.out]
            omega
        · rw [if_neg k1] at hre
          have k1' : ((r : Int) == 35) = false := by simp; omega
          by_cases k2 : r = 98
          · subst k2
            rw [if_pos rfl] at hre
            simp only [] at hre
            go_wp2
            go_roundw
            case rel => exact ⟨_, f, _, _, _, _, rfl, (N.set1 _).to hre⟩
            case measure =>
              simp only [World.iterPos, (N.set1 _).it, HI.out]
              omega
          · rw [if_neg k2] at hre
            have k2' : ((r : Int) == 98) = false := by simp; omega
            by_cases k3 : r = 45
            · subst k3
              rw [if_pos rfl] at hre
              simp only [] at hre
              go_wp2
              go_roundw
              case rel => exact ⟨_, f, _, _, _, _, rfl, (N).to hre⟩
              case measure =>
                simp only [World.iterPos, (N).it, HI.out]
                omega
            · rw [if_neg k3] at hre
              have k3' : ((r : Int) == 45) = false := by simp; omega
              by_cases k4 : 48 ≤ r ∧ r ≤ 57
              · rw [if_pos k4] at hre
                simp only [] at hre
                obtain ⟨k4, k5⟩ := k4
                have k6 : (48 : Int) ≤ r := by omega
                have k7 : (r : Int) ≤ 57 := by omega
                go_wp2
                go_roundw
                case rel => exact ⟨_, f, _, _, _, _, rfl, (N.set2 _).to hre⟩
                case measure =>
                  simp only [World.iterPos, (N.set2 _).it, HI.out]
                  omega
              · rw [if_neg k4] at hre
                simp only [] at hre
                by_cases k5 : 48 ≤ r
                · have k6 : (48 : Int) ≤ r := by omega
                  have k7 : ¬ (r : Int) ≤ 57 := by omega
                  go_wp2
                  go_roundw
                  case rel => exact ⟨_, f, _, _, _, _, rfl, (N).to hre⟩
                  case measure =>
                    simp only [World.iterPos, (N).it, HI.out]
                    omega
                · have k6 : ¬ (48 : Int) ≤ r := by omega
                  go_wp2
                  go_roundw
                  case rel => exact ⟨_, f, _, _, _, _, rfl, (N).to hre⟩
                  case measure =>
                    simp only [World.iterPos, (N).it, HI.out]
                    omega
    · have hnx : ∀ ty, (Instr.next (.pointer (some ⟨w.heap.size + 2, 0, none⟩)) true ty).run Tryd.prog wr = _ := fun ty => Lib.run_next_end_at wr (w.heap.size + 2) s pos ty R.it hp
      have hre := (Tx.rdFrom_end hp).symm.trans (R.rest.trans H.out)
      simp only [Prod.mk.injEq] at hre
      obtain ⟨rfl, rfl, hZ⟩ := hre
      have p0 := R.p.at3.c0; have p1 := R.p.at3.c1; have p2 := R.p.at3.c2
      have q0 := R.p.f0; have q1 := R.p.f1; have q2 := R.p.f2
      have o0 := R.out.at3.c0; have o1 := R.out.at3.c1; have o2 := R.out.at3.c2
      have f0 := R.out.f0; have f1 := R.out.f1; have f2 := R.out.f2
      have G := R.bel
      have lt := R.lt
      go_wp2
      refine bodyPost_ret (v := .agg #[.int .i64 S, .int .i64 A, .int .i64 Z]) (by simp [results, Tryd.results41, go_sem, o0, o1, o2]) rfl ⟨rfl, ?_⟩
      exact (((G.setCell (by simp) _).setCell (by simp) _).setCell (by simp) _).setCell (by simp) _
end Go.Proofs.YtgehnciegolkhaaDoor
