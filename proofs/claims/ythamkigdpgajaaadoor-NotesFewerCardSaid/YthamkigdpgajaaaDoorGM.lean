import Derived.Test.YthamkigdpgajaaaDoorGL
import Derived.ChangeKeysEq
import Derived.Test.YthamkigdpgajaaaDoorGD
import Derived.Deep.AppendLies
import Derived.ArgAppend
/- The walk of the reference's SameSpans. -/
namespace Go.Proofs.YthamkigdpgajaaaDoor
open Go.RowKit

set_option maxRecDepth 100000 in
theorem eqRat (a b c d : Int) (w : World) : (Go.Op.equalIn 9999 38 (.agg #[.int .i64 a, .int .i64 b]) (.agg #[.int .i64 c, .int .i64 d])).run Tryd.prog w = .ok (a == c && b == d) w := by
  rw [run_equalIn_struct w 9998 38 _ _ (by kernel_rfl) (by kernel_rfl)]
  have p1 : (part 3 #[.int .i64 a, .int .i64 b] 0).run Tryd.prog w = .ok (.int .i64 a) w := run_part_plain w (by kernel_rfl) rfl
  have p2 : (part 3 #[.int .i64 c, .int .i64 d] 0).run Tryd.prog w = .ok (.int .i64 c) w := run_part_plain w (by kernel_rfl) rfl
  have p3 : (part 3 #[.int .i64 a, .int .i64 b] 1).run Tryd.prog w = .ok (.int .i64 b) w := run_part_plain w (by kernel_rfl) rfl
  have p4 : (part 3 #[.int .i64 c, .int .i64 d] 1).run Tryd.prog w = .ok (.int .i64 d) w := run_part_plain w (by kernel_rfl) rfl
  have q1 := run_equalIn_int w 9997 3 .i64 .i64 a c Tryd.underlying3
  have q2 := run_equalIn_int w 9997 3 .i64 .i64 b d Tryd.underlying3
  have hm : (Tryd.prog.fieldsOf 38).toList.map (fun f => (f.name, f.type, f.offset)) = [("N", 3, 0), ("D", 3, 1)] := by kernel_rfl
  generalize (Tryd.prog.fieldsOf 38).toList = L at hm ⊢
  rcases L with _ | ⟨f1, _ | ⟨f2, _ | ⟨f3, L⟩⟩⟩ <;> simp only [List.map_cons, List.map_nil, List.cons.injEq, Prod.mk.injEq, and_true, reduceCtorEq, and_false] at hm
  obtain ⟨⟨n1, t1, o1⟩, n2, t2, o2⟩ := hm
  replace n1 : f1.name ≠ "_" := by rw [n1]; decide
  replace n2 : f2.name ≠ "_" := by rw [n2]; decide
  unfold Op.eqFields
  rw [if_pos n1, t1, o1]
  simp only [Sem.run_bind, p1, p2, q1, Result.andThen_ok]
  cases (a == c)
  · simp
  · simp only [Bool.not_true, Bool.false_eq_true, if_false, Bool.true_and]
    unfold Op.eqFields
    rw [if_pos n2, t2, o2]
    simp only [Sem.run_bind, p3, p4, q2, Result.andThen_ok]
    cases (b == d) <;> simp [Op.eqFields]
theorem infoRatA : (Tryd.prog.info? 38).map (fun i => (i.zero, i.size, i.bytes)) = some (some (.agg #[.int .i64 0, .int .i64 0]), 2, 16) := by kernel_rfl
theorem part_rat (l : Array Value) (off : Nat) (x y : Int) (w : World) (h : l.extract off (off + 2) = #[.int .i64 x, .int .i64 y]) : (part 38 l off).run Tryd.prog w = .ok (.agg #[.int .i64 x, .int .i64 y]) w := by
  have a := Tryd.isAgg38 w
  unfold part
  simp [Sem.run_bind, a, h]
set_option maxRecDepth 100000 in
theorem eqRat2 (a b c d a' b' c' d' : Int) (f : Bool) (h : decide ((a = a' ∧ b = b') ∧ c = c' ∧ d = d') = f) (w : World) : (Go.Op.equalIn 10000 52 (.agg #[.int .i64 a, .int .i64 b, .int .i64 c, .int .i64 d]) (.agg #[.int .i64 a', .int .i64 b', .int .i64 c', .int .i64 d'])).run Tryd.prog w = .ok f w := by
  obtain ⟨i, hi, _, hz, _⟩ := info_parts infoRatA
  have p1 := part_rat #[.int .i64 a, .int .i64 b, .int .i64 c, .int .i64 d] (0 * 2) a b w rfl
  have p2 := part_rat #[.int .i64 a', .int .i64 b', .int .i64 c', .int .i64 d'] (0 * 2) a' b' w rfl
  have p3 := part_rat #[.int .i64 a, .int .i64 b, .int .i64 c, .int .i64 d] (1 * 2) c d w rfl
  have p4 := part_rat #[.int .i64 a', .int .i64 b', .int .i64 c', .int .i64 d'] (1 * 2) c' d' w rfl
  have q1 := eqRat a b a' b' w
  have q2 := eqRat c d c' d' w
  rw [run_equalIn_array w 9999 _ _ Tryd.underlying52 hi, show Tryd.prog.cellsOf 38 = 2 by kernel_rfl, show List.range 2 = [0, 1] from rfl, ← h]
  simp only [Go.Op.eqItems, Sem.run_bind, p1, p2, q1, Result.andThen_ok]
  obtain ⟨f1, h1⟩ : ∃ f1, (a == a' && b == b') = f1 := ⟨_, rfl⟩
  obtain ⟨f2, h2⟩ : ∃ f2, (c == c' && d == d') = f2 := ⟨_, rfl⟩
  have h3 : decide ((a = a' ∧ b = b') ∧ c = c' ∧ d = d') = (f1 && f2) := by
    rw [← h1, ← h2, Bool.eq_iff_iff]
    simp
  rw [h3, h1]
  cases f1
  · rfl
  · simp only [Sem.run_bind, p3, p4, q2, Result.andThen_ok, Bool.not_true, Bool.false_eq_true, if_false]
    rw [h2]
    cases f2 <;> rfl
end Go.Proofs.YthamkigdpgajaaaDoor

/- The walk of the reference's SameSpans. -/
namespace Go.Proofs.YthamkigdpgajaaaDoor
open Go.RowKit Mt

theorem o_inj {a b : Nat} (h1 : oN a = oN b) (h2 : oD a = oD b) : a = b := by
  have e1 := o_mul a
  have e2 := o_mul b
  have p := (oD_pos b).1
  rw [h1, h2, e2] at e1
  have := Int.eq_of_mul_eq_mul_right (by omega : oD b ≠ 0) e1
  omega
theorem sp_eq {s t : No.Sp} (hs : 0 ≤ s.1 ∧ 0 ≤ s.2) (ht : 0 ≤ t.1 ∧ 0 ≤ t.2) : ((oN s.1.toNat = oN t.1.toNat ∧ oD s.1.toNat = oD t.1.toNat) ∧ oN s.2.toNat = oN t.2.toNat ∧ oD s.2.toNat = oD t.2.toNat) ↔ s = t := by
  constructor
  · rintro ⟨⟨h1, h2⟩, h3, h4⟩
    have a := o_inj h1 h2
    have b := o_inj h3 h4
    exact Prod.ext (by omega) (by omega)
  · rintro rfl
    exact ⟨⟨rfl, rfl⟩, rfl, rfl⟩
/-- No span begins before the bar. -/
def NnS (l : List No.Sp) : Prop := ∀ s ∈ l, 0 ≤ s.1 ∧ 0 ≤ s.2
def atS (l : List No.Sp) (k : Nat) : No.Sp := l[k]?.getD (0, 0)
theorem NnS.at {l : List No.Sp} (h : NnS l) {k : Nat} (hk : k < l.length) : 0 ≤ (atS l k).1 ∧ 0 ≤ (atS l k).2 := by
  unfold atS
  rw [List.getElem?_eq_getElem hk]
  exact h _ (List.getElem_mem hk)
theorem atS_ext {a b : List No.Sp} (h : a.length = b.length) (H : ∀ k, k < a.length → atS a k = atS b k) : a = b := by
  refine List.ext_getElem h fun k h1 h2 => ?_
  have := H k h1
  unfold atS at this
  rw [List.getElem?_eq_getElem h1, List.getElem?_eq_getElem h2] at this
  exact this
theorem SlR.cells {w : World} {A : Option Addr} {l : List No.Sp} (h : SlR w A l) {k : Nat} (hk : k < l.length) : ∃ b off, A = some ⟨b, off, none⟩ ∧ b < w.heap.size ∧ w.cell? ⟨b, off + k * 4, none⟩ = some (.int .i64 (oN (atS l k).1.toNat)) ∧ w.cell? ⟨b, off + k * 4 + 1, none⟩ = some (.int .i64 (oD (atS l k).1.toNat)) ∧ w.cell? ⟨b, off + k * 4 + 2, none⟩ = some (.int .i64 (oN (atS l k).2.toNat)) ∧ w.cell? ⟨b, off + k * 4 + 3, none⟩ = some (.int .i64 (oD (atS l k).2.toNat)) := by
  obtain ⟨b, off, e, hlt, hc⟩ := h (by omega)
  exact ⟨b, off, e, hlt, hc k hk 0 _ rfl, hc k hk 1 _ rfl, hc k hk 2 _ rfl, hc k hk 3 _ rfl⟩
set_option maxHeartbeats 1600000 in
theorem rsames_is (X Y : List No.Sp) (n m cap cap2 : Nat) (A C : Option Addr) (hX : X.length = n) (hY : Y.length = m) (hn : n ≤ 1000000) (hm : m ≤ 1000000) (pX : NnS X) (pY : NnS Y) (d : Bool) (hd : decide (X = Y) = d) (w : World) (hL : SlR w A X) (hL2 : SlR w C Y) :
    Calls Tryd.prog 20 #[.slice A n cap, .slice C m cap2] w fun e w' => e = .returned (.bool d) ∧ Below w.heap.size w w' := by
  have HL := Lib.hid hL
  have HK := Lib.hid hL2
  have HX := Lib.hid hX
  have HY := Lib.hid hY
  have HD := Lib.hid hd
  clear hL hL2 hX hY hd
  go_enter Tryd.func20, Tryd.ntmps20
  have hb0 : Below w.heap.size w w := Below.refl _ _
  by_cases hnm : n = m
  · subst hnm
    go_wp2_with fail
    go_loopw [5] (fun s5 wr => ∃ (i : Nat), i ≤ n ∧ s5 = .int .i64 (i : Int) ∧ (∀ k, k < i → atS X k = atS Y k) ∧ Below w.heap.size w wr) (fun s5 _ => n - (intOf s5).toNat)
    case atStart => exact ⟨0, Nat.zero_le _, rfl, (fun k h => absurd h (Nat.not_lt_zero k)), hb0⟩
    case round =>
      obtain ⟨i, hi, rfl, hS, hB⟩ := hrel
      have HS := Lib.hid hS
      clear hS
      by_cases hlt : i < n
      · have hx : i < X.length := by rw [HX.out]; exact hlt
        have hy : i < Y.length := by rw [HY.out]; exact hlt
        obtain ⟨bb, off, rfl, hbb, c0, c1, c2, c3⟩ := SlR.cells (HL.out) hx
        obtain ⟨bd, ofd, rfl, hbd, e0, e1, e2, e3⟩ := SlR.cells (HK.out) hy
        have q := sp_eq (pX.at hx) (pY.at hy)
        have x0 := fun y : Ext wr => y.cell ((hB.cell (p := ⟨bb, off + i * 4, none⟩) hbb).trans c0)
        have x1 := fun y : Ext wr => y.cell ((hB.cell (p := ⟨bb, off + i * 4 + 1, none⟩) hbb).trans c1)
        have x2 := fun y : Ext wr => y.cell ((hB.cell (p := ⟨bb, off + i * 4 + 2, none⟩) hbb).trans c2)
        have x3 := fun y : Ext wr => y.cell ((hB.cell (p := ⟨bb, off + i * 4 + 3, none⟩) hbb).trans c3)
        have y0 := fun y : Ext wr => y.cell ((hB.cell (p := ⟨bd, ofd + i * 4, none⟩) hbd).trans e0)
        have y1 := fun y : Ext wr => y.cell ((hB.cell (p := ⟨bd, ofd + i * 4 + 1, none⟩) hbd).trans e1)
        have y2 := fun y : Ext wr => y.cell ((hB.cell (p := ⟨bd, ofd + i * 4 + 2, none⟩) hbd).trans e2)
        have y3 := fun y : Ext wr => y.cell ((hB.cell (p := ⟨bd, ofd + i * 4 + 3, none⟩) hbd).trans e3)
        clear c0 c1 c2 c3 e0 e1 e2 e3
        have hne := Ext.there wr
        have hq1 : (i : Int) < (n : Int) := by omega
        obtain ⟨g, hg⟩ : ∃ g, decide (atS X i = atS Y i) = g := ⟨_, rfl⟩
        have heq := fun W => eqRat2 _ _ _ _ _ _ _ _ g ((decide_eq_decide.2 q).trans hg) W
        clear hx hy q
        generalize oN (atS X i).1.toNat = a at *
        generalize oD (atS X i).1.toNat = b at *
        generalize oN (atS X i).2.toNat = c at *
        generalize oD (atS X i).2.toNat = e at *
        generalize oN (atS Y i).1.toNat = a' at *
        generalize oD (atS Y i).1.toNat = b' at *
        generalize oN (atS Y i).2.toNat = c' at *
        generalize oD (atS Y i).2.toNat = e' at *
        cases g
        · replace hg := Lib.hid hg
          go_wp2_with fail
          refine Ext.region (by kernel_rfl) (by kernel_rfl) ?_
          repeat (go_big_quiet_step (simp only [heq, Bool.not_true, Bool.not_false]))
          refine wpQuiet_nil ?_
          rintro _ ⟨xw, rfl⟩
          replace hB := hB.trans (xw.h.mono hB.size)
          clear x0 x1 x2 x3 y0 y1 y2 y3 hne heq
          generalize xw.w = w3 at *
          clear xw
          go_wp2_with fail
          go_ret
          obtain rfl : false = d := (decide_eq_false (by rintro rfl; exact absurd rfl (of_decide_eq_false hg.out))).symm.trans HD.out
          exact ⟨rfl, hB⟩
        · replace hg := Lib.hid hg
          go_wp2_with fail
          refine Ext.region (by kernel_rfl) (by kernel_rfl) ?_
          repeat (go_big_quiet_step (simp only [heq, Bool.not_true, Bool.not_false]))
          refine wpQuiet_nil ?_
          rintro _ ⟨xw, rfl⟩
          replace hB := hB.trans (xw.h.mono hB.size)
          clear x0 x1 x2 x3 y0 y1 y2 y3 hne heq
          generalize xw.w = w3 at *
          clear xw
          go_wp2_with fail
          go_roundw
          case rel =>
            refine ⟨i + 1, by omega, (by simp), fun k hk => ?_, hB⟩
            rcases Nat.lt_or_ge k i with h | h
            · exact HS.out k h
            · obtain rfl : k = i := by omega
              exact of_decide_eq_true hg.out
          case measure => simp [intOf]; omega
      · obtain rfl : i = n := by omega
        go_wp2_with fail
        go_ret
        obtain rfl : true = d := (decide_eq_true (atS_ext (HX.out.trans HY.out.symm) (fun k hk => HS.out k (by rw [HX.out] at hk; exact hk)))).symm.trans HD.out
        exact ⟨rfl, hB⟩
  · have hnm2 : ¬ ((n : Int) = (m : Int)) := by omega
    go_wp2_with fail
    go_ret
    obtain rfl : false = d := (decide_eq_false (by rintro rfl; exact hnm (HX.out.symm.trans HY.out))).symm.trans HD.out
    exact ⟨rfl, hb0⟩
end Go.Proofs.YthamkigdpgajaaaDoor

/- What the laws' head uses: rat, note; its bars and notes. -/
namespace Go.Proofs.YthamkigdpgajaaaDoor
open Go.RowKit

theorem lrat_is (n d : Int) (w : World) :
    Calls Tryd.prog 28 #[.int .i64 n, .int .i64 d] w fun e w' => e = .returned (.agg #[.int .i64 n, .int .i64 d]) ∧ Below w.heap.size w w' := by
  have G := (Below.refl w.heap.size w).alloc (Nat.le_refl _) (.cells #[.int .i64 n, .int .i64 d] 38)
  go_enter Tryd.func28, Tryd.ntmps28
  go_wp2_with fail
  exact bodyPost_ret (v := .agg #[.int .i64 n, .int .i64 d]) (by simp [results, Tryd.results28, go_sem]) rfl ⟨rfl, G⟩
theorem lnote_is (i a b c d : Int) (w : World) :
    Calls Tryd.prog 29 #[.int .i64 i, .agg #[.int .i64 a, .int .i64 b], .agg #[.int .i64 c, .int .i64 d]] w fun e w' => e = .returned (.agg #[.int .i64 i, .int .i64 2, .int .i64 5, .int .i64 0, .int .i64 0, .int .i64 a, .int .i64 b, .int .i64 c, .int .i64 d, .int .i64 0, .int .i64 0, .int .i64 4]) ∧ Below w.heap.size w w' := by
  have G := (((Below.refl w.heap.size w).alloc (Nat.le_refl _) (.cells #[.int .i64 a, .int .i64 b] 38)).alloc (by simp) (.cells #[.int .i64 c, .int .i64 d] 38)).alloc (by simp; omega) (.cells #[.int .i64 i, .int .i64 2, .int .i64 5, .int .i64 0, .int .i64 0, .int .i64 a, .int .i64 b, .int .i64 c, .int .i64 d, .int .i64 0, .int .i64 0, .int .i64 4] 42)
  go_enter Tryd.func29, Tryd.ntmps29
  go_wp2_with fail
  exact bodyPost_ret (v := .agg #[.int .i64 i, .int .i64 2, .int .i64 5, .int .i64 0, .int .i64 0, .int .i64 a, .int .i64 b, .int .i64 c, .int .i64 d, .int .i64 0, .int .i64 0, .int .i64 4]) (by simp [results, Tryd.results29, go_sem]) rfl ⟨rfl, G⟩

deriving instance DecidableEq for No.Nt
def hxB : List Mt.B := [(7, 3, 1, 0), (5, 4, 1, 0)]
def hxBC : Array Value := #[.int .i64 7, .int .i64 3, .int .i64 1, .int .i64 0, .int .i64 5, .int .i64 4, .int .i64 1, .int .i64 0]
def nA : No.Nt := ⟨9, 2, 5, 0, 0, 3, 1, 1, 2, 0, 0, 4⟩
def nB : No.Nt := ⟨2, 2, 5, 0, 0, 0, 1, 1, 1, 0, 0, 4⟩
def nC : No.Nt := ⟨4, 2, 5, 0, 0, 1, 2, 3, 2, 0, 0, 4⟩
def nO : No.Nt := ⟨8, 2, 7, 0, 0, 0, 1, 3, 1, 0, 0, 4⟩
def hxN : List No.Nt := [nA, nB, nC]
def hxNC : Array Value := (vO hxN).toArray
theorem hxB_slB {w : World} {S : Nat} (h : w.heap[S]? = some (.cells hxBC 48 (0, 0))) : SlB w (some ⟨S, 0, none⟩) hxB := fun _ =>
  ⟨S, 0, rfl, (Array.getElem?_eq_some_iff.1 h).1, fun k hk => by
    have c : ∀ j, w.cell? ⟨S, j, none⟩ = hxBC[j]? := fun j => cell_of_row w S j hxBC 48 (0, 0) h
    have hk2 : k = 0 ∨ k = 1 := by have : k < 2 := hk; omega
    rcases hk2 with rfl | rfl <;> exact ⟨c _, c _, c _, c _⟩⟩
/-- A block of notes. -/
theorem slo_of_block {w : World} {S : Nat} {l : List No.Nt} (h : w.heap[S]? = some (.cells (vO l).toArray 42 (0, 0))) : SlO w (some ⟨S, 0, none⟩) l := fun _ =>
  ⟨S, 0, rfl, (Array.getElem?_eq_some_iff.1 h).1, fun k hk => NtAt.of fun j u hj => by
    have hj12 : j < 12 := by have := (List.getElem?_eq_some_iff.1 hj).1; simpa [rowO] using this
    have c := cell_of_row w S (k * 12 + j) (vO l).toArray 42 (0, 0) h
    rw [Nat.zero_add]
    rw [c, List.getElem?_toArray, vO_at hk hj12]
    exact hj⟩
/-- A block of spans in quarters. -/
theorem slr_of_block {w : World} {S : Nat} {l : List No.Sp} (h : w.heap[S]? = some (.cells (vR l).toArray 52 (0, 0))) : SlR w (some ⟨S, 0, none⟩) l := fun _ =>
  ⟨S, 0, rfl, (Array.getElem?_eq_some_iff.1 h).1, fun k hk j u hj => by
    have hj4 : j < 4 := by have := (List.getElem?_eq_some_iff.1 hj).1; simpa [rowR] using this
    have c := cell_of_row w S (k * 4 + j) (vR l).toArray 52 (0, 0) h
    rw [Nat.zero_add]
    rw [c, List.getElem?_toArray, vR_at hk hj4]
    exact hj⟩
theorem hx_wf : Mt.Wf hxB := fun j hj => by
  have : j = 0 ∨ j = 1 := by have : j < 2 := hj; omega
  rcases this with rfl | rfl <;> decide
theorem hx_mval : Mt.Val hxB := by
  refine ⟨by decide, by decide, fun j hj => ?_, fun j k hj hk => ?_⟩
  · have : j = 0 ∨ j = 1 := by have : j < 2 := hj; omega
    rcases this with rfl | rfl <;> decide +kernel
  · have : j < 2 := hj
    have : j = 1 ∧ k = 0 := by omega
    rcases this with ⟨rfl, rfl⟩
    decide
theorem hx_ok : No.okN hxB nA ∧ No.okN hxB nB ∧ No.okN hxB nC ∧ No.okN hxB nO := by
  refine ⟨?_, ?_, ?_, ?_⟩ <;> (unfold No.okN No.isN No.start No.leng; refine ⟨?_, ?_, ?_, ?_, ?_, ?_, ?_, ?_, ?_, ?_, ?_, ?_, ?_⟩ <;> decide +kernel)
theorem hx_val : No.Val hxB hxN := ⟨hx_mval, by decide, by
  intro n hn
  simp only [hxN, List.mem_cons, List.not_mem_nil, or_false] at hn
  rcases hn with rfl | rfl | rfl
  · exact hx_ok.1
  · exact hx_ok.2.1
  · exact hx_ok.2.2.1, by decide⟩
theorem hx_val4 : No.Val hxB [nA, nO, nB, nC] := ⟨hx_mval, by decide, by
  intro n hn
  simp only [List.mem_cons, List.not_mem_nil, or_false] at hn
  rcases hn with rfl | rfl | rfl | rfl
  · exact hx_ok.1
  · exact hx_ok.2.2.2
  · exact hx_ok.2.1
  · exact hx_ok.2.2.1, by decide⟩
theorem hx_not1 : ¬ No.Val hxB (hxN ++ [nA]) := fun h => absurd h.2.2.2 (by decide)
theorem hx_not2 : ¬ No.Val (hxB.take 1) hxN := fun h => absurd (h.2.2.1 nA (by simp [hxN])).1 (by decide)
theorem hx_busy : No.busy hxB hxN 2 5 = [(0, 3360), (5040, 5880)] := by decide +kernel
theorem hx_rests : No.rests hxB hxN 2 5 = [(3360, 5040), (5880, 6720)] := by decide +kernel
theorem hx_rests7 : No.rests hxB hxN 2 7 = [(0, 5040)] := by decide +kernel
theorem hx_srt : No.srt (No.lt hxB) [nA, nO, nB, nC] = [nO, nB, nC, nA] := by decide +kernel
theorem hx_bix : No.bix hxB 6 < 0 := by decide
theorem hx_bix5 : ¬ No.bix hxB 5 < 0 := by decide
theorem hx_bix7 : ¬ No.bix hxB 7 < 0 := by decide
end Go.Proofs.YthamkigdpgajaaaDoor

/- The landed functions at the head's bars and notes. -/
namespace Go.Proofs.YthamkigdpgajaaaDoor
open Go.RowKit

theorem SlR.alloc {w : World} {A : Option Addr} {l : List No.Sp} (h : SlR w A l) (o : Obj) : SlR (w.alloc o) A l := h.below ((Below.refl _ _).alloc (Nat.le_refl _) _)
theorem hn_wf : No.Wf hxN := fun j hj => by
  have : j = 0 ∨ j = 1 ∨ j = 2 := by have : j < 3 := hj; omega
  rcases this with rfl | rfl | rfl <;> decide
theorem hn_wf4 : No.Wf [nA, nO, nB, nC] := fun j hj => by
  have : j = 0 ∨ j = 1 ∨ j = 2 ∨ j = 3 := by have : j < 4 := hj; omega
  rcases this with rfl | rfl | rfl | rfl <;> decide
theorem hn_wfa : No.Wf (hxN ++ [nA]) := fun j hj => by
  have : j = 0 ∨ j = 1 ∨ j = 2 ∨ j = 3 := by have : j < 4 := hj; omega
  rcases this with rfl | rfl | rfl | rfl <;> decide
theorem hx_wf1 : Mt.Wf (hxB.take 1) := fun j hj => by
  have : j = 0 := by have : j < 1 := hj; omega
  rcases this with rfl
  decide
theorem hdBusy (B A : Option Addr) (w : World) (hB : SlB w B hxB) (hL : SlO w A hxN) (hG : Glob w) :
    Calls Tryd.prog 18 #[.slice B 2 2, .slice A 3 3, .int .i64 2, .int .i64 5] w fun e w' => ∃ D c, e = .returned (.tuple #[.slice D 2 c, .int .i64 0]) ∧ SlR w' D [(0, 3360), (5040, 5880)] ∧ Below w.heap.size w w' := by
  refine (tbusy_is hxB hxN 2 5 2 2 3 3 B A rfl rfl hx_wf hn_wf w hB hL hG).mono ?_
  rw [hx_busy]
  rintro e w' ⟨⟨h, -⟩ | ⟨-, h, -⟩ | ⟨-, -, D, n, c, rfl, rfl, h, -⟩, hb⟩
  · exact absurd ⟨hx_val, by decide, by decide⟩ h
  · exact absurd h hx_bix5
  · exact ⟨D, c, rfl, h, hb⟩
theorem hdRests (B A : Option Addr) (w : World) (hB : SlB w B hxB) (hL : SlO w A hxN) (hG : Glob w) :
    Calls Tryd.prog 21 #[.slice B 2 2, .slice A 3 3, .int .i64 2, .int .i64 5] w fun e w' => ∃ D c, e = .returned (.tuple #[.slice D 2 c, .int .i64 0]) ∧ SlR w' D [(3360, 5040), (5880, 6720)] ∧ Below w.heap.size w w' := by
  refine (trests_is hxB hxN 2 5 2 2 3 3 B A rfl rfl hx_wf hn_wf w hB hL hG).mono ?_
  rw [hx_rests]
  rintro e w' ⟨⟨h, -⟩ | ⟨-, h, -⟩ | ⟨-, -, D, n, c, rfl, rfl, h, -⟩, hb⟩
  · exact absurd ⟨hx_val, by decide, by decide⟩ h
  · exact absurd h hx_bix5
  · exact ⟨D, c, rfl, h, hb⟩
theorem hdRests7 (B A : Option Addr) (w : World) (hB : SlB w B hxB) (hL : SlO w A hxN) (hG : Glob w) :
    Calls Tryd.prog 21 #[.slice B 2 2, .slice A 3 3, .int .i64 2, .int .i64 7] w fun e w' => ∃ D c, e = .returned (.tuple #[.slice D 1 c, .int .i64 0]) ∧ SlR w' D [(0, 5040)] ∧ Below w.heap.size w w' := by
  refine (trests_is hxB hxN 2 7 2 2 3 3 B A rfl rfl hx_wf hn_wf w hB hL hG).mono ?_
  rw [hx_rests7]
  rintro e w' ⟨⟨h, -⟩ | ⟨-, h, -⟩ | ⟨-, -, D, n, c, rfl, rfl, h, -⟩, hb⟩
  · exact absurd ⟨hx_val, by decide, by decide⟩ h
  · exact absurd h hx_bix7
  · exact ⟨D, c, rfl, h, hb⟩
theorem hdOf6 (B A : Option Addr) (w : World) (hB : SlB w B hxB) (hL : SlO w A hxN) (hG : Glob w) :
    Calls Tryd.prog 16 #[.slice B 2 2, .slice A 3 3, .int .i64 2, .int .i64 6] w fun e w' => e = .returned (.tuple #[.slice none 0 0, .int .i64 21]) ∧ Below w.heap.size w w' := by
  refine (tof_is hxB hxN 2 6 2 2 3 3 B A rfl rfl hx_wf hn_wf w hB hL hG).mono ?_
  rintro e w' ⟨⟨h, -⟩ | ⟨-, h, rfl⟩ | ⟨-, h, -⟩, hb⟩
  · exact absurd ⟨hx_val, by decide, by decide⟩ h
  · exact ⟨rfl, hb⟩
  · exact absurd hx_bix h
theorem hdOf5 (B A : Option Addr) (cap : Nat) (w : World) (hB : SlB w B hxB) (hL : SlO w A (hxN ++ [nA])) (hG : Glob w) :
    Calls Tryd.prog 16 #[.slice B 2 2, .slice A 4 cap, .int .i64 2, .int .i64 5] w fun e w' => e = .returned (.tuple #[.slice none 0 0, .int .i64 1]) ∧ Below w.heap.size w w' := by
  refine (tof_is hxB (hxN ++ [nA]) 2 5 2 2 4 cap B A rfl rfl hx_wf hn_wfa w hB hL hG).mono ?_
  rintro e w' ⟨⟨-, rfl⟩ | ⟨h, -, -⟩ | ⟨h, -, -⟩, hb⟩
  · exact ⟨rfl, hb⟩
  · exact absurd h.1 hx_not1
  · exact absurd h.1 hx_not1
theorem hdSort (B A : Option Addr) (cap : Nat) (w : World) (hB : SlB w B hxB) (hL : SlO w A [nA, nO, nB, nC]) (hG : Glob w) :
    Calls Tryd.prog 11 #[.slice B 2 2, .slice A 4 cap] w fun e w' => ∃ D c, e = .returned (.tuple #[.slice D 4 c, .int .i64 0]) ∧ SlO w' D [nO, nB, nC, nA] ∧ Below w.heap.size w w' := by
  refine (tnsort_is hxB [nA, nO, nB, nC] true 2 2 4 cap B A ⟨fun _ => hx_val4, fun _ => rfl⟩ rfl rfl hx_wf hn_wf4 w hB hL hG).mono ?_
  rw [hx_srt]
  rintro e w' ⟨hb, ⟨h, -⟩ | ⟨-, D, c, rfl, h, -⟩⟩
  · cases h
  · exact ⟨D, c, rfl, h, hb⟩
theorem hdValid (B A : Option Addr) (w : World) (hB : SlB w B hxB) (hL : SlO w A hxN) :
    Calls Tryd.prog 13 #[.slice B 2 2, .slice A 3 3] w fun e w' => e = .returned (.bool true) ∧ Below w.heap.size w w' :=
  tvalid_is hxB hxN true 2 2 3 3 B A ⟨fun _ => hx_val, fun _ => rfl⟩ rfl rfl hx_wf hn_wf w hB hL
theorem hdNot (B A : Option Addr) (w : World) (hB : SlB w B hxB) (hL : SlO w A hxN) :
    Calls Tryd.prog 13 #[.slice B 1 2, .slice A 3 3] w fun e w' => e = .returned (.bool false) ∧ Below w.heap.size w w' :=
  tvalid_is (hxB.take 1) hxN false 1 2 3 3 B A ⟨(fun h => by cases h), fun h => absurd h hx_not2⟩ rfl rfl hx_wf1 hn_wf w (fun _ => by
    obtain ⟨b, off, e, hlt, hc⟩ := hB (by decide)
    exact ⟨b, off, e, hlt, fun k hk => by
      obtain rfl : k = 0 := by have : k < 1 := hk; omega
      exact hc 0 (by decide)⟩) hL
theorem slo_news {w : World} {b off : Nat} {l : List No.Nt} (h : SlO w (some ⟨b, off, none⟩) l) : ∀ j u, (vO l)[j]? = some u → w.cell? ((⟨b, off, none⟩ : Addr).add j) = some u := by
  cases l with
  | nil => intro j u hj; simp [vO] at hj
  | cons n l =>
    obtain ⟨b', off', e, hlt, hc⟩ := h (by simp)
    cases e
    exact SlO.news hc
theorem slo_own {w : World} {base n cap : Nat} {e : TypeId} {l : List No.Nt} {v : Option Addr} (h : w.ownsRow base e 12 (.slice v n cap) n (vO l)) : SlO w v l := by
  obtain ⟨_, A, c, e, hs, _⟩ := own_o h
  cases e
  exact hs
/-- The pairs of ratios that the head builds. -/
theorem slr_new1 (w : World) : SlR (w.alloc (.cells #[.int .i64 0, .int .i64 1, .int .i64 2, .int .i64 1, .int .i64 3, .int .i64 1, .int .i64 7, .int .i64 2] 52)) (some ⟨w.heap.size, 0, none⟩) [(0, 3360), (5040, 5880)] :=
  slr_of_block (by rw [show (vR [(0, 3360), (5040, 5880)]).toArray = #[.int .i64 0, .int .i64 1, .int .i64 2, .int .i64 1, .int .i64 3, .int .i64 1, .int .i64 7, .int .i64 2] by kernel_rfl]; exact heap_alloc_new w _)
theorem slr_new2 (w : World) : SlR (w.alloc (.cells #[.int .i64 2, .int .i64 1, .int .i64 3, .int .i64 1, .int .i64 7, .int .i64 2, .int .i64 4, .int .i64 1] 52)) (some ⟨w.heap.size, 0, none⟩) [(3360, 5040), (5880, 6720)] :=
  slr_of_block (by rw [show (vR [(3360, 5040), (5880, 6720)]).toArray = #[.int .i64 2, .int .i64 1, .int .i64 3, .int .i64 1, .int .i64 7, .int .i64 2, .int .i64 4, .int .i64 1] by kernel_rfl]; exact heap_alloc_new w _)
theorem slr_new3 (w : World) : SlR (w.alloc (.cells #[.int .i64 0, .int .i64 1, .int .i64 3, .int .i64 1] 52)) (some ⟨w.heap.size, 0, none⟩) [(0, 5040)] :=
  slr_of_block (by rw [show (vR [(0, 5040)]).toArray = #[.int .i64 0, .int .i64 1, .int .i64 3, .int .i64 1] by kernel_rfl]; exact heap_alloc_new w _)
theorem nns_1 : NnS [(0, 3360), (5040, 5880)] := by unfold NnS; decide
theorem nns_2 : NnS [(3360, 5040), (5880, 6720)] := by unfold NnS; decide
theorem nns_3 : NnS [(0, 5040)] := by unfold NnS; decide
/-- 'append' of some notes to a full slice. -/
theorem exec_app {P : Program} {o : Oper} {a : Act} {w : World} (s x : Operand) (t : TypeId) (hop : o.op = Op.call { callee := Callee.builtin Builtin.append, args := #[s, x], argTypes := #[t, t] })
    (e : TypeId) (i : TypeInfo) (z : Value) (size bytes : Nat) (h1 : P.underlying t = some (.slice e)) (h2 : P.info? e = some i) (h3 : i.zero = some z) (h4 : i.size = size) (h5 : i.bytes = bytes) (h6 : z.cells.size = size) (h7 : 0 < size)
    (b : Addr) (n cap : Nat) (olds : List Value) (hs : a.eval s = .slice (some b) n cap) (hlo : olds.length = n * size) (holds : ∀ j u, olds[j]? = some u → w.cell? (b.add j) = some u)
    (ad : Addr) (m c : Nat) (news : List Value) (hx : a.eval x = .slice (some ad) m c) (hn : news.length = m * size) (hc : ∀ j u, news[j]? = some u → w.cell? (ad.add j) = some u) (hm : 0 < m)
    (hfull : cap < n + m) (b1 : n + m ≤ maxLen) (b2 : (n + m) * bytes ≤ 140737488355328) {R : Value → World → Prop}
    (hR : ∀ g cap' w', w'.ownsRow w.heap.size e size (.slice (some ⟨g, 0, none⟩) (n + m) cap') (n + m) (olds ++ news) → Below w.heap.size w w' → g < w'.heap.size → R (.slice (some ⟨g, 0, none⟩) (n + m) cap') w') :
    ∃ v w'', (execOp a.eval o).run P w = .ok (.value v) w'' ∧ R v w'' := by
  obtain ⟨v', w', hrun, r1, r2⟩ := run_append_arg_grows (P := P) w t o.type e i z size bytes h1 h2 h3 h4 h5 h6 h7 b n cap olds hlo holds ad m c news hn hc hfull b1 b2
  obtain ⟨g, cap', rfl, _, hlt⟩ := r1.form (by omega)
  refine ⟨_, w', ?_, hR g cap' w' r1 ((Below.refl _ w).grown r2 (by simp) (fun j hj => by cases hj)) hlt⟩
  simp [execOp, hop, resolve, invoke, builtin, hs, hx, hrun, Result.andThen]
/-- Behind the operations of region 7 that make memory. -/
def h7C (W : World) (vs : List Value) (w : World) : Prop := Below W.heap.size W w ∧ match vs with
  | [] => True
  | [v] => ∃ g, v = .slice (some ⟨g, 0, none⟩) 2 2 ∧ SlO w (some ⟨g, 0, none⟩) [nA, nO]
  | [_, v] => ∃ g cap, v = .slice (some ⟨g, 0, none⟩) 4 cap ∧ SlO w (some ⟨g, 0, none⟩) [nA, nO, nB, nC]
  | [_, _, v] => ∃ D c, v = .tuple #[.slice D 4 c, .int .i64 0] ∧ SlO w D [nO, nB, nC, nA]
  | _ => False
/-- Behind those of the last region. -/
def hzC (W : World) (vs : List Value) (w : World) : Prop := Below W.heap.size W w ∧ match vs with
  | [] => True
  | [v] => ∃ g, v = .slice (some ⟨g, 0, none⟩) 4 4 ∧ SlO w (some ⟨g, 0, none⟩) [nO, nB, nC, nA]
  | [_, v] => v = .bool true
  | [_, _, v] => v = .agg #[.int .i64 0, .int .i64 1]
  | [_, _, _, v] => v = .agg #[.int .i64 3, .int .i64 1]
  | [_, _, _, _, v] => ∃ g, v = .slice (some ⟨g, 0, none⟩) 1 1 ∧ SlR w (some ⟨g, 0, none⟩) [(0, 5040)]
  | [_, _, _, _, _, v] => v = .bool true
  | [_, _, _, _, _, _, v] => v = .bool true
  | [_, _, _, _, _, _, _, v] => v = .bool false
  | _ => False
end Go.Proofs.YthamkigdpgajaaaDoor
