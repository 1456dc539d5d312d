/- The walk of the landed codec's first. -/
import Derived.Test.YtnnhpbkhfaaaeaaEg
import Derived.Test.YtnnhpbkhfaaaeaaCx
import Derived.ChangeKeysEq
namespace Go.Proofs.Ytnnhpbkhfaaaeaa
open Go.RowKit

theorem run_items (xs ys : Array Value) (a b : List Nat) (d : Nat) (w : World) : ∀ (is : List Nat), (∀ j ∈ is, xs[j]? = some (.int .u8 (atN a j : Int)) ∧ ys[j]? = some (.int .u8 (atN b j : Int))) →
    (Go.Op.eqItems (d + 1) 5 1 xs ys is).run Try.prog w = .ok (is.all fun j => (atN a j : Int) == (atN b j : Int)) w
  | [], _ => by simp [Go.Op.eqItems]
  | j :: is, h => by
    obtain ⟨h1, h2⟩ := h j (by simp)
    have ih := run_items xs ys a b d w is (fun k hk => h k (by simp [hk]))
    have p1 : (part 5 xs (j * 1)).run Try.prog w = .ok (.int .u8 (atN a j : Int)) w := run_part_plain w (by kernel_rfl) (by rw [Nat.mul_one]; exact h1)
    have p2 : (part 5 ys (j * 1)).run Try.prog w = .ok (.int .u8 (atN b j : Int)) w := run_part_plain w (by kernel_rfl) (by rw [Nat.mul_one]; exact h2)
    have p3 := run_equalIn_int w d 5 .u8 .u8 (atN a j : Int) (atN b j : Int) Try.underlying5
    simp only [Go.Op.eqItems, Sem.run_bind, p1, p2, p3, Result.andThen_ok, List.all_cons]
    cases hc : ((atN a j : Int) == (atN b j : Int))
    · simp
    · simpa using ih
theorem eq47 (a b : List Nat) (f : Bool) (ha : a.length = 8) (hb : b.length = 8) (h : decide (a = b) = f) (w : World) : (Go.Op.equalIn 10000 47 (.agg (vN .u8 a).toArray) (.agg (vN .u8 b).toArray)).run Try.prog w = .ok f w := by
  obtain ⟨i, hi, _, hz, _⟩ := info_parts infoByte
  rw [run_equalIn_array w 9999 _ _ Try.underlying47 hi, show Try.prog.cellsOf 5 = 1 by kernel_rfl, run_items _ _ a b 9998 w (List.range 8) (fun j hj => ?_)]
  · congr 1
    rw [← h]
    by_cases e : a = b
    · subst e
      rw [decide_eq_true rfl]
      simp
    · rw [decide_eq_false e]
      cases hh : ((List.range 8).all fun j => (atN a j : Int) == (atN b j : Int)) with
      | false => rfl
      | true =>
        exfalso
        apply e
        apply List.ext_getElem?
        intro j
        by_cases hj : j < 8
        · have := List.all_eq_true.1 hh j (List.mem_range.2 hj)
          have e2 : atN a j = atN b j := by
            have e3 : (atN a j : Int) = (atN b j : Int) := by simpa using this
            omega
          rw [List.getElem?_eq_getElem (by omega), List.getElem?_eq_getElem (by omega), ← atN_eq (by omega), ← atN_eq (by omega), e2]
        · rw [List.getElem?_eq_none (by omega), List.getElem?_eq_none (by omega)]
  · have hj8 := List.mem_range.1 hj
    exact ⟨by rw [List.getElem?_toArray]; exact vN_at (by omega), by rw [List.getElem?_toArray]; exact vN_at (by omega)⟩

theorem arr47 (w : World) (a : Option Addr) (l c : Nat) (h : 8 ≤ l) : (Instr.arrayAt 47 (.slice a l c)).run Try.prog w = .ok (.pointer a) w := by
  have h2 : ¬ l < 8 := by omega
  simp [Instr.arrayAt, Sem.run_bind, run_underlying Try.underlying47, Result.andThen, h2]
theorem load47_at {w : World} {bb o : Nat} {g : List Nat} (hg : g.length = 8) (hc : ∀ i, i < g.length → w.cell? ⟨bb, o + i, none⟩ = some (.int .u8 (atN g i : Int))) : (loadVar 47 ⟨bb, o, none⟩).run Try.prog w = .ok (.agg (vN .u8 g).toArray) w := by
  have hl : (loadCells ⟨bb, o, none⟩ (vN .u8 g).length).run Try.prog w = .ok (vN .u8 g).toArray w :=
    run_loadCells_list (P := Try.prog) w ⟨bb, o, none⟩ (vN .u8 g) (fun j v hv => by
      have hj : j < g.length := by have := (List.getElem?_eq_some_iff.1 hv).1; rwa [vN_length] at this
      rw [addr_off, hc j hj, ← hv, vN_at hj])
  rw [vN_length, hg] at hl
  have hi := info47
  cases hq : Try.prog.info? 47 with
  | none => simp [hq] at hi
  | some i =>
    have hs : i.size = 8 := by simpa [hq] using hi
    have hagg : (isAgg 47).run Try.prog w = .ok true w := by
      unfold isAgg
      rw [Sem.run_bind, run_underlying Try.underlying47 w]
      rfl
    simp [loadVar, Sem.run_bind, hagg, sizeOf, typeInfo, hq, hs, hl]
theorem quiet_load {P : Program} {C : World → Prop} {o : Oper} {a : Act} {K : Act → Prop} (t : TypeId) (x : Operand) (h : o.op = .load t x) (p : Addr) (v : Value) (hr : ∀ w, C w → (loadVar t p).run P w = .ok v w) (hx : a.eval x = .pointer (some p)) (hk : K (a.put o.dst v)) : o.quiet P a C K :=
  ⟨_, fun w hw => by
    unfold Oper.quietAt
    rw [show (execOp a.eval o).run P w = .ok (.value v) w by simp [execOp, h, hx, Instr.loadAt, Instr.sureAddr, hr w hw, Result.andThen]]
    exact ⟨rfl, rfl⟩, hk⟩
def FstP (O : Option (List Int × Nat)) (e : Ending) (w' : World) : Prop := match O with
  | none => ∃ k : Int, e = .returned (.tuple #[.slice none 0 0, .int .i64 k, .bool false])
  | some (l, k) => ∃ D c, e = .returned (.tuple #[.slice D l.length c, .int .i64 (k : Int), .bool true]) ∧ SlK .i64 w' D l ∧ (D = none → c = 0) ∧ TyK 3 w' D
theorem eight {l : List Nat} (h : l.length = 8) : ∃ a b c d e f g i, l = [a, b, c, d, e, f, g, i] := by
  match l, h with
  | [a, b, c, d, e, f, g, i], _ => exact ⟨a, b, c, d, e, f, g, i, rfl⟩

set_option maxHeartbeats 1600000 in
theorem first_is (b : List Nat) (O : Option (List Int × Nat)) (len cap : Nat) (A : Option Addr) (h : Cd.whole b = O) (hl : b.length = len) (hcap : len ≤ cap) (hb : Cd.by8 b) (hmax : len ≤ 1000000000) (w : World) (hL : SlN .u8 w A b) :
    Calls Try.prog 32 #[.slice A len cap] w fun e w' => FstP O e w' ∧ Below w.heap.size w w' := by
  unfold Cd.whole at h
  have HN := Lib.hid hl
  have HL := Lib.hid hL
  have HB := Lib.hid hb
  rw [hl] at h
  clear hl hL hb
  by_cases h3 : len < 3
  · rw [if_pos (by omega)] at h
    subst h
    go_enter Try.func32, Try.ntmps32
    have h3' : (len : Int) < 3 := by omega
    go_wp2_with fail
    go_ret3
    exact ⟨⟨0, rfl⟩, Below.refl _ _⟩
  obtain ⟨n, hn⟩ : ∃ n, Cd.says b = n := ⟨_, rfl⟩
  rw [hn] at h
  obtain ⟨bb, off, rfl, hbb, hc⟩ := HL.out (by rw [HN.out]; omega)
  have c0 := hc 0 (by rw [HN.out]; omega)
  rw [Nat.add_zero] at c0
  have c1 := hc 1 (by rw [HN.out]; omega)
  have c2 := hc 2 (by rw [HN.out]; omega)
  have by3 : ∀ i, i < len → atN b i < 256 := fun i hi => by
    rw [atN_eq (by rw [HN.out]; exact hi)]
    exact HB.out _ (List.getElem_mem _)
  have y0 := by3 0 (by omega)
  have y1 := by3 1 (by omega)
  have y2 := by3 2 (by omega)
  have hn2 : (atN b 0 : Int) * 65536 + (atN b 1 : Int) * 256 + (atN b 2 : Int) = (n : Int) := by unfold Cd.says at hn; omega
  have hn3 : n < 16777216 := by unfold Cd.says at hn; omega
  clear hc by3 hn
  have HO : Hid ((if len < n + 11 then none else if (b.drop (3 + n)).take 8 = Dg.be8 (Dg.sum (b.take (3 + n))) then (Cd.get ((b.drop 3).take n)).map (fun l => (l, n + 11)) else none) = O) := Lib.hid (by
    rw [← h]
    by_cases h11 : len < 11
    · rw [if_pos h11, if_pos (by omega)]
    · rw [if_neg h11]
      by_cases h12 : len < n + 11
      · rw [if_pos h12, if_pos h12]
      · rw [if_neg h12, if_neg h12]
        by_cases e : (b.drop (3 + n)).take 8 = Dg.be8 (Dg.sum (b.take (3 + n)))
        · rw [if_pos e, if_pos e.symm]
        · rw [if_neg e, if_neg (fun h => e h.symm)])
  clear h
  obtain ⟨q0, hq0⟩ : ∃ q0 : Int, q0 = (atN b 0 : Int) := ⟨_, rfl⟩
  obtain ⟨q1, hq1⟩ : ∃ q1 : Int, q1 = (atN b 1 : Int) := ⟨_, rfl⟩
  obtain ⟨q2, hq2⟩ : ∃ q2 : Int, q2 = (atN b 2 : Int) := ⟨_, rfl⟩
  rw [← hq0] at c0 hn2
  rw [← hq1] at c1 hn2
  rw [← hq2] at c2 hn2
  have z0 : 0 ≤ q0 ∧ q0 < 256 := by omega
  have z1 : 0 ≤ q1 ∧ q1 < 256 := by omega
  have z2 : 0 ≤ q2 ∧ q2 < 256 := by omega
  obtain ⟨z00, z01⟩ := z0
  obtain ⟨z10, z11⟩ := z1
  obtain ⟨z20, z21⟩ := z2
  have h3' : ¬ (len : Int) < 3 := by omega
  obtain ⟨E, hE⟩ : ∃ E, E = 3 + n := ⟨_, rfl⟩
  have HEq : Hid ((3 : Int) + q0 * 65536 + q1 * 256 + q2 = (E : Int)) := Lib.hid (by omega)
  have HEn := Lib.hid hE
  clear hq0 hq1 hq2 y0 y1 y2 hn2
  go_enter Try.func32, Try.ntmps32
  go_wp2_with fail
  go_loopw [5, 17] (fun s5 s17 wr => ∃ (i : Nat) (q z : Int), i ≤ 3 ∧ q = i ∧ s17 = .int .i64 q ∧ s5 = .int .i64 z ∧ Hid ((i = 0 → z = 3) ∧ (i = 1 → z = 3 + q0 * 65536) ∧ (i = 2 → z = 3 + q0 * 65536 + q1 * 256) ∧ (i = 3 → z = (E : Int))) ∧ wr = w) (fun _ s17 _ => 3 - (intOf s17).toNat)
  case atStart => exact ⟨0, 0, 3, by omega, rfl, rfl, rfl, Lib.hid ⟨fun _ => rfl, fun e => by omega, fun e => by omega, fun e => by omega⟩, rfl⟩
  case round =>
    obtain ⟨i, q, z, hi3, hq, rfl, rfl, HZ, rfl⟩ := hrel
    by_cases hlt : i < 3
    · have cc : i = 0 ∨ i = 1 ∨ i = 2 := by omega
      clear hi3 hlt
      rcases cc with rfl | rfl | rfl
      · obtain rfl : q = 0 := hq
        obtain rfl := HZ.out.1 rfl
        clear HZ
        go_wp2_with fail
        go_roundw
        case rel => exact ⟨1, 1, _, by omega, rfl, rfl, rfl, Lib.hid ⟨fun e => by omega, fun _ => rfl, fun e => by omega, fun e => by omega⟩, (by first | rfl | trivial)⟩
        case measure => simp [intOf]
      · obtain rfl : q = 1 := hq
        obtain rfl := HZ.out.2.1 rfl
        clear HZ
        go_wp2_with fail
        go_roundw
        case rel => exact ⟨2, 2, _, by omega, rfl, rfl, rfl, Lib.hid ⟨fun e => by omega, fun e => by omega, fun _ => rfl, fun e => by omega⟩, (by first | rfl | trivial)⟩
        case measure => simp [intOf]
      · obtain rfl : q = 2 := hq
        obtain rfl := HZ.out.2.2.1 rfl
        clear HZ
        go_wp2_with fail
        go_roundw
        case rel => exact ⟨3, 3, _, by omega, rfl, rfl, rfl, Lib.hid ⟨fun e => by omega, fun e => by omega, fun e => by omega, fun _ => HEq.out⟩, (by first | rfl | trivial)⟩
        case measure => simp [intOf]
    · obtain rfl : i = 3 := by omega
      obtain rfl : q = 3 := hq
      obtain rfl := HZ.out.2.2.2 rfl
      clear HZ hlt hi3 c0 c1 c2 z00 z01 z10 z11 z20 z21 HEq
      by_cases h12 : len < n + 11
      · have hO := HO.out
        rw [if_pos h12] at hO
        subst hO
        have h12' : (len : Int) - 8 < (E : Int) := by omega
        clear hE
        go_wp2_with fail
        go_ret3
        exact ⟨⟨0, rfl⟩, Below.refl _ _⟩
      · have hO := HO.out
        rw [if_neg h12] at hO
        have h12' : ¬ (len : Int) - 8 < (E : Int) := by omega
        have hEl : E + 8 ≤ len := by omega
        have hEc : E + 8 ≤ cap := by omega
        have hE3 : 3 ≤ E := by omega
        clear hE
        obtain ⟨s, hs⟩ : ∃ s, Dg.sum (b.take E) = s := ⟨_, rfl⟩
        rw [← HEn.out, hs] at hO
        have HD := ((HL.out).drop E).take 8
        simp only [Option.map_some, addr_off] at HD
        have hDl : ((b.drop E).take 8).length = 8 := by rw [List.length_take, List.length_drop, HN.out]; omega
        have hel : (Dg.be8 s).length = 8 := rfl
        have HSE := Lib.hid (fun x : Ext wr => seal_is (b.take E) E E (some ⟨bb, off, none⟩) s hs (by rw [List.length_take, HN.out]; omega) (HB.out.take _) (by omega) x.w ((HL.out.take E).below x.h))
        obtain ⟨D, hD⟩ : ∃ D, (b.drop E).take 8 = D := ⟨_, rfl⟩
        obtain ⟨F, hF⟩ : ∃ F, Dg.be8 s = F := ⟨_, rfl⟩
        rw [hF] at HSE hO hel
        rw [hD] at hDl HD hO
        obtain ⟨f, hf⟩ : ∃ f, decide (D = F) = f := ⟨_, rfl⟩
        have hO2 : (if f = true then (Cd.get ((b.drop 3).take n)).map (fun l => (l, n + 11)) else none) = O := by
          rw [← hO, ← hf]
          by_cases e : D = F
          · rw [if_pos (decide_eq_true e), if_pos e]
          · rw [if_neg (by rw [decide_eq_false e]; exact Bool.false_ne_true), if_neg e]
        have heq := eq47 D F f hDl hel hf
        obtain ⟨d0, d1, d2, d3, d4, d5, d6, d7, rfl⟩ := eight hDl
        obtain ⟨f0, f1, f2, f3, f4, f5, f6, f7, rfl⟩ := eight hel
        obtain ⟨bb', off', e', hbD, hcell⟩ := HD (by simp)
        cases e'
        have HLD : Hid (∀ w', (∃ x : Ext wr, w' = x.w) → (loadVar 47 ⟨bb, off + E, none⟩).run Try.prog w' = .ok (.agg (vN .u8 [d0, d1, d2, d3, d4, d5, d6, d7]).toArray) w') := Lib.hid (by
          rintro _ ⟨x, rfl⟩
          exact load47_at rfl (fun i hi => x.cell (hcell i hi)))
        have hne := Ext.there wr
        have harr := fun (w : World) (a : Option Addr) (c : Nat) => arr47 w a (E + 8 - E) c (by omega)
        have harr8 := fun (w : World) (a : Option Addr) (c : Nat) => arr47 w a 8 c (by omega)
        have HOO := Lib.hid hO2
        clear hcell hO hO2 hs hF hD hDl hel hf HD HO
        go_wp2_with fail
        refine Ext.region (by kernel_rfl) (by kernel_rfl) ?_
        repeat (go_big_quiet_step ((go_at_call 25; exact Ext.call _ (HSE.out _))))
        go_big_quiet_want
        refine quiet_load _ _ rfl ⟨bb, off + E, none⟩ _ HLD.out rfl ?_
        simp only [Act.put, List.setIfInBounds_toArray, List.set_cons_succ, List.set_cons_zero]
        go_big_quiet_on
        repeat (go_big_quiet_step ((go_at_call 25; exact Ext.call _ (HSE.out _))))
        refine wpQuiet_nil ?_
        rintro _ ⟨xw, rfl⟩
        have hG := xw.h
        clear hne
        generalize xw.w = w3 at *
        clear xw
        clear heq harr harr8
        cases f with
        | false =>
          go_wp2_with fail
          go_ret3
          obtain rfl := HOO.out
          exact ⟨⟨0, rfl⟩, hG⟩
        | true =>
          have HGL : Hid (((b.drop 3).take n).length = n) := Lib.hid (by rw [List.length_take, List.length_drop, HN.out]; have := HEn.out; omega)
          have HGB : Hid (Cd.by8 ((b.drop 3).take n)) := Lib.hid ((HB.out.drop _).take _)
          have HG4 := Lib.hid (((HL.out.drop 3).take n).below hG)
          simp only [Option.map_some, addr_off] at HG4
          have hEn := HEn.out
          by_cases h33 : E = 3
          · have h0 : n = 0 := by omega
            subst h33
            subst h0
            have HG0 : Hid (SlN .u8 w3 (some ⟨bb, off, none⟩) ((b.drop 3).take 0)) := Lib.hid (SlN.nil _ _ _)
            clear HG4 hEn
            cases hg : Cd.get ((b.drop 3).take 0) with
            | none =>
              rw [if_pos rfl, hg] at HOO
              have HE := Lib.hid hg
              clear hg
              go_wp2_with (first | (go_at_call 15; refine (get_is ((b.drop 3).take 0) none _ _ _ HE.out (by rw [HGL.out] <;> omega) HGB.out (by omega) _ HG0.out).mono ?_; rintro e w7 ⟨rfl, hb7⟩) | fail)
              go_ret3
              obtain rfl := HOO.out
              exact ⟨⟨_, rfl⟩, hG.trans (hb7.mono hG.size)⟩
            | some l =>
              exfalso
              have h0 : Cd.get ((b.drop 3).take 0) = none := by rw [List.take_zero]; rfl
              rw [h0] at hg
              cases hg
          · have hEE : n = E - 3 := by omega
            have h34 : ¬ (E : Int) = 3 := by omega
            clear hEn
            cases hg : Cd.get ((b.drop 3).take n) with
            | none =>
              rw [if_pos rfl, hg] at HOO
              have HE := Lib.hid hg
              clear hg
              go_wp2_with (first | (go_at_call 15; refine (get_is ((b.drop 3).take n) none _ _ _ HE.out (by rw [HGL.out] <;> omega) HGB.out (by omega) _ HG4.out).mono ?_; rintro e w7 ⟨rfl, hb7⟩) | fail)
              go_ret3
              obtain rfl := HOO.out
              exact ⟨⟨_, rfl⟩, hG.trans (hb7.mono hG.size)⟩
            | some l =>
              rw [if_pos rfl, hg] at HOO
              have HE := Lib.hid hg
              clear hg
              go_wp2_with (first | (go_at_call 15; refine (get_is ((b.drop 3).take n) (some l) _ _ _ HE.out (by rw [HGL.out] <;> omega) HGB.out (by omega) _ HG4.out).mono ?_; rintro e w7 ⟨⟨D7, c7, rfl, S7, hD7, hT7⟩, hb7⟩) | fail)
              go_ret3
              obtain rfl := HOO.out
              exact ⟨⟨D7, c7, by rw [show ((n + 11 : Nat) : Int) = (E : Int) + 8 by have := HEn.out; omega]; rfl, S7, hD7, hT7⟩, hG.trans (hb7.mono hG.size)⟩
end Go.Proofs.Ytnnhpbkhfaaaeaa
