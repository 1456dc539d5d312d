import Derived.Test.YtbbjifhelbeniaaGreatDoorGP
/- The walks of score's index, find, Bar, Part, Note, and of the reference's asked, found, Bar, Part, Note. -/
namespace Go.Proofs.YtbbjifhelbeniaaGreatDoor
open Go.RowKit

/-- What is found at an index (or -1). -/
def Fnd (r x : Int) (f : Bool) : Prop := (0 ≤ r ∧ x = r ∧ f = true) ∨ (r < 0 ∧ x = 0 ∧ f = false)
theorem fnd_ex (r : Int) : ∃ x f, Fnd r x f := by
  by_cases h : 0 ≤ r
  · exact ⟨r, true, .inl ⟨h, rfl, rfl⟩⟩
  · exact ⟨0, false, .inr ⟨by omega, rfl, rfl⟩⟩
/-- What a look-up answers. -/
def FndE (ok : Prop) (r x : Int) (f : Bool) (e : Int) : Prop := (¬ ok ∧ x = 0 ∧ f = false ∧ e = 1) ∨ (ok ∧ Fnd r x f ∧ e = 0)
namespace No
theorem bix_first : ∀ {l : List Mt.B} {id : Int} {i : Nat}, i < l.length → (atB l i).1 = id → (∀ k, k < i → (atB l k).1 ≠ id) → bix l id = i
  | [], _, _, hi, _, _ => by simp at hi
  | b :: l, id, 0, _, h, _ => by unfold bix; rw [if_pos (show b.1 = id from h)]; rfl
  | b :: l, id, i + 1, hi, h, hk => by
    have e : b.1 ≠ id := hk 0 (by omega)
    have ih := bix_first (l := l) (id := id) (i := i) (by simpa using hi) h (fun k hk2 => hk (k + 1) (by omega))
    unfold bix
    rw [if_neg e, if_neg (by omega), ih]
    rfl
end No
set_option maxHeartbeats 400000 in
theorem sidB_is (b0 b1 b2 b3 : Int) (w : World) :
    Calls Tryz.prog 44 #[.agg #[.int .i64 b0, .int .i64 b1, .int .i64 b2, .int .i64 b3]] w fun e w' => e = .returned (.int .i64 b0) ∧ Below w.heap.size w w' := by
  have G0 := (Below.refl w.heap.size w).alloc (Nat.le_refl _) (.cells #[.int .i64 b0, .int .i64 b1, .int .i64 b2, .int .i64 b3] 43)
  go_enter Tryz.func44, Tryz.ntmps44
  go_wp2_with fail
  go_ret
  exact ⟨rfl, G0⟩
set_option maxRecDepth 100000 in
set_option maxHeartbeats 1600000 in
theorem sindexB_is (l : List Mt.B) (id r x : Int) (f : Bool) (len cap : Nat) (A : Option Addr) (h : No.bix l id = r) (hf : Fnd r x f) (hl : l.length = len) (hmax : len ≤ 4000000) (w : World) (hL : SlB w A l) :
    Calls Tryz.prog 75 #[.slice A len cap, .int .i64 id, .func (.func 44) #[] #[]] w fun e w' => e = .returned (.tuple #[.int .i64 x, .bool f]) ∧ Below w.heap.size w w' := by
  have HN := Lib.hid hl
  have HL := Lib.hid hL
  have HR := Lib.hid h
  have HF := Lib.hid hf
  clear h hf hl hL
  go_enter Tryz.func75, Tryz.ntmps75
  go_wp2_with fail
  go_loopw [12] (fun s12 wr => ∃ (k : Nat), k ≤ len ∧ s12 = .int .i64 (k : Int) ∧ Hid (∀ j, j < k → (atB l j).1 ≠ id) ∧ Below w.heap.size w wr) (fun s12 _ => len - (intOf s12).toNat)
  case atStart => exact ⟨0, Nat.zero_le _, rfl, Lib.hid (fun j hj => by omega), Below.refl _ _⟩
  case round =>
    obtain ⟨k, hk, rfl, HJ, hX⟩ := hrel
    by_cases hlt : k < len
    · have hx : k < l.length := by rw [HN.out]; exact hlt
      obtain ⟨bb, off, rfl, hbb, hc⟩ := HL.out (by rw [HN.out]; omega)
      obtain ⟨b, hb⟩ : ∃ b, atB l k = b := ⟨_, rfl⟩
      obtain ⟨b0, b1, b2, b3⟩ := b
      obtain ⟨X0, X1, X2, X3⟩ := hc k hx
      rw [hb] at X0 X1 X2 X3
      have c0 := (hX.cell (p := ⟨bb, off + k * 4, none⟩) hbb).trans X0
      have c1 := (hX.cell (p := ⟨bb, off + k * 4 + 1, none⟩) hbb).trans X1
      have c2 := (hX.cell (p := ⟨bb, off + k * 4 + 2, none⟩) hbb).trans X2
      have c3 := (hX.cell (p := ⟨bb, off + k * 4 + 3, none⟩) hbb).trans X3
      simp only at c0 c1 c2 c3
      have HB : Hid ((atB l k).1 = b0) := Lib.hid (by rw [hb])
      clear X0 X1 X2 X3
      have HX := Lib.hid hx
      have hj1 : (k : Int) < (len : Int) := by omega
      have hX2 := hX.alloc hX.size (.cells #[.int .i64 b0, .int .i64 b1, .int .i64 b2, .int .i64 b3] 43)
      clear hx hc hb
      by_cases he : b0 = id
      · have hr : r = k := by
          rw [← HR.out]
          exact No.bix_first HX.out (by rw [HB.out]; exact he) HJ.out
        obtain ⟨rfl, rfl⟩ : x = (k : Int) ∧ f = true := by
          rcases HF.out with ⟨_, h2, h3⟩ | ⟨h1, _⟩
          · exact ⟨h2.trans hr, h3⟩
          · omega
        have hbe : (b0 == id) = true := by simpa using he
        clear he hr
        go_wp2_with fail
        refine (sidB_is b0 b1 b2 b3 _).mono ?_; rintro e w5 ⟨rfl, hb5⟩
        have hX5 := hX2.trans (hb5.mono hX2.size)
        clear hb5 c0 c1 c2 c3
        go_wp2_with fail
        go_ret2
        exact ⟨rfl, hX5⟩
      · have hbe : (b0 == id) = false := by simpa using he
        have HJ2 : Hid (∀ j, j < k + 1 → (atB l j).1 ≠ id) := Lib.hid (fun j hj => by
          rcases Nat.lt_or_ge j k with a | a
          · exact HJ.out j a
          · rw [show j = k by omega, HB.out]; exact he)
        clear he
        go_wp2_with fail
        refine (sidB_is b0 b1 b2 b3 _).mono ?_; rintro e w5 ⟨rfl, hb5⟩
        have hX5 := hX2.trans (hb5.mono hX2.size)
        clear hb5 c0 c1 c2 c3
        go_wp2_with fail
        go_roundw
        case rel => exact ⟨k + 1, by omega, by simp, HJ2, hX5⟩
        case measure => simp [intOf]; omega
    · obtain rfl : k = len := by omega
      have hr : r < 0 := by
        rw [← HR.out]
        rcases Int.lt_or_le (No.bix l id) 0 with h | h
        · exact h
        · have h1 := No.bix_at h
          have h2 := No.bix_lt l id
          exact absurd h1 (HJ.out _ (by have := HN.out; omega))
      obtain ⟨rfl, rfl⟩ : x = 0 ∧ f = false := by
        rcases HF.out with ⟨h1, _⟩ | ⟨_, h2, h3⟩
        · omega
        · exact ⟨h2, h3⟩
      clear hr
      go_wp2_with fail
      go_ret2
      exact ⟨rfl, hX⟩
set_option maxHeartbeats 1600000 in
theorem sfindB_is (s : SH) (bs : List Mt.B) (ps : List Sc.Pt) (ns : List No.Nt) (id r x : Int) (f : Bool) (e : Int) (h : No.bix bs id = r) (hf : FndE (Sc.Val s.v bs ps ns ∧ 1 ≤ id ∧ id ≤ 1000000) r x f e) (hmax : s.bl ≤ 4000000 ∨ ¬ Sc.Val s.v bs ps ns) (hwf : WfS bs ps ns) (w : World) (hG : Glob w) (hS : SlS w s bs ps ns) :
    Calls Tryz.prog 43 #[.agg #[.int .i64 s.v, .slice s.B s.bl s.bc, .slice s.P s.pl s.pc, .slice s.N s.nl s.nc], .slice s.B s.bl s.bc, .int .i64 id, .func (.func 44) #[] #[]] w fun y w' => y = .returned (.tuple #[.int .i64 x, .bool f, .int .i64 e]) ∧ Below w.heap.size w w' := by
  have HW := Lib.hid hwf
  have HR := Lib.hid h
  have HL := Lib.hid (And.intro hS.bl (And.intro hS.pl hS.nl))
  clear hwf h
  by_cases q1 : Sc.Val s.v bs ps ns
  case neg =>
    obtain ⟨rfl, rfl, rfl⟩ : x = 0 ∧ f = false ∧ e = 1 := by
      rcases hf with ⟨_, h⟩ | ⟨h, _⟩
      · exact h
      · exact absurd h.1 q1
    have HV := Lib.hid q1
    clear hf hmax q1
    go_enter Tryz.func43, Tryz.ntmps43
    go_wp2_with fail
    have B := Below.refl w.heap.size w
    refine (svalid_is s bs ps ns false ⟨(fun h => by cases h), fun h => absurd h HV.out⟩ HW.out _ (hG.alloc _) (hS.alloc _)).mono ?_; rintro e w1 ⟨rfl, hb⟩
    replace hS := (hS.alloc _).below hb
    have A := (ScB.new _ s).below hb
    replace hG := (hG.alloc _).below hb
    replace B := (B.alloc (by have := B.size; simp <;> omega) _).trans (hb.mono (by have := B.size; simp <;> omega))
    clear hb
    have lA := A.lt; have cA0 := A.c0; have cA1 := A.c1; have cA2 := A.c2; have cA3 := A.c3
    go_wp2_with fail
    refine bodyPost_ret (v := .tuple #[.int .i64 0, .bool false, .int .i64 1]) (by simp [results, Tryz.results43, go_sem]) rfl ⟨rfl, B⟩
  have HV := Lib.hid q1
  by_cases q2 : 1 ≤ id ∧ id ≤ 1000000
  case neg =>
    obtain ⟨rfl, rfl, rfl⟩ : x = 0 ∧ f = false ∧ e = 1 := by
      rcases hf with ⟨_, h⟩ | ⟨h, _⟩
      · exact h
      · exact absurd h.2 q2
    have HI := Lib.hid (decide_eq_false q2)
    clear hf hmax q1 q2
    go_enter Tryz.func43, Tryz.ntmps43
    go_wp2_with fail
    have B := Below.refl w.heap.size w
    refine (svalid_is s bs ps ns true ⟨fun _ => HV.out, fun _ => rfl⟩ HW.out _ (hG.alloc _) (hS.alloc _)).mono ?_; rintro e w1 ⟨rfl, hb⟩
    replace hS := (hS.alloc _).below hb
    have A := (ScB.new _ s).below hb
    replace hG := (hG.alloc _).below hb
    replace B := (B.alloc (by have := B.size; simp <;> omega) _).trans (hb.mono (by have := B.size; simp <;> omega))
    clear hb
    have lA := A.lt; have cA0 := A.c0; have cA1 := A.c1; have cA2 := A.c2; have cA3 := A.c3
    go_wp2_with fail
    refine (tisid_is id false HI.out _).mono ?_; rintro e w2 ⟨rfl, hb⟩
    replace hS := hS.below hb
    replace A := A.below hb
    replace hG := hG.below hb
    replace B := B.trans (hb.mono (by have := B.size; simp <;> omega))
    clear hb lA cA0 cA1 cA2 cA3
    have lA := A.lt; have cA0 := A.c0; have cA1 := A.c1; have cA2 := A.c2; have cA3 := A.c3
    go_wp2_with fail
    refine bodyPost_ret (v := .tuple #[.int .i64 0, .bool false, .int .i64 1]) (by simp [results, Tryz.results43, go_sem]) rfl ⟨rfl, B⟩
  have HI := Lib.hid (decide_eq_true q2)
  obtain ⟨hf2, rfl⟩ : Fnd r x f ∧ e = 0 := by
    rcases hf with ⟨h, _⟩ | ⟨_, h⟩
    · exact absurd ⟨q1, q2⟩ h
    · exact h
  have HF := Lib.hid hf2
  have hm4 : s.bl ≤ 4000000 := by
    rcases hmax with h | h
    · exact h
    · exact absurd q1 h
  clear hf hf2 hmax q1 q2
  go_enter Tryz.func43, Tryz.ntmps43
  go_wp2_with fail
  have B := Below.refl w.heap.size w
  refine (svalid_is s bs ps ns true ⟨fun _ => HV.out, fun _ => rfl⟩ HW.out _ (hG.alloc _) (hS.alloc _)).mono ?_; rintro e w1 ⟨rfl, hb⟩
  replace hS := (hS.alloc _).below hb
  have A := (ScB.new _ s).below hb
  replace hG := (hG.alloc _).below hb
  replace B := (B.alloc (by have := B.size; simp <;> omega) _).trans (hb.mono (by have := B.size; simp <;> omega))
  clear hb
  have lA := A.lt; have cA0 := A.c0; have cA1 := A.c1; have cA2 := A.c2; have cA3 := A.c3
  go_wp2_with fail
  refine (tisid_is id true HI.out _).mono ?_; rintro e w2 ⟨rfl, hb⟩
  replace hS := hS.below hb
  replace A := A.below hb
  replace hG := hG.below hb
  replace B := B.trans (hb.mono (by have := B.size; simp <;> omega))
  clear hb lA cA0 cA1 cA2 cA3
  have lA := A.lt; have cA0 := A.c0; have cA1 := A.c1; have cA2 := A.c2; have cA3 := A.c3
  go_wp2_with fail
  refine (sindexB_is bs id r x f _ _ _ HR.out HF.out HL.out.1 hm4 _ (hS).sb).mono ?_; rintro e w3 ⟨rfl, hb⟩
  replace hS := hS.below hb
  replace A := A.below hb
  replace hG := hG.below hb
  replace B := B.trans (hb.mono (by have := B.size; simp <;> omega))
  clear hb lA cA0 cA1 cA2 cA3
  have lA := A.lt; have cA0 := A.c0; have cA1 := A.c1; have cA2 := A.c2; have cA3 := A.c3
  go_wp2_with fail
  refine bodyPost_ret (v := .tuple #[.int .i64 x, .bool f, .int .i64 0]) (by simp [results, Tryz.results43, go_sem]) rfl ⟨rfl, B⟩
set_option maxHeartbeats 800000 in
theorem sBar_is (s : SH) (bs : List Mt.B) (ps : List Sc.Pt) (ns : List No.Nt) (id r x : Int) (f : Bool) (e : Int) (h : No.bix bs id = r) (hf : FndE (Sc.Val s.v bs ps ns ∧ 1 ≤ id ∧ id ≤ 1000000) r x f e) (hwf : WfS bs ps ns) (w : World) (hG : Glob w) (hS : SlS w s bs ps ns) :
    Calls Tryz.prog 13 #[.agg #[.int .i64 s.v, .slice s.B s.bl s.bc, .slice s.P s.pl s.pc, .slice s.N s.nl s.nc], .int .i64 id] w fun y w' => y = .returned (.tuple #[.int .i64 x, .bool f, .int .i64 e]) ∧ Below w.heap.size w w' := by
  have HR := Lib.hid h
  have HF := Lib.hid hf
  have HW := Lib.hid hwf
  have HM : Hid (s.bl ≤ 4000000 ∨ ¬ Sc.Val s.v bs ps ns) := Lib.hid (by
    by_cases q : Sc.Val s.v bs ps ns
    · refine .inl ?_
      have h1 := q.notes.1.2.1
      have h2 := q.parts.1.2
      have h3 := q.notes.2.1
      have h4 := hS.bl
      have h5 := hS.pl
      have h6 := hS.nl
      omega
    · exact .inr q)
  clear h hf hwf
  go_enter Tryz.func13, Tryz.ntmps13
  go_wp2_with fail
  have B := Below.refl w.heap.size w
  refine (sfindB_is s bs ps ns id r x f e HR.out HF.out HM.out HW.out _ (hG.alloc _) (hS.alloc _)).mono ?_; rintro e w1 ⟨rfl, hb⟩
  replace hS := (hS.alloc _).below hb
  have A := (ScB.new _ s).below hb
  replace hG := (hG.alloc _).below hb
  replace B := (B.alloc (by have := B.size; simp <;> omega) _).trans (hb.mono (by have := B.size; simp <;> omega))
  clear hb
  go_wp2_with fail
  refine bodyPost_ret (v := .tuple #[.int .i64 x, .bool f, .int .i64 e]) (by simp [results, Tryz.results13, go_sem]) rfl ⟨rfl, B⟩
set_option maxHeartbeats 400000 in
theorem sidP_is (x : Sc.Pt) (w : World) :
    Calls Tryz.prog 49 #[.agg #[.int .i64 x.id, .int .i64 x.se, .int .i64 x.f, .int .i64 x.oc, .int .i64 x.de, .int .i64 x.ss, .int .i64 x.sm, .int .i64 x.ls, .int .i64 x.la, .int .i64 x.lo, .int .i64 x.hs, .int .i64 x.ha, .int .i64 x.ho]] w fun e w' => e = .returned (.int .i64 x.id) ∧ Below w.heap.size w w' := by
  have G0 := (Below.refl w.heap.size w).alloc (Nat.le_refl _) (.cells #[.int .i64 x.id, .int .i64 x.se, .int .i64 x.f, .int .i64 x.oc, .int .i64 x.de, .int .i64 x.ss, .int .i64 x.sm, .int .i64 x.ls, .int .i64 x.la, .int .i64 x.lo, .int .i64 x.hs, .int .i64 x.ha, .int .i64 x.ho] 49)
  go_enter Tryz.func49, Tryz.ntmps49
  go_wp2_with fail
  go_ret
  exact ⟨rfl, G0⟩
set_option maxRecDepth 100000 in
set_option maxHeartbeats 1600000 in
theorem sindexP_is (l : List Sc.Pt) (id r x : Int) (f : Bool) (len cap : Nat) (A : Option Addr) (h : Sc.pix l id = r) (hf : Fnd r x f) (hl : l.length = len) (hmax : len ≤ 4000000) (w : World) (hL : SlQ w A l) :
    Calls Tryz.prog 53 #[.slice A len cap, .int .i64 id, .func (.func 49) #[] #[]] w fun e w' => e = .returned (.tuple #[.int .i64 x, .bool f]) ∧ Below w.heap.size w w' := by
  have HN := Lib.hid hl
  have HL := Lib.hid hL
  have HR := Lib.hid h
  have HF := Lib.hid hf
  clear h hf hl hL
  go_enter Tryz.func53, Tryz.ntmps53
  go_wp2_with fail
  go_loopw [12] (fun s12 wr => ∃ (k : Nat), k ≤ len ∧ s12 = .int .i64 (k : Int) ∧ Hid (∀ j, j < k → (atQ l j).id ≠ id) ∧ Below w.heap.size w wr) (fun s12 _ => len - (intOf s12).toNat)
  case atStart => exact ⟨0, Nat.zero_le _, rfl, Lib.hid (fun j hj => by omega), Below.refl _ _⟩
  case round =>
    obtain ⟨k, hk, rfl, HJ, hX⟩ := hrel
    by_cases hlt : k < len
    · have hx : k < l.length := by rw [HN.out]; exact hlt
      obtain ⟨bb, off, rfl, hbb, hc⟩ := HL.out (by rw [HN.out]; omega)
      obtain ⟨x', hb⟩ : ∃ y, atQ l k = y := ⟨_, rfl⟩
      have X := (hc k hx).below hX hbb
      rw [hb] at X
      obtain ⟨c0, c1, c2, c3, c4, c5, c6, c7, c8, c9, c10, c11, c12⟩ := X
      rw [Nat.add_zero] at c0
      have HB : Hid ((atQ l k).id = x'.id) := Lib.hid (by rw [hb])
      have HX := Lib.hid hx
      have hj1 : (k : Int) < (len : Int) := by omega
      have hX2 := hX.alloc hX.size (.cells #[.int .i64 x'.id, .int .i64 x'.se, .int .i64 x'.f, .int .i64 x'.oc, .int .i64 x'.de, .int .i64 x'.ss, .int .i64 x'.sm, .int .i64 x'.ls, .int .i64 x'.la, .int .i64 x'.lo, .int .i64 x'.hs, .int .i64 x'.ha, .int .i64 x'.ho] 49)
      clear hx hc hb
      by_cases he : x'.id = id
      · have hr : r = k := by
          rw [← HR.out]
          exact Sc.pix_first HX.out (by rw [HB.out]; exact he) HJ.out
        obtain ⟨rfl, rfl⟩ : x = (k : Int) ∧ f = true := by
          rcases HF.out with ⟨_, h2, h3⟩ | ⟨h1, _⟩
          · exact ⟨h2.trans hr, h3⟩
          · omega
        have hbe : (x'.id == id) = true := by simpa using he
        clear he hr
        go_wp2_with fail
        refine (sidP_is x' _).mono ?_; rintro e w5 ⟨rfl, hb5⟩
        have hX5 := hX2.trans (hb5.mono hX2.size)
        clear hb5 c0 c1 c2 c3 c4 c5 c6 c7 c8 c9 c10 c11 c12
        go_wp2_with fail
        go_ret2
        exact ⟨rfl, hX5⟩
      · have hbe : (x'.id == id) = false := by simpa using he
        have HJ2 : Hid (∀ j, j < k + 1 → (atQ l j).id ≠ id) := Lib.hid (fun j hj => by
          rcases Nat.lt_or_ge j k with a | a
          · exact HJ.out j a
          · rw [show j = k by omega, HB.out]; exact he)
        clear he
        go_wp2_with fail
        refine (sidP_is x' _).mono ?_; rintro e w5 ⟨rfl, hb5⟩
        have hX5 := hX2.trans (hb5.mono hX2.size)
        clear hb5 c0 c1 c2 c3 c4 c5 c6 c7 c8 c9 c10 c11 c12
        go_wp2_with fail
        go_roundw
        case rel => exact ⟨k + 1, by omega, by simp, HJ2, hX5⟩
        case measure => simp [intOf]; omega
    · obtain rfl : k = len := by omega
      have hr : r < 0 := by
        rw [← HR.out]
        rcases Int.lt_or_le (Sc.pix l id) 0 with h | h
        · exact h
        · have h1 := Sc.pix_at h
          have h2 := Sc.pix_lt l id
          exact absurd h1 (HJ.out _ (by have := HN.out; omega))
      obtain ⟨rfl, rfl⟩ : x = 0 ∧ f = false := by
        rcases HF.out with ⟨h1, _⟩ | ⟨_, h2, h3⟩
        · omega
        · exact ⟨h2, h3⟩
      clear hr
      go_wp2_with fail
      go_ret2
      exact ⟨rfl, hX⟩
set_option maxHeartbeats 1600000 in
theorem sfindP_is (s : SH) (bs : List Mt.B) (ps : List Sc.Pt) (ns : List No.Nt) (id r x : Int) (f : Bool) (e : Int) (h : Sc.pix ps id = r) (hf : FndE (Sc.Val s.v bs ps ns ∧ 1 ≤ id ∧ id ≤ 1000000) r x f e) (hmax : s.pl ≤ 4000000 ∨ ¬ Sc.Val s.v bs ps ns) (hwf : WfS bs ps ns) (w : World) (hG : Glob w) (hS : SlS w s bs ps ns) :
    Calls Tryz.prog 48 #[.agg #[.int .i64 s.v, .slice s.B s.bl s.bc, .slice s.P s.pl s.pc, .slice s.N s.nl s.nc], .slice s.P s.pl s.pc, .int .i64 id, .func (.func 49) #[] #[]] w fun y w' => y = .returned (.tuple #[.int .i64 x, .bool f, .int .i64 e]) ∧ Below w.heap.size w w' := by
  have HW := Lib.hid hwf
  have HR := Lib.hid h
  have HL := Lib.hid (And.intro hS.bl (And.intro hS.pl hS.nl))
  clear hwf h
  by_cases q1 : Sc.Val s.v bs ps ns
  case neg =>
    obtain ⟨rfl, rfl, rfl⟩ : x = 0 ∧ f = false ∧ e = 1 := by
      rcases hf with ⟨_, h⟩ | ⟨h, _⟩
      · exact h
      · exact absurd h.1 q1
    have HV := Lib.hid q1
    clear hf hmax q1
    go_enter Tryz.func48, Tryz.ntmps48
    go_wp2_with fail
    have B := Below.refl w.heap.size w
    refine (svalid_is s bs ps ns false ⟨(fun h => by cases h), fun h => absurd h HV.out⟩ HW.out _ (hG.alloc _) (hS.alloc _)).mono ?_; rintro e w1 ⟨rfl, hb⟩
    replace hS := (hS.alloc _).below hb
    have A := (ScB.new _ s).below hb
    replace hG := (hG.alloc _).below hb
    replace B := (B.alloc (by have := B.size; simp <;> omega) _).trans (hb.mono (by have := B.size; simp <;> omega))
    clear hb
    have lA := A.lt; have cA0 := A.c0; have cA1 := A.c1; have cA2 := A.c2; have cA3 := A.c3
    go_wp2_with fail
    refine bodyPost_ret (v := .tuple #[.int .i64 0, .bool false, .int .i64 1]) (by simp [results, Tryz.results48, go_sem]) rfl ⟨rfl, B⟩
  have HV := Lib.hid q1
  by_cases q2 : 1 ≤ id ∧ id ≤ 1000000
  case neg =>
    obtain ⟨rfl, rfl, rfl⟩ : x = 0 ∧ f = false ∧ e = 1 := by
      rcases hf with ⟨_, h⟩ | ⟨h, _⟩
      · exact h
      · exact absurd h.2 q2
    have HI := Lib.hid (decide_eq_false q2)
    clear hf hmax q1 q2
    go_enter Tryz.func48, Tryz.ntmps48
    go_wp2_with fail
    have B := Below.refl w.heap.size w
    refine (svalid_is s bs ps ns true ⟨fun _ => HV.out, fun _ => rfl⟩ HW.out _ (hG.alloc _) (hS.alloc _)).mono ?_; rintro e w1 ⟨rfl, hb⟩
    replace hS := (hS.alloc _).below hb
    have A := (ScB.new _ s).below hb
    replace hG := (hG.alloc _).below hb
    replace B := (B.alloc (by have := B.size; simp <;> omega) _).trans (hb.mono (by have := B.size; simp <;> omega))
    clear hb
    have lA := A.lt; have cA0 := A.c0; have cA1 := A.c1; have cA2 := A.c2; have cA3 := A.c3
    go_wp2_with fail
    refine (tisid_is id false HI.out _).mono ?_; rintro e w2 ⟨rfl, hb⟩
    replace hS := hS.below hb
    replace A := A.below hb
    replace hG := hG.below hb
    replace B := B.trans (hb.mono (by have := B.size; simp <;> omega))
    clear hb lA cA0 cA1 cA2 cA3
    have lA := A.lt; have cA0 := A.c0; have cA1 := A.c1; have cA2 := A.c2; have cA3 := A.c3
    go_wp2_with fail
    refine bodyPost_ret (v := .tuple #[.int .i64 0, .bool false, .int .i64 1]) (by simp [results, Tryz.results48, go_sem]) rfl ⟨rfl, B⟩
  have HI := Lib.hid (decide_eq_true q2)
  obtain ⟨hf2, rfl⟩ : Fnd r x f ∧ e = 0 := by
    rcases hf with ⟨h, _⟩ | ⟨_, h⟩
    · exact absurd ⟨q1, q2⟩ h
    · exact h
  have HF := Lib.hid hf2
  have hm4 : s.pl ≤ 4000000 := by
    rcases hmax with h | h
    · exact h
    · exact absurd q1 h
  clear hf hf2 hmax q1 q2
  go_enter Tryz.func48, Tryz.ntmps48
  go_wp2_with fail
  have B := Below.refl w.heap.size w
  refine (svalid_is s bs ps ns true ⟨fun _ => HV.out, fun _ => rfl⟩ HW.out _ (hG.alloc _) (hS.alloc _)).mono ?_; rintro e w1 ⟨rfl, hb⟩
  replace hS := (hS.alloc _).below hb
  have A := (ScB.new _ s).below hb
  replace hG := (hG.alloc _).below hb
  replace B := (B.alloc (by have := B.size; simp <;> omega) _).trans (hb.mono (by have := B.size; simp <;> omega))
  clear hb
  have lA := A.lt; have cA0 := A.c0; have cA1 := A.c1; have cA2 := A.c2; have cA3 := A.c3
  go_wp2_with fail
  refine (tisid_is id true HI.out _).mono ?_; rintro e w2 ⟨rfl, hb⟩
  replace hS := hS.below hb
  replace A := A.below hb
  replace hG := hG.below hb
  replace B := B.trans (hb.mono (by have := B.size; simp <;> omega))
  clear hb lA cA0 cA1 cA2 cA3
  have lA := A.lt; have cA0 := A.c0; have cA1 := A.c1; have cA2 := A.c2; have cA3 := A.c3
  go_wp2_with fail
  refine (sindexP_is ps id r x f _ _ _ HR.out HF.out HL.out.2.1 hm4 _ (hS).sp).mono ?_; rintro e w3 ⟨rfl, hb⟩
  replace hS := hS.below hb
  replace A := A.below hb
  replace hG := hG.below hb
  replace B := B.trans (hb.mono (by have := B.size; simp <;> omega))
  clear hb lA cA0 cA1 cA2 cA3
  have lA := A.lt; have cA0 := A.c0; have cA1 := A.c1; have cA2 := A.c2; have cA3 := A.c3
  go_wp2_with fail
  refine bodyPost_ret (v := .tuple #[.int .i64 x, .bool f, .int .i64 0]) (by simp [results, Tryz.results48, go_sem]) rfl ⟨rfl, B⟩
set_option maxHeartbeats 800000 in
theorem sPart_is (s : SH) (bs : List Mt.B) (ps : List Sc.Pt) (ns : List No.Nt) (id r x : Int) (f : Bool) (e : Int) (h : Sc.pix ps id = r) (hf : FndE (Sc.Val s.v bs ps ns ∧ 1 ≤ id ∧ id ≤ 1000000) r x f e) (hwf : WfS bs ps ns) (w : World) (hG : Glob w) (hS : SlS w s bs ps ns) :
    Calls Tryz.prog 15 #[.agg #[.int .i64 s.v, .slice s.B s.bl s.bc, .slice s.P s.pl s.pc, .slice s.N s.nl s.nc], .int .i64 id] w fun y w' => y = .returned (.tuple #[.int .i64 x, .bool f, .int .i64 e]) ∧ Below w.heap.size w w' := by
  have HR := Lib.hid h
  have HF := Lib.hid hf
  have HW := Lib.hid hwf
  have HM : Hid (s.pl ≤ 4000000 ∨ ¬ Sc.Val s.v bs ps ns) := Lib.hid (by
    by_cases q : Sc.Val s.v bs ps ns
    · refine .inl ?_
      have h1 := q.notes.1.2.1
      have h2 := q.parts.1.2
      have h3 := q.notes.2.1
      have h4 := hS.bl
      have h5 := hS.pl
      have h6 := hS.nl
      omega
    · exact .inr q)
  clear h hf hwf
  go_enter Tryz.func15, Tryz.ntmps15
  go_wp2_with fail
  have B := Below.refl w.heap.size w
  refine (sfindP_is s bs ps ns id r x f e HR.out HF.out HM.out HW.out _ (hG.alloc _) (hS.alloc _)).mono ?_; rintro e w1 ⟨rfl, hb⟩
  replace hS := (hS.alloc _).below hb
  have A := (ScB.new _ s).below hb
  replace hG := (hG.alloc _).below hb
  replace B := (B.alloc (by have := B.size; simp <;> omega) _).trans (hb.mono (by have := B.size; simp <;> omega))
  clear hb
  go_wp2_with fail
  refine bodyPost_ret (v := .tuple #[.int .i64 x, .bool f, .int .i64 e]) (by simp [results, Tryz.results15, go_sem]) rfl ⟨rfl, B⟩
set_option maxHeartbeats 400000 in
theorem sidN_is (x : No.Nt) (w : World) :
    Calls Tryz.prog 52 #[.agg #[.int .i64 x.id, .int .i64 x.pa, .int .i64 x.ba, .int .i64 x.vo, .int .i64 x.os, .int .i64 x.sn, .int .i64 x.sd, .int .i64 x.ln, .int .i64 x.ld, .int .i64 x.st, .int .i64 x.al, .int .i64 x.oc]] w fun e w' => e = .returned (.int .i64 x.id) ∧ Below w.heap.size w w' := by
  have G0 := (Below.refl w.heap.size w).alloc (Nat.le_refl _) (.cells #[.int .i64 x.id, .int .i64 x.pa, .int .i64 x.ba, .int .i64 x.vo, .int .i64 x.os, .int .i64 x.sn, .int .i64 x.sd, .int .i64 x.ln, .int .i64 x.ld, .int .i64 x.st, .int .i64 x.al, .int .i64 x.oc] 51)
  go_enter Tryz.func52, Tryz.ntmps52
  go_wp2_with fail
  go_ret
  exact ⟨rfl, G0⟩
set_option maxRecDepth 100000 in
set_option maxHeartbeats 1600000 in
theorem sindexN_is (l : List No.Nt) (id r x : Int) (f : Bool) (len cap : Nat) (A : Option Addr) (h : Sc.nix l id = r) (hf : Fnd r x f) (hl : l.length = len) (hmax : len ≤ 4000000) (w : World) (hL : SlO w A l) :
    Calls Tryz.prog 76 #[.slice A len cap, .int .i64 id, .func (.func 52) #[] #[]] w fun e w' => e = .returned (.tuple #[.int .i64 x, .bool f]) ∧ Below w.heap.size w w' := by
  have HN := Lib.hid hl
  have HL := Lib.hid hL
  have HR := Lib.hid h
  have HF := Lib.hid hf
  clear h hf hl hL
  go_enter Tryz.func76, Tryz.ntmps76
  go_wp2_with fail
  go_loopw [12] (fun s12 wr => ∃ (k : Nat), k ≤ len ∧ s12 = .int .i64 (k : Int) ∧ Hid (∀ j, j < k → (atO l j).id ≠ id) ∧ Below w.heap.size w wr) (fun s12 _ => len - (intOf s12).toNat)
  case atStart => exact ⟨0, Nat.zero_le _, rfl, Lib.hid (fun j hj => by omega), Below.refl _ _⟩
  case round =>
    obtain ⟨k, hk, rfl, HJ, hX⟩ := hrel
    by_cases hlt : k < len
    · have hx : k < l.length := by rw [HN.out]; exact hlt
      obtain ⟨bb, off, rfl, hbb, hc⟩ := HL.out (by rw [HN.out]; omega)
      obtain ⟨x', hb⟩ : ∃ y, atO l k = y := ⟨_, rfl⟩
      have X := (hc k hx).below hX hbb
      rw [hb] at X
      obtain ⟨c0, c1, c2, c3, c4, c5, c6, c7, c8, c9, c10, c11⟩ := X
      rw [Nat.add_zero] at c0
      have HB : Hid ((atO l k).id = x'.id) := Lib.hid (by rw [hb])
      have HX := Lib.hid hx
      have hj1 : (k : Int) < (len : Int) := by omega
      have hX2 := hX.alloc hX.size (.cells #[.int .i64 x'.id, .int .i64 x'.pa, .int .i64 x'.ba, .int .i64 x'.vo, .int .i64 x'.os, .int .i64 x'.sn, .int .i64 x'.sd, .int .i64 x'.ln, .int .i64 x'.ld, .int .i64 x'.st, .int .i64 x'.al, .int .i64 x'.oc] 51)
      clear hx hc hb
      by_cases he : x'.id = id
      · have hr : r = k := by
          rw [← HR.out]
          exact Sc.nix_first HX.out (by rw [HB.out]; exact he) HJ.out
        obtain ⟨rfl, rfl⟩ : x = (k : Int) ∧ f = true := by
          rcases HF.out with ⟨_, h2, h3⟩ | ⟨h1, _⟩
          · exact ⟨h2.trans hr, h3⟩
          · omega
        have hbe : (x'.id == id) = true := by simpa using he
        clear he hr
        go_wp2_with fail
        refine (sidN_is x' _).mono ?_; rintro e w5 ⟨rfl, hb5⟩
        have hX5 := hX2.trans (hb5.mono hX2.size)
        clear hb5 c0 c1 c2 c3 c4 c5 c6 c7 c8 c9 c10 c11
        go_wp2_with fail
        go_ret2
        exact ⟨rfl, hX5⟩
      · have hbe : (x'.id == id) = false := by simpa using he
        have HJ2 : Hid (∀ j, j < k + 1 → (atO l j).id ≠ id) := Lib.hid (fun j hj => by
          rcases Nat.lt_or_ge j k with a | a
          · exact HJ.out j a
          · rw [show j = k by omega, HB.out]; exact he)
        clear he
        go_wp2_with fail
        refine (sidN_is x' _).mono ?_; rintro e w5 ⟨rfl, hb5⟩
        have hX5 := hX2.trans (hb5.mono hX2.size)
        clear hb5 c0 c1 c2 c3 c4 c5 c6 c7 c8 c9 c10 c11
        go_wp2_with fail
        go_roundw
        case rel => exact ⟨k + 1, by omega, by simp, HJ2, hX5⟩
        case measure => simp [intOf]; omega
    · obtain rfl : k = len := by omega
      have hr : r < 0 := by
        rw [← HR.out]
        rcases Int.lt_or_le (Sc.nix l id) 0 with h | h
        · exact h
        · have h1 := Sc.nix_at h
          have h2 := Sc.nix_lt l id
          exact absurd h1 (HJ.out _ (by have := HN.out; omega))
      obtain ⟨rfl, rfl⟩ : x = 0 ∧ f = false := by
        rcases HF.out with ⟨h1, _⟩ | ⟨_, h2, h3⟩
        · omega
        · exact ⟨h2, h3⟩
      clear hr
      go_wp2_with fail
      go_ret2
      exact ⟨rfl, hX⟩
set_option maxHeartbeats 1600000 in
theorem sfindN_is (s : SH) (bs : List Mt.B) (ps : List Sc.Pt) (ns : List No.Nt) (id r x : Int) (f : Bool) (e : Int) (h : Sc.nix ns id = r) (hf : FndE (Sc.Val s.v bs ps ns ∧ 1 ≤ id ∧ id ≤ 1000000) r x f e) (hmax : s.nl ≤ 4000000 ∨ ¬ Sc.Val s.v bs ps ns) (hwf : WfS bs ps ns) (w : World) (hG : Glob w) (hS : SlS w s bs ps ns) :
    Calls Tryz.prog 51 #[.agg #[.int .i64 s.v, .slice s.B s.bl s.bc, .slice s.P s.pl s.pc, .slice s.N s.nl s.nc], .slice s.N s.nl s.nc, .int .i64 id, .func (.func 52) #[] #[]] w fun y w' => y = .returned (.tuple #[.int .i64 x, .bool f, .int .i64 e]) ∧ Below w.heap.size w w' := by
  have HW := Lib.hid hwf
  have HR := Lib.hid h
  have HL := Lib.hid (And.intro hS.bl (And.intro hS.pl hS.nl))
  clear hwf h
  by_cases q1 : Sc.Val s.v bs ps ns
  case neg =>
    obtain ⟨rfl, rfl, rfl⟩ : x = 0 ∧ f = false ∧ e = 1 := by
      rcases hf with ⟨_, h⟩ | ⟨h, _⟩
      · exact h
      · exact absurd h.1 q1
    have HV := Lib.hid q1
    clear hf hmax q1
    go_enter Tryz.func51, Tryz.ntmps51
    go_wp2_with fail
    have B := Below.refl w.heap.size w
    refine (svalid_is s bs ps ns false ⟨(fun h => by cases h), fun h => absurd h HV.out⟩ HW.out _ (hG.alloc _) (hS.alloc _)).mono ?_; rintro e w1 ⟨rfl, hb⟩
    replace hS := (hS.alloc _).below hb
    have A := (ScB.new _ s).below hb
    replace hG := (hG.alloc _).below hb
    replace B := (B.alloc (by have := B.size; simp <;> omega) _).trans (hb.mono (by have := B.size; simp <;> omega))
    clear hb
    have lA := A.lt; have cA0 := A.c0; have cA1 := A.c1; have cA2 := A.c2; have cA3 := A.c3
    go_wp2_with fail
    refine bodyPost_ret (v := .tuple #[.int .i64 0, .bool false, .int .i64 1]) (by simp [results, Tryz.results51, go_sem]) rfl ⟨rfl, B⟩
  have HV := Lib.hid q1
  by_cases q2 : 1 ≤ id ∧ id ≤ 1000000
  case neg =>
    obtain ⟨rfl, rfl, rfl⟩ : x = 0 ∧ f = false ∧ e = 1 := by
      rcases hf with ⟨_, h⟩ | ⟨h, _⟩
      · exact h
      · exact absurd h.2 q2
    have HI := Lib.hid (decide_eq_false q2)
    clear hf hmax q1 q2
    go_enter Tryz.func51, Tryz.ntmps51
    go_wp2_with fail
    have B := Below.refl w.heap.size w
    refine (svalid_is s bs ps ns true ⟨fun _ => HV.out, fun _ => rfl⟩ HW.out _ (hG.alloc _) (hS.alloc _)).mono ?_; rintro e w1 ⟨rfl, hb⟩
    replace hS := (hS.alloc _).below hb
    have A := (ScB.new _ s).below hb
    replace hG := (hG.alloc _).below hb
    replace B := (B.alloc (by have := B.size; simp <;> omega) _).trans (hb.mono (by have := B.size; simp <;> omega))
    clear hb
    have lA := A.lt; have cA0 := A.c0; have cA1 := A.c1; have cA2 := A.c2; have cA3 := A.c3
    go_wp2_with fail
    refine (tisid_is id false HI.out _).mono ?_; rintro e w2 ⟨rfl, hb⟩
    replace hS := hS.below hb
    replace A := A.below hb
    replace hG := hG.below hb
    replace B := B.trans (hb.mono (by have := B.size; simp <;> omega))
    clear hb lA cA0 cA1 cA2 cA3
    have lA := A.lt; have cA0 := A.c0; have cA1 := A.c1; have cA2 := A.c2; have cA3 := A.c3
    go_wp2_with fail
    refine bodyPost_ret (v := .tuple #[.int .i64 0, .bool false, .int .i64 1]) (by simp [results, Tryz.results51, go_sem]) rfl ⟨rfl, B⟩
  have HI := Lib.hid (decide_eq_true q2)
  obtain ⟨hf2, rfl⟩ : Fnd r x f ∧ e = 0 := by
    rcases hf with ⟨h, _⟩ | ⟨_, h⟩
    · exact absurd ⟨q1, q2⟩ h
    · exact h
  have HF := Lib.hid hf2
  have hm4 : s.nl ≤ 4000000 := by
    rcases hmax with h | h
    · exact h
    · exact absurd q1 h
  clear hf hf2 hmax q1 q2
  go_enter Tryz.func51, Tryz.ntmps51
  go_wp2_with fail
  have B := Below.refl w.heap.size w
  refine (svalid_is s bs ps ns true ⟨fun _ => HV.out, fun _ => rfl⟩ HW.out _ (hG.alloc _) (hS.alloc _)).mono ?_; rintro e w1 ⟨rfl, hb⟩
  replace hS := (hS.alloc _).below hb
  have A := (ScB.new _ s).below hb
  replace hG := (hG.alloc _).below hb
  replace B := (B.alloc (by have := B.size; simp <;> omega) _).trans (hb.mono (by have := B.size; simp <;> omega))
  clear hb
  have lA := A.lt; have cA0 := A.c0; have cA1 := A.c1; have cA2 := A.c2; have cA3 := A.c3
  go_wp2_with fail
  refine (tisid_is id true HI.out _).mono ?_; rintro e w2 ⟨rfl, hb⟩
  replace hS := hS.below hb
  replace A := A.below hb
  replace hG := hG.below hb
  replace B := B.trans (hb.mono (by have := B.size; simp <;> omega))
  clear hb lA cA0 cA1 cA2 cA3
  have lA := A.lt; have cA0 := A.c0; have cA1 := A.c1; have cA2 := A.c2; have cA3 := A.c3
  go_wp2_with fail
  refine (sindexN_is ns id r x f _ _ _ HR.out HF.out HL.out.2.2 hm4 _ (hS).sn).mono ?_; rintro e w3 ⟨rfl, hb⟩
  replace hS := hS.below hb
  replace A := A.below hb
  replace hG := hG.below hb
  replace B := B.trans (hb.mono (by have := B.size; simp <;> omega))
  clear hb lA cA0 cA1 cA2 cA3
  have lA := A.lt; have cA0 := A.c0; have cA1 := A.c1; have cA2 := A.c2; have cA3 := A.c3
  go_wp2_with fail
  refine bodyPost_ret (v := .tuple #[.int .i64 x, .bool f, .int .i64 0]) (by simp [results, Tryz.results51, go_sem]) rfl ⟨rfl, B⟩
set_option maxHeartbeats 800000 in
theorem sNote_is (s : SH) (bs : List Mt.B) (ps : List Sc.Pt) (ns : List No.Nt) (id r x : Int) (f : Bool) (e : Int) (h : Sc.nix ns id = r) (hf : FndE (Sc.Val s.v bs ps ns ∧ 1 ≤ id ∧ id ≤ 1000000) r x f e) (hwf : WfS bs ps ns) (w : World) (hG : Glob w) (hS : SlS w s bs ps ns) :
    Calls Tryz.prog 17 #[.agg #[.int .i64 s.v, .slice s.B s.bl s.bc, .slice s.P s.pl s.pc, .slice s.N s.nl s.nc], .int .i64 id] w fun y w' => y = .returned (.tuple #[.int .i64 x, .bool f, .int .i64 e]) ∧ Below w.heap.size w w' := by
  have HR := Lib.hid h
  have HF := Lib.hid hf
  have HW := Lib.hid hwf
  have HM : Hid (s.nl ≤ 4000000 ∨ ¬ Sc.Val s.v bs ps ns) := Lib.hid (by
    by_cases q : Sc.Val s.v bs ps ns
    · refine .inl ?_
      have h1 := q.notes.1.2.1
      have h2 := q.parts.1.2
      have h3 := q.notes.2.1
      have h4 := hS.bl
      have h5 := hS.pl
      have h6 := hS.nl
      omega
    · exact .inr q)
  clear h hf hwf
  go_enter Tryz.func17, Tryz.ntmps17
  go_wp2_with fail
  have B := Below.refl w.heap.size w
  refine (sfindN_is s bs ps ns id r x f e HR.out HF.out HM.out HW.out _ (hG.alloc _) (hS.alloc _)).mono ?_; rintro e w1 ⟨rfl, hb⟩
  replace hS := (hS.alloc _).below hb
  have A := (ScB.new _ s).below hb
  replace hG := (hG.alloc _).below hb
  replace B := (B.alloc (by have := B.size; simp <;> omega) _).trans (hb.mono (by have := B.size; simp <;> omega))
  clear hb
  go_wp2_with fail
  refine bodyPost_ret (v := .tuple #[.int .i64 x, .bool f, .int .i64 e]) (by simp [results, Tryz.results17, go_sem]) rfl ⟨rfl, B⟩
set_option maxHeartbeats 800000 in
theorem rasked_is (s : SH) (bs : List Mt.B) (ps : List Sc.Pt) (ns : List No.Nt) (id : Int) (f : Bool) (h : f = true ↔ (Sc.Val s.v bs ps ns ∧ 1 ≤ id ∧ id ≤ 1000000)) (w : World) (hS : SlS w s bs ps ns) :
    Calls Tryz.prog 45 #[.agg #[.int .i64 s.v, .slice s.B s.bl s.bc, .slice s.P s.pl s.pc, .slice s.N s.nl s.nc], .int .i64 id] w fun y w' => y = .returned (.bool f) ∧ Below w.heap.size w w' := by
  by_cases q1 : Sc.Val s.v bs ps ns
  case neg =>
    obtain rfl : f = false := by cases f with
      | false => rfl
      | true => exact absurd (h.1 rfl).1 q1
    have HV := Lib.hid q1
    clear h q1
    go_enter Tryz.func45, Tryz.ntmps45
    go_wp2_with fail
    have B := Below.refl w.heap.size w
    refine (rval_is s bs ps ns false ⟨(fun h => by cases h), fun h => absurd h HV.out⟩ _ (hS.alloc _)).mono ?_; rintro e w1 ⟨rfl, hb⟩
    replace hS := (hS.alloc _).below hb
    have A := (ScB.new _ s).below hb
    replace B := (B.alloc (by have := B.size; simp <;> omega) _).trans (hb.mono (by have := B.size; simp <;> omega))
    clear hb
    have lA := A.lt; have cA0 := A.c0; have cA1 := A.c1; have cA2 := A.c2; have cA3 := A.c3
    go_wp2_with fail
    go_ret
    exact ⟨rfl, B⟩
  have HV := Lib.hid q1
  by_cases q2 : 1 ≤ id ∧ id ≤ 1000000
  case neg =>
    obtain rfl : f = false := by cases f with
      | false => rfl
      | true => exact absurd (h.1 rfl).2 q2
    have HI := Lib.hid (decide_eq_false q2)
    clear h q1 q2
    go_enter Tryz.func45, Tryz.ntmps45
    go_wp2_with fail
    have B := Below.refl w.heap.size w
    refine (rval_is s bs ps ns true ⟨fun _ => HV.out, fun _ => rfl⟩ _ (hS.alloc _)).mono ?_; rintro e w1 ⟨rfl, hb⟩
    replace hS := (hS.alloc _).below hb
    have A := (ScB.new _ s).below hb
    replace B := (B.alloc (by have := B.size; simp <;> omega) _).trans (hb.mono (by have := B.size; simp <;> omega))
    clear hb
    have lA := A.lt; have cA0 := A.c0; have cA1 := A.c1; have cA2 := A.c2; have cA3 := A.c3
    go_wp2_with fail
    refine (sind_is id 1 1000000 false HI.out _).mono ?_; rintro e w2 ⟨rfl, hb⟩
    replace hS := hS.below hb
    replace A := A.below hb
    replace B := B.trans (hb.mono (by have := B.size; simp <;> omega))
    clear hb lA cA0 cA1 cA2 cA3
    have lA := A.lt; have cA0 := A.c0; have cA1 := A.c1; have cA2 := A.c2; have cA3 := A.c3
    go_wp2_with fail
    go_ret
    exact ⟨rfl, B⟩
  obtain rfl : f = true := h.2 ⟨q1, q2⟩
  have HI := Lib.hid (decide_eq_true q2)
  clear h q1 q2
  go_enter Tryz.func45, Tryz.ntmps45
  go_wp2_with fail
  have B := Below.refl w.heap.size w
  refine (rval_is s bs ps ns true ⟨fun _ => HV.out, fun _ => rfl⟩ _ (hS.alloc _)).mono ?_; rintro e w1 ⟨rfl, hb⟩
  replace hS := (hS.alloc _).below hb
  have A := (ScB.new _ s).below hb
  replace B := (B.alloc (by have := B.size; simp <;> omega) _).trans (hb.mono (by have := B.size; simp <;> omega))
  clear hb
  have lA := A.lt; have cA0 := A.c0; have cA1 := A.c1; have cA2 := A.c2; have cA3 := A.c3
  go_wp2_with fail
  refine (sind_is id 1 1000000 true HI.out _).mono ?_; rintro e w2 ⟨rfl, hb⟩
  replace hS := hS.below hb
  replace A := A.below hb
  replace B := B.trans (hb.mono (by have := B.size; simp <;> omega))
  clear hb lA cA0 cA1 cA2 cA3
  have lA := A.lt; have cA0 := A.c0; have cA1 := A.c1; have cA2 := A.c2; have cA3 := A.c3
  go_wp2_with fail
  go_ret
  exact ⟨rfl, B⟩
set_option maxHeartbeats 400000 in
theorem rfound_is (r x : Int) (f : Bool) (h : Fnd r x f) (w : World) :
    Calls Tryz.prog 46 #[.int .i64 r] w fun y w' => y = .returned (.tuple #[.int .i64 x, .bool f]) ∧ Below w.heap.size w w' := by
  rcases h with ⟨h, rfl, rfl⟩ | ⟨h, rfl, rfl⟩
  · have h2 : ¬ x < 0 := by omega
    go_enter Tryz.func46, Tryz.ntmps46
    go_wp2_with fail
    go_ret2
    exact ⟨rfl, Below.refl _ _⟩
  · go_enter Tryz.func46, Tryz.ntmps46
    go_wp2_with fail
    go_ret2
    exact ⟨rfl, Below.refl _ _⟩
set_option maxHeartbeats 800000 in
theorem rBar_is (s : SH) (bs : List Mt.B) (ps : List Sc.Pt) (ns : List No.Nt) (id r x : Int) (f : Bool) (e : Int) (h : No.bix bs id = r) (hf : FndE (Sc.Val s.v bs ps ns ∧ 1 ≤ id ∧ id ≤ 1000000) r x f e) (w : World) (hS : SlS w s bs ps ns) :
    Calls Tryz.prog 14 #[.agg #[.int .i64 s.v, .slice s.B s.bl s.bc, .slice s.P s.pl s.pc, .slice s.N s.nl s.nc], .int .i64 id] w fun y w' => y = .returned (.tuple #[.int .i64 x, .bool f, .int .i64 e]) ∧ Below w.heap.size w w' := by
  have HR := Lib.hid h
  have HL := Lib.hid (And.intro hS.bl (And.intro hS.pl hS.nl))
  clear h
  rcases hf with ⟨ho, rfl, rfl, rfl⟩ | ⟨ho, hf, rfl⟩
  · have HO := Lib.hid ho
    clear ho
    go_enter Tryz.func14, Tryz.ntmps14
    go_wp2_with fail
    have B := Below.refl w.heap.size w
    refine (rasked_is s bs ps ns id false ⟨(fun h => by cases h), fun h => absurd h HO.out⟩ _ (hS.alloc _)).mono ?_; rintro e w1 ⟨rfl, hb⟩
    replace hS := (hS.alloc _).below hb
    have A := (ScB.new _ s).below hb
    replace B := (B.alloc (by have := B.size; simp <;> omega) _).trans (hb.mono (by have := B.size; simp <;> omega))
    clear hb
    have lA := A.lt; have cA0 := A.c0; have cA1 := A.c1; have cA2 := A.c2; have cA3 := A.c3
    go_wp2_with fail
    refine bodyPost_ret (v := .tuple #[.int .i64 0, .bool false, .int .i64 1]) (by simp [results, Tryz.results14, go_sem]) rfl ⟨rfl, B⟩
  · have HO := Lib.hid ho
    have HF := Lib.hid hf
    have hm4 : s.bl ≤ 4000000 := by
      have h1 := ho.1.notes.1.2.1
      have h2 := ho.1.parts.1.2
      have h3 := ho.1.notes.2.1
      have h4 := hS.bl
      have h5 := hS.pl
      have h6 := hS.nl
      omega
    clear ho hf
    go_enter Tryz.func14, Tryz.ntmps14
    go_wp2_with fail
    have B := Below.refl w.heap.size w
    refine (rasked_is s bs ps ns id true ⟨fun _ => HO.out, fun _ => rfl⟩ _ (hS.alloc _)).mono ?_; rintro e w1 ⟨rfl, hb⟩
    replace hS := (hS.alloc _).below hb
    have A := (ScB.new _ s).below hb
    replace B := (B.alloc (by have := B.size; simp <;> omega) _).trans (hb.mono (by have := B.size; simp <;> omega))
    clear hb
    have lA := A.lt; have cA0 := A.c0; have cA1 := A.c1; have cA2 := A.c2; have cA3 := A.c3
    go_wp2_with fail
    refine (rbar_b bs id r _ _ _ HR.out HL.out.1 hm4 _ (hS).sb).mono ?_; rintro e w2 ⟨rfl, hb⟩
    replace hS := hS.below hb
    replace A := A.below hb
    replace B := B.trans (hb.mono (by have := B.size; simp <;> omega))
    clear hb lA cA0 cA1 cA2 cA3
    have lA := A.lt; have cA0 := A.c0; have cA1 := A.c1; have cA2 := A.c2; have cA3 := A.c3
    go_wp2_with fail
    refine (rfound_is r x f HF.out _).mono ?_; rintro e w3 ⟨rfl, hb⟩
    replace hS := hS.below hb
    replace A := A.below hb
    replace B := B.trans (hb.mono (by have := B.size; simp <;> omega))
    clear hb lA cA0 cA1 cA2 cA3
    go_wp2_with fail
    refine bodyPost_ret (v := .tuple #[.int .i64 x, .bool f, .int .i64 0]) (by simp [results, Tryz.results14, go_sem]) rfl ⟨rfl, B⟩
set_option maxHeartbeats 800000 in
theorem rPart_is (s : SH) (bs : List Mt.B) (ps : List Sc.Pt) (ns : List No.Nt) (id r x : Int) (f : Bool) (e : Int) (h : Sc.pix ps id = r) (hf : FndE (Sc.Val s.v bs ps ns ∧ 1 ≤ id ∧ id ≤ 1000000) r x f e) (w : World) (hS : SlS w s bs ps ns) :
    Calls Tryz.prog 16 #[.agg #[.int .i64 s.v, .slice s.B s.bl s.bc, .slice s.P s.pl s.pc, .slice s.N s.nl s.nc], .int .i64 id] w fun y w' => y = .returned (.tuple #[.int .i64 x, .bool f, .int .i64 e]) ∧ Below w.heap.size w w' := by
  have HR := Lib.hid h
  have HL := Lib.hid (And.intro hS.bl (And.intro hS.pl hS.nl))
  clear h
  rcases hf with ⟨ho, rfl, rfl, rfl⟩ | ⟨ho, hf, rfl⟩
  · have HO := Lib.hid ho
    clear ho
    go_enter Tryz.func16, Tryz.ntmps16
    go_wp2_with fail
    have B := Below.refl w.heap.size w
    refine (rasked_is s bs ps ns id false ⟨(fun h => by cases h), fun h => absurd h HO.out⟩ _ (hS.alloc _)).mono ?_; rintro e w1 ⟨rfl, hb⟩
    replace hS := (hS.alloc _).below hb
    have A := (ScB.new _ s).below hb
    replace B := (B.alloc (by have := B.size; simp <;> omega) _).trans (hb.mono (by have := B.size; simp <;> omega))
    clear hb
    have lA := A.lt; have cA0 := A.c0; have cA1 := A.c1; have cA2 := A.c2; have cA3 := A.c3
    go_wp2_with fail
    refine bodyPost_ret (v := .tuple #[.int .i64 0, .bool false, .int .i64 1]) (by simp [results, Tryz.results16, go_sem]) rfl ⟨rfl, B⟩
  · have HO := Lib.hid ho
    have HF := Lib.hid hf
    have hm4 : s.pl ≤ 4000000 := by
      have h1 := ho.1.notes.1.2.1
      have h2 := ho.1.parts.1.2
      have h3 := ho.1.notes.2.1
      have h4 := hS.bl
      have h5 := hS.pl
      have h6 := hS.nl
      omega
    clear ho hf
    go_enter Tryz.func16, Tryz.ntmps16
    go_wp2_with fail
    have B := Below.refl w.heap.size w
    refine (rasked_is s bs ps ns id true ⟨fun _ => HO.out, fun _ => rfl⟩ _ (hS.alloc _)).mono ?_; rintro e w1 ⟨rfl, hb⟩
    replace hS := (hS.alloc _).below hb
    have A := (ScB.new _ s).below hb
    replace B := (B.alloc (by have := B.size; simp <;> omega) _).trans (hb.mono (by have := B.size; simp <;> omega))
    clear hb
    have lA := A.lt; have cA0 := A.c0; have cA1 := A.c1; have cA2 := A.c2; have cA3 := A.c3
    go_wp2_with fail
    refine (rpartat_is ps id r _ _ _ HR.out HL.out.2.1 hm4 _ (hS).sp).mono ?_; rintro e w2 ⟨rfl, hb⟩
    replace hS := hS.below hb
    replace A := A.below hb
    replace B := B.trans (hb.mono (by have := B.size; simp <;> omega))
    clear hb lA cA0 cA1 cA2 cA3
    have lA := A.lt; have cA0 := A.c0; have cA1 := A.c1; have cA2 := A.c2; have cA3 := A.c3
    go_wp2_with fail
    refine (rfound_is r x f HF.out _).mono ?_; rintro e w3 ⟨rfl, hb⟩
    replace hS := hS.below hb
    replace A := A.below hb
    replace B := B.trans (hb.mono (by have := B.size; simp <;> omega))
    clear hb lA cA0 cA1 cA2 cA3
    go_wp2_with fail
    refine bodyPost_ret (v := .tuple #[.int .i64 x, .bool f, .int .i64 0]) (by simp [results, Tryz.results16, go_sem]) rfl ⟨rfl, B⟩
set_option maxHeartbeats 800000 in
theorem rNote_is (s : SH) (bs : List Mt.B) (ps : List Sc.Pt) (ns : List No.Nt) (id r x : Int) (f : Bool) (e : Int) (h : Sc.nix ns id = r) (hf : FndE (Sc.Val s.v bs ps ns ∧ 1 ≤ id ∧ id ≤ 1000000) r x f e) (w : World) (hS : SlS w s bs ps ns) :
    Calls Tryz.prog 18 #[.agg #[.int .i64 s.v, .slice s.B s.bl s.bc, .slice s.P s.pl s.pc, .slice s.N s.nl s.nc], .int .i64 id] w fun y w' => y = .returned (.tuple #[.int .i64 x, .bool f, .int .i64 e]) ∧ Below w.heap.size w w' := by
  have HR := Lib.hid h
  have HL := Lib.hid (And.intro hS.bl (And.intro hS.pl hS.nl))
  clear h
  rcases hf with ⟨ho, rfl, rfl, rfl⟩ | ⟨ho, hf, rfl⟩
  · have HO := Lib.hid ho
    clear ho
    go_enter Tryz.func18, Tryz.ntmps18
    go_wp2_with fail
    have B := Below.refl w.heap.size w
    refine (rasked_is s bs ps ns id false ⟨(fun h => by cases h), fun h => absurd h HO.out⟩ _ (hS.alloc _)).mono ?_; rintro e w1 ⟨rfl, hb⟩
    replace hS := (hS.alloc _).below hb
    have A := (ScB.new _ s).below hb
    replace B := (B.alloc (by have := B.size; simp <;> omega) _).trans (hb.mono (by have := B.size; simp <;> omega))
    clear hb
    have lA := A.lt; have cA0 := A.c0; have cA1 := A.c1; have cA2 := A.c2; have cA3 := A.c3
    go_wp2_with fail
    refine bodyPost_ret (v := .tuple #[.int .i64 0, .bool false, .int .i64 1]) (by simp [results, Tryz.results18, go_sem]) rfl ⟨rfl, B⟩
  · have HO := Lib.hid ho
    have HF := Lib.hid hf
    have hm4 : s.nl ≤ 4000000 := by
      have h1 := ho.1.notes.1.2.1
      have h2 := ho.1.parts.1.2
      have h3 := ho.1.notes.2.1
      have h4 := hS.bl
      have h5 := hS.pl
      have h6 := hS.nl
      omega
    clear ho hf
    go_enter Tryz.func18, Tryz.ntmps18
    go_wp2_with fail
    have B := Below.refl w.heap.size w
    refine (rasked_is s bs ps ns id true ⟨fun _ => HO.out, fun _ => rfl⟩ _ (hS.alloc _)).mono ?_; rintro e w1 ⟨rfl, hb⟩
    replace hS := (hS.alloc _).below hb
    have A := (ScB.new _ s).below hb
    replace B := (B.alloc (by have := B.size; simp <;> omega) _).trans (hb.mono (by have := B.size; simp <;> omega))
    clear hb
    have lA := A.lt; have cA0 := A.c0; have cA1 := A.c1; have cA2 := A.c2; have cA3 := A.c3
    go_wp2_with fail
    refine (rnoteat_is ns id r _ _ _ HR.out HL.out.2.2 hm4 _ (hS).sn).mono ?_; rintro e w2 ⟨rfl, hb⟩
    replace hS := hS.below hb
    replace A := A.below hb
    replace B := B.trans (hb.mono (by have := B.size; simp <;> omega))
    clear hb lA cA0 cA1 cA2 cA3
    have lA := A.lt; have cA0 := A.c0; have cA1 := A.c1; have cA2 := A.c2; have cA3 := A.c3
    go_wp2_with fail
    refine (rfound_is r x f HF.out _).mono ?_; rintro e w3 ⟨rfl, hb⟩
    replace hS := hS.below hb
    replace A := A.below hb
    replace B := B.trans (hb.mono (by have := B.size; simp <;> omega))
    clear hb lA cA0 cA1 cA2 cA3
    go_wp2_with fail
    refine bodyPost_ret (v := .tuple #[.int .i64 x, .bool f, .int .i64 0]) (by simp [results, Tryz.results18, go_sem]) rfl ⟨rfl, B⟩
end Go.Proofs.YtbbjifhelbeniaaGreatDoor
