/- The walk of reprise's Find: the order is ranged over until the visit comes. -/
import Derived.Test.YtakbpgljbbkmkaaWm
namespace Go.Proofs.Ytakbpgljbbkmkaa
open Go.RowKit Go.Shelf Go.Maps

attribute [local go_sem] Oper.semAt_some

theorem wp_behind {P : Program} {c : Code} {Q : Exit → Act → World → Prop} {a : Act} {w : World} (h : ∀ Q2 : Exit → Act → World → Prop, (∀ e a w, Q e a w → Q2 e a w) → c.wp P Q2 a w) : c.wp P Q a w := h Q fun _ _ _ q => q
/-- A variable of one cell. -/
structure R1 (w : World) (b : Nat) (v : Value) : Prop where
  c : w.cell? ⟨b, 0, none⟩ = some v
  f : w.frozen? ⟨b, 0, none⟩ = false
theorem R1.lt {w : World} {b : Nat} {v : Value} (h : R1 w b v) : b < w.heap.size := World.block_lt_of_cell? _ _ h.c
theorem R1.sameB {w w' : World} {b : Nat} {v : Value} (h : R1 w b v) (hb : w'.heap[b]? = w.heap[b]?) : R1 w' b v :=
  ⟨(World.cell?_of_block (w := w) (a := ⟨b, 0, none⟩) hb).trans h.c, (World.frozen?_of_block (w := w) (a := ⟨b, 0, none⟩) hb).trans h.f⟩
theorem R1.below {w w' : World} {b : Nat} {v : Value} (h : R1 w b v) (hb : Below w.heap.size w w') : R1 w' b v := h.sameB (hb.block b h.lt)
theorem R1.alloc {w : World} {b : Nat} {v : Value} (h : R1 w b v) (o : Obj) : R1 (w.alloc o) b v := h.below ((Below.refl _ _).alloc (Nat.le_refl _) _)
theorem R1.set {w : World} {b : Nat} {v : Value} (h : R1 w b v) (u : Value) : R1 (w.setCell ⟨b, 0, none⟩ u) b u := ⟨World.cell?_setCell_same' _ _ _ (by rw [h.c]; rfl), by rw [World.frozen?_setCell]; exact h.f⟩
theorem R1.ne {w : World} {b c : Nat} {v : Value} (h : R1 w b v) (hn : b ≠ c) (k : Nat) (u : Value) : R1 (w.setCell ⟨c, k, none⟩ u) b v := h.sameB (Below.heap_setCell w ⟨c, k, none⟩ u b hn)
theorem R1.new (w : World) (v : Value) (t : TypeId) (h : v.cells.size = 1 := by rfl) : R1 (w.alloc (.cells #[v] t)) w.heap.size v := ⟨(new1 w v t h).1, (new1 w v t h).2⟩
theorem R1.put {w : World} {b : Nat} {v : Value} (h : R1 w b v) (l : Nat) (o : Obj) (hn : b ≠ l) : R1 (w.putObj l o) b v := h.sameB (World.putObj_heap_other hn)
theorem FB.sameB {w w' : World} {b : Nat} {h : FH} (s : FB w b h) (hs : w.heap.size ≤ w'.heap.size) (hk : w'.heap[b]? = w.heap[b]?) : FB w' b h := by
  have c : ∀ j u, w.cell? ⟨b, j, none⟩ = some u → w'.cell? ⟨b, j, none⟩ = some u := fun j u hu => (World.cell?_of_block (w := w) (a := ⟨b, j, none⟩) hk).trans hu
  exact ⟨Nat.lt_of_lt_of_le s.lt hs, c 0 _ s.c0, c 1 _ s.c1, c 2 _ s.c2, c 3 _ s.c3, c 4 _ s.c4, c 5 _ s.c5, c 6 _ s.c6⟩
set_option maxHeartbeats 3200000 in
theorem wFind_no (h : FH) (f : Fo.Fm) (v : Fo.V2) (hV : ¬ Fo.Val f) (hwf : ∀ c ∈ f.cs, Fo.wf3 c) (w : World) (hS : SlF w h f) :
    Calls Try.prog 16 #[.agg #[.int .i64 h.n, .slice h.R h.rl h.rc, .slice h.E h.el h.ec, .int .i64 h.ja, .int .i64 h.jt, .int .i64 h.jf, .slice h.C h.cl h.cc], .agg #[.int .i64 v.b, .int .i64 v.p]] w fun e w' => Below w.heap.size w w' ∧ e = .returned (.tuple #[.int .i64 0, .bool false, .int .i64 1]) := by
  have Q1 := (((FB.new w h).alloc (.cells #[.int .i64 v.b, .int .i64 v.p] 30)).alloc (.cells #[.int .i64 0] 3)).alloc (.cells #[.bool false] 4) |>.alloc (.cells #[.int .i64 0] 36)
  have A1 := ((At2.new (w.alloc (.cells #[.int .i64 h.n, .slice h.R h.rl h.rc, .slice h.E h.el h.ec, .int .i64 h.ja, .int .i64 h.jt, .int .i64 h.jf, .slice h.C h.cl h.cc] 28)) v.b v.p 30).alloc (.cells #[.int .i64 0] 3)).alloc (.cells #[.bool false] 4) |>.alloc (.cells #[.int .i64 0] 36)
  have z0 := ((R1.new ((w.alloc (.cells #[.int .i64 h.n, .slice h.R h.rl h.rc, .slice h.E h.el h.ec, .int .i64 h.ja, .int .i64 h.jt, .int .i64 h.jf, .slice h.C h.cl h.cc] 28)).alloc (.cells #[.int .i64 v.b, .int .i64 v.p] 30)) (.int .i64 0) 3).alloc (.cells #[.bool false] 4)).alloc (.cells #[.int .i64 0] 36)
  have z1 := (R1.new (((w.alloc (.cells #[.int .i64 h.n, .slice h.R h.rl h.rc, .slice h.E h.el h.ec, .int .i64 h.ja, .int .i64 h.jt, .int .i64 h.jf, .slice h.C h.cl h.cc] 28)).alloc (.cells #[.int .i64 v.b, .int .i64 v.p] 30)).alloc (.cells #[.int .i64 0] 3)) (.bool false) 4).alloc (.cells #[.int .i64 0] 36)
  have z2 := R1.new ((((w.alloc (.cells #[.int .i64 h.n, .slice h.R h.rl h.rc, .slice h.E h.el h.ec, .int .i64 h.ja, .int .i64 h.jt, .int .i64 h.jf, .slice h.C h.cl h.cc] 28)).alloc (.cells #[.int .i64 v.b, .int .i64 v.p] 30)).alloc (.cells #[.int .i64 0] 3)).alloc (.cells #[.bool false] 4)) (.int .i64 0) 36
  have B1 := ((((Below.refl w.heap.size w).alloc (Nat.le_refl _) (.cells #[.int .i64 h.n, .slice h.R h.rl h.rc, .slice h.E h.el h.ec, .int .i64 h.ja, .int .i64 h.jt, .int .i64 h.jf, .slice h.C h.cl h.cc] 28)).alloc (by simp) (.cells #[.int .i64 v.b, .int .i64 v.p] 30)).alloc (by simp; omega) (.cells #[.int .i64 0] 3)).alloc (by simp; omega) (.cells #[.bool false] 4) |>.alloc (by simp; omega) (.cells #[.int .i64 0] 36)
  have S1 := (((hS.alloc (.cells #[.int .i64 h.n, .slice h.R h.rl h.rc, .slice h.E h.el h.ec, .int .i64 h.ja, .int .i64 h.jt, .int .i64 h.jf, .slice h.C h.cl h.cc] 28)).alloc (.cells #[.int .i64 v.b, .int .i64 v.p] 30)).alloc (.cells #[.int .i64 0] 3)).alloc (.cells #[.bool false] 4) |>.alloc (.cells #[.int .i64 0] 36)
  simp only [World.size_alloc] at A1 z0 z1 z2
  have HS := Lib.hid S1
  clear hS Q1 A1 S1
  go_enter Try.func16, Try.ntmps16
  go_wp2_with fail
  obtain ⟨w1, hw1⟩ : ∃ w1, (((((w.alloc (.cells #[.int .i64 h.n, .slice h.R h.rl h.rc, .slice h.E h.el h.ec, .int .i64 h.ja, .int .i64 h.jt, .int .i64 h.jf, .slice h.C h.cl h.cc] 28)).alloc (.cells #[.int .i64 v.b, .int .i64 v.p] 30)).alloc (.cells #[.int .i64 0] 3)).alloc (.cells #[.bool false] 4)).alloc (.cells #[.int .i64 0] 36)) = w1 := ⟨_, rfl⟩
  have hs1 : w1.heap.size = w.heap.size + 1 + 1 + 1 + 1 + 1 := by rw [← hw1]; simp
  rw [hw1] at z0 z1 z2 B1 HS
  rw [hw1]
  clear hw1
  refine (wValid_is h f false ⟨fun h => (by cases h), fun h => absurd h hV⟩ hwf _ HS.out).mono ?_; rintro e w2 ⟨rfl, hb⟩
  have B2 := B1.trans (hb.mono (by omega))
  replace z0 := z0.below hb; replace z1 := z1.below hb; replace z2 := z2.below hb
  obtain ⟨c0, f0⟩ := z0
  obtain ⟨c1, f1⟩ := z1
  obtain ⟨c2, f2⟩ := z2
  clear hb B1 hs1
  go_wp2_with fail
  refine bodyPost_ret (v := .tuple #[.int .i64 0, .bool false, .int .i64 1]) (by simp [results, Try.results16, go_sem, c0, c1, c2]) rfl ⟨?_, rfl⟩
  exact ((B2.setCell (p := ⟨_, 0, none⟩) (by simp; omega) _).setCell (p := ⟨_, 0, none⟩) (by simp; omega) _).setCell (p := ⟨_, 0, none⟩) (by simp; omega) _
set_option maxHeartbeats 12800000 in
set_option maxRecDepth 100000 in
theorem wFind_is (h : FH) (f : Fo.Fm) (v : Fo.V2) (r : Int) (V : Fo.Val f) (hr : Fo.vix (Fo.unf f) v = r) (hwf : ∀ c ∈ f.cs, Fo.wf3 c) (w : World) (hS : SlF w h f) :
    Calls Try.prog 16 #[.agg #[.int .i64 h.n, .slice h.R h.rl h.rc, .slice h.E h.el h.ec, .int .i64 h.ja, .int .i64 h.jt, .int .i64 h.jf, .slice h.C h.cl h.cc], .agg #[.int .i64 v.b, .int .i64 v.p]] w fun e w' => Below w.heap.size w w' ∧ e = .returned (.tuple #[.int .i64 (if r < 0 then 0 else r), .bool (decide (0 ≤ r)), .int .i64 0]) := by
  have Q1 := (((FB.new w h).alloc (.cells #[.int .i64 v.b, .int .i64 v.p] 30)).alloc (.cells #[.int .i64 0] 3)).alloc (.cells #[.bool false] 4) |>.alloc (.cells #[.int .i64 0] 36)
  have A1 := ((At2.new (w.alloc (.cells #[.int .i64 h.n, .slice h.R h.rl h.rc, .slice h.E h.el h.ec, .int .i64 h.ja, .int .i64 h.jt, .int .i64 h.jf, .slice h.C h.cl h.cc] 28)) v.b v.p 30).alloc (.cells #[.int .i64 0] 3)).alloc (.cells #[.bool false] 4) |>.alloc (.cells #[.int .i64 0] 36)
  have z0 := ((R1.new ((w.alloc (.cells #[.int .i64 h.n, .slice h.R h.rl h.rc, .slice h.E h.el h.ec, .int .i64 h.ja, .int .i64 h.jt, .int .i64 h.jf, .slice h.C h.cl h.cc] 28)).alloc (.cells #[.int .i64 v.b, .int .i64 v.p] 30)) (.int .i64 0) 3).alloc (.cells #[.bool false] 4)).alloc (.cells #[.int .i64 0] 36)
  have z1 := (R1.new (((w.alloc (.cells #[.int .i64 h.n, .slice h.R h.rl h.rc, .slice h.E h.el h.ec, .int .i64 h.ja, .int .i64 h.jt, .int .i64 h.jf, .slice h.C h.cl h.cc] 28)).alloc (.cells #[.int .i64 v.b, .int .i64 v.p] 30)).alloc (.cells #[.int .i64 0] 3)) (.bool false) 4).alloc (.cells #[.int .i64 0] 36)
  have z2 := R1.new ((((w.alloc (.cells #[.int .i64 h.n, .slice h.R h.rl h.rc, .slice h.E h.el h.ec, .int .i64 h.ja, .int .i64 h.jt, .int .i64 h.jf, .slice h.C h.cl h.cc] 28)).alloc (.cells #[.int .i64 v.b, .int .i64 v.p] 30)).alloc (.cells #[.int .i64 0] 3)).alloc (.cells #[.bool false] 4)) (.int .i64 0) 36
  have B1 := ((((Below.refl w.heap.size w).alloc (Nat.le_refl _) (.cells #[.int .i64 h.n, .slice h.R h.rl h.rc, .slice h.E h.el h.ec, .int .i64 h.ja, .int .i64 h.jt, .int .i64 h.jf, .slice h.C h.cl h.cc] 28)).alloc (by simp) (.cells #[.int .i64 v.b, .int .i64 v.p] 30)).alloc (by simp; omega) (.cells #[.int .i64 0] 3)).alloc (by simp; omega) (.cells #[.bool false] 4) |>.alloc (by simp; omega) (.cells #[.int .i64 0] 36)
  have S1 := (((hS.alloc (.cells #[.int .i64 h.n, .slice h.R h.rl h.rc, .slice h.E h.el h.ec, .int .i64 h.ja, .int .i64 h.jt, .int .i64 h.jf, .slice h.C h.cl h.cc] 28)).alloc (.cells #[.int .i64 v.b, .int .i64 v.p] 30)).alloc (.cells #[.int .i64 0] 3)).alloc (.cells #[.bool false] 4) |>.alloc (.cells #[.int .i64 0] 36)
  simp only [World.size_alloc] at A1 z0 z1 z2
  have HS := Lib.hid S1; have HS0 := Lib.hid hS
  have HV := Lib.hid V; have HR := Lib.hid hr; have HWF := Lib.hid hwf
  have HLN := Lib.hid (Fo.unf_len V.ok)
  have HCL : Hid (h.cl ≤ 1000000) := Lib.hid (by have := V.cl; rw [hS.cl] at this; omega)
  clear hS S1 V hr hwf
  refine (callsIn_wide (n := 10)).1 (callsIn_of_wp_marks Try.func16 rfl trivial (wpIn_wide.2 ?_) rfl)
  simp only [Try.ntmps16, List.size_toArray, List.length_cons, List.length_nil, Nat.reduceAdd, Nat.reduceSub, Array.replicate_succ, Array.replicate_zero, List.push_toArray, List.append_toArray, List.nil_append, List.cons_append]
  refine wp_behind (fun Q2 hQ2 => ?_)
  have HQ2 := Lib.hid hQ2
  clear hQ2
  go_wp2_with fail
  obtain ⟨w1, hw1⟩ : ∃ w1, (((((w.alloc (.cells #[.int .i64 h.n, .slice h.R h.rl h.rc, .slice h.E h.el h.ec, .int .i64 h.ja, .int .i64 h.jt, .int .i64 h.jf, .slice h.C h.cl h.cc] 28)).alloc (.cells #[.int .i64 v.b, .int .i64 v.p] 30)).alloc (.cells #[.int .i64 0] 3)).alloc (.cells #[.bool false] 4)).alloc (.cells #[.int .i64 0] 36)) = w1 := ⟨_, rfl⟩
  have hs1 : w1.heap.size = w.heap.size + 1 + 1 + 1 + 1 + 1 := by rw [← hw1]; simp
  rw [hw1] at z0 z1 z2 B1 HS Q1 A1
  rw [hw1]
  clear hw1
  refine (wValid_is h f true ⟨fun _ => HV.out, fun _ => rfl⟩ HWF.out _ HS.out).mono ?_; rintro e w2 ⟨rfl, hb⟩
  have hs2 := hb.size
  have B2 := B1.trans (hb.mono (by omega))
  replace z0 := z0.below hb; replace z1 := z1.below hb; replace z2 := z2.below hb
  have Q2 := Q1.below hb; have A2 := A1.below hb
  have HS2 := Lib.hid (HS.out.below hb)
  have q0 := Q2.c0; have q1 := Q2.c1; have q2 := Q2.c2; have q3 := Q2.c3; have q4 := Q2.c4; have q5 := Q2.c5; have q6 := Q2.c6; have ql := Q2.lt
  have HZ0 := Lib.hid z0; have HZ1 := Lib.hid z1; have HZ2 := Lib.hid z2
  clear hb B1 Q1 A1 z0 z1 z2
  go_wp2_with fail
  refine (worderm_is h _).mono ?_; rintro e w3 ⟨rfl, rfl⟩
  obtain ⟨tb, htb⟩ : ∃ t, w2.heap.size = t := ⟨_, rfl⟩
  obtain ⟨w4, hw4⟩ : ∃ w4, (w2.alloc (.cells #[.int .i64 0] 3)).alloc (.cells #[.int .i64 h.n, .slice h.R h.rl h.rc, .slice h.E h.el h.ec, .int .i64 h.ja, .int .i64 h.jt, .int .i64 h.jf, .slice h.C h.cl h.cc] 28) = w4 := ⟨_, rfl⟩
  have hs4 : w4.heap.size = tb + 2 := by rw [← hw4, ← htb]; simp
  have ht := (R1.new w2 (.int .i64 0) 3).alloc (.cells #[.int .i64 h.n, .slice h.R h.rl h.rc, .slice h.E h.el h.ec, .int .i64 h.ja, .int .i64 h.jt, .int .i64 h.jf, .slice h.C h.cl h.cc] 28)
  have QF := FB.new (w2.alloc (.cells #[.int .i64 0] 3)) h
  have B4 := (B2.alloc B2.size (.cells #[.int .i64 0] 3)).alloc (by have := B2.size; simp; omega) (.cells #[.int .i64 h.n, .slice h.R h.rl h.rc, .slice h.E h.el h.ec, .int .i64 h.ja, .int .i64 h.jt, .int .i64 h.jf, .slice h.C h.cl h.cc] 28)
  have HY0 := Lib.hid ((HZ0.out.alloc (.cells #[.int .i64 0] 3)).alloc (.cells #[.int .i64 h.n, .slice h.R h.rl h.rc, .slice h.E h.el h.ec, .int .i64 h.ja, .int .i64 h.jt, .int .i64 h.jf, .slice h.C h.cl h.cc] 28)); have HY1 := Lib.hid ((HZ1.out.alloc (.cells #[.int .i64 0] 3)).alloc (.cells #[.int .i64 h.n, .slice h.R h.rl h.rc, .slice h.E h.el h.ec, .int .i64 h.ja, .int .i64 h.jt, .int .i64 h.jf, .slice h.C h.cl h.cc] 28)); have HY2 := Lib.hid ((HZ2.out.alloc (.cells #[.int .i64 0] 3)).alloc (.cells #[.int .i64 h.n, .slice h.R h.rl h.rc, .slice h.E h.el h.ec, .int .i64 h.ja, .int .i64 h.jt, .int .i64 h.jf, .slice h.C h.cl h.cc] 28))
  have HA4 := Lib.hid ((A2.alloc (.cells #[.int .i64 0] 3)).alloc (.cells #[.int .i64 h.n, .slice h.R h.rl h.rc, .slice h.E h.el h.ec, .int .i64 h.ja, .int .i64 h.jt, .int .i64 h.jf, .slice h.C h.cl h.cc] 28))
  have htw : w.heap.size + 5 ≤ tb := by omega
  simp only [World.size_alloc, htb] at QF ht
  rw [hw4] at ht QF B4 HY0 HY1 HY2 HA4
  have HT := Lib.hid ht; have HB4 := Lib.hid B4
  have HSQ := Lib.hid (worder_seq h f HV.out.ok HV.out.cs HCL.out (tb + 1) (fun k => k < w.heap.size ∨ k = tb + 1) w4 (fun k hk => by omega) (fun Y hY => by
    have ha : Ahead w.heap.size w Y := ⟨by have := hY.size; omega, fun k hk => (hY.same k (by omega) (.inl hk)).trans (B4.block k hk)⟩
    exact ⟨QF.sameB hY.size (hY.same _ (by omega) (.inr rfl)), HS0.out.ahead ha⟩))
  clear q0 q1 q2 q3 q4 q5 q6 ql Q2 A2 ht QF B4 B2 HZ0 HZ1 HZ2
  go_wp2_with fail
  (try simp only [World.size_alloc, htb])
  (try rw [hw4])
  clear hw4
  refine wp_seqR (gf := 54) (lb := #[.pointer (some ⟨tb + 1, 0, none⟩)]) rfl (enters_of Try.func54 (by kernel_rfl) rfl) HSQ.out (fun k hk => by omega) (Below.refl _ _)
    (fun _ => rfl)
    (fun R pre X => Hid (v ∉ pre) ∧ R1 X tb (.int .i64 (pre.length : Int)) ∧ (∃ u0 u1 u2, R1 X (w.heap.size + 1 + 1) u0 ∧ R1 X (w.heap.size + 1 + 1 + 1) u1 ∧ R1 X (w.heap.size + 1 + 1 + 1 + 1) u2) ∧ At2 X (w.heap.size + 1) v.b v.p ∧ Below w.heap.size w X)
    (fun R pre X => R1 X (w.heap.size + 1 + 1) (.int .i64 r) ∧ R1 X (w.heap.size + 1 + 1 + 1) (.bool true) ∧ R1 X (w.heap.size + 1 + 1 + 1 + 1) (.int .i64 0) ∧ 0 ≤ r ∧ Below w.heap.size w X) true 0 ?hmono (fun _ _ _ _ _ h => h) ?hI ?hIx ?h0
    (fun R x a' X => ∃ b, R b ∧ At2 X b x.b x.p ∧ a' = { tmps := #[.agg #[.int .i64 h.n, .slice h.R h.rl h.rc, .slice h.E h.el h.ec, .int .i64 h.ja, .int .i64 h.jt, .int .i64 h.jf, .slice h.C h.cl h.cc], .agg #[.int .i64 v.b, .int .i64 v.p], .pointer (some ⟨w.heap.size, 0, none⟩), .pointer (some ⟨w.heap.size + 1, 0, none⟩), .pointer (some ⟨w.heap.size + 1 + 1, 0, none⟩), .pointer (some ⟨w.heap.size + 1 + 1 + 1, 0, none⟩), .pointer (some ⟨w.heap.size + 1 + 1 + 1 + 1, 0, none⟩), .pointer (some ⟨tb, 0, none⟩), .pointer (some ⟨b, 0, none⟩), .agg #[.int .i64 h.n, .slice h.R h.rl h.rc, .slice h.E h.el h.ec, .int .i64 h.ja, .int .i64 h.jt, .int .i64 h.jf, .slice h.C h.cl h.cc], .bool true, .bool false, .agg #[.int .i64 h.n, .slice h.R h.rl h.rc, .slice h.E h.el h.ec, .int .i64 h.ja, .int .i64 h.jt, .int .i64 h.jf, .slice h.C h.cl h.cc], .func (.func 54) #[] #[.pointer (some ⟨tb + 1, 0, none⟩)], .agg #[.int .i64 x.b, .int .i64 x.p], undef, undef, undef, undef, undef, undef], defers := [] })
    ?hAx ?assign ?body ?done ?stop
  case hmono => exact fun R R2 s X _ h => h
  case hI =>
    rintro R s X Y ⟨hn, h1, ⟨u0, u1, u2, k0, k1, k2⟩, hA, hG⟩ hb
    have hsz := hG.size
    exact ⟨hn, h1.sameB (hb.same _ h1.lt (.inl (by omega))), ⟨u0, u1, u2, k0.sameB (hb.same _ k0.lt (.inl (by omega))), k1.sameB (hb.same _ k1.lt (.inl (by omega))), k2.sameB (hb.same _ k2.lt (.inl (by omega)))⟩, hA.sameB hb.size (hb.same _ hA.lt (.inl (by omega))), hG.trans (hb.below (by omega) hG.size)⟩
  case hIx =>
    rintro R s X Y ⟨k0, k1, k2, h0, hG⟩ hb
    exact ⟨k0.sameB (hb.same _ k0.lt (.inl (by omega))), k1.sameB (hb.same _ k1.lt (.inl (by omega))), k2.sameB (hb.same _ k2.lt (.inl (by omega))), h0, hG.trans (hb.below (by omega) hG.size)⟩
  case h0 => exact ⟨Lib.hid (by simp), HT.out, ⟨_, _, _, HY0.out, HY1.out, HY2.out⟩, HA4.out, HB4.out⟩
  case hAx =>
    rintro R x a' X o o' hRn ⟨b, hb, hA, rfl⟩ _ _
    have hne : b ≠ w4.heap.size + 1 := fun e => hRn (e ▸ hb)
    exact ⟨b, hb, hA.sameB (by simp) (World.putObj_heap_other hne), rfl⟩
  case assign =>
    rintro Lr R pre x X hpre hRb ⟨hn, h1, ⟨u0, u1, u2, k0, k1, k2⟩, hA, hG⟩ hz
    gi_wp2
    have hbX : Below X.heap.size X (X.alloc (.cells #[.int .i64 x.b, .int .i64 x.p] 30)) := (Below.refl _ _).alloc (Nat.le_refl _) _
    exact ⟨KrR.ofBelow hbX, ⟨hn, h1.alloc _, ⟨u0, u1, u2, k0.alloc _, k1.alloc _, k2.alloc _⟩, hA.alloc _, hG.alloc hG.size _⟩, X.heap.size, .inr ⟨Nat.le_refl _, by simp⟩, At2.new _ _ _ _, rfl⟩
  case body =>
    rintro Lr R pre x a' X hpre hRb ⟨hn, h1, ⟨u0, u1, u2, k0, k1, k2⟩, hA, hG⟩ ⟨b, hRB, hX, rfl⟩ hz
    have hpl : pre.length + 1 ≤ 288000000 := by have h1 := hpre.length_le; have h2 := HLN.out; rw [List.length_append, List.length_singleton] at h1; omega
    obtain ⟨g, hg⟩ : ∃ g : Bool, g = true ↔ x = v := ⟨decide (x = v), by simp⟩
    have heq := fun W => eqVisit x v g hg W
    have HG := Lib.hid hg
    obtain ⟨c0, c1⟩ := And.intro hX.c0 hX.c1
    obtain ⟨d0, d1⟩ := And.intro hA.c0 hA.c1
    have tc := h1.c; have tf := h1.f
    have y0c := k0.c; have y0f := k0.f; have y1c := k1.c; have y1f := k1.f; have y2c := k2.c; have y2f := k2.f
    have HK0 := Lib.hid k0; have HK1 := Lib.hid k1; have HK2 := Lib.hid k2; have HAA := Lib.hid hA; have HTT := Lib.hid h1
    obtain ⟨pl, hplr⟩ : ∃ pl, pre.length = pl := ⟨_, rfl⟩
    have HPL := Lib.hid hplr
    rw [hplr] at tc hpl HTT
    clear hg hX hA h1 k0 k1 k2 hplr
    cases g with
    | true =>
      have HRR : Hid ((pl : Int) = r) := Lib.hid (by
        obtain rfl := HG.out.1 rfl
        obtain ⟨suf, hsuf⟩ := hpre
        rw [← HR.out, ← hsuf]
        refine (Fo.vix_first (by simp [HPL.out]) ?_ ?_).symm
        · rw [← HPL.out]; unfold atV; simp
        · intro k hk e
          rw [← HPL.out] at hk
          refine hn.out ?_
          rw [← e]
          unfold atV
          rw [List.append_assoc, List.getElem?_append_left hk, List.getElem?_eq_getElem hk]
          exact List.getElem_mem hk)
      have KX := (((KrR.refl (fun k => k < w.heap.size ∨ k = tb + 1) w4.heap.size R X).setCell (p := ⟨w.heap.size + 1 + 1, 0, none⟩) (by simp; omega) (.inl (by simp; omega)) (.int .i64 (pl : Int))).setCell (p := ⟨w.heap.size + 1 + 1 + 1, 0, none⟩) (by simp; omega) (.inl (by simp; omega)) (.bool true)).setCell (p := ⟨w.heap.size + 1 + 1 + 1 + 1, 0, none⟩) (by simp; omega) (.inl (by simp; omega)) (.int .i64 0)
      have GX := ((hG.setCell (p := ⟨w.heap.size + 1 + 1, 0, none⟩) (by simp; omega) (.int .i64 (pl : Int))).setCell (p := ⟨w.heap.size + 1 + 1 + 1, 0, none⟩) (by simp; omega) (.bool true)).setCell (p := ⟨w.heap.size + 1 + 1 + 1 + 1, 0, none⟩) (by simp; omega) (.int .i64 0)
      have P0 := ((HK0.out.set (.int .i64 (pl : Int))).ne (c := w.heap.size + 1 + 1 + 1) (by omega) 0 (.bool true)).ne (c := w.heap.size + 1 + 1 + 1 + 1) (by omega) 0 (.int .i64 0)
      have P1 := ((HK1.out.ne (c := w.heap.size + 1 + 1) (by omega) 0 (.int .i64 (pl : Int))).set (.bool true)).ne (c := w.heap.size + 1 + 1 + 1 + 1) (by omega) 0 (.int .i64 0)
      have P2 := ((HK2.out.ne (c := w.heap.size + 1 + 1) (by omega) 0 (.int .i64 (pl : Int))).ne (c := w.heap.size + 1 + 1 + 1) (by omega) 0 (.bool true)).set (.int .i64 0)
      have HPP := Lib.hid (And.intro P0 (And.intro P1 (And.intro P2 (And.intro KX GX))))
      have KX2 := KX
      rw [hs4] at KX2
      have HKX := Lib.hid KX2
      clear P0 P1 P2 KX KX2 GX hG hn hpre
      gi_wp2_with (first | (simp only [heq]) | fail)
      refine ⟨by trivial, HKX.out, ?_, HPP.out.2.1, HPP.out.2.2.1, ?_, HPP.out.2.2.2.2⟩
      · rw [← HRR.out]; exact HPP.out.1
      · rw [← HRR.out]; omega
    | false =>
      have HN2 : Hid (v ∉ pre ++ [x]) := Lib.hid (by
        rw [List.mem_append, List.mem_singleton]
        rintro (h | h)
        · exact hn.out h
        · have := HG.out.2 h.symm; cases this)
      have KX := (KrR.refl (fun k => k < w.heap.size ∨ k = tb + 1) w4.heap.size R X).setCell (p := ⟨tb, 0, none⟩) (by simp; omega) (.inl (by simp; omega)) (.int .i64 ((pl : Int) + 1))
      have GX := hG.setCell (p := ⟨tb, 0, none⟩) (by simp; omega) (.int .i64 ((pl : Int) + 1))
      have PT := HTT.out.set (.int .i64 ((pl : Int) + 1))
      have P0 := HK0.out.ne (c := tb) (by omega) 0 (.int .i64 ((pl : Int) + 1))
      have P1 := HK1.out.ne (c := tb) (by omega) 0 (.int .i64 ((pl : Int) + 1))
      have P2 := HK2.out.ne (c := tb) (by omega) 0 (.int .i64 ((pl : Int) + 1))
      have PA := HAA.out.ne tb 0 (.int .i64 ((pl : Int) + 1)) (by omega)
      have HPP := Lib.hid (And.intro PT (And.intro P0 (And.intro P1 (And.intro P2 (And.intro PA (And.intro KX GX))))))
      clear PT P0 P1 P2 PA KX GX hG hpre
      gi_wp2_with (first | (simp only [heq]) | fail)
      refine ⟨HPP.out.2.2.2.2.2.1, HN2, ?_, ⟨_, _, _, HPP.out.2.1, HPP.out.2.2.1, HPP.out.2.2.2.1⟩, HPP.out.2.2.2.2.1, HPP.out.2.2.2.2.2.2⟩
      rw [List.length_append, List.length_singleton, HPL.out]
      exact HPP.out.1
  case done =>
    rintro D X hD _ ⟨R, hRb, hn, h1, ⟨u0, u1, u2, k0, k1, k2⟩, hA, hG⟩ hK
    obtain rfl : D = tb + 2 := by omega
    have hrn : r < 0 := by rw [← HR.out]; exact Fo.vix_neg.2 hn.out
    have e1 : (if r < 0 then (0 : Int) else r) = 0 := if_pos hrn
    have e2 : decide (0 ≤ r) = false := decide_eq_false (by omega)
    have P0 := ((k0.set (.int .i64 0)).ne (c := w.heap.size + 1 + 1 + 1) (by omega) 0 (.bool false)).ne (c := w.heap.size + 1 + 1 + 1 + 1) (by omega) 0 (.int .i64 0)
    have P1 := ((k1.ne (c := w.heap.size + 1 + 1) (by omega) 0 (.int .i64 0)).set (.bool false)).ne (c := w.heap.size + 1 + 1 + 1 + 1) (by omega) 0 (.int .i64 0)
    have P2 := ((k2.ne (c := w.heap.size + 1 + 1) (by omega) 0 (.int .i64 0)).ne (c := w.heap.size + 1 + 1 + 1) (by omega) 0 (.bool false)).set (.int .i64 0)
    have GX := ((hG.setCell (p := ⟨w.heap.size + 1 + 1, 0, none⟩) (by simp; omega) (.int .i64 0)).setCell (p := ⟨w.heap.size + 1 + 1 + 1, 0, none⟩) (by simp; omega) (.bool false)).setCell (p := ⟨w.heap.size + 1 + 1 + 1 + 1, 0, none⟩) (by simp; omega) (.int .i64 0)
    have hK2 := ((Below.heap_setCell _ ⟨w.heap.size + 1 + 1 + 1 + 1, 0, none⟩ (.int .i64 0) (tb + 2) (by simp; omega)).trans ((Below.heap_setCell _ ⟨w.heap.size + 1 + 1 + 1, 0, none⟩ (.bool false) (tb + 2) (by simp; omega)).trans (Below.heap_setCell X ⟨w.heap.size + 1 + 1, 0, none⟩ (.int .i64 0) (tb + 2) (by simp; omega)))).trans hK
    have T0 := P0.put (tb + 2) (.deferred none) (by omega)
    have T1 := P1.put (tb + 2) (.deferred none) (by omega)
    have T2 := P2.put (tb + 2) (.deferred none) (by omega)
    have HTT := Lib.hid (And.intro T0 (And.intro T1 T2))
    have HPP := Lib.hid (And.intro P0 (And.intro P1 (And.intro P2 (And.intro GX hK2))))
    have HE := Lib.hid (And.intro e1 e2)
    have y0c := k0.c; have y0f := k0.f; have y1c := k1.c; have y1f := k1.f; have y2c := k2.c; have y2f := k2.f
    clear P0 P1 P2 GX hK2 k0 k1 k2 hA hG h1 e1 e2 hK T0 T1 T2
    go_wp2_with fail
    refine HQ2.out _ _ _ ?_
    obtain ⟨T0, T1, T2⟩ := HTT.out
    have t0 := T0.c; have t1 := T1.c; have t2 := T2.c
    refine ⟨by simp, .inl ⟨_, _, rfl, run_takeDeferred HPP.out.2.2.2.2, ?_⟩⟩
    refine ⟨.tuple #[.int .i64 0, .bool false, .int .i64 0], by simp [results, Try.results16, go_sem, t0, t1, t2], ?_, by rw [HE.out.1, HE.out.2]⟩
    exact HPP.out.2.2.2.1.trans (putObj_below (by omega) HPP.out.2.2.2.1.size)
  case stop =>
    rintro D R pre X hD hpre hRb ⟨k0, k1, k2, h0, hG⟩ hK
    obtain rfl : D = tb + 2 := by omega
    have HE : Hid ((if r < 0 then (0 : Int) else r) = r ∧ decide (0 ≤ r) = true) := Lib.hid ⟨if_neg (by omega), decide_eq_true h0⟩
    have T0 := (k0.put (tb + 2) (.deferred none) (by omega)).c
    have T1 := (k1.put (tb + 2) (.deferred none) (by omega)).c
    have T2 := (k2.put (tb + 2) (.deferred none) (by omega)).c
    have HTT := Lib.hid (And.intro T0 (And.intro T1 T2))
    have HGG := Lib.hid (hG.trans (putObj_below (l := tb + 2) (o' := .deferred none) (by omega) hG.size))
    clear T0 T1 T2 k0 k1 k2 hG
    rw [if_pos rfl]
    simp only [Exit.inBlock, Exit.then]
    refine HQ2.out _ _ _ ?_
    obtain ⟨t0, t1, t2⟩ := HTT.out
    refine ⟨by simp, .inl ⟨_, _, rfl, run_takeDeferred hK, ?_⟩⟩
    exact ⟨.tuple #[.int .i64 r, .bool true, .int .i64 0], by simp [results, Try.results16, go_sem, t0, t1, t2], HGG.out, by rw [HE.out.1, HE.out.2]⟩
end Go.Proofs.Ytakbpgljbbkmkaa
