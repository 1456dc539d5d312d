/- The walk of the laws' head: the chapter's examples. -/
import Derived.Test.YthamkigdpgajaaaMl
import Derived.Test.YthamkigdpgajaaaNs
import Derived.Test.YthamkigdpgajaaaPw
import Derived.Deep.RegionHeld3
import Derived.Deep.AppendLies
import Derived.ArgAppend
namespace Go.Proofs.Ythamkigdpgajaaa
open Go.RowKit

namespace Mt
theorem ex_val : Val exL := by
  refine ⟨by decide, by decide, fun j hj => ?_, fun j k hj hk => ?_⟩
  · have : j = 0 ∨ j = 1 ∨ j = 2 := by have : j < 3 := hj; omega
    rcases this with rfl | rfl | rfl <;> decide +kernel
  · have : j < 3 := hj
    have : (j = 1 ∧ k = 0) ∨ (j = 2 ∧ k = 0) ∨ (j = 2 ∧ k = 1) := by omega
    rcases this with ⟨rfl, rfl⟩ | ⟨rfl, rfl⟩ | ⟨rfl, rfl⟩ <;> decide
theorem h_tn : totN exL = 17 := by decide +kernel
theorem h_td : totD exL = 2 := by decide +kernel
theorem h_p1 : posB exL 1 1 2 = true := by decide +kernel
theorem h_n1 : oN (before exL (1 : Int).toNat + tk 1 2).toNat = 7 := by decide +kernel
theorem h_d1 : oD (before exL (1 : Int).toNat + tk 1 2).toNat = 2 := by decide +kernel
theorem h_w1 : wh exL (tk 7 1) = some (2, 0) := by decide +kernel
theorem h_w2 : wh exL (tk 17 2) = some (3, 0) := by decide +kernel
theorem h_p2 : posB exL 2 1 1 = true := by decide +kernel
theorem h_s1 : shO exL 2 1 1 (-5) 1 = some (1, 0) := by decide +kernel
theorem h_w3 : wh exL (tk 9 1) = none := by decide +kernel
theorem h_p3 : posB exL 1 4 1 = false := by decide +kernel
theorem nil_val : false = true ↔ Val [] := ⟨(fun h => by cases h), fun h => absurd h.1 (by decide)⟩
theorem ex_wf : Wf exL := fun j hj => by
  have : j = 0 ∨ j = 1 ∨ j = 2 := by have : j < 3 := hj; omega
  rcases this with rfl | rfl | rfl <;> decide
theorem ex_iff : true = true ↔ Val exL := ⟨fun _ => ex_val, fun _ => rfl⟩
end Mt
def A3 (S : Nat) : Value := .slice (some ⟨S, 0, none⟩) 3 3
theorem hT (S : Nat) (w : World) (hL : SlB w (some ⟨S, 0, none⟩) exL) : Calls Try.prog 11 #[.slice (some ⟨S, 0, none⟩) 3 3] w fun e w' => e = .returned (.tuple #[.agg #[.int .i64 17, .int .i64 2], .int .i64 0]) ∧ Below w.heap.size w w' := mtotal_is exL true 17 2 3 3 _ Mt.ex_iff Mt.h_tn Mt.h_td rfl Mt.ex_wf w hL
theorem hT1 (S : Nat) (w : World) (hL : SlB w (some ⟨S, 0, none⟩) exL) : Calls Try.prog 15 #[.slice (some ⟨S, 0, none⟩) 3 3, .agg #[.int .i64 1, .int .i64 1, .int .i64 2]] w fun e w' => e = .returned (.tuple #[.agg #[.int .i64 7, .int .i64 2], .int .i64 0]) ∧ Below w.heap.size w w' := mtime_is exL 1 1 2 true true 7 2 3 3 _ Mt.ex_iff Mt.h_p1 Mt.h_n1 Mt.h_d1 rfl Mt.ex_wf w hL
theorem hT2 (S : Nat) (w : World) (hL : SlB w (some ⟨S, 0, none⟩) exL) : Calls Try.prog 15 #[.slice (some ⟨S, 0, none⟩) 3 3, .agg #[.int .i64 1, .int .i64 4, .int .i64 1]] w fun e w' => e = .returned (.tuple #[.agg #[.int .i64 0, .int .i64 0], .int .i64 1]) ∧ Below w.heap.size w w' := mtime_is exL 1 4 1 true false _ _ 3 3 _ Mt.ex_iff Mt.h_p3 rfl rfl rfl Mt.ex_wf w hL
theorem hW1 (S : Nat) (w : World) (hL : SlB w (some ⟨S, 0, none⟩) exL) : Calls Try.prog 17 #[.slice (some ⟨S, 0, none⟩) 3 3, .agg #[.int .i64 7, .int .i64 1]] w fun e w' => e = .returned (.tuple #[.agg #[.int .i64 2, .int .i64 0, .int .i64 1], .int .i64 0]) ∧ Below w.heap.size w w' := mwhere_is exL 7 1 true true (some (2, 0)) 3 3 _ Mt.ex_iff (by decide +kernel) Mt.h_w1 rfl Mt.ex_wf w hL
theorem hW2 (S : Nat) (w : World) (hL : SlB w (some ⟨S, 0, none⟩) exL) : Calls Try.prog 17 #[.slice (some ⟨S, 0, none⟩) 3 3, .agg #[.int .i64 17, .int .i64 2]] w fun e w' => e = .returned (.tuple #[.agg #[.int .i64 3, .int .i64 0, .int .i64 1], .int .i64 0]) ∧ Below w.heap.size w w' := mwhere_is exL 17 2 true true (some (3, 0)) 3 3 _ Mt.ex_iff (by decide +kernel) Mt.h_w2 rfl Mt.ex_wf w hL
theorem hW3 (S : Nat) (w : World) (hL : SlB w (some ⟨S, 0, none⟩) exL) : Calls Try.prog 17 #[.slice (some ⟨S, 0, none⟩) 3 3, .agg #[.int .i64 9, .int .i64 1]] w fun e w' => e = .returned (.tuple #[.agg #[.int .i64 0, .int .i64 0, .int .i64 0], .int .i64 3]) ∧ Below w.heap.size w w' := mwhere_is exL 9 1 true true none 3 3 _ Mt.ex_iff (by decide +kernel) Mt.h_w3 rfl Mt.ex_wf w hL
theorem hS1 (S : Nat) (w : World) (hL : SlB w (some ⟨S, 0, none⟩) exL) : Calls Try.prog 19 #[.slice (some ⟨S, 0, none⟩) 3 3, .agg #[.int .i64 2, .int .i64 1, .int .i64 1], .agg #[.int .i64 (-5), .int .i64 1]] w fun e w' => e = .returned (.tuple #[.agg #[.int .i64 1, .int .i64 0, .int .i64 1], .int .i64 0]) ∧ Below w.heap.size w w' := mshift_is exL 2 1 1 (-5) 1 true true true (some (1, 0)) 3 3 _ Mt.ex_iff Mt.h_p2 (by decide +kernel) Mt.h_s1 rfl Mt.ex_wf ⟨by omega, by omega⟩ w hL
theorem hT0 (w : World) : Calls Try.prog 11 #[.slice none 0 0] w fun e w' => e = .returned (.tuple #[.agg #[.int .i64 0, .int .i64 0], .int .i64 1]) ∧ Below w.heap.size w w' := mtotal_is [] false _ _ 0 0 none Mt.nil_val rfl rfl rfl (fun j hj => absurd hj (by simp)) w (SlB.nil _ _)

def exD : List Mt.B := exL ++ [(7, 3, 1, 0)]
theorem Mt.not_val : ¬ Mt.Val exD := fun h => h.2.2.2 3 0 (by decide) (by decide) (by decide)
theorem Mt.no_iff : false = true ↔ Mt.Val exD := ⟨(fun h => by cases h), fun h => absurd h Mt.not_val⟩
theorem infoBar : (Try.prog.info? 45).map (fun i => (i.zero, i.size, i.bytes)) = some (some (.agg #[.int .i64 0, .int .i64 0, .int .i64 0, .int .i64 0]), 4, 32) := by kernel_rfl
theorem slb_of_own {w : World} {base g cap : Nat} {e : TypeId} (h : w.ownsRow base e 4 (.slice (some ⟨g, 0, none⟩) 4 cap) 4 (exC.toList ++ [.int .i64 7, .int .i64 3, .int .i64 1, .int .i64 0])) (hg : g < w.heap.size) : SlB w (some ⟨g, 0, none⟩) exD := fun _ => ⟨g, 0, rfl, hg, fun k hk => by
  have c := fun j (hj : j < 16) => h.cellAt j hj
  have hk4 : k = 0 ∨ k = 1 ∨ k = 2 ∨ k = 3 := by
    have : k < 4 := hk
    omega
  rcases hk4 with rfl | rfl | rfl | rfl <;> exact ⟨c _ (by decide), c _ (by decide), c _ (by decide), c _ (by decide)⟩⟩
theorem Mt.exD_wf : Mt.Wf exD := fun j hj => by
  have : j = 0 ∨ j = 1 ∨ j = 2 ∨ j = 3 := by have : j < 4 := hj; omega
  rcases this with rfl | rfl | rfl | rfl <;> decide
/-- 'append' of one bar to a full slice: what the operation hands back, and the world behind. -/
theorem exec_app {P : Program} {o : Oper} {a : Act} {w : World} (s x : Operand) (t : TypeId) (hop : o.op = Op.call { callee := Callee.builtin Builtin.append, args := #[s, x], argTypes := #[t, t] })
    (e : TypeId) (i : TypeInfo) (z : Value) (size bytes : Nat) (h1 : P.underlying t = some (.slice e)) (h2 : P.info? e = some i) (h3 : i.zero = some z) (h4 : i.size = size) (h5 : i.bytes = bytes) (h6 : z.cells.size = size) (h7 : 0 < size)
    (b : Addr) (n cap : Nat) (olds : List Value) (hs : a.eval s = .slice (some b) n cap) (hlo : olds.length = n * size) (holds : ∀ j u, olds[j]? = some u → w.cell? (b.add j) = some u)
    (ad : Addr) (m c : Nat) (news : List Value) (hx : a.eval x = .slice (some ad) m c) (hn : news.length = m * size) (hc : ∀ j u, news[j]? = some u → w.cell? (ad.add j) = some u) (hm : 0 < m)
    (hfull : cap < n + m) (b1 : n + m ≤ maxLen) (b2 : (n + m) * bytes ≤ 140737488355328) {R : Value → World → Prop}
    (hR : ∀ g cap' w', w'.ownsRow w.heap.size e size (.slice (some ⟨g, 0, none⟩) (n + m) cap') (n + m) (olds ++ news) → Below w.heap.size w w' → g < w'.heap.size → R (.slice (some ⟨g, 0, none⟩) (n + m) cap') w') :
    ∃ v w'', (execOp a.eval o).run P w = .ok (.value v) w'' ∧ R v w'' := by
  obtain ⟨v', w', hrun, r1, r2⟩ := run_append_arg_grows (P := P) w t o.type e i z size bytes h1 h2 h3 h4 h5 h6 h7 b n cap olds hlo holds ad m c news hn hc hfull b1 b2
  obtain ⟨g, cap', rfl, _, hlt⟩ := r1.form (by omega)
  refine ⟨_, w', ?_, hR g cap' w' r1 ((Below.refl _ w).grown r2 (by simp) (fun j hj => by cases hj)) hlt⟩
  simp [execOp, hop, resolve, invoke, builtin, hs, hx, hrun, Result.andThen]
/-- What is known of the world behind each call of the last region, and of the calls' answers. -/
def hdC (W : World) (vs : List Value) (w : World) : Prop := Below W.heap.size W w ∧ match vs with
  | [] => True
  | [v] => v = .agg #[.int .i64 0, .int .i64 1]
  | [_, v] => v = .bool true
  | [_, _, v] => ∃ g, v = .slice (some ⟨g, 0, none⟩) 1 1 ∧ w.heap[g]? = some (.cells #[.int .i64 7, .int .i64 3, .int .i64 1, .int .i64 0] 45 (0, 0))
  | [_, _, _, v] => ∃ g cap, v = .slice (some ⟨g, 0, none⟩) 4 cap ∧ SlB w (some ⟨g, 0, none⟩) exD
  | [_, _, _, _, v] => v = .bool false
  | _ => False

set_option maxHeartbeats 1600000 in
theorem head_any (w : World) :
    Calls Try.prog 9 #[] w fun e w' => e = .returned (.bool true) ∧ Below w.heap.size w w' := by
  go_enter Try.func9, Try.ntmps9
  go_wp2_with fail
  have B := Below.refl w.heap.size w
  refine (lexample_is _).mono ?_; rintro e w1 ⟨S, rfl, hS, R, hb⟩
  replace B := B.trans (hb.mono (by have := B.size; simp <;> omega))
  clear hb
  have L := exC_slB R
  go_wp2_with fail
  refine (hT S _ L).mono ?_; rintro e w2 ⟨rfl, hb⟩
  replace R := R.below hb
  replace L := L.below hb
  replace B := B.trans (hb.mono (by have := B.size; simp <;> omega))
  clear hb
  go_wp2_with fail
  refine (lrat_is _ _ _).mono ?_; rintro e w3 ⟨rfl, hb⟩
  replace R := (R.alloc _).below hb
  replace L := (L.alloc _).below hb
  have TA := (At2.new _ (17) (2) _).below hb
  replace B := (B.alloc (by have := B.size; simp <;> omega) _).trans (hb.mono (by have := B.size; simp <;> omega))
  clear hb
  go_wp2_with fail
  refine (hT1 S _ L).mono ?_; rintro e w4 ⟨rfl, hb⟩
  replace R := R.below hb
  replace L := L.below hb
  replace TA := TA.below hb
  replace B := B.trans (hb.mono (by have := B.size; simp <;> omega))
  clear hb
  go_wp2_with fail
  refine (lrat_is _ _ _).mono ?_; rintro e w5 ⟨rfl, hb⟩
  replace R := (R.alloc _).below hb
  replace L := (L.alloc _).below hb
  replace TA := (TA.alloc _).below hb
  have TB := (At2.new _ (7) (2) _).below hb
  replace B := (B.alloc (by have := B.size; simp <;> omega) _).trans (hb.mono (by have := B.size; simp <;> omega))
  clear hb
  go_wp2_with fail
  refine (hW1 S _ L).mono ?_; rintro e w6 ⟨rfl, hb⟩
  replace R := R.below hb
  replace L := L.below hb
  replace TA := TA.below hb
  replace TB := TB.below hb
  replace B := B.trans (hb.mono (by have := B.size; simp <;> omega))
  clear hb
  go_wp2_with fail
  refine (lrat_is _ _ _).mono ?_; rintro e w7 ⟨rfl, hb⟩
  replace R := (R.alloc _).below hb
  replace L := (L.alloc _).below hb
  replace TA := (TA.alloc _).below hb
  replace TB := (TB.alloc _).below hb
  have TC := (At3.new _ (2) (0) (1) _).below hb
  replace B := (B.alloc (by have := B.size; simp <;> omega) _).trans (hb.mono (by have := B.size; simp <;> omega))
  clear hb
  go_wp2_with fail
  refine (hW2 S _ L).mono ?_; rintro e w8 ⟨rfl, hb⟩
  replace R := R.below hb
  replace L := L.below hb
  replace TA := TA.below hb
  replace TB := TB.below hb
  replace TC := TC.below hb
  replace B := B.trans (hb.mono (by have := B.size; simp <;> omega))
  clear hb
  go_wp2_with fail
  refine (lrat_is _ _ _).mono ?_; rintro e w9 ⟨rfl, hb⟩
  replace R := (R.alloc _).below hb
  replace L := (L.alloc _).below hb
  replace TA := (TA.alloc _).below hb
  replace TB := (TB.alloc _).below hb
  replace TC := (TC.alloc _).below hb
  have TD := (At3.new _ (3) (0) (1) _).below hb
  replace B := (B.alloc (by have := B.size; simp <;> omega) _).trans (hb.mono (by have := B.size; simp <;> omega))
  clear hb
  go_wp2_with fail
  refine (lrat_is _ _ _).mono ?_; rintro e w10 ⟨rfl, hb⟩
  replace R := R.below hb
  replace L := L.below hb
  replace TA := TA.below hb
  replace TB := TB.below hb
  replace TC := TC.below hb
  replace TD := TD.below hb
  replace B := B.trans (hb.mono (by have := B.size; simp <;> omega))
  clear hb
  go_wp2_with fail
  refine (hS1 S _ L).mono ?_; rintro e w11 ⟨rfl, hb⟩
  replace R := R.below hb
  replace L := L.below hb
  replace TA := TA.below hb
  replace TB := TB.below hb
  replace TC := TC.below hb
  replace TD := TD.below hb
  replace B := B.trans (hb.mono (by have := B.size; simp <;> omega))
  clear hb
  go_wp2_with fail
  refine (lrat_is _ _ _).mono ?_; rintro e w12 ⟨rfl, hb⟩
  replace R := (R.alloc _).below hb
  replace L := (L.alloc _).below hb
  replace TA := (TA.alloc _).below hb
  replace TB := (TB.alloc _).below hb
  replace TC := (TC.alloc _).below hb
  replace TD := (TD.alloc _).below hb
  have TE := (At3.new _ (1) (0) (1) _).below hb
  replace B := (B.alloc (by have := B.size; simp <;> omega) _).trans (hb.mono (by have := B.size; simp <;> omega))
  clear hb
  go_wp2_with fail
  refine (hW3 S _ L).mono ?_; rintro e w13 ⟨rfl, hb⟩
  replace R := R.below hb
  replace L := L.below hb
  replace TA := TA.below hb
  replace TB := TB.below hb
  replace TC := TC.below hb
  replace TD := TD.below hb
  replace TE := TE.below hb
  replace B := B.trans (hb.mono (by have := B.size; simp <;> omega))
  clear hb
  go_wp2_with fail
  refine (lrat_is _ _ _).mono ?_; rintro e w14 ⟨rfl, hb⟩
  replace R := (R.alloc _).below hb
  replace L := (L.alloc _).below hb
  replace TA := (TA.alloc _).below hb
  replace TB := (TB.alloc _).below hb
  replace TC := (TC.alloc _).below hb
  replace TD := (TD.alloc _).below hb
  replace TE := (TE.alloc _).below hb
  replace B := (B.alloc (by have := B.size; simp <;> omega) _).trans (hb.mono (by have := B.size; simp <;> omega))
  clear hb
  go_wp2_with fail
  refine (hT2 S _ L).mono ?_; rintro e w15 ⟨rfl, hb⟩
  replace R := R.below hb
  replace L := L.below hb
  replace TA := TA.below hb
  replace TB := TB.below hb
  replace TC := TC.below hb
  replace TD := TD.below hb
  replace TE := TE.below hb
  replace B := B.trans (hb.mono (by have := B.size; simp <;> omega))
  clear hb
  go_wp2_with fail
  refine (hT0 _).mono ?_; rintro e w16 ⟨rfl, hb⟩
  replace R := (R.alloc _).below hb
  replace L := (L.alloc _).below hb
  replace TA := (TA.alloc _).below hb
  replace TB := (TB.alloc _).below hb
  replace TC := (TC.alloc _).below hb
  replace TD := (TD.alloc _).below hb
  replace TE := (TE.alloc _).below hb
  replace B := (B.alloc (by have := B.size; simp <;> omega) _).trans (hb.mono (by have := B.size; simp <;> omega))
  clear hb
  go_wp2_with fail
  replace TA := TA.alloc (.cells #[.int .i64 0, .int .i64 0] 24)
  replace TB := TB.alloc (.cells #[.int .i64 0, .int .i64 0] 24)
  replace TC := TC.alloc (.cells #[.int .i64 0, .int .i64 0] 24)
  replace TD := TD.alloc (.cells #[.int .i64 0, .int .i64 0] 24)
  replace TE := TE.alloc (.cells #[.int .i64 0, .int .i64 0] 24)
  replace R := R.alloc (.cells #[.int .i64 0, .int .i64 0] 24)
  replace L := L.alloc (.cells #[.int .i64 0, .int .i64 0] 24)
  replace B := B.alloc B.size (.cells #[.int .i64 0, .int .i64 0] 24)
  generalize World.alloc _ (.cells #[.int .i64 0, .int .i64 0] 24) = wz at *
  have ta0 := fun x : Ext wz => x.cell TA.c0
  have ta1 := fun x : Ext wz => x.cell TA.c1
  have tb0 := fun x : Ext wz => x.cell TB.c0
  have tb1 := fun x : Ext wz => x.cell TB.c1
  have tc0 := fun x : Ext wz => x.cell TC.c0
  have tc1 := fun x : Ext wz => x.cell TC.c1
  have tc2 := fun x : Ext wz => x.cell TC.c2
  have td0 := fun x : Ext wz => x.cell TD.c0
  have td1 := fun x : Ext wz => x.cell TD.c1
  have td2 := fun x : Ext wz => x.cell TD.c2
  have te0 := fun x : Ext wz => x.cell TE.c0
  have te1 := fun x : Ext wz => x.cell TE.c1
  have te2 := fun x : Ext wz => x.cell TE.c2
  have hne := Ext.there wz
  refine Ext.region (by kernel_rfl) (by kernel_rfl) ?_
  repeat (go_big_quiet_step ((go_at_call 24; exact Ext.call _ (lrat_is _ _ _))))
  refine wpQuiet_nil ?_
  rintro _ ⟨x, rfl⟩
  replace TE := TE.below x.h
  replace R := R.below x.h
  replace L := L.below x.h
  replace B := B.trans (x.h.mono B.size)
  generalize x.w = wy at *
  clear ta0 ta1 tb0 tb1 tc0 tc1 tc2 td0 td1 td2 te0 te1 te2 hne x TA TB TC TD
  go_wp2_with fail
  have te0 := TE.c0
  have te1 := TE.c1
  have te2 := TE.c2
  have k0 : wy.cell? ⟨S, 0, none⟩ = some (.int .i64 7) := cell_of_row wy S 0 exC 45 (0, 0) R
  have k1 : wy.cell? ⟨S, 1, none⟩ = some (.int .i64 3) := cell_of_row wy S 1 exC 45 (0, 0) R
  have k2 : wy.cell? ⟨S, 2, none⟩ = some (.int .i64 1) := cell_of_row wy S 2 exC 45 (0, 0) R
  have k3 : wy.cell? ⟨S, 3, none⟩ = some (.int .i64 0) := cell_of_row wy S 3 exC 45 (0, 0) R
  obtain ⟨i0, hi, hz0, hz1, hz2⟩ := info_parts infoBar
  have HL := Lib.hid L
  have HR := Lib.hid R
  have x0 := fun x : PvW (hdC wy) => (x.h.1.cell (p := ⟨w11.heap.size, 0, none⟩) TE.lt).trans te0
  have x1 := fun x : PvW (hdC wy) => (x.h.1.cell (p := ⟨w11.heap.size, 1, none⟩) TE.lt).trans te1
  have x2 := fun x : PvW (hdC wy) => (x.h.1.cell (p := ⟨w11.heap.size, 2, none⟩) TE.lt).trans te2
  have y0 := fun x : PvW (hdC wy) => keep_cell k0 x.h.1
  have y1 := fun x : PvW (hdC wy) => keep_cell k1 x.h.1
  have y2 := fun x : PvW (hdC wy) => keep_cell k2 x.h.1
  have y3 := fun x : PvW (hdC wy) => keep_cell k3 x.h.1
  have hne : Nonempty (PvW (hdC wy)) := PvW.there (w := wy.drew) ⟨(Below.refl _ _).drew, trivial⟩
  clear te0 te1 te2 k0 k1 k2 k3
  refine region_pv (V := fun _ _ => undef) (cs := [3, 9, 16, 17, 18]) (Cv := hdC wy) 21 (by kernel_rfl) (by kernel_rfl) (by kernel_rfl) ⟨(Below.refl _ _).drew, trivial⟩ ?_
  simp only [List.take_succ_cons, List.take_zero, List.drop_succ_cons, List.drop_zero]
  iterate 3 (refine pv_quiet (by decide) rfl rfl ?_; intro K' hK'; go_big_quiet_op; go_big_quiet_on)
  refine pv_enter (f := 24) (args := #[.int .i64 0, .int .i64 1]) rfl rfl (fun w' hw' => ?_) (fun w' hw' => ?_) ?_
  · simp [go_sem]
  · refine (lrat_is 0 1 _).mono ?_
    rintro e w2 ⟨rfl, hb2⟩
    exact ⟨_, rfl, hw'.1.trans (hb2.mono hw'.1.size), rfl⟩
  rintro _ ⟨_, _, rfl⟩
  simp only [Act.put, List.setIfInBounds_toArray, List.set_cons_succ, List.set_cons_zero]
  iterate 5 (refine pv_quiet (by decide) rfl rfl ?_; intro K' hK'; go_big_quiet_op; go_big_quiet_on)
  refine pv_enter (f := 13) (args := #[.slice (some ⟨S, 0, none⟩) 3 3]) rfl rfl (fun w' hw' => ?_) (fun w' hw' => ?_) ?_
  · simp [go_sem]
  · refine (mvalid_is exL true 3 3 _ Mt.ex_iff rfl Mt.ex_wf _ (HL.out.below hw'.1)).mono ?_
    rintro e w2 ⟨rfl, hb2⟩
    exact ⟨_, rfl, hw'.1.trans (hb2.mono hw'.1.size), rfl⟩
  rintro _ ⟨_, _, rfl⟩
  simp only [Act.put, List.setIfInBounds_toArray, List.set_cons_succ, List.set_cons_zero]
  iterate 6 (refine pv_quiet (by decide) rfl rfl ?_; intro K' hK'; go_big_quiet_op; go_big_quiet_on)
  refine pv_made rfl rfl (fun w' hw' => ⟨.slice (some ⟨w'.heap.size, 0, none⟩) 1 1, w'.alloc (.cells #[.int .i64 7, .int .i64 3, .int .i64 1, .int .i64 0] 45), ?_, hw'.1.alloc hw'.1.size _, _, rfl, heap_alloc_new w' _⟩) ?_
  · go_simp
  rintro _ ⟨_, _, g, rfl, _⟩
  simp only [Act.put, List.setIfInBounds_toArray, List.set_cons_succ, List.set_cons_zero]
  refine pv_made rfl rfl (fun w' hw' => ?_) ?_
  · obtain ⟨hb', g', e', hg'⟩ := hw'
    cases e'
    refine exec_app (.tmp 134) (.tmp 138) 22 rfl 45 i0 _ 4 32 Try.underlying22 hi hz0 hz1 hz2 rfl (by omega) ⟨S, 0, none⟩ 3 3 exC.toList rfl rfl (World.news_of_block (cs := exC) (HR.out.below hb')) ⟨g, 0, none⟩ 1 1 [.int .i64 7, .int .i64 3, .int .i64 1, .int .i64 0] rfl rfl (World.news_of_block (cs := #[.int .i64 7, .int .i64 3, .int .i64 1, .int .i64 0]) hg') (by omega) (by omega) (by unfold maxLen; omega) (by omega) (fun g2 cap2 w2 hown hb2 hlt2 => ?_)
    exact ⟨hb'.trans (hb2.mono hb'.size), g2, cap2, rfl, slb_of_own hown hlt2⟩
  rintro _ ⟨_, _, g2, cap2, rfl, _⟩
  simp only [Act.put, List.setIfInBounds_toArray, List.set_cons_succ, List.set_cons_zero]
  refine pv_enter (f := 13) (args := #[.slice (some ⟨g2, 0, none⟩) 4 cap2]) rfl rfl (fun w' hw' => ?_) (fun w' hw' => ?_) ?_
  · simp [go_sem]
  · obtain ⟨hb', g', cap', e', hL'⟩ := hw'
    cases e'
    refine (mvalid_is exD false 4 _ _ Mt.no_iff rfl Mt.exD_wf _ hL').mono ?_
    rintro e w2 ⟨rfl, hb2⟩
    exact ⟨_, rfl, hb'.trans (hb2.mono hb'.size), rfl⟩
  rintro _ ⟨_, _, rfl⟩
  simp only [Act.put, List.setIfInBounds_toArray, List.set_cons_succ, List.set_cons_zero]
  iterate 2 (refine pv_quiet (by decide) rfl rfl ?_; intro K' hK'; go_big_quiet_op; go_big_quiet_on)
  rintro w4 ⟨hb4, _⟩
  replace B := B.trans (hb4.mono B.size)
  clear x0 x1 x2 y0 y1 y2 y3 hne HL HR
  go_wp2_with fail
  go_ret
  exact ⟨rfl, B⟩
end Go.Proofs.Ythamkigdpgajaaa
