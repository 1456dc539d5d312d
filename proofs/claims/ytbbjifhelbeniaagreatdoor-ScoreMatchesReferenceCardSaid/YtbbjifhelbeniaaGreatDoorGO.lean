import Derived.Test.YtbbjifhelbeniaaGreatDoorGN
import Derived.Test.YtbbjifhelbeniaaGreatDoorGK
import Derived.Test.YtbbjifhelbeniaaGreatDoorGL
/- The walks of score's refusal and of the reference's Wrong. -/
namespace Go.Proofs.YtbbjifhelbeniaaGreatDoor
open Go.RowKit Go.Maps

/-- The map of own parts, behind a variable. -/
structure OwnV (w : World) (ob mb len : Nat) (D : DataW Value) : Prop where
  cell : w.cell? ⟨ob, 0, none⟩ = some (.map (some mb))
  map : w.ownsMap Tryz.prog 3 rdV mb len D
theorem OwnV.below {w w' : World} {ob mb len : Nat} {D : DataW Value} (h : OwnV w ob mb len D) (hb : Below w.heap.size w w') : OwnV w' ob mb len D :=
  ⟨(hb.cell (p := ⟨ob, 0, none⟩) (World.block_lt_of_cell? _ _ h.cell)).trans h.cell, h.map.kept (below_grown' hb) (by simp)⟩
theorem OwnV.alloc {w : World} {ob mb len : Nat} {D : DataW Value} (h : OwnV w ob mb len D) (o : Obj) : OwnV (w.alloc o) ob mb len D := h.below ((Below.refl _ _).alloc (Nat.le_refl _) _)

set_option maxHeartbeats 800000 in
theorem sref1_is (ps : List Sc.Pt) (n : No.Nt) (f : Bool) (ob mb len : Nat) (D : DataW Value) (h : (Sc.ownF ps n.pa).isSome = !f) (hp : -9223372036854775808 ≤ n.pa ∧ n.pa ≤ 9223372036854775807) (hD : MapIs D (.agg #[.int .i64 0, .int .i64 0, .int .i64 0, .int .i64 0, .int .i64 0, .int .i64 0, .int .i64 0, .int .i64 0, .int .i64 0, .int .i64 0, .int .i64 0, .int .i64 0, .int .i64 0]) (Sc.mapF (Sc.ownF ps))) (w : World) (hO : OwnV w ob mb len D) :
    Calls Tryz.prog 67 #[.agg #[.int .i64 n.id, .int .i64 n.pa, .int .i64 n.ba, .int .i64 n.vo, .int .i64 n.os, .int .i64 n.sn, .int .i64 n.sd, .int .i64 n.ln, .int .i64 n.ld, .int .i64 n.st, .int .i64 n.al, .int .i64 n.oc], .pointer (some ⟨ob, 0, none⟩)] w fun e w' => e = .returned (.bool f) ∧ Below w.heap.size w w' := by
  have hwf : (Lit.int .i64 n.pa).wf = true := Mt.wf_id hp.1 hp.2
  have hkey : keyOf Tryz.prog 3 (.int .i64 n.pa) = some (.int .i64 n.pa) := keyOf_int_mk Tryz.underlying3 hwf
  obtain ⟨q, hq⟩ : ∃ q, (Sc.ownF ps n.pa).getD Sc.zeroPt = q := ⟨_, rfl⟩
  have HAT : Hid (D.atKey (.int .i64 n.pa) (.held (.agg #[.int .i64 0, .int .i64 0, .int .i64 0, .int .i64 0, .int .i64 0, .int .i64 0, .int .i64 0, .int .i64 0, .int .i64 0, .int .i64 0, .int .i64 0, .int .i64 0, .int .i64 0])) = .held (.agg #[.int .i64 q.id, .int .i64 q.se, .int .i64 q.f, .int .i64 q.oc, .int .i64 q.de, .int .i64 q.ss, .int .i64 q.sm, .int .i64 q.ls, .int .i64 q.la, .int .i64 q.lo, .int .i64 q.hs, .int .i64 q.ha, .int .i64 q.ho])) := Lib.hid (by rw [(hD.2 n.pa hwf).2, Sc.mapF_val, hq]; rfl)
  have HHA : Hid (Maps.has D (.int .i64 n.pa) = !f) := Lib.hid (by rw [(hD.2 n.pa hwf).1, Sc.mapF_has, h])
  have O1 := hO.alloc (.cells #[.int .i64 n.id, .int .i64 n.pa, .int .i64 n.ba, .int .i64 n.vo, .int .i64 n.os, .int .i64 n.sn, .int .i64 n.sd, .int .i64 n.ln, .int .i64 n.ld, .int .i64 n.st, .int .i64 n.al, .int .i64 n.oc] 51)
  have c0 := O1.cell
  have HM := Lib.hid O1.map
  have G0 := ((Below.refl w.heap.size w).alloc (Nat.le_refl _) (.cells #[.int .i64 n.id, .int .i64 n.pa, .int .i64 n.ba, .int .i64 n.vo, .int .i64 n.os, .int .i64 n.sn, .int .i64 n.sd, .int .i64 n.ln, .int .i64 n.ld, .int .i64 n.st, .int .i64 n.al, .int .i64 n.oc] 51)).alloc (by simp) (.cells #[.int .i64 q.id, .int .i64 q.se, .int .i64 q.f, .int .i64 q.oc, .int .i64 q.de, .int .i64 q.ss, .int .i64 q.sm, .int .i64 q.ls, .int .i64 q.la, .int .i64 q.lo, .int .i64 q.hs, .int .i64 q.ha, .int .i64 q.ho] 49)
  clear h hp hD hwf hq hO O1
  go_enter Tryz.func67, Tryz.ntmps67
  go_wp2_with (first | (at_lookup; refine look_v_ok _ rfl _ _ 93 rfl 3 49 mapK Tryz.underlying93 (.agg #[.int .i64 0, .int .i64 0, .int .i64 0, .int .i64 0, .int .i64 0, .int .i64 0, .int .i64 0, .int .i64 0, .int .i64 0, .int .i64 0, .int .i64 0, .int .i64 0, .int .i64 0]) (Tryz.zeroValue49 _) mb len D rfl HM.out _ _ rfl hkey (.agg #[.int .i64 q.id, .int .i64 q.se, .int .i64 q.f, .int .i64 q.oc, .int .i64 q.de, .int .i64 q.ss, .int .i64 q.sm, .int .i64 q.ls, .int .i64 q.la, .int .i64 q.lo, .int .i64 q.hs, .int .i64 q.ha, .int .i64 q.ho]) HAT.out (!f) HHA.out ?_) | fail)
  go_ret
  exact ⟨by simp, G0⟩
set_option maxHeartbeats 800000 in
theorem sref2_is (ps : List Sc.Pt) (n : No.Nt) (p : Sc.Pt) (f : Bool) (ob mb len : Nat) (D : DataW Value) (h : Sc.ownF ps n.pa = some p) (hf : f = true ↔ ¬ Sc.rng p n) (hR : Sc.okR p) (hN : No.isN n.st n.al n.oc) (hp : -9223372036854775808 ≤ n.pa ∧ n.pa ≤ 9223372036854775807) (hD : MapIs D (.agg #[.int .i64 0, .int .i64 0, .int .i64 0, .int .i64 0, .int .i64 0, .int .i64 0, .int .i64 0, .int .i64 0, .int .i64 0, .int .i64 0, .int .i64 0, .int .i64 0, .int .i64 0]) (Sc.mapF (Sc.ownF ps))) (w : World) (hG : Glob w) (hO : OwnV w ob mb len D) :
    Calls Tryz.prog 68 #[.agg #[.int .i64 n.id, .int .i64 n.pa, .int .i64 n.ba, .int .i64 n.vo, .int .i64 n.os, .int .i64 n.sn, .int .i64 n.sd, .int .i64 n.ln, .int .i64 n.ld, .int .i64 n.st, .int .i64 n.al, .int .i64 n.oc], .pointer (some ⟨ob, 0, none⟩)] w fun e w' => e = .returned (.bool f) ∧ Below w.heap.size w w' := by
  have hwf : (Lit.int .i64 n.pa).wf = true := Mt.wf_id hp.1 hp.2
  have hkey : keyOf Tryz.prog 3 (.int .i64 n.pa) = some (.int .i64 n.pa) := keyOf_int_mk Tryz.underlying3 hwf
  have HAT : Hid (D.atKey (.int .i64 n.pa) (.held (.agg #[.int .i64 0, .int .i64 0, .int .i64 0, .int .i64 0, .int .i64 0, .int .i64 0, .int .i64 0, .int .i64 0, .int .i64 0, .int .i64 0, .int .i64 0, .int .i64 0, .int .i64 0])) = .held (.agg #[.int .i64 p.id, .int .i64 p.se, .int .i64 p.f, .int .i64 p.oc, .int .i64 p.de, .int .i64 p.ss, .int .i64 p.sm, .int .i64 p.ls, .int .i64 p.la, .int .i64 p.lo, .int .i64 p.hs, .int .i64 p.ha, .int .i64 p.ho])) := Lib.hid (by rw [(hD.2 n.pa hwf).2, Sc.mapF_val, h]; rfl)
  obtain ⟨g, hg⟩ : ∃ g, decide (Sc.num p.ls p.la p.lo ≤ Sc.num n.st n.al n.oc ∧ Sc.num n.st n.al n.oc ≤ Sc.num p.hs p.ha p.ho) = g := ⟨_, rfl⟩
  obtain rfl : f = !g := by
    have e : Sc.rng p n ↔ g = true := by rw [← hg, decide_eq_true_eq]; exact Iff.rfl
    rw [e] at hf
    cases g <;> cases f <;> simp at hf ⊢
  have HGG := Lib.hid hg
  have HR := Lib.hid hR
  have HPV : Hid (Sc.pv n.st n.al n.oc) := Lib.hid (by unfold No.isN at hN; unfold Sc.pv; omega)
  have O1 := hO.alloc (.cells #[.int .i64 n.id, .int .i64 n.pa, .int .i64 n.ba, .int .i64 n.vo, .int .i64 n.os, .int .i64 n.sn, .int .i64 n.sd, .int .i64 n.ln, .int .i64 n.ld, .int .i64 n.st, .int .i64 n.al, .int .i64 n.oc] 51)
  have d0 := O1.cell
  have HM := Lib.hid O1.map
  have HG1 := Lib.hid (hG.alloc (.cells #[.int .i64 n.id, .int .i64 n.pa, .int .i64 n.ba, .int .i64 n.vo, .int .i64 n.os, .int .i64 n.sn, .int .i64 n.sd, .int .i64 n.ln, .int .i64 n.ld, .int .i64 n.st, .int .i64 n.al, .int .i64 n.oc] 51))
  have G0 := (Below.refl w.heap.size w).alloc (Nat.le_refl _) (.cells #[.int .i64 n.id, .int .i64 n.pa, .int .i64 n.ba, .int .i64 n.vo, .int .i64 n.os, .int .i64 n.sn, .int .i64 n.sd, .int .i64 n.ln, .int .i64 n.ld, .int .i64 n.st, .int .i64 n.al, .int .i64 n.oc] 51)
  clear h hf hR hN hp hD hwf hG hO O1 hg
  go_enter Tryz.func68, Tryz.ntmps68
  go_wp2_with (first | (at_lookup; refine look_v _ rfl _ _ 93 rfl 3 49 mapK Tryz.underlying93 (.agg #[.int .i64 0, .int .i64 0, .int .i64 0, .int .i64 0, .int .i64 0, .int .i64 0, .int .i64 0, .int .i64 0, .int .i64 0, .int .i64 0, .int .i64 0, .int .i64 0, .int .i64 0]) (Tryz.zeroValue49 _) mb len D rfl HM.out _ _ rfl hkey (.agg #[.int .i64 p.id, .int .i64 p.se, .int .i64 p.f, .int .i64 p.oc, .int .i64 p.de, .int .i64 p.ss, .int .i64 p.sm, .int .i64 p.ls, .int .i64 p.la, .int .i64 p.lo, .int .i64 p.hs, .int .i64 p.ha, .int .i64 p.ho]) HAT.out ?_) | fail)
  refine (sinrange_is p n.st n.al n.oc g HGG.out HPV.out HR.out _ HG1.out).mono ?_; rintro e w1 ⟨rfl, hb⟩
  have G1 := G0.trans (hb.mono G0.size)
  clear hb d0
  go_wp2_with fail
  go_ret
  exact ⟨rfl, G1⟩
set_option maxRecDepth 100000 in
set_option maxHeartbeats 1600000 in
theorem sidx1_is (ns : List No.Nt) (cl : No.Nt → Bool) (len cap : Nat) (A : Option Addr) (ob : Nat) (hl : ns.length = len) (hmax : len ≤ 1000000) (w : World) (hL : SlO w A ns) (hC : ∀ n ∈ ns, ∀ w1, Below w.heap.size w w1 → Calls Tryz.prog 67 #[.agg #[.int .i64 n.id, .int .i64 n.pa, .int .i64 n.ba, .int .i64 n.vo, .int .i64 n.os, .int .i64 n.sn, .int .i64 n.sd, .int .i64 n.ln, .int .i64 n.ld, .int .i64 n.st, .int .i64 n.al, .int .i64 n.oc], .pointer (some ⟨ob, 0, none⟩)] w1 fun e w' => e = .returned (.bool (cl n)) ∧ Below w1.heap.size w1 w') :
    Calls Tryz.prog 89 #[.slice A len cap, .func (.func 67) #[] #[.pointer (some ⟨ob, 0, none⟩)]] w fun e w' => ∃ r : Int, e = .returned (.int .i64 r) ∧ (0 ≤ r ↔ ∃ n ∈ ns, cl n = true) ∧ Below w.heap.size w w' := by
  have HN := Lib.hid hl
  have HL := Lib.hid hL
  have HC := Lib.hid hC
  clear hl hL hC
  go_enter Tryz.func89, Tryz.ntmps89
  go_wp2_with fail
  go_loopw [8] (fun s8 wr => ∃ (k : Nat), k ≤ len ∧ s8 = .int .i64 (k : Int) ∧ Hid (∀ j, j < k → cl (atO ns j) = false) ∧ Below w.heap.size w wr) (fun s8 _ => len - (intOf s8).toNat)
  case atStart => exact ⟨0, Nat.zero_le _, rfl, Lib.hid (fun j hj => by omega), Below.refl _ _⟩
  case round =>
    obtain ⟨k, hk, rfl, HP, hX⟩ := hrel
    by_cases hlt : k < len
    · have hx : k < ns.length := by rw [HN.out]; exact hlt
      obtain ⟨bb, off, rfl, hbb, hc⟩ := HL.out (by rw [HN.out]; omega)
      obtain ⟨n, hn⟩ : ∃ n, atO ns k = n := ⟨_, rfl⟩
      have X := (hc k hx).below hX hbb
      rw [hn] at X
      have HNE := Lib.hid hn
      have HMEM : Hid (n ∈ ns) := Lib.hid (by rw [← hn]; exact atO_mem hx)
      have hcall := HC.out n HMEM.out _ hX
      obtain ⟨g, hg⟩ : ∃ g, cl n = g := ⟨_, rfl⟩
      rw [hg] at hcall
      have HGE := Lib.hid hg
      have HCALL := Lib.hid hcall
      have hj1 : (k : Int) < (len : Int) := by omega
      obtain ⟨c0, c1, c2, c3, c4, c5, c6, c7, c8, c9, c10, c11⟩ := X
      rw [Nat.add_zero] at c0
      clear hx hc hn hg hcall
      cases g with
      | true =>
        go_wp2_with fail
        refine HCALL.out.mono ?_; rintro e w5 ⟨rfl, hb5⟩
        have hX5 := hX.trans (hb5.mono hX.size)
        clear hb5 c0 c1 c2 c3 c4 c5 c6 c7 c8 c9 c10 c11
        go_wp2_with fail
        go_ret
        exact ⟨(k : Int), rfl, ⟨fun _ => ⟨n, HMEM.out, HGE.out⟩, fun _ => by omega⟩, hX5⟩
      | false =>
        have HP2 : Hid (∀ j, j < k + 1 → cl (atO ns j) = false) := Lib.hid (fun j hj => by
          rcases Nat.lt_or_ge j k with a | a
          · exact HP.out j a
          · rw [show j = k by omega, HNE.out]; exact HGE.out)
        go_wp2_with fail
        refine HCALL.out.mono ?_; rintro e w5 ⟨rfl, hb5⟩
        have hX5 := hX.trans (hb5.mono hX.size)
        clear hb5 c0 c1 c2 c3 c4 c5 c6 c7 c8 c9 c10 c11
        go_wp2_with fail
        go_roundw
        case rel => exact ⟨k + 1, by omega, by simp, HP2, hX5⟩
        case measure => simp [intOf]; omega
    · obtain rfl : k = len := by omega
      go_wp2_with fail
      go_ret
      refine ⟨-1, rfl, ⟨fun h => by omega, ?_⟩, hX⟩
      rintro ⟨n, hn, e⟩
      obtain ⟨j, hj, rfl⟩ := List.mem_iff_getElem.1 hn
      have h := HP.out j (by rw [← HN.out]; exact hj)
      rw [atO_eq hj, e] at h
      cases h
set_option maxHeartbeats 800000 in
theorem scon1_is (ns : List No.Nt) (cl : No.Nt → Bool) (f : Bool) (hf : f = true ↔ ∃ n ∈ ns, cl n = true) (len cap : Nat) (A : Option Addr) (ob : Nat) (hl : ns.length = len) (hmax : len ≤ 1000000) (w : World) (hL : SlO w A ns) (hC : ∀ n ∈ ns, ∀ w1, Below w.heap.size w w1 → Calls Tryz.prog 67 #[.agg #[.int .i64 n.id, .int .i64 n.pa, .int .i64 n.ba, .int .i64 n.vo, .int .i64 n.os, .int .i64 n.sn, .int .i64 n.sd, .int .i64 n.ln, .int .i64 n.ld, .int .i64 n.st, .int .i64 n.al, .int .i64 n.oc], .pointer (some ⟨ob, 0, none⟩)] w1 fun e w' => e = .returned (.bool (cl n)) ∧ Below w1.heap.size w1 w') :
    Calls Tryz.prog 70 #[.slice A len cap, .func (.func 67) #[] #[.pointer (some ⟨ob, 0, none⟩)]] w fun e w' => e = .returned (.bool f) ∧ Below w.heap.size w w' := by
  have HF := Lib.hid hf
  have HI := Lib.hid (sidx1_is ns cl len cap A ob hl hmax w hL hC)
  clear hf hl hL hC
  go_enter Tryz.func70, Tryz.ntmps70
  go_wp2_with fail
  refine HI.out.mono ?_; rintro e w1 ⟨r, rfl, hr, hb⟩
  obtain rfl : f = decide (0 ≤ r) := by rw [Bool.eq_iff_iff, HF.out, decide_eq_true_eq]; exact hr.symm
  clear hr
  go_wp2_with fail
  go_ret
  exact ⟨rfl, hb⟩
set_option maxRecDepth 100000 in
set_option maxHeartbeats 1600000 in
theorem sidx2_is (ns : List No.Nt) (cl : No.Nt → Bool) (len cap : Nat) (A : Option Addr) (ob : Nat) (hl : ns.length = len) (hmax : len ≤ 1000000) (w : World) (hL : SlO w A ns) (hC : ∀ n ∈ ns, ∀ w1, Below w.heap.size w w1 → Calls Tryz.prog 68 #[.agg #[.int .i64 n.id, .int .i64 n.pa, .int .i64 n.ba, .int .i64 n.vo, .int .i64 n.os, .int .i64 n.sn, .int .i64 n.sd, .int .i64 n.ln, .int .i64 n.ld, .int .i64 n.st, .int .i64 n.al, .int .i64 n.oc], .pointer (some ⟨ob, 0, none⟩)] w1 fun e w' => e = .returned (.bool (cl n)) ∧ Below w1.heap.size w1 w') :
    Calls Tryz.prog 89 #[.slice A len cap, .func (.func 68) #[] #[.pointer (some ⟨ob, 0, none⟩)]] w fun e w' => ∃ r : Int, e = .returned (.int .i64 r) ∧ (0 ≤ r ↔ ∃ n ∈ ns, cl n = true) ∧ Below w.heap.size w w' := by
  have HN := Lib.hid hl
  have HL := Lib.hid hL
  have HC := Lib.hid hC
  clear hl hL hC
  go_enter Tryz.func89, Tryz.ntmps89
  go_wp2_with fail
  go_loopw [8] (fun s8 wr => ∃ (k : Nat), k ≤ len ∧ s8 = .int .i64 (k : Int) ∧ Hid (∀ j, j < k → cl (atO ns j) = false) ∧ Below w.heap.size w wr) (fun s8 _ => len - (intOf s8).toNat)
  case atStart => exact ⟨0, Nat.zero_le _, rfl, Lib.hid (fun j hj => by omega), Below.refl _ _⟩
  case round =>
    obtain ⟨k, hk, rfl, HP, hX⟩ := hrel
    by_cases hlt : k < len
    · have hx : k < ns.length := by rw [HN.out]; exact hlt
      obtain ⟨bb, off, rfl, hbb, hc⟩ := HL.out (by rw [HN.out]; omega)
      obtain ⟨n, hn⟩ : ∃ n, atO ns k = n := ⟨_, rfl⟩
      have X := (hc k hx).below hX hbb
      rw [hn] at X
      have HNE := Lib.hid hn
      have HMEM : Hid (n ∈ ns) := Lib.hid (by rw [← hn]; exact atO_mem hx)
      have hcall := HC.out n HMEM.out _ hX
      obtain ⟨g, hg⟩ : ∃ g, cl n = g := ⟨_, rfl⟩
      rw [hg] at hcall
      have HGE := Lib.hid hg
      have HCALL := Lib.hid hcall
      have hj1 : (k : Int) < (len : Int) := by omega
      obtain ⟨c0, c1, c2, c3, c4, c5, c6, c7, c8, c9, c10, c11⟩ := X
      rw [Nat.add_zero] at c0
      clear hx hc hn hg hcall
      cases g with
      | true =>
        go_wp2_with fail
        refine HCALL.out.mono ?_; rintro e w5 ⟨rfl, hb5⟩
        have hX5 := hX.trans (hb5.mono hX.size)
        clear hb5 c0 c1 c2 c3 c4 c5 c6 c7 c8 c9 c10 c11
        go_wp2_with fail
        go_ret
        exact ⟨(k : Int), rfl, ⟨fun _ => ⟨n, HMEM.out, HGE.out⟩, fun _ => by omega⟩, hX5⟩
      | false =>
        have HP2 : Hid (∀ j, j < k + 1 → cl (atO ns j) = false) := Lib.hid (fun j hj => by
          rcases Nat.lt_or_ge j k with a | a
          · exact HP.out j a
          · rw [show j = k by omega, HNE.out]; exact HGE.out)
        go_wp2_with fail
        refine HCALL.out.mono ?_; rintro e w5 ⟨rfl, hb5⟩
        have hX5 := hX.trans (hb5.mono hX.size)
        clear hb5 c0 c1 c2 c3 c4 c5 c6 c7 c8 c9 c10 c11
        go_wp2_with fail
        go_roundw
        case rel => exact ⟨k + 1, by omega, by simp, HP2, hX5⟩
        case measure => simp [intOf]; omega
    · obtain rfl : k = len := by omega
      go_wp2_with fail
      go_ret
      refine ⟨-1, rfl, ⟨fun h => by omega, ?_⟩, hX⟩
      rintro ⟨n, hn, e⟩
      obtain ⟨j, hj, rfl⟩ := List.mem_iff_getElem.1 hn
      have h := HP.out j (by rw [← HN.out]; exact hj)
      rw [atO_eq hj, e] at h
      cases h
set_option maxHeartbeats 800000 in
theorem scon2_is (ns : List No.Nt) (cl : No.Nt → Bool) (f : Bool) (hf : f = true ↔ ∃ n ∈ ns, cl n = true) (len cap : Nat) (A : Option Addr) (ob : Nat) (hl : ns.length = len) (hmax : len ≤ 1000000) (w : World) (hL : SlO w A ns) (hC : ∀ n ∈ ns, ∀ w1, Below w.heap.size w w1 → Calls Tryz.prog 68 #[.agg #[.int .i64 n.id, .int .i64 n.pa, .int .i64 n.ba, .int .i64 n.vo, .int .i64 n.os, .int .i64 n.sn, .int .i64 n.sd, .int .i64 n.ln, .int .i64 n.ld, .int .i64 n.st, .int .i64 n.al, .int .i64 n.oc], .pointer (some ⟨ob, 0, none⟩)] w1 fun e w' => e = .returned (.bool (cl n)) ∧ Below w1.heap.size w1 w') :
    Calls Tryz.prog 70 #[.slice A len cap, .func (.func 68) #[] #[.pointer (some ⟨ob, 0, none⟩)]] w fun e w' => e = .returned (.bool f) ∧ Below w.heap.size w w' := by
  have HF := Lib.hid hf
  have HI := Lib.hid (sidx2_is ns cl len cap A ob hl hmax w hL hC)
  clear hf hl hL hC
  go_enter Tryz.func70, Tryz.ntmps70
  go_wp2_with fail
  refine HI.out.mono ?_; rintro e w1 ⟨r, rfl, hr, hb⟩
  obtain rfl : f = decide (0 ≤ r) := by rw [Bool.eq_iff_iff, HF.out, decide_eq_true_eq]; exact hr.symm
  clear hr
  go_wp2_with fail
  go_ret
  exact ⟨rfl, hb⟩
end Go.Proofs.YtbbjifhelbeniaaGreatDoor

/- The walks of score's refusal and of the reference's Wrong. -/
namespace Go.Proofs.YtbbjifhelbeniaaGreatDoor
open Go.RowKit Go.Maps

namespace Sc
theorem wrong_stray {ps : List Pt} {ns : List No.Nt} (h : stray ps ns) : wrong ps ns = 22 := by unfold wrong; rw [if_pos h]
theorem wrong_far {ps : List Pt} {ns : List No.Nt} (h : ¬ stray ps ns) (k : far ps ns) : wrong ps ns = 20 := by unfold wrong; rw [if_neg h, if_pos k]
theorem wrong_none {ps : List Pt} {ns : List No.Nt} (h : ¬ stray ps ns) (k : ¬ far ps ns) : wrong ps ns = 0 := by unfold wrong; rw [if_neg h, if_neg k]
def clS (ps : List Pt) (n : No.Nt) : Bool := !(ownF ps n.pa).isSome
theorem clS_iff {ps : List Pt} {ns : List No.Nt} : stray ps ns ↔ ∃ n ∈ ns, clS ps n = true := by
  unfold stray clS
  constructor
  · rintro ⟨n, hn, e⟩
    exact ⟨n, hn, by rw [e]; rfl⟩
  · rintro ⟨n, hn, e⟩
    refine ⟨n, hn, ?_⟩
    cases h : ownF ps n.pa with
    | none => rfl
    | some p => rw [h] at e; cases e
instance (p : Pt) (n : No.Nt) : Decidable (rng p n) := by unfold rng; infer_instance
def clF (ps : List Pt) (n : No.Nt) : Bool := match ownF ps n.pa with
  | none => false
  | some p => decide (¬ rng p n)
theorem clF_iff {ps : List Pt} {ns : List No.Nt} : far ps ns ↔ ∃ n ∈ ns, clF ps n = true := by
  unfold far clF
  constructor
  · rintro ⟨n, hn, p, e, h⟩
    refine ⟨n, hn, ?_⟩
    rw [e]
    exact decide_eq_true h
  · rintro ⟨n, hn, e⟩
    cases h : ownF ps n.pa with
    | none => rw [h] at e; cases e
    | some p =>
      rw [h] at e
      exact ⟨n, hn, p, h, of_decide_eq_true e⟩
theorem clF_at {ps : List Pt} {n : No.Nt} {p : Pt} (h : ownF ps n.pa = some p) : clF ps n = true ↔ ¬ rng p n := by
  unfold clF
  rw [h]
  exact decide_eq_true_iff
end Sc
set_option maxRecDepth 100000 in
set_option maxHeartbeats 3200000 in
theorem srefusal_is (bs : List Mt.B) (ps : List Sc.Pt) (ns : List No.Nt) (e : Int) (plen pcap len cap : Nat) (A C : Option Addr) (he : Sc.wrong ps ns = e) (hP : Sc.Parts ps) (hN : No.Val bs ns) (hpl : ps.length = plen) (hwf : Sc.Wf ps) (hl : ns.length = len) (w : World) (hG : Glob w) (hQ : SlQ w C ps) (hL : SlO w A ns) :
    Calls Tryz.prog 37 #[.slice C plen pcap, .slice A len cap] w fun x w' => x = .returned (.int .i64 e) ∧ Below w.heap.size w w' := by
  have HE := Lib.hid he
  have HP := Lib.hid hP
  have HV := Lib.hid hN
  have HPL := Lib.hid hpl
  have HWF := Lib.hid hwf
  have HN := Lib.hid hl
  have HG := Lib.hid hG
  have HQ := Lib.hid hQ
  have HL := Lib.hid hL
  have hp6 : plen ≤ 60 := by have := hP.1; omega
  have hl2 : len ≤ 20000 := by have := hN.2.1; omega
  clear he hP hN hpl hwf hl hG hQ hL
  go_enter Tryz.func37, Tryz.ntmps37
  go_wp2_with fail
  refine (sowners_is ps plen pcap C HPL.out (by omega) HWF.out _ HQ.out).mono ?_; rintro x w1 ⟨rfl, hb1, D, hO, hD⟩
  have HD := Lib.hid hD
  obtain ⟨mb, hmb⟩ : ∃ mb, w.heap.size = mb := ⟨_, rfl⟩
  rw [hmb] at hO
  have HMB := Lib.hid hmb
  simp only [hmb]
  clear hmb hD
  go_wp2_with fail
  obtain ⟨ob, hob⟩ : ∃ ob, w1.heap.size = ob := ⟨_, rfl⟩
  have hO2 : OwnV (w1.alloc (.cells #[.map (some mb)] 93)) ob mb plen D := ⟨by rw [← hob]; exact (new1 w1 (.map (some mb)) 93).1, hO.alloc _⟩
  have hb2 : Below w.heap.size w (w1.alloc (.cells #[.map (some mb)] 93)) := hb1.alloc hb1.size _
  have hz2 : (w1.alloc (.cells #[.map (some mb)] 93)).heap.size = ob + 1 := by rw [← hob]; simp
  obtain ⟨w2, hw2⟩ : ∃ w2, w1.alloc (.cells #[.map (some mb)] 93) = w2 := ⟨_, rfl⟩
  rw [hw2] at hO2 hb2 hz2
  try simp only [hw2]
  try simp only [hob]
  have k0 : (w2.alloc (.cells #[.func (.func 67) #[] #[.pointer (some ⟨ob, 0, none⟩)], .int .i64 22, .func (.func 68) #[] #[.pointer (some ⟨ob, 0, none⟩)], .int .i64 20] 99)).cell? ⟨w2.heap.size, 0, none⟩ = some (.func (.func 67) #[] #[.pointer (some ⟨ob, 0, none⟩)]) := by go_simp
  have k1 : (w2.alloc (.cells #[.func (.func 67) #[] #[.pointer (some ⟨ob, 0, none⟩)], .int .i64 22, .func (.func 68) #[] #[.pointer (some ⟨ob, 0, none⟩)], .int .i64 20] 99)).cell? ⟨w2.heap.size, 1, none⟩ = some (.int .i64 22) := by go_simp
  have k2 : (w2.alloc (.cells #[.func (.func 67) #[] #[.pointer (some ⟨ob, 0, none⟩)], .int .i64 22, .func (.func 68) #[] #[.pointer (some ⟨ob, 0, none⟩)], .int .i64 20] 99)).cell? ⟨w2.heap.size, 2, none⟩ = some (.func (.func 68) #[] #[.pointer (some ⟨ob, 0, none⟩)]) := by go_simp
  have k3 : (w2.alloc (.cells #[.func (.func 67) #[] #[.pointer (some ⟨ob, 0, none⟩)], .int .i64 22, .func (.func 68) #[] #[.pointer (some ⟨ob, 0, none⟩)], .int .i64 20] 99)).cell? ⟨w2.heap.size, 3, none⟩ = some (.int .i64 20) := by go_simp
  have hO3 := hO2.alloc (.cells #[.func (.func 67) #[] #[.pointer (some ⟨ob, 0, none⟩)], .int .i64 22, .func (.func 68) #[] #[.pointer (some ⟨ob, 0, none⟩)], .int .i64 20] 99)
  have hb3 := hb2.alloc hb2.size (.cells #[.func (.func 67) #[] #[.pointer (some ⟨ob, 0, none⟩)], .int .i64 22, .func (.func 68) #[] #[.pointer (some ⟨ob, 0, none⟩)], .int .i64 20] 99)
  have hs3 : w2.heap.size < (w2.alloc (.cells #[.func (.func 67) #[] #[.pointer (some ⟨ob, 0, none⟩)], .int .i64 22, .func (.func 68) #[] #[.pointer (some ⟨ob, 0, none⟩)], .int .i64 20] 99)).heap.size := by simp
  rw [hz2] at k0 k1 k2 k3 hs3
  try simp only [hz2]
  obtain ⟨w3, hw3⟩ : ∃ w3, w2.alloc (.cells #[.func (.func 67) #[] #[.pointer (some ⟨ob, 0, none⟩)], .int .i64 22, .func (.func 68) #[] #[.pointer (some ⟨ob, 0, none⟩)], .int .i64 20] 99) = w3 := ⟨_, rfl⟩
  rw [hw3] at k0 k1 k2 k3 hs3 hO3 hb3
  try simp only [hw3]
  have HO3 := Lib.hid hO3; have HB3 := Lib.hid hb3
  have HK0 := Lib.hid k0; have HK1 := Lib.hid k1; have HK2 := Lib.hid k2; have HK3 := Lib.hid k3
  obtain ⟨sb, hsb⟩ : ∃ sb, ob + 1 = sb := ⟨_, rfl⟩
  rw [hsb] at HK0 HK1 HK2 HK3 hs3
  try simp only [hsb]
  clear hw3 hw2 hz2 hO2 hb2 hO hb1 hob hO3 hb3 k0 k1 k2 k3 hsb
  have HPW : Hid (∀ n ∈ ns, -9223372036854775808 ≤ n.pa ∧ n.pa ≤ 9223372036854775807) := Lib.hid (fun n hn => by
    have := HV.out.2.2.1 n hn
    obtain ⟨_, _, _, _, h5, h6, _⟩ := this
    omega)
  go_loopw [18] (fun s18 wr => ∃ (i : Nat), s18 = .int .i64 (i : Int) ∧ (i = 0 ∨ i = 1 ∨ i = 2) ∧ Hid ((0 < i → ¬ Sc.stray ps ns) ∧ (1 < i → ¬ Sc.far ps ns)) ∧ Below w3.heap.size w3 wr) (fun s18 _ => 2 - (intOf s18).toNat)
  case atStart => exact ⟨0, rfl, .inl rfl, Lib.hid ⟨fun h => by omega, fun h => by omega⟩, Below.refl _ _⟩
  case round =>
    obtain ⟨i, rfl, hi, HI, hX⟩ := hrel
    rcases hi with rfl | rfl | rfl
    · have k0 := (hX.cell (p := ⟨sb, 0, none⟩) hs3).trans HK0.out
      have k1 := (hX.cell (p := ⟨sb, 1, none⟩) hs3).trans HK1.out
      have O4 := HO3.out.below hX
      have HX4 := Lib.hid (HB3.out.trans (hX.mono HB3.out.size))
      obtain ⟨f, hf⟩ := ex_bool (Sc.stray ps ns)
      have HFS := Lib.hid hf
      have HC : Hid (∀ w1, Below wr.heap.size wr w1 → Calls Tryz.prog 70 #[.slice A len cap, .func (.func 67) #[] #[.pointer (some ⟨ob, 0, none⟩)]] w1 fun e w' => e = .returned (.bool f) ∧ Below w1.heap.size w1 w') := Lib.hid (fun w1 hw1 => scon1_is ns (Sc.clS ps) f (HFS.out.trans Sc.clS_iff) len cap A ob HN.out (by omega) w1 (HL.out.below (HX4.out.trans (hw1.mono HX4.out.size))) (fun n hn w4 hw4 => sref1_is ps n (Sc.clS ps n) ob mb plen D (by unfold Sc.clS; simp) (HPW.out n hn) HD.out w4 ((O4.below hw1).below hw4)))
      have hX2 := hX.alloc hX.size (.cells #[.func (.func 67) #[] #[.pointer (some ⟨ob, 0, none⟩)], .int .i64 22] 99)
      have hn5 : (wr.alloc (.cells #[.func (.func 67) #[] #[.pointer (some ⟨ob, 0, none⟩)], .int .i64 22] 99)).cell? ⟨wr.heap.size, 1, none⟩ = some (.int .i64 22) := by go_simp
      have HBA := Lib.hid ((Below.refl wr.heap.size wr).alloc (Nat.le_refl _) (.cells #[.func (.func 67) #[] #[.pointer (some ⟨ob, 0, none⟩)], .int .i64 22] 99))
      clear hf O4
      cases f with
      | true =>
        obtain rfl : e = 22 := by rw [← HE.out]; exact Sc.wrong_stray (HFS.out.1 rfl)
        go_wp2_with fail
        refine (HC.out _ HBA.out).mono ?_; rintro x w5 ⟨rfl, hb5⟩
        have hX5 := hX2.trans (hb5.mono hX2.size)
        have d1 := (hb5.cell (p := ⟨wr.heap.size, 1, none⟩) (by simp)).trans hn5
        clear hb5 hn5 k0 k1
        go_wp2_with fail
        go_ret
        exact ⟨rfl, HB3.out.trans (hX5.mono HB3.out.size)⟩
      | false =>
        have HNS : Hid (¬ Sc.stray ps ns) := Lib.hid (fun h => by have := HFS.out.2 h; cases this)
        go_wp2_with fail
        refine (HC.out _ HBA.out).mono ?_; rintro x w5 ⟨rfl, hb5⟩
        have hX5 := hX2.trans (hb5.mono hX2.size)
        clear hb5 hn5 k0 k1
        go_wp2_with fail
        go_roundw
        case rel => exact ⟨1, rfl, .inr (.inl rfl), Lib.hid ⟨fun _ => HNS.out, fun h => by omega⟩, hX5⟩
        case measure => simp [intOf]
    · have k2 := (hX.cell (p := ⟨sb, 2, none⟩) hs3).trans HK2.out
      have k3 := (hX.cell (p := ⟨sb, 3, none⟩) hs3).trans HK3.out
      have O4 := HO3.out.below hX
      have HX4 := Lib.hid (HB3.out.trans (hX.mono HB3.out.size))
      have HNS : Hid (¬ Sc.stray ps ns) := Lib.hid (HI.out.1 (by omega))
      obtain ⟨f, hf⟩ := ex_bool (Sc.far ps ns)
      have HFS := Lib.hid hf
      have HC : Hid (∀ w1, Below wr.heap.size wr w1 → Calls Tryz.prog 70 #[.slice A len cap, .func (.func 68) #[] #[.pointer (some ⟨ob, 0, none⟩)]] w1 fun e w' => e = .returned (.bool f) ∧ Below w1.heap.size w1 w') := Lib.hid (fun w1 hw1 => scon2_is ns (Sc.clF ps) f (HFS.out.trans Sc.clF_iff) len cap A ob HN.out (by omega) w1 (HL.out.below (HX4.out.trans (hw1.mono HX4.out.size))) (fun n hn w4 hw4 => by
        have hsome : ∃ p, Sc.ownF ps n.pa = some p := by
          cases h : Sc.ownF ps n.pa with
          | none => exact absurd ⟨n, hn, h⟩ HNS.out
          | some p => exact ⟨p, rfl⟩
        obtain ⟨p, hp⟩ := hsome
        have hpm := Sc.ownF_mem hp
        have hnv := HV.out.2.2.1 n hn
        exact sref2_is ps n p (Sc.clF ps n) ob mb plen D hp (Sc.clF_at hp) (HP.out.2.1 p hpm.1).2.2.2.2.2 hnv.2.1 (HPW.out n hn) HD.out w4 (HG.out.below (HX4.out.trans ((hw1.trans (hw4.mono hw1.size)).mono HX4.out.size))) ((O4.below hw1).below hw4)))
      have hX2 := hX.alloc hX.size (.cells #[.func (.func 68) #[] #[.pointer (some ⟨ob, 0, none⟩)], .int .i64 20] 99)
      have hn5 : (wr.alloc (.cells #[.func (.func 68) #[] #[.pointer (some ⟨ob, 0, none⟩)], .int .i64 20] 99)).cell? ⟨wr.heap.size, 1, none⟩ = some (.int .i64 20) := by go_simp
      have HBA := Lib.hid ((Below.refl wr.heap.size wr).alloc (Nat.le_refl _) (.cells #[.func (.func 68) #[] #[.pointer (some ⟨ob, 0, none⟩)], .int .i64 20] 99))
      clear hf O4
      cases f with
      | true =>
        obtain rfl : e = 20 := by rw [← HE.out]; exact Sc.wrong_far HNS.out (HFS.out.1 rfl)
        go_wp2_with fail
        refine (HC.out _ HBA.out).mono ?_; rintro x w5 ⟨rfl, hb5⟩
        have hX5 := hX2.trans (hb5.mono hX2.size)
        have d1 := (hb5.cell (p := ⟨wr.heap.size, 1, none⟩) (by simp)).trans hn5
        clear hb5 hn5 k2 k3
        go_wp2_with fail
        go_ret
        exact ⟨rfl, HB3.out.trans (hX5.mono HB3.out.size)⟩
      | false =>
        have HNF : Hid (¬ Sc.far ps ns) := Lib.hid (fun h => by have := HFS.out.2 h; cases this)
        go_wp2_with fail
        refine (HC.out _ HBA.out).mono ?_; rintro x w5 ⟨rfl, hb5⟩
        have hX5 := hX2.trans (hb5.mono hX2.size)
        clear hb5 hn5 k2 k3
        go_wp2_with fail
        go_roundw
        case rel => exact ⟨2, rfl, .inr (.inr rfl), Lib.hid ⟨fun _ => HNS.out, fun _ => HNF.out⟩, hX5⟩
        case measure => simp [intOf]
    · obtain rfl : e = 0 := by rw [← HE.out]; exact Sc.wrong_none (HI.out.1 (by omega)) (HI.out.2 (by omega))
      go_wp2_with fail
      go_ret
      exact ⟨rfl, HB3.out.trans (hX.mono HB3.out.size)⟩
end Go.Proofs.YtbbjifhelbeniaaGreatDoor

/- The walks of the reference's Wrong, of slices.Equal and Same over notes, of score's inOrder. -/
namespace Go.Proofs.YtbbjifhelbeniaaGreatDoor
open Go.RowKit

namespace Sc
theorem oix_some {l : List Pt} (h : l.Pairwise fun a b => a.id ≠ b.id) {x : Int} {k : Nat} (hk : oix l x = k) : k < l.length ∧ ownF l x = some (atQ l k) := by
  unfold oix at hk
  by_cases h1 : 0 ≤ pix l x ∧ (atQ l (pix l x).toNat).f = 0
  · rw [if_pos h1] at hk
    have h2 := pix_lt l x
    rw [own_pix h, if_pos h1, hk, Int.toNat_natCast]
    exact ⟨by omega, rfl⟩
  · rw [if_neg h1] at hk; omega
theorem oix_none {l : List Pt} (h : l.Pairwise fun a b => a.id ≠ b.id) {x : Int} (hk : oix l x < 0) : ownF l x = none := by
  unfold oix at hk
  by_cases h1 : 0 ≤ pix l x ∧ (atQ l (pix l x).toNat).f = 0
  · rw [if_pos h1] at hk; omega
  · rw [own_pix h, if_neg h1]
end Sc
set_option maxRecDepth 100000 in
set_option maxHeartbeats 3200000 in
theorem rwrong_is (bs : List Mt.B) (ps : List Sc.Pt) (ns : List No.Nt) (e : Int) (plen pcap len cap : Nat) (A C : Option Addr) (he : Sc.wrong ps ns = e) (hP : Sc.Parts ps) (hN : No.Val bs ns) (hpl : ps.length = plen) (hl : ns.length = len) (w : World) (hQ : SlQ w C ps) (hL : SlO w A ns) :
    Calls Tryz.prog 41 #[.slice C plen pcap, .slice A len cap] w fun x w' => x = .returned (.int .i64 e) ∧ Below w.heap.size w w' := by
  have HE := Lib.hid he
  have HP := Lib.hid hP
  have HV := Lib.hid hN
  have HPL := Lib.hid hpl
  have HN := Lib.hid hl
  have HQ := Lib.hid hQ
  have HL := Lib.hid hL
  have hp6 : plen ≤ 60 := by have := hP.1; omega
  have hl2 : len ≤ 20000 := by have := hN.2.1; omega
  clear he hP hN hpl hl hQ hL
  go_enter Tryz.func41, Tryz.ntmps41
  go_wp2_with fail
  go_loopw [5] (fun s5 wr => ∃ (k : Nat), k ≤ len ∧ s5 = .int .i64 (k : Int) ∧ Hid (∀ j, j < k → Sc.ownF ps (atO ns j).pa ≠ none) ∧ Below w.heap.size w wr) (fun s5 _ => len - (intOf s5).toNat)
  case atStart => exact ⟨0, Nat.zero_le _, rfl, Lib.hid (fun j hj => by omega), Below.refl _ _⟩
  case round =>
    obtain ⟨k, hk, rfl, HJ, hX⟩ := hrel
    by_cases hlt : k < len
    · have hx : k < ns.length := by rw [HN.out]; exact hlt
      obtain ⟨bb, off, rfl, hbb, hc⟩ := HL.out (by rw [HN.out]; omega)
      obtain ⟨n, hn⟩ : ∃ n, atO ns k = n := ⟨_, rfl⟩
      have X := (hc k hx).below hX hbb
      rw [hn] at X
      have HNE := Lib.hid hn
      have HMEM : Hid (n ∈ ns) := Lib.hid (by rw [← hn]; exact atO_mem hx)
      obtain ⟨r, hr⟩ : ∃ r, Sc.oix ps n.pa = r := ⟨_, rfl⟩
      have HR := Lib.hid hr
      have hj1 : (k : Int) < (len : Int) := by omega
      obtain ⟨c0, c1, c2, c3, c4, c5, c6, c7, c8, c9, c10, c11⟩ := X
      rw [Nat.add_zero] at c0
      clear hx hc hn hr
      go_wp2_with fail
      refine (rown_is ps n r plen pcap C HR.out HPL.out (by omega) _ (HQ.out.below hX)).mono ?_; rintro x w5 ⟨rfl, hb5⟩
      have hX5 := hX.trans (hb5.mono hX.size)
      clear hb5 c0 c1 c2 c3 c4 c5 c6 c7 c8 c9 c10 c11
      by_cases hr0 : r < 0
      · obtain rfl : e = 22 := by
          rw [← HE.out]
          exact Sc.wrong_stray ⟨n, HMEM.out, Sc.oix_none HP.out.2.2.1 (by rw [HR.out]; exact hr0)⟩
        go_wp2_with fail
        go_ret
        exact ⟨rfl, hX5⟩
      · have HJ2 : Hid (∀ j, j < k + 1 → Sc.ownF ps (atO ns j).pa ≠ none) := Lib.hid (fun j hj => by
          rcases Nat.lt_or_ge j k with a | a
          · exact HJ.out j a
          · rw [show j = k by omega, HNE.out]
            have h := (Sc.oix_some HP.out.2.2.1 (x := n.pa) (k := r.toNat) (by rw [HR.out]; omega)).2
            rw [h]
            exact fun h => by cases h)
        go_wp2_with fail
        go_roundw
        case rel => exact ⟨k + 1, by omega, by simp, HJ2, hX5⟩
        case measure => simp [intOf]; omega
    · obtain rfl : k = len := by omega
      have HNS : Hid (¬ Sc.stray ps ns) := Lib.hid (fun ⟨n, hn, h⟩ => by
        obtain ⟨j, hj, rfl⟩ := List.mem_iff_getElem.1 hn
        exact HJ.out j (by rw [← HN.out]; exact hj) (by rw [atO_eq hj]; exact h))
      clear HJ
      go_wp2_with fail
      obtain ⟨wq, rfl⟩ : ∃ wq, wq = wr := ⟨_, rfl⟩
      go_loopw [6] (fun s6 wr => ∃ (j : Nat), j ≤ k ∧ s6 = .int .i64 (j : Int) ∧ Hid (∀ i, i < j → Sc.clF ps (atO ns i) = false) ∧ Below w.heap.size w wr) (fun s6 _ => k - (intOf s6).toNat)
      case atStart => exact ⟨0, Nat.zero_le _, rfl, Lib.hid (fun j hj => by omega), hX⟩
      case round =>
        clear hX
        obtain ⟨j, hj, rfl, HJ, hX⟩ := hrel
        by_cases hlt2 : j < k
        · have hx : j < ns.length := by rw [HN.out]; exact hlt2
          obtain ⟨bb, off, rfl, hbb, hc⟩ := HL.out (by rw [HN.out]; omega)
          obtain ⟨n, hn⟩ : ∃ n, atO ns j = n := ⟨_, rfl⟩
          have X := (hc j hx).below hX hbb
          rw [hn] at X
          have HNE := Lib.hid hn
          have HMEM : Hid (n ∈ ns) := Lib.hid (by rw [← hn]; exact atO_mem hx)
          have hr0 : ¬ Sc.oix ps n.pa < 0 := fun h => HNS.out ⟨n, HMEM.out, Sc.oix_none HP.out.2.2.1 h⟩
          obtain ⟨q, hq⟩ : ∃ q : Nat, Sc.oix ps n.pa = q := ⟨(Sc.oix ps n.pa).toNat, by omega⟩
          obtain ⟨hqb, hqs⟩ := Sc.oix_some HP.out.2.2.1 hq
          obtain ⟨cb, cof, rfl, hcb, hcc⟩ := HQ.out (by omega)
          obtain ⟨p, hp⟩ : ∃ p, atQ ps q = p := ⟨_, rfl⟩
          have Y := (hcc q hqb).below hX hcb
          rw [hp] at Y hqs
          have HQQ := Lib.hid hq
          have HR : Hid (Sc.okR p) := Lib.hid (by rw [← hp]; exact (HP.out.2.1 _ (atQ_mem hqb)).2.2.2.2.2)
          have hnv := HV.out.2.2.1 n HMEM.out
          have HPV : Hid (Sc.pv n.st n.al n.oc) := Lib.hid (by have := hnv.2.1; unfold No.isN at this; unfold Sc.pv; omega)
          obtain ⟨f, hf⟩ : ∃ f, decide (Sc.num p.ls p.la p.lo ≤ Sc.num n.st n.al n.oc ∧ Sc.num n.st n.al n.oc ≤ Sc.num p.hs p.ha p.ho) = f := ⟨_, rfl⟩
          have HF := Lib.hid hf
          have HRG : Hid (f = true ↔ Sc.rng p n) := Lib.hid (by rw [← hf, decide_eq_true_eq]; exact Iff.rfl)
          have HQS := Lib.hid hqs
          have z0 : wr.cell? ⟨bb, off + j * 12, none⟩ = some (.int .i64 n.id) := X.c0
          have u0 : wr.cell? ⟨cb, cof + q * 13, none⟩ = some (.int .i64 p.id) := Y.c0
          have x0 := fun y : Ext wr => y.cell z0
          have x1 := fun y : Ext wr => y.cell X.c1; have x2 := fun y : Ext wr => y.cell X.c2; have x3 := fun y : Ext wr => y.cell X.c3; have x4 := fun y : Ext wr => y.cell X.c4; have x5 := fun y : Ext wr => y.cell X.c5; have x6 := fun y : Ext wr => y.cell X.c6; have x7 := fun y : Ext wr => y.cell X.c7; have x8 := fun y : Ext wr => y.cell X.c8; have x9 := fun y : Ext wr => y.cell X.c9; have x10 := fun y : Ext wr => y.cell X.c10; have x11 := fun y : Ext wr => y.cell X.c11
          have y0 := fun y : Ext wr => y.cell u0
          have y1 := fun y : Ext wr => y.cell Y.c1; have y2 := fun y : Ext wr => y.cell Y.c2; have y3 := fun y : Ext wr => y.cell Y.c3; have y4 := fun y : Ext wr => y.cell Y.c4; have y5 := fun y : Ext wr => y.cell Y.c5; have y6 := fun y : Ext wr => y.cell Y.c6; have y7 := fun y : Ext wr => y.cell Y.c7; have y8 := fun y : Ext wr => y.cell Y.c8; have y9 := fun y : Ext wr => y.cell Y.c9; have y10 := fun y : Ext wr => y.cell Y.c10; have y11 := fun y : Ext wr => y.cell Y.c11; have y12 := fun y : Ext wr => y.cell Y.c12
          have hne := Ext.there wr
          have HXW := Lib.hid hX
          have hj1 : (j : Int) < (k : Int) := by omega
          have hq1 : (q : Int) < (plen : Int) := by have := HPL.out; omega
          have hq2 : ((q : Int)).toNat = q := by omega
          have hq3 : (0 : Int) ≤ (q : Int) := by omega
          have hq4 : q < plen := by omega
          have hj2 : ((j : Int)).toNat = j := by omega
          clear hx hc hn hr0 hq hqb hqs hcc hp hnv hf z0 u0 X Y
          go_wp2_with fail
          refine Ext.region (by kernel_rfl) (by kernel_rfl) ?_
          repeat (go_big_quiet_step ((first | (go_at_call 31; exact Ext.call _ (rown_is ps n (q : Int) plen pcap _ HQQ.out HPL.out (by omega) _ ((HQ.out.below HXW.out).below (Ext.h _)))) | (go_at_call 73; exact Ext.call _ (rrange_is p n.st n.al n.oc f HF.out HPV.out HR.out _)))))
          refine wpQuiet_nil ?_
          rintro _ ⟨xw, rfl⟩
          have hX5 := hX.trans (xw.h.mono hX.size)
          clear x0 x1 x2 x3 x4 x5 x6 x7 x8 x9 x10 x11 y0 y1 y2 y3 y4 y5 y6 y7 y8 y9 y10 y11 y12 hne hX HXW
          generalize xw.w = w5 at *
          clear xw
          cases f with
          | true =>
            have HJ2 : Hid (∀ i, i < j + 1 → Sc.clF ps (atO ns i) = false) := Lib.hid (fun i hi => by
              rcases Nat.lt_or_ge i j with a | a
              · exact HJ.out i a
              · rw [show i = j by omega, HNE.out, ← Bool.not_eq_true, Sc.clF_at HQS.out]
                exact fun h => h (HRG.out.1 rfl))
            go_wp2_with fail
            go_roundw
            case rel => exact ⟨j + 1, by omega, by simp, HJ2, hX5⟩
            case measure => simp [intOf]; omega
          | false =>
            obtain rfl : e = 20 := by
              rw [← HE.out]
              exact Sc.wrong_far HNS.out ⟨n, HMEM.out, p, HQS.out, fun h => by have := HRG.out.2 h; cases this⟩
            go_wp2_with fail
            go_ret
            exact ⟨rfl, hX5⟩
        · obtain rfl : j = k := by omega
          obtain rfl : e = 0 := by
            rw [← HE.out]
            refine Sc.wrong_none HNS.out (fun h => ?_)
            obtain ⟨n, hn, h2⟩ := Sc.clF_iff.1 h
            obtain ⟨i, hi, rfl⟩ := List.mem_iff_getElem.1 hn
            have h3 := HJ.out i (by rw [← HN.out]; exact hi)
            rw [atO_eq hi, h2] at h3
            cases h3
          go_wp2_with fail
          go_ret
          exact ⟨rfl, hX⟩
end Go.Proofs.YtbbjifhelbeniaaGreatDoor
