import Derived.Test.YtbbjifhelbeniaaGreatDoorZd
import Derived.Test.YtbbjifhelbeniaaGreatDoorGL
/- The walks of the reference's PartAt, NoteAt, Own, and of score's owners. -/
namespace Go.Proofs.YtbbjifhelbeniaaGreatDoor
open Go.RowKit Go.Maps

namespace Sc
/-- The index of the note with an ID, or -1. -/
def nix : List No.Nt → Int → Int
  | [], _ => -1
  | b :: l, id => if b.id = id then 0 else if nix l id < 0 then -1 else nix l id + 1
theorem nix_ge : ∀ (l : List No.Nt) (id : Int), -1 ≤ nix l id
  | [], _ => Int.le_refl _
  | b :: l, id => by
    have := nix_ge l id
    unfold nix
    split
    · omega
    · split <;> omega
theorem nix_lt : ∀ (l : List No.Nt) (id : Int), nix l id < l.length
  | [], _ => by unfold nix; simp
  | b :: l, id => by
    have := nix_lt l id
    unfold nix
    simp only [List.length_cons]
    split
    · omega
    · split <;> omega
theorem nix_at : ∀ {l : List No.Nt} {id : Int}, 0 ≤ nix l id → (atO l (nix l id).toNat).id = id
  | [], id, h => by unfold nix at h; omega
  | b :: l, id, h => by
    unfold nix at h ⊢
    split
    · rename_i e; exact e
    · rename_i e
      rw [if_neg e] at h
      split
      · rename_i h1; rw [if_pos h1] at h; omega
      · rename_i h1
        have ih := nix_at (l := l) (id := id) (by omega)
        rw [show (nix l id + 1).toNat = (nix l id).toNat + 1 by omega]
        exact ih
theorem nix_none : ∀ {l : List No.Nt} {id : Int}, nix l id < 0 → ∀ b ∈ l, b.id ≠ id
  | [], _, _, _, hx => by cases hx
  | b :: l, id, h, x, hx => by
    unfold nix at h
    by_cases e : b.id = id
    · rw [if_pos e] at h; omega
    · rw [if_neg e] at h
      rcases List.mem_cons.1 hx with rfl | hx
      · exact e
      · refine nix_none (l := l) ?_ x hx
        split at h
        · assumption
        · omega
theorem nix_first : ∀ {l : List No.Nt} {id : Int} {i : Nat}, i < l.length → (atO l i).id = id → (∀ k, k < i → (atO l k).id ≠ id) → nix l id = i
  | [], _, _, hi, _, _ => by simp at hi
  | b :: l, id, 0, _, h, _ => by unfold nix; rw [if_pos (show b.id = id from h)]; rfl
  | b :: l, id, i + 1, hi, h, hk => by
    have e : b.id ≠ id := hk 0 (by omega)
    have ih := nix_first (l := l) (id := id) (i := i) (by simpa using hi) h (fun k hk2 => hk (k + 1) (by omega))
    unfold nix
    rw [if_neg e, if_neg (by omega), ih]
    rfl
theorem nix_of {l : List No.Nt} (h : l.Pairwise fun a b => a.id ≠ b.id) {i : Nat} (hi : i < l.length) : nix l (atO l i).id = i :=
  nix_first hi rfl fun k hk => by
    rw [atO_eq hi, atO_eq (by omega)]
    exact List.pairwise_iff_getElem.1 h k i (by omega) hi hk
/-- IDs are 64 bit integers. -/
def Wf (l : List Pt) : Prop := ∀ p ∈ l, (-9223372036854775808 ≤ p.id ∧ p.id ≤ 9223372036854775807) ∧ (-9223372036854775808 ≤ p.f ∧ p.f ≤ 9223372036854775807)
/-- What a map of own parts holds. -/
def mapF (f : Int → Option Pt) (x : Int) : Option Value := (f x).map fun p => .agg (rowQ p).toArray
theorem mapF_own {f : Int → Option Pt} {p : Pt} (h : p.f = 0) : mapF (ownS f p) = fun x => if x = p.id then some (.agg (rowQ p).toArray) else mapF f x := by
  funext x
  unfold mapF
  rw [ownS_eq, if_pos h]
  split <;> rfl
theorem mapF_other {f : Int → Option Pt} {p : Pt} (h : ¬ p.f = 0) : mapF (ownS f p) = mapF f := by
  unfold ownS
  rw [if_neg h]
theorem ownF_step {l : List Pt} {k : Nat} (h : k < l.length) : ownF (l.take (k + 1)) = ownS (ownF (l.take k)) (atQ l k) := by
  rw [List.take_succ_eq_append_getElem h, ownF_snoc, ← atQ_eq h]
end Sc

set_option maxHeartbeats 800000 in
theorem rpartat_w (l : List Sc.Pt) (id r : Int) (len cap : Nat) (A : Option Addr) (h : Sc.pix l id = r) (hl : l.length = len) (hmax : len ≤ 4000000) (w : World) (hL : SlQ w A l) :
    Calls Tryz.prog 50 #[.slice A len cap, .int .i64 id] w fun e w' => e = .returned (.int .i64 r) ∧ w = w' := by
  have HR : Hid (∀ i : Nat, i ≤ l.length → (∀ j, j < i → (atQ l j).id ≠ id) → (if Sc.pix (l.drop i) id < 0 then -1 else Sc.pix (l.drop i) id + i) = r) := Lib.hid (fun i hi hj => by
    rw [← h]
    clear h hl hL
    induction i generalizing l with
    | zero => rw [List.drop_zero]; have := Sc.pix_ge l id; split <;> omega
    | succ i ih =>
      cases l with
      | nil => simp at hi
      | cons b l =>
        have hb : b.id ≠ id := hj 0 (by omega)
        have h2 := ih l (by simpa using hi) (fun j hj2 => hj (j + 1) (by omega))
        rw [List.drop_succ_cons]
        conv => rhs; unfold Sc.pix; rw [if_neg hb]
        have h3 := Sc.pix_ge l id
        split
        · rename_i h4; rw [if_pos h4] at h2; rw [← h2]; simp
        · rename_i h4; rw [if_neg h4] at h2; rw [← h2, if_neg (by have := Sc.pix_ge (l.drop i) id; omega)]; omega)
  have HN := Lib.hid hl
  have HL := Lib.hid hL
  clear h hl hL
  go_enter Tryz.func50, Tryz.ntmps50
  go_wp2_with fail
  go_loopw [5] (fun s5 wr => ∃ (i : Nat) (q : Int), i ≤ len ∧ q = i ∧ s5 = .int .i64 q ∧ Hid (∀ j, j < i → (atQ l j).id ≠ id) ∧ wr = w) (fun s5 _ => len - (intOf s5).toNat)
  case atStart => exact ⟨0, 0, Nat.zero_le _, rfl, rfl, Lib.hid (fun j hj => by omega), rfl⟩
  case round =>
    obtain ⟨i, q, hi, hq, rfl, HE, rfl⟩ := hrel
    by_cases hlt : i < len
    · have hil : i < l.length := by rw [HN.out]; omega
      obtain ⟨bb, off, rfl, hbb, hc⟩ := HL.out (by omega)
      have c0 := (hc i hil).c0
      rw [Nat.add_zero] at c0
      have hq1 : q < (len : Int) := by omega
      have hq3 : 0 ≤ q := by omega
      have hqn : q.toNat = i := by omega
      have HQ := Lib.hid hq
      have HD := Lib.hid (HR.out i (by omega) HE.out)
      obtain ⟨id2, hid2⟩ : ∃ id2, (atQ l i).id = id2 := ⟨_, rfl⟩
      have HI := Lib.hid hid2
      have hgt : (l[i]).id = id2 := by rw [← hid2, atQ_eq hil]
      rw [hid2] at c0
      by_cases he : id2 = id
      · have hr : r = q := by
          have hd := HD.out
          have hz : Sc.pix (l.drop i) id = 0 := by
            rw [List.drop_eq_getElem_cons hil]
            unfold Sc.pix
            rw [if_pos (by rw [hgt]; exact he)]
          rw [hz, if_neg (by omega)] at hd
          omega
        subst he hr
        clear hc hq hil hid2 hgt
        go_wp2_with fail
        go_ret
        exact ⟨rfl, rfl⟩
      · have he' : (id2 == id) = false := by simpa using he
        have HE2 : Hid (∀ j, j < i + 1 → (atQ l j).id ≠ id) := Lib.hid (fun j hj => by
          by_cases e : j = i
          · subst e; rw [HI.out]; exact he
          · exact HE.out j (by omega))
        clear hc hq hil hid2 hgt he
        go_wp2_with fail
        go_roundw
        case rel => exact ⟨i + 1, q + 1, by omega, (by have := HQ.out; omega), rfl, HE2, (by first | rfl | trivial)⟩
        case measure => have := HQ.out; simp [intOf]; omega
    · obtain rfl : i = len := by omega
      have hr : r = -1 := by
        have := HR.out i (by rw [HN.out]; exact Nat.le_refl _) HE.out
        rw [List.drop_eq_nil_of_le (by rw [HN.out]; exact Nat.le_refl _)] at this
        unfold Sc.pix at this
        simpa using this.symm
      subst hr
      have hq1 : ¬ q < (i : Int) := by omega
      clear hq
      go_wp2_with fail
      go_ret
      exact ⟨rfl, rfl⟩
set_option maxHeartbeats 800000 in
theorem rnoteat_w (l : List No.Nt) (id r : Int) (len cap : Nat) (A : Option Addr) (h : Sc.nix l id = r) (hl : l.length = len) (hmax : len ≤ 4000000) (w : World) (hL : SlO w A l) :
    Calls Tryz.prog 27 #[.slice A len cap, .int .i64 id] w fun e w' => e = .returned (.int .i64 r) ∧ w = w' := by
  have HR : Hid (∀ i : Nat, i ≤ l.length → (∀ j, j < i → (atO l j).id ≠ id) → (if Sc.nix (l.drop i) id < 0 then -1 else Sc.nix (l.drop i) id + i) = r) := Lib.hid (fun i hi hj => by
    rw [← h]
    clear h hl hL
    induction i generalizing l with
    | zero => rw [List.drop_zero]; have := Sc.nix_ge l id; split <;> omega
    | succ i ih =>
      cases l with
      | nil => simp at hi
      | cons b l =>
        have hb : b.id ≠ id := hj 0 (by omega)
        have h2 := ih l (by simpa using hi) (fun j hj2 => hj (j + 1) (by omega))
        rw [List.drop_succ_cons]
        conv => rhs; unfold Sc.nix; rw [if_neg hb]
        have h3 := Sc.nix_ge l id
        split
        · rename_i h4; rw [if_pos h4] at h2; rw [← h2]; simp
        · rename_i h4; rw [if_neg h4] at h2; rw [← h2, if_neg (by have := Sc.nix_ge (l.drop i) id; omega)]; omega)
  have HN := Lib.hid hl
  have HL := Lib.hid hL
  clear h hl hL
  go_enter Tryz.func27, Tryz.ntmps27
  go_wp2_with fail
  go_loopw [5] (fun s5 wr => ∃ (i : Nat) (q : Int), i ≤ len ∧ q = i ∧ s5 = .int .i64 q ∧ Hid (∀ j, j < i → (atO l j).id ≠ id) ∧ wr = w) (fun s5 _ => len - (intOf s5).toNat)
  case atStart => exact ⟨0, 0, Nat.zero_le _, rfl, rfl, Lib.hid (fun j hj => by omega), rfl⟩
  case round =>
    obtain ⟨i, q, hi, hq, rfl, HE, rfl⟩ := hrel
    by_cases hlt : i < len
    · have hil : i < l.length := by rw [HN.out]; omega
      obtain ⟨bb, off, rfl, hbb, hc⟩ := HL.out (by omega)
      have c0 := (hc i hil).c0
      rw [Nat.add_zero] at c0
      have hq1 : q < (len : Int) := by omega
      have hq3 : 0 ≤ q := by omega
      have hqn : q.toNat = i := by omega
      have HQ := Lib.hid hq
      have HD := Lib.hid (HR.out i (by omega) HE.out)
      obtain ⟨id2, hid2⟩ : ∃ id2, (atO l i).id = id2 := ⟨_, rfl⟩
      have HI := Lib.hid hid2
      have hgt : (l[i]).id = id2 := by rw [← hid2, atO_eq hil]
      rw [hid2] at c0
      by_cases he : id2 = id
      · have hr : r = q := by
          have hd := HD.out
          have hz : Sc.nix (l.drop i) id = 0 := by
            rw [List.drop_eq_getElem_cons hil]
            unfold Sc.nix
            rw [if_pos (by rw [hgt]; exact he)]
          rw [hz, if_neg (by omega)] at hd
          omega
        subst he hr
        clear hc hq hil hid2 hgt
        go_wp2_with fail
        go_ret
        exact ⟨rfl, rfl⟩
      · have he' : (id2 == id) = false := by simpa using he
        have HE2 : Hid (∀ j, j < i + 1 → (atO l j).id ≠ id) := Lib.hid (fun j hj => by
          by_cases e : j = i
          · subst e; rw [HI.out]; exact he
          · exact HE.out j (by omega))
        clear hc hq hil hid2 hgt he
        go_wp2_with fail
        go_roundw
        case rel => exact ⟨i + 1, q + 1, by omega, (by have := HQ.out; omega), rfl, HE2, (by first | rfl | trivial)⟩
        case measure => have := HQ.out; simp [intOf]; omega
    · obtain rfl : i = len := by omega
      have hr : r = -1 := by
        have := HR.out i (by rw [HN.out]; exact Nat.le_refl _) HE.out
        rw [List.drop_eq_nil_of_le (by rw [HN.out]; exact Nat.le_refl _)] at this
        unfold Sc.nix at this
        simpa using this.symm
      subst hr
      have hq1 : ¬ q < (i : Int) := by omega
      clear hq
      go_wp2_with fail
      go_ret
      exact ⟨rfl, rfl⟩
theorem rpartat_is (l : List Sc.Pt) (id r : Int) (len cap : Nat) (A : Option Addr) (h : Sc.pix l id = r) (hl : l.length = len) (hmax : len ≤ 4000000) (w : World) (hL : SlQ w A l) :
    Calls Tryz.prog 50 #[.slice A len cap, .int .i64 id] w fun e w' => e = .returned (.int .i64 r) ∧ Below w.heap.size w w' :=
  (rpartat_w l id r len cap A h hl hmax w hL).mono fun _ _ h => ⟨h.1, h.2 ▸ Below.refl _ _⟩
theorem rnoteat_is (l : List No.Nt) (id r : Int) (len cap : Nat) (A : Option Addr) (h : Sc.nix l id = r) (hl : l.length = len) (hmax : len ≤ 4000000) (w : World) (hL : SlO w A l) :
    Calls Tryz.prog 27 #[.slice A len cap, .int .i64 id] w fun e w' => e = .returned (.int .i64 r) ∧ Below w.heap.size w w' :=
  (rnoteat_w l id r len cap A h hl hmax w hL).mono fun _ _ h => ⟨h.1, h.2 ▸ Below.refl _ _⟩
/-- The index of a note's own part, or -1. -/
def Sc.oix (l : List Sc.Pt) (x : Int) : Int := if 0 ≤ Sc.pix l x ∧ (atQ l (Sc.pix l x).toNat).f = 0 then Sc.pix l x else -1
set_option maxHeartbeats 800000 in
theorem rown_is (l : List Sc.Pt) (n : No.Nt) (r : Int) (len cap : Nat) (A : Option Addr) (h : Sc.oix l n.pa = r) (hl : l.length = len) (hmax : len ≤ 4000000) (w : World) (hL : SlQ w A l) :
    Calls Tryz.prog 31 #[.slice A len cap, .agg #[.int .i64 n.id, .int .i64 n.pa, .int .i64 n.ba, .int .i64 n.vo, .int .i64 n.os, .int .i64 n.sn, .int .i64 n.sd, .int .i64 n.ln, .int .i64 n.ld, .int .i64 n.st, .int .i64 n.al, .int .i64 n.oc]] w fun e w' => e = .returned (.int .i64 r) ∧ Below w.heap.size w w' := by
  have HN := Lib.hid hl
  have HL := Lib.hid hL
  have A0 := NtB.new w n
  have G0 := (Below.refl w.heap.size w).alloc (Nat.le_refl _) (.cells #[.int .i64 n.id, .int .i64 n.pa, .int .i64 n.ba, .int .i64 n.vo, .int .i64 n.os, .int .i64 n.sn, .int .i64 n.sd, .int .i64 n.ln, .int .i64 n.ld, .int .i64 n.st, .int .i64 n.al, .int .i64 n.oc] 51)
  obtain ⟨q, hq⟩ : ∃ q, Sc.pix l n.pa = q := ⟨_, rfl⟩
  unfold Sc.oix at h
  rw [hq] at h
  have hqb := Sc.pix_lt l n.pa
  rw [hq] at hqb
  have HQ := Lib.hid hq
  clear hq
  by_cases h0 : q < 0
  · rw [if_neg (by omega)] at h
    subst h
    clear hl hL
    go_enter Tryz.func31, Tryz.ntmps31
    go_wp2_with fail
    refine (rpartat_is l n.pa q len cap A HQ.out HN.out hmax _ (HL.out.alloc _)).mono ?_; rintro e w1 ⟨rfl, hb⟩
    have G1 := G0.trans (hb.mono G0.size)
    clear hb A0
    go_wp2_with fail
    go_ret
    exact ⟨rfl, G1⟩
  · obtain ⟨k, rfl⟩ : ∃ k : Nat, q = k := ⟨q.toNat, by omega⟩
    have hk : k < l.length := by omega
    obtain ⟨b, off, rfl, hbb, hc⟩ := hL (by omega)
    have c2 := (hc k hk).c2
    rw [Int.toNat_natCast] at h
    obtain ⟨x, hx⟩ : ∃ x, (atQ l k).f = x := ⟨_, rfl⟩
    rw [hx] at c2 h
    have hk1 : (k : Int) < (len : Int) := by omega
    by_cases hx0 : x = 0
    · subst hx0
      rw [if_pos ⟨by omega, rfl⟩] at h
      subst h
      clear hl hL hc hk hx
      go_enter Tryz.func31, Tryz.ntmps31
      go_wp2_with fail
      refine (rpartat_is l n.pa k len cap _ HQ.out HN.out hmax _ (HL.out.alloc _)).mono ?_; rintro e w1 ⟨rfl, hb⟩
      have G1 := G0.trans (hb.mono G0.size)
      have d2 := (G1.cell (p := ⟨b, off + k * 13 + 2, none⟩) hbb).trans c2
      clear hb A0 c2
      go_wp2_with fail
      go_ret
      exact ⟨rfl, G1⟩
    · have hxb : (x != 0) = true := by simpa using hx0
      rw [if_neg (fun h => hx0 h.2)] at h
      subst h
      clear hl hL hc hk hx hx0
      go_enter Tryz.func31, Tryz.ntmps31
      go_wp2_with fail
      refine (rpartat_is l n.pa k len cap _ HQ.out HN.out hmax _ (HL.out.alloc _)).mono ?_; rintro e w1 ⟨rfl, hb⟩
      have G1 := G0.trans (hb.mono G0.size)
      have d2 := (G1.cell (p := ⟨b, off + k * 13 + 2, none⟩) hbb).trans c2
      clear hb A0 c2
      go_wp2_with fail
      go_ret
      exact ⟨rfl, G1⟩
theorem run_mkPart (w : World) : (Instr.makeMap 93 none).run Tryz.prog w = .ok (.map (some w.heap.size)) (w.alloc (.map #[] 0)) := by
  simp [Instr.makeMap, Result.andThen]
set_option maxHeartbeats 1600000 in
theorem sowners_is (l : List Sc.Pt) (len cap : Nat) (A : Option Addr) (hl : l.length = len) (hmax : len ≤ 1000000) (hwf : Sc.Wf l) (w : World) (hL : SlQ w A l) :
    Calls Tryz.prog 64 #[.slice A len cap] w fun e w' => e = .returned (.map (some w.heap.size)) ∧ Below w.heap.size w w' ∧ ∃ D : DataW Value, w'.ownsMap Tryz.prog 3 rdV w.heap.size len D ∧ MapIs D (.agg #[.int .i64 0, .int .i64 0, .int .i64 0, .int .i64 0, .int .i64 0, .int .i64 0, .int .i64 0, .int .i64 0, .int .i64 0, .int .i64 0, .int .i64 0, .int .i64 0, .int .i64 0]) (Sc.mapF (Sc.ownF l)) := by
  have HN := Lib.hid hl
  have HL := Lib.hid hL
  have HW := Lib.hid hwf
  clear hl hL hwf
  have hmm := run_mkPart
  have hmo := World.ownsMap_made w Tryz.prog 3 rdV
  go_enter Tryz.func64, Tryz.ntmps64
  go_wp2_with fail
  clear hmm
  go_loopw [9] (fun s9 wr => ∃ (k : Nat) (D : DataW Value), k ≤ len ∧ s9 = .int .i64 (k : Int) ∧ Hid (wr.ownsMap Tryz.prog 3 rdV w.heap.size k D) ∧ Hid (MapIs D (.agg #[.int .i64 0, .int .i64 0, .int .i64 0, .int .i64 0, .int .i64 0, .int .i64 0, .int .i64 0, .int .i64 0, .int .i64 0, .int .i64 0, .int .i64 0, .int .i64 0, .int .i64 0]) (Sc.mapF (Sc.ownF (l.take k)))) ∧ Below w.heap.size w wr) (fun s9 _ => len - (intOf s9).toNat)
  case atStart => exact ⟨0, _, Nat.zero_le _, rfl, Lib.hid hmo, Lib.hid (by rw [List.take_zero]; exact MapIs.start _), (Below.refl _ _).alloc (Nat.le_refl _) _⟩
  case round =>
    clear hmo
    obtain ⟨k, D, hk, rfl, HO, HD, hX⟩ := hrel
    by_cases hlt : k < len
    · have hx : k < l.length := by rw [HN.out]; exact hlt
      obtain ⟨bb, off, rfl, hbb, hc⟩ := HL.out (by rw [HN.out]; omega)
      have hst := Sc.ownF_step hx
      obtain ⟨p, hp⟩ : ∃ p, atQ l k = p := ⟨_, rfl⟩
      have X := (hc k hx).below hX hbb
      have hpw := HW.out _ (atQ_mem hx)
      rw [hp] at X hst hpw
      have HST := Lib.hid hst
      have hwf : (Lit.int .i64 p.id).wf = true := Mt.wf_id hpw.1.1 hpw.1.2
      have hkey : keyOf Tryz.prog 3 (.int .i64 p.id) = some (.int .i64 p.id) := keyOf_int_mk Tryz.underlying3 hwf
      have HWF := Lib.hid hwf
      have hj1 : (k : Int) < (len : Int) := by omega
      obtain ⟨c0, c1, c2, c3, c4, c5, c6, c7, c8, c9, c10, c11, c12⟩ := X
      rw [Nat.add_zero] at c0
      have hown2 := HO.out.alloc (.cells #[.int .i64 p.id, .int .i64 p.se, .int .i64 p.f, .int .i64 p.oc, .int .i64 p.de, .int .i64 p.ss, .int .i64 p.sm, .int .i64 p.ls, .int .i64 p.la, .int .i64 p.lo, .int .i64 p.hs, .int .i64 p.ha, .int .i64 p.ho] 49)
      have hX2 := hX.alloc hX.size (.cells #[.int .i64 p.id, .int .i64 p.se, .int .i64 p.f, .int .i64 p.oc, .int .i64 p.de, .int .i64 p.ss, .int .i64 p.sm, .int .i64 p.ls, .int .i64 p.la, .int .i64 p.lo, .int .i64 p.hs, .int .i64 p.ha, .int .i64 p.ho] 49)
      clear hx hc hst hp hpw hwf
      by_cases h0 : p.f = 0
      · have hb0 : (p.f == 0) = true := by simpa using h0
        have HM : Hid (MapIs (D.put (.int .i64 p.id) (.held (.agg #[.int .i64 p.id, .int .i64 p.se, .int .i64 p.f, .int .i64 p.oc, .int .i64 p.de, .int .i64 p.ss, .int .i64 p.sm, .int .i64 p.ls, .int .i64 p.la, .int .i64 p.lo, .int .i64 p.hs, .int .i64 p.ha, .int .i64 p.ho]))) (.agg #[.int .i64 0, .int .i64 0, .int .i64 0, .int .i64 0, .int .i64 0, .int .i64 0, .int .i64 0, .int .i64 0, .int .i64 0, .int .i64 0, .int .i64 0, .int .i64 0, .int .i64 0]) (Sc.mapF (Sc.ownF (l.take (k + 1))))) := Lib.hid (by
          rw [HST.out, Sc.mapF_own h0]
          exact HD.out.put HWF.out (.agg #[.int .i64 p.id, .int .i64 p.se, .int .i64 p.f, .int .i64 p.oc, .int .i64 p.de, .int .i64 p.ss, .int .i64 p.sm, .int .i64 p.ls, .int .i64 p.la, .int .i64 p.lo, .int .i64 p.hs, .int .i64 p.ha, .int .i64 p.ho]))
        clear h0
        go_wp2_with (first | (at_mapUpdate; go_loud (refine wpList_mapUpdate_own _ rfl _ _ _ 93 rfl 3 49 mapK Tryz.underlying93 rdV w.heap.size k D rfl hown2 (by unfold maxLen; omega) _ (.agg #[.int .i64 p.id, .int .i64 p.se, .int .i64 p.f, .int .i64 p.oc, .int .i64 p.de, .int .i64 p.ss, .int .i64 p.sm, .int .i64 p.ls, .int .i64 p.la, .int .i64 p.lo, .int .i64 p.hs, .int .i64 p.ha, .int .i64 p.ho]) _ rfl rfl hkey _ [] rfl ?_; intro w3 hown3 hg3)) | fail)
        have HO3 := Lib.hid hown3
        have hX3 := hX2.grown hg3 hX2.size (by intro j hj; cases hj; exact Nat.le_refl _)
        clear hown3 hg3 hown2 c0 c1 c2 c3 c4 c5 c6 c7 c8 c9 c10 c11 c12
        go_roundw
        case rel => exact ⟨k + 1, _, by omega, by simp, HO3, HM, hX3⟩
        case measure => simp [intOf]; omega
      · have hb0 : (p.f == 0) = false := by simpa using h0
        have HM : Hid (MapIs D (.agg #[.int .i64 0, .int .i64 0, .int .i64 0, .int .i64 0, .int .i64 0, .int .i64 0, .int .i64 0, .int .i64 0, .int .i64 0, .int .i64 0, .int .i64 0, .int .i64 0, .int .i64 0]) (Sc.mapF (Sc.ownF (l.take (k + 1))))) := Lib.hid (by
          rw [HST.out, Sc.mapF_other h0]
          exact HD.out)
        have HO3 := Lib.hid (hown2.mono (Nat.le_succ k))
        clear h0 hown2
        go_wp2_with fail
        go_roundw
        case rel => exact ⟨k + 1, _, by omega, by simp, HO3, HM, hX2⟩
        case measure => simp [intOf]; omega
    · obtain rfl : k = len := by omega
      have HD2 : Hid (MapIs D (.agg #[.int .i64 0, .int .i64 0, .int .i64 0, .int .i64 0, .int .i64 0, .int .i64 0, .int .i64 0, .int .i64 0, .int .i64 0, .int .i64 0, .int .i64 0, .int .i64 0, .int .i64 0]) (Sc.mapF (Sc.ownF l))) := Lib.hid (by have h := HD.out; rwa [List.take_of_length_le (by rw [HN.out]; exact Nat.le_refl _)] at h)
      go_wp2_with fail
      go_ret
      exact ⟨rfl, hX, D, HO.out, HD2.out⟩
end Go.Proofs.YtbbjifhelbeniaaGreatDoor

/- The walks of score's areParts and of the reference's Parts. -/
namespace Go.Proofs.YtbbjifhelbeniaaGreatDoor
open Go.RowKit Go.Maps

namespace Sc
def zeroPt : Pt := ⟨0, 0, 0, 0, 0, 0, 0, 0, 0, 0, 0, 0, 0⟩
theorem mapF_val (f : Int → Option Pt) (x : Int) : (mapF f x).getD (.agg #[.int .i64 0, .int .i64 0, .int .i64 0, .int .i64 0, .int .i64 0, .int .i64 0, .int .i64 0, .int .i64 0, .int .i64 0, .int .i64 0, .int .i64 0, .int .i64 0, .int .i64 0]) = .agg (rowQ ((f x).getD zeroPt)).toArray := by
  unfold mapF
  cases f x <;> rfl
theorem mapF_has (f : Int → Option Pt) (x : Int) : (mapF f x).isSome = (f x).isSome := by
  unfold mapF
  cases f x <;> rfl
/-- The IDs of the first k parts. -/
def seenF (l : List Pt) : Nat → Int → Option Value
  | 0 => fun _ => none
  | k + 1 => fun x => if x = (atQ l k).id then some (.bool true) else seenF l k x
theorem seenF_val (l : List Pt) : ∀ (k : Nat) (x : Int), ∃ c : Bool, (seenF l k x).getD (.bool false) = .bool c ∧ (c = true ↔ ∃ m, m < k ∧ (atQ l m).id = x)
  | 0, x => ⟨false, rfl, by simp⟩
  | k + 1, x => by
    by_cases e : x = (atQ l k).id
    · refine ⟨true, ?_, by simp only [true_iff]; exact ⟨k, by omega, e.symm⟩⟩
      show (if x = (atQ l k).id then some (.bool true) else seenF l k x).getD (.bool false) = _
      rw [if_pos e]
      rfl
    · obtain ⟨c, h1, h2⟩ := seenF_val l k x
      refine ⟨c, ?_, h2.trans ?_⟩
      · show (if x = (atQ l k).id then some (.bool true) else seenF l k x).getD (.bool false) = _
        rw [if_neg e]
        exact h1
      · constructor
        · rintro ⟨m, hm, e2⟩
          exact ⟨m, by omega, e2⟩
        · rintro ⟨m, hm, e2⟩
          refine ⟨m, ?_, e2⟩
          rcases Nat.lt_or_eq_of_le (Nat.le_of_lt_succ hm) with h3 | h3
          · exact h3
          · subst h3; exact absurd e2.symm e
/-- The first k of them are right. -/
def PInv (l : List Pt) (k : Nat) : Prop := (∀ j, j < k → okP (atQ l j)) ∧ (∀ j m, j < k → m < j → (atQ l m).id ≠ (atQ l j).id) ∧ ∀ j, j < k → (atQ l j).f ≠ 0 → (ownF l (atQ l j).f).isSome = true
theorem PInv.start (l : List Pt) : PInv l 0 := ⟨fun j hj => by omega, fun j m hj _ => by omega, fun j hj => by omega⟩
theorem PInv.step {l : List Pt} {k : Nat} (h : PInv l k) (h1 : okP (atQ l k)) (h2 : ∀ m, m < k → (atQ l m).id ≠ (atQ l k).id) (h3 : (atQ l k).f ≠ 0 → (ownF l (atQ l k).f).isSome = true) : PInv l (k + 1) :=
  ⟨fun j hj => by
    rcases Nat.lt_or_ge j k with a | a
    · exact h.1 j a
    · rw [show j = k by omega]; exact h1, fun j m hj hm => by
    rcases Nat.lt_or_ge j k with a | a
    · exact h.2.1 j m a hm
    · obtain rfl : j = k := by omega
      exact h2 m hm, fun j hj => by
    rcases Nat.lt_or_ge j k with a | a
    · exact h.2.2 j a
    · rw [show j = k by omega]; exact h3⟩
theorem PInv.all {l : List Pt} (hl : 1 ≤ l.length ∧ l.length ≤ 60) : PInv l l.length ↔ Parts l := by
  constructor
  · rintro ⟨h1, h2, h3⟩
    refine ⟨hl, fun p hp => ?_, List.pairwise_iff_getElem.2 fun i j hi hj hij => ?_, fun p hp => ?_⟩
    · obtain ⟨i, hi, rfl⟩ := List.mem_iff_getElem.1 hp
      have := h1 i hi
      rwa [atQ_eq hi] at this
    · have := h2 j i hj hij
      rwa [atQ_eq hi, atQ_eq hj] at this
    · obtain ⟨i, hi, rfl⟩ := List.mem_iff_getElem.1 hp
      have := h3 i hi
      rwa [atQ_eq hi] at this
  · rintro ⟨_, h1, h2, h3⟩
    exact ⟨fun j hj => h1 _ (atQ_mem hj), fun j m hj hm => by
      rw [atQ_eq hj, atQ_eq (by omega)]
      exact List.pairwise_iff_getElem.1 h2 m j (by omega) hj hm, fun j hj => h3 _ (atQ_mem hj)⟩
end Sc

set_option maxRecDepth 100000 in
theorem run_mkSeen (w : World) : (Instr.makeMap 95 none).run Tryz.prog w = .ok (.map (some w.heap.size)) (w.alloc (.map #[] 0)) := by
  simp [Instr.makeMap, Result.andThen]
set_option maxRecDepth 100000 in
set_option maxHeartbeats 3200000 in
theorem sparts_is (l : List Sc.Pt) (f : Bool) (len cap : Nat) (A : Option Addr) (h : f = true ↔ Sc.Parts l) (hl : l.length = len) (hwf : Sc.Wf l) (w : World) (hG : Glob w) (hL : SlQ w A l) :
    Calls Tryz.prog 35 #[.slice A len cap] w fun e w' => e = .returned (.bool f) ∧ Below w.heap.size w w' := by
  have HF := Lib.hid h
  have HN := Lib.hid hl
  have HL := Lib.hid hL
  have HW := Lib.hid hwf
  have HG := Lib.hid hG
  by_cases h60 : 1 ≤ (len : Int) ∧ (len : Int) ≤ 60
  case neg =>
    obtain rfl : f = false := by cases f with
      | false => rfl
      | true => exact absurd (h.1 rfl).1 (by rw [hl]; omega)
    have H6 := Lib.hid (decide_eq_false h60)
    clear h hl hL hwf hG h60
    go_enter Tryz.func35, Tryz.ntmps35
    go_wp2_with fail
    refine (tbetween_is (len : Int) 1 60 false H6.out _).mono ?_; rintro e w1 ⟨rfl, hb⟩
    go_wp2_with fail
    go_ret
    exact ⟨rfl, hb⟩
  have H6 := Lib.hid (decide_eq_true h60)
  have hn6 : 1 ≤ len ∧ len ≤ 60 := by omega
  obtain ⟨hn1, hn2⟩ := hn6
  clear h hl hL hwf hG h60
  go_enter Tryz.func35, Tryz.ntmps35
  go_wp2_with fail
  refine (tbetween_is (len : Int) 1 60 true H6.out _).mono ?_; rintro e w1 ⟨rfl, hb⟩
  go_wp2_with fail
  refine (sowners_is l len cap A HN.out (by omega) HW.out _ (HL.out.below hb)).mono ?_; rintro e w2 ⟨rfl, hb2, D, hO, hD⟩
  have HD := Lib.hid hD
  have hX2 := hb.trans (hb2.mono hb.size)
  obtain ⟨mb, hmb⟩ : ∃ mb, w1.heap.size = mb := ⟨_, rfl⟩
  rw [hmb] at hO
  have hmo := World.ownsMap_made w2 Tryz.prog 3 rdV
  have HOm := Lib.hid (hO.alloc (.map #[] 0))
  have hlt := hO.lt
  have hXm := hX2.alloc hX2.size (.map #[] 0)
  simp only [hmb]
  obtain ⟨sb, hsb⟩ : ∃ sb, w2.heap.size = sb := ⟨_, rfl⟩
  have hsw : w.heap.size ≤ sb := by rw [← hsb]; exact hX2.size
  rw [hsb] at hmo hlt
  have hmm := run_mkSeen
  clear hb hb2 hD hO hX2 hmb
  go_wp2_with fail
  try simp only [hsb]
  clear hmm hsb
  go_loopw [18] (fun s18 wr => ∃ (k : Nat) (S : DataW Value), k ≤ len ∧ s18 = .int .i64 (k : Int) ∧ Hid (Sc.PInv l k) ∧ Hid (wr.ownsMap Tryz.prog 3 rdV mb len D) ∧ Hid (wr.ownsMap Tryz.prog 3 rdV sb k S) ∧ Hid (MapIs S (.bool false) (Sc.seenF l k)) ∧ Below w.heap.size w wr) (fun s18 _ => len - (intOf s18).toNat)
  case atStart => exact ⟨0, _, Nat.zero_le _, rfl, Lib.hid (Sc.PInv.start l), HOm, Lib.hid hmo, Lib.hid (MapIs.start _), hXm⟩
  case round =>
    clear hmo hXm HOm
    obtain ⟨k, S, hk, rfl, HP, HO, HS, HE, hX⟩ := hrel
    by_cases hlt2 : k < len
    · have hx : k < l.length := by rw [HN.out]; exact hlt2
      obtain ⟨bb, off, rfl, hbb, hc⟩ := HL.out (by rw [HN.out]; omega)
      obtain ⟨p, hp⟩ : ∃ p, atQ l k = p := ⟨_, rfl⟩
      have X := (hc k hx).below hX hbb
      obtain ⟨⟨pw1, pw2⟩, pw3, pw4⟩ := HW.out _ (atQ_mem hx)
      rw [hp] at X pw1 pw2 pw3 pw4
      have hwf1 : (Lit.int .i64 p.id).wf = true := Mt.wf_id pw1 pw2
      have hwf2 : (Lit.int .i64 p.f).wf = true := Mt.wf_id pw3 pw4
      have hkey : keyOf Tryz.prog 3 (.int .i64 p.id) = some (.int .i64 p.id) := keyOf_int_mk Tryz.underlying3 hwf1
      have hkey2 : keyOf Tryz.prog 3 (.int .i64 p.f) = some (.int .i64 p.f) := keyOf_int_mk Tryz.underlying3 hwf2
      obtain ⟨q, hq⟩ : ∃ q, (Sc.ownF l p.f).getD Sc.zeroPt = q := ⟨_, rfl⟩
      obtain ⟨ho, hho⟩ : ∃ ho, (Sc.ownF l p.f).isSome = ho := ⟨_, rfl⟩
      have HAT : Hid (D.atKey (.int .i64 p.f) (.held (.agg #[.int .i64 0, .int .i64 0, .int .i64 0, .int .i64 0, .int .i64 0, .int .i64 0, .int .i64 0, .int .i64 0, .int .i64 0, .int .i64 0, .int .i64 0, .int .i64 0, .int .i64 0])) = .held (.agg #[.int .i64 q.id, .int .i64 q.se, .int .i64 q.f, .int .i64 q.oc, .int .i64 q.de, .int .i64 q.ss, .int .i64 q.sm, .int .i64 q.ls, .int .i64 q.la, .int .i64 q.lo, .int .i64 q.hs, .int .i64 q.ha, .int .i64 q.ho])) := Lib.hid (by rw [(HD.out.2 p.f hwf2).2, Sc.mapF_val, hq]; rfl)
      have HHA : Hid (Maps.has D (.int .i64 p.f) = ho) := Lib.hid (by rw [(HD.out.2 p.f hwf2).1, Sc.mapF_has, hho])
      obtain ⟨c, hcv, hci⟩ := Sc.seenF_val l k p.id
      have HSA : Hid (S.atKey (.int .i64 p.id) (.held (.bool false)) = .held (.bool c)) := Lib.hid (by rw [(HE.out.2 p.id hwf1).2, hcv])
      have HST : Hid (MapIs (S.put (.int .i64 p.id) (.held (.bool true))) (.bool false) (Sc.seenF l (k + 1))) := Lib.hid (by
        have h := HE.out.put hwf1 (.bool true)
        have e : Sc.seenF l (k + 1) = fun x => if x = p.id then some (.bool true) else Sc.seenF l k x := by
          show (fun x => if x = (atQ l k).id then some (Value.bool true) else Sc.seenF l k x) = _
          rw [hp]
        rw [e]
        exact h)
      have HCI := Lib.hid hci
      have HHO := Lib.hid hho
      have HPE := Lib.hid hp
      have HXX := Lib.hid hx
      have hj1 : (k : Int) < (len : Int) := by omega
      have A0 := PtB.new wr p
      have hX2 := hX.alloc hX.size (.cells #[.int .i64 p.id, .int .i64 p.se, .int .i64 p.f, .int .i64 p.oc, .int .i64 p.de, .int .i64 p.ss, .int .i64 p.sm, .int .i64 p.ls, .int .i64 p.la, .int .i64 p.lo, .int .i64 p.hs, .int .i64 p.ha, .int .i64 p.ho] 49)
      have hX3 := hX2.alloc hX2.size (.cells #[.int .i64 q.id, .int .i64 q.se, .int .i64 q.f, .int .i64 q.oc, .int .i64 q.de, .int .i64 q.ss, .int .i64 q.sm, .int .i64 q.ls, .int .i64 q.la, .int .i64 q.lo, .int .i64 q.hs, .int .i64 q.ha, .int .i64 q.ho] 49)
      have HG3 := Lib.hid (HG.out.below hX3)
      have A3 := A0.alloc (.cells #[.int .i64 q.id, .int .i64 q.se, .int .i64 q.f, .int .i64 q.oc, .int .i64 q.de, .int .i64 q.ss, .int .i64 q.sm, .int .i64 q.ls, .int .i64 q.la, .int .i64 q.lo, .int .i64 q.hs, .int .i64 q.ha, .int .i64 q.ho] 49)
      have HO2 := Lib.hid (HO.out.alloc (.cells #[.int .i64 p.id, .int .i64 p.se, .int .i64 p.f, .int .i64 p.oc, .int .i64 p.de, .int .i64 p.ss, .int .i64 p.sm, .int .i64 p.ls, .int .i64 p.la, .int .i64 p.lo, .int .i64 p.hs, .int .i64 p.ha, .int .i64 p.ho] 49))
      have HO3 := Lib.hid (HO2.out.alloc (.cells #[.int .i64 q.id, .int .i64 q.se, .int .i64 q.f, .int .i64 q.oc, .int .i64 q.de, .int .i64 q.ss, .int .i64 q.sm, .int .i64 q.ls, .int .i64 q.la, .int .i64 q.lo, .int .i64 q.hs, .int .i64 q.ha, .int .i64 q.ho] 49))
      have HS3 := Lib.hid ((HS.out.alloc (.cells #[.int .i64 p.id, .int .i64 p.se, .int .i64 p.f, .int .i64 p.oc, .int .i64 p.de, .int .i64 p.ss, .int .i64 p.sm, .int .i64 p.ls, .int .i64 p.la, .int .i64 p.lo, .int .i64 p.hs, .int .i64 p.ha, .int .i64 p.ho] 49)).alloc (.cells #[.int .i64 q.id, .int .i64 q.se, .int .i64 q.f, .int .i64 q.oc, .int .i64 q.de, .int .i64 q.ss, .int .i64 q.sm, .int .i64 q.ls, .int .i64 q.la, .int .i64 q.lo, .int .i64 q.hs, .int .i64 q.ha, .int .i64 q.ho] 49))
      obtain ⟨c0, c1, c2, c3, c4, c5, c6, c7, c8, c9, c10, c11, c12⟩ := X
      rw [Nat.add_zero] at c0
      clear hx hc hp pw1 pw2 pw3 pw4 hwf1 hwf2 hq hho hcv hci A0 hX2
      cases c with
      | true =>
        obtain rfl : f = false := by cases f with
          | false => rfl
          | true =>
            obtain ⟨m, hm, e⟩ := HCI.out.1 rfl
            have h := (Sc.PInv.all (HF.out.1 rfl).1).2 (HF.out.1 rfl)
            exact absurd (by rw [HPE.out]; exact e) (h.2.1 k m HXX.out hm)
        go_wp2_with (first | (at_lookup; refine look_v_ok _ rfl _ _ 93 rfl 3 49 mapK Tryz.underlying93 (.agg #[.int .i64 0, .int .i64 0, .int .i64 0, .int .i64 0, .int .i64 0, .int .i64 0, .int .i64 0, .int .i64 0, .int .i64 0, .int .i64 0, .int .i64 0, .int .i64 0, .int .i64 0]) (Tryz.zeroValue49 _) mb len D rfl HO2.out _ _ rfl hkey2 (.agg #[.int .i64 q.id, .int .i64 q.se, .int .i64 q.f, .int .i64 q.oc, .int .i64 q.de, .int .i64 q.ss, .int .i64 q.sm, .int .i64 q.ls, .int .i64 q.la, .int .i64 q.lo, .int .i64 q.hs, .int .i64 q.ha, .int .i64 q.ho]) HAT.out _ HHA.out ?_) | (at_lookup; refine look_v _ rfl _ _ 95 rfl 3 4 mapK Tryz.underlying95 (.bool false) (Tryz.zeroValue4 _) sb k S rfl HS3.out _ _ rfl hkey _ HSA.out ?_) | fail)
        go_ret
        exact ⟨rfl, hX3⟩
      | false =>
        have HNEW : Hid (∀ m, m < k → (atQ l m).id ≠ (atQ l k).id) := Lib.hid (fun m hm e => by
          have h := HCI.out.2 ⟨m, hm, by rw [← HPE.out]; exact e⟩
          cases h)
        by_cases hok : Sc.okP p
        case neg =>
          obtain rfl : f = false := by cases f with
            | false => rfl
            | true => exact absurd ((HF.out.1 rfl).2.1 _ (atQ_mem HXX.out)) (by rw [HPE.out]; exact hok)
          have HK := Lib.hid hok
          clear hok
          go_wp2_with (first | (at_lookup; refine look_v_ok _ rfl _ _ 93 rfl 3 49 mapK Tryz.underlying93 (.agg #[.int .i64 0, .int .i64 0, .int .i64 0, .int .i64 0, .int .i64 0, .int .i64 0, .int .i64 0, .int .i64 0, .int .i64 0, .int .i64 0, .int .i64 0, .int .i64 0, .int .i64 0]) (Tryz.zeroValue49 _) mb len D rfl HO2.out _ _ rfl hkey2 (.agg #[.int .i64 q.id, .int .i64 q.se, .int .i64 q.f, .int .i64 q.oc, .int .i64 q.de, .int .i64 q.ss, .int .i64 q.sm, .int .i64 q.ls, .int .i64 q.la, .int .i64 q.lo, .int .i64 q.hs, .int .i64 q.ha, .int .i64 q.ho]) HAT.out _ HHA.out ?_) | (at_lookup; refine look_v _ rfl _ _ 95 rfl 3 4 mapK Tryz.underlying95 (.bool false) (Tryz.zeroValue4 _) sb k S rfl HS3.out _ _ rfl hkey _ HSA.out ?_) | (go_at_call 65; refine (spart_is p false ⟨(fun h => by cases h), fun h => absurd h HK.out⟩ _ HG3.out).mono ?_; rintro e w5 ⟨rfl, hb5⟩) | fail)
          go_ret
          exact ⟨rfl, hX3.trans (hb5.mono hX3.size)⟩
        case pos =>
          have HK := Lib.hid hok
          clear hok
          have HSTEP : Hid ((p.f ≠ 0 → ho = true) → Sc.PInv l (k + 1)) := Lib.hid (fun h => HP.out.step (by rw [HPE.out]; exact HK.out) HNEW.out (by rw [HPE.out, HHO.out]; exact h))
          have HBAD : Hid (¬ (p.f ≠ 0 → ho = true) → f = false) := Lib.hid (fun h => by
            cases f with
            | false => rfl
            | true =>
              refine absurd (fun hf => ?_) h
              have h2 := (HF.out.1 rfl).2.2.2 _ (atQ_mem HXX.out)
              rw [HPE.out, HHO.out] at h2
              exact h2 hf)
          by_cases hf0 : p.f = 0
          · have bf : (p.f != 0) = false := by simpa using hf0
            have HSN := Lib.hid (HSTEP.out (fun h => absurd hf0 h))
            clear hf0
            go_wp2_with (first | (at_lookup; refine look_v_ok _ rfl _ _ 93 rfl 3 49 mapK Tryz.underlying93 (.agg #[.int .i64 0, .int .i64 0, .int .i64 0, .int .i64 0, .int .i64 0, .int .i64 0, .int .i64 0, .int .i64 0, .int .i64 0, .int .i64 0, .int .i64 0, .int .i64 0, .int .i64 0]) (Tryz.zeroValue49 _) mb len D rfl HO2.out _ _ rfl hkey2 (.agg #[.int .i64 q.id, .int .i64 q.se, .int .i64 q.f, .int .i64 q.oc, .int .i64 q.de, .int .i64 q.ss, .int .i64 q.sm, .int .i64 q.ls, .int .i64 q.la, .int .i64 q.lo, .int .i64 q.hs, .int .i64 q.ha, .int .i64 q.ho]) HAT.out _ HHA.out ?_) | (at_lookup; refine look_v _ rfl _ _ 95 rfl 3 4 mapK Tryz.underlying95 (.bool false) (Tryz.zeroValue4 _) sb k S rfl HS3.out _ _ rfl hkey _ HSA.out ?_) | (go_at_call 65; go_loud (refine (spart_is p true ⟨fun _ => HK.out, fun _ => rfl⟩ _ HG3.out).mono ?_; rintro e w5 ⟨rfl, hb5⟩; have hX5 := hX3.trans (hb5.mono hX3.size); have A5 := A3.below hb5; have HO5 := Lib.hid (HO3.out.kept (below_grown' hb5) (by simp)); have HS5 := Lib.hid (HS3.out.kept (below_grown' hb5) (by simp)); have e0 := A5.c0; have e2 := A5.c2; clear hb5 A5)) | (at_mapUpdate; go_loud (refine wpList_mapUpdate_own _ rfl _ _ _ 95 rfl 3 4 mapK Tryz.underlying95 rdV sb k S rfl HS5.out (by unfold maxLen; omega) _ (.bool true) _ rfl rfl hkey _ [] rfl ?_; intro w6 hown6 hg6)) | fail)
            have HO6 := Lib.hid (HO5.out.kept hg6 (by simp; omega))
            have HS6 := Lib.hid hown6
            have hX6 := hX5.grown hg6 hX5.size (by intro j hj; cases hj; exact hsw)
            clear hown6 hg6
            go_roundw
            case rel => exact ⟨k + 1, _, by omega, by simp, HSN, HO6, HS6, HST, hX6⟩
            case measure => simp [intOf]; omega
          · have bf : (p.f != 0) = true := by simpa using hf0
            cases ho with
            | true =>
              have HSN := Lib.hid (HSTEP.out (fun _ => rfl))
              clear hf0
              go_wp2_with (first | (at_lookup; refine look_v_ok _ rfl _ _ 93 rfl 3 49 mapK Tryz.underlying93 (.agg #[.int .i64 0, .int .i64 0, .int .i64 0, .int .i64 0, .int .i64 0, .int .i64 0, .int .i64 0, .int .i64 0, .int .i64 0, .int .i64 0, .int .i64 0, .int .i64 0, .int .i64 0]) (Tryz.zeroValue49 _) mb len D rfl HO2.out _ _ rfl hkey2 (.agg #[.int .i64 q.id, .int .i64 q.se, .int .i64 q.f, .int .i64 q.oc, .int .i64 q.de, .int .i64 q.ss, .int .i64 q.sm, .int .i64 q.ls, .int .i64 q.la, .int .i64 q.lo, .int .i64 q.hs, .int .i64 q.ha, .int .i64 q.ho]) HAT.out _ HHA.out ?_) | (at_lookup; refine look_v _ rfl _ _ 95 rfl 3 4 mapK Tryz.underlying95 (.bool false) (Tryz.zeroValue4 _) sb k S rfl HS3.out _ _ rfl hkey _ HSA.out ?_) | (go_at_call 65; go_loud (refine (spart_is p true ⟨fun _ => HK.out, fun _ => rfl⟩ _ HG3.out).mono ?_; rintro e w5 ⟨rfl, hb5⟩; have hX5 := hX3.trans (hb5.mono hX3.size); have A5 := A3.below hb5; have HO5 := Lib.hid (HO3.out.kept (below_grown' hb5) (by simp)); have HS5 := Lib.hid (HS3.out.kept (below_grown' hb5) (by simp)); have e0 := A5.c0; have e2 := A5.c2; clear hb5 A5)) | (at_mapUpdate; go_loud (refine wpList_mapUpdate_own _ rfl _ _ _ 95 rfl 3 4 mapK Tryz.underlying95 rdV sb k S rfl HS5.out (by unfold maxLen; omega) _ (.bool true) _ rfl rfl hkey _ [] rfl ?_; intro w6 hown6 hg6)) | fail)
              have HO6 := Lib.hid (HO5.out.kept hg6 (by simp; omega))
              have HS6 := Lib.hid hown6
              have hX6 := hX5.grown hg6 hX5.size (by intro j hj; cases hj; exact hsw)
              clear hown6 hg6
              go_roundw
              case rel => exact ⟨k + 1, _, by omega, by simp, HSN, HO6, HS6, HST, hX6⟩
              case measure => simp [intOf]; omega
            | false =>
              obtain rfl : f = false := HBAD.out (fun h => by have := h hf0; cases this)
              clear hf0
              go_wp2_with (first | (at_lookup; refine look_v_ok _ rfl _ _ 93 rfl 3 49 mapK Tryz.underlying93 (.agg #[.int .i64 0, .int .i64 0, .int .i64 0, .int .i64 0, .int .i64 0, .int .i64 0, .int .i64 0, .int .i64 0, .int .i64 0, .int .i64 0, .int .i64 0, .int .i64 0, .int .i64 0]) (Tryz.zeroValue49 _) mb len D rfl HO2.out _ _ rfl hkey2 (.agg #[.int .i64 q.id, .int .i64 q.se, .int .i64 q.f, .int .i64 q.oc, .int .i64 q.de, .int .i64 q.ss, .int .i64 q.sm, .int .i64 q.ls, .int .i64 q.la, .int .i64 q.lo, .int .i64 q.hs, .int .i64 q.ha, .int .i64 q.ho]) HAT.out _ HHA.out ?_) | (at_lookup; refine look_v _ rfl _ _ 95 rfl 3 4 mapK Tryz.underlying95 (.bool false) (Tryz.zeroValue4 _) sb k S rfl HS3.out _ _ rfl hkey _ HSA.out ?_) | (go_at_call 65; go_loud (refine (spart_is p true ⟨fun _ => HK.out, fun _ => rfl⟩ _ HG3.out).mono ?_; rintro e w5 ⟨rfl, hb5⟩; have hX5 := hX3.trans (hb5.mono hX3.size); have A5 := A3.below hb5; have HO5 := Lib.hid (HO3.out.kept (below_grown' hb5) (by simp)); have HS5 := Lib.hid (HS3.out.kept (below_grown' hb5) (by simp)); have e0 := A5.c0; have e2 := A5.c2; clear hb5 A5)) | fail)
              go_ret
              exact ⟨rfl, hX5⟩
    · obtain rfl : k = len := by omega
      obtain rfl : f = true := HF.out.2 ((Sc.PInv.all (by rw [HN.out]; exact ⟨hn1, hn2⟩)).1 (by rw [HN.out]; exact HP.out))
      go_wp2_with fail
      go_ret
      exact ⟨rfl, hX⟩
end Go.Proofs.YtbbjifhelbeniaaGreatDoor

/- The walk of the reference's Parts. -/
namespace Go.Proofs.YtbbjifhelbeniaaGreatDoor
open Go.RowKit

namespace Sc
/-- The first k of them are right, as the reference asks. -/
def RInv (l : List Pt) (k : Nat) : Prop := ∀ i, i < k → okP (atQ l i) ∧ pix l (atQ l i).id = i ∧ ((atQ l i).f ≠ 0 → 0 ≤ pix l (atQ l i).f ∧ (atQ l (pix l (atQ l i).f).toNat).f = 0)
theorem RInv.step {l : List Pt} {k : Nat} (h : RInv l k) (h1 : okP (atQ l k)) (h2 : pix l (atQ l k).id = k) (h3 : (atQ l k).f ≠ 0 → 0 ≤ pix l (atQ l k).f ∧ (atQ l (pix l (atQ l k).f).toNat).f = 0) : RInv l (k + 1) := fun i hi => by
  rcases Nat.lt_or_ge i k with a | a
  · exact h i a
  · rw [show i = k by omega]; exact ⟨h1, h2, h3⟩
end Sc
set_option maxRecDepth 100000 in
set_option maxHeartbeats 3200000 in
theorem rparts_is (l : List Sc.Pt) (f : Bool) (len cap : Nat) (A : Option Addr) (h : f = true ↔ Sc.Parts l) (hl : l.length = len) (w : World) (hL : SlQ w A l) :
    Calls Tryz.prog 39 #[.slice A len cap] w fun e w' => e = .returned (.bool f) ∧ Below w.heap.size w w' := by
  rw [← Sc.partsR_iff] at h
  have HF := Lib.hid h
  have HN := Lib.hid hl
  have HL := Lib.hid hL
  by_cases h1 : (len : Int) < 1
  case pos =>
    obtain rfl : f = false := by cases f with
      | false => rfl
      | true => exact absurd (h.1 rfl).1 (by rw [hl]; omega)
    clear h hl hL
    go_enter Tryz.func39, Tryz.ntmps39
    go_wp2_with fail
    go_ret
    exact ⟨rfl, Below.refl _ _⟩
  by_cases h2 : (60 : Int) < (len : Int)
  case pos =>
    obtain rfl : f = false := by cases f with
      | false => rfl
      | true => exact absurd (h.1 rfl).1 (by rw [hl]; omega)
    clear h hl hL
    go_enter Tryz.func39, Tryz.ntmps39
    go_wp2_with fail
    go_ret
    exact ⟨rfl, Below.refl _ _⟩
  have hn1 : 1 ≤ len ∧ len ≤ 60 := by omega
  have HN1 := Lib.hid hn1
  clear h hl hL hn1
  go_enter Tryz.func39, Tryz.ntmps39
  go_wp2_with fail
  go_loopw [3] (fun s3 wr => ∃ (k : Nat), k ≤ len ∧ s3 = .int .i64 (k : Int) ∧ Hid (Sc.RInv l k) ∧ Below w.heap.size w wr) (fun s3 _ => len - (intOf s3).toNat)
  case atStart => exact ⟨0, Nat.zero_le _, rfl, Lib.hid (fun i hi => by omega), Below.refl _ _⟩
  case round =>
    obtain ⟨k, hk, rfl, HP, hX⟩ := hrel
    by_cases hlt : k < len
    · have hx : k < l.length := by rw [HN.out]; exact hlt
      obtain ⟨bb, off, rfl, hbb, hc⟩ := HL.out (by rw [HN.out]; omega)
      have HC := Lib.hid hc
      obtain ⟨p, hp⟩ : ∃ p, atQ l k = p := ⟨_, rfl⟩
      have X := (hc k hx).below hX hbb
      rw [hp] at X
      have HPE := Lib.hid hp
      have HXX := Lib.hid hx
      have HX0 := Lib.hid X
      have hj1 : (k : Int) < (len : Int) := by omega
      have hbr : bb < wr.heap.size := Nat.lt_of_lt_of_le hbb hX.size
      have HBR := Lib.hid hbr
      obtain ⟨r1, hr1⟩ : ∃ r, Sc.pix l p.id = r := ⟨_, rfl⟩
      obtain ⟨r2, hr2⟩ : ∃ r, Sc.pix l p.f = r := ⟨_, rfl⟩
      have hb2 := Sc.pix_lt l p.f
      rw [hr2] at hb2
      have HR1 := Lib.hid hr1; have HR2 := Lib.hid hr2; have HB2 := Lib.hid hb2
      obtain ⟨c0, c1, c2, c3, c4, c5, c6, c7, c8, c9, c10, c11, c12⟩ := X
      rw [Nat.add_zero] at c0
      clear hx hc hp hr1 hr2 hb2 hbr
      by_cases hok : Sc.okP p
      case neg =>
        obtain rfl : f = false := by cases f with
          | false => rfl
          | true => exact absurd ((HF.out.1 rfl).2 k HXX.out).1 (by rw [HPE.out]; exact hok)
        have HK := Lib.hid hok
        clear hok
        go_wp2_with fail
        refine (rpart1_is p false ⟨(fun h => by cases h), fun h => absurd h HK.out⟩ _).mono ?_; rintro e w5 ⟨rfl, hb5⟩
        have hX5 := hX.trans (hb5.mono hX.size)
        clear hb5 c0 c1 c2 c3 c4 c5 c6 c7 c8 c9 c10 c11 c12
        go_wp2_with fail
        go_ret
        exact ⟨rfl, hX5⟩
      case pos =>
        have HK := Lib.hid hok
        clear hok
        go_wp2_with fail
        refine (rpart1_is p true ⟨fun _ => HK.out, fun _ => rfl⟩ _).mono ?_; rintro e w5 ⟨rfl, hb5⟩
        have hX5 := hX.trans (hb5.mono hX.size)
        have Y := HX0.out.below hb5 HBR.out
        have d0 := Y.c0
        rw [Nat.add_zero] at d0
        have HBR5 := Lib.hid (Nat.lt_of_lt_of_le HBR.out hb5.size)
        have HY := Lib.hid Y
        clear hb5 c0 c1 c2 c3 c4 c5 c6 c7 c8 c9 c10 c11 c12 Y
        by_cases hr : r1 = k
        case neg =>
          obtain rfl : f = false := by cases f with
            | false => rfl
            | true =>
              have h := ((HF.out.1 rfl).2 k HXX.out).2.1
              rw [HPE.out, HR1.out] at h
              exact absurd h hr
          have hrb : (r1 != (k : Int)) = true := by simpa using hr
          go_wp2_with fail
          refine (rpartat_is l p.id r1 len cap _ HR1.out HN.out (by omega) _ (HL.out.below hX5)).mono ?_; rintro e w6 ⟨rfl, hb6⟩
          have hX6 := hX5.trans (hb6.mono hX5.size)
          clear hb6 d0
          go_wp2_with fail
          go_ret
          exact ⟨rfl, hX6⟩
        case pos =>
          subst hr
          go_wp2_with fail
          refine (rpartat_is l p.id k len cap _ HR1.out HN.out (by omega) _ (HL.out.below hX5)).mono ?_; rintro e w6 ⟨rfl, hb6⟩
          have hX6 := hX5.trans (hb6.mono hX5.size)
          have Y := HY.out.below hb6 HBR5.out
          have d2 := Y.c2
          clear hb6 d0 Y
          by_cases hf0 : p.f = 0
          · have HSN : Hid (Sc.RInv l (k + 1)) := Lib.hid (HP.out.step (by rw [HPE.out]; exact HK.out) (by rw [HPE.out]; exact HR1.out) (by rw [HPE.out]; exact fun h => absurd hf0 h))
            have bf : (p.f == 0) = true := by simpa using hf0
            clear hf0
            go_wp2_with fail
            go_roundw
            case rel => exact ⟨k + 1, by omega, by simp, HSN, hX6⟩
            case measure => simp [intOf]; omega
          · have bf : (p.f == 0) = false := by simpa using hf0
            have HF0 := Lib.hid hf0
            clear hf0
            go_wp2_with fail
            refine (rpartat_is l p.f r2 len cap _ HR2.out HN.out (by omega) _ (HL.out.below hX6)).mono ?_; rintro e w7 ⟨rfl, hb7⟩
            have hX7 := hX6.trans (hb7.mono hX6.size)
            clear hb7 d2
            by_cases hn : r2 < 0
            · obtain rfl : f = false := by cases f with
                | false => rfl
                | true =>
                  have h := ((HF.out.1 rfl).2 k HXX.out).2.2 (by rw [HPE.out]; exact HF0.out)
                  rw [HPE.out, HR2.out] at h
                  omega
              go_wp2_with fail
              go_ret
              exact ⟨rfl, hX7⟩
            · obtain ⟨q, rfl⟩ : ∃ q : Nat, r2 = q := ⟨r2.toNat, by omega⟩
              have hqb : q < l.length := by have := HB2.out; omega
              have e2 := ((HC.out q hqb).below hX7 hbb).c2
              obtain ⟨z, hz⟩ : ∃ z, (atQ l q).f = z := ⟨_, rfl⟩
              rw [hz] at e2
              have HZ := Lib.hid hz
              have hq1 : (q : Int) < (len : Int) := by have := HN.out; omega
              clear hqb hz
              by_cases hz0 : z = 0
              · have HSN : Hid (Sc.RInv l (k + 1)) := Lib.hid (HP.out.step (by rw [HPE.out]; exact HK.out) (by rw [HPE.out]; exact HR1.out) (by
                  rw [HPE.out, HR2.out, Int.toNat_natCast, HZ.out]
                  exact fun _ => ⟨by omega, hz0⟩))
                have bz : (z != 0) = false := by simpa using hz0
                clear hz0
                go_wp2_with fail
                go_roundw
                case rel => exact ⟨k + 1, by omega, by simp, HSN, hX7⟩
                case measure => simp [intOf]; omega
              · obtain rfl : f = false := by cases f with
                  | false => rfl
                  | true =>
                    have h := ((HF.out.1 rfl).2 k HXX.out).2.2 (by rw [HPE.out]; exact HF0.out)
                    rw [HPE.out, HR2.out, Int.toNat_natCast, HZ.out] at h
                    exact absurd h.2 hz0
                have bz : (z != 0) = true := by simpa using hz0
                clear hz0
                go_wp2_with fail
                go_ret
                exact ⟨rfl, hX7⟩
    · obtain rfl : k = len := by omega
      obtain rfl : f = true := HF.out.2 ⟨by rw [HN.out]; exact HN1.out, by rw [HN.out]; exact HP.out⟩
      go_wp2_with fail
      go_ret
      exact ⟨rfl, hX⟩
end Go.Proofs.YtbbjifhelbeniaaGreatDoor
