/- The walks of the landed codec: number, appendNumber, appendList, Put. -/
import Derived.Test.YtnnhpbkhfaaaeaaCp
namespace Go.Proofs.Ytnnhpbkhfaaaeaa
open Go.RowKit

theorem own_cap {w : World} {base : Nat} {e : TypeId} {A : Option Addr} {n c m : Nat} {xs : List Value} (h : w.ownsRow base e 1 (.slice A n c) m xs) : m ≤ c := by
  rcases h.2 with ⟨hv, hm⟩ | ⟨b, cap, cur, hv, _, _, hle, _⟩
  · omega
  · cases hv; exact hle
theorem or128_all : ∀ x : Fin 256, bits .or .u8 ((x.val : Nat) : Int) 128 = ((x.val % 128 + 128 : Nat) : Int) := by decide +kernel
theorem or128 (q : Int) : bits .or .u8 (q % 256) 128 = q % 128 + 128 := by
  have h1 : (q % 256).toNat < 256 := by omega
  have := or128_all ⟨(q % 256).toNat, h1⟩
  dsimp only at this
  rw [show (((q % 256).toNat : Nat) : Int) = q % 256 by omega] at this
  rw [this]
  omega

theorem number_is (n : Int) (u : Nat) (h : Cd.zz n = u) (hw : Cd.wd n) (w : World) :
    Calls Try.prog 35 #[.int .i64 n] w fun e w' => e = .returned (.int .u64 (u : Int)) ∧ w = w' := by
  have hz := Cd.zz_lt hw
  rw [h] at hz
  obtain ⟨w0, w1⟩ := hw
  by_cases hn : n < 0
  · have hU : (u : Int) = 2 * -(n + 1) + 1 := by rw [← h]; unfold Cd.zz; rw [if_pos hn]; omega
    rw [hU]
    have hz2 : (2 * -(n + 1) + 1 : Int) < 18446744073709551616 := by omega
    clear h hU hz
    go_enter Try.func35, Try.ntmps35
    go_wp2_with fail
    go_ret
    exact ⟨rfl, rfl⟩
  · have hU : (u : Int) = 2 * n := by rw [← h]; unfold Cd.zz; rw [if_neg hn]; omega
    rw [hU]
    have hz2 : (2 * n : Int) < 18446744073709551616 := by omega
    clear h hU hz
    go_enter Try.func35, Try.ntmps35
    go_wp2_with fail
    go_ret
    exact ⟨rfl, rfl⟩

set_option maxHeartbeats 1600000 in
theorem appendNumber_is (u : Nat) (G T : List Nat) (M L : Nat) (base : Nat) (v : Value) (h : Cd.vb u = T) (hL : T.length = L) (hu : u < 18446744073709551616) (hM : M ≤ 1000000000) (w : World) (hown : w.ownsRow base 5 1 v M (vN .u8 G)) (hbase : base ≤ w.heap.size) :
    Calls Try.prog 34 #[v, .int .u64 (u : Int)] w fun e w' => ∃ v', e = .returned v' ∧ w'.ownsRow base 5 1 v' (M + L) (vN .u8 (G ++ T)) ∧ Below base w w' := by
  have hL10 : L ≤ 10 := by rw [← hL, ← h]; exact Cd.vb_len (k := 9) (Nat.lt_of_lt_of_le hu (by decide))
  have HT : Hid (Cd.vb u = T) := Lib.hid h
  have HL := Lib.hid hL
  have HW := Lib.hid hown
  have hq : ∃ q : Int, q = u := ⟨_, rfl⟩
  clear h hL hown
  obtain ⟨i0, hi, hz0, hz1, hz2⟩ := info_parts infoByte
  obtain ⟨q0, hq0⟩ := hq
  rw [← hq0]
  have hqa : 0 ≤ q0 := by omega
  have hqb : q0 < 18446744073709551616 := by omega
  obtain rfl : u = q0.toNat := by omega
  clear hq0 hu
  go_enter Try.func34, Try.ntmps34
  go_wp2_with fail
  go_loopw [0, 1] (fun s0 s1 wr => ∃ (q : Int) (bs : List Nat) (k : Nat), s1 = .int .u64 q ∧ 0 ≤ q ∧ q < 18446744073709551616 ∧ k + 1 ≤ L ∧ Hid (bs.length = k ∧ bs ++ Cd.vb q.toNat = T) ∧ wr.ownsRow base 5 1 s0 (M + k) (vN .u8 (G ++ bs)) ∧ Below base w wr) (fun _ s1 _ => (intOf s1).toNat)
  case atStart => exact ⟨q0, [], 0, rfl, hqa, hqb, (by have := HL.out; have := Cd.vb_pos q0.toNat; rw [HT.out] at this; omega), Lib.hid ⟨rfl, by rw [List.nil_append]; exact HT.out⟩, (by rw [List.append_nil]; exact HW.out), Below.refl _ _⟩
  case round =>
    obtain ⟨q, bs, k, rfl, q0, q1, hk, HB, hown, hG⟩ := hrel
    have hsz := hG.size
    by_cases hlt : q < 128
    · have e1 : q % 256 = q := by omega
      have HE : Hid (bs ++ [q.toNat] = T) := Lib.hid (by have := HB.out.2; rwa [Cd.vb_small (by omega)] at this)
      have HKL : k + 1 = L := by have := congrArg List.length HE.out; rw [List.length_append, HB.out.1, HL.out] at this; exact this
      have HQ : Hid ((q.toNat : Int) = q) := Lib.hid (by omega)
      have hge : ¬ 128 ≤ q := by omega
      go_wp2_with (first | (at_builtin; refine wpList_append_own _ rfl _ _ 23 rfl base 5 i0 (.int .u8 0) 1 1 Try.underlying23 hi hz0 hz1 hz2 rfl (by decide) _ _ _ rfl (hown.alloc _) ⟨wr.heap.size, 0, none⟩ 1 1 [.int .u8 q] rfl rfl (cell_one_new _ _ _) (fun u hu => by simp at hu; subst hu; rfl) (by unfold maxLen; omega) (by omega) (by simp; omega) ?_; intro v' w4 hown4 hgrow hnil) | fail)
      have hfin : w4.ownsRow base 5 1 v' (M + L) (vN .u8 (G ++ T)) := by
        rw [← HKL, ← HE.out, ← List.append_assoc, vN_app, show vN .u8 [q.toNat] = [.int .u8 q] by unfold vN; rw [List.map_cons, HQ.out]; rfl]
        exact hown4
      have hG2 := (hG.alloc (by omega) _).grown hgrow (by simp; omega) (own_ne hown)
      clear hown hown4 hgrow hnil HE HB
      go_ret
      exact ⟨v', rfl, hfin, hG2⟩
    · have HE : Hid ((bs ++ [q.toNat % 128 + 128]).length = k + 1 ∧ bs ++ [q.toNat % 128 + 128] ++ Cd.vb (q / 128).toNat = T) := Lib.hid ⟨by rw [List.length_append, HB.out.1]; rfl, by have := HB.out.2; rw [Cd.vb_more (by omega)] at this; rw [List.append_assoc, show (q / 128).toNat = q.toNat / 128 by omega]; exact this⟩
      have hk2 : k + 1 + 1 ≤ L := by
        have := congrArg List.length HE.out.2
        have h2 := Cd.vb_pos (q / 128).toNat
        rw [List.length_append, HE.out.1, HL.out] at this
        omega
      have HV : Hid (vN .u8 (G ++ bs) ++ [.int .u8 (q % 128 + 128)] = vN .u8 (G ++ (bs ++ [q.toNat % 128 + 128]))) := Lib.hid (by rw [← List.append_assoc, show q % 128 + 128 = ((q.toNat % 128 + 128 : Nat) : Int) by omega]; exact (vN_app .u8 (G ++ bs) [q.toNat % 128 + 128]).symm)
      have hdec : (q / 128).toNat < q.toNat := by omega
      have hr0 : 0 ≤ q % 128 := by omega
      have hr1 : q % 128 < 128 := by omega
      have hv0 : 0 ≤ q / 128 := by omega
      have hv1 : q / 128 < 18446744073709551616 := by omega
      have hlt' : 128 ≤ q := by omega
      have hor := or128 q
      generalize q.toNat % 128 + 128 = z at *
      generalize hVV : q / 128 = V at *
      generalize hrr : q % 128 = r at *
      go_wp2_with (first | (at_builtin; refine wpList_append_own _ rfl _ _ 23 rfl base 5 i0 (.int .u8 0) 1 1 Try.underlying23 hi hz0 hz1 hz2 rfl (by decide) _ _ _ rfl (hown.alloc _) ⟨wr.heap.size, 0, none⟩ 1 1 [.int .u8 (r + 128)] rfl rfl (cell_one_new _ _ _) (fun u hu => by simp at hu; subst hu; rfl) (by unfold maxLen; omega) (by omega) (by simp; omega) ?_; intro v' w4 hown4 hgrow hnil) | fail)
      go_roundw
      case rel => exact ⟨V, bs ++ [z], k + 1, (by first | rfl | rw [hVV]), hv0, hv1, hk2, HE, (by rw [HV.out] at hown4; exact hown4), (hG.alloc (by omega) _).grown hgrow (by simp; omega) (own_ne hown)⟩
      case measure => simp only [intOf]; (first | omega | (rw [hVV]; omega))

set_option maxHeartbeats 1600000 in
theorem appendList_is (l : List Int) (G T : List Nat) (M N len cap : Nat) (A : Option Addr) (base : Nat) (v : Value) (h : Cd.put l = T) (hT : T.length = N) (hl : l.length = len) (h4 : len ≤ 4000) (hw : Cd.wds l) (hM : M ≤ 1000) (w : World) (hL : SlK .i64 w A l) (hlo : ∀ a, A = some a → 0 < len → a.block < base) (hown : w.ownsRow base 5 1 v M (vN .u8 G)) (hbase : base ≤ w.heap.size) :
    Calls Try.prog 23 #[v, .slice A len cap] w fun e w' => ∃ v', e = .returned v' ∧ w'.ownsRow base 5 1 v' (M + N) (vN .u8 (G ++ T)) ∧ Below base w w' := by
  have hlw : Cd.wd (len : Int) := by unfold Cd.wd; omega
  have HN := Lib.hid hl
  have HL := Lib.hid hL
  have HW := Lib.hid hw
  have HT : Hid (Cd.one (len : Int) ++ Cd.ones l = T) := Lib.hid (by rw [← hl]; exact h)
  have HTN := Lib.hid hT
  have HO := Lib.hid hown
  have HLO := Lib.hid hlo
  clear hl hL hw h hT hown hlo
  obtain ⟨Z, hZ⟩ : ∃ Z, Cd.zz (len : Int) = Z := ⟨_, rfl⟩
  have hZ64 := Cd.zz_lt hlw
  rw [hZ] at hZ64
  obtain ⟨B, hB⟩ : ∃ B, Cd.vb Z = B := ⟨_, rfl⟩
  obtain ⟨b, hb⟩ : ∃ b, B.length = b := ⟨_, rfl⟩
  have hb10 : b ≤ 10 := by rw [← hb, ← hB, ← hZ]; exact Cd.one_len hlw
  have HZ := Lib.hid hZ
  have HB := Lib.hid hB
  have Hb := Lib.hid hb
  have HT3 : Hid (B ++ Cd.ones l = T) := Lib.hid (by have := HT.out; unfold Cd.one at this; rwa [hZ, hB] at this)
  clear hZ hB hb HT
  have hM9 : M ≤ 1000000000 := by omega
  go_enter Try.func23, Try.ntmps23
  go_wp2_with (first | (go_at_call 35; refine (number_is (len : Int) Z HZ.out hlw _).mono ?_; rintro e w1 ⟨rfl, rfl⟩) | (go_at_call 34; refine (appendNumber_is Z G B M b base _ HB.out Hb.out hZ64 hM9 _ HO.out hbase).mono ?_; rintro e w1 ⟨v1, rfl, hown1, hb1⟩) | fail)
  go_loopw [0, 14] (fun s0 s14 wr => ∃ i m : Nat, i ≤ len ∧ m ≤ 10 + 10 * i ∧ s14 = .int .i64 i ∧ Hid ((B ++ Cd.ones (l.take i)).length = m) ∧ wr.ownsRow base 5 1 s0 (M + m) (vN .u8 (G ++ (B ++ Cd.ones (l.take i)))) ∧ Below base w wr) (fun _ s14 _ => len - (intOf s14).toNat)
  case atStart => exact ⟨0, b, by omega, by omega, rfl, Lib.hid (by simp [Cd.ones, Hb.out]), (by simpa [Cd.ones] using hown1), hb1⟩
  case round =>
    clear hown1 hb1
    obtain ⟨i, m, hi9, hm9, rfl, HM, hown, hG⟩ := hrel
    have hsz := hG.size
    by_cases hlt : i < len
    · have hil : i < l.length := by have := HN.out; omega
      obtain ⟨bb, off, rfl, hbb, hc⟩ := HL.out (by omega)
      have hlo := HLO.out _ rfl (by omega)
      have x0 := (hG.cell (p := ⟨bb, off + i, none⟩) hlo).trans (hc i hil)
      have hn := HW.out _ (List.getElem_mem hil)
      have hTx := Cd.ones_snoc hil
      rw [← atI_eq hil] at hn hTx
      clear hc hlo
      generalize atI l i = n at *
      obtain ⟨z, hz⟩ : ∃ z, Cd.zz n = z := ⟨_, rfl⟩
      have hz64 := Cd.zz_lt hn
      rw [hz] at hz64
      obtain ⟨U, hU⟩ : ∃ U, Cd.vb z = U := ⟨_, rfl⟩
      obtain ⟨u, hu⟩ : ∃ u, U.length = u := ⟨_, rfl⟩
      have hu10 : u ≤ 10 := by rw [← hu, ← hU, ← hz]; exact Cd.one_len hn
      rw [show Cd.one n = U by unfold Cd.one; rw [hz, hU]] at hTx
      have HT2 : Hid (G ++ (B ++ Cd.ones (l.take i)) ++ U = G ++ (B ++ Cd.ones (l.take (i + 1)))) := Lib.hid (by rw [hTx, List.append_assoc, List.append_assoc])
      have HM2 : Hid ((B ++ Cd.ones (l.take (i + 1))).length = m + u) := Lib.hid (by
        have := HM.out
        rw [hTx]
        simp only [List.length_append] at this ⊢
        omega)
      have Hz := Lib.hid hz
      have HU := Lib.hid hU
      have Hu := Lib.hid hu
      have HNn := Lib.hid hn
      have hMm : M + m ≤ 1000000000 := by omega
      have hbw : base ≤ wr.heap.size := by omega
      clear hTx hU hu hn hz
      generalize B ++ Cd.ones (l.take i) = g at *
      go_wp2_with (first | (go_at_call 35; refine (number_is n z Hz.out HNn.out _).mono ?_; rintro e w2 ⟨rfl, rfl⟩) | (go_at_call 34; refine (appendNumber_is z (G ++ g) U (M + m) u base _ HU.out Hu.out hz64 hMm _ hown hbw).mono ?_; rintro e w4 ⟨v4, rfl, hown4, hb4⟩) | fail)
      go_roundw
      case rel => exact ⟨i + 1, m + u, by omega, by omega, by simp, HM2, (by rw [HT2.out, Nat.add_assoc] at hown4; exact hown4), hG.trans hb4⟩
      case measure => simp [intOf]; omega
    · obtain rfl : i = len := by omega
      have hTk : l.take i = l := List.take_of_length_le (by rw [HN.out]; omega)
      rw [hTk, HT3.out] at hown HM
      have hMN : m = N := HM.out.symm.trans HTN.out
      subst hMN
      clear HM hTk
      go_wp2_with fail
      go_ret
      exact ⟨_, rfl, hown, hG⟩

theorem put_limit (len cap : Nat) (A : Option Addr) (hl : 4000 < len) (w : World) :
    Calls Try.prog 10 #[.slice A len cap] w fun e w' => e = .returned (.tuple #[.slice none 0 0, .int .i64 2]) ∧ Below w.heap.size w w' := by
  have hl' : (4000 : Int) < (len : Int) := by omega
  go_enter Try.func10, Try.ntmps10
  go_wp2_with fail
  go_ret2
  exact ⟨rfl, Below.refl _ _⟩

set_option maxHeartbeats 800000 in
theorem put_is (l : List Int) (T : List Nat) (N len cap : Nat) (A : Option Addr) (h : Cd.put l = T) (hT : T.length = N) (hl : l.length = len) (h4 : len ≤ 4000) (hw : Cd.wds l) (w : World) (hL : SlK .i64 w A l) :
    Calls Try.prog 10 #[.slice A len cap] w fun e w' => ∃ D c, e = .returned (.tuple #[.slice D N c, .int .i64 0]) ∧ SlN .u8 w' D T ∧ (D = none → c = 0) ∧ N ≤ c ∧ Below w.heap.size w w' := by
  have hl' : ¬ (4000 : Int) < (len : Int) := by omega
  have HC := Lib.hid (appendList_is l [] T 0 N len cap A w.heap.size (.slice none 0 0) h hT hl h4 hw (by omega) w hL (fun a ha h0 => by
    obtain ⟨b, off, e, hb, _⟩ := hL (by omega)
    rw [ha] at e
    cases e
    exact hb) (World.ownsRow_nil _ _ _ _) (Nat.le_refl _))
  clear hL hw h hT hl
  go_enter Try.func10, Try.ntmps10
  go_wp2_with (first | (go_at_call 23; refine HC.out.mono ?_; rintro e w1 ⟨v1, rfl, hown1, hb1⟩; rw [Nat.zero_add, List.nil_append] at hown1; obtain ⟨hlen, D, c, rfl, hsl, hD⟩ := own_b hown1; have hcap := own_cap hown1) | fail)
  go_ret2
  exact ⟨D, c, rfl, hsl, hD, hcap, hb1⟩
end Go.Proofs.Ytnnhpbkhfaaaeaa
