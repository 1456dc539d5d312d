/- The walk of the reference's Get. -/
import Derived.Test.YtnnhpbkhfaaaeaaCs
namespace Go.Proofs.Ytnnhpbkhfaaaeaa
open Go.RowKit

namespace Cd
def gfin (acc : List Int) (o : Option (List Int × List Nat)) : Option (List Int) := match o with
  | none => none
  | some (l, r) => if r = [] then some (acc ++ l) else none
theorem get_eq (b : List Nat) : get b = match rd b with
  | none => none
  | some (n, k) => if n < 0 ∨ 4000 < n then none else gfin [] (rdn n.toNat (b.drop k)) := by
  unfold get gfin
  cases rd b with
  | none => rfl
  | some p =>
    simp only [List.nil_append]
    split
    · rfl
    · cases rdn p.1.toNat (b.drop p.2) <;> rfl
theorem gfin_step (acc : List Int) (m : Nat) (B : List Nat) : gfin acc (rdn (m + 1) B) = match rd B with
  | none => none
  | some (v, k) => gfin (acc ++ [v]) (rdn m (B.drop k)) := by
  rw [rdn]
  cases rd B with
  | none => rfl
  | some p =>
    simp only
    cases rdn m (B.drop p.2) with
    | none => rfl
    | some q =>
      unfold gfin
      simp only [List.append_assoc, List.singleton_append]
theorem rdR_none {b : List Nat} (h : rd b = none) : rdR b = (0, 0) := by unfold rdR; rw [h]; rfl
theorem rdR_some {b : List Nat} {n : Int} {k : Nat} (h : rd b = some (n, k)) : rdR b = (n, k) := by unfold rdR; rw [h]; rfl
theorem rd_fits {b : List Nat} {n : Int} {k : Nat} (h : rd b = some (n, k)) (hb : by8 b) : 0 < k ∧ k ≤ b.length ∧ wd n := by
  obtain ⟨rest, rfl, rfl, hw⟩ := rd_some h hb
  exact ⟨one_pos n, by simp, hw⟩
end Cd

theorem SlN.drop {k : IntKind} {w : World} {A : Option Addr} {g : List Nat} (h : SlN k w A g) (j : Nat) : SlN k w (Option.map (fun x => x.add j) A) (g.drop j) := fun h0 => by
  rw [List.length_drop] at h0
  obtain ⟨b, off, rfl, hb, hc⟩ := h (by omega)
  refine ⟨b, off + j, by rw [Option.map_some, addr_off], hb, fun i hi => ?_⟩
  rw [List.length_drop] at hi
  rw [Nat.add_assoc, hc (j + i) (by omega)]
  unfold atN
  rw [List.getElem?_drop]
/-- The block in which these lie is of this type. -/
def TyK (e : TypeId) (w : World) (A : Option Addr) : Prop := ∀ a, A = some a → ∃ cur, w.heap[a.block]? = some (.cells cur e (0, 0))
theorem own_ty {w : World} {base : Nat} {e : TypeId} {A : Option Addr} {n c m : Nat} {xs : List Value} (h : w.ownsRow base e 1 (.slice A n c) m xs) : TyK e w A := fun a ha => by
  rcases h.2 with ⟨hv, _⟩ | ⟨b, cap, cur, hv, _, hg, _⟩
  · cases hv; cases ha
  · cases hv; cases ha; exact ⟨cur, hg⟩
theorem TyK.below {e : TypeId} {w w' : World} {A : Option Addr} (h : TyK e w A) (hb : Below w.heap.size w w') : TyK e w' A := fun a ha => by
  obtain ⟨cur, hc⟩ := h a ha
  exact ⟨cur, (hb.block _ (Array.getElem?_eq_some_iff.1 hc).1).trans hc⟩
def GetP (O : Option (List Int)) (e : Ending) (w' : World) : Prop := match O with
  | none => e = .returned (.tuple #[.slice none 0 0, .int .i64 7])
  | some l => ∃ D c, e = .returned (.tuple #[.slice D l.length c, .int .i64 0]) ∧ SlK .i64 w' D l ∧ (D = none → c = 0) ∧ TyK 3 w' D
theorem infoInt : (Try.prog.info? 3).map (fun i => (i.zero, i.size, i.bytes)) = some (some (.int .i64 0), 1, 8) := by kernel_rfl

set_option maxHeartbeats 1000000 in
theorem kget_is (b : List Nat) (O : Option (List Int)) (len cap : Nat) (A : Option Addr) (h : Cd.get b = O) (hl : b.length = len) (hcap : len ≤ cap) (hb : Cd.by8 b) (hmax : len ≤ 1000000000) (w : World) (hL : SlN .u8 w A b) :
    Calls Try.prog 16 #[.slice A len cap] w fun e w' => GetP O e w' ∧ Below w.heap.size w w' := by
  have HN := Lib.hid hl
  have HL := Lib.hid hL
  have HB := Lib.hid hb
  rw [Cd.get_eq] at h
  clear hl hL hb
  obtain ⟨i0, hi, hz0, hz1, hz2⟩ := info_parts infoInt
  cases hr : Cd.rd b with
  | none =>
    rw [hr] at h
    have HO := Lib.hid h.symm
    have HR := Lib.hid (Cd.rdR_none hr)
    clear h hr
    go_enter Try.func16, Try.ntmps16
    go_wp2_with (first | (go_at_call 31; refine (kread_is b 0 0 len cap A HR.out HN.out HB.out (by omega) _ HL.out).mono ?_; rintro e w1 ⟨rfl, hb1⟩) | fail)
    go_ret2
    exact ⟨by rw [HO.out]; rfl, hb1⟩
  | some p =>
    obtain ⟨n, k⟩ := p
    rw [hr] at h
    have HR := Lib.hid (Cd.rdR_some hr)
    obtain ⟨k0, k1, wn⟩ := Cd.rd_fits hr HB.out
    obtain ⟨n0, n1⟩ := wn
    rw [HN.out] at k1
    have kz : ((k : Int) == 0) = false := by simp; omega
    clear hr
    by_cases hbad : n < 0 ∨ 4000 < n
    · have HO : Hid (none = O) := Lib.hid (by simpa only [if_pos hbad] using h)
      clear h
      go_enter Try.func16, Try.ntmps16
      have hb3 : (n < 0) ∨ (¬ n < 0 ∧ 4000 < n) := by omega
      rcases hb3 with hb3 | ⟨hb3, hb4⟩
      all_goals
        clear hbad
        go_wp2_with (first | (go_at_call 31; refine (kread_is b n k len cap A HR.out HN.out HB.out (by omega) _ HL.out).mono ?_; rintro e w1 ⟨rfl, hb1⟩) | fail)
        go_ret2
        exact ⟨by rw [← HO.out]; rfl, hb1⟩
    · have HO : Hid (Cd.gfin [] (Cd.rdn n.toNat (b.drop k)) = O) := Lib.hid (by simpa only [if_neg hbad] using h)
      obtain ⟨N, rfl⟩ := Int.eq_ofNat_of_zero_le (show 0 ≤ n by omega)
      have hN4 : N ≤ 4000 := by omega
      have g0 : ¬ (N : Int) < 0 := by omega
      have g1 : ¬ (4000 : Int) < (N : Int) := by omega
      rw [Int.toNat_natCast] at HO
      clear h hbad n0 n1
      go_enter Try.func16, Try.ntmps16
      go_wp2_with (first | (go_at_call 31; refine (kread_is b (N : Int) k len cap A HR.out HN.out HB.out (by omega) _ HL.out).mono ?_; rintro e w1 ⟨rfl, hb1⟩) | fail)
      go_loopw [5, 6, 7] (fun s5 s6 s7 wr => ∃ (i at_ : Nat) (acc : List Int), i ≤ N ∧ at_ ≤ len ∧ s5 = .int .i64 (at_ : Int) ∧ s7 = .int .i64 (i : Int) ∧ wr.ownsRow w.heap.size 3 1 s6 i (vK .i64 acc) ∧ Hid (Cd.gfin acc (Cd.rdn (N - i) (b.drop at_)) = O) ∧ Below w.heap.size w wr) (fun _ _ s7 _ => N - (intOf s7).toNat)
      case atStart => exact ⟨0, k, [], by omega, k1, rfl, rfl, World.ownsRow_nil _ _ _ _, HO, hb1⟩
      case round =>
        clear hb1
        obtain ⟨i, at_, acc, hi9, hat, rfl, rfl, hown, HE, hG⟩ := hrel
        by_cases hlt : i < N
        · have hstep := Cd.gfin_step acc (N - i - 1) (b.drop at_)
          rw [show N - i - 1 + 1 = N - i by omega, HE.out] at hstep
          have HND : Hid ((b.drop at_).length = len - at_) := Lib.hid (by rw [List.length_drop, HN.out])
          have HBD : Hid (∀ x ∈ b.drop at_, x < 256) := Lib.hid (HB.out.drop at_)
          have hLw := HL.out.below hG
          have HS1 := Lib.hid (hLw.drop at_)
          have HS2 : Hid (cap = at_ → SlN .u8 wr A (b.drop at_)) := Lib.hid (fun hc => by
            rw [List.drop_eq_nil_of_le (by rw [HN.out]; omega)]
            exact SlN.nil _ _ _)
          clear hLw
          cases hr : Cd.rd (b.drop at_) with
          | none =>
            rw [hr] at hstep
            have HO2 := Lib.hid hstep
            have HR2 := Lib.hid (Cd.rdR_none hr)
            clear hstep hr HE HO
            have hm9 : len - at_ ≤ 1000000000000 := by omega
            by_cases hca : cap = at_
            · obtain rfl : at_ = len := by omega
              subst hca
              have HR3 : Hid (Cd.rdR [] = (0, 0)) := Lib.hid rfl
              go_wp2_with (first | (go_at_call 31; refine (kread_is [] 0 0 0 0 A HR3.out rfl (by simp) (by omega) _ (SlN.nil _ _ _)).mono ?_; rintro e w2 ⟨rfl, hb2⟩) | fail)
              go_ret2
              exact ⟨by rw [HO2.out]; rfl, hG.trans (hb2.mono hG.size)⟩
            · go_wp2_with (first | (go_at_call 31; with_reducible refine (kread_is (b.drop at_) 0 0 (len - at_) (cap - at_) (Option.map (fun x => x.add at_) A) HR2.out HND.out HBD.out hm9 _ HS1.out).mono ?_; rintro e w2 ⟨rfl, hb2⟩) | fail)
              go_ret2
              exact ⟨by rw [HO2.out]; rfl, hG.trans (hb2.mono hG.size)⟩
          | some p =>
            obtain ⟨v, z⟩ := p
            rw [hr] at hstep
            have HO2 : Hid (Cd.gfin (acc ++ [v]) (Cd.rdn (N - (i + 1)) (b.drop (at_ + z))) = O) := Lib.hid (by
              rw [show N - (i + 1) = N - i - 1 by omega, ← List.drop_drop]
              exact hstep.symm)
            have HR2 := Lib.hid (Cd.rdR_some hr)
            obtain ⟨z0, z1, _⟩ := Cd.rd_fits hr HBD.out
            rw [HND.out] at z1
            have zz0 : ((z : Int) == 0) = false := by simp; omega
            have HV : Hid (vK .i64 acc ++ [.int .i64 v] = vK .i64 (acc ++ [v])) := Lib.hid (by rw [vK_app]; rfl)
            clear hstep hr HE HO
            have hm9 : len - at_ ≤ 1000000000000 := by omega
            by_cases hca : cap = at_
            · exfalso
              omega
            · go_wp2_with (first | (go_at_call 31; with_reducible refine (kread_is (b.drop at_) v z (len - at_) (cap - at_) (Option.map (fun x => x.add at_) A) HR2.out HND.out HBD.out hm9 _ HS1.out).mono ?_; rintro e w2 ⟨rfl, hb2⟩) | (at_builtin; refine wpList_append_own _ rfl _ _ 22 rfl w.heap.size 3 i0 (.int .i64 0) 1 8 Try.underlying22 hi hz0 hz1 hz2 rfl (by decide) _ _ _ rfl ((hown.kept (below_grown hb2 none) none_ne).alloc _) ⟨w2.heap.size, 0, none⟩ 1 1 [.int .i64 v] rfl rfl (cell_one_new _ _ _) (fun u hu => by simp at hu; subst hu; rfl) (by unfold maxLen; omega) (by omega) (by have := hG.size; have := hb2.size; simp; omega) ?_; intro v4 w4 hown4 hgrow4 hnil4) | fail)
              have hG4 := ((hG.trans (hb2.mono hG.size)).alloc (by have := hG.size; have := hb2.size; omega) _).grown hgrow4 (by have := hG.size; have := hb2.size; simp; omega) (own_ne (hown.kept (below_grown hb2 none) none_ne))
              go_roundw
              case rel => exact ⟨i + 1, at_ + z, acc ++ [v], by omega, by omega, by simp, by simp, (by rw [HV.out] at hown4; exact hown4), HO2, hG4⟩
              case measure => simp only [intOf]; omega
        · obtain rfl : i = N := by omega
          have hO := HE.out
          rw [Nat.sub_self, Cd.rdn] at hO
          unfold Cd.gfin at hO
          simp only [List.append_nil] at hO
          obtain ⟨hlen, D, c, rfl, hsl⟩ := own_k hown
          have hD := own_none hown
          have hT := own_ty hown
          by_cases hend : at_ = len
          · rw [if_pos (List.drop_eq_nil_of_le (by rw [HN.out]; omega))] at hO
            subst hO
            have hee : ((at_ : Int) != (len : Int)) = false := by simp; omega
            go_wp2_with fail
            go_ret2
            exact ⟨⟨D, c, by rw [hlen]; rfl, hsl, hD, hT⟩, hG⟩
          · rw [if_neg (by
              intro e
              have := congrArg List.length e
              rw [List.length_drop, HN.out] at this
              simp at this
              omega)] at hO
            subst hO
            have hee : ((at_ : Int) != (len : Int)) = true := by simp; omega
            go_wp2_with fail
            go_ret2
            exact ⟨rfl, hG⟩
end Go.Proofs.Ytnnhpbkhfaaaeaa
