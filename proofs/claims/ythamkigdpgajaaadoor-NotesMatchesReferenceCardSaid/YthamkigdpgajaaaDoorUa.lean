import Derived.Test.YthamkigdpgajaaaDoorGL
import Derived.Test.YthamkigdpgajaaaDoorGJ
import Derived.Laws.OwnMore
/- The walk of the reference's Spans. -/
namespace Go.Proofs.YthamkigdpgajaaaDoor
open Go.RowKit

theorem infoSp : (Tryd.prog.info? 74).map (fun i => (i.zero, i.size, i.bytes)) = some (some (.agg #[.int .i64 0, .int .i64 0]), 2, 16) := by kernel_rfl
namespace No
theorem joinR_step {L : List Nt} {k : Nat} (h : k < L.length) : joinR ((L.take (k + 1)).map spn) = addS (spn (atO L k)) (joinR ((L.take k).map spn)) := by
  rw [List.take_succ_eq_append_getElem h, List.map_append]
  unfold joinR
  rw [List.foldl_append, ← atO_eq h]
  rfl
theorem joinR_length (L : List Nt) (k : Nat) : (joinR ((L.take k).map spn)).length ≤ k := by
  have h := fold_length ((L.take k).map spn) []
  rw [List.length_map, List.length_take] at h
  have h2 : (joinR ((L.take k).map spn)).length ≤ 0 + min k L.length := h
  omega
theorem addS_bd {s : Sp} {acc : List Sp} (h : ∀ r ∈ acc, 0 ≤ r.1 ∧ r.1 ≤ 1000000 ∧ 0 ≤ r.2 ∧ r.2 ≤ 1000000) (hs : 0 ≤ s.1 ∧ s.1 ≤ 1000000 ∧ 0 ≤ s.2 ∧ s.2 ≤ 1000000) : ∀ r ∈ addS s acc, 0 ≤ r.1 ∧ r.1 ≤ 1000000 ∧ 0 ≤ r.2 ∧ r.2 ≤ 1000000 := by
  cases acc with
  | nil => intro r hr; simp [addS] at hr; rw [hr]; exact hs
  | cons x l =>
    have hx := h x (by simp)
    intro r hr
    rw [addS_cons] at hr
    split at hr
    · rcases List.mem_cons.1 hr with rfl | hr
      · exact ⟨hx.1, hx.2.1, by show 0 ≤ max _ _; omega, by show max _ _ ≤ _; omega⟩
      · exact h r (by simp [hr])
    · rcases List.mem_cons.1 hr with rfl | hr
      · exact hs
      · exact h r hr
end No
theorem vP_set_last (rest : List No.Sp) (x y z : Int) : (vP ((x, y) :: rest).reverse).set (rest.length * 2 + 1) (.int .i64 z) = vP ((x, z) :: rest).reverse := by
  rw [List.reverse_cons, List.reverse_cons, vP_app, vP_app, vP_one, vP_one, List.set_append_right _ _ (by rw [vP_length, List.length_reverse]; omega), vP_length, List.length_reverse, show rest.length * 2 + 1 - rest.length * 2 = 1 by omega]
  rfl
theorem vP_last (rest : List No.Sp) (x y : Int) : (vP ((x, y) :: rest).reverse)[rest.length * 2 + 1]? = some (.int .i64 y) := by
  rw [List.reverse_cons, vP_app, vP_one, List.getElem?_append_right (by rw [vP_length, List.length_reverse]; omega), vP_length, List.length_reverse, show rest.length * 2 + 1 - rest.length * 2 = 1 by omega]
  rfl
theorem newP (w : World) (a b : Int) : ∀ j v, (rowP (a, b))[j]? = some v → (w.alloc (.cells #[.int .i64 a, .int .i64 b] 74)).cell? ((⟨w.heap.size, 0, none⟩ : Addr).add j) = some v := fun j v hj => by
  rw [Addr.add_lit]
  match j, hj with
  | 0, hj => simp [rowP] at hj; subst hj; go_simp
  | 1, hj => simp [rowP] at hj; subst hj; go_simp
  | j + 2, hj => simp [rowP] at hj
set_option maxRecDepth 100000 in
set_option maxHeartbeats 3200000 in
theorem rspans_is (L : List No.Nt) (len cap : Nat) (A : Option Addr) (hl : L.length = len) (hmax : len ≤ 20000) (hok : ∀ n ∈ L, 0 ≤ No.start n ∧ 0 < No.leng n ∧ No.start n + No.leng n ≤ 1000000) (w : World) (hL : SlO w A L) :
    Calls Tryd.prog 46 #[.slice A len cap] w fun e w' => Below w.heap.size w w' ∧ ∃ D n c, e = .returned (.slice D n c) ∧ (No.join (L.map No.spn)).length = n ∧ SlP w' D (No.join (L.map No.spn)) := by
  have HM := Lib.hid hl
  have HL := Lib.hid hL
  have HOK := Lib.hid hok
  obtain ⟨i0, hi, hz0, hz1, hz2⟩ := info_parts infoSp
  have HI0 := Lib.hid (And.intro hi (And.intro hz0 (And.intro hz1 hz2)))
  clear hl hL hok hi hz0 hz1 hz2
  go_enter Tryd.func46, Tryd.ntmps46
  go_wp2_with fail
  go_loopw [3, 4] (fun s3 s4 wr => ∃ (k n : Nat) (acc : List No.Sp), k ≤ len ∧ s4 = .int .i64 (k : Int) ∧ Hid (acc.length = n ∧ n ≤ k) ∧ Hid (wr.ownsRow w.heap.size 74 2 s3 n (vP acc.reverse)) ∧ Hid (No.joinR ((L.take k).map No.spn) = acc) ∧ Hid (∀ r ∈ acc, 0 ≤ r.1 ∧ r.1 ≤ 1000000 ∧ 0 ≤ r.2 ∧ r.2 ≤ 1000000) ∧ Below w.heap.size w wr) (fun _ s4 _ => len - (intOf s4).toNat)
  case atStart => exact ⟨0, 0, [], Nat.zero_le _, rfl, Lib.hid ⟨rfl, Nat.le_refl _⟩, Lib.hid (World.ownsRow_nil _ _ _ _), Lib.hid rfl, Lib.hid (fun r hr => by cases hr), Below.refl _ _⟩
  case round =>
    obtain ⟨k, n, acc, hk, rfl, HN, HO, HJ, HBD, hX⟩ := hrel
    by_cases hlt : k < len
    · have hx : k < L.length := by rw [HM.out]; exact hlt
      obtain ⟨bb, off, rfl, hbb, hc⟩ := HL.out (by rw [HM.out]; omega)
      obtain ⟨x, hxe⟩ : ∃ x, atO L k = x := ⟨_, rfl⟩
      have X := (hc k hx).below hX hbb
      rw [hxe] at X
      have hokx := HOK.out x (by rw [← hxe]; exact atO_mem hx)
      have HST : Hid (No.joinR ((L.take (k + 1)).map No.spn) = No.addS (No.start x, No.start x + No.leng x) acc) := Lib.hid (by rw [No.joinR_step hx, HJ.out, hxe]; rfl)
      have HB2 : Hid (∀ r ∈ No.addS (No.start x, No.start x + No.leng x) acc, 0 ≤ r.1 ∧ r.1 ≤ 1000000 ∧ 0 ≤ r.2 ∧ r.2 ≤ 1000000) := Lib.hid (No.addS_bd HBD.out (by show 0 ≤ No.start x ∧ No.start x ≤ 1000000 ∧ 0 ≤ No.start x + No.leng x ∧ No.start x + No.leng x ≤ 1000000; omega))
      obtain ⟨t, ht⟩ : ∃ t, No.start x = t := ⟨_, rfl⟩
      obtain ⟨u, hu⟩ : ∃ u, No.leng x = u := ⟨_, rfl⟩
      rw [ht, hu] at hokx HST HB2
      have HT : Hid (Mt.tk x.sn x.sd = t) := Lib.hid ht
      have HU : Hid (Mt.tk x.ln x.ld = u) := Lib.hid hu
      obtain ⟨t0, u0, tu⟩ := hokx
      have hj1 : (k : Int) < (len : Int) := by omega
      obtain ⟨c5, c6, c7, c8⟩ := And.intro X.c5 (And.intro X.c6 (And.intro X.c7 X.c8))
      have HX := Lib.hid X
      have hbr : bb < wr.heap.size := Nat.lt_of_lt_of_le hbb hX.size
      have HBR := Lib.hid hbr
      clear hx hc hxe ht hu X HJ hbr
      go_wp2_with fail
      refine (kticks_is x.sn x.sd t HT.out _).mono ?_; rintro e w1 ⟨rfl, hb⟩
      have Y := HX.out.below hb HBR.out
      obtain ⟨d7, d8⟩ := And.intro Y.c7 Y.c8
      have hX1 := hX.trans (hb.mono hX.size)
      have HO1 := Lib.hid (HO.out.kept (obelow_grown hb none) onone_ne)
      clear hb c5 c6 c7 c8 hX HO HX Y
      go_wp2_with fail
      refine (kticks_is x.ln x.ld u HU.out _).mono ?_; rintro e w2 ⟨rfl, hb⟩
      have hX2 := hX1.trans (hb.mono hX1.size)
      have HO2 := Lib.hid (HO1.out.kept (obelow_grown hb none) onone_ne)
      clear hb d7 d8 hX1 HO1
      obtain ⟨hn, hnk⟩ := HN.out
      have hnew := newP w2 t (t + u)
      have HOA := Lib.hid (HO2.out.alloc (.cells #[.int .i64 t, .int .i64 (t + u)] 74))
      have hXA := hX2.alloc hX2.size (.cells #[.int .i64 t, .int .i64 (t + u)] 74)
      cases acc with
      | nil =>
        have hn0 : n = 0 := hn.symm
        subst hn0
        obtain ⟨_, D, c, rfl, -, -⟩ := own_p HO2.out
        clear hn
        go_wp2_with (first | (at_builtin; go_loud (refine wpList_append_own (World.alloc w2 (.cells #[.int .i64 t, .int .i64 (t + u)] 74)) rfl _ _ 84 rfl w.heap.size 74 i0 (.agg #[.int .i64 0, .int .i64 0]) 2 16 Tryd.underlying84 HI0.out.1 HI0.out.2.1 HI0.out.2.2.1 HI0.out.2.2.2 rfl (by decide) _ 0 (vP ([] : List No.Sp).reverse) rfl HOA.out ⟨w2.heap.size, 0, none⟩ 1 1 (rowP (t, t + u)) rfl rfl hnew (fun v hv => vP_cells [(t, t + u)] v (by rw [vP_one]; exact hv)) (by unfold maxLen; omega) (by omega) (by have h2 := hX2.size; simp; omega) ?_; intro v5 w5 hown5 hgrow5 hnil5)) | fail)
        have hX5 := hXA.grown hgrow5 hXA.size (oown_ne HOA.out)
        have HO5 := Lib.hid hown5
        clear hown5 hgrow5 hnil5 hnew
        go_roundw
        case rel => exact ⟨k + 1, 0 + 1, [(t, t + u)], by omega, by simp, Lib.hid ⟨rfl, by omega⟩, HO5, HST, HB2, hX5⟩
        case measure => simp [intOf]; omega
      | cons r rest =>
        obtain ⟨r1, r2⟩ := r
        obtain ⟨p, hp⟩ : ∃ p, rest.length = p := ⟨_, rfl⟩
        have hpn : p + 1 = n := by rw [← hp]; exact hn
        obtain ⟨g, c, rfl, hgb⟩ : ∃ g c, u3 = .slice (some ⟨g, 0, none⟩) n c ∧ w.heap.size ≤ g := by
          rcases HO2.out.2 with ⟨_, h⟩ | ⟨g, c, cur, h, h2, _⟩
          · omega
          · exact ⟨g, c, h, h2⟩
        have hcell : w2.cell? ⟨g, p * 2 + 1, none⟩ = some (.int .i64 r2) := by
          have h := HO2.out.cells (g := g) rfl (rest.length * 2 + 1) _ (vP_last rest r1 r2)
          rw [baddr_off, Nat.zero_add, hp] at h
          exact h
        have HPP := Lib.hid hp
        obtain ⟨b1, b2, b3, b4⟩ := HBD.out (r1, r2) (by simp)
        have hk1 : (0 : Int) < (n : Int) := by omega
        have hk2 : (n : Int) - 1 = (p : Int) := by omega
        have hk3 : (p : Int) < (n : Int) := by omega
        have hk4 : ((p : Int)).toNat = p := by omega
        have hk5 : (0 : Int) ≤ (p : Int) := by omega
        have hk6 : p < n := by omega
        have h0 : 0 < n := by omega
        clear hn hp b1 b2
        by_cases hle : t ≤ r2
        · obtain ⟨z, hz⟩ : ∃ z, max r2 (t + u) = z := ⟨_, rfl⟩
          have HAN : Hid (No.joinR ((L.take (k + 1)).map No.spn) = (r1, z) :: rest) := Lib.hid (by rw [HST.out, No.addS_cons, if_pos hle, ← hz])
          have HB3 : Hid (∀ r ∈ (r1, z) :: rest, 0 ≤ r.1 ∧ r.1 ≤ 1000000 ∧ 0 ≤ r.2 ∧ r.2 ≤ 1000000) := Lib.hid (by
            have h := HB2.out
            rw [No.addS_cons, if_pos hle, ← hz] at *
            exact h)
          clear hnew HOA hXA HST HB2
          go_wp2_with fail
          have x0 := fun y : Ext w2 => y.cell hcell
          have hne := Ext.there w2
          refine Ext.tail 12 (by kernel_rfl) (by kernel_rfl) ?_
          simp only [List.take_succ_cons, List.take_zero, List.drop_succ_cons, List.drop_zero]
          repeat (go_big_quiet_step (fail))
          refine wpQuiet_nil ?_
          rintro _ ⟨xw, rfl⟩
          have hcx := xw.cell hcell
          have hX3 := hX2.trans (xw.h.mono hX2.size)
          have hownx := HO2.out.kept (obelow_grown xw.h none) onone_ne
          have hfx := hownx.frozenAt (p * 2 + 1)
          clear x0 hne hcell hX2 HO2
          generalize xw.w = w3 at *
          clear xw
          obtain ⟨hs1, hs2⟩ := hownx.stored (p * 2 + 1) (.int .i64 z)
          have hX4 := hX3.grown hs2 hX3.size (fun j hj => by cases hj; exact hgb)
          rw [← HPP.out, vP_set_last, HPP.out] at hs1
          have HO4 := Lib.hid hs1
          clear hs1 hs2 hownx hX3
          go_wp2_with fail
          go_roundw
          case rel => exact ⟨k + 1, n, (r1, z) :: rest, by omega, by simp, Lib.hid ⟨by rw [List.length_cons, HPP.out]; exact hpn, by omega⟩, HO4, HAN, HB3, hX4⟩
          case measure => simp [intOf]; omega
        · have HAN : Hid (No.joinR ((L.take (k + 1)).map No.spn) = (t, t + u) :: (r1, r2) :: rest) := Lib.hid (by rw [HST.out, No.addS_cons, if_neg hle])
          have HB3 : Hid (∀ r ∈ (t, t + u) :: (r1, r2) :: rest, 0 ≤ r.1 ∧ r.1 ≤ 1000000 ∧ 0 ≤ r.2 ∧ r.2 ≤ 1000000) := Lib.hid (by
            have h := HB2.out
            rw [No.addS_cons, if_neg hle] at h
            exact h)
          clear HST HB2
          go_wp2_with (first | (at_builtin; go_loud (refine wpList_append_own (World.alloc w2 (.cells #[.int .i64 t, .int .i64 (t + u)] 74)) rfl _ _ 84 rfl w.heap.size 74 i0 (.agg #[.int .i64 0, .int .i64 0]) 2 16 Tryd.underlying84 HI0.out.1 HI0.out.2.1 HI0.out.2.2.1 HI0.out.2.2.2 rfl (by decide) _ n (vP ((r1, r2) :: rest).reverse) rfl HOA.out ⟨w2.heap.size, 0, none⟩ 1 1 (rowP (t, t + u)) rfl rfl hnew (fun v hv => vP_cells [(t, t + u)] v (by rw [vP_one]; exact hv)) (by unfold maxLen; omega) (by omega) (by have h2 := hX2.size; simp; omega) ?_; intro v5 w5 hown5 hgrow5 hnil5)) | fail)
          have hX5 := hXA.grown hgrow5 hXA.size (oown_ne HOA.out)
          have HO5 := Lib.hid hown5
          clear hown5 hgrow5 hnil5 hnew
          go_roundw
          case rel => exact ⟨k + 1, n + 1, (t, t + u) :: (r1, r2) :: rest, by omega, by simp, Lib.hid ⟨by rw [List.length_cons, List.length_cons, HPP.out, hpn], by omega⟩, Lib.hid (by rw [List.reverse_cons, vP_app, vP_one]; exact HO5.out), HAN, HB3, hX5⟩
          case measure => simp [intOf]; omega
    · obtain rfl : k = len := by omega
      obtain ⟨hn2, D, c, rfl, hP, -⟩ := own_p HO.out
      have HJ2 : Hid (No.join (L.map No.spn) = acc.reverse) := Lib.hid (by
        have h := HJ.out
        rw [List.take_of_length_le (by rw [HM.out]; exact Nat.le_refl _)] at h
        unfold No.join
        rw [h])
      have HP := Lib.hid hP
      clear hP HJ
      go_wp2_with fail
      go_ret
      exact ⟨hX, D, n, c, rfl, by rw [HJ2.out]; exact hn2, by rw [HJ2.out]; exact HP.out⟩
end Go.Proofs.YthamkigdpgajaaaDoor
