/- The walk of the reference's Whole. -/
import Derived.Test.YtakbpgljbbkmkaaVl
namespace Go.Proofs.Ytakbpgljbbkmkaa
open Go.RowKit

theorem RowC.blk {k : IntKind} {w w' : World} {S : Nat} {g : List Int} (h : RowC k w S g) (e : w'.heap[S]? = w.heap[S]?) (hs : w.heap.size ≤ w'.heap.size) : RowC k w' S g :=
  ⟨Nat.lt_of_lt_of_le h.lt hs, fun j hj => (World.cell?_of_block (w := w) (a := ⟨S, j, none⟩) e).trans (h.cell j hj), fun j => (World.frozen?_of_block (w := w) (a := ⟨S, j, none⟩) e).trans (h.free j)⟩
theorem SlK.far {k : IntKind} {B : Nat} {w w' : World} {A : Option Addr} {g : List Int} (h : SlK k w A g) (hb : Below B w w') (hB : w.heap.size ≤ B) : SlK k w' A g := h.below (hb.mono hB)

theorem own_lessK2 {B N : Nat} {X : World} {e : TypeId} {size : Nat} {v : Value} {n : Nat} {xs : List Value} (h : X.ownsRow N e size v n xs) (hB : B ≤ N) : X.ownsRow B e size v n xs := own_lessK h hB
set_option maxRecDepth 100000 in
set_option maxHeartbeats 6400000 in
theorem rWhole_is (h : FH) (f : Fo.Fm) (V : Fo.Val f) (w : World) (hS : SlF w h f) :
    Calls Try.prog 33 #[.agg #[.int .i64 h.n, .slice h.R h.rl h.rc, .slice h.E h.el h.ec, .int .i64 h.ja, .int .i64 h.jt, .int .i64 h.jf, .slice h.C h.cl h.cc]] w fun e w' => Below w.heap.size w w' ∧ ∃ v, e = .returned v ∧ w'.ownsRow w.heap.size 30 2 v (Fo.vis (Fo.whl f)).length (vV (Fo.vis (Fo.whl f))) := by
  obtain ⟨i0, hi0, hz0, hz1, hz2⟩ := info_parts infoInt
  obtain ⟨iv, hv0, hv1, hv2, hv3⟩ := info_parts infoVisit
  have HI0 := Lib.hid (And.intro hi0 (And.intro hz0 (And.intro hz1 hz2)))
  have HIV := Lib.hid (And.intro hv0 (And.intro hv1 (And.intro hv2 hv3)))
  clear hi0 hz0 hz1 hz2 hv0 hv1 hv2 hv3
  obtain ⟨nn, R, rl, rc, E, el, ec, ja, jt, jf, C, cl, cc⟩ := h
  have hn := hS.n
  have hr100 := V.rl
  have he100 := V.el
  rw [hS.rl] at hr100
  rw [hS.el] at he100
  have hjb : ja ≤ 4000 ∧ 0 ≤ jt ∧ jf ≤ 4000 := by
    have k := V.j
    have k2 := V.n
    unfold Fo.okJ at k
    rw [hS.ja, hS.jt, hS.jf, hS.n] at k
    rw [hS.n] at k2
    dsimp only at k k2
    omega
  dsimp only at hn hr100 he100 ⊢
  obtain ⟨n0, rfl⟩ : ∃ n0 : Nat, nn = (n0 : Int) := ⟨nn.toNat, by have := V.n; omega⟩
  have hn4 : 1 ≤ n0 ∧ n0 ≤ 4000 := by have := V.n; omega
  have HBA := Lib.hid (show ∀ b ∈ Fo.whl f, 0 ≤ b ∧ b < (n0 : Int) by rw [← hn]; exact V.bars)
  have HM := Lib.hid V.most
  have HRG := Lib.hid V.rgs
  have B := (Below.refl w.heap.size w).alloc (Nat.le_refl _) (.cells #[.int .i64 (n0 : Int), .slice R rl rc, .slice E el ec, .int .i64 ja, .int .i64 jt, .int .i64 jf, .slice C cl cc] 28)
  have Q := FB.new w ⟨(n0 : Int), R, rl, rc, E, el, ec, ja, jt, jf, C, cl, cc⟩
  have HSS := Lib.hid (hS.alloc (.cells #[.int .i64 (n0 : Int), .slice R rl rc, .slice E el ec, .int .i64 ja, .int .i64 jt, .int .i64 jf, .slice C cl cc] 28))
  dsimp only at Q
  clear hS hn V
  go_enter Try.func33, Try.ntmps33
  go_wp2_with fail
  obtain ⟨W1, hW1⟩ : ∃ W1, w.alloc (.cells #[.int .i64 (n0 : Int), .slice R rl rc, .slice E el ec, .int .i64 ja, .int .i64 jt, .int .i64 jf, .slice C cl cc] 28) = W1 := ⟨_, rfl⟩
  rw [hW1] at B Q HSS
  (try simp only [hW1])
  clear hW1
  have HQ := Lib.hid Q; have HB := Lib.hid B
  clear Q B
  refine (rwhole_is ⟨(n0 : Int), R, rl, rc, E, el, ec, ja, jt, jf, C, cl, cc⟩ f HRG.out (by dsimp only; omega) hjb.1 hjb.2.1 hjb.2.2 hr100 he100 _ HSS.out).mono ?_; rintro e w2 ⟨hb, v, rfl, hown⟩
  obtain ⟨-, A, cap, rfl, -, hsl⟩ := own_kn hown
  obtain ⟨L, hL⟩ : ∃ L, Fo.whl f = L := ⟨_, rfl⟩
  rw [hL] at HBA HM hsl ⊢
  obtain ⟨len, hlen⟩ : ∃ len, L.length = len := ⟨_, rfl⟩
  rw [hlen] at HM ⊢
  have HSL := Lib.hid hsl; have HLEN := Lib.hid hlen; have HLL := Lib.hid hL
  have HB2 := Lib.hid (HB.out.trans (hb.mono HB.out.size))
  have hm := HM.out
  have Q := HQ.out.below hb
  have q0 := Q.c0; have ql := Q.lt
  dsimp only at q0
  clear hown hsl hlen hb hL HSS hjb hr100 he100
  go_wp2_with (first | (refine wpList_make_full _ rfl _ _ 57 rfl w2.heap.size 3 i0 (.int .i64 0) 1 Try.underlying57 HI0.out.1 HI0.out.2.1 HI0.out.2.2.1 .i64 .i64 (n0 : Int) (n0 : Int) n0 rfl rfl rfl rfl (by rw [HI0.out.2.2.2]; omega) (by unfold maxLen; omega) (Nat.le_refl _) ?_; intro w3 hown3 hgrow3) | fail)
  have HC0 : Hid (RowC .i64 w3 w2.heap.size (Fo.cnts [] n0)) := Lib.hid (by
    rw [show (madeCells (Value.int .i64 0).cells (n0 * 1)).toList = vK .i64 (Fo.cnts [] n0) by rw [Nat.mul_one, show (Value.int .i64 0).cells = #[Value.int .i64 0] from rfl, toList_madeCells_one, Fo.cnts_nil]; unfold vK; rw [List.map_replicate]] at hown3
    obtain ⟨-, S, cap2, hv, -, hrow⟩ := own_rowC hown3 (by omega)
    cases hv
    exact hrow)
  have hb3 := none_below hgrow3
  have HB3 := Lib.hid hb3
  obtain ⟨S, hSe⟩ : ∃ S, w2.heap.size = S := ⟨_, rfl⟩
  rw [hSe] at HC0 HB3
  have HSZ := Lib.hid hSe
  have hs3 : S < w3.heap.size := HC0.out.lt
  clear hown3 hgrow3 hb3 q0 ql Q
  (try rw [hSe])
  (try simp only [hSe])
  clear hSe
  go_wp2_with fail
  go_loopw [5, 6] (fun s5 s6 wr => ∃ (i : Nat), i ≤ len ∧ s6 = .int .i64 (i : Int) ∧ Hid (wr.ownsRow w3.heap.size 30 2 s5 i (vV (Fo.vis (L.take i)))) ∧ Hid (RowC .i64 wr S (Fo.cnts (L.take i) n0)) ∧ Hid (Below S w2 wr) ∧ w3.heap.size ≤ wr.heap.size) (fun _ s6 _ => len - (intOf s6).toNat)
  case atStart => exact ⟨0, Nat.zero_le _, rfl, Lib.hid (World.ownsRow_nil _ _ _ _), HC0, HB3, Nat.le_refl _⟩
  case round =>
    obtain ⟨i, hi, rfl, HOW, HRC, HBR, hsz⟩ := hrel
    by_cases hlt : i < len
    case neg =>
      obtain rfl : i = len := by omega
      go_wp2_with fail
      go_ret
      have hO := HOW.out
      rw [List.take_of_length_le (by rw [HLEN.out]; exact Nat.le_refl _)] at hO
      refine ⟨HB2.out.trans ((HBR.out.mono (by rw [← HSZ.out]; exact HB2.out.size))), _, rfl, ?_⟩
      rw [HLL.out, Fo.vis_length, HLEN.out]
      exact own_lessK2 hO (by have := HB2.out.size; have := HSZ.out; omega)
    have hil : i < L.length := by rw [HLEN.out]; exact hlt
    obtain ⟨bA, oA, rfl, hbA, hcA⟩ := HSL.out (by omega)
    have cA := hcA i hil
    rw [atI_eq hil] at cA
    obtain ⟨hb0, hb1⟩ := HBA.out _ (List.getElem_mem hil)
    have HTK : Hid (L.take (i + 1) = L.take i ++ [L[i]]) := Lib.hid (by rw [List.take_succ_eq_append_getElem hil])
    obtain ⟨z, hz⟩ : ∃ z, L[i] = z := ⟨_, rfl⟩
    rw [hz] at cA hb0 hb1 HTK
    obtain ⟨bn, rfl⟩ : ∃ bn : Nat, z = (bn : Int) := ⟨z.toNat, by omega⟩
    have hbn : bn < n0 := by omega
    have hbA2 : bA < S := by rw [← HSZ.out]; exact hbA
    have cW : wr.cell? ⟨bA, oA + i, none⟩ = some (.int .i64 (bn : Int)) := (HBR.out.cell (p := ⟨bA, oA + i, none⟩) hbA2).trans cA
    have cC := HRC.out.cell bn (by rw [Fo.cnts_length]; exact hbn)
    have hfr := HRC.out.free bn
    rw [Fo.cnts_at hbn] at cC
    obtain ⟨c, hc⟩ : ∃ c, (L.take i).count (bn : Int) = c := ⟨_, rfl⟩
    have hcl : c ≤ 20000 := by
      rw [← hc]
      have h1 := List.count_le_length (a := (bn : Int)) (l := L.take i)
      rw [List.length_take] at h1
      omega
    have HCE : Hid (Fo.cnts (L.take (i + 1)) n0 = (Fo.cnts (L.take i) n0).set bn ((c : Int) + 1)) := Lib.hid (by rw [HTK.out, Fo.cnts_snoc _ _ _ hbn, Fo.cnts_at hbn, hc])
    have HVE : Hid (vV (Fo.vis (L.take (i + 1))) = vV (Fo.vis (L.take i)) ++ [.int .i64 (bn : Int), .int .i64 ((c : Int) + 1)]) := Lib.hid (by rw [HTK.out, Fo.vis_snoc, vV_app, vV_one, hc]; rfl)
    rw [hc] at cC
    have hi1 : (i : Int) < (len : Int) := by omega
    have hi2 : (bn : Int) < (n0 : Int) := by omega
    have HBN := Lib.hid hbn; have HB0 := Lib.hid hbA2; have HCA := Lib.hid cA; have HCC := Lib.hid cC
    clear hcA hc hz hil hb0 hb1 cA hbA hbn
    go_wp2_with fail
    obtain ⟨X, hX⟩ : ∃ X, wr.setCell ⟨S, bn, none⟩ (.int .i64 ((c : Int) + 1)) = X := ⟨_, rfl⟩
    have HRX : Hid (RowC .i64 X S (Fo.cnts (L.take (i + 1)) n0)) := Lib.hid (by rw [← hX, HCE.out]; exact HRC.out.put bn _ (by rw [Fo.cnts_length]; exact HBN.out))
    have HOX : Hid (X.ownsRow w3.heap.size 30 2 u5 i (vV (Fo.vis (L.take i)))) := Lib.hid (by rw [← hX]; exact ownsRow_setCell_below HOW.out hs3 _)
    have HBX : Hid (Below S w2 X) := Lib.hid (by rw [← hX]; exact HBR.out.setCell (Nat.le_refl _) _)
    have hszX : w3.heap.size ≤ X.heap.size := by rw [← hX]; simpa using hsz
    have cX : X.cell? ⟨bA, oA + i, none⟩ = some (.int .i64 (bn : Int)) := (HBX.out.cell (p := ⟨bA, oA + i, none⟩) HB0.out).trans HCA.out
    have cY : X.cell? ⟨S, bn, none⟩ = some (.int .i64 ((c : Int) + 1)) := by rw [← hX]; exact World.cell?_setCell_same wr _ _ HCC.out
    (try rw [hX])
    (try simp only [hX])
    clear hX cW cC hfr
    have hown := own_ne HOX.out
    have hne1 : u5.ownBlock ≠ some bA := fun e => by have := hown _ e; have := HB0.out; omega
    have hne2 : u5.ownBlock ≠ some S := fun e => by have := hown _ e; omega
    obtain ⟨Cv, hCv⟩ : ∃ Cv, apC 2 X u5 w3.heap.size 30 i (vV (Fo.vis (L.take i))) [.int .i64 (bn : Int), .int .i64 ((c : Int) + 1)] = Cv := ⟨_, rfl⟩
    have hx0 : ∀ vs w', Cv vs w' → w'.cell? ⟨bA, oA + i, none⟩ = some (.int .i64 (bn : Int)) := fun vs w' h => by rw [← hCv] at h; exact h.cell hne1 cX
    have hx1 : ∀ vs w', Cv vs w' → w'.cell? ⟨S, bn, none⟩ = some (.int .i64 ((c : Int) + 1)) := fun vs w' h => by rw [← hCv] at h; exact h.cell hne2 cY
    have x0 := fun y : PvW Cv => hx0 y.vs y.w y.h
    have x1 := fun y : PvW Cv => hx1 y.vs y.w y.h
    have hst : Cv [] X.drew := by rw [← hCv]; exact (Below.refl _ _).drew
    have hst0 : Cv [] X := by rw [← hCv]; exact Below.refl _ _
    have hne : Nonempty (PvW Cv) := PvW.there hst0
    have HCV := Lib.hid hCv; have HNE2 := Lib.hid hne2; have HON := Lib.hid hown
    clear hx0 hx1 cX cY hCv hne1 hne2 hown hst0
    refine region_pv (V := fun _ _ => undef) (cs := [13, 14]) (Cv := Cv) 15 (by kernel_rfl) (by kernel_rfl) (by kernel_rfl) hst ?_
    simp only [List.take_succ_cons, List.take_zero, List.drop_succ_cons, List.drop_zero]
    iterate 13 (refine pv_quiet (by decide) rfl rfl ?_; intro K' hK'; go_big_quiet_op; go_big_quiet_on)
    refine pv_made rfl rfl (fun w' hw' => ⟨.slice (some ⟨w'.heap.size, 0, none⟩) 1 1, w'.alloc (.cells #[.int .i64 (bn : Int), .int .i64 ((c : Int) + 1)] 30), ?_, ?_⟩) ?_
    · go_simp
    · rw [← HCV.out] at hw' ⊢
      have hb' : Below X.heap.size X w' := hw'
      refine ⟨hb'.alloc hb'.size _, w'.heap.size, rfl, hb'.size, by simp, fun j u hj => ?_⟩
      rw [Addr.add_lit]
      match j, hj with
      | 0, hj => simp at hj; subst hj; go_simp
      | 1, hj => simp at hj; subst hj; go_simp
      | j + 2, hj => simp at hj
    rintro p ⟨wp, hwp⟩
    rw [← HCV.out] at hwp
    obtain ⟨-, g, rfl, hg1, -, -⟩ := hwp
    simp only [Act.put, List.setIfInBounds_toArray, List.set_cons_succ, List.set_cons_zero]
    refine pv_made rfl rfl (fun w' hw' => ?_) ?_
    · rw [← HCV.out] at hw' ⊢
      obtain ⟨hbw, g', e', k1, k2, hnews⟩ := hw'
      cases e'
      obtain ⟨v', w2', hr, h2, h3⟩ := run_append_ap (P := Try.prog) w' w3.heap.size 35 35 30 iv (.agg #[.int .i64 0, .int .i64 0]) 2 16 Try.underlying35 HIV.out.1 HIV.out.2.1 HIV.out.2.2.1 HIV.out.2.2.2 rfl (by decide) u5 i (vV (Fo.vis (L.take i))) (.inr (HOX.out.kept (below_grown hbw none) none_ne)) ⟨g, 0, none⟩ 1 [.int .i64 (bn : Int), .int .i64 ((c : Int) + 1)] rfl hnews (fun u hu => by simp at hu; rcases hu with rfl | rfl <;> rfl) (by unfold maxLen; omega) (by omega) (Nat.le_trans hszX hbw.size)
      refine ⟨v', w2', ?_, ⟨hbw.os ▸ h3.os, hbw.tape ▸ h3.tape, hbw.output ▸ h3.output, Nat.le_trans hbw.size h3.size, fun k hk hn => (h3.block k (Nat.lt_of_lt_of_le hk hbw.size) hn).trans (hbw.block k hk)⟩, h2⟩
      exact ap_exec rfl rfl rfl hr
    · rintro v' ⟨wq, hwq⟩
      clear hwq
      simp only [Act.put, List.setIfInBounds_toArray, List.set_cons_succ, List.set_cons_zero]
      rintro w5 hw5
      rw [← HCV.out] at hw5
      obtain ⟨hgrow, hown'⟩ := hw5
      have HG := Lib.hid hgrow; have HOW5 := Lib.hid hown'
      clear x0 x1 hne hst hgrow hown'
      go_wp2_with fail
      go_roundw
      case rel => exact ⟨i + 1, by omega, by simp, Lib.hid (by rw [HVE.out]; exact HOW5.out), Lib.hid (HRX.out.blk (HG.out.block S (by omega) (fun e => HNE2.out e.symm)) HG.out.size), Lib.hid (HBX.out.grown HG.out (by omega) (fun j hj => by have := HON.out j hj; omega)), Nat.le_trans hszX HG.out.size⟩
      case measure => simp [intOf]; omega
end Go.Proofs.Ytakbpgljbbkmkaa
