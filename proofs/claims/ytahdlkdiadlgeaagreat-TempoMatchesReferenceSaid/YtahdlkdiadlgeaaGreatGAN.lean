import Derived.Test.YtahdlkdiadlgeaaGreatGAL
import Derived.Test.YtahdlkdiadlgeaaGreatGAM
/- The walks of the reference's part, whole. -/
namespace Go.Proofs.YtahdlkdiadlgeaaGreat
open Go.RowKit

namespace Fo
theorem pas_len (es : List T3) (lo pass : Int) : ∀ m : Nat, (pas es lo pass m).length ≤ m
  | 0 => Nat.le_refl _
  | m + 1 => by
    have := pas_len es lo pass m
    unfold pas
    rw [List.length_append]
    split <;> simp <;> omega
theorem pss_len (es : List T3) (x : T3) (first : Int) (h : (x.b - x.a).toNat ≤ 4000) : ∀ k : Nat, (pss es x first k).length ≤ k * 4000
  | 0 => Nat.le_refl _
  | k + 1 => by
    have := pss_len es x first h k
    have := pas_len es x.a (first + k) (x.b - x.a).toNat
    unfold pss
    rw [List.length_append]
    omega
/-- Repeats of forms: their bounds. -/
def rgs (rs : List T3) : Prop := ∀ x ∈ rs, 0 ≤ x.a ∧ x.a < x.b ∧ x.b ≤ 4000 ∧ 1 ≤ x.c ∧ x.c ≤ 9
theorem rgs.up {f : Fm} (h : rgs f.rs) : up f := fun x hx => (h x hx).2.1
theorem chR.rgs {n : Int} {rs : List T3} (h : chR n 0 rs) (hn : n ≤ 4000) : rgs rs := fun x hx => by
  have := chR_all (Int.le_refl 0) h x hx
  omega
theorem blk_len {f : Fm} (h : rgs f.rs) (again : Bool) (bar : Int) : (blk f again bar).length ≤ 36000 := by
  unfold blk
  split
  · simp
  · rename_i h0
    have h1 := h _ (at3_mem (l := f.rs) (i := (six f.rs bar).toNat) (by have := six_lt f.rs bar; omega))
    have h2 := pss_len f.es (at3 f.rs (six f.rs bar).toNat) (if again then (at3 f.rs (six f.rs bar).toNat).c else 1) (by omega) ((at3 f.rs (six f.rs bar).toNat).c + 1 - (if again then (at3 f.rs (six f.rs bar).toNat).c else 1)).toNat
    refine Nat.le_trans h2 ?_
    cases again <;> simp <;> omega
theorem prt_len {f : Fm} (h : rgs f.rs) (again : Bool) (hi : Int) : ∀ (k : Nat) (bar : Int), (prt f again hi k bar).length ≤ k * 36000
  | 0, _ => Nat.le_refl _
  | k + 1, bar => by
    have := prt_len h again hi k (nxt f bar)
    have := blk_len h again bar
    unfold prt
    split
    · rw [List.length_append]; omega
    · simp
theorem par_len {f : Fm} (h : rgs f.rs) (again : Bool) {bar hi : Int} (h0 : hi - bar ≤ 4000) : (par f again bar hi).length ≤ 144000000 := by
  have := prt_len h again hi (hi - bar).toNat bar
  unfold par
  omega
end Fo
theorem own_lessK {B N : Nat} {X : World} {e : TypeId} {size : Nat} {v : Value} {n : Nat} {xs : List Value} (h : X.ownsRow N e size v n xs) (hB : B ≤ N) : X.ownsRow B e size v n xs := by
  refine ⟨h.1, ?_⟩
  rcases h.2 with h2 | ⟨g, cap, cur, h1, h2, h3, h4⟩
  · exact .inl h2
  · exact .inr ⟨g, cap, cur, h1, by omega, h3, h4⟩
/-- A repeat in a variable of its own. -/
structure TV (w : World) (b : Nat) (x : Fo.T3) : Prop where
  at_ : TB w b x
  blk : ∃ arr, w.heap[b]? = some (.cells arr 50 (0, 0))
theorem TV.new (w : World) (x : Fo.T3) : TV (w.alloc (.cells #[.int .i64 x.a, .int .i64 x.b, .int .i64 x.c] 50)) w.heap.size x := ⟨TB.new w x _, _, heap_alloc_new w _⟩
theorem TV.below {w w' : World} {b : Nat} {x : Fo.T3} (h : TV w b x) (hb : Below w.heap.size w w') : TV w' b x :=
  ⟨h.at_.below hb, by obtain ⟨arr, h1⟩ := h.blk; exact ⟨arr, (hb.block b h.at_.lt).trans h1⟩⟩
theorem TV.grown {w w' : World} {b base : Nat} {x : Fo.T3} {v : Value} {n : Nat} {xs : List Value} (h : TV w b x) (hown : w.ownsRow base 3 1 v n xs) (hg : w.grownBy w' v.ownBlock) : TV w' b x := by
  have hne : some b ≠ v.ownBlock := fun e => by
    obtain ⟨arr, h4⟩ := h.blk
    rcases hown.2 with ⟨h1, _⟩ | ⟨g2, cap, cur, h1, _, h3, _⟩
    · rw [h1] at e; cases e
    · rw [h1] at e
      cases e
      rw [h4] at h3
      cases h3
  have hk := hg.block b h.at_.lt hne
  have c : ∀ j u, w.cell? ⟨b, j, none⟩ = some u → w'.cell? ⟨b, j, none⟩ = some u := fun j u hu => (World.cell?_of_block (w := w) (a := ⟨b, j, none⟩) hk).trans hu
  obtain ⟨arr, h4⟩ := h.blk
  exact ⟨⟨Nat.lt_of_lt_of_le h.at_.lt hg.size, c 0 _ h.at_.c0, c 1 _ h.at_.c1, c 2 _ h.at_.c2⟩, arr, hk.trans h4⟩
theorem infoInt : (Tryz.prog.info? 3).map (fun i => (i.zero, i.size, i.bytes)) = some (some (.int .i64 0), 1, 8) := by kernel_rfl

set_option maxRecDepth 100000 in
set_option maxHeartbeats 3200000 in
theorem rpart_is (h : FH) (f : Fo.Fm) (lo ub : Int) (again : Bool) (hrg : Fo.rgs f.rs) (hlo : 0 ≤ lo) (hub : ub ≤ 4000) (hr : h.rl ≤ 100) (he : h.el ≤ 100) (w : World) (hS : SlF w h f) :
    Calls Tryz.prog 94 #[.agg #[.int .i64 h.n, .slice h.R h.rl h.rc, .slice h.E h.el h.ec, .int .i64 h.ja, .int .i64 h.jt, .int .i64 h.jf, .slice h.C h.cl h.cc], .int .i64 lo, .int .i64 ub, .bool again] w fun e w' => Below w.heap.size w w' ∧ ∃ v, e = .returned v ∧ w'.ownsRow w.heap.size 3 1 v (Fo.par f again lo ub).length (vK .i64 (Fo.par f again lo ub)) := by
  obtain ⟨i0, hi0, hz0, hz1, hz2⟩ := info_parts infoInt
  have HI0 := Lib.hid (And.intro hi0 (And.intro hz0 (And.intro hz1 hz2)))
  have B := (Below.refl w.heap.size w).alloc (Nat.le_refl _) (.cells #[.int .i64 h.n, .slice h.R h.rl h.rc, .slice h.E h.el h.ec, .int .i64 h.ja, .int .i64 h.jt, .int .i64 h.jf, .slice h.C h.cl h.cc] 34)
  have Q := FB.new w h
  have HSS := Lib.hid (hS.alloc (.cells #[.int .i64 h.n, .slice h.R h.rl h.rc, .slice h.E h.el h.ec, .int .i64 h.ja, .int .i64 h.jt, .int .i64 h.jf, .slice h.C h.cl h.cc] 34))
  have HRG := Lib.hid hrg; have HRL := Lib.hid hr; have HEL := Lib.hid he; have HLO := Lib.hid hlo; have HUB := Lib.hid hub
  have HLN := Lib.hid (Fo.par_len (f := f) hrg again (bar := lo) (hi := ub) (by omega))
  obtain ⟨T, hT⟩ : ∃ T, Fo.par f again lo ub = T := ⟨_, rfl⟩
  rw [hT] at HLN ⊢
  have HT := Lib.hid hT
  clear hT
  clear hi0 hz0 hz1 hz2 hS hrg hr he hlo
  go_enter Tryz.func94, Tryz.ntmps94
  go_wp2_with fail
  obtain ⟨W1, hW1⟩ : ∃ W1, w.alloc (.cells #[.int .i64 h.n, .slice h.R h.rl h.rc, .slice h.E h.el h.ec, .int .i64 h.ja, .int .i64 h.jt, .int .i64 h.jf, .slice h.C h.cl h.cc] 34) = W1 := ⟨_, rfl⟩
  rw [hW1] at B Q HSS
  (try simp only [hW1])
  clear hW1
  have HQ := Lib.hid Q; have HB := Lib.hid B
  clear Q B
  go_loopw [9, 10] (fun s9 s10 wr => ∃ (P : List Int) (N : Nat) (bar : Int), P.length = N ∧ lo ≤ bar ∧ s10 = .int .i64 bar ∧ Hid (P ++ Fo.par f again bar ub = T) ∧ Hid (wr.ownsRow W1.heap.size 3 1 s9 N (vK .i64 P)) ∧ Below W1.heap.size W1 wr) (fun _ s10 _ => (ub - intOf s10).toNat)
  case atStart => exact ⟨[], 0, lo, rfl, Int.le_refl _, rfl, Lib.hid HT.out, Lib.hid (World.ownsRow_nil _ _ _ _), Below.refl _ _⟩
  case round =>
    obtain ⟨P, N, bar, hN, hbar, rfl, HP, HOW, hR⟩ := hrel
    have hPN : N ≤ 144000000 := by
      have h1 := HLN.out
      rw [← HP.out, List.length_append, hN] at h1
      omega
    have HNN := Lib.hid hN
    have hlo0 := HLO.out
    clear hN
    have Q := HQ.out.below hR
    have q0 := Q.c0; have q1 := Q.c1; have q2 := Q.c2; have q3 := Q.c3; have q4 := Q.c4; have q5 := Q.c5; have q6 := Q.c6; have ql := Q.lt
    by_cases hlt : bar < ub
    case neg =>
      have hPT : P = T := by
        have h1 := HP.out
        rw [Fo.par_end f again hlt, List.append_nil] at h1
        exact h1
      subst hPT
      go_wp2_with fail
      go_ret
      have hO := HOW.out
      rw [← HNN.out] at hO
      exact ⟨HB.out.trans (hR.mono HB.out.size), _, rfl, own_lessK hO HB.out.size⟩
    have HST : Hid (P ++ Fo.blk f again bar ++ Fo.par f again (Fo.nxt f bar) ub = T) := Lib.hid (by rw [List.append_assoc, ← Fo.par_step HRG.out.up again hlt]; exact HP.out)
    obtain ⟨r, hr⟩ : ∃ r, Fo.six f.rs bar = r := ⟨_, rfl⟩
    have HR := Lib.hid hr
    have hrl := Fo.six_lt f.rs bar
    have hrg := Fo.six_ge f.rs bar
    rw [hr] at hrl hrg
    clear hr
    go_wp2_with fail
    clear q0 q1 q2 q3 q4 q5 q6 ql Q
    refine (rstarts_is h f bar r HR.out (by have := HRL.out; omega) _ (HSS.out.below hR)).mono ?_; rintro e w2 ⟨rfl, hb⟩
    replace HOW := Lib.hid (HOW.out.kept (below_grown hb none) none_ne)
    replace hR := hR.trans (hb.mono hR.size)
    clear hb
    by_cases hr0 : r < 0
    case pos =>
      have hblk : Fo.blk f again bar = [bar] := by unfold Fo.blk; rw [HR.out, if_pos hr0]
      have hnxt : Fo.nxt f bar = bar + 1 := by unfold Fo.nxt; rw [HR.out, if_pos hr0]
      have HS2 := HST.out
      rw [hblk, hnxt] at HS2
      have HS3 := Lib.hid HS2
      clear hblk hnxt HS2 hrl hrg
      have hkeep := HOW.out.kept (below_grown ((Below.refl w2.heap.size w2).alloc (Nat.le_refl _) (.cells #[.int .i64 (bar)] 3)) none) none_ne
      go_wp2_with (first | (at_builtin; refine wpList_append_own _ rfl _ _ 104 rfl W1.heap.size 3 i0 (.int .i64 0) 1 8 Tryz.underlying104 HI0.out.1 HI0.out.2.1 HI0.out.2.2.1 HI0.out.2.2.2 rfl (by decide) _ _ _ rfl hkeep ⟨w2.heap.size, 0, none⟩ 1 1 [.int .i64 (bar)] rfl rfl (cell_one_new _ _ _) (fun u hu => by simp at hu; subst hu; rfl) (by unfold maxLen; omega) (by omega) (by have := hR.size; simp; omega) ?_; intro v5 w5 hown5 hgrow5 hnil5) | fail)
      have hR5 := (hR.alloc hR.size (.cells #[.int .i64 (bar)] 3)).grown hgrow5 (by have := hR.size; simp; omega) (own_ne hkeep)
      have HOW5 := Lib.hid hown5; have HR5 := Lib.hid hR5
      skip
      clear hown5 hgrow5 hnil5 hR5 hkeep
      go_roundw
      case rel => exact ⟨P ++ [bar], N + 1, bar + 1, by rw [List.length_append, HNN.out]; rfl, by omega, by simp, HS3, Lib.hid (by rw [vK_app]; exact HOW5.out), HR5.out⟩
      case measure => simp [intOf]; omega
    obtain ⟨rn, rfl⟩ : ∃ rn : Nat, r = rn := ⟨r.toNat, by omega⟩
    have hrn : rn < f.rs.length := by omega
    obtain ⟨bR, oR, hRe, hbR, hcR⟩ := (HSS.out.below hR).sr (by omega)
    have X := hcR rn hrn
    obtain ⟨x, hx⟩ : ∃ x, Fo.at3 f.rs rn = x := ⟨_, rfl⟩
    rw [hx] at X
    obtain ⟨hx0, hx1, hx2, hx3, hx4⟩ := HRG.out x (by rw [← hx]; exact Fo.at3_mem hrn)
    have hxa : x.a = bar := by
      have h1 := Fo.six_at (l := f.rs) (bar := bar) (by rw [HR.out]; omega)
      rw [HR.out, show ((rn : Int)).toNat = rn from rfl, hx] at h1
      exact h1
    have hblk : Fo.blk f again bar = Fo.pss f.es x (if again then x.c else 1) (x.c + 1 - (if again then x.c else 1)).toNat := by
      unfold Fo.blk
      rw [HR.out, if_neg (by omega), show ((rn : Int)).toNat = rn from rfl, hx]
    have hnxt : Fo.nxt f bar = x.b := by unfold Fo.nxt; rw [HR.out, if_neg (by omega), show ((rn : Int)).toNat = rn from rfl, hx]
    obtain ⟨first, hfirst⟩ : ∃ q : Int, (if again then x.c else 1) = q := ⟨_, rfl⟩
    have hf1 : 1 ≤ first ∧ first ≤ x.c := by rw [← hfirst]; cases again <;> simp <;> omega
    have HST2 := HST.out
    rw [hblk, hnxt, hfirst] at HST2
    have HS3 := Lib.hid HST2
    have HXA := Lib.hid hxa
    have hrn1 : (rn : Int) < (h.rl : Int) := by have := (HSS.out).rl; omega
    have hQ2 := HQ.out.below hR
    have q1 := hQ2.c1; have ql := hQ2.lt
    rw [hRe] at q1
    obtain ⟨c0, c1, c2⟩ := X
    have hx5 := hx4; have hx6 := hx3
    clear hcR hrn hx hblk hnxt HST2 hrl hrg hr0 hRe hbR hQ2
    have XV := TV.new w2 x
    replace HOW := Lib.hid (HOW.out.kept (below_grown ((Below.refl w2.heap.size w2).alloc (Nat.le_refl _) (.cells #[.int .i64 x.a, .int .i64 x.b, .int .i64 x.c] 50)) none) none_ne)
    replace hR := hR.alloc hR.size (.cells #[.int .i64 x.a, .int .i64 x.b, .int .i64 x.c] 50)
    obtain ⟨W2, hW2⟩ : ∃ W2, w2.alloc (.cells #[.int .i64 x.a, .int .i64 x.b, .int .i64 x.c] 50) = W2 := ⟨_, rfl⟩
    rw [hW2] at XV HOW hR
    have x2 := XV.at_.c2; have xl := XV.at_.lt
    obtain ⟨vx, hvx⟩ : ∃ vx, w2.heap.size = vx := ⟨_, rfl⟩
    rw [hvx] at XV x2 xl
    cases again
    case' false => obtain rfl : first = 1 := by simpa using hfirst.symm
    case' true => obtain rfl : first = x.c := by simpa using hfirst.symm
    case false =>
      clear hfirst
      obtain ⟨cnt, hcnt⟩ : ∃ cnt : Nat, (x.c + 1 - 1).toNat = cnt := ⟨_, rfl⟩
      rw [hcnt] at HS3
      have hc9 : cnt ≤ 9 := by omega
      have hcx : 1 + (cnt : Int) = x.c + 1 := by omega
      obtain ⟨wid, hwid⟩ : ∃ wid : Nat, (x.b - x.a).toNat = wid := ⟨_, rfl⟩
      have hw4 : wid ≤ 4000 := by omega
      have hwx : bar + (wid : Int) = x.b := by omega
      have HWI := Lib.hid hwid
      have hbx : bar < x.b := by omega
      clear hcnt hwid hxa
      go_wp2_with fail
      clear c0 c1 c2 x2 xl q1 ql
      (try clear hW2)
      have HOW0 := HOW; have hR0 := hR; have XV0 := XV
      clear HOW hR XV
      go_loopw [9, 14] (fun s9 s14 wr => ∃ (k N2 : Nat), k ≤ cnt ∧ s14 = .int .i64 (1 + (k : Int)) ∧ (P ++ Fo.pss f.es x 1 k).length = N2 ∧ N2 ≤ N + k * 4000 ∧ Hid (wr.ownsRow W1.heap.size 3 1 s9 N2 (vK .i64 (P ++ Fo.pss f.es x 1 k))) ∧ Hid (TV wr vx x) ∧ Below W1.heap.size W1 wr) (fun _ s14 _ => (x.c + 1 - intOf s14).toNat)
      case atStart => exact ⟨0, N, Nat.zero_le _, by simp, by rw [show P ++ Fo.pss f.es x 1 0 = P from List.append_nil P]; exact HNN.out, by omega, Lib.hid (by rw [show P ++ Fo.pss f.es x 1 0 = P from List.append_nil P]; exact HOW0.out), Lib.hid XV0, hR0⟩
      case round =>
        obtain ⟨k, N2, hk, rfl, hN2, hNk, HOW, HXV, hR⟩ := hrel
        have HN2 := Lib.hid hN2
        clear hN2
        have XV := HXV.out
        have x0 := XV.at_.c0; have x1 := XV.at_.c1; have x2 := XV.at_.c2; have xl := XV.at_.lt
        have hkc : (1 + (k : Int) ≤ x.c) ↔ k < cnt := by omega
        by_cases hlk : k < cnt
        case neg =>
          obtain rfl : k = cnt := by omega
          have hno : ¬ 1 + (k : Int) ≤ x.c := by omega
          clear hkc
          go_wp2_with fail
          go_roundw
          case rel => exact ⟨P ++ Fo.pss f.es x 1 k, N2, x.b, HN2.out, by omega, rfl, HS3, HOW, hR⟩
          case measure => simp [intOf]; omega
        have hyes := hkc.2 hlk
        clear hkc
        go_wp2_with fail
        clear x0 x1 x2 xl XV
        have HOW1 := HOW; have HXV1 := HXV; have hR1 := hR
        clear HOW HXV hR
        go_loopw [9, 15] (fun s9 s15 wr => ∃ (m N3 : Nat), m ≤ wid ∧ s15 = .int .i64 (bar + (m : Int)) ∧ (P ++ Fo.pss f.es x 1 k ++ Fo.pas f.es x.a (1 + k) m).length = N3 ∧ N3 ≤ N2 + m ∧ Hid (wr.ownsRow W1.heap.size 3 1 s9 N3 (vK .i64 (P ++ Fo.pss f.es x 1 k ++ Fo.pas f.es x.a (1 + k) m))) ∧ Hid (TV wr vx x) ∧ Below W1.heap.size W1 wr) (fun _ s15 _ => (x.b - intOf s15).toNat)
        case atStart => exact ⟨0, N2, Nat.zero_le _, by simp; exact HXA.out, by rw [show ∀ l : List Int, l ++ Fo.pas f.es x.a (1 + k) 0 = l from fun l => List.append_nil l]; exact HN2.out, by omega, Lib.hid (by rw [show ∀ l : List Int, l ++ Fo.pas f.es x.a (1 + k) 0 = l from fun l => List.append_nil l]; exact HOW1.out), HXV1, hR1⟩
        case round =>
          obtain ⟨m, N3, hm, rfl, hN3, hNm, HOW, HXV, hR⟩ := hrel
          have HN3 := Lib.hid hN3
          clear hN3
          have XV := HXV.out
          have x1 := XV.at_.c1; have xl := XV.at_.lt
          have Q := HQ.out.below hR
          have q0 := Q.c0; have q1 := Q.c1; have q2 := Q.c2; have q3 := Q.c3; have q4 := Q.c4; have q5 := Q.c5; have q6 := Q.c6; have ql := Q.lt
          by_cases hlm : m < wid
          case neg =>
            obtain rfl : m = wid := by omega
            have hno : ¬ bar + (m : Int) < x.b := by omega
            have HPS : Hid (P ++ Fo.pss f.es x 1 k ++ Fo.pas f.es x.a (1 + k) m = P ++ Fo.pss f.es x 1 (k + 1)) := Lib.hid (by rw [show Fo.pss f.es x 1 (k + 1) = Fo.pss f.es x 1 k ++ Fo.pas f.es x.a (1 + k) (x.b - x.a).toNat from rfl, HWI.out, List.append_assoc])
            go_wp2_with fail
            go_roundw
            case rel => exact ⟨k + 1, N3, by omega, by (simp <;> omega), by rw [← HPS.out]; exact HN3.out, by omega, Lib.hid (by rw [← HPS.out]; exact HOW.out), HXV, hR⟩
            case measure => simp [intOf]; omega
          have hym : bar + (m : Int) < x.b := by omega
          obtain ⟨g, hg⟩ : ∃ g : Bool, g = true ↔ Fo.pld f.es (bar + (m : Int)) (1 + (k : Int)) := ⟨decide _, decide_eq_true_iff⟩
          have HG := Lib.hid hg
          have HPA : Hid (Fo.pas f.es x.a (1 + k) (m + 1) = Fo.pas f.es x.a (1 + k) m ++ (if Fo.pld f.es (bar + (m : Int)) (1 + (k : Int)) then [bar + (m : Int)] else [])) := Lib.hid (by rw [← HXA.out]; rfl)
          clear hg
          go_wp2_with fail
          clear q0 q1 q2 q3 q4 q5 q6 ql x1 xl Q
          refine (rplayed_is h f (bar + (m : Int)) (1 + (k : Int)) g HG.out (by have := HEL.out; omega) _ (HSS.out.below hR)).mono ?_; rintro e w3 ⟨rfl, hb⟩
          replace HOW := Lib.hid (HOW.out.kept (below_grown hb none) none_ne)
          replace HXV := Lib.hid (HXV.out.below hb)
          replace hR := hR.trans (hb.mono hR.size)
          clear hb XV
          cases g with
          | false =>
            have HPA2 : Hid (Fo.pas f.es x.a (1 + k) (m + 1) = Fo.pas f.es x.a (1 + k) m) := Lib.hid (by rw [HPA.out, if_neg (fun h => by have := HG.out.2 h; cases this), List.append_nil])
            go_wp2_with fail
            go_roundw
            case rel => exact ⟨m + 1, N3, by omega, by (simp <;> omega), by rw [HPA2.out]; exact HN3.out, by omega, Lib.hid (by rw [HPA2.out]; exact HOW.out), HXV, hR⟩
            case measure => simp [intOf]; omega
          | true =>
            have HPA2 : Hid (Fo.pas f.es x.a (1 + k) (m + 1) = Fo.pas f.es x.a (1 + k) m ++ [bar + (m : Int)]) := Lib.hid (by rw [HPA.out, if_pos (HG.out.1 rfl)])
            have HXW := Lib.hid (HXV.out.below ((Below.refl w3.heap.size w3).alloc (Nat.le_refl _) (.cells #[.int .i64 (bar + (m : Int))] 3)))
            have hkeep := HOW.out.kept (below_grown ((Below.refl w3.heap.size w3).alloc (Nat.le_refl _) (.cells #[.int .i64 (bar + (m : Int))] 3)) none) none_ne
            go_wp2_with (first | (at_builtin; refine wpList_append_own _ rfl _ _ 104 rfl W1.heap.size 3 i0 (.int .i64 0) 1 8 Tryz.underlying104 HI0.out.1 HI0.out.2.1 HI0.out.2.2.1 HI0.out.2.2.2 rfl (by decide) _ _ _ rfl hkeep ⟨w3.heap.size, 0, none⟩ 1 1 [.int .i64 (bar + (m : Int))] rfl rfl (cell_one_new _ _ _) (fun u hu => by simp at hu; subst hu; rfl) (by unfold maxLen; omega) (by omega) (by have := hR.size; simp; omega) ?_; intro v5 w5 hown5 hgrow5 hnil5) | fail)
            have hR5 := (hR.alloc hR.size (.cells #[.int .i64 (bar + (m : Int))] 3)).grown hgrow5 (by have := hR.size; simp; omega) (own_ne hkeep)
            have HOW5 := Lib.hid hown5; have HR5 := Lib.hid hR5
            have HXV5 := Lib.hid (HXW.out.grown hkeep hgrow5)
            clear hown5 hgrow5 hnil5 hR5 hkeep
            go_roundw
            case rel => exact ⟨m + 1, N3 + 1, by omega, by (simp <;> omega), by rw [HPA2.out, ← List.append_assoc, List.length_append, HN3.out]; rfl, by omega, Lib.hid (by rw [HPA2.out, ← List.append_assoc, vK_app]; exact HOW5.out), HXV5, HR5.out⟩
            case measure => simp [intOf]; omega
    case true =>
      clear hfirst
      obtain ⟨cnt, hcnt⟩ : ∃ cnt : Nat, (x.c + 1 - x.c).toNat = cnt := ⟨_, rfl⟩
      rw [hcnt] at HS3
      have hc9 : cnt ≤ 9 := by omega
      have hcx : x.c + (cnt : Int) = x.c + 1 := by omega
      obtain ⟨wid, hwid⟩ : ∃ wid : Nat, (x.b - x.a).toNat = wid := ⟨_, rfl⟩
      have hw4 : wid ≤ 4000 := by omega
      have hwx : bar + (wid : Int) = x.b := by omega
      have HWI := Lib.hid hwid
      have hbx : bar < x.b := by omega
      clear hcnt hwid hxa
      go_wp2_with fail
      clear c0 c1 c2 x2 xl q1 ql
      (try clear hW2)
      have HOW0 := HOW; have hR0 := hR; have XV0 := XV
      clear HOW hR XV
      go_loopw [9, 14] (fun s9 s14 wr => ∃ (k N2 : Nat), k ≤ cnt ∧ s14 = .int .i64 (x.c + (k : Int)) ∧ (P ++ Fo.pss f.es x x.c k).length = N2 ∧ N2 ≤ N + k * 4000 ∧ Hid (wr.ownsRow W1.heap.size 3 1 s9 N2 (vK .i64 (P ++ Fo.pss f.es x x.c k))) ∧ Hid (TV wr vx x) ∧ Below W1.heap.size W1 wr) (fun _ s14 _ => (x.c + 1 - intOf s14).toNat)
      case atStart => exact ⟨0, N, Nat.zero_le _, by simp, by rw [show P ++ Fo.pss f.es x x.c 0 = P from List.append_nil P]; exact HNN.out, by omega, Lib.hid (by rw [show P ++ Fo.pss f.es x x.c 0 = P from List.append_nil P]; exact HOW0.out), Lib.hid XV0, hR0⟩
      case round =>
        obtain ⟨k, N2, hk, rfl, hN2, hNk, HOW, HXV, hR⟩ := hrel
        have HN2 := Lib.hid hN2
        clear hN2
        have XV := HXV.out
        have x0 := XV.at_.c0; have x1 := XV.at_.c1; have x2 := XV.at_.c2; have xl := XV.at_.lt
        have hkc : (x.c + (k : Int) ≤ x.c) ↔ k < cnt := by omega
        by_cases hlk : k < cnt
        case neg =>
          obtain rfl : k = cnt := by omega
          have hno : ¬ x.c + (k : Int) ≤ x.c := by omega
          clear hkc
          go_wp2_with fail
          go_roundw
          case rel => exact ⟨P ++ Fo.pss f.es x x.c k, N2, x.b, HN2.out, by omega, rfl, HS3, HOW, hR⟩
          case measure => simp [intOf]; omega
        have hyes := hkc.2 hlk
        clear hkc
        go_wp2_with fail
        clear x0 x1 x2 xl XV
        have HOW1 := HOW; have HXV1 := HXV; have hR1 := hR
        clear HOW HXV hR
        go_loopw [9, 15] (fun s9 s15 wr => ∃ (m N3 : Nat), m ≤ wid ∧ s15 = .int .i64 (bar + (m : Int)) ∧ (P ++ Fo.pss f.es x x.c k ++ Fo.pas f.es x.a (x.c + k) m).length = N3 ∧ N3 ≤ N2 + m ∧ Hid (wr.ownsRow W1.heap.size 3 1 s9 N3 (vK .i64 (P ++ Fo.pss f.es x x.c k ++ Fo.pas f.es x.a (x.c + k) m))) ∧ Hid (TV wr vx x) ∧ Below W1.heap.size W1 wr) (fun _ s15 _ => (x.b - intOf s15).toNat)
        case atStart => exact ⟨0, N2, Nat.zero_le _, by simp; exact HXA.out, by rw [show ∀ l : List Int, l ++ Fo.pas f.es x.a (x.c + k) 0 = l from fun l => List.append_nil l]; exact HN2.out, by omega, Lib.hid (by rw [show ∀ l : List Int, l ++ Fo.pas f.es x.a (x.c + k) 0 = l from fun l => List.append_nil l]; exact HOW1.out), HXV1, hR1⟩
        case round =>
          obtain ⟨m, N3, hm, rfl, hN3, hNm, HOW, HXV, hR⟩ := hrel
          have HN3 := Lib.hid hN3
          clear hN3
          have XV := HXV.out
          have x1 := XV.at_.c1; have xl := XV.at_.lt
          have Q := HQ.out.below hR
          have q0 := Q.c0; have q1 := Q.c1; have q2 := Q.c2; have q3 := Q.c3; have q4 := Q.c4; have q5 := Q.c5; have q6 := Q.c6; have ql := Q.lt
          by_cases hlm : m < wid
          case neg =>
            obtain rfl : m = wid := by omega
            have hno : ¬ bar + (m : Int) < x.b := by omega
            have HPS : Hid (P ++ Fo.pss f.es x x.c k ++ Fo.pas f.es x.a (x.c + k) m = P ++ Fo.pss f.es x x.c (k + 1)) := Lib.hid (by rw [show Fo.pss f.es x x.c (k + 1) = Fo.pss f.es x x.c k ++ Fo.pas f.es x.a (x.c + k) (x.b - x.a).toNat from rfl, HWI.out, List.append_assoc])
            go_wp2_with fail
            go_roundw
            case rel => exact ⟨k + 1, N3, by omega, by (simp <;> omega), by rw [← HPS.out]; exact HN3.out, by omega, Lib.hid (by rw [← HPS.out]; exact HOW.out), HXV, hR⟩
            case measure => simp [intOf]; omega
          have hym : bar + (m : Int) < x.b := by omega
          obtain ⟨g, hg⟩ : ∃ g : Bool, g = true ↔ Fo.pld f.es (bar + (m : Int)) (x.c + (k : Int)) := ⟨decide _, decide_eq_true_iff⟩
          have HG := Lib.hid hg
          have HPA : Hid (Fo.pas f.es x.a (x.c + k) (m + 1) = Fo.pas f.es x.a (x.c + k) m ++ (if Fo.pld f.es (bar + (m : Int)) (x.c + (k : Int)) then [bar + (m : Int)] else [])) := Lib.hid (by rw [← HXA.out]; rfl)
          clear hg
          go_wp2_with fail
          clear q0 q1 q2 q3 q4 q5 q6 ql x1 xl Q
          refine (rplayed_is h f (bar + (m : Int)) (x.c + (k : Int)) g HG.out (by have := HEL.out; omega) _ (HSS.out.below hR)).mono ?_; rintro e w3 ⟨rfl, hb⟩
          replace HOW := Lib.hid (HOW.out.kept (below_grown hb none) none_ne)
          replace HXV := Lib.hid (HXV.out.below hb)
          replace hR := hR.trans (hb.mono hR.size)
          clear hb XV
          cases g with
          | false =>
            have HPA2 : Hid (Fo.pas f.es x.a (x.c + k) (m + 1) = Fo.pas f.es x.a (x.c + k) m) := Lib.hid (by rw [HPA.out, if_neg (fun h => by have := HG.out.2 h; cases this), List.append_nil])
            go_wp2_with fail
            go_roundw
            case rel => exact ⟨m + 1, N3, by omega, by (simp <;> omega), by rw [HPA2.out]; exact HN3.out, by omega, Lib.hid (by rw [HPA2.out]; exact HOW.out), HXV, hR⟩
            case measure => simp [intOf]; omega
          | true =>
            have HPA2 : Hid (Fo.pas f.es x.a (x.c + k) (m + 1) = Fo.pas f.es x.a (x.c + k) m ++ [bar + (m : Int)]) := Lib.hid (by rw [HPA.out, if_pos (HG.out.1 rfl)])
            have HXW := Lib.hid (HXV.out.below ((Below.refl w3.heap.size w3).alloc (Nat.le_refl _) (.cells #[.int .i64 (bar + (m : Int))] 3)))
            have hkeep := HOW.out.kept (below_grown ((Below.refl w3.heap.size w3).alloc (Nat.le_refl _) (.cells #[.int .i64 (bar + (m : Int))] 3)) none) none_ne
            go_wp2_with (first | (at_builtin; refine wpList_append_own _ rfl _ _ 104 rfl W1.heap.size 3 i0 (.int .i64 0) 1 8 Tryz.underlying104 HI0.out.1 HI0.out.2.1 HI0.out.2.2.1 HI0.out.2.2.2 rfl (by decide) _ _ _ rfl hkeep ⟨w3.heap.size, 0, none⟩ 1 1 [.int .i64 (bar + (m : Int))] rfl rfl (cell_one_new _ _ _) (fun u hu => by simp at hu; subst hu; rfl) (by unfold maxLen; omega) (by omega) (by have := hR.size; simp; omega) ?_; intro v5 w5 hown5 hgrow5 hnil5) | fail)
            have hR5 := (hR.alloc hR.size (.cells #[.int .i64 (bar + (m : Int))] 3)).grown hgrow5 (by have := hR.size; simp; omega) (own_ne hkeep)
            have HOW5 := Lib.hid hown5; have HR5 := Lib.hid hR5
            have HXV5 := Lib.hid (HXW.out.grown hkeep hgrow5)
            clear hown5 hgrow5 hnil5 hR5 hkeep
            go_roundw
            case rel => exact ⟨m + 1, N3 + 1, by omega, by (simp <;> omega), by rw [HPA2.out, ← List.append_assoc, List.length_append, HN3.out]; rfl, by omega, Lib.hid (by rw [HPA2.out, ← List.append_assoc, vK_app]; exact HOW5.out), HXV5, HR5.out⟩
            case measure => simp [intOf]; omega
end Go.Proofs.YtahdlkdiadlgeaaGreat

/- The walk of the reference's whole. -/
namespace Go.Proofs.YtahdlkdiadlgeaaGreat
open Go.RowKit

theorem own_kn {k : IntKind} {w : World} {base : Nat} {e : TypeId} {v : Value} {n : Nat} {g : List Int} (h : w.ownsRow base e 1 v n (vK k g)) : g.length = n ∧ ∃ A cap, v = .slice A n cap ∧ (A = none → cap = 0) ∧ SlK k w A g := by
  obtain ⟨hl, A, cap, hv, hs⟩ := own_k h
  refine ⟨hl, A, cap, hv, fun hA => ?_, hs⟩
  subst hA
  rcases h.2 with ⟨h1, _⟩ | ⟨g2, cap2, cur, h1, _⟩
  · rw [h1] at hv; cases hv; rfl
  · rw [h1] at hv; cases hv
theorem Fo.whl_len {f : Fo.Fm} (h : Fo.rgs f.rs) (hn : f.n ≤ 4000) (ha : f.ja ≤ 4000) (ht : 0 ≤ f.jt) (hf : f.jf ≤ 4000) : (Fo.whl f).length ≤ 288000000 := by
  have h1 := Fo.par_len h false (bar := 0) (hi := f.n) (by omega)
  have h2 := Fo.par_len h false (bar := 0) (hi := f.ja) (by omega)
  have h3 := Fo.par_len h true (bar := f.jt) (hi := f.jf) (by omega)
  unfold Fo.whl
  split
  · omega
  · rw [List.length_append]; omega

set_option maxHeartbeats 3200000 in
theorem rwhole_is (h : FH) (f : Fo.Fm) (hrg : Fo.rgs f.rs) (hn : h.n ≤ 4000) (ha : h.ja ≤ 4000) (ht : 0 ≤ h.jt) (hf : h.jf ≤ 4000) (hr : h.rl ≤ 100) (he : h.el ≤ 100) (w : World) (hS : SlF w h f) :
    Calls Tryz.prog 78 #[.agg #[.int .i64 h.n, .slice h.R h.rl h.rc, .slice h.E h.el h.ec, .int .i64 h.ja, .int .i64 h.jt, .int .i64 h.jf, .slice h.C h.cl h.cc]] w fun e w' => Below w.heap.size w w' ∧ ∃ v, e = .returned v ∧ w'.ownsRow w.heap.size 3 1 v (Fo.whl f).length (vK .i64 (Fo.whl f)) := by
  obtain ⟨i0, hi0, hz0, hz1, hz2⟩ := info_parts infoInt
  have B := (Below.refl w.heap.size w).alloc (Nat.le_refl _) (.cells #[.int .i64 h.n, .slice h.R h.rl h.rc, .slice h.E h.el h.ec, .int .i64 h.ja, .int .i64 h.jt, .int .i64 h.jf, .slice h.C h.cl h.cc] 34)
  have Q := FB.new w h
  have HSS := Lib.hid (hS.alloc (.cells #[.int .i64 h.n, .slice h.R h.rl h.rc, .slice h.E h.el h.ec, .int .i64 h.ja, .int .i64 h.jt, .int .i64 h.jf, .slice h.C h.cl h.cc] 34))
  have HRG := Lib.hid hrg
  by_cases h0 : h.ja = 0
  case pos =>
    have hw : Fo.whl f = Fo.par f false 0 h.n := by unfold Fo.whl; rw [hS.ja, hS.n, if_pos h0]
    have HW := Lib.hid hw
    clear hS hrg hw hi0 hz0 hz1 hz2 Q
    obtain ⟨n0, R, rl, rc, E, el, ec, ja, jt, jf, C, cl, cc⟩ := h
    dsimp only at hn ha ht hf hr he h0 B HSS HW ⊢
    subst h0
    go_enter Tryz.func78, Tryz.ntmps78
    go_wp2_with fail
    refine (rpart_is ⟨n0, R, rl, rc, E, el, ec, 0, jt, jf, C, cl, cc⟩ f 0 n0 false HRG.out (Int.le_refl _) hn hr he _ HSS.out).mono ?_; rintro e w2 ⟨hb, v, rfl, hown⟩
    go_wp2_with fail
    go_ret
    exact ⟨B.trans (hb.mono (by simp)), v, rfl, by rw [HW.out]; exact own_lessK hown (by simp)⟩
  case neg =>
    have hw : Fo.whl f = Fo.par f false 0 h.ja ++ Fo.par f true h.jt h.jf := by unfold Fo.whl; rw [hS.ja, hS.jt, hS.jf, if_neg h0]
    have HW := Lib.hid hw
    have HI0 := Lib.hid (And.intro hi0 (And.intro hz0 (And.intro hz1 hz2)))
    clear hS hrg hw hi0 hz0 hz1 hz2
    have HL1 := Lib.hid (Fo.par_len HRG.out false (bar := 0) (hi := h.ja) (by omega))
    have HL2 := Lib.hid (Fo.par_len HRG.out true (bar := h.jt) (hi := h.jf) (by omega))
    go_enter Tryz.func78, Tryz.ntmps78
    go_wp2_with fail
    obtain ⟨W1, hW1⟩ : ∃ W1, w.alloc (.cells #[.int .i64 h.n, .slice h.R h.rl h.rc, .slice h.E h.el h.ec, .int .i64 h.ja, .int .i64 h.jt, .int .i64 h.jf, .slice h.C h.cl h.cc] 34) = W1 := ⟨_, rfl⟩
    have hs1 : w.heap.size ≤ W1.heap.size := by rw [← hW1]; simp
    rw [hW1] at B Q HSS
    (try simp only [hW1])
    clear hW1
    have HQ := Lib.hid Q; have HB := Lib.hid B; have HS1 := Lib.hid hs1
    clear Q B hs1
    refine (rpart_is h f 0 h.ja false HRG.out (Int.le_refl _) ha hr he _ HSS.out).mono ?_; rintro e w2 ⟨hb, v, rfl, hown⟩
    have HOW := Lib.hid hown
    have Q := HQ.out.below hb
    have q0 := Q.c0; have q1 := Q.c1; have q2 := Q.c2; have q3 := Q.c3; have q4 := Q.c4; have q5 := Q.c5; have q6 := Q.c6; have ql := Q.lt
    have HB2 := Lib.hid hb
    clear hown hb
    go_wp2_with fail
    clear q0 q1 q2 q3 q4 q5 q6 ql Q
    refine (rpart_is h f h.jt h.jf true HRG.out ht hf hr he _ (HSS.out.below HB2.out)).mono ?_; rintro e w3 ⟨hb, v2, rfl, hown2⟩
    obtain ⟨_, A, cap, rfl, hnl, hsl⟩ := own_kn hown2
    have HK := Lib.hid (HOW.out.kept (below_grown hb none) none_ne)
    have HSL := Lib.hid hsl; have HNL := Lib.hid hnl
    have HB3 := Lib.hid (HB2.out.trans (hb.mono HB2.out.size))
    clear hown2 hsl hnl hb
    go_wp2_with (first | (at_builtin; refine append_slk .i64 rfl _ _ 104 rfl W1.heap.size 3 i0 (.int .i64 0) 8 Tryz.underlying104 HI0.out.1 HI0.out.2.1 HI0.out.2.2.1 HI0.out.2.2.2 rfl _ _ _ rfl HK.out A _ cap (Fo.par f true h.jt h.jf) rfl HNL.out rfl HSL.out (by unfold maxLen; have := HL1.out; have := HL2.out; omega) (by have := HL1.out; have := HL2.out; omega) HB3.out.size ?_; intro v5 w5 hown5 hgrow5) | fail)
    go_ret
    refine ⟨HB.out.trans ((HB3.out.grown hgrow5 HB3.out.size (own_ne HK.out)).mono HS1.out), v5, rfl, ?_⟩
    rw [HW.out, List.length_append, vK_app]
    exact own_lessK hown5 HS1.out
end Go.Proofs.YtahdlkdiadlgeaaGreat

/- The walk of the reference's Valid. -/
namespace Go.Proofs.YtahdlkdiadlgeaaGreat
open Go.RowKit

theorem fo_nodup {l : List Fo.T3} : l.Nodup ↔ ∀ j, j < l.length → Fo.at3 l j ∉ l.take j := by
  unfold List.Nodup
  rw [List.pairwise_iff_getElem]
  constructor
  · intro h j hj hm
    rw [Fo.at3_eq hj] at hm
    obtain ⟨i, hi, he⟩ := List.mem_iff_getElem.1 hm
    rw [List.length_take] at hi
    rw [List.getElem_take] at he
    exact h i j (by omega) hj (by omega) he
  · intro h i j hi hj hij he
    refine h j hj ?_
    rw [Fo.at3_eq hj, ← he]
    exact List.mem_iff_getElem.2 ⟨i, by rw [List.length_take]; omega, by rw [List.getElem_take]⟩
theorem fo_allC {n : Int} {l : List Fo.T3} : (∀ c ∈ l, Fo.okC n c) ↔ ∀ j, j < l.length → Fo.okC n (Fo.at3 l j) :=
  ⟨fun h j hj => h _ (Fo.at3_mem hj), fun h c hc => by
    obtain ⟨j, hj, rfl⟩ := List.mem_iff_getElem.1 hc
    have := h j hj
    rwa [Fo.at3_eq hj] at this⟩
set_option maxHeartbeats 6400000 in
theorem rValid_is (h : FH) (f : Fo.Fm) (r : Bool) (hr : r = true ↔ Fo.Val f) (hcap : h.cl ≤ h.cc) (w : World) (hS : SlF w h f) :
    Calls Tryz.prog 50 #[.agg #[.int .i64 h.n, .slice h.R h.rl h.rc, .slice h.E h.el h.ec, .int .i64 h.ja, .int .i64 h.jt, .int .i64 h.jf, .slice h.C h.cl h.cc]] w fun e w' => e = .returned (.bool r) ∧ Below w.heap.size w w' := by
  have B := (Below.refl w.heap.size w).alloc (Nat.le_refl _) (.cells #[.int .i64 h.n, .slice h.R h.rl h.rc, .slice h.E h.el h.ec, .int .i64 h.ja, .int .i64 h.jt, .int .i64 h.jf, .slice h.C h.cl h.cc] 34)
  have Q := FB.new w h
  have HSS := Lib.hid (hS.alloc (.cells #[.int .i64 h.n, .slice h.R h.rl h.rc, .slice h.E h.el h.ec, .int .i64 h.ja, .int .i64 h.jt, .int .i64 h.jf, .slice h.C h.cl h.cc] 34))
  have HR := Lib.hid hr; have HRL := Lib.hid hS.rl; have HEL := Lib.hid hS.el; have HCL := Lib.hid hS.cl
  have HFN := Lib.hid hS.n; have HFA := Lib.hid hS.ja; have HFT := Lib.hid hS.jt; have HFF := Lib.hid hS.jf
  have HCAP := Lib.hid hcap
  clear hr hS hcap
  by_cases q0 : h.n < 1
  case pos =>
    obtain rfl : r = false := by
      cases r with
      | false => rfl
      | true => have V := HR.out.1 rfl; have := V.n; have := HFN.out; omega
    clear HSS Q
    go_enter Tryz.func50, Tryz.ntmps50
    go_wp2_with fail
    go_ret
    exact ⟨rfl, B⟩
  by_cases q1 : h.n > 4000
  case pos =>
    obtain rfl : r = false := by
      cases r with
      | false => rfl
      | true => have V := HR.out.1 rfl; have := V.n; have := HFN.out; omega
    clear HSS Q
    go_enter Tryz.func50, Tryz.ntmps50
    go_wp2_with fail
    go_ret
    exact ⟨rfl, B⟩
  by_cases p1 : f.rs.length ≤ 100 ∧ Fo.chR h.n 0 f.rs
  case neg =>
    have HG1 := Lib.hid p1
    clear p1
    obtain rfl : r = false := by
      cases r with
      | false => rfl
      | true => have V := HR.out.1 rfl; exact absurd ⟨V.rl, by rw [← HFN.out]; exact V.rs⟩ HG1.out
    go_enter Tryz.func50, Tryz.ntmps50
    go_wp2_with fail
    refine (rrepeats_is f.rs h.n false _ _ _ ⟨(fun h => by cases h), fun k => absurd k HG1.out⟩ HRL.out _ HSS.out.sr).mono ?_; rintro e w2 ⟨rfl, hb⟩
    replace B := B.trans (hb.mono B.size); replace HSS := Lib.hid (HSS.out.below hb); replace Q := Q.below hb; clear hb
    have q0 := Q.c0; have q1 := Q.c1; have q2 := Q.c2; have q3 := Q.c3; have q4 := Q.c4; have q5 := Q.c5; have q6 := Q.c6; have ql := Q.lt
    go_wp2_with fail
    clear q0 q1 q2 q3 q4 q5 q6 ql
    go_ret
    exact ⟨rfl, B⟩
  have HG1 := Lib.hid p1
  clear p1
  have H100 : Hid (h.rl ≤ 100) := Lib.hid (by rw [← HRL.out]; exact HG1.out.1)
  by_cases p2 : f.es.length ≤ 100 ∧ Fo.chE f.rs 0 f.es
  case neg =>
    have HG2 := Lib.hid p2
    clear p2
    obtain rfl : r = false := by
      cases r with
      | false => rfl
      | true => have V := HR.out.1 rfl; exact absurd ⟨V.el, V.es⟩ HG2.out
    go_enter Tryz.func50, Tryz.ntmps50
    go_wp2_with fail
    refine (rrepeats_is f.rs h.n true _ _ _ ⟨fun _ => HG1.out, fun _ => rfl⟩ HRL.out _ HSS.out.sr).mono ?_; rintro e w2 ⟨rfl, hb⟩
    replace B := B.trans (hb.mono B.size); replace HSS := Lib.hid (HSS.out.below hb); replace Q := Q.below hb; clear hb
    have q0 := Q.c0; have q1 := Q.c1; have q2 := Q.c2; have q3 := Q.c3; have q4 := Q.c4; have q5 := Q.c5; have q6 := Q.c6; have ql := Q.lt
    go_wp2_with fail
    clear q0 q1 q2 q3 q4 q5 q6 ql
    refine (rendings_is h f false ⟨(fun h => by cases h), fun k => absurd k HG2.out⟩ H100.out _ HSS.out).mono ?_; rintro e w2 ⟨rfl, hb⟩
    replace B := B.trans (hb.mono B.size); replace HSS := Lib.hid (HSS.out.below hb); replace Q := Q.below hb; clear hb
    have q0 := Q.c0; have q1 := Q.c1; have q2 := Q.c2; have q3 := Q.c3; have q4 := Q.c4; have q5 := Q.c5; have q6 := Q.c6; have ql := Q.lt
    go_wp2_with fail
    clear q0 q1 q2 q3 q4 q5 q6 ql
    go_ret
    exact ⟨rfl, B⟩
  have HG2 := Lib.hid p2
  clear p2
  by_cases p3 : okJH h f.rs
  case neg =>
    have HG3 := Lib.hid p3
    clear p3
    obtain rfl : r = false := by
      cases r with
      | false => rfl
      | true => have V := HR.out.1 rfl; exact absurd (by have k := V.j; unfold Fo.okJ at k; rw [HFA.out, HFT.out, HFF.out, HFN.out] at k; exact k) HG3.out
    go_enter Tryz.func50, Tryz.ntmps50
    go_wp2_with fail
    refine (rrepeats_is f.rs h.n true _ _ _ ⟨fun _ => HG1.out, fun _ => rfl⟩ HRL.out _ HSS.out.sr).mono ?_; rintro e w2 ⟨rfl, hb⟩
    replace B := B.trans (hb.mono B.size); replace HSS := Lib.hid (HSS.out.below hb); replace Q := Q.below hb; clear hb
    have q0 := Q.c0; have q1 := Q.c1; have q2 := Q.c2; have q3 := Q.c3; have q4 := Q.c4; have q5 := Q.c5; have q6 := Q.c6; have ql := Q.lt
    go_wp2_with fail
    clear q0 q1 q2 q3 q4 q5 q6 ql
    refine (rendings_is h f true ⟨fun _ => HG2.out, fun _ => rfl⟩ H100.out _ HSS.out).mono ?_; rintro e w2 ⟨rfl, hb⟩
    replace B := B.trans (hb.mono B.size); replace HSS := Lib.hid (HSS.out.below hb); replace Q := Q.below hb; clear hb
    have q0 := Q.c0; have q1 := Q.c1; have q2 := Q.c2; have q3 := Q.c3; have q4 := Q.c4; have q5 := Q.c5; have q6 := Q.c6; have ql := Q.lt
    go_wp2_with fail
    clear q0 q1 q2 q3 q4 q5 q6 ql
    refine (rjump_is h f false ⟨(fun h => by cases h), fun k => absurd k HG3.out⟩ H100.out _ HSS.out).mono ?_; rintro e w2 ⟨rfl, hb⟩
    replace B := B.trans (hb.mono B.size); replace HSS := Lib.hid (HSS.out.below hb); replace Q := Q.below hb; clear hb
    have q0 := Q.c0; have q1 := Q.c1; have q2 := Q.c2; have q3 := Q.c3; have q4 := Q.c4; have q5 := Q.c5; have q6 := Q.c6; have ql := Q.lt
    go_wp2_with fail
    clear q0 q1 q2 q3 q4 q5 q6 ql
    go_ret
    exact ⟨rfl, B⟩
  have HG3 := Lib.hid p3
  clear p3
  have hrg : Hid (Fo.rgs f.rs) := Lib.hid (Fo.chR.rgs HG1.out.2 (by omega))
  have HJB : Hid (h.ja ≤ 4000 ∧ 0 ≤ h.jt ∧ h.jf ≤ 4000) := Lib.hid (by have k := HG3.out; unfold okJH at k; omega)
  by_cases hc100 : (h.cl : Int) > 100
  case pos =>
    obtain rfl : r = false := by
      cases r with
      | false => rfl
      | true => have V := HR.out.1 rfl; have := V.cl; have := HCL.out; omega
    go_enter Tryz.func50, Tryz.ntmps50
    go_wp2_with fail
    refine (rrepeats_is f.rs h.n true _ _ _ ⟨fun _ => HG1.out, fun _ => rfl⟩ HRL.out _ HSS.out.sr).mono ?_; rintro e w2 ⟨rfl, hb⟩
    replace B := B.trans (hb.mono B.size); replace HSS := Lib.hid (HSS.out.below hb); replace Q := Q.below hb; clear hb
    have q0 := Q.c0; have q1 := Q.c1; have q2 := Q.c2; have q3 := Q.c3; have q4 := Q.c4; have q5 := Q.c5; have q6 := Q.c6; have ql := Q.lt
    go_wp2_with fail
    clear q0 q1 q2 q3 q4 q5 q6 ql
    refine (rendings_is h f true ⟨fun _ => HG2.out, fun _ => rfl⟩ H100.out _ HSS.out).mono ?_; rintro e w2 ⟨rfl, hb⟩
    replace B := B.trans (hb.mono B.size); replace HSS := Lib.hid (HSS.out.below hb); replace Q := Q.below hb; clear hb
    have q0 := Q.c0; have q1 := Q.c1; have q2 := Q.c2; have q3 := Q.c3; have q4 := Q.c4; have q5 := Q.c5; have q6 := Q.c6; have ql := Q.lt
    go_wp2_with fail
    clear q0 q1 q2 q3 q4 q5 q6 ql
    refine (rjump_is h f true ⟨fun _ => HG3.out, fun _ => rfl⟩ H100.out _ HSS.out).mono ?_; rintro e w2 ⟨rfl, hb⟩
    replace B := B.trans (hb.mono B.size); replace HSS := Lib.hid (HSS.out.below hb); replace Q := Q.below hb; clear hb
    have q0 := Q.c0; have q1 := Q.c1; have q2 := Q.c2; have q3 := Q.c3; have q4 := Q.c4; have q5 := Q.c5; have q6 := Q.c6; have ql := Q.lt
    go_wp2_with fail
    clear q0 q1 q2 q3 q4 q5 q6 ql
    go_ret
    exact ⟨rfl, B⟩
  case neg =>
    have HV : Hid (r = true ↔ (∀ j, j < f.cs.length → Fo.okC h.n (Fo.at3 f.cs j) ∧ Fo.at3 f.cs j ∉ f.cs.take j) ∧ (Fo.whl f).length ≤ 20000) := Lib.hid (HR.out.trans ⟨fun V => ⟨fun j hj => ⟨by have := fo_allC.1 V.cs j hj; rwa [HFN.out] at this, fo_nodup.1 V.cd j hj⟩, V.most⟩, fun k => ⟨by rw [HFN.out]; omega, HG1.out.1, by rw [HFN.out]; exact HG1.out.2, HG2.out.1, HG2.out.2, by unfold Fo.okJ; rw [HFA.out, HFT.out, HFF.out, HFN.out]; exact HG3.out, by rw [HCL.out]; omega, by rw [HFN.out]; exact fo_allC.2 fun j hj => (k.1 j hj).1, fo_nodup.2 fun j hj => (k.1 j hj).2, k.2⟩⟩)
    have HBN := Lib.hid (show 1 ≤ h.n ∧ h.n ≤ 4000 by omega)
    go_enter Tryz.func50, Tryz.ntmps50
    go_wp2_with fail
    refine (rrepeats_is f.rs h.n true _ _ _ ⟨fun _ => HG1.out, fun _ => rfl⟩ HRL.out _ HSS.out.sr).mono ?_; rintro e w2 ⟨rfl, hb⟩
    replace B := B.trans (hb.mono B.size); replace HSS := Lib.hid (HSS.out.below hb); replace Q := Q.below hb; clear hb
    have q0 := Q.c0; have q1 := Q.c1; have q2 := Q.c2; have q3 := Q.c3; have q4 := Q.c4; have q5 := Q.c5; have q6 := Q.c6; have ql := Q.lt
    go_wp2_with fail
    clear q0 q1 q2 q3 q4 q5 q6 ql
    refine (rendings_is h f true ⟨fun _ => HG2.out, fun _ => rfl⟩ H100.out _ HSS.out).mono ?_; rintro e w2 ⟨rfl, hb⟩
    replace B := B.trans (hb.mono B.size); replace HSS := Lib.hid (HSS.out.below hb); replace Q := Q.below hb; clear hb
    have q0 := Q.c0; have q1 := Q.c1; have q2 := Q.c2; have q3 := Q.c3; have q4 := Q.c4; have q5 := Q.c5; have q6 := Q.c6; have ql := Q.lt
    go_wp2_with fail
    clear q0 q1 q2 q3 q4 q5 q6 ql
    refine (rjump_is h f true ⟨fun _ => HG3.out, fun _ => rfl⟩ H100.out _ HSS.out).mono ?_; rintro e w2 ⟨rfl, hb⟩
    replace B := B.trans (hb.mono B.size); replace HSS := Lib.hid (HSS.out.below hb); replace Q := Q.below hb; clear hb
    have q0 := Q.c0; have q1 := Q.c1; have q2 := Q.c2; have q3 := Q.c3; have q4 := Q.c4; have q5 := Q.c5; have q6 := Q.c6; have ql := Q.lt
    go_wp2_with fail
    clear q0 q1 q2 q3 q4 q5 q6 ql
    have HQ := Lib.hid Q; have HB := Lib.hid B
    have HE100 := Lib.hid (show h.el ≤ 100 by have := HEL.out; have := HG2.out.1; omega)
    have HSC := Lib.hid HSS.out.sc
    clear Q B
    generalize w2 = W1 at *
    go_loopw [3] (fun s3 wr => ∃ i : Nat, i ≤ h.cl ∧ s3 = .int .i64 (i : Int) ∧ Hid (∀ j, j < i → Fo.okC h.n (Fo.at3 f.cs j) ∧ Fo.at3 f.cs j ∉ f.cs.take j) ∧ Below W1.heap.size W1 wr) (fun s3 _ => h.cl - (intOf s3).toNat)
    case atStart => exact ⟨0, Nat.zero_le _, rfl, Lib.hid (fun j hj => by omega), Below.refl _ _⟩
    case round =>
      obtain ⟨i, hi, rfl, HJ, hR⟩ := hrel
      have Q := HQ.out.below hR
      have q_0 := Q.c0; have q_1 := Q.c1; have q_2 := Q.c2; have q_3 := Q.c3; have q_4 := Q.c4; have q_5 := Q.c5; have q_6 := Q.c6; have ql := Q.lt
      by_cases hlt : i < h.cl
      case neg =>
        obtain rfl : i = h.cl := by omega
        obtain ⟨L, hL⟩ : ∃ L, (Fo.whl f).length = L := ⟨_, rfl⟩
        have HL := Lib.hid hL
        clear hL
        by_cases hm : (L : Int) ≤ 20000
        case' pos => obtain rfl : r = true := HV.out.2 ⟨fun j hj => HJ.out j (by have := HCL.out; omega), by rw [HL.out]; omega⟩
        case' neg =>
          obtain rfl : r = false := by
            cases r with
            | false => rfl
            | true => have := (HV.out.1 rfl).2; have := HL.out; omega
        all_goals
          go_wp2_with fail
          clear q_0 q_1 q_2 q_3 q_4 q_5 q_6 ql
          refine (rwhole_is h f hrg.out HBN.out.2 HJB.out.1 HJB.out.2.1 HJB.out.2.2 H100.out HE100.out _ (HSS.out.below hR)).mono ?_; rintro e w4 ⟨hb, v, rfl, hown⟩
          obtain ⟨hlen, A, cap, rfl, hnl, hsl⟩ := own_kn hown
          rw [HL.out]
          clear hown hsl hnl hlen
          go_wp2_with fail
          go_ret
          exact ⟨by first | rfl | (show Ending.returned (.bool (decide ((L : Int) ≤ 20000))) = _; rw [decide_eq_false (show ¬ (L : Int) ≤ 20000 by omega)]), HB.out.trans ((hR.trans (hb.mono hR.size)).mono HB.out.size)⟩
      have hil : i < f.cs.length := by rw [HCL.out]; exact hlt
      obtain ⟨b, off, hCe, hb, hc⟩ := HSC.out (by omega)
      have X := (hc i hil).below hR hb
      obtain ⟨x, hx⟩ : ∃ x, Fo.at3 f.cs i = x := ⟨_, rfl⟩
      rw [hx] at X
      rw [hCe] at q_6
      have HTK : Hid (SlT wr (some ⟨b, off, none⟩) (f.cs.take i)) := Lib.hid (by rw [← hCe]; exact (HSC.out.below hR).take i)
      have HX := Lib.hid hx; have HIL := Lib.hid hil
      have hi1 : (i : Int) < (h.cl : Int) := by omega
      have hi2 : (i : Int) ≤ (h.cc : Int) := by have := HCAP.out; omega
      have hi3 : i ≤ h.cc := by omega
      have y0 := fun y : Ext wr => y.cell q_0; have y1 := fun y : Ext wr => y.cell q_1; have y2 := fun y : Ext wr => y.cell q_2; have y3 := fun y : Ext wr => y.cell q_3; have y4 := fun y : Ext wr => y.cell q_4; have y5 := fun y : Ext wr => y.cell q_5; have y6 := fun y : Ext wr => y.cell q_6
      have z0 := fun y : Ext wr => y.cell X.c0; have z1 := fun y : Ext wr => y.cell X.c1; have z2 := fun y : Ext wr => y.cell X.c2
      have hne := Ext.there wr
      clear hc hx hil hb hCe Q X
      by_cases hok : Fo.okC h.n x
      case neg =>
        have HOK := Lib.hid hok
        obtain rfl : r = false := by
          cases r with
          | false => rfl
          | true => have k := ((HV.out.1 rfl).1 i HIL.out).1; rw [HX.out] at k; exact absurd k hok
        clear hok
        go_wp2_with fail
        refine Ext.region (by kernel_rfl) (by kernel_rfl) ?_
        repeat (go_big_quiet_step ((first | (go_at_call 76; exact Ext.call _ (rcut_is {h with C := some ⟨b, off, none⟩} x false ⟨(fun h => by cases h), fun k => absurd k HOK.out⟩ _)))))
        refine wpQuiet_nil ?_
        rintro _ ⟨xw, rfl⟩
        have hb6 := xw.h
        generalize xw.w = w6 at *
        clear xw
        go_wp2_with fail
        go_ret
        exact ⟨rfl, HB.out.trans ((hR.trans (hb6.mono hR.size)).mono HB.out.size)⟩
      have HOK := Lib.hid hok
      clear hok
      obtain ⟨r2, hr2⟩ : ∃ r2, Fo.cix (f.cs.take i) x = r2 := ⟨_, rfl⟩
      have HR2 := Lib.hid hr2
      clear hr2
      by_cases h2 : r2 < 0
      case neg =>
        obtain rfl : r = false := by
          cases r with
          | false => rfl
          | true =>
            have k := ((HV.out.1 rfl).1 i HIL.out).2
            rw [HX.out] at k
            have k2 := Fo.cix_neg.2 k
            rw [HR2.out] at k2
            exact absurd k2 h2
        go_wp2_with fail
        refine Ext.region (by kernel_rfl) (by kernel_rfl) ?_
        repeat (go_big_quiet_step ((first | (go_at_call 76; exact Ext.call _ (rcut_is {h with C := some ⟨b, off, none⟩} x true ⟨fun _ => HOK.out, fun _ => rfl⟩ _)) | (go_at_call 77; exact Ext.call _ (rhas_is (f.cs.take i) x r2 i h.cc (some ⟨b, off, none⟩) HR2.out (by rw [List.length_take]; have := HIL.out; omega) (by omega) _ (HTK.out.below (Ext.h _)))))))
        refine wpQuiet_nil ?_
        rintro _ ⟨xw, rfl⟩
        have hb6 := xw.h
        generalize xw.w = w6 at *
        clear xw
        go_wp2_with fail
        go_ret
        exact ⟨rfl, HB.out.trans ((hR.trans (hb6.mono hR.size)).mono HB.out.size)⟩
      case pos =>
        have HJ2 : Hid (∀ j, j < i + 1 → Fo.okC h.n (Fo.at3 f.cs j) ∧ Fo.at3 f.cs j ∉ f.cs.take j) := Lib.hid (fun j hj => by
          rcases Nat.lt_or_ge j i with k | k
          · exact HJ.out j k
          · rw [show j = i by omega, HX.out]
            exact ⟨HOK.out, Fo.cix_neg.1 (by rw [HR2.out]; exact h2)⟩)
        go_wp2_with fail
        refine Ext.region (by kernel_rfl) (by kernel_rfl) ?_
        repeat (go_big_quiet_step ((first | (go_at_call 76; exact Ext.call _ (rcut_is {h with C := some ⟨b, off, none⟩} x true ⟨fun _ => HOK.out, fun _ => rfl⟩ _)) | (go_at_call 77; exact Ext.call _ (rhas_is (f.cs.take i) x r2 i h.cc (some ⟨b, off, none⟩) HR2.out (by rw [List.length_take]; have := HIL.out; omega) (by omega) _ (HTK.out.below (Ext.h _)))))))
        refine wpQuiet_nil ?_
        rintro _ ⟨xw, rfl⟩
        have hb6 := xw.h
        generalize xw.w = w6 at *
        clear xw
        go_wp2_with fail
        go_roundw
        case rel => exact ⟨i + 1, by omega, by simp, HJ2, hR.trans (hb6.mono hR.size)⟩
        case measure => simp [intOf]; omega
end Go.Proofs.YtahdlkdiadlgeaaGreat

/- The walks of limit.Between and of reprise's isWithin, isCut. -/
namespace Go.Proofs.YtahdlkdiadlgeaaGreat
open Go.RowKit

theorem lbetween_is (x lo hi : Int) (r : Bool) (hr : r = true ↔ lo ≤ x ∧ x ≤ hi) (w : World) :
    Calls Tryz.prog 16 #[.int .i64 x, .int .i64 lo, .int .i64 hi] w fun e w' => e = .returned (.bool r) ∧ w' = w := by
  by_cases q0 : lo ≤ x
  case neg =>
    obtain rfl : r = false := by
      cases r with
      | false => rfl
      | true => exact absurd (hr.1 rfl).1 q0
    clear hr
    go_enter Tryz.func16, Tryz.ntmps16
    go_wp2_with fail
    go_ret
    exact ⟨rfl, rfl⟩
  by_cases q1 : x ≤ hi
  case neg =>
    obtain rfl : r = false := by
      cases r with
      | false => rfl
      | true => exact absurd (hr.1 rfl).2 q1
    clear hr
    go_enter Tryz.func16, Tryz.ntmps16
    go_wp2_with fail
    go_ret
    exact ⟨rfl, rfl⟩
  obtain rfl : r = true := hr.2 ⟨q0, q1⟩
  clear hr
  go_enter Tryz.func16, Tryz.ntmps16
  go_wp2_with fail
  go_ret
  exact ⟨rfl, rfl⟩
/-- Bars that are all in others. -/
def Fo.iw (a b lo hi : Int) : Prop := lo ≤ a ∧ a < b ∧ b ≤ hi
instance (a b lo hi : Int) : Decidable (Fo.iw a b lo hi) := by unfold Fo.iw; infer_instance
theorem wwithin_is (a b lo hi : Int) (r : Bool) (hr : r = true ↔ Fo.iw a b lo hi) (w : World) :
    Calls Tryz.prog 82 #[.agg #[.int .i64 a, .int .i64 b], .agg #[.int .i64 lo, .int .i64 hi]] w fun e w' => e = .returned (.bool r) ∧ Below w.heap.size w w' := by
  have B := ((Below.refl w.heap.size w).alloc (Nat.le_refl _) (.cells #[.int .i64 a, .int .i64 b] 111)).alloc (by simp) (.cells #[.int .i64 lo, .int .i64 hi] 111)
  unfold Fo.iw at hr
  by_cases q0 : lo ≤ a
  case neg =>
    obtain rfl : r = false := by
      cases r with
      | false => rfl
      | true => exact absurd (hr.1 rfl).1 q0
    clear hr
    go_enter Tryz.func82, Tryz.ntmps82
    go_wp2_with fail
    go_ret
    exact ⟨rfl, B⟩
  by_cases q1 : a < b
  case neg =>
    obtain rfl : r = false := by
      cases r with
      | false => rfl
      | true => exact absurd (hr.1 rfl).2.1 q1
    clear hr
    go_enter Tryz.func82, Tryz.ntmps82
    go_wp2_with fail
    go_ret
    exact ⟨rfl, B⟩
  by_cases q2 : b ≤ hi
  case neg =>
    obtain rfl : r = false := by
      cases r with
      | false => rfl
      | true => exact absurd (hr.1 rfl).2.2 q2
    clear hr
    go_enter Tryz.func82, Tryz.ntmps82
    go_wp2_with fail
    go_ret
    exact ⟨rfl, B⟩
  obtain rfl : r = true := hr.2 ⟨q0, q1, q2⟩
  clear hr
  go_enter Tryz.func82, Tryz.ntmps82
  go_wp2_with fail
  go_ret
  exact ⟨rfl, B⟩
set_option maxHeartbeats 800000 in
theorem wcut_is (h : FH) (c : Fo.T3) (r : Bool) (hr : r = true ↔ Fo.okC h.n c) (w : World) :
    Calls Tryz.prog 88 #[.agg #[.int .i64 h.n, .slice h.R h.rl h.rc, .slice h.E h.el h.ec, .int .i64 h.ja, .int .i64 h.jt, .int .i64 h.jf, .slice h.C h.cl h.cc], .agg #[.int .i64 c.a, .int .i64 c.b, .int .i64 c.c]] w fun e w' => e = .returned (.bool r) ∧ Below w.heap.size w w' := by
  have B := ((Below.refl w.heap.size w).alloc (Nat.le_refl _) (.cells #[.int .i64 h.n, .slice h.R h.rl h.rc, .slice h.E h.el h.ec, .int .i64 h.ja, .int .i64 h.jt, .int .i64 h.jf, .slice h.C h.cl h.cc] 34)).alloc (by simp) (.cells #[.int .i64 c.a, .int .i64 c.b, .int .i64 c.c] 91)
  obtain ⟨g, hg⟩ : ∃ g : Bool, g = true ↔ Fo.iw c.a c.b 0 h.n := ⟨decide _, decide_eq_true_iff⟩
  obtain ⟨k, hk⟩ : ∃ k : Bool, k = true ↔ 0 ≤ c.c ∧ c.c ≤ 20 := ⟨decide _, decide_eq_true_iff⟩
  obtain rfl : r = (g && k) := by
    rw [Bool.eq_iff_iff, hr, Bool.and_eq_true, hg, hk]
    unfold Fo.okC Fo.iw
    constructor
    · rintro ⟨a, b, c, d, e⟩; exact ⟨⟨a, b, c⟩, d, e⟩
    · rintro ⟨⟨a, b, c⟩, d, e⟩; exact ⟨a, b, c, d, e⟩
  have HG := Lib.hid hg; have HK := Lib.hid hk
  clear hr hg hk
  go_enter Tryz.func88, Tryz.ntmps88
  go_wp2_with fail
  refine (wwithin_is c.a c.b 0 h.n g HG.out _).mono ?_; rintro e w2 ⟨rfl, hb⟩
  have B2 := B.trans (hb.mono (by simp; omega))
  have k2 := keep_cell (p := ⟨w.heap.size + 1, 2, none⟩) (v := .int .i64 c.c) (by go_simp) hb
  clear hb B
  cases g with
  | false =>
    go_wp2_with fail
    go_ret
    exact ⟨rfl, B2⟩
  | true =>
    go_wp2_with fail
    refine (lbetween_is c.c 0 20 k HK.out _).mono ?_; rintro e w3 ⟨rfl, rfl⟩
    go_wp2_with fail
    go_ret
    exact ⟨rfl, B2⟩
end Go.Proofs.YtahdlkdiadlgeaaGreat
