/- The walks of reprise's spans and size. -/
import Derived.Test.YtakbpgljbbkmkaaWh
namespace Go.Proofs.Ytakbpgljbbkmkaa
open Go.RowKit

theorem Fo.Ok.rc {f : Fo.Fm} (h : Fo.Ok f) : ∀ x ∈ f.rs, 1 ≤ x.c ∧ x.c ≤ 9 := fun x hx => (Fo.chR_all (Int.le_refl 0) h.rs x hx).2.2.2.2
theorem Fo.Ok.all {f : Fo.Fm} (h : Fo.Ok f) : ∀ s ∈ Fo.spn f, 0 ≤ s.b ∧ s.b ≤ s.p ∧ s.p ≤ 4000 := fun s hs => by
  unfold Fo.spn at hs
  have hn := h.n
  have hj := h.j
  unfold Fo.okJ at hj
  rcases List.mem_append.1 hs with hs | hs
  · have := Fo.prtS_all _ _ _ _ _ (by split <;> omega) s hs
    split at this <;> omega
  · have := Fo.prtS_all _ _ _ _ _ (by omega) s hs
    omega
theorem Fo.Ok.len {f : Fo.Fm} (h : Fo.Ok f) : (Fo.spn f).length ≤ 200002 := by
  have h1 := Fo.prtS_len f.es h.el (fun _ => 1) (if 0 < f.ja then f.ja else f.n) f.rs 0 (fun r hr => ⟨Int.le_refl _, (h.rc r hr).2⟩)
  have h2 := Fo.prtS_len f.es h.el (fun r => r.c) f.jf f.rs f.jt (fun r hr => h.rc r hr)
  have h3 := h.rl
  have h4 : f.rs.length * 1000 ≤ 100 * 1000 := Nat.mul_le_mul h3 (Nat.le_refl _)
  unfold Fo.spn
  rw [List.length_append]
  omega
theorem Fo.Ok.tot {f : Fo.Fm} (h : Fo.Ok f) : Fo.tot (Fo.spn f) = ((Fo.whl f).length : Int) := by
  rw [Fo.tot_flat (fun s hs => (h.all s hs).2.1), h.flat]
theorem Fo.tot_le {l : List Fo.V2} (h : ∀ s ∈ l, 0 ≤ s.b ∧ s.b ≤ s.p ∧ s.p ≤ 4000) : 0 ≤ Fo.tot l ∧ Fo.tot l ≤ 4000 * (l.length : Int) := by
  rw [← List.reverse_reverse l] at h ⊢
  generalize l.reverse = m at h ⊢
  induction m with
  | nil => exact ⟨Int.le_refl _, Int.le_refl _⟩
  | cons s m ih =>
    have h1 := ih (fun t ht => h t (by simp at ht ⊢; exact .inl ht))
    have h2 := h s (by simp)
    rw [List.reverse_cons, Fo.tot_snoc, List.length_append, List.length_singleton]
    omega
set_option maxRecDepth 100000 in
set_option maxHeartbeats 6400000 in
theorem wspans_is (h : FH) (f : Fo.Fm) (V : Fo.Ok f) (w : World) (hS : SlF w h f) :
    Calls Try.prog 64 #[.agg #[.int .i64 h.n, .slice h.R h.rl h.rc, .slice h.E h.el h.ec, .int .i64 h.ja, .int .i64 h.jt, .int .i64 h.jf, .slice h.C h.cl h.cc]] w fun e w' => Below w.heap.size w w' ∧ ∃ v, e = .returned v ∧ w'.ownsRow w.heap.size 80 2 v (Fo.spn f).length (vV (Fo.spn f)) := by
  obtain ⟨i0, hi0, hz0, hz1, hz2⟩ := info_parts infoSpan
  have HI0 := Lib.hid (And.intro hi0 (And.intro hz0 (And.intro hz1 hz2)))
  have HS := Lib.hid hS; have HRC := Lib.hid V.rc
  have HRL : Hid (h.rl ≤ 100) := Lib.hid (by rw [← hS.rl]; exact V.rl)
  have HEL : Hid (h.el ≤ 100) := Lib.hid (by rw [← hS.el]; exact V.el)
  have hlen : ∀ first hi lo, (∀ r ∈ f.rs, 1 ≤ first r ∧ r.c ≤ 9) → (Fo.prtS f.es first hi f.rs lo).length ≤ 100001 := fun first hi lo hc => by
    have h1 := Fo.prtS_len f.es V.el first hi f.rs lo hc
    have h4 : f.rs.length * 1000 ≤ 100 * 1000 := Nat.mul_le_mul V.rl (Nat.le_refl _)
    omega
  have HL2 : Hid ((Fo.prtS f.es (fun r => r.c) h.jf f.rs h.jt).length ≤ 100001) := Lib.hid (hlen _ _ _ (fun r hr => V.rc r hr))
  by_cases h0 : 0 < h.ja
  case pos =>
    have HL1 : Hid ((Fo.prtS f.es (fun _ => 1) h.ja f.rs 0).length ≤ 100001) := Lib.hid (hlen _ _ _ (fun r hr => ⟨Int.le_refl _, (V.rc r hr).2⟩))
    have HSPN : Hid (Fo.spn f = Fo.prtS f.es (fun _ => 1) h.ja f.rs 0 ++ Fo.prtS f.es (fun r => r.c) h.jf f.rs h.jt) := Lib.hid (by unfold Fo.spn; rw [hS.ja, hS.jt, hS.jf, if_pos h0])
    have hgt : h.ja > 0 := h0
    have HQ1 := Lib.hid (((FB.new w h).alloc (.cells #[.int .i64 0, .int .i64 h.ja] 80)).alloc (.cells #[.int .i64 h.jt, .int .i64 h.jf] 80))
    have A2 := At2.new ((w.alloc (.cells #[.int .i64 h.n, .slice h.R h.rl h.rc, .slice h.E h.el h.ec, .int .i64 h.ja, .int .i64 h.jt, .int .i64 h.jf, .slice h.C h.cl h.cc] 28)).alloc (.cells #[.int .i64 0, .int .i64 h.ja] 80)) h.jt h.jf 80
    rw [World.size_alloc, World.size_alloc] at A2
    have HV1 := Lib.hid A2
    have HB1 := Lib.hid ((((Below.refl w.heap.size w).alloc (Nat.le_refl _) (.cells #[.int .i64 h.n, .slice h.R h.rl h.rc, .slice h.E h.el h.ec, .int .i64 h.ja, .int .i64 h.jt, .int .i64 h.jf, .slice h.C h.cl h.cc] 28)).alloc (by simp) (.cells #[.int .i64 0, .int .i64 h.ja] 80)).alloc (by simp; omega) (.cells #[.int .i64 h.jt, .int .i64 h.jf] 80))
    clear A2 hlen hi0 hz0 hz1 hz2 hS
    go_enter Try.func64, Try.ntmps64
    go_wp2_with fail
    refine (wp1_is h f 0 h.ja HRC.out HRL.out HEL.out _ (HS.out.below HB1.out)).mono ?_; rintro e w3 ⟨hb3, v3, rfl, hown3⟩
    have Q3 := HQ1.out.below hb3; have V3 := HV1.out.below hb3
    have R3 := HB1.out.trans (hb3.mono HB1.out.size)
    have HO3 := Lib.hid (own_lessK hown3 HB1.out.size)
    obtain ⟨N1, hN1⟩ : ∃ n, (Fo.prtS f.es (fun _ => 1) h.ja f.rs 0).length = n := ⟨_, rfl⟩
    have hN1b : N1 ≤ 100001 := by rw [← hN1]; exact HL1.out
    rw [hN1] at HO3
    obtain ⟨g3, c3, rfl, -, -⟩ := own_VS hown3 (prtS_pos _ _ _ _ _)
    rw [hN1] at hown3 HO3 ⊢
    have HN1 := Lib.hid hN1
    clear hb3 hown3 hN1
    have q0 := Q3.c0; have q1 := Q3.c1; have q2 := Q3.c2; have q3 := Q3.c3; have q4 := Q3.c4; have q5 := Q3.c5; have q6 := Q3.c6; have ql := Q3.lt
    have v0 := V3.c0; have v1 := V3.c1; have vl := V3.lt
    go_wp2_with fail
    clear q0 q1 q2 q3 q4 q5 q6 ql v0 v1 vl Q3 V3
    refine (wp2_is h f h.jt h.jf HRC.out HRL.out HEL.out _ (HS.out.below R3)).mono ?_; rintro e w4 ⟨hb4, v4, rfl, hown4⟩
    have R4 := R3.trans (hb4.mono R3.size)
    obtain ⟨N2, hN2⟩ : ∃ n, (Fo.prtS f.es (fun r => r.c) h.jf f.rs h.jt).length = n := ⟨_, rfl⟩
    have hN2b : N2 ≤ 100001 := by rw [← hN2]; exact HL2.out
    obtain ⟨g4, c4, rfl, hm4, hnews4⟩ := own_VS hown4 (prtS_pos _ _ _ _ _)
    rw [hN2] at hown4 ⊢
    have HN2 := Lib.hid hN2; have HNW := Lib.hid hnews4
    have hkeep := HO3.out.kept (below_grown hb4 none) none_ne
    have hR3 := R4
    clear hb4 hown4 hnews4 hm4 hN2
    go_wp2_with (first | (at_builtin; refine wpList_append_own_at _ rfl _ _ 87 rfl w.heap.size 80 i0 (.agg #[.int .i64 0, .int .i64 0]) 2 16 Try.underlying87 HI0.out.1 HI0.out.2.1 HI0.out.2.2.1 HI0.out.2.2.2 rfl (by decide) _ N1 (vV (Fo.prtS f.es (fun _ => 1) h.ja f.rs 0)) rfl hkeep ⟨g4, 0, none⟩ N2 c4 (vV (Fo.prtS f.es (fun r => r.c) h.jf f.rs h.jt)) rfl (vV_len2 HN2.out) HNW.out (vV_cells _) (by unfold maxLen; omega) (by omega) (by have := hR3.size; omega) ?_; intro v5 w5 hown5 hgrow5 hnil5 hat5; have R5 := R4.grown hgrow5 R4.size (own_ne hkeep); clear hgrow5 hnil5 hat5 hkeep) | fail)
    go_ret
    refine ⟨R5, v5, rfl, ?_⟩
    rw [HSPN.out, List.length_append, HN1.out, HN2.out, vV_app]
    exact hown5
  case neg =>
    have HL1 : Hid ((Fo.prtS f.es (fun _ => 1) h.n f.rs 0).length ≤ 100001) := Lib.hid (hlen _ _ _ (fun r hr => ⟨Int.le_refl _, (V.rc r hr).2⟩))
    have HSPN : Hid (Fo.spn f = Fo.prtS f.es (fun _ => 1) h.n f.rs 0 ++ Fo.prtS f.es (fun r => r.c) h.jf f.rs h.jt) := Lib.hid (by unfold Fo.spn; rw [hS.ja, hS.jt, hS.jf, hS.n, if_neg h0])
    have hgt : ¬ h.ja > 0 := h0
    have HQ1 := Lib.hid (((FB.new w h).alloc (.cells #[.int .i64 0, .int .i64 h.n] 80)).alloc (.cells #[.int .i64 h.jt, .int .i64 h.jf] 80))
    have A2 := At2.new ((w.alloc (.cells #[.int .i64 h.n, .slice h.R h.rl h.rc, .slice h.E h.el h.ec, .int .i64 h.ja, .int .i64 h.jt, .int .i64 h.jf, .slice h.C h.cl h.cc] 28)).alloc (.cells #[.int .i64 0, .int .i64 h.n] 80)) h.jt h.jf 80
    rw [World.size_alloc, World.size_alloc] at A2
    have HV1 := Lib.hid A2
    have HB1 := Lib.hid ((((Below.refl w.heap.size w).alloc (Nat.le_refl _) (.cells #[.int .i64 h.n, .slice h.R h.rl h.rc, .slice h.E h.el h.ec, .int .i64 h.ja, .int .i64 h.jt, .int .i64 h.jf, .slice h.C h.cl h.cc] 28)).alloc (by simp) (.cells #[.int .i64 0, .int .i64 h.n] 80)).alloc (by simp; omega) (.cells #[.int .i64 h.jt, .int .i64 h.jf] 80))
    clear A2 hlen hi0 hz0 hz1 hz2 hS
    go_enter Try.func64, Try.ntmps64
    go_wp2_with fail
    refine (wp1_is h f 0 h.n HRC.out HRL.out HEL.out _ (HS.out.below HB1.out)).mono ?_; rintro e w3 ⟨hb3, v3, rfl, hown3⟩
    have Q3 := HQ1.out.below hb3; have V3 := HV1.out.below hb3
    have R3 := HB1.out.trans (hb3.mono HB1.out.size)
    have HO3 := Lib.hid (own_lessK hown3 HB1.out.size)
    obtain ⟨N1, hN1⟩ : ∃ n, (Fo.prtS f.es (fun _ => 1) h.n f.rs 0).length = n := ⟨_, rfl⟩
    have hN1b : N1 ≤ 100001 := by rw [← hN1]; exact HL1.out
    rw [hN1] at HO3
    obtain ⟨g3, c3, rfl, -, -⟩ := own_VS hown3 (prtS_pos _ _ _ _ _)
    rw [hN1] at hown3 HO3 ⊢
    have HN1 := Lib.hid hN1
    clear hb3 hown3 hN1
    have q0 := Q3.c0; have q1 := Q3.c1; have q2 := Q3.c2; have q3 := Q3.c3; have q4 := Q3.c4; have q5 := Q3.c5; have q6 := Q3.c6; have ql := Q3.lt
    have v0 := V3.c0; have v1 := V3.c1; have vl := V3.lt
    go_wp2_with fail
    clear q0 q1 q2 q3 q4 q5 q6 ql v0 v1 vl Q3 V3
    refine (wp2_is h f h.jt h.jf HRC.out HRL.out HEL.out _ (HS.out.below R3)).mono ?_; rintro e w4 ⟨hb4, v4, rfl, hown4⟩
    have R4 := R3.trans (hb4.mono R3.size)
    obtain ⟨N2, hN2⟩ : ∃ n, (Fo.prtS f.es (fun r => r.c) h.jf f.rs h.jt).length = n := ⟨_, rfl⟩
    have hN2b : N2 ≤ 100001 := by rw [← hN2]; exact HL2.out
    obtain ⟨g4, c4, rfl, hm4, hnews4⟩ := own_VS hown4 (prtS_pos _ _ _ _ _)
    rw [hN2] at hown4 ⊢
    have HN2 := Lib.hid hN2; have HNW := Lib.hid hnews4
    have hkeep := HO3.out.kept (below_grown hb4 none) none_ne
    have hR3 := R4
    clear hb4 hown4 hnews4 hm4 hN2
    go_wp2_with (first | (at_builtin; refine wpList_append_own_at _ rfl _ _ 87 rfl w.heap.size 80 i0 (.agg #[.int .i64 0, .int .i64 0]) 2 16 Try.underlying87 HI0.out.1 HI0.out.2.1 HI0.out.2.2.1 HI0.out.2.2.2 rfl (by decide) _ N1 (vV (Fo.prtS f.es (fun _ => 1) h.n f.rs 0)) rfl hkeep ⟨g4, 0, none⟩ N2 c4 (vV (Fo.prtS f.es (fun r => r.c) h.jf f.rs h.jt)) rfl (vV_len2 HN2.out) HNW.out (vV_cells _) (by unfold maxLen; omega) (by omega) (by have := hR3.size; omega) ?_; intro v5 w5 hown5 hgrow5 hnil5 hat5; have R5 := R4.grown hgrow5 R4.size (own_ne hkeep); clear hgrow5 hnil5 hat5 hkeep) | fail)
    go_ret
    refine ⟨R5, v5, rfl, ?_⟩
    rw [HSPN.out, List.length_append, HN1.out, HN2.out, vV_app]
    exact hown5
theorem take_atV {l : List Fo.V2} {i : Nat} (h : i < l.length) : l.take (i + 1) = l.take i ++ [atV l i] := by rw [atV_eq h]; exact List.take_succ_eq_append_getElem h
theorem atV_mem {l : List Fo.V2} {i : Nat} (h : i < l.length) : atV l i ∈ l := by rw [atV_eq h]; exact List.getElem_mem h
set_option maxRecDepth 100000 in
set_option maxHeartbeats 3200000 in
theorem wsize_is (h : FH) (f : Fo.Fm) (V : Fo.Ok f) (w : World) (hS : SlF w h f) :
    Calls Try.prog 40 #[.agg #[.int .i64 h.n, .slice h.R h.rl h.rc, .slice h.E h.el h.ec, .int .i64 h.ja, .int .i64 h.jt, .int .i64 h.jf, .slice h.C h.cl h.cc]] w fun e w' => e = .returned (.int .i64 ((Fo.whl f).length : Int)) ∧ Below w.heap.size w w' := by
  have HTOT := Lib.hid V.tot; have HALL := Lib.hid V.all; have HLEN := Lib.hid V.len; have HVV := Lib.hid V
  have HS := Lib.hid (hS.alloc (.cells #[.int .i64 h.n, .slice h.R h.rl h.rc, .slice h.E h.el h.ec, .int .i64 h.ja, .int .i64 h.jt, .int .i64 h.jf, .slice h.C h.cl h.cc] 28))
  have B := (Below.refl w.heap.size w).alloc (Nat.le_refl _) (.cells #[.int .i64 h.n, .slice h.R h.rl h.rc, .slice h.E h.el h.ec, .int .i64 h.ja, .int .i64 h.jt, .int .i64 h.jf, .slice h.C h.cl h.cc] 28)
  clear hS V
  go_enter Try.func40, Try.ntmps40
  go_wp2_with fail
  refine (wspans_is h f HVV.out _ HS.out).mono ?_; rintro e w2 ⟨hb, v, rfl, hown⟩
  obtain ⟨l, hl⟩ : ∃ l, Fo.spn f = l := ⟨_, rfl⟩
  rw [hl] at hown HTOT HALL HLEN
  obtain ⟨hm, A, c, rfl, hSl, -⟩ := own_V hown
  obtain ⟨len, hlen⟩ : ∃ len, l.length = len := ⟨_, rfl⟩
  rw [hlen] at HLEN ⊢
  have B2 := B.trans (hb.mono (by simp))
  have HN := Lib.hid hlen; have HL := Lib.hid hSl
  have hlb := HLEN.out
  clear hb hown hm hSl hlen B hl
  go_wp2_with fail
  go_loopw [3, 9] (fun s3 s9 wr => ∃ (i : Nat) (t : Int), i ≤ len ∧ s9 = .int .i64 (i : Int) ∧ s3 = .int .i64 t ∧ Hid (Fo.tot (l.take i) = t) ∧ Below w2.heap.size w2 wr) (fun _ s9 _ => len - (intOf s9).toNat)
  case atStart => exact ⟨0, 0, Nat.zero_le _, rfl, rfl, Lib.hid rfl, Below.refl _ _⟩
  case round =>
    obtain ⟨i, t, hi, rfl, rfl, HT, hR⟩ := hrel
    by_cases hlt : i < len
    · have hil : i < l.length := by rw [HN.out]; exact hlt
      obtain ⟨b, off, rfl, hb, hc⟩ := HL.out (by omega)
      have X := (hc i hil).below hR hb
      obtain ⟨x, hx⟩ : ∃ x, atV l i = x := ⟨_, rfl⟩
      rw [hx] at X
      have hxb := HALL.out x (by rw [← hx]; exact atV_mem hil)
      have htb := Fo.tot_le (l := l.take i) (fun s hs => HALL.out s (List.mem_of_mem_take hs))
      rw [HT.out, List.length_take] at htb
      have HT2 : Hid (Fo.tot (l.take (i + 1)) = t + (x.p - x.b)) := Lib.hid (by rw [take_atV hil, Fo.tot_snoc, hx, HT.out])
      obtain ⟨x0, x1, x2⟩ := hxb
      obtain ⟨t0, t1⟩ := htb
      have t2 : t ≤ 1000000000 := by omega
      obtain ⟨c0, c1⟩ := X
      have hR2 := hR.alloc hR.size (.cells #[.int .i64 x.b, .int .i64 x.p] 80)
      have hi1 : (i : Int) < (len : Int) := by omega
      clear hc hx hil t1
      go_wp2_with fail
      go_roundw
      case rel => exact ⟨i + 1, t + (x.p - x.b), by omega, by simp, rfl, HT2, hR2⟩
      case measure => simp [intOf]; omega
    · obtain rfl : i = len := by omega
      obtain rfl : t = ((Fo.whl f).length : Int) := by
        rw [← HTOT.out, ← HT.out, List.take_of_length_le (by rw [HN.out]; exact Nat.le_refl _)]
      go_wp2_with fail
      go_ret
      exact ⟨rfl, B2.trans (hR.mono B2.size)⟩
end Go.Proofs.Ytakbpgljbbkmkaa
