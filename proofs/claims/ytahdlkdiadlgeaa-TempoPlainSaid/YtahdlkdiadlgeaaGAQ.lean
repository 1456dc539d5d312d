import Derived.Test.YtahdlkdiadlgeaaGAP
import Derived.Test.YtahdlkdiadlgeaaGAO
/- The walk of the reference's Cut, where it cuts. -/
namespace Go.Proofs.Ytahdlkdiadlgeaa
open Go.RowKit

/-- 'append(own, x...)', x a slice of triples, nil or not. -/
theorem append_slt {P : Program} {w : World} {ops : Array Oper} {rest : List Oper} {o : Oper} {a : Act} {Q : Exit → Act → World → Prop} (hgd : o.guard = none) (s x : Operand) (t : TypeId)
    (ho : o.op = .call { callee := .builtin .append, args := #[s, x], argTypes := #[t, t] })
    (base : Nat) (e : TypeId) (i : TypeInfo) (z : Value) (bytes : Nat) (ht : P.underlying t = some (.slice e)) (hi : P.info? e = some i) (hz : i.zero = some z)
    (hsize : i.size = 3) (hby : i.bytes = bytes) (hzs : z.cells.size = 3)
    (v : Value) (n : Nat) (xs : List Value) (hs : a.eval s = v) (hown : w.ownsRow base e 3 v n xs)
    (A : Option Addr) (m c : Nat) (g : List Fo.T3) (hx : a.eval x = .slice A m c) (hA : A = none → c = 0) (hg : g.length = m) (hL : SlT w A g)
    (h63 : n + m ≤ maxLen) (hbytes : (n + m) * bytes ≤ 140737488355328) (hbase : base ≤ w.heap.size)
    (h : ∀ v' w', w'.ownsRow base e 3 v' (n + m) (xs ++ vT g) → w.grownBy w' v.ownBlock → wpList P ops Q rest (a.put o.dst v') w') : wpList P ops Q (o :: rest) a w := by
  subst hg
  cases A with
  | none =>
    obtain rfl := hA rfl
    have h0 : g = [] := by
      cases g with
      | nil => rfl
      | cons y r =>
        obtain ⟨b, off, hb, _⟩ := hL (by simp)
        cases hb
    subst h0
    exact wpList_append_own_none hgd s x t ho base e i 3 ht hi v n xs hs hown hx (h v w (by simpa [vT] using hown) ⟨rfl, rfl, rfl, Nat.le_refl _, fun _ _ _ => rfl⟩)
  | some ad =>
    refine wpList_append_own w hgd s x t ho base e i z 3 bytes ht hi hz hsize hby hzs (by omega) v n xs hs hown ad g.length c (vT g) hx (by rw [vT_length]) ?_ (vT_cells g) h63 hbytes hbase fun v' w' h1 h2 _ => h v' w' h1 h2
    cases g with
    | nil => intro j u hj; simp [vT] at hj
    | cons y r =>
      obtain ⟨b, off, hb, _, hc⟩ := hL (by simp)
      cases hb
      exact SlT.news hc
theorem FB.other {w : World} {b : Nat} {s : FH} (h : FB w b s) {p : Addr} (hp : b ≠ p.block) (v : Value) : FB (w.setCell p v) b s := by
  obtain ⟨l, c0, c1, c2, c3, c4, c5, c6⟩ := h
  have k : ∀ j, (w.setCell p v).cell? ⟨b, j, none⟩ = w.cell? ⟨b, j, none⟩ := fun j => World.cell?_setCell_other (w := w) (a := p) (b := ⟨b, j, none⟩) (v := v) (fun e2 => hp (by rw [e2]))
  exact ⟨by simpa using l, (k 0).trans c0, (k 1).trans c1, (k 2).trans c2, (k 3).trans c3, (k 4).trans c4, (k 5).trans c5, (k 6).trans c6⟩
set_option maxHeartbeats 1600000 in
theorem FB.put {w : World} {b : Nat} {s : FH} (h : FB w b s) (fr : ∀ j, w.frozen? ⟨b, j, none⟩ = false) (t : FH) : FB (putF w b t) b t := by
  obtain ⟨l, c0, c1, c2, c3, c4, c5, c6⟩ := h
  have f0 := fr 0; have f1 := fr 1; have f2 := fr 2; have f3 := fr 3; have f4 := fr 4; have f5 := fr 5; have f6 := fr 6
  unfold putF
  refine ⟨by simpa using l, ?_, ?_, ?_, ?_, ?_, ?_, ?_⟩
  all_goals go_simp
theorem cell_three_new (w : World) (a b c : Value) (t : TypeId) : ∀ j u, [a, b, c][j]? = some u → (w.alloc (.cells #[a, b, c] t)).cell? ((⟨w.heap.size, 0, none⟩ : Addr).add j) = some u := fun j u hj => by
  rw [addr_add]
  match j, hj with
  | 0, hj => simp at hj; subst hj; go_simp
  | 1, hj => simp at hj; subst hj; go_simp
  | 2, hj => simp at hj; subst hj; go_simp
  | j + 3, hj => simp at hj
theorem own_T6 {w : World} {base m : Nat} {e : TypeId} {v : Value} {l : List Fo.T3} {c : Fo.T3} (h : w.ownsRow base e 3 v (0 + m + 1) ([] ++ vT l ++ [.int .i64 c.a, .int .i64 c.b, .int .i64 c.c])) : (l ++ [c]).length = m + 1 ∧ ∃ A cap, v = .slice A (m + 1) cap ∧ w.ownsRow base e 3 v (m + 1) (vT (l ++ [c])) ∧ m + 1 ≤ cap := by
  rw [Nat.zero_add, List.nil_append, show [Value.int .i64 c.a, .int .i64 c.b, .int .i64 c.c] = vT [c] from (vT_one c).symm, ← vT_app] at h
  obtain ⟨hl, A, cap, hv, -, -⟩ := own_T h
  refine ⟨hl, A, cap, hv, h, ?_⟩
  rcases h.2 with ⟨h1, h2⟩ | ⟨g2, cap2, cur, h1, _, _, h4, _⟩
  · omega
  · rw [h1] at hv
    cases hv
    exact h4
end Go.Proofs.Ytahdlkdiadlgeaa

/- The walks of reprise's areRepeats and areEndings, with the library's IndexFunc and ContainsFunc over repeats. -/
namespace Go.Proofs.Ytahdlkdiadlgeaa
open Go.RowKit

theorem Var2.put0 {w : World} {b : Nat} {x y : Int} (h : Var2 w b x y) (p : Int) : Var2 (w.setCell ⟨b, 0, none⟩ (.int .i64 p)) b p y := by
  obtain ⟨⟨l, c0, c1⟩, f0, f1⟩ := h
  refine ⟨⟨?_, ?_, ?_⟩, ?_, ?_⟩
  · simpa using l
  all_goals go_simp
theorem Var2.put1 {w : World} {b : Nat} {x y : Int} (h : Var2 w b x y) (p : Int) : Var2 (w.setCell ⟨b, 1, none⟩ (.int .i64 p)) b x p := by
  obtain ⟨⟨l, c0, c1⟩, f0, f1⟩ := h
  refine ⟨⟨?_, ?_, ?_⟩, ?_, ?_⟩
  · simpa using l
  all_goals go_simp
set_option maxHeartbeats 3200000 in
theorem wrepeats_is (h : FH) (f : Fo.Fm) (r : Bool) (hr : r = true ↔ f.rs.length ≤ 100 ∧ Fo.chR h.n 0 f.rs) (w : World) (hS : SlF w h f) :
    Calls Try.prog 61 #[.agg #[.int .i64 h.n, .slice h.R h.rl h.rc, .slice h.E h.el h.ec, .int .i64 h.ja, .int .i64 h.jt, .int .i64 h.jf, .slice h.C h.cl h.cc]] w fun e w' => e = .returned (.bool r) ∧ Below w.heap.size w w' := by
  have HN := Lib.hid hS.rl; have HL := Lib.hid hS.sr
  have B := (Below.refl w.heap.size w).alloc (Nat.le_refl _) (.cells #[.int .i64 h.n, .slice h.R h.rl h.rc, .slice h.E h.el h.ec, .int .i64 h.ja, .int .i64 h.jt, .int .i64 h.jf, .slice h.C h.cl h.cc] 47)
  by_cases h100 : h.rl ≤ 100
  case neg =>
    obtain rfl : r = false := by
      cases r with
      | false => rfl
      | true => exact absurd (hr.1 rfl).1 (by rw [hS.rl]; omega)
    have h1 : (h.rl : Int) > 100 := by omega
    clear hr hS h100
    go_enter Try.func61, Try.ntmps61
    go_wp2_with fail
    go_ret
    exact ⟨rfl, B⟩
  have HF : Hid (r = true ↔ Fo.chR h.n 0 f.rs) := Lib.hid (hr.trans ⟨fun h => h.2, fun h => ⟨by rw [hS.rl]; omega, h⟩⟩)
  have h1 : ¬ (h.rl : Int) > 100 := by omega
  have V0 : Var2 ((w.alloc (.cells #[.int .i64 h.n, .slice h.R h.rl h.rc, .slice h.E h.el h.ec, .int .i64 h.ja, .int .i64 h.jt, .int .i64 h.jf, .slice h.C h.cl h.cc] 47)).alloc (.cells #[.int .i64 0, .int .i64 h.n] 114)) (w.alloc (.cells #[.int .i64 h.n, .slice h.R h.rl h.rc, .slice h.E h.el h.ec, .int .i64 h.ja, .int .i64 h.jt, .int .i64 h.jf, .slice h.C h.cl h.cc] 47)).heap.size 0 h.n := Var2.new _ _ _ _
  have Q0 := (FB.new w h).alloc (.cells #[.int .i64 0, .int .i64 h.n] 114)
  have B0 := B.alloc (by simp) (.cells #[.int .i64 0, .int .i64 h.n] 114)
  rw [World.size_alloc] at V0
  clear hr hS B
  go_enter Try.func61, Try.ntmps61
  go_wp2_with fail
  have HV0 := Lib.hid V0; have HQ0 := Lib.hid Q0; have HB0 := Lib.hid B0
  clear V0 Q0 B0
  go_loopw [16] (fun s16 wr => ∃ (i : Nat) (last : Int), i ≤ h.rl ∧ s16 = .int .i64 (i : Int) ∧ Hid (Fo.chR h.n 0 f.rs ↔ Fo.chR h.n last (f.rs.drop i)) ∧ Hid (Var2 wr (w.heap.size + 1) last h.n) ∧ Hid (FB wr w.heap.size h) ∧ Below w.heap.size w wr) (fun s16 _ => h.rl - (intOf s16).toNat)
  case atStart => exact ⟨0, 0, Nat.zero_le _, rfl, Lib.hid (by rw [List.drop_zero]), HV0, HQ0, HB0.out⟩
  case round =>
    obtain ⟨i, last, hi, rfl, HJ, HV, HQ, hR⟩ := hrel
    by_cases hlt : i < h.rl
    · have hil : i < f.rs.length := by rw [HN.out]; exact hlt
      obtain ⟨b, off, hRe, hb, hc⟩ := HL.out (by omega)
      have X := (hc i hil).below hR hb
      obtain ⟨x, hx⟩ : ∃ x, Fo.at3 f.rs i = x := ⟨_, rfl⟩
      rw [hx] at X
      have hd := Fo.drop_at hil
      rw [hx] at hd
      replace HJ : Hid (Fo.chR h.n 0 f.rs ↔ (last ≤ x.a ∧ x.a < x.b ∧ x.b ≤ h.n ∧ 1 ≤ x.c ∧ x.c ≤ 9) ∧ Fo.chR h.n x.b (f.rs.drop (i + 1))) := Lib.hid (by have h := HJ.out; rw [hd] at h; exact h)
      have XT := TB.new wr x 66
      have V1 := HV.out.alloc (.cells #[.int .i64 x.a, .int .i64 x.b, .int .i64 x.c] 66)
      have Q1 := HQ.out.alloc (.cells #[.int .i64 x.a, .int .i64 x.b, .int .i64 x.c] 66)
      have R1 := hR.alloc hR.size (.cells #[.int .i64 x.a, .int .i64 x.b, .int .i64 x.c] 66)
      have v0 := HV.out.at2.c0; have v1 := HV.out.at2.c1; have vl := HV.out.at2.lt
      obtain ⟨g, hg⟩ : ∃ g : Bool, g = true ↔ Fo.iw x.a x.b last h.n := ⟨decide _, decide_eq_true_iff⟩
      obtain ⟨k, hk⟩ : ∃ k : Bool, k = true ↔ 1 ≤ x.c ∧ x.c ≤ 9 := ⟨decide _, decide_eq_true_iff⟩
      have HG := Lib.hid hg; have HK := Lib.hid hk
      have HXT := Lib.hid XT; have HV1 := Lib.hid V1; have HQ1 := Lib.hid Q1; have HR1 := Lib.hid R1
      obtain ⟨c0, c1, c2⟩ := X
      have hi1 : (i : Int) < (h.rl : Int) := by omega
      have hRf := hRe
      clear hc hx hil hd hg hk XT V1 Q1 R1
      rw [hRe]
      go_wp2_with fail
      refine (wwithin_is x.a x.b last h.n g HG.out _).mono ?_; rintro e w3 ⟨rfl, hb3⟩
      have X3 := HXT.out.below hb3; have V3 := HV1.out.below hb3; have Q3 := HQ1.out.below hb3
      have R3 := HR1.out.trans (hb3.mono HR1.out.size)
      clear hb3 v0 v1 vl c0 c1 c2
      cases g with
      | false =>
        obtain rfl : r = false := by
          cases r with
          | false => rfl
          | true => have h := (HJ.out.1 (HF.out.1 rfl)).1; exact absurd (HG.out.2 ⟨h.1, h.2.1, h.2.2.1⟩) (by simp)
        go_wp2_with fail
        go_ret
        exact ⟨rfl, R3⟩
      | true =>
        have HG2 := Lib.hid (HG.out.1 rfl)
        have x2 := X3.c2; have xl := X3.lt
        go_wp2_with fail
        refine (lbetween_is x.c 1 9 k HK.out _).mono ?_; rintro e w4 ⟨rfl, rfl⟩
        cases k with
        | false =>
          obtain rfl : r = false := by
            cases r with
            | false => rfl
            | true => have h := (HJ.out.1 (HF.out.1 rfl)).1; exact absurd (HK.out.2 ⟨h.2.2.2.1, h.2.2.2.2⟩) (by simp)
          go_wp2_with fail
          go_ret
          exact ⟨rfl, R3⟩
        | true =>
          have HJ2 : Hid (Fo.chR h.n 0 f.rs ↔ Fo.chR h.n x.b (f.rs.drop (i + 1))) := Lib.hid (HJ.out.trans ⟨fun h => h.2, fun h => ⟨⟨HG2.out.1, HG2.out.2.1, HG2.out.2.2, (HK.out.1 rfl).1, (HK.out.1 rfl).2⟩, h⟩⟩)
          have x1 := X3.c1
          have v0 := V3.at2.c0; have vf := V3.f0; have vl := V3.at2.lt
          have HV4 := Lib.hid (V3.put0 x.b)
          have HQ4 := Lib.hid (Q3.other (p := ⟨w.heap.size + 1, 0, none⟩) (by simp) (.int .i64 x.b))
          have HR4 := Lib.hid (R3.setCell (p := ⟨w.heap.size + 1, 0, none⟩) (by simp) (.int .i64 x.b))
          clear X3 V3 Q3 R3
          go_wp2_with fail
          go_roundw
          case rel => exact ⟨i + 1, x.b, by omega, by simp, HJ2, HV4, HQ4, HR4.out⟩
          case measure => simp [intOf]; omega
    · obtain rfl : i = h.rl := by omega
      obtain rfl : r = true := HF.out.2 (HJ.out.2 (by rw [List.drop_of_length_le (by rw [HN.out]; exact Nat.le_refl _)]; exact trivial))
      go_wp2_with fail
      go_ret
      exact ⟨rfl, hR⟩
end Go.Proofs.Ytahdlkdiadlgeaa

/- The walks of areEndings' closure, of IndexFunc and ContainsFunc over repeats with it, and of areEndings. -/
namespace Go.Proofs.Ytahdlkdiadlgeaa
open Go.RowKit

set_option maxHeartbeats 800000 in
theorem wend1_is (x : Fo.T3) (a b : Int) (ob : Nat) (r : Bool) (hr : r = decide (Fo.iw a b x.a x.b)) (w : World) (hB : At2 w ob a b) :
    Calls Try.prog 80 #[.agg #[.int .i64 x.a, .int .i64 x.b, .int .i64 x.c], .pointer (some ⟨ob, 0, none⟩)] w fun e w' => e = .returned (.bool r) ∧ Below w.heap.size w w' := by
  have B := (Below.refl w.heap.size w).alloc (Nat.le_refl _) (.cells #[.int .i64 x.a, .int .i64 x.b, .int .i64 x.c] 66)
  have v0 := hB.c0; have v1 := hB.c1; have vl := hB.lt
  have HR : Hid (r = true ↔ Fo.iw a b x.a x.b) := Lib.hid (by rw [hr, decide_eq_true_eq])
  clear hr hB
  go_enter Try.func80, Try.ntmps80
  go_wp2_with fail
  refine (wwithin_is a b x.a x.b r HR.out _).mono ?_; rintro e w2 ⟨rfl, hb⟩
  have B2 := B.trans (hb.mono (by simp))
  clear hb B
  go_wp2_with fail
  go_ret
  exact ⟨rfl, B2⟩
set_option maxRecDepth 100000 in
set_option maxHeartbeats 1600000 in
theorem weidx_is (l : List Fo.T3) (cl : Fo.T3 → Bool) (len cap : Nat) (A : Option Addr) (ob : Nat) (hl : l.length = len) (hmax : len ≤ 1000000) (w : World) (hL : SlT w A l) (hC : ∀ x ∈ l, ∀ w1, Below w.heap.size w w1 → Calls Try.prog 80 #[.agg #[.int .i64 x.a, .int .i64 x.b, .int .i64 x.c], .pointer (some ⟨ob, 0, none⟩)] w1 fun e w' => e = .returned (.bool (cl x)) ∧ Below w1.heap.size w1 w') :
    Calls Try.prog 89 #[.slice A len cap, .func (.func 80) #[] #[.pointer (some ⟨ob, 0, none⟩)]] w fun e w' => ∃ r : Int, e = .returned (.int .i64 r) ∧ (0 ≤ r ↔ ∃ x ∈ l, cl x = true) ∧ Below w.heap.size w w' := by
  have HN := Lib.hid hl
  have HL := Lib.hid hL
  have HC := Lib.hid hC
  clear hl hL hC
  go_enter Try.func89, Try.ntmps89
  go_wp2_with fail
  go_loopw [8] (fun s8 wr => ∃ (k : Nat), k ≤ len ∧ s8 = .int .i64 (k : Int) ∧ Hid (∀ j, j < k → cl (Fo.at3 l j) = false) ∧ Below w.heap.size w wr) (fun s8 _ => len - (intOf s8).toNat)
  case atStart => exact ⟨0, Nat.zero_le _, rfl, Lib.hid (fun j hj => by omega), Below.refl _ _⟩
  case round =>
    obtain ⟨k, hk, rfl, HP, hX⟩ := hrel
    by_cases hlt : k < len
    · have hx : k < l.length := by rw [HN.out]; exact hlt
      obtain ⟨bb, off, rfl, hbb, hc⟩ := HL.out (by rw [HN.out]; omega)
      have X := (hc k hx).below hX hbb
      obtain ⟨x, hn⟩ : ∃ x, Fo.at3 l k = x := ⟨_, rfl⟩
      rw [hn] at X
      have HNE := Lib.hid hn
      have HMEM : Hid (x ∈ l) := Lib.hid (by rw [← hn]; exact Fo.at3_mem hx)
      have hcall := HC.out x HMEM.out _ hX
      obtain ⟨g, hg⟩ : ∃ g, cl x = g := ⟨_, rfl⟩
      rw [hg] at hcall
      have HGE := Lib.hid hg
      have HCALL := Lib.hid hcall
      have hj1 : (k : Int) < (len : Int) := by omega
      obtain ⟨c0, c1, c2⟩ := X
      clear hx hc hn hg hcall
      cases g with
      | true =>
        have HGE2 := Lib.hid HGE.out
        go_wp2_with fail
        refine HCALL.out.mono ?_; rintro e w5 ⟨rfl, hb5⟩
        have hX5 := hX.trans (hb5.mono hX.size)
        clear hb5 c0 c1 c2
        go_wp2_with fail
        go_ret
        exact ⟨(k : Int), rfl, ⟨fun _ => ⟨x, HMEM.out, HGE2.out⟩, fun _ => by omega⟩, hX5⟩
      | false =>
        have HP2 : Hid (∀ j, j < k + 1 → cl (Fo.at3 l j) = false) := Lib.hid (fun j hj => by
          rcases Nat.lt_or_ge j k with a | a
          · exact HP.out j a
          · rw [show j = k by omega, HNE.out]; exact HGE.out)
        go_wp2_with fail
        refine HCALL.out.mono ?_; rintro e w5 ⟨rfl, hb5⟩
        have hX5 := hX.trans (hb5.mono hX.size)
        clear hb5 c0 c1 c2
        go_wp2_with fail
        go_roundw
        case rel => exact ⟨k + 1, by omega, by simp, HP2, hX5⟩
        case measure => simp [intOf]; omega
    · obtain rfl : k = len := by omega
      go_wp2_with fail
      go_ret
      refine ⟨-1, rfl, ⟨fun h => by omega, ?_⟩, hX⟩
      rintro ⟨n, hn, e⟩
      obtain ⟨j, hj, rfl⟩ := List.mem_iff_getElem.1 hn
      have h := HP.out j (by rw [← HN.out]; exact hj)
      rw [Fo.at3_eq hj, e] at h
      cases h
set_option maxHeartbeats 800000 in
theorem wecon_is (l : List Fo.T3) (cl : Fo.T3 → Bool) (f : Bool) (hf : f = true ↔ ∃ x ∈ l, cl x = true) (len cap : Nat) (A : Option Addr) (ob : Nat) (hl : l.length = len) (hmax : len ≤ 1000000) (w : World) (hL : SlT w A l) (hC : ∀ x ∈ l, ∀ w1, Below w.heap.size w w1 → Calls Try.prog 80 #[.agg #[.int .i64 x.a, .int .i64 x.b, .int .i64 x.c], .pointer (some ⟨ob, 0, none⟩)] w1 fun e w' => e = .returned (.bool (cl x)) ∧ Below w1.heap.size w1 w') :
    Calls Try.prog 81 #[.slice A len cap, .func (.func 80) #[] #[.pointer (some ⟨ob, 0, none⟩)]] w fun e w' => e = .returned (.bool f) ∧ Below w.heap.size w w' := by
  have HF := Lib.hid hf
  have HI := Lib.hid (weidx_is l cl len cap A ob hl hmax w hL hC)
  clear hf hl hL hC
  go_enter Try.func81, Try.ntmps81
  go_wp2_with fail
  refine HI.out.mono ?_; rintro e w1 ⟨r, rfl, hr, hb⟩
  obtain rfl : f = decide (0 ≤ r) := by rw [Bool.eq_iff_iff, HF.out, decide_eq_true_eq]; exact hr.symm
  clear hr
  go_wp2_with fail
  go_ret
  exact ⟨rfl, hb⟩
/-- The chain of endings, where the repeats are right: within what is left of all bars, too. -/
theorem Fo.chE_iff {n : Int} {rs : List Fo.T3} (hrs : ∀ x ∈ rs, x.b ≤ n) {last : Int} {x : Fo.T3} {l : List Fo.T3} : Fo.chE rs last (x :: l) ↔ (Fo.iw x.a x.b last n ∧ (1 ≤ x.c ∧ x.c ≤ 9) ∧ ∃ y ∈ rs, Fo.iw x.a x.b y.a y.b) ∧ Fo.chE rs x.b l := by
  show ((last ≤ x.a ∧ x.a < x.b ∧ Fo.ins rs x.a x.b ∧ 1 ≤ x.c ∧ x.c ≤ 9) ∧ Fo.chE rs x.b l) ↔ _
  unfold Fo.iw Fo.ins
  constructor
  · rintro ⟨⟨h1, h2, ⟨y, hy, h3, h4⟩, h5, h6⟩, h7⟩
    have := hrs y hy
    exact ⟨⟨⟨h1, h2, by omega⟩, ⟨h5, h6⟩, y, hy, h3, h2, h4⟩, h7⟩
  · rintro ⟨⟨⟨h1, h2, h3⟩, ⟨h4, h5⟩, y, hy, h6, h7, h8⟩, h9⟩
    exact ⟨⟨h1, h2, ⟨y, hy, h6, h8⟩, h4, h5⟩, h9⟩
set_option maxHeartbeats 6400000 in
theorem wendings_is (h : FH) (f : Fo.Fm) (r : Bool) (hr : r = true ↔ f.es.length ≤ 100 ∧ Fo.chE f.rs 0 f.es) (hrs : ∀ x ∈ f.rs, x.b ≤ h.n) (hrl : h.rl ≤ 100) (w : World) (hS : SlF w h f) :
    Calls Try.prog 62 #[.agg #[.int .i64 h.n, .slice h.R h.rl h.rc, .slice h.E h.el h.ec, .int .i64 h.ja, .int .i64 h.jt, .int .i64 h.jf, .slice h.C h.cl h.cc]] w fun e w' => e = .returned (.bool r) ∧ Below w.heap.size w w' := by
  have HN := Lib.hid hS.el; have HL := Lib.hid hS.se
  have HNR := Lib.hid hS.rl; have HLR := Lib.hid hS.sr
  have HRS := Lib.hid hrs
  have B := (Below.refl w.heap.size w).alloc (Nat.le_refl _) (.cells #[.int .i64 h.n, .slice h.R h.rl h.rc, .slice h.E h.el h.ec, .int .i64 h.ja, .int .i64 h.jt, .int .i64 h.jf, .slice h.C h.cl h.cc] 47)
  by_cases h100 : h.el ≤ 100
  case neg =>
    obtain rfl : r = false := by
      cases r with
      | false => rfl
      | true => exact absurd (hr.1 rfl).1 (by rw [hS.el]; omega)
    have h1 : (h.el : Int) > 100 := by omega
    clear hr hS h100 hrs
    go_enter Try.func62, Try.ntmps62
    go_wp2_with fail
    go_ret
    exact ⟨rfl, B⟩
  have HF : Hid (r = true ↔ Fo.chE f.rs 0 f.es) := Lib.hid (hr.trans ⟨fun h => h.2, fun h => ⟨by rw [hS.el]; omega, h⟩⟩)
  have h1 : ¬ (h.el : Int) > 100 := by omega
  have V0 : Var2 ((w.alloc (.cells #[.int .i64 h.n, .slice h.R h.rl h.rc, .slice h.E h.el h.ec, .int .i64 h.ja, .int .i64 h.jt, .int .i64 h.jf, .slice h.C h.cl h.cc] 47)).alloc (.cells #[.int .i64 0, .int .i64 h.n] 114)) (w.alloc (.cells #[.int .i64 h.n, .slice h.R h.rl h.rc, .slice h.E h.el h.ec, .int .i64 h.ja, .int .i64 h.jt, .int .i64 h.jf, .slice h.C h.cl h.cc] 47)).heap.size 0 h.n := Var2.new _ _ _ _
  have Q0 := (FB.new w h).alloc (.cells #[.int .i64 0, .int .i64 h.n] 114)
  have B0 := B.alloc (by simp) (.cells #[.int .i64 0, .int .i64 h.n] 114)
  rw [World.size_alloc] at V0
  clear hr hS B hrs
  go_enter Try.func62, Try.ntmps62
  go_wp2_with fail
  have HV0 := Lib.hid V0; have HQ0 := Lib.hid Q0; have HB0 := Lib.hid B0
  clear V0 Q0 B0
  go_loopw [18] (fun s18 wr => ∃ (i : Nat) (last : Int), i ≤ h.el ∧ s18 = .int .i64 (i : Int) ∧ Hid (Fo.chE f.rs 0 f.es ↔ Fo.chE f.rs last (f.es.drop i)) ∧ Hid (Var2 wr (w.heap.size + 1) last h.n) ∧ Hid (FB wr w.heap.size h) ∧ Below w.heap.size w wr) (fun s18 _ => h.el - (intOf s18).toNat)
  case atStart => exact ⟨0, 0, Nat.zero_le _, rfl, Lib.hid (by rw [List.drop_zero]), HV0, HQ0, HB0.out⟩
  case round =>
    obtain ⟨i, last, hi, rfl, HJ, HV, HQ, hR⟩ := hrel
    by_cases hlt : i < h.el
    · have hil : i < f.es.length := by rw [HN.out]; exact hlt
      obtain ⟨b, off, hRe, hb, hc⟩ := HL.out (by omega)
      have X := (hc i hil).below hR hb
      obtain ⟨x, hx⟩ : ∃ x, Fo.at3 f.es i = x := ⟨_, rfl⟩
      rw [hx] at X
      have hd := Fo.drop_at hil
      rw [hx] at hd
      replace HJ : Hid (Fo.chE f.rs 0 f.es ↔ (Fo.iw x.a x.b last h.n ∧ (1 ≤ x.c ∧ x.c ≤ 9) ∧ ∃ y ∈ f.rs, Fo.iw x.a x.b y.a y.b) ∧ Fo.chE f.rs x.b (f.es.drop (i + 1))) := Lib.hid (by have h := HJ.out; rw [hd, Fo.chE_iff HRS.out] at h; exact h)
      have XT := (TB.new wr x 116).alloc (.cells #[.int .i64 x.a, .int .i64 x.b] 114)
      have XS := At2.new (wr.alloc (.cells #[.int .i64 x.a, .int .i64 x.b, .int .i64 x.c] 116)) x.a x.b 114
      rw [World.size_alloc] at XS
      have V1 := (HV.out.alloc (.cells #[.int .i64 x.a, .int .i64 x.b, .int .i64 x.c] 116)).alloc (.cells #[.int .i64 x.a, .int .i64 x.b] 114)
      have Q1 := (HQ.out.alloc (.cells #[.int .i64 x.a, .int .i64 x.b, .int .i64 x.c] 116)).alloc (.cells #[.int .i64 x.a, .int .i64 x.b] 114)
      have R1 := (hR.alloc hR.size (.cells #[.int .i64 x.a, .int .i64 x.b, .int .i64 x.c] 116)).alloc (by have := hR.size; simp; omega) (.cells #[.int .i64 x.a, .int .i64 x.b] 114)
      have v0 := HV.out.at2.c0; have v1 := HV.out.at2.c1; have vl := HV.out.at2.lt
      have vl0 : w.heap.size < wr.heap.size := by omega
      obtain ⟨g, hg⟩ : ∃ g : Bool, g = true ↔ Fo.iw x.a x.b last h.n := ⟨decide _, decide_eq_true_iff⟩
      obtain ⟨k, hk⟩ : ∃ k : Bool, k = true ↔ 1 ≤ x.c ∧ x.c ≤ 9 := ⟨decide _, decide_eq_true_iff⟩
      obtain ⟨q, hq⟩ : ∃ q : Bool, q = true ↔ ∃ y ∈ f.rs, decide (Fo.iw x.a x.b y.a y.b) = true := ⟨decide _, decide_eq_true_iff⟩
      have HG := Lib.hid hg; have HK := Lib.hid hk; have HQQ := Lib.hid hq
      have HXT := Lib.hid XT; have HXS := Lib.hid XS; have HV1 := Lib.hid V1; have HQ1 := Lib.hid Q1; have HR1 := Lib.hid R1
      obtain ⟨c0, c1, c2⟩ := X
      have hi1 : (i : Int) < (h.el : Int) := by omega
      clear hc hx hil hd hg hk hq XT XS V1 Q1 R1
      rw [hRe]
      go_wp2_with fail
      refine (wwithin_is x.a x.b last h.n g HG.out _).mono ?_; rintro e w3 ⟨rfl, hb3⟩
      have X3 := HXT.out.below hb3; have S3 := HXS.out.below hb3; have V3 := HV1.out.below hb3; have Q3 := HQ1.out.below hb3
      have R3 := HR1.out.trans (hb3.mono HR1.out.size)
      clear hb3 v0 v1 vl vl0 c0 c1 c2
      cases g with
      | false =>
        obtain rfl : r = false := by
          cases r with
          | false => rfl
          | true => have h := (HJ.out.1 (HF.out.1 rfl)).1.1; exact absurd (HG.out.2 h) (by simp)
        go_wp2_with fail
        go_ret
        exact ⟨rfl, R3⟩
      | true =>
        have HG2 := Lib.hid (HG.out.1 rfl)
        have x2 := X3.c2; have xl := X3.lt
        go_wp2_with fail
        refine (lbetween_is x.c 1 9 k HK.out _).mono ?_; rintro e w4 ⟨rfl, rfl⟩
        cases k with
        | false =>
          obtain rfl : r = false := by
            cases r with
            | false => rfl
            | true => have h := (HJ.out.1 (HF.out.1 rfl)).1.2.1; exact absurd (HK.out.2 h) (by simp)
          go_wp2_with fail
          go_ret
          exact ⟨rfl, R3⟩
        | true =>
          have HK2 := Lib.hid (HK.out.1 rfl)
          have q1 := Q3.c1; have ql := Q3.lt
          go_wp2_with fail
          refine (wecon_is f.rs (fun y => decide (Fo.iw x.a x.b y.a y.b)) q HQQ.out h.rl h.rc h.R (wr.heap.size + 1) HNR.out (by omega) _ (HLR.out.below R3) (fun y _ w1 hw1 => wend1_is y x.a x.b _ _ rfl w1 (S3.below hw1))).mono ?_; rintro e w5 ⟨rfl, hb5⟩
          have X5 := X3.below hb5; have V5 := V3.below hb5; have Q5 := Q3.below hb5
          have R5 := R3.trans (hb5.mono R3.size)
          clear hb5 X3 S3 V3 Q3 R3 x2 xl q1 ql
          cases q with
          | false =>
            obtain rfl : r = false := by
              cases r with
              | false => rfl
              | true => obtain ⟨y, hy, h⟩ := (HJ.out.1 (HF.out.1 rfl)).1.2.2; exact absurd (HQQ.out.2 ⟨y, hy, decide_eq_true h⟩) (by simp)
            go_wp2_with fail
            go_ret
            exact ⟨rfl, R5⟩
          | true =>
            have HQ2 : Hid (∃ y ∈ f.rs, Fo.iw x.a x.b y.a y.b) := Lib.hid (by obtain ⟨y, hy, h⟩ := HQQ.out.1 rfl; exact ⟨y, hy, of_decide_eq_true h⟩)
            have HJ2 : Hid (Fo.chE f.rs 0 f.es ↔ Fo.chE f.rs x.b (f.es.drop (i + 1))) := Lib.hid (HJ.out.trans ⟨fun h => h.2, fun h => ⟨⟨HG2.out, HK2.out, HQ2.out⟩, h⟩⟩)
            have x1 := X5.c1; have xl := X5.lt
            have v0 := V5.at2.c0; have vf := V5.f0; have vl := V5.at2.lt
            have HV4 := Lib.hid (V5.put0 x.b)
            have HQ4 := Lib.hid (Q5.other (p := ⟨w.heap.size + 1, 0, none⟩) (by simp) (.int .i64 x.b))
            have HR4 := Lib.hid (R5.setCell (p := ⟨w.heap.size + 1, 0, none⟩) (by simp) (.int .i64 x.b))
            clear X5 V5 Q5 R5
            go_wp2_with fail
            go_roundw
            case rel => exact ⟨i + 1, x.b, by omega, by simp, HJ2, HV4, HQ4, HR4.out⟩
            case measure => simp [intOf]; omega
    · obtain rfl : i = h.el := by omega
      obtain rfl : r = true := HF.out.2 (HJ.out.2 (by rw [List.drop_of_length_le (by rw [HN.out]; exact Nat.le_refl _)]; exact trivial))
      go_wp2_with fail
      go_ret
      exact ⟨rfl, hR⟩
end Go.Proofs.Ytahdlkdiadlgeaa

/- The walks of isJump's closures, of IndexFunc and ContainsFunc with them, and of isJump. -/
namespace Go.Proofs.Ytahdlkdiadlgeaa
open Go.RowKit

theorem itn_mem {l : List Int} {k : Nat} (h : k < l.length) : atI l k ∈ l := by rw [atI_eq h]; exact List.getElem_mem h
set_option maxHeartbeats 800000 in
theorem wjw_is (x : Fo.T3) (v : Int) (ob : Nat) (r : Bool) (hr : r = decide (x.a < v ∧ v < x.b)) (w : World) (hB : TB w ob x) :
    Calls Try.prog 83 #[.int .i64 v, .pointer (some ⟨ob, 0, none⟩)] w fun e w' => e = .returned (.bool r) ∧ Below w.heap.size w w' := by
  have v0 := hB.c0; have v1 := hB.c1; have vl := hB.lt
  by_cases q0 : x.a < v
  case neg =>
    obtain rfl : r = false := by rw [hr]; exact decide_eq_false (fun h => q0 h.1)
    clear hr hB
    go_enter Try.func83, Try.ntmps83
    go_wp2_with fail
    go_ret
    exact ⟨rfl, Below.refl _ _⟩
  by_cases q1 : v < x.b
  case neg =>
    obtain rfl : r = false := by rw [hr]; exact decide_eq_false (fun h => q1 h.2)
    clear hr hB
    go_enter Try.func83, Try.ntmps83
    go_wp2_with fail
    go_ret
    exact ⟨rfl, Below.refl _ _⟩
  obtain rfl : r = true := by rw [hr]; exact decide_eq_true ⟨q0, q1⟩
  clear hr hB
  go_enter Try.func83, Try.ntmps83
  go_wp2_with fail
  go_ret
  exact ⟨rfl, Below.refl _ _⟩
set_option maxRecDepth 100000 in
set_option maxHeartbeats 1600000 in
theorem wiidx_is (l : List Int) (cl : Int → Bool) (len cap : Nat) (A : Option Addr) (ob : Nat) (hl : l.length = len) (hmax : len ≤ 1000000) (w : World) (hL : SlK .i64 w A l) (hC : ∀ x ∈ l, ∀ w1, Below w.heap.size w w1 → Calls Try.prog 83 #[.int .i64 x, .pointer (some ⟨ob, 0, none⟩)] w1 fun e w' => e = .returned (.bool (cl x)) ∧ Below w1.heap.size w1 w') :
    Calls Try.prog 90 #[.slice A len cap, .func (.func 83) #[] #[.pointer (some ⟨ob, 0, none⟩)]] w fun e w' => ∃ r : Int, e = .returned (.int .i64 r) ∧ (0 ≤ r ↔ ∃ x ∈ l, cl x = true) ∧ Below w.heap.size w w' := by
  have HN := Lib.hid hl
  have HL := Lib.hid hL
  have HC := Lib.hid hC
  clear hl hL hC
  go_enter Try.func90, Try.ntmps90
  go_wp2_with fail
  go_loopw [8] (fun s8 wr => ∃ (k : Nat), k ≤ len ∧ s8 = .int .i64 (k : Int) ∧ Hid (∀ j, j < k → cl (atI l j) = false) ∧ Below w.heap.size w wr) (fun s8 _ => len - (intOf s8).toNat)
  case atStart => exact ⟨0, Nat.zero_le _, rfl, Lib.hid (fun j hj => by omega), Below.refl _ _⟩
  case round =>
    obtain ⟨k, hk, rfl, HP, hX⟩ := hrel
    by_cases hlt : k < len
    · have hx : k < l.length := by rw [HN.out]; exact hlt
      obtain ⟨bb, off, rfl, hbb, hc⟩ := HL.out (by rw [HN.out]; omega)
      have X := (hX.cell (p := ⟨bb, off + k, none⟩) hbb).trans (hc k hx)
      obtain ⟨x, hn⟩ : ∃ x, atI l k = x := ⟨_, rfl⟩
      rw [hn] at X
      have HNE := Lib.hid hn
      have HMEM : Hid (x ∈ l) := Lib.hid (by rw [← hn]; exact itn_mem hx)
      have hcall := HC.out x HMEM.out _ hX
      obtain ⟨g, hg⟩ : ∃ g, cl x = g := ⟨_, rfl⟩
      rw [hg] at hcall
      have HGE := Lib.hid hg
      have HCALL := Lib.hid hcall
      have hj1 : (k : Int) < (len : Int) := by omega
      have c0 := X
      clear hx hc hn hg hcall
      cases g with
      | true =>
        have HGE2 := Lib.hid HGE.out
        go_wp2_with fail
        refine HCALL.out.mono ?_; rintro e w5 ⟨rfl, hb5⟩
        have hX5 := hX.trans (hb5.mono hX.size)
        clear hb5 c0 X
        go_wp2_with fail
        go_ret
        exact ⟨(k : Int), rfl, ⟨fun _ => ⟨x, HMEM.out, HGE2.out⟩, fun _ => by omega⟩, hX5⟩
      | false =>
        have HP2 : Hid (∀ j, j < k + 1 → cl (atI l j) = false) := Lib.hid (fun j hj => by
          rcases Nat.lt_or_ge j k with a | a
          · exact HP.out j a
          · rw [show j = k by omega, HNE.out]; exact HGE.out)
        go_wp2_with fail
        refine HCALL.out.mono ?_; rintro e w5 ⟨rfl, hb5⟩
        have hX5 := hX.trans (hb5.mono hX.size)
        clear hb5 c0 X
        go_wp2_with fail
        go_roundw
        case rel => exact ⟨k + 1, by omega, by simp, HP2, hX5⟩
        case measure => simp [intOf]; omega
    · obtain rfl : k = len := by omega
      go_wp2_with fail
      go_ret
      refine ⟨-1, rfl, ⟨fun h => by omega, ?_⟩, hX⟩
      rintro ⟨n, hn, e⟩
      obtain ⟨j, hj, rfl⟩ := List.mem_iff_getElem.1 hn
      have h := HP.out j (by rw [← HN.out]; exact hj)
      rw [atI_eq hj, e] at h
      cases h
set_option maxHeartbeats 800000 in
theorem wicon_is (l : List Int) (cl : Int → Bool) (f : Bool) (hf : f = true ↔ ∃ x ∈ l, cl x = true) (len cap : Nat) (A : Option Addr) (ob : Nat) (hl : l.length = len) (hmax : len ≤ 1000000) (w : World) (hL : SlK .i64 w A l) (hC : ∀ x ∈ l, ∀ w1, Below w.heap.size w w1 → Calls Try.prog 83 #[.int .i64 x, .pointer (some ⟨ob, 0, none⟩)] w1 fun e w' => e = .returned (.bool (cl x)) ∧ Below w1.heap.size w1 w') :
    Calls Try.prog 84 #[.slice A len cap, .func (.func 83) #[] #[.pointer (some ⟨ob, 0, none⟩)]] w fun e w' => e = .returned (.bool f) ∧ Below w.heap.size w w' := by
  have HF := Lib.hid hf
  have HI := Lib.hid (wiidx_is l cl len cap A ob hl hmax w hL hC)
  clear hf hl hL hC
  go_enter Try.func84, Try.ntmps84
  go_wp2_with fail
  refine HI.out.mono ?_; rintro e w1 ⟨r, rfl, hr, hb⟩
  obtain rfl : f = decide (0 ≤ r) := by rw [Bool.eq_iff_iff, HF.out, decide_eq_true_eq]; exact hr.symm
  clear hr
  go_wp2_with fail
  go_ret
  exact ⟨rfl, hb⟩
theorem cells3_new (w : World) (a b c : Int) (t : TypeId) : SlK .i64 (w.alloc (.cells #[.int .i64 a, .int .i64 b, .int .i64 c] t)) (some ⟨w.heap.size, 0, none⟩) [a, b, c] := fun _ =>
  ⟨w.heap.size, 0, rfl, by simp, fun i hi => by
    match i, hi with
    | 0, _ => rw [show atI [a, b, c] 0 = a from rfl, Nat.zero_add]; go_simp
    | 1, _ => rw [show atI [a, b, c] 1 = b from rfl, Nat.zero_add]; go_simp
    | 2, _ => rw [show atI [a, b, c] 2 = c from rfl, Nat.zero_add]; go_simp
    | i + 3, hi => simp only [List.length_cons, List.length_nil] at hi; omega⟩
/-- A repeat that the jump breaks. -/
def Fo.brk (ja jt jf : Int) (x : Fo.T3) : Prop := ∃ v ∈ [ja, jt, jf], x.a < v ∧ v < x.b
instance (ja jt jf : Int) (x : Fo.T3) : Decidable (Fo.brk ja jt jf x) := by unfold Fo.brk; infer_instance
set_option maxHeartbeats 800000 in
theorem wjb_is (x : Fo.T3) (ja jt jf : Int) (ob : Nat) (r : Bool) (hr : r = decide (Fo.brk ja jt jf x)) (w : World) (hB : At3 w ob ja jt jf) :
    Calls Try.prog 82 #[.agg #[.int .i64 x.a, .int .i64 x.b, .int .i64 x.c], .pointer (some ⟨ob, 0, none⟩)] w fun e w' => e = .returned (.bool r) ∧ Below w.heap.size w w' := by
  have B := ((Below.refl w.heap.size w).alloc (Nat.le_refl _) (.cells #[.int .i64 x.a, .int .i64 x.b, .int .i64 x.c] 66)).alloc (by simp) (.cells #[.int .i64 ja, .int .i64 jt, .int .i64 jf] 3)
  have v0 := hB.c0; have v1 := hB.c1; have v2 := hB.c2; have vl := hB.lt
  have HT := Lib.hid ((TB.new w x 66).alloc (.cells #[.int .i64 ja, .int .i64 jt, .int .i64 jf] 3))
  have HSL := Lib.hid (cells3_new (w.alloc (.cells #[.int .i64 x.a, .int .i64 x.b, .int .i64 x.c] 66)) ja jt jf 3)
  rw [World.size_alloc] at HSL
  have HR : Hid (r = true ↔ ∃ v ∈ [ja, jt, jf], decide (x.a < v ∧ v < x.b) = true) := Lib.hid (by
    rw [hr, decide_eq_true_eq]
    unfold Fo.brk
    constructor
    · rintro ⟨v, hv, h⟩; exact ⟨v, hv, decide_eq_true h⟩
    · rintro ⟨v, hv, h⟩; exact ⟨v, hv, of_decide_eq_true h⟩)
  clear hr hB
  go_enter Try.func82, Try.ntmps82
  go_wp2_with fail
  refine (wicon_is [ja, jt, jf] (fun v => decide (x.a < v ∧ v < x.b)) r HR.out 3 3 _ w.heap.size rfl (by omega) _ HSL.out (fun v _ w1 hw1 => wjw_is x v _ _ rfl w1 (HT.out.below hw1))).mono ?_; rintro e w2 ⟨rfl, hb⟩
  have B2 := B.trans (hb.mono (by simp; omega))
  clear hb B
  go_wp2_with fail
  go_ret
  exact ⟨rfl, B2⟩
set_option maxRecDepth 100000 in
set_option maxHeartbeats 1600000 in
theorem wbidx_is (l : List Fo.T3) (cl : Fo.T3 → Bool) (len cap : Nat) (A : Option Addr) (ob : Nat) (hl : l.length = len) (hmax : len ≤ 1000000) (w : World) (hL : SlT w A l) (hC : ∀ x ∈ l, ∀ w1, Below w.heap.size w w1 → Calls Try.prog 82 #[.agg #[.int .i64 x.a, .int .i64 x.b, .int .i64 x.c], .pointer (some ⟨ob, 0, none⟩)] w1 fun e w' => e = .returned (.bool (cl x)) ∧ Below w1.heap.size w1 w') :
    Calls Try.prog 89 #[.slice A len cap, .func (.func 82) #[] #[.pointer (some ⟨ob, 0, none⟩)]] w fun e w' => ∃ r : Int, e = .returned (.int .i64 r) ∧ (0 ≤ r ↔ ∃ x ∈ l, cl x = true) ∧ Below w.heap.size w w' := by
  have HN := Lib.hid hl
  have HL := Lib.hid hL
  have HC := Lib.hid hC
  clear hl hL hC
  go_enter Try.func89, Try.ntmps89
  go_wp2_with fail
  go_loopw [8] (fun s8 wr => ∃ (k : Nat), k ≤ len ∧ s8 = .int .i64 (k : Int) ∧ Hid (∀ j, j < k → cl (Fo.at3 l j) = false) ∧ Below w.heap.size w wr) (fun s8 _ => len - (intOf s8).toNat)
  case atStart => exact ⟨0, Nat.zero_le _, rfl, Lib.hid (fun j hj => by omega), Below.refl _ _⟩
  case round =>
    obtain ⟨k, hk, rfl, HP, hX⟩ := hrel
    by_cases hlt : k < len
    · have hx : k < l.length := by rw [HN.out]; exact hlt
      obtain ⟨bb, off, rfl, hbb, hc⟩ := HL.out (by rw [HN.out]; omega)
      have X := (hc k hx).below hX hbb
      obtain ⟨x, hn⟩ : ∃ x, Fo.at3 l k = x := ⟨_, rfl⟩
      rw [hn] at X
      have HNE := Lib.hid hn
      have HMEM : Hid (x ∈ l) := Lib.hid (by rw [← hn]; exact Fo.at3_mem hx)
      have hcall := HC.out x HMEM.out _ hX
      obtain ⟨g, hg⟩ : ∃ g, cl x = g := ⟨_, rfl⟩
      rw [hg] at hcall
      have HGE := Lib.hid hg
      have HCALL := Lib.hid hcall
      have hj1 : (k : Int) < (len : Int) := by omega
      obtain ⟨c0, c1, c2⟩ := X
      clear hx hc hn hg hcall
      cases g with
      | true =>
        have HGE2 := Lib.hid HGE.out
        go_wp2_with fail
        refine HCALL.out.mono ?_; rintro e w5 ⟨rfl, hb5⟩
        have hX5 := hX.trans (hb5.mono hX.size)
        clear hb5 c0 c1 c2
        go_wp2_with fail
        go_ret
        exact ⟨(k : Int), rfl, ⟨fun _ => ⟨x, HMEM.out, HGE2.out⟩, fun _ => by omega⟩, hX5⟩
      | false =>
        have HP2 : Hid (∀ j, j < k + 1 → cl (Fo.at3 l j) = false) := Lib.hid (fun j hj => by
          rcases Nat.lt_or_ge j k with a | a
          · exact HP.out j a
          · rw [show j = k by omega, HNE.out]; exact HGE.out)
        go_wp2_with fail
        refine HCALL.out.mono ?_; rintro e w5 ⟨rfl, hb5⟩
        have hX5 := hX.trans (hb5.mono hX.size)
        clear hb5 c0 c1 c2
        go_wp2_with fail
        go_roundw
        case rel => exact ⟨k + 1, by omega, by simp, HP2, hX5⟩
        case measure => simp [intOf]; omega
    · obtain rfl : k = len := by omega
      go_wp2_with fail
      go_ret
      refine ⟨-1, rfl, ⟨fun h => by omega, ?_⟩, hX⟩
      rintro ⟨n, hn, e⟩
      obtain ⟨j, hj, rfl⟩ := List.mem_iff_getElem.1 hn
      have h := HP.out j (by rw [← HN.out]; exact hj)
      rw [Fo.at3_eq hj, e] at h
      cases h
set_option maxHeartbeats 800000 in
theorem wbcon_is (l : List Fo.T3) (cl : Fo.T3 → Bool) (f : Bool) (hf : f = true ↔ ∃ x ∈ l, cl x = true) (len cap : Nat) (A : Option Addr) (ob : Nat) (hl : l.length = len) (hmax : len ≤ 1000000) (w : World) (hL : SlT w A l) (hC : ∀ x ∈ l, ∀ w1, Below w.heap.size w w1 → Calls Try.prog 82 #[.agg #[.int .i64 x.a, .int .i64 x.b, .int .i64 x.c], .pointer (some ⟨ob, 0, none⟩)] w1 fun e w' => e = .returned (.bool (cl x)) ∧ Below w1.heap.size w1 w') :
    Calls Try.prog 81 #[.slice A len cap, .func (.func 82) #[] #[.pointer (some ⟨ob, 0, none⟩)]] w fun e w' => e = .returned (.bool f) ∧ Below w.heap.size w w' := by
  have HF := Lib.hid hf
  have HI := Lib.hid (wbidx_is l cl len cap A ob hl hmax w hL hC)
  clear hf hl hL hC
  go_enter Try.func81, Try.ntmps81
  go_wp2_with fail
  refine HI.out.mono ?_; rintro e w1 ⟨r, rfl, hr, hb⟩
  obtain rfl : f = decide (0 ≤ r) := by rw [Bool.eq_iff_iff, HF.out, decide_eq_true_eq]; exact hr.symm
  clear hr
  go_wp2_with fail
  go_ret
  exact ⟨rfl, hb⟩
theorem okJH_iff {h : FH} {rs : List Fo.T3} (h0 : ¬ (h.ja = 0 ∧ h.jt = 0 ∧ h.jf = 0)) : okJH h rs ↔ (Fo.iw h.jt h.ja 0 h.n ∧ Fo.iw h.jt h.jf 0 h.n) ∧ ¬ ∃ x ∈ rs, Fo.brk h.ja h.jt h.jf x := by
  unfold okJH Fo.iw Fo.wi Fo.brk
  constructor
  · rintro (h1 | ⟨h1, h2, h3, h4⟩)
    · exact absurd h1 h0
    · refine ⟨⟨by omega, by omega⟩, ?_⟩
      rintro ⟨x, hx, v, hv, h5⟩
      simp only [List.mem_cons, List.not_mem_nil, or_false] at hv
      rcases hv with rfl | rfl | rfl
      · exact h2 ⟨x, hx, h5⟩
      · exact h3 ⟨x, hx, h5⟩
      · exact h4 ⟨x, hx, h5⟩
  · rintro ⟨⟨h1, h2⟩, h3⟩
    refine .inr ⟨by omega, fun ⟨x, hx, h5⟩ => h3 ⟨x, hx, _, by simp, h5⟩, fun ⟨x, hx, h5⟩ => h3 ⟨x, hx, _, by simp, h5⟩, fun ⟨x, hx, h5⟩ => h3 ⟨x, hx, _, by simp, h5⟩⟩
set_option maxHeartbeats 3200000 in
theorem wjump_is (h : FH) (f : Fo.Fm) (r : Bool) (hr : r = true ↔ okJH h f.rs) (hmax : h.rl ≤ 100) (w : World) (hS : SlF w h f) :
    Calls Try.prog 63 #[.agg #[.int .i64 h.n, .slice h.R h.rl h.rc, .slice h.E h.el h.ec, .int .i64 h.ja, .int .i64 h.jt, .int .i64 h.jf, .slice h.C h.cl h.cc]] w fun e w' => e = .returned (.bool r) ∧ Below w.heap.size w w' := by
  have B := (Below.refl w.heap.size w).alloc (Nat.le_refl _) (.cells #[.int .i64 h.n, .slice h.R h.rl h.rc, .slice h.E h.el h.ec, .int .i64 h.ja, .int .i64 h.jt, .int .i64 h.jf, .slice h.C h.cl h.cc] 47)
  have BJ := B.alloc (by simp) (.cells #[.int .i64 h.ja, .int .i64 h.jt, .int .i64 h.jf] 44)
  have QJ := (FB.new w h).alloc (.cells #[.int .i64 h.ja, .int .i64 h.jt, .int .i64 h.jf] 44)
  have AJ := At3.new (w.alloc (.cells #[.int .i64 h.n, .slice h.R h.rl h.rc, .slice h.E h.el h.ec, .int .i64 h.ja, .int .i64 h.jt, .int .i64 h.jf, .slice h.C h.cl h.cc] 47)) h.ja h.jt h.jf 44
  rw [World.size_alloc] at AJ
  have hL := hS.sr
  have hl := hS.rl
  have heq := fun W => eqJump ⟨h.ja, h.jt, h.jf⟩ ⟨0, 0, 0⟩ (decide ((⟨h.ja, h.jt, h.jf⟩ : Fo.T3) = ⟨0, 0, 0⟩)) (by simp) W
  dsimp only at heq
  by_cases h0 : (⟨h.ja, h.jt, h.jf⟩ : Fo.T3) = ⟨0, 0, 0⟩
  case pos =>
    obtain ⟨e1, e2, e3⟩ : h.ja = 0 ∧ h.jt = 0 ∧ h.jf = 0 := by simpa using h0
    obtain rfl : r = true := hr.2 (.inl ⟨e1, e2, e3⟩)
    have hd := decide_eq_true h0
    rw [hd] at heq
    clear hr hS hL hl h0 e1 e2 e3 hd QJ AJ
    go_enter Try.func63, Try.ntmps63
    go_wp2_with (first | (simp only [heq]) | fail)
    go_ret
    exact ⟨rfl, BJ⟩
  have hd := decide_eq_false h0
  rw [hd] at heq
  have h0' : ¬ (h.ja = 0 ∧ h.jt = 0 ∧ h.jf = 0) := fun ⟨a, b, c⟩ => h0 (by rw [a, b, c])
  rw [okJH_iff h0'] at hr
  obtain ⟨g, hg⟩ : ∃ g : Bool, g = true ↔ Fo.iw h.jt h.ja 0 h.n := ⟨decide _, decide_eq_true_iff⟩
  obtain ⟨k, hk⟩ : ∃ k : Bool, k = true ↔ Fo.iw h.jt h.jf 0 h.n := ⟨decide _, decide_eq_true_iff⟩
  obtain ⟨q, hq⟩ : ∃ q : Bool, q = true ↔ ∃ x ∈ f.rs, decide (Fo.brk h.ja h.jt h.jf x) = true := ⟨decide _, decide_eq_true_iff⟩
  obtain rfl : r = ((g && k) && !q) := by
    have hq2 : q = true ↔ ∃ x ∈ f.rs, Fo.brk h.ja h.jt h.jf x := hq.trans ⟨fun ⟨x, hx, h⟩ => ⟨x, hx, of_decide_eq_true h⟩, fun ⟨x, hx, h⟩ => ⟨x, hx, decide_eq_true h⟩⟩
    rw [Bool.eq_iff_iff, hr, Bool.and_eq_true, Bool.and_eq_true, hg, hk, ← hq2]
    cases q <;> simp
  have HG := Lib.hid hg; have HK := Lib.hid hk; have HQ := Lib.hid hq
  have HLL := Lib.hid hL; have HLE := Lib.hid hl; have HMX := Lib.hid hmax
  have HB := Lib.hid BJ; have HQJ := Lib.hid QJ; have HAJ := Lib.hid AJ
  clear hr hS hL hl h0 hd hmax B BJ QJ AJ hg hk hq h0'
  go_enter Try.func63, Try.ntmps63
  go_wp2_with (first | (simp only [heq]) | fail)
  refine (wwithin_is h.jt h.ja 0 h.n g HG.out _).mono ?_; rintro e w2 ⟨rfl, hb⟩
  have B2 := HB.out.trans (hb.mono (by simp; omega)); have Q2 := HQJ.out.below hb; have A2 := HAJ.out.below hb
  clear hb heq
  cases g with
  | false =>
    go_wp2_with fail
    go_ret
    exact ⟨rfl, B2⟩
  | true =>
    have a1 := A2.c1; have a2 := A2.c2; have al := A2.lt
    have q0 := Q2.c0; have ql := Q2.lt
    go_wp2_with fail
    refine (wwithin_is h.jt h.jf 0 h.n k HK.out _).mono ?_; rintro e w3 ⟨rfl, hb⟩
    have B3 := B2.trans (hb.mono B2.size); have Q3 := Q2.below hb; have A3 := A2.below hb
    clear hb B2 Q2 A2 a1 a2 al q0 ql
    cases k with
    | false =>
      go_wp2_with fail
      go_ret
      exact ⟨rfl, B3⟩
    | true =>
      have q1 := Q3.c1; have ql := Q3.lt
      go_wp2_with fail
      refine (wbcon_is f.rs (fun x => decide (Fo.brk h.ja h.jt h.jf x)) q HQ.out h.rl h.rc h.R (w.heap.size + 1) HLE.out (by have := HMX.out; omega) _ (HLL.out.below B3) (fun x _ w1 hw1 => wjb_is x h.ja h.jt h.jf _ _ rfl w1 (A3.below hw1))).mono ?_; rintro e w4 ⟨rfl, hb⟩
      have B4 := B3.trans (hb.mono B3.size)
      clear hb B3 Q3 A3 q1 ql
      go_wp2_with fail
      go_ret
      exact ⟨rfl, B4⟩
end Go.Proofs.Ytahdlkdiadlgeaa
