import Derived.Test.YtahdlkdiadlgeaaGAL
import Derived.Test.YtahdlkdiadlgeaaGAT
import Derived.Test.YtahdlkdiadlgeaaGAQ
import Derived.Maps.OwnSet
import Derived.DeepKeys5
import Derived.WideKeyPair
import Derived.Test.YtahdlkdiadlgeaaGAP
import Derived.Test.YtahdlkdiadlgeaaGAF
import Derived.Maps.AppendAt
/- Keys that are cuts; the walk of reprise's areCuts: a map of the cuts that have been seen. -/
namespace Go.Proofs.Ytahdlkdiadlgeaa
open Go.RowKit Go.Maps Go.WideMaps

theorem cutLaw : Keyed Try.prog 106 := Keyed.of_law (deep_law_laid laidOut (m := 2) (by omega) (of_decide_eq_true (by kernel_rfl)) (by kernel_rfl) (by kernel_rfl))
instance (n : Int) (c : Fo.T3) : Decidable (Fo.okC n c) := by unfold Fo.okC; infer_instance
def ck (x : Fo.T3) : Lit := .string (keyBytes [.int .i64 x.a, .int .i64 x.b, .int .i64 x.c])
/-- 64 bit integers. -/
def i64 (x : Int) : Prop := -9223372036854775808 ≤ x ∧ x ≤ 9223372036854775807
def Fo.wf3 (x : Fo.T3) : Prop := i64 x.a ∧ i64 x.b ∧ i64 x.c
theorem wf_lit {x : Int} (h : i64 x) : (Lit.int .i64 x).wf = true := WalkArith.wf_i64 (by unfold i64 at h; omega)
theorem cutKT : Try.prog.keyType 106 = true := by kernel_rfl
theorem cutSz : ∃ m, Try.prog.types.size + 1 = m + 2 := ⟨Try.prog.types.size - 1, by have h : 0 < Try.prog.types.size := of_decide_eq_true (by kernel_rfl); omega⟩
theorem cutCells : Try.prog.cellsOf 106 = 3 := by kernel_rfl
theorem ck_key {x : Fo.T3} (h : Fo.wf3 x) : keyOf Try.prog 106 (.agg #[.int .i64 x.a, .int .i64 x.b, .int .i64 x.c]) = some (ck x) := by
  obtain ⟨m, hm⟩ := cutSz
  have wa := wf_lit h.1; have wb := wf_lit h.2.1; have wc := wf_lit h.2.2
  unfold keyOf
  rw [Try.underlying106]
  dsimp only
  rw [cutKT, hm, if_pos (by simp [Value.formed, Try.underlying106, cutCells])]
  unfold Program.keyLits
  simp only [Try.underlying106, Value.cells]
  rw [if_pos ⟨by rw [cutCells]; rfl, by kernel_rfl⟩]
  simp [cellsInt, Program.keyLits, Try.underlying3, wa, wb, wc, ck]
theorem ck_ne {x y : Fo.T3} (hx : Fo.wf3 x) (hy : Fo.wf3 y) (h : x ≠ y) : ck x ≠ ck y := fun e => by
  have := cutLaw.inj (ck_key hx) (by rw [e]; exact ck_key hy)
  simp at this
  exact h (by cases x; cases y; simp_all)
/-- The map holds these cuts. -/
def SeenC (l : List Fo.T3) (D : DataW Unit) : Prop :=
  ∀ x, Fo.wf3 x → ∃ c : Bool, D.atKey (ck x) (.lit (.bool false)) = .lit (.bool c) ∧ (c = true ↔ x ∈ l)
theorem SeenC.start : SeenC [] (.map []) := fun x _ => ⟨false, rfl, by simp⟩
theorem SeenC.step {l : List Fo.T3} {D : DataW Unit} {y : Fo.T3} (h : SeenC l D) (hD : IsMap D) (hy : Fo.wf3 y) : SeenC (l ++ [y]) (D.put (ck y) (.lit (.bool true))) := fun x hx => by
  by_cases e : x = y
  · subst e
    exact ⟨true, atKey_put_same hD (cutLaw.key (ck_key hx)) _ _, by simp⟩
  · obtain ⟨c, h1, h2⟩ := h x hx
    refine ⟨c, ?_, ?_⟩
    · rw [atKey_put_other (ck_ne hx hy e)]
      exact h1
    · rw [h2, List.mem_append, List.mem_singleton]
      exact ⟨.inl, fun h => h.elim id (fun h => absurd h e)⟩
theorem run_mkNone (w : World) : (Instr.makeMap 121 none).run Try.prog w = .ok (.map (some w.heap.size)) (w.alloc (.map #[] 0)) := by
  simp [Instr.makeMap, Result.andThen]
theorem FB.grownM {w w' : World} {b m : Nat} {h : FH} (s : FB w b h) (hg : w.grownBy w' (some m)) (hne : b ≠ m) : FB w' b h := by
  have hk := hg.block b s.lt (fun e => hne (Option.some.inj e))
  have c : ∀ j u, w.cell? ⟨b, j, none⟩ = some u → w'.cell? ⟨b, j, none⟩ = some u := fun j u hu => (World.cell?_of_block (w := w) (a := ⟨b, j, none⟩) hk).trans hu
  exact ⟨Nat.lt_of_lt_of_le s.lt hg.size, c 0 _ s.c0, c 1 _ s.c1, c 2 _ s.c2, c 3 _ s.c3, c 4 _ s.c4, c 5 _ s.c5, c 6 _ s.c6⟩
theorem Fo.take_at {l : List Fo.T3} {i : Nat} (h : i < l.length) : l.take (i + 1) = l.take i ++ [Fo.at3 l i] := by rw [Fo.at3_eq h]; exact List.take_succ_eq_append_getElem h
set_option maxHeartbeats 6400000 in
theorem wcuts_is (h : FH) (f : Fo.Fm) (r : Bool) (hr : r = true ↔ f.cs.length ≤ 100 ∧ (∀ c ∈ f.cs, Fo.okC h.n c) ∧ f.cs.Nodup) (hwf : ∀ c ∈ f.cs, Fo.wf3 c) (w : World) (hS : SlF w h f) :
    Calls Try.prog 64 #[.agg #[.int .i64 h.n, .slice h.R h.rl h.rc, .slice h.E h.el h.ec, .int .i64 h.ja, .int .i64 h.jt, .int .i64 h.jf, .slice h.C h.cl h.cc]] w fun e w' => e = .returned (.bool r) ∧ Below w.heap.size w w' := by
  have HN := Lib.hid hS.cl; have HL := Lib.hid hS.sc
  have HWF := Lib.hid hwf
  have B := (Below.refl w.heap.size w).alloc (Nat.le_refl _) (.cells #[.int .i64 h.n, .slice h.R h.rl h.rc, .slice h.E h.el h.ec, .int .i64 h.ja, .int .i64 h.jt, .int .i64 h.jf, .slice h.C h.cl h.cc] 47)
  by_cases h100 : h.cl ≤ 100
  case neg =>
    obtain rfl : r = false := by
      cases r with
      | false => rfl
      | true => exact absurd (hr.1 rfl).1 (by rw [hS.cl]; omega)
    have h1 : (h.cl : Int) > 100 := by omega
    clear hr hS h100 hwf
    go_enter Try.func64, Try.ntmps64
    go_wp2_with fail
    go_ret
    exact ⟨rfl, B⟩
  have HF : Hid (r = true ↔ (∀ c ∈ f.cs, Fo.okC h.n c) ∧ f.cs.Nodup) := Lib.hid (hr.trans ⟨fun h => h.2, fun h => ⟨by rw [hS.cl]; omega, h⟩⟩)
  have h1 : ¬ (h.cl : Int) > 100 := by omega
  have Q0 := (FB.new w h).alloc (.map #[] 0)
  have B0 := B.alloc (by simp) (.map #[] 0)
  have M0 : ((w.alloc (.cells #[.int .i64 h.n, .slice h.R h.rl h.rc, .slice h.E h.el h.ec, .int .i64 h.ja, .int .i64 h.jt, .int .i64 h.jf, .slice h.C h.cl h.cc] 47)).alloc (.map #[] 0)).ownsMap Try.prog 106 (plainElem Try.prog 4) (w.alloc (.cells #[.int .i64 h.n, .slice h.R h.rl h.rc, .slice h.E h.el h.ec, .int .i64 h.ja, .int .i64 h.jt, .int .i64 h.jf, .slice h.C h.cl h.cc] 47)).heap.size 0 (.map [] : DataW Unit) := World.ownsMap_made _ _ _ _
  rw [World.size_alloc] at M0
  clear hr hS B hwf
  have hmm := run_mkNone
  go_enter Try.func64, Try.ntmps64
  go_wp2_with fail
  have HM0 := Lib.hid M0; have HQ0 := Lib.hid Q0; have HB0 := Lib.hid B0
  clear M0 Q0 B0
  go_loopw [14] (fun s14 wr => ∃ (i : Nat), i ≤ h.cl ∧ s14 = .int .i64 (i : Int) ∧ Hid ((∀ c ∈ f.cs.take i, Fo.okC h.n c) ∧ (f.cs.take i).Nodup) ∧ (∃ D : DataW Unit, wr.ownsMap Try.prog 106 (plainElem Try.prog 4) (w.heap.size + 1) i D ∧ Hid (SeenC (f.cs.take i) D)) ∧ Hid (FB wr w.heap.size h) ∧ Below w.heap.size w wr) (fun s14 _ => h.cl - (intOf s14).toNat)
  case atStart => exact ⟨0, Nat.zero_le _, rfl, Lib.hid ⟨fun c hc => by simp at hc, by simp⟩, ⟨_, HM0.out, Lib.hid SeenC.start⟩, HQ0, HB0.out⟩
  case round =>
    clear hmm
    obtain ⟨i, hi, rfl, HJ, ⟨D, hown, HS⟩, HQ, hR⟩ := hrel
    by_cases hlt : i < h.cl
    · have hil : i < f.cs.length := by rw [HN.out]; exact hlt
      obtain ⟨b, off, hRe, hb, hc⟩ := HL.out (by omega)
      have X := (hc i hil).below hR hb
      obtain ⟨x, hx⟩ : ∃ x, Fo.at3 f.cs i = x := ⟨_, rfl⟩
      rw [hx] at X
      have HTA : Hid (f.cs.take (i + 1) = f.cs.take i ++ [x]) := Lib.hid (by rw [← hx]; exact Fo.take_at hil)
      have HME : Hid (x ∈ f.cs) := Lib.hid (by rw [← hx]; exact Fo.at3_mem hil)
      have HPRE : Hid (f.cs.take (i + 1) <+: f.cs) := Lib.hid (List.take_prefix _ _)
      have hkey := ck_key (HWF.out x HME.out)
      obtain ⟨c, hat, hci⟩ := HS.out x (HWF.out x HME.out)
      have HCI := Lib.hid hci
      obtain ⟨g, hg⟩ : ∃ g : Bool, g = true ↔ Fo.okC h.n x := ⟨decide _, decide_eq_true_iff⟩
      have HG := Lib.hid hg
      have XT := TB.new wr x 106
      have Q1 := HQ.out.alloc (.cells #[.int .i64 x.a, .int .i64 x.b, .int .i64 x.c] 106)
      have R1 := hR.alloc hR.size (.cells #[.int .i64 x.a, .int .i64 x.b, .int .i64 x.c] 106)
      have HSt : Hid (∀ D : DataW Unit, SeenC (f.cs.take i) D → IsMap D → SeenC (f.cs.take (i + 1)) (D.put (ck x) (.lit (.bool true)))) := Lib.hid (fun D h hD => by rw [HTA.out]; exact SeenC.step h hD (HWF.out x HME.out))
      have HXT := Lib.hid XT; have HR1 := Lib.hid R1
      have q0 := HQ.out.c0; have q1 := HQ.out.c1; have q2 := HQ.out.c2; have q3 := HQ.out.c3; have q4 := HQ.out.c4; have q5 := HQ.out.c5; have q6 := HQ.out.c6; have ql := HQ.out.lt
      obtain ⟨c0, c1, c2⟩ := X
      have hi1 : (i : Int) < (h.cl : Int) := by omega
      clear hc hx hil hci hg XT Q1 R1
      rw [hRe]
      cases c with
      | true =>
        obtain rfl : r = false := by
          cases r with
          | false => rfl
          | true => 
            have h3 := HPRE.out.sublist.nodup (HF.out.1 rfl).2
            rw [HTA.out] at h3
            have := (List.nodup_append.1 h3).2.2 x (HCI.out.1 rfl) x (by simp)
            exact absurd rfl this
        go_wp2_with (first | (at_lookup; refine look_bool _ rfl _ _ 121 rfl 106 4 cutLaw Try.underlying121 Try.underlying4 (Try.zeroValue4 _) (w.heap.size + 1) i D rfl (hown.alloc _) _ _ rfl hkey true hat ?_) | fail)
        go_ret
        exact ⟨rfl, HR1.out⟩
      | false =>
        have HNM : Hid (x ∉ f.cs.take i) := Lib.hid (fun h => by have := HCI.out.2 h; cases this)
        go_wp2_with (first | (at_lookup; refine look_bool _ rfl _ _ 121 rfl 106 4 cutLaw Try.underlying121 Try.underlying4 (Try.zeroValue4 _) (w.heap.size + 1) i D rfl (hown.alloc _) _ _ rfl hkey false hat ?_) | fail)
        refine (wcut_is {h with C := some ⟨b, off, none⟩} x g HG.out _).mono ?_; rintro e w2 ⟨rfl, hb2⟩
        have R2 := HR1.out.trans (hb2.mono HR1.out.size)
        have hown2 := (hown.alloc (.cells #[.int .i64 x.a, .int .i64 x.b, .int .i64 x.c] 106)).kept (below_grown' hb2) (by simp)
        have X2 := HXT.out.below hb2
        have Q2 := (HQ.out.alloc (.cells #[.int .i64 x.a, .int .i64 x.b, .int .i64 x.c] 106)).below hb2
        have x0 := X2.c0; have x1 := X2.c1; have x2 := X2.c2; have xl := X2.lt
        clear hb2 c0 c1 c2 q0 q1 q2 q3 q4 q5 q6 ql hown hat
        cases g with
        | false =>
          obtain rfl : r = false := by
            cases r with
            | false => rfl
            | true => exact absurd (HG.out.2 ((HF.out.1 rfl).1 x HME.out)) (by simp)
          clear X2 Q2
          go_wp2_with fail
          go_ret
          exact ⟨rfl, R2⟩
        | true =>
          have HJ2 : Hid ((∀ c ∈ f.cs.take (i + 1), Fo.okC h.n c) ∧ (f.cs.take (i + 1)).Nodup) := Lib.hid (by
            rw [HTA.out]
            refine ⟨fun c hc => ?_, ?_⟩
            · rcases List.mem_append.1 hc with hc | hc
              · exact HJ.out.1 c hc
              · rw [List.mem_singleton.1 hc]; exact HG.out.1 rfl
            · rw [List.nodup_append]
              refine ⟨HJ.out.2, by simp, fun a ha b hb => ?_⟩
              rw [List.mem_singleton.1 hb]
              rintro rfl
              exact HNM.out ha)
          have HS2 := Lib.hid (HSt.out D HS.out (hown2.tidy cutLaw).isMap)
          have HQ2 := Lib.hid Q2
          clear X2 Q2
          go_wp2_with (first | (at_mapUpdate; refine wpList_mapUpdate_own _ rfl _ _ _ 121 rfl 106 4 cutLaw Try.underlying121 _ (w.heap.size + 1) i D rfl hown2 (by unfold maxLen; omega) _ _ _ rfl rfl hkey _ [] (plainElem_bool Try.underlying4 true) ?_; intro w3 hown3 hg3) | fail)
          go_roundw
          case rel => exact ⟨i + 1, by omega, by simp, HJ2, ⟨_, hown3, HS2⟩, Lib.hid (HQ2.out.grownM hg3 (by simp)), R2.grown hg3 R2.size (fun k hk => by cases hk; simp)⟩
          case measure => simp [intOf]; omega
    · obtain rfl : i = h.cl := by omega
      obtain rfl : r = true := HF.out.2 (by
        have h := HJ.out
        rw [List.take_of_length_le (by rw [HN.out]; exact Nat.le_refl _)] at h
        exact h)
      go_wp2_with fail
      go_ret
      exact ⟨rfl, hR⟩
end Go.Proofs.Ytahdlkdiadlgeaa

/- Mathematics of spans: what the spans of a form play is its order. -/
namespace Go.Proofs.Ytahdlkdiadlgeaa

namespace Fo
/-- Bars from one to before another one. -/
def bars (a b : Int) : List Int := (List.range (b - a).toNat).map fun (i : Nat) => a + (i : Int)
theorem bars_len (a b : Int) : (bars a b).length = (b - a).toNat := by unfold bars; rw [List.length_map, List.length_range]
theorem bars_nil {a b : Int} (h : b ≤ a) : bars a b = [] := by unfold bars; rw [show (b - a).toNat = 0 by omega]; rfl
theorem bars_mem {a b x : Int} (h : x ∈ bars a b) : a ≤ x ∧ x < b := by
  unfold bars at h
  obtain ⟨i, hi, rfl⟩ := List.mem_map.1 h
  rw [List.mem_range] at hi
  omega
theorem bars_app {a b c : Int} (h : a ≤ b) (h2 : b ≤ c) : bars a c = bars a b ++ bars b c := by
  unfold bars
  have e : (c - a).toNat = (b - a).toNat + (c - b).toNat := by omega
  rw [e, List.range_add, List.map_append, List.map_map]
  congr 1
  apply List.map_congr_left
  intro i hi
  simp only [Function.comp]
  omega
theorem bars_snoc {a b : Int} (h : a ≤ b) : bars a (b + 1) = bars a b ++ [b] := by
  rw [bars_app h (show b ≤ b + 1 by omega)]
  congr 1
  unfold bars
  rw [show (b + 1 - b).toNat = 1 by omega]
  simp
theorem bars_cons {a b : Int} (h : a < b) : bars a b = a :: bars (a + 1) b := by
  rw [bars_app (show a ≤ a + 1 by omega) (show a + 1 ≤ b by omega), bars_snoc (Int.le_refl a), bars_nil (Int.le_refl a)]
  rfl
def flat (l : List V2) : List Int := l.flatMap fun s => bars s.b s.p
theorem flat_app (a b : List V2) : flat (a ++ b) = flat a ++ flat b := List.flatMap_append
theorem flat_one (s : V2) : flat [s] = bars s.b s.p := by simp [flat]
theorem flat_cons (s : V2) (l : List V2) : flat (s :: l) = bars s.b s.p ++ flat l := List.flatMap_cons
/-- The bars of a pass are those of all bars that are played on it. -/
theorem pas_filter (es : List T3) (lo pass : Int) : ∀ m : Nat, pas es lo pass m = (bars lo (lo + m)).filter fun b => decide (pld es b pass)
  | 0 => by rw [bars_nil (by simp)]; rfl
  | m + 1 => by
    rw [show (lo + ((m + 1 : Nat) : Int)) = lo + m + 1 by omega, bars_snoc (by omega), List.filter_append, ← pas_filter es lo pass m]
    show pas es lo pass m ++ (if pld es (lo + m) pass then [lo + (m : Int)] else []) = _
    congr 1
    by_cases h : pld es (lo + m) pass
    · rw [if_pos h]; simp [h]
    · rw [if_neg h]; simp [h]
/-- What a pass plays, span by span. -/
def psg (pass hi : Int) : List T3 → Int → List V2
  | [], lo => [⟨lo, hi⟩]
  | e :: l, lo => if e.c ≠ pass ∧ iw e.a e.b lo hi then ⟨lo, e.a⟩ :: psg pass hi l e.b else psg pass hi l lo
def rising (l : List T3) : Prop := l.Pairwise fun x y => x.b ≤ y.a
theorem pld_cons {e : T3} {l : List T3} {b pass : Int} : pld (e :: l) b pass ↔ (inn e b → e.c = pass) ∧ pld l b pass := by
  unfold pld
  simp
theorem psg_flat (pass hi : Int) : ∀ (l : List T3) (lo : Int), lo ≤ hi → rising l → (∀ x ∈ l, x.a < x.b) → (∀ x ∈ l, (lo ≤ x.a ∧ x.b ≤ hi) ∨ x.b ≤ lo ∨ hi ≤ x.a) → flat (psg pass hi l lo) = (bars lo hi).filter fun b => decide (pld l b pass)
  | [], lo, _, _, _, _ => by
    rw [psg, flat_one, List.filter_eq_self.2]
    intro b _
    exact decide_eq_true (fun x hx => by cases hx)
  | e :: l, lo, hle, hr, hlt, hin => by
    obtain ⟨hr1, hr2⟩ := List.pairwise_cons.1 hr
    have he := hlt e (List.mem_cons_self ..)
    have hE := hin e (List.mem_cons_self ..)
    have hl : ∀ x ∈ l, x.a < x.b := fun x hx => hlt x (List.mem_cons_of_mem _ hx)
    have hL := fun x hx => hin x (List.mem_cons_of_mem _ hx)
    by_cases hc : e.c ≠ pass ∧ iw e.a e.b lo hi
    · obtain ⟨hp, h1, h2, h3⟩ := hc
      rw [psg, if_pos ⟨hp, h1, h2, h3⟩, flat_cons, psg_flat pass hi l e.b h3 hr2 hl (fun x hx => by have := hr1 x hx; have := hL x hx; have := hl x hx; omega)]
      rw [bars_app h1 (show e.a ≤ hi by omega), bars_app (show e.a ≤ e.b by omega) h3, List.filter_append, List.filter_append]
      have f1 : (bars lo e.a).filter (fun b => decide (pld (e :: l) b pass)) = bars lo e.a := List.filter_eq_self.2 (fun b hb => by
        have := bars_mem hb
        refine decide_eq_true (fun x hx hn => ?_)
        unfold inn at hn
        rcases List.mem_cons.1 hx with rfl | hx
        · omega
        · have := hr1 x hx; omega)
      have f2 : (bars e.a e.b).filter (fun b => decide (pld (e :: l) b pass)) = [] := List.filter_eq_nil_iff.2 (fun b hb => by
        have := bars_mem hb
        rw [decide_eq_true_eq, pld_cons]
        exact fun h => hp (h.1 this))
      have f3 : (bars e.b hi).filter (fun b => decide (pld (e :: l) b pass)) = (bars e.b hi).filter (fun b => decide (pld l b pass)) := List.filter_congr (fun b hb => by
        have := bars_mem hb
        rw [decide_eq_decide, pld_cons]
        exact ⟨fun h => h.2, fun h => ⟨fun hn => by unfold inn at hn; omega, h⟩⟩)
      rw [f1, f2, f3]
      simp
    · rw [psg, if_neg hc, psg_flat pass hi l lo hle hr2 hl hL]
      refine List.filter_congr (fun b hb => ?_)
      have := bars_mem hb
      rw [decide_eq_decide, pld_cons]
      refine ⟨fun h => ⟨fun hn => ?_, h⟩, fun h => h.2⟩
      by_cases hp : e.c = pass
      · exact hp
      · exact absurd ⟨hp, by unfold inn at hn; unfold iw; omega⟩ hc
theorem psg_pas {pass : Int} {l : List T3} {lo hi : Int} (h : lo ≤ hi) (hr : rising l) (hlt : ∀ x ∈ l, x.a < x.b) (hin : ∀ x ∈ l, (lo ≤ x.a ∧ x.b ≤ hi) ∨ x.b ≤ lo ∨ hi ≤ x.a) : flat (psg pass hi l lo) = pas l lo pass (hi - lo).toNat := by
  rw [psg_flat pass hi l lo h hr hlt hin, pas_filter, show lo + ((hi - lo).toNat : Int) = hi by omega]
/-- What all passes of a repeat play. -/
def pssS (es : List T3) (x : T3) (first : Int) : Nat → List V2
  | 0 => []
  | k + 1 => pssS es x first k ++ psg (first + k) x.b es x.a
/-- What a part plays: from lo on, the repeats that are all in it with as many passes as they have from first on. -/
def prtS (es : List T3) (first : T3 → Int) (hi : Int) : List T3 → Int → List V2
  | [], lo => [⟨lo, hi⟩]
  | r :: l, lo => if iw r.a r.b lo hi then ⟨lo, r.a⟩ :: (pssS es r (first r) (r.c + 1 - first r).toNat ++ prtS es first hi l r.b) else prtS es first hi l lo
/-- Endings that are each in a repeat, and rise. -/
structure OkE (rs es : List T3) : Prop where
  r : rising es
  lt : ∀ x ∈ es, x.a < x.b
  ins : ∀ x ∈ es, ∃ r ∈ rs, r.a ≤ x.a ∧ x.b ≤ r.b
structure OkR (rs : List T3) : Prop where
  r : rising rs
  lt : ∀ x ∈ rs, x.a < x.b
theorem rising_apart {rs : List T3} (h : rising rs) {x y : T3} (hx : x ∈ rs) (hy : y ∈ rs) : x = y ∨ x.b ≤ y.a ∨ y.b ≤ x.a := by
  induction rs with
  | nil => cases hx
  | cons z l ih =>
    obtain ⟨h1, h2⟩ := List.pairwise_cons.1 h
    rcases List.mem_cons.1 hx with e1 | hx2
    · rcases List.mem_cons.1 hy with e2 | hy2
      · exact .inl (e1.trans e2.symm)
      · exact .inr (.inl (by rw [e1]; exact h1 y hy2))
    · rcases List.mem_cons.1 hy with e2 | hy2
      · exact .inr (.inr (by rw [e2]; exact h1 x hx2))
      · exact ih h2 hx2 hy2
theorem OkE.at_ {rs es : List T3} (h : OkE rs es) (hR : OkR rs) {r : T3} (hr : r ∈ rs) : ∀ x ∈ es, (r.a ≤ x.a ∧ x.b ≤ r.b) ∨ x.b ≤ r.a ∨ r.b ≤ x.a := fun x hx => by
  obtain ⟨q, hq, h1, h2⟩ := h.ins x hx
  rcases rising_apart hR.r hr hq with rfl | h3 | h3
  · exact .inl ⟨h1, h2⟩
  · exact .inr (.inr (by omega))
  · exact .inr (.inl (by omega))
theorem pssS_flat {rs es : List T3} (h : OkE rs es) (hR : OkR rs) {r : T3} (hr : r ∈ rs) (first : Int) : ∀ k : Nat, flat (pssS es r first k) = pss es r first k
  | 0 => rfl
  | k + 1 => by
    have := hR.lt r hr
    unfold pssS pss
    rw [flat_app, pssS_flat h hR hr first k, psg_pas (by omega) h.r h.lt (h.at_ hR hr)]
/-- A stretch in which no repeat begins. -/
theorem par_plain {f : Fm} (h : up f) (again : Bool) {hi : Int} : ∀ (k : Nat) {lo mid : Int}, (mid - lo).toNat = k → lo ≤ mid → mid ≤ hi → (∀ x ∈ f.rs, ¬ (lo ≤ x.a ∧ x.a < mid)) → par f again lo hi = bars lo mid ++ par f again mid hi
  | 0, lo, mid, hk, h1, h2, hno => by
    obtain rfl : mid = lo := by omega
    rw [bars_nil (Int.le_refl _)]
    rfl
  | k + 1, lo, mid, hk, h1, h2, hno => by
    have hs : six f.rs lo < 0 := by
      by_cases h0 : 0 ≤ six f.rs lo
      · have h3 := six_at h0
        have h4 := six_lt f.rs lo
        exact absurd ⟨by rw [h3]; exact Int.le_refl _, by omega⟩ (hno _ (at3_mem (l := f.rs) (i := (six f.rs lo).toNat) (by omega)))
      · omega
    rw [par_step h again (show lo < hi by omega), show blk f again lo = [lo] by unfold blk; rw [if_pos hs], show nxt f lo = lo + 1 by unfold nxt; rw [if_pos hs], par_plain h again k (lo := lo + 1) (mid := mid) (by omega) (by omega) h2 (fun x hx hn => hno x hx (by omega)), bars_cons (show lo < mid by omega)]
    rfl
/-- At a repeat. -/
theorem par_rep {f : Fm} (hR : OkR f.rs) (again : Bool) {hi : Int} {r : T3} (hr : r ∈ f.rs) (h : r.a < hi) : par f again r.a hi = pss f.es r (if again then r.c else 1) (r.c + 1 - (if again then r.c else 1)).toNat ++ par f again r.b hi := by
  have hs : 0 ≤ six f.rs r.a := by
    by_cases h0 : 0 ≤ six f.rs r.a
    · exact h0
    · exact absurd rfl (six_none (l := f.rs) (bar := r.a) (by omega) r hr)
  have h1 := six_at hs
  have h2 := six_lt f.rs r.a
  have h3 := at3_mem (l := f.rs) (i := (six f.rs r.a).toNat) (by omega)
  have h4 : at3 f.rs (six f.rs r.a).toNat = r := by
    have q1 := hR.lt r hr
    have q2 := hR.lt _ h3
    rcases rising_apart hR.r h3 hr with h5 | h5 | h5
    · exact h5
    · omega
    · omega
  rw [par_step hR.lt again h]
  congr 1
  · unfold blk
    rw [if_neg (by omega), h4]
  · unfold nxt
    rw [if_neg (by omega), h4]
theorem prtS_flat {f : Fm} (hE : OkE f.rs f.es) (hR : OkR f.rs) (again : Bool) {first : T3 → Int} (hf : ∀ r, first r = if again then r.c else 1) {hi : Int} : ∀ (l : List T3) (lo : Int) (done : List T3), f.rs = done ++ l → lo ≤ hi →
    (∀ x ∈ done, x.a < lo ∨ hi ≤ x.a) → (∀ x ∈ l, ¬ (x.a < lo ∧ lo < x.b)) → (∀ x ∈ f.rs, ¬ (x.a < hi ∧ hi < x.b)) → flat (prtS f.es first hi l lo) = par f again lo hi
  | [], lo, done, e, hle, hd, _, _ => by
    rw [List.append_nil] at e
    rw [prtS, flat_one, par_plain hR.lt again (hi := hi) (mid := hi) _ rfl hle (Int.le_refl _) (fun x hx hn => by rw [e] at hx; have := hd x hx; omega), par_end f again (by omega), List.append_nil]
  | r :: l, lo, done, e, hle, hd, hlo, hhi => by
    have hrm : r ∈ f.rs := by rw [e]; simp
    have hrl := hR.lt r hrm
    have hpw := hR.r
    rw [e] at hpw
    have hrest : ∀ x ∈ l, r.b ≤ x.a := fun x hx => (List.pairwise_cons.1 (List.pairwise_append.1 hpw).2.1).1 x hx
    have e2 : f.rs = (done ++ [r]) ++ l := by rw [e]; simp
    by_cases hc : iw r.a r.b lo hi
    · obtain ⟨h1, h2, h3⟩ := hc
      rw [prtS, if_pos ⟨h1, h2, h3⟩, flat_cons, flat_app, pssS_flat hE hR hrm, hf r]
      rw [prtS_flat hE hR again hf l r.b (done ++ [r]) e2 h3 (fun x hx => by
        rcases List.mem_append.1 hx with hx | hx
        · have := hd x hx; omega
        · rw [List.mem_singleton.1 hx]; omega) (fun x hx hn => by have := hrest x hx; omega) hhi]
      rw [par_plain hR.lt again (lo := lo) (mid := r.a) (hi := hi) _ rfl h1 (by omega) (fun x hx hn => by
        rw [e] at hx
        rcases List.mem_append.1 hx with hx | hx
        · have := hd x hx; omega
        · rcases List.mem_cons.1 hx with rfl | hx
          · omega
          · have := hrest x hx; omega), par_rep hR again hrm (by omega)]
    · rw [prtS, if_neg hc]
      refine prtS_flat hE hR again hf l lo (done ++ [r]) e2 hle (fun x hx => ?_) (fun x hx => hlo x (List.mem_cons_of_mem _ hx)) hhi
      rcases List.mem_append.1 hx with hx | hx
      · exact hd x hx
      · rw [List.mem_singleton.1 hx]
        have h1 := hlo r (List.mem_cons_self ..)
        have h2 := hhi r hrm
        unfold iw at hc
        omega
/-- All spans of a form. -/
def spn (f : Fm) : List V2 := prtS f.es (fun _ => 1) (if 0 < f.ja then f.ja else f.n) f.rs 0 ++ prtS f.es (fun r => r.c) f.jf f.rs f.jt
/-- A form with repeats, endings and a jump that are right. -/
structure Ok (f : Fm) : Prop where
  n : 1 ≤ f.n ∧ f.n ≤ 4000
  rl : f.rs.length ≤ 100
  rs : chR f.n 0 f.rs
  el : f.es.length ≤ 100
  es : chE f.rs 0 f.es
  j : okJ f
theorem chR_rising {n : Int} : ∀ {last : Int} {l : List T3}, chR n last l → rising l
  | _, [], _ => List.Pairwise.nil
  | last, x :: l, ⟨h1, h2⟩ => by
    refine List.Pairwise.cons (fun y hy => ?_) (chR_rising h2)
    have : ∀ {q : Int} {l : List T3}, chR n q l → ∀ y ∈ l, q ≤ y.a := by
      intro q l
      induction l generalizing q with
      | nil => intro _ y hy; cases hy
      | cons z l ih =>
        rintro ⟨a1, a2⟩ y hy
        rcases List.mem_cons.1 hy with rfl | hy
        · exact a1.1
        · have := ih a2 y hy; omega
    exact this h2 y hy
theorem chE_all {rs : List T3} : ∀ {last : Int} {l : List T3}, chE rs last l → rising l ∧ (∀ x ∈ l, last ≤ x.a ∧ x.a < x.b ∧ ins rs x.a x.b ∧ 1 ≤ x.c ∧ x.c ≤ 9)
  | _, [], _ => ⟨List.Pairwise.nil, fun x hx => by cases hx⟩
  | last, x :: l, ⟨h1, h2⟩ => by
    obtain ⟨i1, i2⟩ := chE_all h2
    refine ⟨List.Pairwise.cons (fun y hy => (i2 y hy).1) i1, fun y hy => ?_⟩
    rcases List.mem_cons.1 hy with rfl | hy
    · exact h1
    · have := i2 y hy
      exact ⟨by omega, this.2⟩
theorem Ok.okR {f : Fm} (h : Ok f) : OkR f.rs := ⟨chR_rising h.rs, fun x hx => (chR_all (Int.le_refl 0) h.rs x hx).2.2.1⟩
theorem Ok.okE {f : Fm} (h : Ok f) : OkE f.rs f.es := ⟨(chE_all h.es).1, fun x hx => ((chE_all h.es).2 x hx).2.1, fun x hx => ((chE_all h.es).2 x hx).2.2.1⟩
theorem Ok.flat {f : Fm} (h : Ok f) : flat (spn f) = whl f := by
  have hb := chR_all (Int.le_refl 0) h.rs
  unfold spn whl
  rw [flat_app]
  rcases h.j with ⟨j1, j2, j3⟩ | ⟨⟨j1, j2, j3, j4, j5, j6⟩, k1, k2, k3⟩
  · rw [if_neg (show ¬ 0 < f.ja by omega), if_pos j1, j2, j3]
    rw [prtS_flat h.okE h.okR false (first := fun _ => 1) (fun r => rfl) f.rs 0 [] rfl (by have := h.n; omega) (fun x hx => by cases hx) (fun x hx hn => by have := hb x hx; omega) (fun x hx hn => by have := hb x hx; omega)]
    rw [prtS_flat h.okE h.okR true (first := fun r => r.c) (fun r => rfl) f.rs 0 [] rfl (Int.le_refl _) (fun x hx => by cases hx) (fun x hx hn => by have := hb x hx; omega) (fun x hx hn => by have := hb x hx; omega)]
    rw [par_end f true (by omega), List.append_nil]
  · rw [if_pos (show 0 < f.ja by omega), if_neg (show ¬ f.ja = 0 by omega)]
    rw [prtS_flat h.okE h.okR false (first := fun _ => 1) (fun r => rfl) f.rs 0 [] rfl (by omega) (fun x hx => by cases hx) (fun x hx hn => by have := hb x hx; omega) (fun x hx hn => k1 ⟨x, hx, hn⟩)]
    rw [prtS_flat h.okE h.okR true (first := fun r => r.c) (fun r => rfl) f.rs f.jt [] rfl (by omega) (fun x hx => by cases hx) (fun x hx hn => k2 ⟨x, hx, hn⟩) (fun x hx hn => k3 ⟨x, hx, hn⟩)]
/-! ### bounds -/
theorem psg_all (pass hi : Int) : ∀ (l : List T3) (lo : Int), lo ≤ hi → ∀ s ∈ psg pass hi l lo, lo ≤ s.b ∧ s.b ≤ s.p ∧ s.p ≤ hi
  | [], lo, h, s, hs => by rw [psg] at hs; rw [List.mem_singleton.1 hs]; exact ⟨Int.le_refl _, h, Int.le_refl _⟩
  | e :: l, lo, h, s, hs => by
    unfold psg at hs
    split at hs
    · rename_i hc
      obtain ⟨_, h1, h2, h3⟩ := hc
      rcases List.mem_cons.1 hs with rfl | hs
      · exact ⟨Int.le_refl _, h1, by show e.a ≤ hi; omega⟩
      · have := psg_all pass hi l e.b h3 s hs; omega
    · exact psg_all pass hi l lo h s hs
theorem psg_len (pass hi : Int) : ∀ (l : List T3) (lo : Int), (psg pass hi l lo).length ≤ l.length + 1
  | [], lo => by rw [psg]; simp
  | e :: l, lo => by
    unfold psg
    have h1 := psg_len pass hi l e.b
    have h2 := psg_len pass hi l lo
    split
    · simp only [List.length_cons]; omega
    · simp only [List.length_cons]; omega
theorem pssS_all (es : List T3) (x : T3) (first : Int) (h : x.a ≤ x.b) : ∀ (k : Nat), ∀ s ∈ pssS es x first k, x.a ≤ s.b ∧ s.b ≤ s.p ∧ s.p ≤ x.b
  | 0, s, hs => by cases hs
  | k + 1, s, hs => by
    unfold pssS at hs
    rcases List.mem_append.1 hs with hs | hs
    · exact pssS_all es x first h k s hs
    · exact psg_all _ _ _ _ h s hs
theorem pssS_len (es : List T3) (x : T3) (first : Int) : ∀ (k : Nat), (pssS es x first k).length ≤ k * (es.length + 1)
  | 0 => by simp [pssS]
  | k + 1 => by
    have h1 := pssS_len es x first k
    have h2 := psg_len (first + k) x.b es x.a
    unfold pssS
    rw [List.length_append, Nat.succ_mul]
    omega
theorem prtS_all (es : List T3) (first : T3 → Int) (hi : Int) : ∀ (l : List T3) (lo : Int), lo ≤ hi → ∀ s ∈ prtS es first hi l lo, lo ≤ s.b ∧ s.b ≤ s.p ∧ s.p ≤ hi
  | [], lo, h, s, hs => by rw [prtS] at hs; rw [List.mem_singleton.1 hs]; exact ⟨Int.le_refl _, h, Int.le_refl _⟩
  | r :: l, lo, h, s, hs => by
    unfold prtS at hs
    split at hs
    · rename_i hc
      obtain ⟨h1, h2, h3⟩ := hc
      rcases List.mem_cons.1 hs with rfl | hs
      · exact ⟨Int.le_refl _, h1, by show r.a ≤ hi; omega⟩
      · rcases List.mem_append.1 hs with hs | hs
        · have := pssS_all es r (first r) (by omega) _ s hs; omega
        · have := prtS_all es first hi l r.b h3 s hs; omega
    · exact prtS_all es first hi l lo h s hs
set_option maxRecDepth 100000 in
theorem prtS_len (es : List T3) (he : es.length ≤ 100) (first : T3 → Int) (hi : Int) : ∀ (l : List T3) (lo : Int), (∀ r ∈ l, 1 ≤ first r ∧ r.c ≤ 9) → (prtS es first hi l lo).length ≤ l.length * 1000 + 1
  | [], lo, _ => by rw [prtS]; simp
  | r :: l, lo, hc => by
    have h1 := prtS_len es he first hi l r.b (fun x hx => hc x (List.mem_cons_of_mem _ hx))
    have h2 := prtS_len es he first hi l lo (fun x hx => hc x (List.mem_cons_of_mem _ hx))
    have h3 := pssS_len es r (first r) (r.c + 1 - first r).toNat
    have h4 := hc r (List.mem_cons_self ..)
    have h5 : (r.c + 1 - first r).toNat * (es.length + 1) ≤ 9 * 101 := Nat.mul_le_mul (by omega) (by omega)
    unfold prtS
    split
    · simp only [List.length_cons, List.length_append]; omega
    · simp only [List.length_cons]; omega
/-- How many bars spans have. -/
def tot (l : List V2) : Int := l.foldl (fun n s => n + (s.p - s.b)) 0
theorem tot_snoc (l : List V2) (s : V2) : tot (l ++ [s]) = tot l + (s.p - s.b) := by unfold tot; rw [List.foldl_append]; rfl
theorem tot_flat {l : List V2} (h : ∀ s ∈ l, s.b ≤ s.p) : tot l = (flat l).length := by
  rw [← List.reverse_reverse l] at h ⊢
  generalize l.reverse = m at h ⊢
  induction m with
  | nil => rfl
  | cons s m ih =>
    rw [List.reverse_cons, tot_snoc, flat_app, flat_one, List.length_append, bars_len, ih (fun t ht => h t (by simp at ht ⊢; exact .inl ht))]
    have := h s (by simp)
    omega
end Fo
end Go.Proofs.Ytahdlkdiadlgeaa

/- The walk of reprise's passage: what a repeat plays on a pass. -/
namespace Go.Proofs.Ytahdlkdiadlgeaa
open Go.RowKit

theorem infoSpan : (Try.prog.info? 114).map (fun i => (i.zero, i.size, i.bytes)) = some (some (.agg #[.int .i64 0, .int .i64 0]), 2, 16) := by kernel_rfl
/-- An empty slice of the call's own. -/
theorem own_emptyS (w : World) (t : TypeId) (size : Nat) : (w.alloc (.cells #[] t)).ownsRow w.heap.size t size (.slice (some ⟨w.heap.size, 0, none⟩) 0 0) 0 [] :=
  ⟨by simp, .inr ⟨w.heap.size, 0, #[], rfl, Nat.le_refl _, heap_alloc_new w _, Nat.le_refl _, Nat.zero_le _, by simp, by simp⟩⟩
/-- The classes of worlds where a slice and a variable are made, in whatever order. -/
def pgE (X : World) (t : TypeId) (v : Value) (w : World) : Prop := ∃ g, v = .slice (some ⟨g, 0, none⟩) 0 0 ∧ X.heap.size ≤ g ∧ w.heap[g]? = some (.cells #[] t (0, 0))
def pgV (X : World) (t : TypeId) (p : Value) (w : World) : Prop := ∃ b, p = .pointer (some ⟨b, 0, none⟩) ∧ X.heap.size ≤ b ∧ w.heap[b]? = some (.cells #[.int .i64 0, .int .i64 0] t (0, 0))
def pgC (X : World) (t : TypeId) (vs : List Value) (og : Option Value) (w : World) : Prop :=
  Below X.heap.size X w ∧ (∀ v ∈ vs, pgE X t v w) ∧ (∀ p, og = some p → pgV X t p w)
theorem pgE.below {X w w' : World} {t : TypeId} {v : Value} (h : pgE X t v w) (hb : Below w.heap.size w w') : pgE X t v w' := by
  obtain ⟨g, e, hg, hc⟩ := h
  exact ⟨g, e, hg, (hb.block g (Array.getElem?_eq_some_iff.1 hc).1).trans hc⟩
theorem pgV.below {X w w' : World} {t : TypeId} {v : Value} (h : pgV X t v w) (hb : Below w.heap.size w w') : pgV X t v w' := by
  obtain ⟨g, e, hg, hc⟩ := h
  exact ⟨g, e, hg, (hb.block g (Array.getElem?_eq_some_iff.1 hc).1).trans hc⟩
theorem pgC.below {X w w' : World} {t : TypeId} {vs : List Value} {og : Option Value} (h : pgC X t vs og w) (hb : Below w.heap.size w w') : pgC X t vs og w' :=
  ⟨h.1.trans (hb.mono h.1.size), fun v hv => (h.2.1 v hv).below hb, fun p hp => (h.2.2 p hp).below hb⟩
theorem cell_two_newS (w : World) (a b : Value) (t : TypeId) (_ha : a.cells.size = 1 := by rfl) (_hb : b.cells.size = 1 := by rfl) : ∀ j u, [a, b][j]? = some u → (w.alloc (.cells #[a, b] t)).cell? ((⟨w.heap.size, 0, none⟩ : Addr).add j) = some u := fun j u hj => by
  rw [Addr.add_lit]
  match j, hj with
  | 0, hj => simp at hj; subst hj; go_simp
  | 1, hj => simp at hj; subst hj; go_simp
  | j + 2, hj => simp at hj
theorem var2_of_blk {w : World} {b : Nat} {x y : Int} {t : TypeId} (h : w.heap[b]? = some (.cells #[.int .i64 x, .int .i64 y] t (0, 0))) : Var2 w b x y :=
  ⟨⟨(Array.getElem?_eq_some_iff.1 h).1, by unfold World.cell?; rw [h]; rfl, by unfold World.cell?; rw [h]; rfl⟩, by unfold World.frozen?; rw [h]; rfl, by unfold World.frozen?; rw [h]; rfl⟩
theorem Var2.grownS {w w' : World} {b : Nat} {x y : Int} {row : Option Nat} (h : Var2 w b x y) (hg : w.grownBy w' row) (hne : row ≠ some b) : Var2 w' b x y := by
  have hk := hg.block b h.at2.lt (fun e => hne e.symm)
  exact ⟨⟨Nat.lt_of_lt_of_le h.at2.lt hg.size, (World.cell?_of_block (w := w) (a := ⟨b, 0, none⟩) hk).trans h.at2.c0, (World.cell?_of_block (w := w) (a := ⟨b, 1, none⟩) hk).trans h.at2.c1⟩, (World.frozen?_of_block (w := w) (a := ⟨b, 0, none⟩) hk).trans h.f0, (World.frozen?_of_block (w := w) (a := ⟨b, 1, none⟩) hk).trans h.f1⟩
theorem TB.grownS {w w' : World} {b : Nat} {x : Fo.T3} {row : Option Nat} (h : TB w b x) (hg : w.grownBy w' row) (hne : row ≠ some b) : TB w' b x := by
  have hk := hg.block b h.lt (fun e => hne e.symm)
  exact ⟨Nat.lt_of_lt_of_le h.lt hg.size, (World.cell?_of_block (w := w) (a := ⟨b, 0, none⟩) hk).trans h.c0, (World.cell?_of_block (w := w) (a := ⟨b, 1, none⟩) hk).trans h.c1, (World.cell?_of_block (w := w) (a := ⟨b, 2, none⟩) hk).trans h.c2⟩
theorem own_blk_lt {w : World} {base : Nat} {e : TypeId} {size n : Nat} {v : Value} {xs : List Value} (h : w.ownsRow base e size v n xs) : ∀ j, v.ownBlock = some j → j < w.heap.size := fun j hj => by
  rcases h.2 with ⟨rfl, _⟩ | ⟨g, cap, cur, rfl, _, hg, _⟩
  · cases hj
  · have : g = j := by simpa [Value.ownBlock] using hj
    subst this
    exact (Array.getElem?_eq_some_iff.1 hg).1
theorem own_at {v5 v : Value} {n bl : Nat} (h : v5.ownBlock = v.ownBlock ∨ v5.ownBlock = some n) (hv : v.ownBlock ≠ some bl) (hn : bl < n) : v5.ownBlock ≠ some bl := by
  rcases h with h | h
  · rw [h]; exact hv
  · rw [h]; intro e; have := Option.some.inj e; omega
theorem own_succS {w : World} {base : Nat} {e : TypeId} {size n : Nat} {v : Value} {xs : List Value} (h : w.ownsRow base e size v (n + 1) xs) : ∃ g cap, v = .slice (some ⟨g, 0, none⟩) (n + 1) cap := by
  rcases h.2 with ⟨_, h0⟩ | ⟨g, cap, _, rfl, _⟩
  · omega
  · exact ⟨g, cap, rfl⟩
theorem own_setS {w : World} {base : Nat} {e : TypeId} {size n : Nat} {v : Value} {xs : List Value} (h : w.ownsRow base e size v n xs) {b : Nat} (hne : v.ownBlock ≠ some b) (j : Nat) (u : Value) : (w.setCell ⟨b, j, none⟩ u).ownsRow base e size v n xs := by
  refine ⟨h.1, ?_⟩
  rcases h.2 with h2 | ⟨g, cap, cur, h1, h2, h3, h4⟩
  · exact .inl h2
  · refine .inr ⟨g, cap, cur, h1, h2, (Below.heap_setCell w ⟨b, j, none⟩ u g (fun e => hne (by rw [h1]; simp [Value.ownBlock, e]))).trans h3, h4⟩
set_option maxRecDepth 100000 in
set_option maxHeartbeats 6400000 in
theorem wpassage_is (es : List Fo.T3) (r : Fo.T3) (pass : Int) (len cap : Nat) (A : Option Addr) (hl : es.length = len) (hmax : len ≤ 100) (w : World) (hL : SlT w A es) :
    Calls Try.prog 94 #[.slice A len cap, .agg #[.int .i64 r.a, .int .i64 r.b, .int .i64 r.c], .int .i64 pass] w fun e w' => Below w.heap.size w w' ∧ ∃ v, e = .returned v ∧ w'.ownsRow w.heap.size 114 2 v (Fo.psg pass r.b es r.a).length (vV (Fo.psg pass r.b es r.a)) := by
  obtain ⟨i0, hi0, hz0, hz1, hz2⟩ := info_parts infoSpan
  have HI0 := Lib.hid (And.intro hi0 (And.intro hz0 (And.intro hz1 hz2)))
  have HN := Lib.hid hl; have HL := Lib.hid hL
  have HTL := Lib.hid (Fo.psg_len pass r.b es r.a)
  obtain ⟨T, hT⟩ : ∃ T, Fo.psg pass r.b es r.a = T := ⟨_, rfl⟩
  have HT := Lib.hid hT
  rw [hT] at HTL ⊢
  clear hl hL hi0 hz0 hz1 hz2 hT
  have X0 := TB.new w r 66
  have B0 := (Below.refl w.heap.size w).alloc (Nat.le_refl _) (.cells #[.int .i64 r.a, .int .i64 r.b, .int .i64 r.c] 66)
  go_enter Try.func94, Try.ntmps94
  go_wp2_with fail
  obtain ⟨W1, hW1⟩ : ∃ W1, w.alloc (.cells #[.int .i64 r.a, .int .i64 r.b, .int .i64 r.c] 66) = W1 := ⟨_, rfl⟩
  have hs1 : W1.heap.size = w.heap.size + 1 := by rw [← hW1]; simp
  rw [hW1] at X0 B0 ⊢
  clear hW1
  have z0 := fun x : PfW (pgC W1 114) => (X0.below x.h.1).c0
  have z1 := fun x : PfW (pgC W1 114) => (X0.below x.h.1).c1
  have hne : Nonempty (PfW (pgC W1 114)) := PfW.there (w := W1) ⟨Below.refl _ _, fun v hv => by (cases hv), fun p hp => by (cases hp)⟩
  refine region_pf (cs := [0]) (d := 6) (G := fun g => ∃ b, g = .pointer (some ⟨b, 0, none⟩) ∧ W1.heap.size ≤ b) (Cv := pgC W1 114) 8 ⟨_, _, rfl, Nat.le_refl _⟩ (by kernel_rfl) (by kernel_rfl) (by kernel_rfl) ⟨(Below.refl _ _).drew, fun v hv => by (cases hv), fun p hp => by (cases hp)⟩ ?_
  simp only [List.take_succ_cons, List.take_zero, List.drop_succ_cons, List.drop_zero]
  refine pf_made ⟨by decide, rfl⟩ rfl ⟨none, W1, Below.refl _ _, fun v hv => by (cases hv), fun p hp => by (cases hp)⟩ (fun og w' hw' => ⟨.slice (some ⟨w'.heap.size, 0, none⟩) 0 0, w'.alloc (.cells #[] 114), ?_, ?_⟩) ?_
  · go_simp
  · have h2 := hw'.below ((Below.refl w'.heap.size w').alloc (Nat.le_refl _) (.cells #[] 114))
    refine ⟨h2.1, fun v hv => ?_, h2.2.2⟩
    rw [List.nil_append, List.mem_singleton] at hv
    exact ⟨w'.heap.size, hv, hw'.1.size, heap_alloc_new w' _⟩
  rintro u1 ⟨og1, w1, hw1⟩
  obtain ⟨g, rfl, hg1, -⟩ := hw1.2.1 u1 (by simp)
  clear hw1
  simp only [Act.put, List.setIfInBounds_toArray, List.set_cons_succ, List.set_cons_zero]
  iterate 5 (refine pf_quiet (by decide) rfl rfl ?_; intro K' hK'; go_big_quiet_op; go_big_quiet_on)
  refine pf_floats rfl (fun j hj => (by cases hj)) rfl (fun vs' w' hw' => ⟨.pointer (some ⟨w'.heap.size, 0, none⟩), w'.alloc (.cells #[.int .i64 0, .int .i64 0] 114), ?_, ⟨_, rfl, hw'.1.size⟩, ?_⟩) ?_
  · go_simp
  · have h2 := hw'.below ((Below.refl w'.heap.size w').alloc (Nat.le_refl _) (.cells #[.int .i64 0, .int .i64 0] 114))
    refine ⟨h2.1, h2.2.1, fun p hp => ?_⟩
    cases hp
    exact ⟨w'.heap.size, rfl, hw'.1.size, heap_alloc_new w' _⟩
  rintro _ ⟨bl, rfl, hbl⟩
  simp only [Act.put, List.setIfInBounds_toArray, List.set_cons_succ, List.set_cons_zero]
  iterate 1 (refine pf_quiet (by decide) rfl rfl ?_; intro K' hK'; go_big_quiet_op; go_big_quiet_on)
  rintro w3 ⟨hb3, hE3, hV3⟩
  obtain ⟨g', e', -, hgc⟩ := hE3 (.slice (some ⟨g, 0, none⟩) 0 0) (by simp)
  cases e'
  obtain ⟨bl', e', -, hblc⟩ := hV3 (.pointer (some ⟨bl, 0, none⟩)) rfl
  cases e'
  have hgb : g ≠ bl := fun e => by
    subst e
    rw [hgc] at hblc
    cases hblc
  have R3 := B0.trans (hb3.mono B0.size)
  have V3 := var2_of_blk hblc
  have O3 : w3.ownsRow w.heap.size 114 2 (.slice (some ⟨g, 0, none⟩) 0 0) 0 (vV []) := ⟨by simp [vV], .inr ⟨g, 0, #[], rfl, by omega, hgc, Nat.le_refl _, Nat.zero_le _, by simp, by simp [vV]⟩⟩
  clear hE3 hV3 hgc hblc z0 z1 hne
  have v0 := V3.at2.c0; have v1 := V3.at2.c1; have vf0 := V3.f0; have vf1 := V3.f1; have vl := V3.at2.lt
  have HV4 := Lib.hid (V3.put r.a r.b)
  have HR4 := Lib.hid ((R3.setCell (p := ⟨bl, 0, none⟩) (by simp; omega) (.int .i64 r.a)).setCell (p := ⟨bl, 1, none⟩) (by simp; omega) (.int .i64 r.b))
  have HO4 := Lib.hid (own_setS (own_setS O3 (b := bl) (by simp [Value.ownBlock]; exact hgb) 0 (.int .i64 r.a)) (b := bl) (by simp [Value.ownBlock]; exact hgb) 1 (.int .i64 r.b))
  have HGB := Lib.hid hgb; have HBL : Hid (w.heap.size ≤ bl) := Lib.hid (by omega)
  clear R3 V3 O3 hgb B0 hg1 hbl
  go_wp2_with fail
  go_loopw [7, 19] (fun s7 s19 wr => ∃ (P : List Fo.V2) (N i : Nat) (lo : Int), P.length = N ∧ i ≤ len ∧ s19 = .int .i64 (i : Int) ∧ Hid (P ++ Fo.psg pass r.b (es.drop i) lo = T) ∧ Hid (wr.ownsRow w.heap.size 114 2 s7 N (vV P)) ∧ Hid (s7.ownBlock ≠ some bl) ∧ Hid (Var2 wr bl lo r.b) ∧ Below w.heap.size w wr) (fun _ s19 _ => len - (intOf s19).toNat)
  case atStart => exact ⟨[], 0, 0, r.a, rfl, Nat.zero_le _, rfl, Lib.hid (by rw [List.drop_zero]; exact HT.out), HO4, Lib.hid (by simp [Value.ownBlock]; exact HGB.out), HV4, HR4.out⟩
  case round =>
    clear v0 v1 vf0 vf1 vl HV4 HR4 HO4
    obtain ⟨P, N, i, lo, hN, hi, rfl, HP, HOW, HNE, HV, hR⟩ := hrel
    have hPN : N ≤ 1000 := by
      have h1 := HTL.out
      rw [← HP.out, List.length_append, hN, HN.out] at h1
      omega
    have HNN := Lib.hid hN
    clear hN
    by_cases hlt : i < len
    · have hil : i < es.length := by rw [HN.out]; exact hlt
      obtain ⟨b, off, hRe, hb, hc⟩ := HL.out (by omega)
      have X := (hc i hil).below hR hb
      obtain ⟨x, hx⟩ : ∃ x, Fo.at3 es i = x := ⟨_, rfl⟩
      rw [hx] at X
      have hd := Fo.drop_at hil
      rw [hx] at hd
      have HP2 : Hid (P ++ (if x.c ≠ pass ∧ Fo.iw x.a x.b lo r.b then ⟨lo, x.a⟩ :: Fo.psg pass r.b (es.drop (i + 1)) x.b else Fo.psg pass r.b (es.drop (i + 1)) lo) = T) := Lib.hid (by have h := HP.out; rw [hd] at h; exact h)
      have HXT := Lib.hid (TB.new wr x 116)
      have HV1 := Lib.hid (HV.out.alloc (.cells #[.int .i64 x.a, .int .i64 x.b, .int .i64 x.c] 116))
      have HR1 := Lib.hid (hR.alloc hR.size (.cells #[.int .i64 x.a, .int .i64 x.b, .int .i64 x.c] 116))
      have HOW1 := Lib.hid (HOW.out.alloc (.cells #[.int .i64 x.a, .int .i64 x.b, .int .i64 x.c] 116))
      have v0 := HV.out.at2.c0; have v1 := HV.out.at2.c1; have vl := HV.out.at2.lt
      obtain ⟨c0, c1, c2⟩ := X
      have hi1 : (i : Int) < (len : Int) := by omega
      clear hc hx hil hd
      rw [hRe]
      by_cases hp : x.c = pass
      case pos =>
        have HP3 : Hid (P ++ Fo.psg pass r.b (es.drop (i + 1)) lo = T) := Lib.hid (by have h := HP2.out; rw [if_neg (fun h => h.1 hp)] at h; exact h)
        have hbe : (x.c != pass) = false := by simpa using hp
        clear hp
        go_wp2_with fail
        go_roundw
        case rel => exact ⟨P, N, i + 1, lo, HNN.out, by omega, by simp, HP3, HOW1, HNE, HV1, HR1.out⟩
        case measure => simp [intOf]; omega
      have HPP := Lib.hid hp
      have hbe : (x.c != pass) = true := by simpa using hp
      obtain ⟨q, hq⟩ : ∃ q : Bool, q = true ↔ Fo.iw x.a x.b lo r.b := ⟨decide _, decide_eq_true_iff⟩
      have HQ := Lib.hid hq
      clear hp hq
      go_wp2_with fail
      refine (wwithin_is x.a x.b lo r.b q HQ.out _).mono ?_; rintro e w3 ⟨rfl, hb3⟩
      have X3 := HXT.out.below hb3; have V3 := HV1.out.below hb3
      have hR3 := HR1.out.trans (hb3.mono HR1.out.size)
      have OW3 := HOW1.out.kept (below_grown hb3 none) none_ne
      clear hb3 v0 v1 vl c0 c1 c2 hbe
      cases q with
      | false =>
        have HP3 : Hid (P ++ Fo.psg pass r.b (es.drop (i + 1)) lo = T) := Lib.hid (by have h := HP2.out; rw [if_neg (fun h => by have := HQ.out.2 h.2; cases this)] at h; exact h)
        have HV3 := Lib.hid V3; have HOW3 := Lib.hid OW3
        clear X3 V3 OW3
        go_wp2_with fail
        go_roundw
        case rel => exact ⟨P, N, i + 1, lo, HNN.out, by omega, by simp, HP3, HOW3, HNE, HV3, hR3⟩
        case measure => simp [intOf]; omega
      | true =>
        have HP3 : Hid ((P ++ [⟨lo, x.a⟩]) ++ Fo.psg pass r.b (es.drop (i + 1)) x.b = T) := Lib.hid (by have h := HP2.out; rw [if_pos ⟨HPP.out, HQ.out.1 rfl⟩] at h; rw [List.append_assoc]; exact h)
        have x0 := X3.c0; have xl := X3.lt
        have v0 := V3.at2.c0; have vl := V3.at2.lt
        have hkeep := OW3.kept (below_grown ((Below.refl w3.heap.size w3).alloc (Nat.le_refl _) (.cells #[.int .i64 lo, .int .i64 x.a] 114)) none) none_ne
        have HXA := Lib.hid (X3.alloc (.cells #[.int .i64 lo, .int .i64 x.a] 114))
        have HVA := Lib.hid (V3.alloc (.cells #[.int .i64 lo, .int .i64 x.a] 114))
        have hRA := hR3.alloc hR3.size (.cells #[.int .i64 lo, .int .i64 x.a] 114)
        have V3L := Lib.hid V3.at2.lt
        have HXB := Lib.hid (show wr.heap.size ≤ w3.heap.size by omega)
        clear X3 V3 OW3
        go_wp2_with (first | (at_builtin; refine wpList_append_own_at _ rfl _ _ 123 rfl w.heap.size 114 i0 (.agg #[.int .i64 0, .int .i64 0]) 2 16 Try.underlying123 HI0.out.1 HI0.out.2.1 HI0.out.2.2.1 HI0.out.2.2.2 rfl (by decide) _ _ _ rfl hkeep ⟨w3.heap.size, 0, none⟩ 1 1 [.int .i64 lo, .int .i64 x.a] rfl rfl (cell_two_newS _ _ _ _) (fun u hu => by simp at hu; rcases hu with rfl | rfl <;> rfl) (by unfold maxLen; omega) (by omega) (by have := hR3.size; simp; omega) ?_; intro v5 w5 hown5 hgrow5 hnil5 hat5; have V5 := HVA.out.grownS hgrow5 HNE.out; have X5 := HXA.out.grownS hgrow5 (fun e => by have := own_blk_lt HOW.out _ e; omega); have R5 := hRA.grown hgrow5 hRA.size (own_ne hkeep); have HNE5 := Lib.hid (own_at hat5 HNE.out (by have := HVA.out.at2.lt; have := V3L.out; simp; omega)); have HR5 := Lib.hid (R5.setCell (p := ⟨bl, 0, none⟩) (by simp; exact HBL.out) (.int .i64 x.b)); have HV5 := Lib.hid (V5.put0 x.b); have HOW5 := Lib.hid (own_setS hown5 HNE5.out 0 (.int .i64 x.b)); have y1 := X5.c1; have yl := X5.lt; have vv0 := V5.at2.c0; have vvf := V5.f0; have vvl := V5.at2.lt; obtain ⟨g5, cap5, rfl⟩ := own_succS hown5; clear hown5 hgrow5 hnil5 hat5 hkeep V5 X5 R5 hRA x0 xl v0 vl) | fail)
        go_roundw
        case rel => exact ⟨P ++ [⟨lo, x.a⟩], N + 1, i + 1, x.b, by rw [List.length_append, HNN.out]; rfl, by omega, by simp, HP3, Lib.hid (by rw [vV_app, vV_one]; exact HOW5.out), HNE5, HV5, HR5.out⟩
        case measure => simp [intOf]; omega
    · obtain rfl : i = len := by omega
      have HP3 : Hid (P ++ [⟨lo, r.b⟩] = T) := Lib.hid (by have h := HP.out; rw [List.drop_of_length_le (by rw [HN.out]; exact Nat.le_refl _)] at h; exact h)
      have V3 := HV.out
      have v0 := V3.at2.c0; have v1 := V3.at2.c1; have vl := V3.at2.lt
      have hkeep := HOW.out.kept (below_grown ((Below.refl wr.heap.size wr).alloc (Nat.le_refl _) (.cells #[.int .i64 lo, .int .i64 r.b] 114)) none) none_ne
      have hR3 := hR
      have hRA := hR3.alloc hR3.size (.cells #[.int .i64 lo, .int .i64 r.b] 114)
      clear V3
      go_wp2_with (first | (at_builtin; refine wpList_append_own_at _ rfl _ _ 123 rfl w.heap.size 114 i0 (.agg #[.int .i64 0, .int .i64 0]) 2 16 Try.underlying123 HI0.out.1 HI0.out.2.1 HI0.out.2.2.1 HI0.out.2.2.2 rfl (by decide) _ _ _ rfl hkeep ⟨wr.heap.size, 0, none⟩ 1 1 [.int .i64 lo, .int .i64 r.b] rfl rfl (cell_two_newS _ _ _ _) (fun u hu => by simp at hu; rcases hu with rfl | rfl <;> rfl) (by unfold maxLen; omega) (by omega) (by have := hR3.size; simp; omega) ?_; intro v5 w5 hown5 hgrow5 hnil5 hat5) | fail)
      have R5 := hRA.grown hgrow5 hRA.size (own_ne hkeep)
      clear hgrow5 hnil5 hat5 hkeep
      go_ret
      refine ⟨R5, v5, rfl, ?_⟩
      rw [← HP3.out, List.length_append, HNN.out, vV_app, vV_one]
      exact hown5
end Go.Proofs.Ytahdlkdiadlgeaa

/- The walks of reprise's part, spans and size. -/
namespace Go.Proofs.Ytahdlkdiadlgeaa
open Go.RowKit

theorem FB.grownS {w w' : World} {b : Nat} {h : FH} {row : Option Nat} (s : FB w b h) (hg : w.grownBy w' row) (hne : row ≠ some b) : FB w' b h := by
  have hk := hg.block b s.lt (fun e => hne e.symm)
  have c : ∀ j u, w.cell? ⟨b, j, none⟩ = some u → w'.cell? ⟨b, j, none⟩ = some u := fun j u hu => (World.cell?_of_block (w := w) (a := ⟨b, j, none⟩) hk).trans hu
  exact ⟨Nat.lt_of_lt_of_le s.lt hg.size, c 0 _ s.c0, c 1 _ s.c1, c 2 _ s.c2, c 3 _ s.c3, c 4 _ s.c4, c 5 _ s.c5, c 6 _ s.c6⟩
/-- A call's own slice that is not empty. -/
theorem own_VS {w : World} {base : Nat} {e : TypeId} {v : Value} {m : Nat} {l : List Fo.V2} (h : w.ownsRow base e 2 v m (vV l)) (hl : 0 < l.length) : ∃ g cap, v = .slice (some ⟨g, 0, none⟩) m cap ∧ l.length = m ∧ ∀ j u, (vV l)[j]? = some u → w.cell? ((⟨g, 0, none⟩ : Addr).add j) = some u := by
  have hm : l.length = m := by have := h.1; rw [vV_length] at this; omega
  rcases h.2 with ⟨_, h0⟩ | ⟨g, cap, cur, hv, _, _, _⟩
  · omega
  · exact ⟨g, cap, hv, hm, fun j u hj => h.cells (g := g) (by rw [hv]; rfl) j u hj⟩
theorem vV_len2 {l : List Fo.V2} {m : Nat} (h : l.length = m) : (vV l).length = m * 2 := by rw [vV_length, h]
theorem psg_pos (pass hi : Int) : ∀ (l : List Fo.T3) (lo : Int), 0 < (Fo.psg pass hi l lo).length
  | [], lo => by rw [Fo.psg]; simp
  | e :: l, lo => by
    unfold Fo.psg
    split
    · simp
    · exact psg_pos pass hi l lo
theorem prtS_pos (es : List Fo.T3) (first : Fo.T3 → Int) (hi : Int) : ∀ (l : List Fo.T3) (lo : Int), 0 < (Fo.prtS es first hi l lo).length
  | [], lo => by rw [Fo.prtS]; simp
  | e :: l, lo => by
    unfold Fo.prtS
    split
    · simp
    · exact prtS_pos es first hi l lo
set_option maxHeartbeats 400000 in
theorem wf1_is (x : Fo.T3) (w : World) :
    Calls Try.prog 92 #[.agg #[.int .i64 x.a, .int .i64 x.b, .int .i64 x.c]] w fun e w' => e = .returned (.int .i64 (1)) ∧ Below w.heap.size w w' := by
  have B := (Below.refl w.heap.size w).alloc (Nat.le_refl _) (.cells #[.int .i64 x.a, .int .i64 x.b, .int .i64 x.c] 66)
  go_enter Try.func92, Try.ntmps92
  go_wp2_with fail
  go_ret
  exact ⟨rfl, B⟩
set_option maxHeartbeats 400000 in
theorem wf2_is (x : Fo.T3) (w : World) :
    Calls Try.prog 93 #[.agg #[.int .i64 x.a, .int .i64 x.b, .int .i64 x.c]] w fun e w' => e = .returned (.int .i64 (x.c)) ∧ Below w.heap.size w w' := by
  have B := (Below.refl w.heap.size w).alloc (Nat.le_refl _) (.cells #[.int .i64 x.a, .int .i64 x.b, .int .i64 x.c] 66)
  go_enter Try.func93, Try.ntmps93
  go_wp2_with fail
  go_ret
  exact ⟨rfl, B⟩
set_option maxRecDepth 100000 in
set_option maxHeartbeats 12800000 in
theorem wp1_is (h : FH) (f : Fo.Fm) (lo hi : Int) (hrc : ∀ x ∈ f.rs, 1 ≤ x.c ∧ x.c ≤ 9) (hrl : h.rl ≤ 100) (hel : h.el ≤ 100) (w : World) (hS : SlF w h f) :
    Calls Try.prog 91 #[.agg #[.int .i64 h.n, .slice h.R h.rl h.rc, .slice h.E h.el h.ec, .int .i64 h.ja, .int .i64 h.jt, .int .i64 h.jf, .slice h.C h.cl h.cc], .agg #[.int .i64 lo, .int .i64 hi], .func (.func 92) #[] #[]] w fun e w' => Below w.heap.size w w' ∧ ∃ v, e = .returned v ∧ w'.ownsRow w.heap.size 114 2 v (Fo.prtS f.es (fun _ => 1) hi f.rs lo).length (vV (Fo.prtS f.es (fun _ => 1) hi f.rs lo)) := by
  obtain ⟨i0, hi0, hz0, hz1, hz2⟩ := info_parts infoSpan
  have HI0 := Lib.hid (And.intro hi0 (And.intro hz0 (And.intro hz1 hz2)))
  have HN := Lib.hid hS.rl; have HL := Lib.hid hS.sr
  have HNE0 := Lib.hid hS.el; have HLE := Lib.hid hS.se
  have HRC := Lib.hid hrc; have HEL := Lib.hid hel
  have HTL := Lib.hid (Fo.prtS_len f.es (by rw [hS.el]; exact hel) (fun _ => 1) hi f.rs lo (fun r hr => by have := hrc r hr; show (1 : Int) ≤ 1 ∧ r.c ≤ 9; omega))
  obtain ⟨T, hT⟩ : ∃ T, Fo.prtS f.es (fun _ => 1) hi f.rs lo = T := ⟨_, rfl⟩
  have HT := Lib.hid hT
  rw [hT] at HTL ⊢
  clear hi0 hz0 hz1 hz2 hT hrc hel
  have V0 : Var2 ((w.alloc (.cells #[.int .i64 h.n, .slice h.R h.rl h.rc, .slice h.E h.el h.ec, .int .i64 h.ja, .int .i64 h.jt, .int .i64 h.jf, .slice h.C h.cl h.cc] 47)).alloc (.cells #[.int .i64 lo, .int .i64 hi] 114)) (w.alloc (.cells #[.int .i64 h.n, .slice h.R h.rl h.rc, .slice h.E h.el h.ec, .int .i64 h.ja, .int .i64 h.jt, .int .i64 h.jf, .slice h.C h.cl h.cc] 47)).heap.size lo hi := Var2.new _ _ _ _
  rw [World.size_alloc] at V0
  have O1 := own_emptyS ((w.alloc (.cells #[.int .i64 h.n, .slice h.R h.rl h.rc, .slice h.E h.el h.ec, .int .i64 h.ja, .int .i64 h.jt, .int .i64 h.jf, .slice h.C h.cl h.cc] 47)).alloc (.cells #[.int .i64 lo, .int .i64 hi] 114)) 114 2
  rw [World.size_alloc, World.size_alloc] at O1
  have HV1 := Lib.hid (V0.alloc (.cells #[] 114))
  have HQ1 := Lib.hid (((FB.new w h).alloc (.cells #[.int .i64 lo, .int .i64 hi] 114)).alloc (.cells #[] 114))
  have HR1 := Lib.hid ((((Below.refl w.heap.size w).alloc (Nat.le_refl _) (.cells #[.int .i64 h.n, .slice h.R h.rl h.rc, .slice h.E h.el h.ec, .int .i64 h.ja, .int .i64 h.jt, .int .i64 h.jf, .slice h.C h.cl h.cc] 47)).alloc (by simp) (.cells #[.int .i64 lo, .int .i64 hi] 114)).alloc (by simp; omega) (.cells #[] 114))
  have HO1 : Hid (World.ownsRow _ w.heap.size 114 2 (.slice (some ⟨w.heap.size + 1 + 1, 0, none⟩) 0 0) 0 (vV [])) := Lib.hid (own_lessK O1 (by omega))
  clear V0 O1 hS
  go_enter Try.func91, Try.ntmps91
  go_wp2_with fail
  go_loopw [7, 15] (fun s7 s15 wr => ∃ (P : List Fo.V2) (N i : Nat) (lq : Int), P.length = N ∧ i ≤ h.rl ∧ s15 = .int .i64 (i : Int) ∧ Hid (P ++ Fo.prtS f.es (fun _ => 1) hi (f.rs.drop i) lq = T) ∧ Hid (wr.ownsRow w.heap.size 114 2 s7 N (vV P)) ∧ Hid (s7.ownBlock ≠ some (w.heap.size + 1)) ∧ Hid (s7.ownBlock ≠ some w.heap.size) ∧ Hid (Var2 wr (w.heap.size + 1) lq hi) ∧ Hid (FB wr w.heap.size h) ∧ Below w.heap.size w wr) (fun _ s15 _ => h.rl - (intOf s15).toNat)
  case atStart => exact ⟨[], 0, 0, lo, rfl, Nat.zero_le _, rfl, Lib.hid (by rw [List.drop_zero]; exact HT.out), HO1, Lib.hid (by simp [Value.ownBlock]), Lib.hid (by simp [Value.ownBlock]; omega), HV1, HQ1, HR1.out⟩
  case round =>
    clear HV1 HQ1 HR1 HO1
    obtain ⟨P, N, i, lq, hN, hi2, rfl, HP, HOW, HNE, HNF, HV, HQ, hR⟩ := hrel
    have hPN : N ≤ 100001 := by
      have h1 := HTL.out
      rw [← HP.out, List.length_append, hN, HN.out] at h1
      omega
    have HNN := Lib.hid hN
    clear hN
    by_cases hlt : i < h.rl
    · have hil : i < f.rs.length := by rw [HN.out]; exact hlt
      obtain ⟨b, off, hRe, hb, hc⟩ := HL.out (by omega)
      have X := (hc i hil).below hR hb
      obtain ⟨x, hx⟩ : ∃ x, Fo.at3 f.rs i = x := ⟨_, rfl⟩
      rw [hx] at X
      have hd := Fo.drop_at hil
      rw [hx] at hd
      have hx9 := HRC.out x (by rw [← hx]; exact Fo.at3_mem hil)
      have HP2 : Hid (P ++ (if Fo.iw x.a x.b lq hi then ⟨lq, x.a⟩ :: (Fo.pssS f.es x (1) (x.c + 1 - (1)).toNat ++ Fo.prtS f.es (fun _ => 1) hi (f.rs.drop (i + 1)) x.b) else Fo.prtS f.es (fun _ => 1) hi (f.rs.drop (i + 1)) lq) = T) := Lib.hid (by have h := HP.out; rw [hd] at h; exact h)
      have HXT := Lib.hid (TB.new wr x 66)
      have HV1 := Lib.hid (HV.out.alloc (.cells #[.int .i64 x.a, .int .i64 x.b, .int .i64 x.c] 66))
      have HQ1 := Lib.hid (HQ.out.alloc (.cells #[.int .i64 x.a, .int .i64 x.b, .int .i64 x.c] 66))
      have HR1 := Lib.hid (hR.alloc hR.size (.cells #[.int .i64 x.a, .int .i64 x.b, .int .i64 x.c] 66))
      have HOW1 := Lib.hid (HOW.out.alloc (.cells #[.int .i64 x.a, .int .i64 x.b, .int .i64 x.c] 66))
      have v0 := HV.out.at2.c0; have v1 := HV.out.at2.c1; have vl := HV.out.at2.lt
      obtain ⟨c0, c1, c2⟩ := X
      have hi1 : (i : Int) < (h.rl : Int) := by omega
      obtain ⟨q, hq⟩ : ∃ q : Bool, q = true ↔ Fo.iw x.a x.b lq hi := ⟨decide _, decide_eq_true_iff⟩
      have HQQ := Lib.hid hq
      clear hc hx hil hd hq
      rw [hRe]
      go_wp2_with fail
      refine (wwithin_is x.a x.b lq hi q HQQ.out _).mono ?_; rintro e w3 ⟨rfl, hb3⟩
      have X3 := HXT.out.below hb3; have V3 := HV1.out.below hb3; have Q3 := HQ1.out.below hb3
      have hR3 := HR1.out.trans (hb3.mono HR1.out.size)
      have OW3 := HOW1.out.kept (below_grown hb3 none) none_ne
      have X3L := Lib.hid X3.lt; have V3L := Lib.hid V3.at2.lt
      clear hb3 v0 v1 vl c0 c1 c2
      cases q with
      | false =>
        have HP3 : Hid (P ++ Fo.prtS f.es (fun _ => 1) hi (f.rs.drop (i + 1)) lq = T) := Lib.hid (by have h := HP2.out; rw [if_neg (fun h => by have := HQQ.out.2 h; cases this)] at h; exact h)
        have HV3 := Lib.hid V3; have HOW3 := Lib.hid OW3; have HQ3 := Lib.hid Q3
        clear X3 V3 OW3 Q3
        go_wp2_with fail
        go_roundw
        case rel => exact ⟨P, N, i + 1, lq, HNN.out, by omega, by simp, HP3, HOW3, HNE, HNF, HV3, HQ3, hR3⟩
        case measure => simp [intOf]; omega
      | true =>
        have HP3 : Hid ((P ++ [(⟨lq, x.a⟩ : Fo.V2)]) ++ Fo.pssS f.es x (1) (x.c + 1 - (1)).toNat ++ Fo.prtS f.es (fun _ => 1) hi (f.rs.drop (i + 1)) x.b = T) := Lib.hid (by have h := HP2.out; rw [if_pos (HQQ.out.1 rfl)] at h; rw [← h]; simp)
        have x0 := X3.c0; have xl := X3.lt
        have v0 := V3.at2.c0; have vl := V3.at2.lt
        have hkeep := OW3.kept (below_grown ((Below.refl w3.heap.size w3).alloc (Nat.le_refl _) (.cells #[.int .i64 lq, .int .i64 x.a] 114)) none) none_ne
        have HXA := Lib.hid (X3.alloc (.cells #[.int .i64 lq, .int .i64 x.a] 114))
        have HVA := Lib.hid (V3.alloc (.cells #[.int .i64 lq, .int .i64 x.a] 114))
        have HQA := Lib.hid (Q3.alloc (.cells #[.int .i64 lq, .int .i64 x.a] 114))
        have hRA := hR3.alloc hR3.size (.cells #[.int .i64 lq, .int .i64 x.a] 114)
        clear X3 V3 OW3 Q3
        go_wp2_with (first | (at_builtin; refine wpList_append_own_at _ rfl _ _ 123 rfl w.heap.size 114 i0 (.agg #[.int .i64 0, .int .i64 0]) 2 16 Try.underlying123 HI0.out.1 HI0.out.2.1 HI0.out.2.2.1 HI0.out.2.2.2 rfl (by decide) _ N (vV P) rfl hkeep ⟨w3.heap.size, 0, none⟩ 1 1 [.int .i64 lq, .int .i64 x.a] rfl rfl (cell_two_newS _ _ _ _) (fun u hu => by simp at hu; rcases hu with rfl | rfl <;> rfl) (by unfold maxLen; omega) (by omega) (by have := hR3.size; simp; omega) ?_; intro v5 w5 hown5 hgrow5 hnil5 hat5; have V5 := HVA.out.grownS hgrow5 HNE.out; have X5 := HXA.out.grownS hgrow5 (fun e => by have := own_blk_lt HOW.out _ e; omega); have Q5 := HQA.out.grownS hgrow5 HNF.out; have R5 := hRA.grown hgrow5 hRA.size (own_ne hkeep); have HNE5 := Lib.hid (own_at hat5 HNE.out (by have := V3L.out; simp; omega)); have HNF5 := Lib.hid (own_at hat5 HNF.out (by have := V3L.out; simp; omega)); have HNX5 := Lib.hid (own_at (bl := wr.heap.size) hat5 (fun e => by have := own_blk_lt HOW.out _ e; omega) (by have := X3L.out; simp; omega)); have HX5 := Lib.hid X5; have HV5 := Lib.hid V5; have HQ5 := Lib.hid Q5; have HOW5 := Lib.hid hown5; have HR5 := Lib.hid R5; have y0 := X5.c0; have y1 := X5.c1; have y2 := X5.c2; have yl := X5.lt; obtain ⟨g5, cap5, rfl⟩ := own_succS hown5; clear hown5 hgrow5 hnil5 hat5 hkeep V5 X5 Q5 R5 hRA x0 xl v0 vl) | fail)
        refine (wf1_is x _).mono ?_; rintro e w6 ⟨rfl, hb6⟩
        have HX6 := Lib.hid (HX5.out.below hb6); have HV6 := Lib.hid (HV5.out.below hb6); have HQ6 := Lib.hid (HQ5.out.below hb6)
        have R6 := HR5.out.trans (hb6.mono HR5.out.size)
        have HOW6 := Lib.hid (HOW5.out.kept (below_grown hb6 none) none_ne)
        clear hb6 y0 y1 y2 yl HX5 HV5 HQ5 HR5 HOW5
        obtain ⟨cnt, hcnt⟩ : ∃ cnt : Nat, (x.c + 1 - (1)).toNat = cnt := ⟨_, rfl⟩
        have hcx : (1) + (cnt : Int) = x.c + 1 := by omega
        have hc9 : cnt ≤ 9 := by omega
        rw [hcnt] at HP3
        have hRi := R6
        clear hcnt R6 hR3 hR
        go_wp2_with fail
        go_loopw [7, 10] (fun s7 s10 wq => ∃ (k N2 : Nat), k ≤ cnt ∧ s10 = .int .i64 ((1) + (k : Int)) ∧ (P ++ [(⟨lq, x.a⟩ : Fo.V2)] ++ Fo.pssS f.es x (1) k).length = N2 ∧ Hid (wq.ownsRow w.heap.size 114 2 s7 N2 (vV (P ++ [(⟨lq, x.a⟩ : Fo.V2)] ++ Fo.pssS f.es x (1) k))) ∧ Hid (s7.ownBlock ≠ some (w.heap.size + 1)) ∧ Hid (s7.ownBlock ≠ some w.heap.size) ∧ Hid (s7.ownBlock ≠ some wr.heap.size) ∧ Hid (TB wq wr.heap.size x) ∧ Hid (Var2 wq (w.heap.size + 1) lq hi) ∧ Hid (FB wq w.heap.size h) ∧ Below w.heap.size w wq) (fun _ s10 _ => (x.c + 1 - intOf s10).toNat)
        case atStart => exact ⟨0, N + 1, Nat.zero_le _, by simp, by rw [show ∀ l : List Fo.V2, l ++ Fo.pssS f.es x (1) 0 = l from fun l => List.append_nil l, List.length_append, HNN.out]; rfl, Lib.hid (by rw [show ∀ l : List Fo.V2, l ++ Fo.pssS f.es x (1) 0 = l from fun l => List.append_nil l, vV_app, vV_one]; exact HOW6.out), HNE5, HNF5, HNX5, HX6, HV6, HQ6, hRi⟩
        case round =>
          clear HX6 HV6 HQ6 HOW6 HNE5 HNF5 HNX5 hRi HNE HNF HQ HV HOW HV1 HQ1 HR1 HOW1 HXT HXA HVA HQA X3L V3L HP HP2
          obtain ⟨k, N2, hk, rfl, hN2, HOW, HNE, HNF, HNX, HX, HV, HQ, hR⟩ := hrel
          have HN2 := Lib.hid hN2
          clear hN2
          have hkc : ((1) + (k : Int) ≤ x.c) ↔ k < cnt := by omega
          by_cases hlk : k < cnt
          case neg =>
            obtain rfl : k = cnt := by omega
            have hno : ¬ (1) + (k : Int) ≤ x.c := by omega
            have x1 := HX.out.c1; have x2 := HX.out.c2; have xl := HX.out.lt
            have v0 := HV.out.at2.c0; have vf := HV.out.f0; have vl := HV.out.at2.lt
            have HV4 := Lib.hid (HV.out.put0 x.b)
            have HQ4 := Lib.hid (HQ.out.other (p := ⟨w.heap.size + 1, 0, none⟩) (by simp) (.int .i64 x.b))
            have HR4 := Lib.hid (hR.setCell (p := ⟨w.heap.size + 1, 0, none⟩) (by simp) (.int .i64 x.b))
            have HOW4 := Lib.hid (own_setS HOW.out HNE.out 0 (.int .i64 x.b))
            clear hkc
            go_wp2_with fail
            go_roundw
            case rel => exact ⟨P ++ [(⟨lq, x.a⟩ : Fo.V2)] ++ Fo.pssS f.es x (1) k, N2, i + 1, x.b, HN2.out, by omega, by simp, HP3, HOW4, HNE, HNF, HV4, HQ4, HR4.out⟩
            case measure => simp [intOf]; omega
          have hyes := hkc.2 hlk
          have hN2b : N2 ≤ 101000 := by
            have h1 := HNN.out
            have h2 := Fo.pssS_len f.es x (1) k
            have h3 := HN2.out
            have h4 : k * (f.es.length + 1) ≤ 9 * 101 := Nat.mul_le_mul (by omega) (by rw [HNE0.out]; have := HEL.out; omega)
            rw [List.length_append, List.length_append, h1] at h3
            simp at h3
            omega
          have x0 := HX.out.c0; have x1 := HX.out.c1; have x2 := HX.out.c2; have xl := HX.out.lt
          have q2 := HQ.out.c2; have ql := HQ.out.lt
          clear hkc
          go_wp2_with fail
          refine (wpassage_is f.es x ((1) + (k : Int)) h.el h.ec h.E HNE0.out HEL.out _ (HLE.out.below hR)).mono ?_; rintro e w4 ⟨hb4, v4, rfl, hown4⟩
          obtain ⟨g4, c4, rfl, hm4, hnews4⟩ := own_VS hown4 (psg_pos _ _ _ _)
          obtain ⟨m4, hm⟩ : ∃ m, (Fo.psg ((1) + (k : Int)) x.b f.es x.a).length = m := ⟨_, rfl⟩
          have hm4b : m4 ≤ 101 := by have h1 := Fo.psg_len ((1) + (k : Int)) x.b f.es x.a; rw [hm, HNE0.out] at h1; have := HEL.out; omega
          rw [hm] at hown4 ⊢
          have HM := Lib.hid hm; have HNW := Lib.hid hnews4
          have X4 := HX.out.below hb4; have V4 := HV.out.below hb4; have Q4 := HQ.out.below hb4
          have R4 := hR.trans (hb4.mono hR.size)
          have hkeep := HOW.out.kept (below_grown hb4 none) none_ne
          have hR3 := R4
          clear hb4 hown4 hnews4 hm hm4 x0 x1 x2 xl q2 ql
          go_wp2_with (first | (at_builtin; refine wpList_append_own_at _ rfl _ _ 123 rfl w.heap.size 114 i0 (.agg #[.int .i64 0, .int .i64 0]) 2 16 Try.underlying123 HI0.out.1 HI0.out.2.1 HI0.out.2.2.1 HI0.out.2.2.2 rfl (by decide) _ N2 (vV (P ++ [(⟨lq, x.a⟩ : Fo.V2)] ++ Fo.pssS f.es x (1) k)) rfl hkeep ⟨g4, 0, none⟩ m4 c4 (vV (Fo.psg ((1) + (k : Int)) x.b f.es x.a)) rfl (vV_len2 HM.out) HNW.out (vV_cells _) (by unfold maxLen; omega) (by omega) (by have := hR3.size; simp; omega) ?_; intro v5 w5 hown5 hgrow5 hnil5 hat5; have V5 := V4.grownS hgrow5 HNE.out; have X5 := X4.grownS hgrow5 HNX.out; have Q5 := Q4.grownS hgrow5 HNF.out; have R5 := R4.grown hgrow5 R4.size (own_ne hkeep); have HNE5 := Lib.hid (own_at hat5 HNE.out V4.at2.lt); have HNF5 := Lib.hid (own_at hat5 HNF.out Q4.lt); have HNX5 := Lib.hid (own_at hat5 HNX.out X4.lt); have HX5 := Lib.hid X5; have HV5 := Lib.hid V5; have HQ5 := Lib.hid Q5; have HOW5 := Lib.hid hown5; have HR5 := Lib.hid R5; clear hown5 hgrow5 hnil5 hat5 hkeep V5 X5 Q5 R5 V4 X4 Q4 R4) | fail)
          go_roundw
          case rel => exact ⟨k + 1, N2 + m4, by omega, by (simp <;> omega), by rw [show Fo.pssS f.es x (1) (k + 1) = Fo.pssS f.es x (1) k ++ Fo.psg ((1) + (k : Int)) x.b f.es x.a from rfl, ← List.append_assoc, List.length_append, HN2.out, HM.out], Lib.hid (by rw [show Fo.pssS f.es x (1) (k + 1) = Fo.pssS f.es x (1) k ++ Fo.psg ((1) + (k : Int)) x.b f.es x.a from rfl, ← List.append_assoc, vV_app]; exact HOW5.out), HNE5, HNF5, HNX5, HX5, HV5, HQ5, HR5.out⟩
          case measure => simp [intOf]; omega
    · obtain rfl : i = h.rl := by omega
      have HP3 : Hid (P ++ [(⟨lq, hi⟩ : Fo.V2)] = T) := Lib.hid (by have h := HP.out; rw [List.drop_of_length_le (by rw [HN.out]; exact Nat.le_refl _)] at h; exact h)
      have v0 := HV.out.at2.c0; have v1 := HV.out.at2.c1; have vl := HV.out.at2.lt
      have hkeep := HOW.out.kept (below_grown ((Below.refl wr.heap.size wr).alloc (Nat.le_refl _) (.cells #[.int .i64 lq, .int .i64 hi] 114)) none) none_ne
      have hR3 := hR
      have hRA := hR3.alloc hR3.size (.cells #[.int .i64 lq, .int .i64 hi] 114)
      go_wp2_with (first | (at_builtin; refine wpList_append_own_at _ rfl _ _ 123 rfl w.heap.size 114 i0 (.agg #[.int .i64 0, .int .i64 0]) 2 16 Try.underlying123 HI0.out.1 HI0.out.2.1 HI0.out.2.2.1 HI0.out.2.2.2 rfl (by decide) _ N (vV P) rfl hkeep ⟨wr.heap.size, 0, none⟩ 1 1 [.int .i64 lq, .int .i64 hi] rfl rfl (cell_two_newS _ _ _ _) (fun u hu => by simp at hu; rcases hu with rfl | rfl <;> rfl) (by unfold maxLen; omega) (by omega) (by have := hR3.size; simp; omega) ?_; intro v5 w5 hown5 hgrow5 hnil5 hat5; have R5 := hRA.grown hgrow5 hRA.size (own_ne hkeep); clear hgrow5 hnil5 hat5 hkeep) | fail)
      go_ret
      refine ⟨R5, v5, rfl, ?_⟩
      rw [← HP3.out, List.length_append, HNN.out, vV_app, vV_one]
      exact hown5
set_option maxRecDepth 100000 in
set_option maxHeartbeats 12800000 in
theorem wp2_is (h : FH) (f : Fo.Fm) (lo hi : Int) (hrc : ∀ x ∈ f.rs, 1 ≤ x.c ∧ x.c ≤ 9) (hrl : h.rl ≤ 100) (hel : h.el ≤ 100) (w : World) (hS : SlF w h f) :
    Calls Try.prog 91 #[.agg #[.int .i64 h.n, .slice h.R h.rl h.rc, .slice h.E h.el h.ec, .int .i64 h.ja, .int .i64 h.jt, .int .i64 h.jf, .slice h.C h.cl h.cc], .agg #[.int .i64 lo, .int .i64 hi], .func (.func 93) #[] #[]] w fun e w' => Below w.heap.size w w' ∧ ∃ v, e = .returned v ∧ w'.ownsRow w.heap.size 114 2 v (Fo.prtS f.es (fun r => r.c) hi f.rs lo).length (vV (Fo.prtS f.es (fun r => r.c) hi f.rs lo)) := by
  obtain ⟨i0, hi0, hz0, hz1, hz2⟩ := info_parts infoSpan
  have HI0 := Lib.hid (And.intro hi0 (And.intro hz0 (And.intro hz1 hz2)))
  have HN := Lib.hid hS.rl; have HL := Lib.hid hS.sr
  have HNE0 := Lib.hid hS.el; have HLE := Lib.hid hS.se
  have HRC := Lib.hid hrc; have HEL := Lib.hid hel
  have HTL := Lib.hid (Fo.prtS_len f.es (by rw [hS.el]; exact hel) (fun r => r.c) hi f.rs lo (fun r hr => by have := hrc r hr; show (1 : Int) ≤ r.c ∧ r.c ≤ 9; omega))
  obtain ⟨T, hT⟩ : ∃ T, Fo.prtS f.es (fun r => r.c) hi f.rs lo = T := ⟨_, rfl⟩
  have HT := Lib.hid hT
  rw [hT] at HTL ⊢
  clear hi0 hz0 hz1 hz2 hT hrc hel
  have V0 : Var2 ((w.alloc (.cells #[.int .i64 h.n, .slice h.R h.rl h.rc, .slice h.E h.el h.ec, .int .i64 h.ja, .int .i64 h.jt, .int .i64 h.jf, .slice h.C h.cl h.cc] 47)).alloc (.cells #[.int .i64 lo, .int .i64 hi] 114)) (w.alloc (.cells #[.int .i64 h.n, .slice h.R h.rl h.rc, .slice h.E h.el h.ec, .int .i64 h.ja, .int .i64 h.jt, .int .i64 h.jf, .slice h.C h.cl h.cc] 47)).heap.size lo hi := Var2.new _ _ _ _
  rw [World.size_alloc] at V0
  have O1 := own_emptyS ((w.alloc (.cells #[.int .i64 h.n, .slice h.R h.rl h.rc, .slice h.E h.el h.ec, .int .i64 h.ja, .int .i64 h.jt, .int .i64 h.jf, .slice h.C h.cl h.cc] 47)).alloc (.cells #[.int .i64 lo, .int .i64 hi] 114)) 114 2
  rw [World.size_alloc, World.size_alloc] at O1
  have HV1 := Lib.hid (V0.alloc (.cells #[] 114))
  have HQ1 := Lib.hid (((FB.new w h).alloc (.cells #[.int .i64 lo, .int .i64 hi] 114)).alloc (.cells #[] 114))
  have HR1 := Lib.hid ((((Below.refl w.heap.size w).alloc (Nat.le_refl _) (.cells #[.int .i64 h.n, .slice h.R h.rl h.rc, .slice h.E h.el h.ec, .int .i64 h.ja, .int .i64 h.jt, .int .i64 h.jf, .slice h.C h.cl h.cc] 47)).alloc (by simp) (.cells #[.int .i64 lo, .int .i64 hi] 114)).alloc (by simp; omega) (.cells #[] 114))
  have HO1 : Hid (World.ownsRow _ w.heap.size 114 2 (.slice (some ⟨w.heap.size + 1 + 1, 0, none⟩) 0 0) 0 (vV [])) := Lib.hid (own_lessK O1 (by omega))
  clear V0 O1 hS
  go_enter Try.func91, Try.ntmps91
  go_wp2_with fail
  go_loopw [7, 15] (fun s7 s15 wr => ∃ (P : List Fo.V2) (N i : Nat) (lq : Int), P.length = N ∧ i ≤ h.rl ∧ s15 = .int .i64 (i : Int) ∧ Hid (P ++ Fo.prtS f.es (fun r => r.c) hi (f.rs.drop i) lq = T) ∧ Hid (wr.ownsRow w.heap.size 114 2 s7 N (vV P)) ∧ Hid (s7.ownBlock ≠ some (w.heap.size + 1)) ∧ Hid (s7.ownBlock ≠ some w.heap.size) ∧ Hid (Var2 wr (w.heap.size + 1) lq hi) ∧ Hid (FB wr w.heap.size h) ∧ Below w.heap.size w wr) (fun _ s15 _ => h.rl - (intOf s15).toNat)
  case atStart => exact ⟨[], 0, 0, lo, rfl, Nat.zero_le _, rfl, Lib.hid (by rw [List.drop_zero]; exact HT.out), HO1, Lib.hid (by simp [Value.ownBlock]), Lib.hid (by simp [Value.ownBlock]; omega), HV1, HQ1, HR1.out⟩
  case round =>
    clear HV1 HQ1 HR1 HO1
    obtain ⟨P, N, i, lq, hN, hi2, rfl, HP, HOW, HNE, HNF, HV, HQ, hR⟩ := hrel
    have hPN : N ≤ 100001 := by
      have h1 := HTL.out
      rw [← HP.out, List.length_append, hN, HN.out] at h1
      omega
    have HNN := Lib.hid hN
    clear hN
    by_cases hlt : i < h.rl
    · have hil : i < f.rs.length := by rw [HN.out]; exact hlt
      obtain ⟨b, off, hRe, hb, hc⟩ := HL.out (by omega)
      have X := (hc i hil).below hR hb
      obtain ⟨x, hx⟩ : ∃ x, Fo.at3 f.rs i = x := ⟨_, rfl⟩
      rw [hx] at X
      have hd := Fo.drop_at hil
      rw [hx] at hd
      have hx9 := HRC.out x (by rw [← hx]; exact Fo.at3_mem hil)
      have HP2 : Hid (P ++ (if Fo.iw x.a x.b lq hi then ⟨lq, x.a⟩ :: (Fo.pssS f.es x (x.c) (x.c + 1 - (x.c)).toNat ++ Fo.prtS f.es (fun r => r.c) hi (f.rs.drop (i + 1)) x.b) else Fo.prtS f.es (fun r => r.c) hi (f.rs.drop (i + 1)) lq) = T) := Lib.hid (by have h := HP.out; rw [hd] at h; exact h)
      have HXT := Lib.hid (TB.new wr x 66)
      have HV1 := Lib.hid (HV.out.alloc (.cells #[.int .i64 x.a, .int .i64 x.b, .int .i64 x.c] 66))
      have HQ1 := Lib.hid (HQ.out.alloc (.cells #[.int .i64 x.a, .int .i64 x.b, .int .i64 x.c] 66))
      have HR1 := Lib.hid (hR.alloc hR.size (.cells #[.int .i64 x.a, .int .i64 x.b, .int .i64 x.c] 66))
      have HOW1 := Lib.hid (HOW.out.alloc (.cells #[.int .i64 x.a, .int .i64 x.b, .int .i64 x.c] 66))
      have v0 := HV.out.at2.c0; have v1 := HV.out.at2.c1; have vl := HV.out.at2.lt
      obtain ⟨c0, c1, c2⟩ := X
      have hi1 : (i : Int) < (h.rl : Int) := by omega
      obtain ⟨q, hq⟩ : ∃ q : Bool, q = true ↔ Fo.iw x.a x.b lq hi := ⟨decide _, decide_eq_true_iff⟩
      have HQQ := Lib.hid hq
      clear hc hx hil hd hq
      rw [hRe]
      go_wp2_with fail
      refine (wwithin_is x.a x.b lq hi q HQQ.out _).mono ?_; rintro e w3 ⟨rfl, hb3⟩
      have X3 := HXT.out.below hb3; have V3 := HV1.out.below hb3; have Q3 := HQ1.out.below hb3
      have hR3 := HR1.out.trans (hb3.mono HR1.out.size)
      have OW3 := HOW1.out.kept (below_grown hb3 none) none_ne
      have X3L := Lib.hid X3.lt; have V3L := Lib.hid V3.at2.lt
      clear hb3 v0 v1 vl c0 c1 c2
      cases q with
      | false =>
        have HP3 : Hid (P ++ Fo.prtS f.es (fun r => r.c) hi (f.rs.drop (i + 1)) lq = T) := Lib.hid (by have h := HP2.out; rw [if_neg (fun h => by have := HQQ.out.2 h; cases this)] at h; exact h)
        have HV3 := Lib.hid V3; have HOW3 := Lib.hid OW3; have HQ3 := Lib.hid Q3
        clear X3 V3 OW3 Q3
        go_wp2_with fail
        go_roundw
        case rel => exact ⟨P, N, i + 1, lq, HNN.out, by omega, by simp, HP3, HOW3, HNE, HNF, HV3, HQ3, hR3⟩
        case measure => simp [intOf]; omega
      | true =>
        have HP3 : Hid ((P ++ [(⟨lq, x.a⟩ : Fo.V2)]) ++ Fo.pssS f.es x (x.c) (x.c + 1 - (x.c)).toNat ++ Fo.prtS f.es (fun r => r.c) hi (f.rs.drop (i + 1)) x.b = T) := Lib.hid (by have h := HP2.out; rw [if_pos (HQQ.out.1 rfl)] at h; rw [← h]; simp)
        have x0 := X3.c0; have xl := X3.lt
        have v0 := V3.at2.c0; have vl := V3.at2.lt
        have hkeep := OW3.kept (below_grown ((Below.refl w3.heap.size w3).alloc (Nat.le_refl _) (.cells #[.int .i64 lq, .int .i64 x.a] 114)) none) none_ne
        have HXA := Lib.hid (X3.alloc (.cells #[.int .i64 lq, .int .i64 x.a] 114))
        have HVA := Lib.hid (V3.alloc (.cells #[.int .i64 lq, .int .i64 x.a] 114))
        have HQA := Lib.hid (Q3.alloc (.cells #[.int .i64 lq, .int .i64 x.a] 114))
        have hRA := hR3.alloc hR3.size (.cells #[.int .i64 lq, .int .i64 x.a] 114)
        clear X3 V3 OW3 Q3
        go_wp2_with (first | (at_builtin; refine wpList_append_own_at _ rfl _ _ 123 rfl w.heap.size 114 i0 (.agg #[.int .i64 0, .int .i64 0]) 2 16 Try.underlying123 HI0.out.1 HI0.out.2.1 HI0.out.2.2.1 HI0.out.2.2.2 rfl (by decide) _ N (vV P) rfl hkeep ⟨w3.heap.size, 0, none⟩ 1 1 [.int .i64 lq, .int .i64 x.a] rfl rfl (cell_two_newS _ _ _ _) (fun u hu => by simp at hu; rcases hu with rfl | rfl <;> rfl) (by unfold maxLen; omega) (by omega) (by have := hR3.size; simp; omega) ?_; intro v5 w5 hown5 hgrow5 hnil5 hat5; have V5 := HVA.out.grownS hgrow5 HNE.out; have X5 := HXA.out.grownS hgrow5 (fun e => by have := own_blk_lt HOW.out _ e; omega); have Q5 := HQA.out.grownS hgrow5 HNF.out; have R5 := hRA.grown hgrow5 hRA.size (own_ne hkeep); have HNE5 := Lib.hid (own_at hat5 HNE.out (by have := V3L.out; simp; omega)); have HNF5 := Lib.hid (own_at hat5 HNF.out (by have := V3L.out; simp; omega)); have HNX5 := Lib.hid (own_at (bl := wr.heap.size) hat5 (fun e => by have := own_blk_lt HOW.out _ e; omega) (by have := X3L.out; simp; omega)); have HX5 := Lib.hid X5; have HV5 := Lib.hid V5; have HQ5 := Lib.hid Q5; have HOW5 := Lib.hid hown5; have HR5 := Lib.hid R5; have y0 := X5.c0; have y1 := X5.c1; have y2 := X5.c2; have yl := X5.lt; obtain ⟨g5, cap5, rfl⟩ := own_succS hown5; clear hown5 hgrow5 hnil5 hat5 hkeep V5 X5 Q5 R5 hRA x0 xl v0 vl) | fail)
        refine (wf2_is x _).mono ?_; rintro e w6 ⟨rfl, hb6⟩
        have HX6 := Lib.hid (HX5.out.below hb6); have HV6 := Lib.hid (HV5.out.below hb6); have HQ6 := Lib.hid (HQ5.out.below hb6)
        have R6 := HR5.out.trans (hb6.mono HR5.out.size)
        have HOW6 := Lib.hid (HOW5.out.kept (below_grown hb6 none) none_ne)
        clear hb6 y0 y1 y2 yl HX5 HV5 HQ5 HR5 HOW5
        obtain ⟨cnt, hcnt⟩ : ∃ cnt : Nat, (x.c + 1 - (x.c)).toNat = cnt := ⟨_, rfl⟩
        have hcx : (x.c) + (cnt : Int) = x.c + 1 := by omega
        have hc9 : cnt ≤ 9 := by omega
        rw [hcnt] at HP3
        have hRi := R6
        clear hcnt R6 hR3 hR
        go_wp2_with fail
        go_loopw [7, 10] (fun s7 s10 wq => ∃ (k N2 : Nat), k ≤ cnt ∧ s10 = .int .i64 ((x.c) + (k : Int)) ∧ (P ++ [(⟨lq, x.a⟩ : Fo.V2)] ++ Fo.pssS f.es x (x.c) k).length = N2 ∧ Hid (wq.ownsRow w.heap.size 114 2 s7 N2 (vV (P ++ [(⟨lq, x.a⟩ : Fo.V2)] ++ Fo.pssS f.es x (x.c) k))) ∧ Hid (s7.ownBlock ≠ some (w.heap.size + 1)) ∧ Hid (s7.ownBlock ≠ some w.heap.size) ∧ Hid (s7.ownBlock ≠ some wr.heap.size) ∧ Hid (TB wq wr.heap.size x) ∧ Hid (Var2 wq (w.heap.size + 1) lq hi) ∧ Hid (FB wq w.heap.size h) ∧ Below w.heap.size w wq) (fun _ s10 _ => (x.c + 1 - intOf s10).toNat)
        case atStart => exact ⟨0, N + 1, Nat.zero_le _, by simp, by rw [show ∀ l : List Fo.V2, l ++ Fo.pssS f.es x (x.c) 0 = l from fun l => List.append_nil l, List.length_append, HNN.out]; rfl, Lib.hid (by rw [show ∀ l : List Fo.V2, l ++ Fo.pssS f.es x (x.c) 0 = l from fun l => List.append_nil l, vV_app, vV_one]; exact HOW6.out), HNE5, HNF5, HNX5, HX6, HV6, HQ6, hRi⟩
        case round =>
          clear HX6 HV6 HQ6 HOW6 HNE5 HNF5 HNX5 hRi HNE HNF HQ HV HOW HV1 HQ1 HR1 HOW1 HXT HXA HVA HQA X3L V3L HP HP2
          obtain ⟨k, N2, hk, rfl, hN2, HOW, HNE, HNF, HNX, HX, HV, HQ, hR⟩ := hrel
          have HN2 := Lib.hid hN2
          clear hN2
          have hkc : ((x.c) + (k : Int) ≤ x.c) ↔ k < cnt := by omega
          by_cases hlk : k < cnt
          case neg =>
            obtain rfl : k = cnt := by omega
            have hno : ¬ (x.c) + (k : Int) ≤ x.c := by omega
            have x1 := HX.out.c1; have x2 := HX.out.c2; have xl := HX.out.lt
            have v0 := HV.out.at2.c0; have vf := HV.out.f0; have vl := HV.out.at2.lt
            have HV4 := Lib.hid (HV.out.put0 x.b)
            have HQ4 := Lib.hid (HQ.out.other (p := ⟨w.heap.size + 1, 0, none⟩) (by simp) (.int .i64 x.b))
            have HR4 := Lib.hid (hR.setCell (p := ⟨w.heap.size + 1, 0, none⟩) (by simp) (.int .i64 x.b))
            have HOW4 := Lib.hid (own_setS HOW.out HNE.out 0 (.int .i64 x.b))
            clear hkc
            go_wp2_with fail
            go_roundw
            case rel => exact ⟨P ++ [(⟨lq, x.a⟩ : Fo.V2)] ++ Fo.pssS f.es x (x.c) k, N2, i + 1, x.b, HN2.out, by omega, by simp, HP3, HOW4, HNE, HNF, HV4, HQ4, HR4.out⟩
            case measure => simp [intOf]; omega
          have hyes := hkc.2 hlk
          have hN2b : N2 ≤ 101000 := by
            have h1 := HNN.out
            have h2 := Fo.pssS_len f.es x (x.c) k
            have h3 := HN2.out
            have h4 : k * (f.es.length + 1) ≤ 9 * 101 := Nat.mul_le_mul (by omega) (by rw [HNE0.out]; have := HEL.out; omega)
            rw [List.length_append, List.length_append, h1] at h3
            simp at h3
            omega
          have x0 := HX.out.c0; have x1 := HX.out.c1; have x2 := HX.out.c2; have xl := HX.out.lt
          have q2 := HQ.out.c2; have ql := HQ.out.lt
          clear hkc
          go_wp2_with fail
          refine (wpassage_is f.es x ((x.c) + (k : Int)) h.el h.ec h.E HNE0.out HEL.out _ (HLE.out.below hR)).mono ?_; rintro e w4 ⟨hb4, v4, rfl, hown4⟩
          obtain ⟨g4, c4, rfl, hm4, hnews4⟩ := own_VS hown4 (psg_pos _ _ _ _)
          obtain ⟨m4, hm⟩ : ∃ m, (Fo.psg ((x.c) + (k : Int)) x.b f.es x.a).length = m := ⟨_, rfl⟩
          have hm4b : m4 ≤ 101 := by have h1 := Fo.psg_len ((x.c) + (k : Int)) x.b f.es x.a; rw [hm, HNE0.out] at h1; have := HEL.out; omega
          rw [hm] at hown4 ⊢
          have HM := Lib.hid hm; have HNW := Lib.hid hnews4
          have X4 := HX.out.below hb4; have V4 := HV.out.below hb4; have Q4 := HQ.out.below hb4
          have R4 := hR.trans (hb4.mono hR.size)
          have hkeep := HOW.out.kept (below_grown hb4 none) none_ne
          have hR3 := R4
          clear hb4 hown4 hnews4 hm hm4 x0 x1 x2 xl q2 ql
          go_wp2_with (first | (at_builtin; refine wpList_append_own_at _ rfl _ _ 123 rfl w.heap.size 114 i0 (.agg #[.int .i64 0, .int .i64 0]) 2 16 Try.underlying123 HI0.out.1 HI0.out.2.1 HI0.out.2.2.1 HI0.out.2.2.2 rfl (by decide) _ N2 (vV (P ++ [(⟨lq, x.a⟩ : Fo.V2)] ++ Fo.pssS f.es x (x.c) k)) rfl hkeep ⟨g4, 0, none⟩ m4 c4 (vV (Fo.psg ((x.c) + (k : Int)) x.b f.es x.a)) rfl (vV_len2 HM.out) HNW.out (vV_cells _) (by unfold maxLen; omega) (by omega) (by have := hR3.size; simp; omega) ?_; intro v5 w5 hown5 hgrow5 hnil5 hat5; have V5 := V4.grownS hgrow5 HNE.out; have X5 := X4.grownS hgrow5 HNX.out; have Q5 := Q4.grownS hgrow5 HNF.out; have R5 := R4.grown hgrow5 R4.size (own_ne hkeep); have HNE5 := Lib.hid (own_at hat5 HNE.out V4.at2.lt); have HNF5 := Lib.hid (own_at hat5 HNF.out Q4.lt); have HNX5 := Lib.hid (own_at hat5 HNX.out X4.lt); have HX5 := Lib.hid X5; have HV5 := Lib.hid V5; have HQ5 := Lib.hid Q5; have HOW5 := Lib.hid hown5; have HR5 := Lib.hid R5; clear hown5 hgrow5 hnil5 hat5 hkeep V5 X5 Q5 R5 V4 X4 Q4 R4) | fail)
          go_roundw
          case rel => exact ⟨k + 1, N2 + m4, by omega, by (simp <;> omega), by rw [show Fo.pssS f.es x (x.c) (k + 1) = Fo.pssS f.es x (x.c) k ++ Fo.psg ((x.c) + (k : Int)) x.b f.es x.a from rfl, ← List.append_assoc, List.length_append, HN2.out, HM.out], Lib.hid (by rw [show Fo.pssS f.es x (x.c) (k + 1) = Fo.pssS f.es x (x.c) k ++ Fo.psg ((x.c) + (k : Int)) x.b f.es x.a from rfl, ← List.append_assoc, vV_app]; exact HOW5.out), HNE5, HNF5, HNX5, HX5, HV5, HQ5, HR5.out⟩
          case measure => simp [intOf]; omega
    · obtain rfl : i = h.rl := by omega
      have HP3 : Hid (P ++ [(⟨lq, hi⟩ : Fo.V2)] = T) := Lib.hid (by have h := HP.out; rw [List.drop_of_length_le (by rw [HN.out]; exact Nat.le_refl _)] at h; exact h)
      have v0 := HV.out.at2.c0; have v1 := HV.out.at2.c1; have vl := HV.out.at2.lt
      have hkeep := HOW.out.kept (below_grown ((Below.refl wr.heap.size wr).alloc (Nat.le_refl _) (.cells #[.int .i64 lq, .int .i64 hi] 114)) none) none_ne
      have hR3 := hR
      have hRA := hR3.alloc hR3.size (.cells #[.int .i64 lq, .int .i64 hi] 114)
      go_wp2_with (first | (at_builtin; refine wpList_append_own_at _ rfl _ _ 123 rfl w.heap.size 114 i0 (.agg #[.int .i64 0, .int .i64 0]) 2 16 Try.underlying123 HI0.out.1 HI0.out.2.1 HI0.out.2.2.1 HI0.out.2.2.2 rfl (by decide) _ N (vV P) rfl hkeep ⟨wr.heap.size, 0, none⟩ 1 1 [.int .i64 lq, .int .i64 hi] rfl rfl (cell_two_newS _ _ _ _) (fun u hu => by simp at hu; rcases hu with rfl | rfl <;> rfl) (by unfold maxLen; omega) (by omega) (by have := hR3.size; simp; omega) ?_; intro v5 w5 hown5 hgrow5 hnil5 hat5; have R5 := hRA.grown hgrow5 hRA.size (own_ne hkeep); clear hgrow5 hnil5 hat5 hkeep) | fail)
      go_ret
      refine ⟨R5, v5, rfl, ?_⟩
      rw [← HP3.out, List.length_append, HNN.out, vV_app, vV_one]
      exact hown5
end Go.Proofs.Ytahdlkdiadlgeaa

/- The walks of reprise's spans and size. -/
namespace Go.Proofs.Ytahdlkdiadlgeaa
open Go.RowKit

theorem Fo.Ok.rc {f : Fo.Fm} (h : Fo.Ok f) : ∀ x ∈ f.rs, 1 ≤ x.c ∧ x.c ≤ 9 := fun x hx => (Fo.chR_all (Int.le_refl 0) h.rs x hx).2.2.2.2
theorem Fo.Ok.all {f : Fo.Fm} (h : Fo.Ok f) : ∀ s ∈ Fo.spn f, 0 ≤ s.b ∧ s.b ≤ s.p ∧ s.p ≤ 4000 := fun s hs => by
  unfold Fo.spn at hs
  have hn := h.n
  have hj := h.j
  unfold Fo.okJ at hj
  rcases List.mem_append.1 hs with hs | hs
  · have := Fo.prtS_all _ _ _ _ _ (by split <;> omega) s hs
    split at this <;> omega
  · have := Fo.prtS_all _ _ _ _ _ (by omega) s hs
    omega
theorem Fo.Ok.len {f : Fo.Fm} (h : Fo.Ok f) : (Fo.spn f).length ≤ 200002 := by
  have h1 := Fo.prtS_len f.es h.el (fun _ => 1) (if 0 < f.ja then f.ja else f.n) f.rs 0 (fun r hr => ⟨Int.le_refl _, (h.rc r hr).2⟩)
  have h2 := Fo.prtS_len f.es h.el (fun r => r.c) f.jf f.rs f.jt (fun r hr => h.rc r hr)
  have h3 := h.rl
  have h4 : f.rs.length * 1000 ≤ 100 * 1000 := Nat.mul_le_mul h3 (Nat.le_refl _)
  unfold Fo.spn
  rw [List.length_append]
  omega
theorem Fo.Ok.tot {f : Fo.Fm} (h : Fo.Ok f) : Fo.tot (Fo.spn f) = ((Fo.whl f).length : Int) := by
  rw [Fo.tot_flat (fun s hs => (h.all s hs).2.1), h.flat]
theorem Fo.tot_le {l : List Fo.V2} (h : ∀ s ∈ l, 0 ≤ s.b ∧ s.b ≤ s.p ∧ s.p ≤ 4000) : 0 ≤ Fo.tot l ∧ Fo.tot l ≤ 4000 * (l.length : Int) := by
  rw [← List.reverse_reverse l] at h ⊢
  generalize l.reverse = m at h ⊢
  induction m with
  | nil => exact ⟨Int.le_refl _, Int.le_refl _⟩
  | cons s m ih =>
    have h1 := ih (fun t ht => h t (by simp at ht ⊢; exact .inl ht))
    have h2 := h s (by simp)
    rw [List.reverse_cons, Fo.tot_snoc, List.length_append, List.length_singleton]
    omega
set_option maxRecDepth 100000 in
set_option maxHeartbeats 6400000 in
theorem wspans_is (h : FH) (f : Fo.Fm) (V : Fo.Ok f) (w : World) (hS : SlF w h f) :
    Calls Try.prog 86 #[.agg #[.int .i64 h.n, .slice h.R h.rl h.rc, .slice h.E h.el h.ec, .int .i64 h.ja, .int .i64 h.jt, .int .i64 h.jf, .slice h.C h.cl h.cc]] w fun e w' => Below w.heap.size w w' ∧ ∃ v, e = .returned v ∧ w'.ownsRow w.heap.size 114 2 v (Fo.spn f).length (vV (Fo.spn f)) := by
  obtain ⟨i0, hi0, hz0, hz1, hz2⟩ := info_parts infoSpan
  have HI0 := Lib.hid (And.intro hi0 (And.intro hz0 (And.intro hz1 hz2)))
  have HS := Lib.hid hS; have HRC := Lib.hid V.rc
  have HRL : Hid (h.rl ≤ 100) := Lib.hid (by rw [← hS.rl]; exact V.rl)
  have HEL : Hid (h.el ≤ 100) := Lib.hid (by rw [← hS.el]; exact V.el)
  have hlen : ∀ first hi lo, (∀ r ∈ f.rs, 1 ≤ first r ∧ r.c ≤ 9) → (Fo.prtS f.es first hi f.rs lo).length ≤ 100001 := fun first hi lo hc => by
    have h1 := Fo.prtS_len f.es V.el first hi f.rs lo hc
    have h4 : f.rs.length * 1000 ≤ 100 * 1000 := Nat.mul_le_mul V.rl (Nat.le_refl _)
    omega
  have HL2 : Hid ((Fo.prtS f.es (fun r => r.c) h.jf f.rs h.jt).length ≤ 100001) := Lib.hid (hlen _ _ _ (fun r hr => V.rc r hr))
  by_cases h0 : 0 < h.ja
  case pos =>
    have HL1 : Hid ((Fo.prtS f.es (fun _ => 1) h.ja f.rs 0).length ≤ 100001) := Lib.hid (hlen _ _ _ (fun r hr => ⟨Int.le_refl _, (V.rc r hr).2⟩))
    have HSPN : Hid (Fo.spn f = Fo.prtS f.es (fun _ => 1) h.ja f.rs 0 ++ Fo.prtS f.es (fun r => r.c) h.jf f.rs h.jt) := Lib.hid (by unfold Fo.spn; rw [hS.ja, hS.jt, hS.jf, if_pos h0])
    have hgt : h.ja > 0 := h0
    have HQ1 := Lib.hid (((FB.new w h).alloc (.cells #[.int .i64 0, .int .i64 h.ja] 114)).alloc (.cells #[.int .i64 h.jt, .int .i64 h.jf] 114))
    have A2 := At2.new ((w.alloc (.cells #[.int .i64 h.n, .slice h.R h.rl h.rc, .slice h.E h.el h.ec, .int .i64 h.ja, .int .i64 h.jt, .int .i64 h.jf, .slice h.C h.cl h.cc] 47)).alloc (.cells #[.int .i64 0, .int .i64 h.ja] 114)) h.jt h.jf 114
    rw [World.size_alloc, World.size_alloc] at A2
    have HV1 := Lib.hid A2
    have HB1 := Lib.hid ((((Below.refl w.heap.size w).alloc (Nat.le_refl _) (.cells #[.int .i64 h.n, .slice h.R h.rl h.rc, .slice h.E h.el h.ec, .int .i64 h.ja, .int .i64 h.jt, .int .i64 h.jf, .slice h.C h.cl h.cc] 47)).alloc (by simp) (.cells #[.int .i64 0, .int .i64 h.ja] 114)).alloc (by simp; omega) (.cells #[.int .i64 h.jt, .int .i64 h.jf] 114))
    clear A2 hlen hi0 hz0 hz1 hz2 hS
    go_enter Try.func86, Try.ntmps86
    go_wp2_with fail
    refine (wp1_is h f 0 h.ja HRC.out HRL.out HEL.out _ (HS.out.below HB1.out)).mono ?_; rintro e w3 ⟨hb3, v3, rfl, hown3⟩
    have Q3 := HQ1.out.below hb3; have V3 := HV1.out.below hb3
    have R3 := HB1.out.trans (hb3.mono HB1.out.size)
    have HO3 := Lib.hid (own_lessK hown3 HB1.out.size)
    obtain ⟨N1, hN1⟩ : ∃ n, (Fo.prtS f.es (fun _ => 1) h.ja f.rs 0).length = n := ⟨_, rfl⟩
    have hN1b : N1 ≤ 100001 := by rw [← hN1]; exact HL1.out
    rw [hN1] at HO3
    obtain ⟨g3, c3, rfl, -, -⟩ := own_VS hown3 (prtS_pos _ _ _ _ _)
    rw [hN1] at hown3 HO3 ⊢
    have HN1 := Lib.hid hN1
    clear hb3 hown3 hN1
    have q0 := Q3.c0; have q1 := Q3.c1; have q2 := Q3.c2; have q3 := Q3.c3; have q4 := Q3.c4; have q5 := Q3.c5; have q6 := Q3.c6; have ql := Q3.lt
    have v0 := V3.c0; have v1 := V3.c1; have vl := V3.lt
    go_wp2_with fail
    clear q0 q1 q2 q3 q4 q5 q6 ql v0 v1 vl Q3 V3
    refine (wp2_is h f h.jt h.jf HRC.out HRL.out HEL.out _ (HS.out.below R3)).mono ?_; rintro e w4 ⟨hb4, v4, rfl, hown4⟩
    have R4 := R3.trans (hb4.mono R3.size)
    obtain ⟨N2, hN2⟩ : ∃ n, (Fo.prtS f.es (fun r => r.c) h.jf f.rs h.jt).length = n := ⟨_, rfl⟩
    have hN2b : N2 ≤ 100001 := by rw [← hN2]; exact HL2.out
    obtain ⟨g4, c4, rfl, hm4, hnews4⟩ := own_VS hown4 (prtS_pos _ _ _ _ _)
    rw [hN2] at hown4 ⊢
    have HN2 := Lib.hid hN2; have HNW := Lib.hid hnews4
    have hkeep := HO3.out.kept (below_grown hb4 none) none_ne
    have hR3 := R4
    clear hb4 hown4 hnews4 hm4 hN2
    go_wp2_with (first | (at_builtin; refine wpList_append_own_at _ rfl _ _ 123 rfl w.heap.size 114 i0 (.agg #[.int .i64 0, .int .i64 0]) 2 16 Try.underlying123 HI0.out.1 HI0.out.2.1 HI0.out.2.2.1 HI0.out.2.2.2 rfl (by decide) _ N1 (vV (Fo.prtS f.es (fun _ => 1) h.ja f.rs 0)) rfl hkeep ⟨g4, 0, none⟩ N2 c4 (vV (Fo.prtS f.es (fun r => r.c) h.jf f.rs h.jt)) rfl (vV_len2 HN2.out) HNW.out (vV_cells _) (by unfold maxLen; omega) (by omega) (by have := hR3.size; omega) ?_; intro v5 w5 hown5 hgrow5 hnil5 hat5; have R5 := R4.grown hgrow5 R4.size (own_ne hkeep); clear hgrow5 hnil5 hat5 hkeep) | fail)
    go_ret
    refine ⟨R5, v5, rfl, ?_⟩
    rw [HSPN.out, List.length_append, HN1.out, HN2.out, vV_app]
    exact hown5
  case neg =>
    have HL1 : Hid ((Fo.prtS f.es (fun _ => 1) h.n f.rs 0).length ≤ 100001) := Lib.hid (hlen _ _ _ (fun r hr => ⟨Int.le_refl _, (V.rc r hr).2⟩))
    have HSPN : Hid (Fo.spn f = Fo.prtS f.es (fun _ => 1) h.n f.rs 0 ++ Fo.prtS f.es (fun r => r.c) h.jf f.rs h.jt) := Lib.hid (by unfold Fo.spn; rw [hS.ja, hS.jt, hS.jf, hS.n, if_neg h0])
    have hgt : ¬ h.ja > 0 := h0
    have HQ1 := Lib.hid (((FB.new w h).alloc (.cells #[.int .i64 0, .int .i64 h.n] 114)).alloc (.cells #[.int .i64 h.jt, .int .i64 h.jf] 114))
    have A2 := At2.new ((w.alloc (.cells #[.int .i64 h.n, .slice h.R h.rl h.rc, .slice h.E h.el h.ec, .int .i64 h.ja, .int .i64 h.jt, .int .i64 h.jf, .slice h.C h.cl h.cc] 47)).alloc (.cells #[.int .i64 0, .int .i64 h.n] 114)) h.jt h.jf 114
    rw [World.size_alloc, World.size_alloc] at A2
    have HV1 := Lib.hid A2
    have HB1 := Lib.hid ((((Below.refl w.heap.size w).alloc (Nat.le_refl _) (.cells #[.int .i64 h.n, .slice h.R h.rl h.rc, .slice h.E h.el h.ec, .int .i64 h.ja, .int .i64 h.jt, .int .i64 h.jf, .slice h.C h.cl h.cc] 47)).alloc (by simp) (.cells #[.int .i64 0, .int .i64 h.n] 114)).alloc (by simp; omega) (.cells #[.int .i64 h.jt, .int .i64 h.jf] 114))
    clear A2 hlen hi0 hz0 hz1 hz2 hS
    go_enter Try.func86, Try.ntmps86
    go_wp2_with fail
    refine (wp1_is h f 0 h.n HRC.out HRL.out HEL.out _ (HS.out.below HB1.out)).mono ?_; rintro e w3 ⟨hb3, v3, rfl, hown3⟩
    have Q3 := HQ1.out.below hb3; have V3 := HV1.out.below hb3
    have R3 := HB1.out.trans (hb3.mono HB1.out.size)
    have HO3 := Lib.hid (own_lessK hown3 HB1.out.size)
    obtain ⟨N1, hN1⟩ : ∃ n, (Fo.prtS f.es (fun _ => 1) h.n f.rs 0).length = n := ⟨_, rfl⟩
    have hN1b : N1 ≤ 100001 := by rw [← hN1]; exact HL1.out
    rw [hN1] at HO3
    obtain ⟨g3, c3, rfl, -, -⟩ := own_VS hown3 (prtS_pos _ _ _ _ _)
    rw [hN1] at hown3 HO3 ⊢
    have HN1 := Lib.hid hN1
    clear hb3 hown3 hN1
    have q0 := Q3.c0; have q1 := Q3.c1; have q2 := Q3.c2; have q3 := Q3.c3; have q4 := Q3.c4; have q5 := Q3.c5; have q6 := Q3.c6; have ql := Q3.lt
    have v0 := V3.c0; have v1 := V3.c1; have vl := V3.lt
    go_wp2_with fail
    clear q0 q1 q2 q3 q4 q5 q6 ql v0 v1 vl Q3 V3
    refine (wp2_is h f h.jt h.jf HRC.out HRL.out HEL.out _ (HS.out.below R3)).mono ?_; rintro e w4 ⟨hb4, v4, rfl, hown4⟩
    have R4 := R3.trans (hb4.mono R3.size)
    obtain ⟨N2, hN2⟩ : ∃ n, (Fo.prtS f.es (fun r => r.c) h.jf f.rs h.jt).length = n := ⟨_, rfl⟩
    have hN2b : N2 ≤ 100001 := by rw [← hN2]; exact HL2.out
    obtain ⟨g4, c4, rfl, hm4, hnews4⟩ := own_VS hown4 (prtS_pos _ _ _ _ _)
    rw [hN2] at hown4 ⊢
    have HN2 := Lib.hid hN2; have HNW := Lib.hid hnews4
    have hkeep := HO3.out.kept (below_grown hb4 none) none_ne
    have hR3 := R4
    clear hb4 hown4 hnews4 hm4 hN2
    go_wp2_with (first | (at_builtin; refine wpList_append_own_at _ rfl _ _ 123 rfl w.heap.size 114 i0 (.agg #[.int .i64 0, .int .i64 0]) 2 16 Try.underlying123 HI0.out.1 HI0.out.2.1 HI0.out.2.2.1 HI0.out.2.2.2 rfl (by decide) _ N1 (vV (Fo.prtS f.es (fun _ => 1) h.n f.rs 0)) rfl hkeep ⟨g4, 0, none⟩ N2 c4 (vV (Fo.prtS f.es (fun r => r.c) h.jf f.rs h.jt)) rfl (vV_len2 HN2.out) HNW.out (vV_cells _) (by unfold maxLen; omega) (by omega) (by have := hR3.size; omega) ?_; intro v5 w5 hown5 hgrow5 hnil5 hat5; have R5 := R4.grown hgrow5 R4.size (own_ne hkeep); clear hgrow5 hnil5 hat5 hkeep) | fail)
    go_ret
    refine ⟨R5, v5, rfl, ?_⟩
    rw [HSPN.out, List.length_append, HN1.out, HN2.out, vV_app]
    exact hown5
theorem take_atV {l : List Fo.V2} {i : Nat} (h : i < l.length) : l.take (i + 1) = l.take i ++ [atV l i] := by rw [atV_eq h]; exact List.take_succ_eq_append_getElem h
theorem atV_mem {l : List Fo.V2} {i : Nat} (h : i < l.length) : atV l i ∈ l := by rw [atV_eq h]; exact List.getElem_mem h
set_option maxRecDepth 100000 in
set_option maxHeartbeats 3200000 in
theorem wsize_is (h : FH) (f : Fo.Fm) (V : Fo.Ok f) (w : World) (hS : SlF w h f) :
    Calls Try.prog 65 #[.agg #[.int .i64 h.n, .slice h.R h.rl h.rc, .slice h.E h.el h.ec, .int .i64 h.ja, .int .i64 h.jt, .int .i64 h.jf, .slice h.C h.cl h.cc]] w fun e w' => e = .returned (.int .i64 ((Fo.whl f).length : Int)) ∧ Below w.heap.size w w' := by
  have HTOT := Lib.hid V.tot; have HALL := Lib.hid V.all; have HLEN := Lib.hid V.len; have HVV := Lib.hid V
  have HS := Lib.hid (hS.alloc (.cells #[.int .i64 h.n, .slice h.R h.rl h.rc, .slice h.E h.el h.ec, .int .i64 h.ja, .int .i64 h.jt, .int .i64 h.jf, .slice h.C h.cl h.cc] 47))
  have B := (Below.refl w.heap.size w).alloc (Nat.le_refl _) (.cells #[.int .i64 h.n, .slice h.R h.rl h.rc, .slice h.E h.el h.ec, .int .i64 h.ja, .int .i64 h.jt, .int .i64 h.jf, .slice h.C h.cl h.cc] 47)
  clear hS V
  go_enter Try.func65, Try.ntmps65
  go_wp2_with fail
  refine (wspans_is h f HVV.out _ HS.out).mono ?_; rintro e w2 ⟨hb, v, rfl, hown⟩
  obtain ⟨l, hl⟩ : ∃ l, Fo.spn f = l := ⟨_, rfl⟩
  rw [hl] at hown HTOT HALL HLEN
  obtain ⟨hm, A, c, rfl, hSl, -⟩ := own_V hown
  obtain ⟨len, hlen⟩ : ∃ len, l.length = len := ⟨_, rfl⟩
  rw [hlen] at HLEN ⊢
  have B2 := B.trans (hb.mono (by simp))
  have HN := Lib.hid hlen; have HL := Lib.hid hSl
  have hlb := HLEN.out
  clear hb hown hm hSl hlen B hl
  go_wp2_with fail
  go_loopw [3, 9] (fun s3 s9 wr => ∃ (i : Nat) (t : Int), i ≤ len ∧ s9 = .int .i64 (i : Int) ∧ s3 = .int .i64 t ∧ Hid (Fo.tot (l.take i) = t) ∧ Below w2.heap.size w2 wr) (fun _ s9 _ => len - (intOf s9).toNat)
  case atStart => exact ⟨0, 0, Nat.zero_le _, rfl, rfl, Lib.hid rfl, Below.refl _ _⟩
  case round =>
    obtain ⟨i, t, hi, rfl, rfl, HT, hR⟩ := hrel
    by_cases hlt : i < len
    · have hil : i < l.length := by rw [HN.out]; exact hlt
      obtain ⟨b, off, rfl, hb, hc⟩ := HL.out (by omega)
      have X := (hc i hil).below hR hb
      obtain ⟨x, hx⟩ : ∃ x, atV l i = x := ⟨_, rfl⟩
      rw [hx] at X
      have hxb := HALL.out x (by rw [← hx]; exact atV_mem hil)
      have htb := Fo.tot_le (l := l.take i) (fun s hs => HALL.out s (List.mem_of_mem_take hs))
      rw [HT.out, List.length_take] at htb
      have HT2 : Hid (Fo.tot (l.take (i + 1)) = t + (x.p - x.b)) := Lib.hid (by rw [take_atV hil, Fo.tot_snoc, hx, HT.out])
      obtain ⟨x0, x1, x2⟩ := hxb
      obtain ⟨t0, t1⟩ := htb
      have t2 : t ≤ 1000000000 := by omega
      obtain ⟨c0, c1⟩ := X
      have hR2 := hR.alloc hR.size (.cells #[.int .i64 x.b, .int .i64 x.p] 114)
      have hi1 : (i : Int) < (len : Int) := by omega
      clear hc hx hil t1
      go_wp2_with fail
      go_roundw
      case rel => exact ⟨i + 1, t + (x.p - x.b), by omega, by simp, rfl, HT2, hR2⟩
      case measure => simp [intOf]; omega
    · obtain rfl : i = len := by omega
      obtain rfl : t = ((Fo.whl f).length : Int) := by
        rw [← HTOT.out, ← HT.out, List.take_of_length_le (by rw [HN.out]; exact Nat.le_refl _)]
      go_wp2_with fail
      go_ret
      exact ⟨rfl, B2.trans (hR.mono B2.size)⟩
end Go.Proofs.Ytahdlkdiadlgeaa

/- The walk of reprise's Valid. -/
namespace Go.Proofs.Ytahdlkdiadlgeaa
open Go.RowKit

theorem okJ_iff {w : World} {h : FH} {f : Fo.Fm} (hS : SlF w h f) : okJH h f.rs ↔ Fo.okJ f := by unfold okJH Fo.okJ; rw [hS.ja, hS.jt, hS.jf, hS.n]
theorem Fo.Val.ok {f : Fo.Fm} (V : Fo.Val f) : Fo.Ok f := ⟨V.n, V.rl, V.rs, V.el, V.es, V.j⟩
set_option maxRecDepth 100000 in
set_option maxHeartbeats 6400000 in
theorem wValid_is (h : FH) (f : Fo.Fm) (r : Bool) (hr : r = true ↔ Fo.Val f) (hwf : ∀ c ∈ f.cs, Fo.wf3 c) (w : World) (hS : SlF w h f) :
    Calls Try.prog 38 #[.agg #[.int .i64 h.n, .slice h.R h.rl h.rc, .slice h.E h.el h.ec, .int .i64 h.ja, .int .i64 h.jt, .int .i64 h.jf, .slice h.C h.cl h.cc]] w fun e w' => e = .returned (.bool r) ∧ Below w.heap.size w w' := by
  have HVL := Lib.hid hr; have HWF := Lib.hid hwf
  have Q1 := FB.new w h
  have B1 := (Below.refl w.heap.size w).alloc (Nat.le_refl _) (.cells #[.int .i64 h.n, .slice h.R h.rl h.rc, .slice h.E h.el h.ec, .int .i64 h.ja, .int .i64 h.jt, .int .i64 h.jf, .slice h.C h.cl h.cc] 47)
  have HS := Lib.hid hS
  obtain ⟨b1, hb1⟩ : ∃ b : Bool, b = true ↔ 1 ≤ h.n ∧ h.n ≤ 4000 := ⟨decide _, decide_eq_true_iff⟩
  have HB1 := Lib.hid hb1
  clear hr hwf hS hb1
  go_enter Try.func38, Try.ntmps38
  go_wp2_with fail
  obtain ⟨W1, hW1⟩ : ∃ W1, w.alloc (.cells #[.int .i64 h.n, .slice h.R h.rl h.rc, .slice h.E h.el h.ec, .int .i64 h.ja, .int .i64 h.jt, .int .i64 h.jf, .slice h.C h.cl h.cc] 47) = W1 := ⟨_, rfl⟩
  rw [hW1] at Q1 B1 ⊢
  clear hW1
  refine (lbetween_is h.n 1 4000 b1 HB1.out _).mono ?_; rintro e w2 ⟨rfl, rfl⟩
  cases b1 with
  | false =>
    obtain rfl : r = false := by
      cases r with
      | false => rfl
      | true => have h1 := (HVL.out.1 rfl).n; rw [HS.out.n] at h1; exact absurd (HB1.out.2 h1) (by simp)
    go_wp2_with fail
    go_ret
    exact ⟨rfl, B1⟩
  | true =>
  have H1 := Lib.hid (HB1.out.1 rfl)
  obtain ⟨b2, hb2⟩ : ∃ b : Bool, b = true ↔ f.rs.length ≤ 100 ∧ Fo.chR h.n 0 f.rs := ⟨@decide _ (Classical.propDecidable _), @decide_eq_true_iff _ (Classical.propDecidable _)⟩
  have HB2 := Lib.hid hb2
  clear hb2
  have q0 := Q1.c0; have q1 := Q1.c1; have q2 := Q1.c2; have q3 := Q1.c3; have q4 := Q1.c4; have q5 := Q1.c5; have q6 := Q1.c6; have ql := Q1.lt
  go_wp2_with fail
  refine (wrepeats_is h f b2 HB2.out _ (HS.out.below B1)).mono ?_; rintro e w3 ⟨rfl, hb⟩
  have Q3 := Q1.below hb
  have B3 := B1.trans (hb.mono B1.size)
  clear hb Q1 B1 q0 q1 q2 q3 q4 q5 q6 ql
  cases b2 with
  | false =>
    obtain rfl : r = false := by
      cases r with
      | false => rfl
      | true => have h1 := HVL.out.1 rfl; exact absurd (HB2.out.2 ⟨h1.rl, by rw [← HS.out.n]; exact h1.rs⟩) (by simp)
    go_wp2_with fail
    go_ret
    exact ⟨rfl, B3⟩
  | true =>
  have H2 := Lib.hid (HB2.out.1 rfl)
  have HRL : Hid (h.rl ≤ 100) := Lib.hid (by rw [← HS.out.rl]; exact H2.out.1)
  obtain ⟨b3, hb3⟩ : ∃ b : Bool, b = true ↔ f.es.length ≤ 100 ∧ Fo.chE f.rs 0 f.es := ⟨@decide _ (Classical.propDecidable _), @decide_eq_true_iff _ (Classical.propDecidable _)⟩
  have HB3 := Lib.hid hb3
  clear hb3
  have q0 := Q3.c0; have q1 := Q3.c1; have q2 := Q3.c2; have q3 := Q3.c3; have q4 := Q3.c4; have q5 := Q3.c5; have q6 := Q3.c6; have ql := Q3.lt
  go_wp2_with fail
  refine (wendings_is h f b3 HB3.out (fun x hx => (Fo.chR_all (Int.le_refl 0) H2.out.2 x hx).2.2.2.1) HRL.out _ (HS.out.below B3)).mono ?_; rintro e w4 ⟨rfl, hb⟩
  have Q4 := Q3.below hb
  have B4 := B3.trans (hb.mono B3.size)
  clear hb Q3 B3 q0 q1 q2 q3 q4 q5 q6 ql
  cases b3 with
  | false =>
    obtain rfl : r = false := by
      cases r with
      | false => rfl
      | true => have h1 := HVL.out.1 rfl; exact absurd (HB3.out.2 ⟨h1.el, h1.es⟩) (by simp)
    go_wp2_with fail
    go_ret
    exact ⟨rfl, B4⟩
  | true =>
  have H3 := Lib.hid (HB3.out.1 rfl)
  obtain ⟨b4, hb4⟩ : ∃ b : Bool, b = true ↔ okJH h f.rs := ⟨@decide _ (Classical.propDecidable _), @decide_eq_true_iff _ (Classical.propDecidable _)⟩
  have HB4 := Lib.hid hb4
  clear hb4
  have q0 := Q4.c0; have q1 := Q4.c1; have q2 := Q4.c2; have q3 := Q4.c3; have q4 := Q4.c4; have q5 := Q4.c5; have q6 := Q4.c6; have ql := Q4.lt
  go_wp2_with fail
  refine (wjump_is h f b4 HB4.out HRL.out _ (HS.out.below B4)).mono ?_; rintro e w5 ⟨rfl, hb⟩
  have Q5 := Q4.below hb
  have B5 := B4.trans (hb.mono B4.size)
  clear hb Q4 B4 q0 q1 q2 q3 q4 q5 q6 ql
  cases b4 with
  | false =>
    obtain rfl : r = false := by
      cases r with
      | false => rfl
      | true => have h1 := HVL.out.1 rfl; exact absurd (HB4.out.2 ((okJ_iff HS.out).2 h1.j)) (by simp)
    go_wp2_with fail
    go_ret
    exact ⟨rfl, B5⟩
  | true =>
  have H4 := Lib.hid (HB4.out.1 rfl)
  have HOK : Hid (Fo.Ok f) := Lib.hid ⟨by rw [HS.out.n]; exact H1.out, H2.out.1, by rw [HS.out.n]; exact H2.out.2, H3.out.1, H3.out.2, (okJ_iff HS.out).1 H4.out⟩
  obtain ⟨b5, hb5⟩ : ∃ b : Bool, b = true ↔ f.cs.length ≤ 100 ∧ (∀ c ∈ f.cs, Fo.okC h.n c) ∧ f.cs.Nodup := ⟨@decide _ (Classical.propDecidable _), @decide_eq_true_iff _ (Classical.propDecidable _)⟩
  have HB5 := Lib.hid hb5
  clear hb5
  have q0 := Q5.c0; have q1 := Q5.c1; have q2 := Q5.c2; have q3 := Q5.c3; have q4 := Q5.c4; have q5 := Q5.c5; have q6 := Q5.c6; have ql := Q5.lt
  go_wp2_with fail
  refine (wcuts_is h f b5 HB5.out HWF.out _ (HS.out.below B5)).mono ?_; rintro e w6 ⟨rfl, hb⟩
  have Q6 := Q5.below hb
  have B6 := B5.trans (hb.mono B5.size)
  clear hb Q5 B5 q0 q1 q2 q3 q4 q5 q6 ql
  cases b5 with
  | false =>
    obtain rfl : r = false := by
      cases r with
      | false => rfl
      | true => have h1 := HVL.out.1 rfl; exact absurd (HB5.out.2 ⟨h1.cl, by rw [← HS.out.n]; exact h1.cs, h1.cd⟩) (by simp)
    go_wp2_with fail
    go_ret
    exact ⟨rfl, B6⟩
  | true =>
  have H5 := Lib.hid (HB5.out.1 rfl)
  have q0 := Q6.c0; have q1 := Q6.c1; have q2 := Q6.c2; have q3 := Q6.c3; have q4 := Q6.c4; have q5 := Q6.c5; have q6 := Q6.c6; have ql := Q6.lt
  go_wp2_with fail
  refine (wsize_is h f HOK.out _ (HS.out.below B6)).mono ?_; rintro e w7 ⟨rfl, hb⟩
  have B7 := B6.trans (hb.mono B6.size)
  clear hb Q6 B6 q0 q1 q2 q3 q4 q5 q6 ql
  obtain ⟨m, hm⟩ : ∃ m, (Fo.whl f).length = m := ⟨_, rfl⟩
  have HM := Lib.hid hm
  rw [hm]
  clear hm
  by_cases h2 : m ≤ 20000
  case pos =>
    obtain rfl : r = true := HVL.out.2 ⟨HOK.out.n, HOK.out.rl, HOK.out.rs, HOK.out.el, HOK.out.es, HOK.out.j, H5.out.1, by rw [HS.out.n]; exact H5.out.2.1, H5.out.2.2, by rw [HM.out]; exact h2⟩
    have h3 : decide ((m : Int) ≤ 20000) = true := decide_eq_true (by omega)
    go_wp2_with fail
    go_ret
    exact ⟨rfl, B7⟩
  case neg =>
    obtain rfl : r = false := by
      cases r with
      | false => rfl
      | true => have h1 := (HVL.out.1 rfl).most; rw [HM.out] at h1; exact absurd h1 h2
    have h3 : decide ((m : Int) ≤ 20000) = false := decide_eq_false (by omega)
    go_wp2_with fail
    go_ret
    exact ⟨rfl, B7⟩
end Go.Proofs.Ytahdlkdiadlgeaa
