/- The walks of the laws' example, bars and same. -/
import Derived.Test.YtakbpgljbbkmkaaWq
namespace Go.Proofs.Ytakbpgljbbkmkaa
open Go.RowKit

def exR : List Fo.T3 := [⟨2, 6, 2⟩]
def exE : List Fo.T3 := [⟨4, 5, 1⟩, ⟨5, 6, 2⟩]
def exF : Fo.Fm := ⟨8, exR, exE, 0, 0, 0, []⟩
def exH (b : Nat) : FH := ⟨8, some ⟨b, 0, none⟩, 1, 1, some ⟨b + 1, 0, none⟩, 2, 2, 0, 0, 0, none, 0, 0⟩
set_option maxHeartbeats 3200000 in
theorem lexample_is (w : World) :
    Calls Try.prog 28 #[] w fun e w' => Below w.heap.size w w' ∧ ∃ b, e = .returned (.agg #[.int .i64 8, .slice (some ⟨b, 0, none⟩) 1 1, .slice (some ⟨b + 1, 0, none⟩) 2 2, .int .i64 0, .int .i64 0, .int .i64 0, .slice none 0 0]) ∧ SlF w' (exH b) exF := by
  have V := (FV.zero w).fw
  have B := (Below.refl w.heap.size w).alloc (Nat.le_refl _) (.cells #[.int .i64 0, .slice none 0 0, .slice none 0 0, .int .i64 0, .int .i64 0, .int .i64 0, .slice none 0 0] 28)
  go_enter Try.func28, Try.ntmps28
  go_wp2_with fail
  have B2 := ((((Below.refl w.heap.size w).alloc (Nat.le_refl _) (.cells #[.int .i64 8, .slice (some ⟨w.heap.size + 1, 0, none⟩) 1 1, .slice (some ⟨w.heap.size + 1 + 1, 0, none⟩) 2 2, .int .i64 0, .int .i64 0, .int .i64 0, .slice none 0 0] 28)).alloc (by simp) (.cells #[.int .i64 2, .int .i64 6, .int .i64 2] 54)).alloc (by simp; omega) (.cells #[.int .i64 4, .int .i64 5, .int .i64 1, .int .i64 5, .int .i64 6, .int .i64 2] 73))
  refine bodyPost_ret (v := .agg #[.int .i64 8, .slice (some ⟨w.heap.size + 1, 0, none⟩) 1 1, .slice (some ⟨w.heap.size + 1 + 1, 0, none⟩) 2 2, .int .i64 0, .int .i64 0, .int .i64 0, .slice none 0 0]) (by simp [results, Try.results28, go_sem]) rfl ⟨B2, w.heap.size + 1, rfl, ⟨rfl, rfl, rfl, rfl, rfl, rfl, rfl, ?_, ?_, SlT.nil _ _⟩⟩
  · refine fun _ => ⟨w.heap.size + 1, 0, rfl, by simp, fun k hk => ?_⟩
    match k, hk with
    | 0, _ => exact ⟨by show _ = some (Value.int IntKind.i64 (2 : Int)); go_simp, by show _ = some (Value.int IntKind.i64 (6 : Int)); go_simp, by show _ = some (Value.int IntKind.i64 (2 : Int)); go_simp⟩
    | k + 1, hk => have h2 : k + 1 < 1 := hk; omega
  · refine fun _ => ⟨w.heap.size + 1 + 1, 0, rfl, by simp, fun k hk => ?_⟩
    match k, hk with
    | 0, _ => exact ⟨by show _ = some (Value.int IntKind.i64 (4 : Int)); go_simp, by show _ = some (Value.int IntKind.i64 (5 : Int)); go_simp, by show _ = some (Value.int IntKind.i64 (1 : Int)); go_simp⟩
    | 1, _ => exact ⟨by show _ = some (Value.int IntKind.i64 (5 : Int)); go_simp, by show _ = some (Value.int IntKind.i64 (6 : Int)); go_simp, by show _ = some (Value.int IntKind.i64 (2 : Int)); go_simp⟩
    | k + 2, hk => have h2 : k + 2 < 2 := hk; omega
theorem infoIntL : (Try.prog.info? 3).map (fun i => (i.zero, i.size, i.bytes)) = some (some (.int .i64 0), 1, 8) := by kernel_rfl
set_option maxHeartbeats 3200000 in
theorem lbars_is (l : List Fo.V2) (len cap : Nat) (A : Option Addr) (hl : l.length = len) (hmax : len ≤ 300000000) (w : World) (hL : SlV w A l) :
    Calls Try.prog 30 #[.slice A len cap] w fun e w' => Below w.heap.size w w' ∧ ∃ v, e = .returned v ∧ w'.ownsRow w.heap.size 3 1 v len (vK .i64 (l.map fun x => x.b)) := by
  obtain ⟨i0, hi0, hz0, hz1, hz2⟩ := info_parts infoIntL
  have HI0 := Lib.hid (And.intro hi0 (And.intro hz0 (And.intro hz1 hz2)))
  have HN := Lib.hid hl; have HL := Lib.hid hL
  clear hl hL hi0 hz0 hz1 hz2
  go_enter Try.func30, Try.ntmps30
  go_wp2_with fail
  go_loopw [3, 8] (fun s3 s8 wr => ∃ (i : Nat), i ≤ len ∧ s8 = .int .i64 (i : Int) ∧ Hid (wr.ownsRow w.heap.size 3 1 s3 i (vK .i64 ((l.take i).map fun x => x.b))) ∧ Below w.heap.size w wr) (fun _ s8 _ => len - (intOf s8).toNat)
  case atStart => exact ⟨0, Nat.zero_le _, rfl, Lib.hid (World.ownsRow_nil _ _ _ _), Below.refl _ _⟩
  case round =>
    obtain ⟨i, hi, rfl, HOW, hR⟩ := hrel
    by_cases hlt : i < len
    · have hil : i < l.length := by rw [HN.out]; exact hlt
      obtain ⟨b, off, rfl, hb, hc⟩ := HL.out (by omega)
      have X := (hc i hil).below hR hb
      obtain ⟨x, hx⟩ : ∃ x, atV l i = x := ⟨_, rfl⟩
      rw [hx] at X
      have HT : Hid ((l.take (i + 1)).map (fun x => x.b) = (l.take i).map (fun x => x.b) ++ [x.b]) := Lib.hid (by rw [take_atV hil, hx, List.map_append]; rfl)
      obtain ⟨c0, c1⟩ := X
      have hi1 : (i : Int) < (len : Int) := by omega
      have hkeep := (HOW.out.kept (below_grown ((Below.refl wr.heap.size wr).alloc (Nat.le_refl _) (.cells #[.int .i64 x.b, .int .i64 x.p] 30)) none) none_ne).kept (below_grown ((Below.refl _ (wr.alloc (.cells #[.int .i64 x.b, .int .i64 x.p] 30))).alloc (Nat.le_refl _) (.cells #[.int .i64 x.b] 3)) none) none_ne
      have hRA := (hR.alloc hR.size (.cells #[.int .i64 x.b, .int .i64 x.p] 30)).alloc (by have := hR.size; simp; omega) (.cells #[.int .i64 x.b] 3)
      have hnew := cell_one_new (wr.alloc (.cells #[.int .i64 x.b, .int .i64 x.p] 30)) (.int .i64 x.b) 3
      rw [World.size_alloc] at hnew
      clear hc hx hil
      go_wp2_with (first | (at_builtin; refine wpList_append_own _ rfl _ _ 57 rfl w.heap.size 3 i0 (.int .i64 0) 1 8 Try.underlying57 HI0.out.1 HI0.out.2.1 HI0.out.2.2.1 HI0.out.2.2.2 rfl (by decide) _ i _ rfl hkeep ⟨wr.heap.size + 1, 0, none⟩ 1 1 [.int .i64 x.b] rfl rfl hnew (fun u hu => by simp at hu; subst hu; rfl) (by unfold maxLen; omega) (by omega) (by have := hR.size; simp; omega) ?_; intro v5 w5 hown5 hgrow5 hnil5; have HR5 := Lib.hid (hRA.grown hgrow5 hRA.size (own_ne hkeep)); have HO5 := Lib.hid hown5; clear hown5 hgrow5 hnil5 hkeep hRA hnew) | fail)
      go_roundw
      case rel => exact ⟨i + 1, by omega, by simp, Lib.hid (by rw [HT.out, vK_app]; exact HO5.out), HR5.out⟩
      case measure => simp [intOf]; omega
    · obtain rfl : i = len := by omega
      go_wp2_with fail
      go_ret
      have h := HOW.out
      rw [List.take_of_length_le (by rw [HN.out]; exact Nat.le_refl _)] at h
      exact ⟨hR, _, rfl, h⟩
set_option maxHeartbeats 3200000 in
theorem lsame_is (a b : List Int) (f : Bool) (la ca lb cb : Nat) (A B : Option Addr) (hf : f = true ↔ a = b) (ha : a.length = la) (hb : b.length = lb) (hmax : la ≤ 1000000) (w : World) (hA : SlK .i64 w A a) (hB : SlK .i64 w B b) :
    Calls Try.prog 29 #[.slice A la ca, .slice B lb cb] w fun e w' => e = .returned (.bool f) ∧ Below w.heap.size w w' := by
  by_cases hlen : la = lb
  case neg =>
    obtain rfl : f = false := by
      cases f with
      | false => rfl
      | true => exact absurd (by rw [← ha, ← hb, hf.1 rfl]) hlen
    have hbe : ((la : Int) != (lb : Int)) = true := by simpa using (fun h => hlen (by omega) : ¬ (la : Int) = lb)
    clear hf ha hb hA hB
    go_enter Try.func29, Try.ntmps29
    go_wp2_with fail
    go_ret
    exact ⟨rfl, Below.refl _ _⟩
  subst hlen
  have HF := Lib.hid hf; have HNA := Lib.hid ha; have HNB := Lib.hid hb; have HA := Lib.hid hA; have HB := Lib.hid hB
  have hbe : ((la : Int) != (la : Int)) = false := by simp
  clear hf ha hb hA hB
  go_enter Try.func29, Try.ntmps29
  go_wp2_with fail
  go_loopw [13] (fun s13 wr => ∃ (i : Nat), i ≤ la ∧ s13 = .int .i64 (i : Int) ∧ Hid (∀ j, j < i → atI a j = atI b j) ∧ Below w.heap.size w wr) (fun s13 _ => la - (intOf s13).toNat)
  case atStart => exact ⟨0, Nat.zero_le _, rfl, Lib.hid (fun j hj => by omega), Below.refl _ _⟩
  case round =>
    obtain ⟨i, hi, rfl, HJ, hR⟩ := hrel
    by_cases hlt : i < la
    · obtain ⟨b1, o1, rfl, hb1, hc1⟩ := HA.out (by rw [HNA.out]; omega)
      obtain ⟨b2, o2, rfl, hb2, hc2⟩ := HB.out (by rw [HNB.out]; omega)
      have X := (hR.cell (p := ⟨b1, o1 + i, none⟩) hb1).trans (hc1 i (by rw [HNA.out]; exact hlt))
      have Y := (hR.cell (p := ⟨b2, o2 + i, none⟩) hb2).trans (hc2 i (by rw [HNB.out]; exact hlt))
      obtain ⟨x, hx⟩ : ∃ x, atI a i = x := ⟨_, rfl⟩
      obtain ⟨y, hy⟩ : ∃ y, atI b i = y := ⟨_, rfl⟩
      rw [hx] at X
      rw [hy] at Y
      have z0 := fun q : Ext wr => q.cell X; have z1 := fun q : Ext wr => q.cell Y
      have hne := Ext.there wr
      have HX := Lib.hid hx; have HY := Lib.hid hy
      have hi1 : (i : Int) < (la : Int) := by omega
      obtain ⟨g, hg⟩ : ∃ g, (x != y) = g := ⟨_, rfl⟩
      have HG := Lib.hid hg
      clear hc1 hc2 hx hy X Y
      go_wp2_with fail
      refine Ext.region (by kernel_rfl) (by kernel_rfl) ?_
      repeat (go_big_quiet_step (fail))
      refine wpQuiet_nil ?_
      rintro _ ⟨xw, rfl⟩
      have hR2 := hR.trans (xw.h.mono hR.size)
      clear z0 z1 hne
      generalize xw.w = w3 at *
      clear xw
      cases g with
      | true =>
        obtain rfl : f = false := by
          cases f with
          | false => rfl
          | true =>
            have h1 := HF.out.1 rfl
            have h2 := HG.out
            rw [← HX.out, ← HY.out, h1] at h2
            simp at h2
        go_wp2_with fail
        go_ret
        exact ⟨rfl, hR2⟩
      | false =>
        have HJ2 : Hid (∀ j, j < i + 1 → atI a j = atI b j) := Lib.hid (fun j hj => by
          rcases Nat.lt_or_ge j i with h | h
          · exact HJ.out j h
          · rw [show j = i by omega, HX.out, HY.out]; simpa using HG.out)
        go_wp2_with fail
        go_roundw
        case rel => exact ⟨i + 1, by omega, by simp, HJ2, hR2⟩
        case measure => simp [intOf]; omega
    · obtain rfl : i = la := by omega
      obtain rfl : f = true := HF.out.2 (List.ext_getElem (by rw [HNA.out, HNB.out]) (fun j h1 h2 => by
        have := HJ.out j (by rw [← HNA.out]; exact h1)
        rwa [atI_eq h1, atI_eq h2] at this))
      go_wp2_with fail
      go_ret
      exact ⟨rfl, hR⟩
end Go.Proofs.Ytakbpgljbbkmkaa
