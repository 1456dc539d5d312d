import Derived.Test.YtahdlkdiadlgeaaGAV
import Derived.Test.YtahdlkdiadlgeaaGAK
import Derived.Test.YtahdlkdiadlgeaaGAS
import Derived.Test.YtahdlkdiadlgeaaGAR
import Derived.ChangeKeysEq
import Derived.Test.YtahdlkdiadlgeaaGAE
/- The landed tempo's At, inOrder, between, Seconds. -/
namespace Go.Proofs.Ytahdlkdiadlgeaa
open Go.RowKit
namespace Te
open Fo (T3 at3)
open Mt (before before_succ before_mono posB posB_iff bt tk)
theorem bef_iff {bs : List Mt.B} (V : Mt.Val bs) {a an ad b bn bd : Int} (hp : posB bs a an ad = true) (hq : posB bs b bn bd = true) : before bs a.toNat + tk an ad ≤ before bs b.toNat + tk bn bd ↔ ¬ Bef b bn bd a an ad := by
  obtain ⟨a0, hpos⟩ := posB_iff.1 hp
  obtain ⟨b0, kpos⟩ := posB_iff.1 hq
  have key : ∀ {b n d b' n' d' : Int}, Mt.pos bs b.toNat (tk n d) → 0 ≤ b → 0 ≤ b' → Mt.pos bs b'.toNat (tk n' d') → b < b' → before bs b.toNat + tk n d < before bs b'.toNat + tk n' d' := fun {b n d b' n' d'} hpos hb0 hb0' kpos hlt => by
    have hkb : b.toNat < bs.length := by have := kpos.1; omega
    have h2 := hpos.2.2.2 hkb
    have h3 := before_succ hkb
    have h4 := before_mono V.ok (i := b.toNat + 1) (j := b'.toNat) (by omega) kpos.1
    have h5 := kpos.2.1
    omega
  unfold Bef
  rcases Int.lt_trichotomy a b with h | h | h
  · have := key hpos a0 b0 kpos h
    omega
  · subst h
    omega
  · have := key kpos b0 a0 hpos h
    omega
theorem pos_r {bs : List Mt.B} (V : Mt.Val bs) {a n d : Int} (hp : posB bs a n d = true) : 0 ≤ a ∧ a ≤ (bs.length : Int) ∧ 0 ≤ tk n d ∧ tk n d ≤ 40320 ∧ (a = (bs.length : Int) → tk n d = 0) := by
  obtain ⟨a0, h1, h2, h3, h4⟩ := posB_iff.1 hp
  refine ⟨a0, by omega, h2, ?_, fun h => h3 (by omega)⟩
  rcases Nat.lt_or_ge a.toNat bs.length with h | h
  · have h5 := h4 h
    have h6 := (bt_r V h).2
    rw [atB_eq h] at h6
    omega
  · have := h3 (by omega)
    omega
theorem tm_full {bs : List Mt.B} {l : List T3} (V : Mt.Val bs) {a n d : Int} (hp : posB bs a n d = true) : tm bs l a.toNat (tk n d) = cum bs l a.toNat + tk n d * sb l a := by
  obtain ⟨a0, h1, h2, h3, h4⟩ := pos_r V hp
  unfold tm
  rw [show ((a.toNat : Nat) : Int) = a by omega]
  by_cases h : a.toNat < bs.length
  · rw [if_pos h]
  · rw [if_neg h, h4 (by omega), Int.zero_mul]
end Te
theorem Var2.blkT {w w' : World} {b : Nat} {x y : Int} (h : Var2 w b x y) (hs : w.heap.size ≤ w'.heap.size) (e : w'.heap[b]? = w.heap[b]?) : Var2 w' b x y :=
  ⟨⟨Nat.lt_of_lt_of_le h.at2.lt hs, (World.cell?_of_block (w := w) (a := ⟨b, 0, none⟩) e).trans h.at2.c0, (World.cell?_of_block (w := w) (a := ⟨b, 1, none⟩) e).trans h.at2.c1⟩, (World.frozen?_of_block (w := w) (a := ⟨b, 0, none⟩) e).trans h.f0, (World.frozen?_of_block (w := w) (a := ⟨b, 1, none⟩) e).trans h.f1⟩
theorem At3.blkT {w w' : World} {b : Nat} {x y z : Int} (h : At3 w b x y z) (hs : w.heap.size ≤ w'.heap.size) (e : w'.heap[b]? = w.heap[b]?) : At3 w' b x y z :=
  ⟨Nat.lt_of_lt_of_le h.lt hs, (World.cell?_of_block (w := w) (a := ⟨b, 0, none⟩) e).trans h.c0, (World.cell?_of_block (w := w) (a := ⟨b, 1, none⟩) e).trans h.c1, (World.cell?_of_block (w := w) (a := ⟨b, 2, none⟩) e).trans h.c2⟩
set_option maxHeartbeats 1600000 in
theorem wAt_is (bs : List Mt.B) (l : List Fo.T3) (b N D E : Int) (hA : Te.AtA bs l b N D E) (n1 c1 n2 c2 : Nat) (A1 A2 : Option Addr) (h1 : bs.length = n1) (h2 : l.length = n2) (hwf : Mt.Wf bs) (w : World) (hB : SlB w A1 bs) (hL : SlT w A2 l) :
    Calls Try.prog 22 #[.slice A1 n1 c1, .slice A2 n2 c2, .int .i64 b] w fun e w' => e = .returned (.tuple #[.agg #[.int .i64 N, .int .i64 D], .int .i64 E]) ∧ Below w.heap.size w w' := by
  have HA := Lib.hid hA; have HN1 := Lib.hid h1; have HN2 := Lib.hid h2; have HB := Lib.hid hB; have HL := Lib.hid hL; have HWF := Lib.hid hwf
  obtain ⟨u, hu⟩ : ∃ u : Bool, u = true ↔ Te.Val bs l := ⟨@decide _ (Classical.propDecidable _), @decide_eq_true_iff _ (Classical.propDecidable _)⟩
  have HU := Lib.hid hu
  clear hA h1 h2 hB hL hu hwf
  cases u with
  | false =>
    obtain ⟨rfl, rfl, rfl⟩ := HA.out.no (fun k => (by have := HU.out.2 k.1; cases this))
    go_enter Try.func22, Try.ntmps22
    go_wp2_with fail
    have R := Var2.new w 0 0 25
    have hb0 := (Below.refl w.heap.size w).alloc (Nat.le_refl _) (.cells #[.int .i64 0, .int .i64 0] 25)
    refine (wtvalid_is bs l false n1 c1 n2 c2 A1 A2 HU.out HN1.out HN2.out HWF.out _ (HB.out.below hb0) (HL.out.below hb0)).mono ?_; rintro e w2 ⟨rfl, hb⟩
    replace R := R.below hb; replace hb0 := hb0.trans (hb.mono hb0.size)
    clear hb
    have r0 := R.at2.c0; have r1 := R.at2.c1; have rl := R.at2.lt; have rf0 := R.f0; have rf1 := R.f1
    go_wp2_with fail
    clear r0 r1 rl rf0 rf1
    have R2 := R.put 0 0
    have hB2 := (hb0.setCell (p := ⟨w.heap.size, 0, none⟩) (show w.heap.size ≤ w.heap.size by omega) (.int .i64 0)).setCell (p := ⟨w.heap.size, 1, none⟩) (show w.heap.size ≤ w.heap.size by omega) (.int .i64 0)
    have z0 := R2.at2.c0; have z1 := R2.at2.c1
    refine bodyPost_ret (v := .tuple #[.agg #[.int .i64 0, .int .i64 0], .int .i64 1]) (by simp [results, Try.results22, z0, z1, go_sem]) rfl ⟨rfl, hB2⟩
  | true =>
  have HV := Lib.hid (HU.out.1 rfl)
  have hn1 : n1 ≤ 4000 := by have := HV.out.1.2.1; have := HN1.out; omega
  have hn0 : 1 ≤ n1 := by have := HV.out.1.1; have := HN1.out; omega
  obtain ⟨g, hg⟩ : ∃ g : Bool, g = true ↔ 0 ≤ b ∧ b ≤ (n1 : Int) - 1 := ⟨decide _, decide_eq_true_iff⟩
  have HG := Lib.hid hg
  clear hg
  cases g with
  | false =>
    obtain ⟨rfl, rfl, rfl⟩ := HA.out.no (fun k => (by have := HG.out.2 ⟨k.2.1, by have := k.2.2; have := HN1.out; omega⟩; cases this))
    go_enter Try.func22, Try.ntmps22
    go_wp2_with fail
    have R := Var2.new w 0 0 25
    have hb0 := (Below.refl w.heap.size w).alloc (Nat.le_refl _) (.cells #[.int .i64 0, .int .i64 0] 25)
    refine (wtvalid_is bs l true n1 c1 n2 c2 A1 A2 ⟨fun _ => HV.out, fun _ => rfl⟩ HN1.out HN2.out HWF.out _ (HB.out.below hb0) (HL.out.below hb0)).mono ?_; rintro e w2 ⟨rfl, hb⟩
    replace R := R.below hb; replace hb0 := hb0.trans (hb.mono hb0.size)
    clear hb
    have r0 := R.at2.c0; have r1 := R.at2.c1; have rl := R.at2.lt; have rf0 := R.f0; have rf1 := R.f1
    go_wp2_with fail
    refine (lbetween_is b 0 ((n1 : Int) - 1) false HG.out _).mono ?_; rintro e w3 ⟨rfl, rfl⟩
    go_wp2_with fail
    clear r0 r1 rl rf0 rf1
    have R2 := R.put 0 0
    have hB2 := (hb0.setCell (p := ⟨w.heap.size, 0, none⟩) (show w.heap.size ≤ w.heap.size by omega) (.int .i64 0)).setCell (p := ⟨w.heap.size, 1, none⟩) (show w.heap.size ≤ w.heap.size by omega) (.int .i64 0)
    have z0 := R2.at2.c0; have z1 := R2.at2.c1
    refine bodyPost_ret (v := .tuple #[.agg #[.int .i64 0, .int .i64 0], .int .i64 1]) (by simp [results, Try.results22, z0, z1, go_sem]) rfl ⟨rfl, hB2⟩
  | true =>
  have hg2 := HG.out.1 rfl
  obtain ⟨hN, hD, rfl⟩ := HA.out.ok ⟨HV.out, hg2.1, by have := hg2.2; have := HN1.out; omega⟩
  have HND := Lib.hid (And.intro hN hD); have HG2 := Lib.hid hg2
  clear hN hD hg2
  go_enter Try.func22, Try.ntmps22
  go_wp2_with fail
  have R := Var2.new w 0 0 25
  have hb0 := (Below.refl w.heap.size w).alloc (Nat.le_refl _) (.cells #[.int .i64 0, .int .i64 0] 25)
  refine (wtvalid_is bs l true n1 c1 n2 c2 A1 A2 ⟨fun _ => HV.out, fun _ => rfl⟩ HN1.out HN2.out HWF.out _ (HB.out.below hb0) (HL.out.below hb0)).mono ?_; rintro e w2 ⟨rfl, hb⟩
  replace R := R.below hb; replace hb0 := hb0.trans (hb.mono hb0.size)
  clear hb
  have r0 := R.at2.c0; have r1 := R.at2.c1; have rl := R.at2.lt; have rf0 := R.f0; have rf1 := R.f1
  go_wp2_with fail
  refine (lbetween_is b 0 ((n1 : Int) - 1) true ⟨fun _ => HG2.out, fun _ => rfl⟩ _).mono ?_; rintro e w3 ⟨rfl, rfl⟩
  go_wp2_with fail
  clear r0 r1 rl rf0 rf1
  refine (winforce_is l b N D _ HV.out.2 HG2.out.1 HND.out.1 HND.out.2 n2 c2 A2 HN2.out _ (HL.out.below hb0)).mono ?_; rintro e w4 ⟨rfl, hb⟩
  replace R := R.below hb; replace hb0 := hb0.trans (hb.mono hb0.size)
  clear hb
  have r0 := R.at2.c0; have r1 := R.at2.c1; have rl := R.at2.lt; have rf0 := R.f0; have rf1 := R.f1
  go_wp2_with fail
  clear r0 r1 rl rf0 rf1
  have R2 := R.put N D
  have hB2 := (hb0.setCell (p := ⟨w.heap.size, 0, none⟩) (show w.heap.size ≤ w.heap.size by omega) (.int .i64 N)).setCell (p := ⟨w.heap.size, 1, none⟩) (show w.heap.size ≤ w.heap.size by omega) (.int .i64 D)
  have z0 := R2.at2.c0; have z1 := R2.at2.c1
  refine bodyPost_ret (v := .tuple #[.agg #[.int .i64 N, .int .i64 D], .int .i64 0]) (by simp [results, Try.results22, z0, z1, go_sem]) rfl ⟨rfl, hB2⟩
set_option maxRecDepth 100000 in
set_option maxHeartbeats 3200000 in
theorem winorder_is (bs : List Mt.B) (a an ad b bn bd : Int) (r : Bool) (V : Mt.Val bs) (hr : r = true ↔ Mt.posB bs a an ad = true ∧ Mt.posB bs b bn bd = true ∧ ¬ Te.Bef b bn bd a an ad) (n1 c1 : Nat) (A1 : Option Addr) (h1 : bs.length = n1) (hwf : Mt.Wf bs) (w : World) (hB : SlB w A1 bs) :
    Calls Try.prog 26 #[.slice A1 n1 c1, .agg #[.int .i64 a, .int .i64 an, .int .i64 ad], .agg #[.int .i64 b, .int .i64 bn, .int .i64 bd]] w fun e w' => e = .returned (.bool r) ∧ Below w.heap.size w w' := by
  have HR := Lib.hid hr; have HV := Lib.hid V; have HN1 := Lib.hid h1; have HB := Lib.hid hB; have HWF := Lib.hid hwf
  obtain ⟨pa, hpa⟩ : ∃ x, Mt.posB bs a an ad = x := ⟨_, rfl⟩
  obtain ⟨pb, hpb⟩ : ∃ x, Mt.posB bs b bn bd = x := ⟨_, rfl⟩
  have HA := Lib.hid hpa; have HBB := Lib.hid hpb
  clear hr V h1 hB hwf hpa hpb
  have P := (At3.new w a an ad 27).alloc (.cells #[.int .i64 b, .int .i64 bn, .int .i64 bd] 27)
  have Q := At3.new (w.alloc (.cells #[.int .i64 a, .int .i64 an, .int .i64 ad] 27)) b bn bd 27
  rw [World.size_alloc] at Q
  have B := ((Below.refl w.heap.size w).alloc (Nat.le_refl _) (.cells #[.int .i64 a, .int .i64 an, .int .i64 ad] 27)).alloc (by simp) (.cells #[.int .i64 b, .int .i64 bn, .int .i64 bd] 27)
  cases pa with
  | false =>
    obtain rfl : r = false := by
      cases r with
      | false => rfl
      | true => have h := (HR.out.1 rfl).1; rw [HA.out] at h; cases h
    have p0 := P.c0; have p1 := P.c1; have p2 := P.c2; have pl := P.lt
    go_enter Try.func26, Try.ntmps26
    go_wp2_with fail
    clear p0 p1 p2 pl
    refine (mtime_is bs a an ad true false _ _ n1 c1 A1 ⟨fun _ => HV.out, fun _ => rfl⟩ HA.out rfl rfl HN1.out HWF.out _ (HB.out.below B)).mono ?_; rintro e w4 ⟨hP, hb⟩
    unfold RatP at hP
    rw [if_neg (show ¬ (true && false) = true by decide)] at hP
    subst hP
    replace P := P.below hb; replace Q := Q.below hb; replace B := B.trans (hb.mono B.size)
    have X := At2.new w4 0 0 25
    replace P := P.alloc (.cells #[.int .i64 0, .int .i64 0] 25); replace Q := Q.alloc (.cells #[.int .i64 0, .int .i64 0] 25); replace B := B.alloc B.size (.cells #[.int .i64 0, .int .i64 0] 25)
    clear hb
    go_wp2_with fail
    go_ret
    exact ⟨rfl, B⟩
  | true =>
  obtain ⟨xN, hxN⟩ : ∃ z, Mt.oN (Mt.before bs a.toNat + Mt.tk an ad).toNat = z := ⟨_, rfl⟩
  obtain ⟨xD, hxD⟩ : ∃ z, Mt.oD (Mt.before bs a.toNat + Mt.tk an ad).toNat = z := ⟨_, rfl⟩
  have HxN := Lib.hid (And.intro hxN hxD)
  clear hxN hxD
  cases pb with
  | false =>
    obtain rfl : r = false := by
      cases r with
      | false => rfl
      | true => have h := (HR.out.1 rfl).2.1; rw [HBB.out] at h; cases h
    have p0 := P.c0; have p1 := P.c1; have p2 := P.c2; have pl := P.lt
    go_enter Try.func26, Try.ntmps26
    go_wp2_with fail
    clear p0 p1 p2 pl
    refine (mtime_is bs a an ad true true xN xD n1 c1 A1 ⟨fun _ => HV.out, fun _ => rfl⟩ HA.out HxN.out.1 HxN.out.2 HN1.out HWF.out _ (HB.out.below B)).mono ?_; rintro e w4 ⟨hP, hb⟩
    unfold RatP at hP
    rw [if_pos (show (true && true) = true from rfl)] at hP
    subst hP
    replace P := P.below hb; replace Q := Q.below hb; replace B := B.trans (hb.mono B.size)
    have X := At2.new w4 xN xD 25
    replace P := P.alloc (.cells #[.int .i64 xN, .int .i64 xD] 25); replace Q := Q.alloc (.cells #[.int .i64 xN, .int .i64 xD] 25); replace B := B.alloc B.size (.cells #[.int .i64 xN, .int .i64 xD] 25)
    clear hb
    have q0 := Q.c0; have q1 := Q.c1; have q2 := Q.c2; have ql := Q.lt
    go_wp2_with fail
    clear q0 q1 q2 ql
    refine (mtime_is bs b bn bd true false _ _ n1 c1 A1 ⟨fun _ => HV.out, fun _ => rfl⟩ HBB.out rfl rfl HN1.out HWF.out _ (HB.out.below B)).mono ?_; rintro e w5 ⟨hP, hb⟩
    unfold RatP at hP
    rw [if_neg (show ¬ (true && false) = true by decide)] at hP
    subst hP
    replace P := P.below hb; replace Q := Q.below hb; replace B := B.trans (hb.mono B.size)
    have Y := At2.new w5 0 0 25
    replace P := P.alloc (.cells #[.int .i64 0, .int .i64 0] 25); replace Q := Q.alloc (.cells #[.int .i64 0, .int .i64 0] 25); replace B := B.alloc B.size (.cells #[.int .i64 0, .int .i64 0] 25)
    replace X := X.below hb
    have X2 := X.alloc (.cells #[.int .i64 0, .int .i64 0] 25)
    clear hb
    go_wp2_with fail
    obtain ⟨wr, hwr⟩ : ∃ x, w5.alloc (.cells #[.int .i64 0, .int .i64 0] 25) = x := ⟨_, rfl⟩
    rw [hwr] at B X2 Y
    try rw [hwr]
    clear hwr
    have hne := Ext.there wr
    refine Ext.region (by kernel_rfl) (by kernel_rfl) ?_
    repeat (go_big_quiet_step (fail))
    refine wpQuiet_nil ?_
    rintro _ ⟨xw, rfl⟩
    have B1 := B.trans (xw.h.mono B.size)
    clear hne
    generalize xw.w = w6 at *
    clear xw
    go_wp2_with fail
    go_ret
    exact ⟨rfl, B1⟩
  | true =>
  obtain ⟨yN, hyN⟩ : ∃ z, Mt.oN (Mt.before bs b.toNat + Mt.tk bn bd).toNat = z := ⟨_, rfl⟩
  obtain ⟨yD, hyD⟩ : ∃ z, Mt.oD (Mt.before bs b.toNat + Mt.tk bn bd).toNat = z := ⟨_, rfl⟩
  have HyN := Lib.hid (And.intro hyN hyD)
  obtain ⟨x0, x1⟩ := Mt.before_tk HV.out HA.out
  obtain ⟨y0, y1⟩ := Mt.before_tk HV.out HBB.out
  obtain ⟨t, ht⟩ := Int.eq_ofNat_of_zero_le x0
  obtain ⟨s, hs⟩ := Int.eq_ofNat_of_zero_le y0
  have hX : Mt.tk xN xD = (t : Int) := by
    rw [← HxN.out.1, ← HxN.out.2, ht, Int.toNat_natCast]
    exact Mt.tk_of (by omega)
  have hY : Mt.tk yN yD = (s : Int) := by
    rw [← hyN, ← hyD, hs, Int.toNat_natCast]
    exact Mt.tk_of (by omega)
  obtain rfl : r = decide ((t : Int) ≤ (s : Int)) := by
    rw [Bool.eq_iff_iff, HR.out, decide_eq_true_iff, ← ht, ← hs, Te.bef_iff HV.out HA.out HBB.out]
    exact ⟨fun h => h.2.2, fun h => ⟨HA.out, HBB.out, h⟩⟩
  obtain ⟨T, hT⟩ : ∃ T : Int, (t : Int) = T := ⟨_, rfl⟩
  obtain ⟨S, hS⟩ : ∃ S : Int, (s : Int) = S := ⟨_, rfl⟩
  have hT0 : 0 ≤ T := by omega
  have hS0 : 0 ≤ S := by omega
  rw [hT, hS]
  rw [hT] at hX
  rw [hS] at hY
  have HT := Lib.hid hX; have HS := Lib.hid hY
  clear hyN hyD x0 x1 y0 y1 ht hs hX hY hT hS HR
  have p0 := P.c0; have p1 := P.c1; have p2 := P.c2; have pl := P.lt
  go_enter Try.func26, Try.ntmps26
  go_wp2_with fail
  clear p0 p1 p2 pl
  refine (mtime_is bs a an ad true true xN xD n1 c1 A1 ⟨fun _ => HV.out, fun _ => rfl⟩ HA.out HxN.out.1 HxN.out.2 HN1.out HWF.out _ (HB.out.below B)).mono ?_; rintro e w4 ⟨hP, hb⟩
  unfold RatP at hP
  rw [if_pos (show (true && true) = true from rfl)] at hP
  subst hP
  replace P := P.below hb; replace Q := Q.below hb; replace B := B.trans (hb.mono B.size)
  have X := At2.new w4 xN xD 25
  replace P := P.alloc (.cells #[.int .i64 xN, .int .i64 xD] 25); replace Q := Q.alloc (.cells #[.int .i64 xN, .int .i64 xD] 25); replace B := B.alloc B.size (.cells #[.int .i64 xN, .int .i64 xD] 25)
  clear hb
  have q0 := Q.c0; have q1 := Q.c1; have q2 := Q.c2; have ql := Q.lt
  go_wp2_with fail
  clear q0 q1 q2 ql
  refine (mtime_is bs b bn bd true true yN yD n1 c1 A1 ⟨fun _ => HV.out, fun _ => rfl⟩ HBB.out HyN.out.1 HyN.out.2 HN1.out HWF.out _ (HB.out.below B)).mono ?_; rintro e w5 ⟨hP, hb⟩
  unfold RatP at hP
  rw [if_pos (show (true && true) = true from rfl)] at hP
  subst hP
  replace P := P.below hb; replace Q := Q.below hb; replace B := B.trans (hb.mono B.size)
  have Y := At2.new w5 yN yD 25
  replace P := P.alloc (.cells #[.int .i64 yN, .int .i64 yD] 25); replace Q := Q.alloc (.cells #[.int .i64 yN, .int .i64 yD] 25); replace B := B.alloc B.size (.cells #[.int .i64 yN, .int .i64 yD] 25)
  have X2 := (X.below hb).alloc (.cells #[.int .i64 yN, .int .i64 yD] 25)
  clear hb X
  go_wp2_with fail
  obtain ⟨wr, hwr⟩ : ∃ x, w5.alloc (.cells #[.int .i64 yN, .int .i64 yD] 25) = x := ⟨_, rfl⟩
  rw [hwr] at B X2 Y
  try rw [hwr]
  clear hwr
  have x0 := fun y : Ext wr => y.cell X2.c0; have x1 := fun y : Ext wr => y.cell X2.c1
  have y0 := fun y : Ext wr => y.cell Y.c0; have y1 := fun y : Ext wr => y.cell Y.c1
  have HC0 := fun y : Ext wr => munits_is xN xD T HT.out hT0 y.w
  have HC1 := fun y : Ext wr => munits_is yN yD S HS.out hS0 y.w
  have hne := Ext.there wr
  refine Ext.region (by kernel_rfl) (by kernel_rfl) ?_
  repeat (go_big_quiet_step (first | (go_at_call 52; with_reducible exact Ext.call _ (HC0 _)) | (go_at_call 52; with_reducible exact Ext.call _ (HC1 _))))
  refine wpQuiet_nil ?_
  rintro _ ⟨xw, rfl⟩
  have B1 := B.trans (xw.h.mono B.size)
  clear x0 x1 y0 y1 HC0 HC1 hne
  generalize xw.w = w6 at *
  clear xw
  go_wp2_with fail
  go_ret
  exact ⟨rfl, B1⟩
theorem grown_stay {w a b : World} {S : Nat} (h : w.grownBy a (some S)) (hb : Below a.heap.size a b) : w.grownBy b (some S) :=
  ⟨hb.os.trans h.os, hb.tape.trans h.tape, hb.output.trans h.output, Nat.le_trans h.size hb.size, fun i hi hne => (hb.block i (Nat.lt_of_lt_of_le hi h.size)).trans (h.block i hi hne)⟩
set_option maxRecDepth 100000 in
set_option maxHeartbeats 3200000 in
theorem wbetween_is (bs : List Mt.B) (l : List Fo.T3) (V : Te.Val bs l) (a an ad b bn bd z : Int) (hp : Mt.posB bs a an ad = true) (hq : Mt.posB bs b bn bd = true) (hord : ¬ Te.Bef b bn bd a an ad) (hz : Te.tm bs l b.toNat (Mt.tk bn bd) - Te.tm bs l a.toNat (Mt.tk an ad) = z) (n1 c1 n2 c2 C : Nat) (A1 A2 : Option Addr) (h1 : bs.length = n1) (h2 : l.length = n2) (w0 w : World) (hB : SlB w0 A1 bs) (hL : SlT w0 A2 l) (hC : w0.heap.size ≤ C) (B : Below w0.heap.size w0 w) (K : Ck w C 0 A2 n2 c2) :
    Calls Try.prog 27 #[.slice A1 n1 c1, .agg #[.int .i64 a, .int .i64 an, .int .i64 ad], .agg #[.int .i64 b, .int .i64 bn, .int .i64 bd], .func (.func 28) #[.pointer (some ⟨C, 0, none⟩)] #[]] w fun e w' => (∃ v, e = .returned v) ∧ Ck w' C z A2 n2 c2 ∧ w.grownBy w' (some C) := by
  have HV := Lib.hid V; have HN1 := Lib.hid h1; have HN2 := Lib.hid h2; have HB := Lib.hid hB; have HL := Lib.hid hL
  obtain ⟨a0, a1, t0, t1, a2⟩ := Te.pos_r V.1 hp
  obtain ⟨b0, b1, s0, s1, b2⟩ := Te.pos_r V.1 hq
  obtain ⟨t, ht⟩ : ∃ t, Mt.tk an ad = t := ⟨_, rfl⟩
  obtain ⟨s, hs⟩ : ∃ s, Mt.tk bn bd = s := ⟨_, rfl⟩
  rw [Te.tm_full V.1 hp, Te.tm_full V.1 hq, ht, hs] at hz
  rw [ht] at t0 t1
  rw [hs] at s0 s1
  have hab : a ≤ b := by unfold Te.Bef at hord; omega
  obtain ⟨i0, rfl⟩ := Int.eq_ofNat_of_zero_le a0
  obtain ⟨j0, rfl⟩ := Int.eq_ofNat_of_zero_le b0
  rw [Int.toNat_natCast, Int.toNat_natCast] at hz
  have hij : i0 ≤ j0 := by omega
  have hjn : j0 ≤ n1 := by omega
  have hn1 : n1 ≤ 4000 := by have := V.1.2.1; omega
  obtain ⟨v1, hv1⟩ : ∃ v, -t * Te.sb l (i0 : Int) = v := ⟨_, rfl⟩
  obtain ⟨v2, hv2⟩ : ∃ v, s * Te.sb l (j0 : Int) = v := ⟨_, rfl⟩
  have hv1r : -24192000 ≤ v1 ∧ v1 ≤ 0 := by
    have h3 := V.2.sb_r (i0 : Int)
    have h4 := Te.mul_r t0 t1 (show (0 : Int) ≤ Te.sb l (i0 : Int) by omega) h3.2
    rw [← hv1, Int.neg_mul]
    omega
  have HZ : Hid (v1 + (Te.cum bs l j0 - Te.cum bs l i0) + v2 = z) := Lib.hid (by rw [← hv1, ← hv2, Int.neg_mul, ← hz]; omega)
  have HT := Lib.hid ht; have HS := Lib.hid hs; have HV1 := Lib.hid hv1; have HV2 := Lib.hid hv2
  have kl := K.lt
  have P := (At3.new w (i0 : Int) an ad 27).alloc (.cells #[.int .i64 (j0 : Int), .int .i64 bn, .int .i64 bd] 27)
  have Q := At3.new (w.alloc (.cells #[.int .i64 (i0 : Int), .int .i64 an, .int .i64 ad] 27)) (j0 : Int) bn bd 27
  rw [World.size_alloc] at Q
  have G0 := ((Below.refl w.heap.size w).alloc (Nat.le_refl _) (.cells #[.int .i64 (i0 : Int), .int .i64 an, .int .i64 ad] 27)).alloc (by simp) (.cells #[.int .i64 (j0 : Int), .int .i64 bn, .int .i64 bd] 27)
  have G : w.grownBy _ (some C) := below_grown G0 (some C)
  replace K := (K.alloc (.cells #[.int .i64 (i0 : Int), .int .i64 an, .int .i64 ad] 27)).alloc (.cells #[.int .i64 (j0 : Int), .int .i64 bn, .int .i64 bd] 27)
  replace B := B.trans (G0.mono B.size)
  clear V h1 h2 hB hL hp hq hord ht hs hz hv1 hv2 G0 a0 a1 a2 b0 b1 b2 hab
  go_enter Try.func27, Try.ntmps27
  go_wp2_with fail
  obtain ⟨wq, hwq⟩ : ∃ x, (w.alloc (.cells #[.int .i64 (i0 : Int), .int .i64 an, .int .i64 ad] 27)).alloc (.cells #[.int .i64 (j0 : Int), .int .i64 bn, .int .i64 bd] 27) = x := ⟨_, rfl⟩
  rw [hwq] at P Q G K B ⊢
  clear hwq
  have x0 := fun y : Ext wq => y.cell P.c0; have x1 := fun y : Ext wq => y.cell P.c1; have x2 := fun y : Ext wq => y.cell P.c2
  have HC := fun y : Ext wq => munits_is an ad t HT.out t0 y.w
  have hne := Ext.there wq
  refine Ext.tail 7 (by kernel_rfl) (by kernel_rfl) ?_
  simp only [List.take_succ_cons, List.take_zero, List.drop_succ_cons, List.drop_zero]
  repeat (go_big_quiet_step ((go_at_call 52; with_reducible exact Ext.call _ (HC _))))
  refine wpQuiet_nil ?_
  rintro _ ⟨xw, rfl⟩
  have hb := xw.h
  clear x0 x1 x2 HC hne
  generalize xw.w = w3 at *
  clear xw
  replace P := P.below hb; replace Q := Q.below hb; replace K := K.below hb; replace B := B.trans (hb.mono B.size); replace G := grown_stay G hb
  clear hb
  go_wp2_with fail
  refine (wplay_is l (i0 : Int) (-t) 0 v1 _ HV.out.2 (by omega) HV1.out (by omega) (by omega) (by omega) (by omega) C n2 c2 A2 HN2.out _ K (HL.out.below B)).mono ?_; rintro e w4 ⟨⟨_, rfl⟩, K2, hg⟩
  rw [Int.zero_add] at K2
  replace K := K2
  clear K2
  replace P := P.blkT hg.size (hg.block _ P.lt (by intro e8; have := Option.some.inj e8; omega)); replace Q := Q.blkT hg.size (hg.block _ Q.lt (by intro e8; have := Option.some.inj e8; omega)); replace G := grown_then G hg; replace B := B.grown hg B.size (fun j hj => by have := Option.some.inj hj; omega)
  clear hg
  have p0 := P.c0; have p1 := P.c1; have p2 := P.c2; have pl := P.lt
  go_wp2_with fail
  clear p0 p1 p2 pl
  go_loopw [8] (fun s8 wr => ∃ (i : Nat) (q x : Int), i0 ≤ i ∧ i ≤ j0 ∧ q = i ∧ s8 = .int .i64 q ∧ Hid (x = v1 + (Te.cum bs l i - Te.cum bs l i0)) ∧ Ck wr C x A2 n2 c2 ∧ At3 wr (w.heap.size + 1) (j0 : Int) bn bd ∧ w.grownBy wr (some C) ∧ Below w0.heap.size w0 wr) (fun s8 _ => j0 - (intOf s8).toNat)
  case atStart => exact ⟨i0, i0, v1, Nat.le_refl _, hij, rfl, rfl, Lib.hid (by omega), K, Q, G, B⟩
  case round =>
    clear K Q G B P
    obtain ⟨i, q, x, hi0, hi1, hq, rfl, HX, K, Q, G, B⟩ := hrel
    have HQ := Lib.hid hq; have HI := Lib.hid (And.intro hi0 hi1)
    have hq0 : 0 ≤ q := by omega
    have hqm : q ≤ 4000 := by omega
    have hqn : q.toNat = i := by omega
    have hxr : -24192000 ≤ x ∧ x ≤ 96768000000 := by
      have h9 := (Te.cum_mono HV.out (i := i0) (k := i - i0) (by rw [HN1.out]; omega))
      rw [show i0 + (i - i0) = i by omega] at h9
      have := HX.out
      omega
    have q0 := Q.c0; have ql := Q.lt
    by_cases hlt : i < j0
    case pos =>
      have hq1 : q < (j0 : Int) := by omega
      have hqb : q < (n1 : Int) := by omega
      have hkl : i < bs.length := by rw [HN1.out]; omega
      obtain ⟨bb, off, hAe, hbb, hc⟩ := (HB.out.below B) (by omega)
      obtain ⟨g0, x1, x2, g3⟩ := hc i hkl
      obtain ⟨bN, hbN⟩ : ∃ x, (atB bs i).2.1 = x := ⟨_, rfl⟩
      obtain ⟨bD, hbD⟩ : ∃ x, (atB bs i).2.2.1 = x := ⟨_, rfl⟩
      rw [hbN] at x1
      rw [hbD] at x2
      obtain ⟨u, hu⟩ : ∃ u, Mt.bt (atB bs i) = u := ⟨_, rfl⟩
      have HTT : Hid (Mt.tk bN bD = u) := Lib.hid (by rw [← hbN, ← hbD]; exact hu)
      have hbt := Te.bt_r HV.out.1 hkl
      rw [hu] at hbt
      obtain ⟨y, hy⟩ : ∃ y, u * Te.sb l q = y := ⟨_, rfl⟩
      have HY := Lib.hid hy
      have HX2 : Hid (x + y = v1 + (Te.cum bs l (i + 1) - Te.cum bs l i0)) := Lib.hid (by rw [Te.cum_succ, hu, ← hq, hy, HX.out]; omega)
      subst hAe
      clear g0 g3 hc hbN hbD hu hy hq hlt
      go_wp2_with fail
      clear x1 x2 q0 ql
      refine (munits_is bN bD u HTT.out (by omega) _).mono ?_; rintro e w6 ⟨rfl, hb⟩
      replace Q := Q.below hb; replace K := K.below hb; replace B := B.trans (hb.mono B.size); replace G := grown_stay G hb
      clear hb
      go_wp2_with fail
      refine (wplay_is l q u x y _ HV.out.2 (by omega) HY.out (by omega) (by omega) (by omega) (by omega) C n2 c2 A2 HN2.out _ K (HL.out.below B)).mono ?_; rintro e w7 ⟨⟨_, rfl⟩, K2, hg⟩
      replace Q := Q.blkT hg.size (hg.block _ Q.lt (by intro e8; have := Option.some.inj e8; omega)); replace G := grown_then G hg; replace B := B.grown hg B.size (fun j hj => by have := Option.some.inj hj; omega)
      clear hg K
      go_wp2_with fail
      go_roundw
      case rel => exact ⟨i + 1, q + 1, x + y, by have := HI.out; omega, by have := HI.out; have := HQ.out; omega, by have := HQ.out; omega, rfl, HX2, K2, Q, G, B⟩
      case measure => simp [intOf]; have := HQ.out; omega
    case neg =>
      obtain rfl : i = j0 := by omega
      have hq1 : ¬ q < (i : Int) := by omega
      have HXE : Hid (x + v2 = z) := Lib.hid (by rw [← HZ.out, HX.out])
      clear hq
      go_wp2_with fail
      clear q0 ql
      obtain ⟨wq, hwq⟩ : ∃ x, wr = x := ⟨_, rfl⟩
      rw [hwq] at Q G K B ⊢
      clear hwq
      have x0 := fun y : Ext wq => y.cell Q.c0; have x1 := fun y : Ext wq => y.cell Q.c1; have x2 := fun y : Ext wq => y.cell Q.c2
      have HC := fun y : Ext wq => munits_is bn bd s HS.out s0 y.w
      have hne := Ext.there wq
      refine Ext.tail 6 (by kernel_rfl) (by kernel_rfl) ?_
      simp only [List.take_succ_cons, List.take_zero, List.drop_succ_cons, List.drop_zero]
      repeat (go_big_quiet_step ((go_at_call 52; with_reducible exact Ext.call _ (HC _))))
      refine wpQuiet_nil ?_
      rintro _ ⟨xw, rfl⟩
      have hb := xw.h
      clear x0 x1 x2 HC hne
      generalize xw.w = w8 at *
      clear xw
      replace Q := Q.below hb; replace K := K.below hb; replace B := B.trans (hb.mono B.size); replace G := grown_stay G hb
      clear hb
      go_wp2_with fail
      refine (wplay_is l (i : Int) s x v2 _ HV.out.2 (by omega) HV2.out (by omega) (by omega) (by omega) (by omega) C n2 c2 A2 HN2.out _ K (HL.out.below B)).mono ?_; rintro e w9 ⟨⟨_, rfl⟩, K2, hg⟩
      replace G := grown_then G hg
      rw [HXE.out] at K2
      go_wp2_with fail
      go_end0
      exact ⟨⟨_, rfl⟩, K2, G⟩
set_option maxRecDepth 100000 in
set_option maxHeartbeats 3200000 in
theorem wSeconds_is (bs : List Mt.B) (l : List Fo.T3) (a an ad b bn bd N D E : Int) (hA : Te.SecA bs l a an ad b bn bd N D E) (n1 c1 n2 c2 : Nat) (A1 A2 : Option Addr) (h1 : bs.length = n1) (h2 : l.length = n2) (hwf : Mt.Wf bs) (w : World) (hB : SlB w A1 bs) (hL : SlT w A2 l) :
    Calls Try.prog 11 #[.slice A1 n1 c1, .slice A2 n2 c2, .agg #[.int .i64 a, .int .i64 an, .int .i64 ad], .agg #[.int .i64 b, .int .i64 bn, .int .i64 bd]] w fun e w' => e = .returned (.tuple #[.agg #[.int .i64 N, .int .i64 D], .int .i64 E]) ∧ Below w.heap.size w w' := by
  have HANS := Lib.hid hA; have HN1 := Lib.hid h1; have HN2 := Lib.hid h2; have HB := Lib.hid hB; have HL := Lib.hid hL; have HWF := Lib.hid hwf
  obtain ⟨u, hu⟩ : ∃ u : Bool, u = true ↔ Te.Val bs l := ⟨@decide _ (Classical.propDecidable _), @decide_eq_true_iff _ (Classical.propDecidable _)⟩
  have HU := Lib.hid hu
  obtain ⟨g, hg⟩ : ∃ u : Bool, u = true ↔ Mt.posB bs a an ad = true ∧ Mt.posB bs b bn bd = true ∧ ¬ Te.Bef b bn bd a an ad := ⟨@decide _ (Classical.propDecidable _), @decide_eq_true_iff _ (Classical.propDecidable _)⟩
  have HG := Lib.hid hg
  clear hA h1 h2 hB hL hu hg hwf
  have P := ((At3.new w a an ad 27).alloc (.cells #[.int .i64 b, .int .i64 bn, .int .i64 bd] 27)).alloc (.cells #[.int .i64 0, .int .i64 0] 25)
  have Q := (At3.new (w.alloc (.cells #[.int .i64 a, .int .i64 an, .int .i64 ad] 27)) b bn bd 27).alloc (.cells #[.int .i64 0, .int .i64 0] 25)
  have R := Var2.new ((w.alloc (.cells #[.int .i64 a, .int .i64 an, .int .i64 ad] 27)).alloc (.cells #[.int .i64 b, .int .i64 bn, .int .i64 bd] 27)) 0 0 25
  rw [World.size_alloc] at Q
  rw [World.size_alloc, World.size_alloc] at R
  have hb0 := (((Below.refl w.heap.size w).alloc (Nat.le_refl _) (.cells #[.int .i64 a, .int .i64 an, .int .i64 ad] 27)).alloc (by simp) (.cells #[.int .i64 b, .int .i64 bn, .int .i64 bd] 27)).alloc (by simp <;> omega) (.cells #[.int .i64 0, .int .i64 0] 25)
  cases u with
  | false =>
    obtain ⟨rfl, rfl, rfl⟩ := HANS.out.no (fun k => (by have := HU.out.2 k.1; cases this))
    go_enter Try.func11, Try.ntmps11
    go_wp2_with fail
    refine (wtvalid_is bs l false n1 c1 n2 c2 A1 A2 HU.out HN1.out HN2.out HWF.out _ (HB.out.below hb0) (HL.out.below hb0)).mono ?_; rintro e w2 ⟨rfl, hb⟩
    replace P := P.below hb; replace Q := Q.below hb; replace R := R.below hb; replace hb0 := hb0.trans (hb.mono hb0.size)
    clear hb
    have r0 := R.at2.c0; have r1 := R.at2.c1; have rl := R.at2.lt; have rf0 := R.f0; have rf1 := R.f1
    go_wp2_with fail
    clear r0 r1 rl rf0 rf1
    have R2 := R.put 0 0
    have hB2 := (hb0.setCell (p := ⟨w.heap.size + 1 + 1, 0, none⟩) (show w.heap.size ≤ w.heap.size + 1 + 1 by omega) (.int .i64 0)).setCell (p := ⟨w.heap.size + 1 + 1, 1, none⟩) (show w.heap.size ≤ w.heap.size + 1 + 1 by omega) (.int .i64 0)
    have z0 := R2.at2.c0; have z1 := R2.at2.c1
    refine bodyPost_ret (v := .tuple #[.agg #[.int .i64 0, .int .i64 0], .int .i64 1]) (by simp [results, Try.results11, z0, z1, go_sem]) rfl ⟨rfl, hB2⟩
  | true =>
  have HV := Lib.hid (HU.out.1 rfl)
  cases g with
  | false =>
    obtain ⟨rfl, rfl, rfl⟩ := HANS.out.no (fun k => (by have := HG.out.2 k.2; cases this))
    go_enter Try.func11, Try.ntmps11
    go_wp2_with fail
    refine (wtvalid_is bs l true n1 c1 n2 c2 A1 A2 ⟨fun _ => HV.out, fun _ => rfl⟩ HN1.out HN2.out HWF.out _ (HB.out.below hb0) (HL.out.below hb0)).mono ?_; rintro e w2 ⟨rfl, hb⟩
    replace P := P.below hb; replace Q := Q.below hb; replace R := R.below hb; replace hb0 := hb0.trans (hb.mono hb0.size)
    clear hb
    have p0 := P.c0; have p1 := P.c1; have p2 := P.c2; have pl := P.lt; have s0 := Q.c0; have s1 := Q.c1; have s2 := Q.c2; have sl := Q.lt
    go_wp2_with fail
    clear p0 p1 p2 pl s0 s1 s2 sl
    refine (winorder_is bs a an ad b bn bd false HV.out.1 HG.out n1 c1 A1 HN1.out HWF.out _ (HB.out.below hb0)).mono ?_; rintro e w3 ⟨rfl, hb⟩
    replace P := P.below hb; replace Q := Q.below hb; replace R := R.below hb; replace hb0 := hb0.trans (hb.mono hb0.size)
    clear hb
    have r0 := R.at2.c0; have r1 := R.at2.c1; have rl := R.at2.lt; have rf0 := R.f0; have rf1 := R.f1
    go_wp2_with fail
    clear r0 r1 rl rf0 rf1
    have R2 := R.put 0 0
    have hB2 := (hb0.setCell (p := ⟨w.heap.size + 1 + 1, 0, none⟩) (show w.heap.size ≤ w.heap.size + 1 + 1 by omega) (.int .i64 0)).setCell (p := ⟨w.heap.size + 1 + 1, 1, none⟩) (show w.heap.size ≤ w.heap.size + 1 + 1 by omega) (.int .i64 0)
    have z0 := R2.at2.c0; have z1 := R2.at2.c1
    refine bodyPost_ret (v := .tuple #[.agg #[.int .i64 0, .int .i64 0], .int .i64 1]) (by simp [results, Try.results11, z0, z1, go_sem]) rfl ⟨rfl, hB2⟩
  | true =>
  have HG2 := Lib.hid (HG.out.1 rfl)
  obtain ⟨z, hz⟩ : ∃ z, Te.tm bs l b.toNat (Mt.tk bn bd) - Te.tm bs l a.toNat (Mt.tk an ad) = z := ⟨_, rfl⟩
  have hmk := HANS.out.ok ⟨HV.out, HG2.out⟩
  rw [hz] at hmk
  have HZ := Lib.hid hz; have HMK := Lib.hid hmk
  clear hz hmk
  go_enter Try.func11, Try.ntmps11
  go_wp2_with fail
  refine (wtvalid_is bs l true n1 c1 n2 c2 A1 A2 ⟨fun _ => HV.out, fun _ => rfl⟩ HN1.out HN2.out HWF.out _ (HB.out.below hb0) (HL.out.below hb0)).mono ?_; rintro e w2 ⟨rfl, hb⟩
  replace P := P.below hb; replace Q := Q.below hb; replace R := R.below hb; replace hb0 := hb0.trans (hb.mono hb0.size)
  clear hb
  have p0 := P.c0; have p1 := P.c1; have p2 := P.c2; have pl := P.lt; have s0 := Q.c0; have s1 := Q.c1; have s2 := Q.c2; have sl := Q.lt
  go_wp2_with fail
  clear p0 p1 p2 pl s0 s1 s2 sl
  refine (winorder_is bs a an ad b bn bd true HV.out.1 ⟨fun _ => HG2.out, fun _ => rfl⟩ n1 c1 A1 HN1.out HWF.out _ (HB.out.below hb0)).mono ?_; rintro e w3 ⟨rfl, hb⟩
  replace P := P.below hb; replace Q := Q.below hb; replace R := R.below hb; replace hb0 := hb0.trans (hb.mono hb0.size)
  clear hb
  have K := Ck.new w3 A2 n2 c2 72
  have hs3 := hb0.size; have hrw := R.at2.lt
  replace P := P.alloc (.cells #[.int .i64 0, .slice A2 n2 c2] 72); replace Q := Q.alloc (.cells #[.int .i64 0, .slice A2 n2 c2] 72); replace R := R.alloc (.cells #[.int .i64 0, .slice A2 n2 c2] 72); replace hb0 := hb0.alloc hb0.size (.cells #[.int .i64 0, .slice A2 n2 c2] 72)
  have p0 := P.c0; have p1 := P.c1; have p2 := P.c2; have pl := P.lt; have s0 := Q.c0; have s1 := Q.c1; have s2 := Q.c2; have sl := Q.lt
  have hrl := R.at2.lt
  go_wp2_with fail
  clear p0 p1 p2 pl s0 s1 s2 sl
  refine (wbetween_is bs l HV.out a an ad b bn bd z HG2.out.1 HG2.out.2.1 HG2.out.2.2 HZ.out n1 c1 n2 c2 w3.heap.size A1 A2 HN1.out HN2.out w _ HB.out HL.out hs3 hb0 K).mono ?_; rintro e w4 ⟨⟨_, rfl⟩, K2, hgr⟩
  replace R := R.blkT hgr.size (hgr.block _ R.at2.lt (by intro e8; have := Option.some.inj e8; omega))
  replace hb0 := hb0.grown hgr hb0.size (fun j hj => by have := Option.some.inj hj; omega)
  clear hgr K
  go_wp2_with fail
  refine (wcsec_is w3.heap.size z N D E HMK.out _ K2.t).mono ?_; rintro e w5 ⟨rfl, hb⟩
  replace R := R.below hb; replace hb0 := hb0.trans (hb.mono hb0.size)
  clear hb
  have r0 := R.at2.c0; have r1 := R.at2.c1; have rl := R.at2.lt; have rf0 := R.f0; have rf1 := R.f1
  go_wp2_with fail
  clear r0 r1 rl rf0 rf1
  have R2 := R.put N D
  have hB2 := (hb0.setCell (p := ⟨w.heap.size + 1 + 1, 0, none⟩) (show w.heap.size ≤ w.heap.size + 1 + 1 by omega) (.int .i64 N)).setCell (p := ⟨w.heap.size + 1 + 1, 1, none⟩) (show w.heap.size ≤ w.heap.size + 1 + 1 by omega) (.int .i64 D)
  have z0 := R2.at2.c0; have z1 := R2.at2.c1
  refine bodyPost_ret (v := .tuple #[.agg #[.int .i64 N, .int .i64 D], .int .i64 E]) (by simp [results, Try.results11, z0, z1, go_sem]) rfl ⟨rfl, hB2⟩
end Go.Proofs.Ytahdlkdiadlgeaa

/- The landed tempo's whole, Played. -/
namespace Go.Proofs.Ytahdlkdiadlgeaa
open Go.RowKit
namespace Te
open Fo (T3)
/-- Some of the visits, one after the other. -/
def sub (vs : List Fo.V2) (i m : Nat) : List Fo.V2 := (vs.drop i).take m
theorem sub_len {vs : List Fo.V2} {i m : Nat} (h : i + m ≤ vs.length) : (sub vs i m).length = m := by
  unfold sub
  rw [List.length_take, List.length_drop]
  omega
theorem sub_at {vs : List Fo.V2} {i m k : Nat} (h : k < m) : atV (sub vs i m) k = atV vs (i + k) := by
  unfold sub atV
  rw [List.getElem?_take, if_pos h, List.getElem?_drop]
theorem pre_sub {bs : List Mt.B} {l : List T3} {vs : List Fo.V2} {i m : Nat} : ∀ {k : Nat}, k ≤ m → pre bs l (sub vs i m) k = pre bs l vs (i + k) - pre bs l vs i
  | 0, _ => by
    rw [Nat.add_zero, Int.sub_self]
    rfl
  | k + 1, h => by
    rw [show i + (k + 1) = (i + k) + 1 by omega, pre_succ, pre_succ, pre_sub (k := k) (by omega), sub_at (by omega)]
    omega
theorem sub_in {bs : List Mt.B} {vs : List Fo.V2} (I : In bs vs) {i m : Nat} (h : i + m ≤ vs.length) : In bs (sub vs i m) := fun k hk => by
  rw [sub_len h] at hk
  rw [sub_at hk]
  exact I (i + k) (by omega)
end Te
theorem SlV.sub {w : World} {vb vo : Nat} {vs : List Fo.V2} {i m : Nat} (h : i + m ≤ vs.length) (hb : vb < w.heap.size) (hc : ∀ k, k < vs.length → VAt w vb (vo + k * 2) (atV vs k)) : SlV w (some ⟨vb, vo + i * 2, none⟩) (Te.sub vs i m) := fun _ =>
  ⟨vb, vo + i * 2, rfl, hb, fun k hk => by
    rw [Te.sub_len h] at hk
    have := hc (i + k) (by omega)
    rw [Te.sub_at hk, show vo + i * 2 + k * 2 = vo + (i + k) * 2 by omega]
    exact this⟩
theorem own_Vc {w : World} {base : Nat} {e : TypeId} {A : Option Addr} {m n cap : Nat} {xs : List Value} (h : w.ownsRow base e 2 (.slice A m cap) n xs) : n ≤ cap := by
  rcases h.2 with ⟨hv, hn⟩ | ⟨b, c, cur, hv, _, _, hc, _⟩
  · omega
  · cases hv
    exact hc
set_option maxRecDepth 100000 in
set_option maxHeartbeats 3200000 in
theorem wwhole_is (bs : List Mt.B) (l : List Fo.T3) (V : Te.Val bs l) (us : List Fo.V2) (I : Te.In bs us) (m : Nat) (hm : us.length = m) (hmm : m ≤ 20000) (z : Int) (hz : Te.pre bs l us m = z) (n1 c1 n2 c2 c3 C : Nat) (A1 A2 A3 : Option Addr) (h1 : bs.length = n1) (h2 : l.length = n2) (w0 w : World) (hB : SlB w0 A1 bs) (hL : SlT w0 A2 l) (hS : SlV w0 A3 us) (hC : w0.heap.size ≤ C) (B : Below w0.heap.size w0 w) (K : Ck w C 0 A2 n2 c2) :
    Calls Try.prog 42 #[.slice A1 n1 c1, .slice A3 m c3, .func (.func 28) #[.pointer (some ⟨C, 0, none⟩)] #[]] w fun e w' => (∃ v, e = .returned v) ∧ Ck w' C z A2 n2 c2 ∧ w.grownBy w' (some C) := by
  have HV := Lib.hid V; have HN1 := Lib.hid h1; have HN2 := Lib.hid h2; have HB := Lib.hid hB; have HL := Lib.hid hL; have HI := Lib.hid I; have HM := Lib.hid hm; have HZ := Lib.hid hz; have HS := Lib.hid hS
  have hn1 : n1 ≤ 4000 := by have := V.1.2.1; omega
  have G : w.grownBy w (some C) := below_grown (Below.refl _ _) (some C)
  clear V h1 h2 hB hL I hm hz hS
  go_enter Try.func42, Try.ntmps42
  go_wp2_with fail
  go_loopw [10] (fun s10 wr => ∃ (i : Nat) (q x : Int), i ≤ m ∧ q = i ∧ s10 = .int .i64 q ∧ Hid (x = Te.pre bs l us i) ∧ Ck wr C x A2 n2 c2 ∧ w.grownBy wr (some C) ∧ Below w0.heap.size w0 wr) (fun s10 _ => m - (intOf s10).toNat)
  case atStart => exact ⟨0, 0, 0, Nat.zero_le _, rfl, rfl, Lib.hid rfl, K, G, B⟩
  case round =>
    clear K G B
    obtain ⟨i, q, x, hi, hq, rfl, HX, K, G, B⟩ := hrel
    have HQ := Lib.hid hq
    have hq0 : 0 ≤ q := by omega
    have hqm : q ≤ 20000 := by omega
    have hqn : q.toNat = i := by omega
    have hxr : 0 ≤ x ∧ x ≤ 483840000000 := by
      have h9 := Te.pre_mono HV.out HI.out (i := 0) (k := i) (by rw [HM.out]; omega)
      rw [Nat.zero_add, show Te.pre bs l us 0 = 0 from rfl] at h9
      have := HX.out
      omega
    by_cases hlt : i < m
    case pos =>
      have hq1 : q < (m : Int) := by omega
      have HLT := Lib.hid hlt
      have hiu : i < us.length := by rw [HM.out]; exact hlt
      obtain ⟨vb, vo, hA3, hvb, hvc⟩ := HS.out (by omega)
      have Y := (hvc i hiu).below B hvb
      obtain ⟨y, hy⟩ : ∃ y, atV us i = y := ⟨_, rfl⟩
      rw [hy] at Y
      have g0 := Y.c0; have g1 := Y.c1
      have hin := HI.out i hiu
      rw [hy] at hin
      obtain ⟨k, hk⟩ : ∃ k : Nat, y.b = (k : Int) := ⟨y.b.toNat, by omega⟩
      have hkl : k < bs.length := by omega
      have hkb : y.b < (n1 : Int) := by have := HN1.out; omega
      have hk0 : 0 ≤ y.b := by omega
      have hkn : y.b.toNat = k := by omega
      have hBw := HB.out.below B
      obtain ⟨bb, off, hA1, hbb, hc⟩ := hBw (by omega)
      obtain ⟨f0, x1, x2, f3⟩ := hc k hkl
      obtain ⟨bN, hbN⟩ : ∃ x, (atB bs k).2.1 = x := ⟨_, rfl⟩
      obtain ⟨bD, hbD⟩ : ∃ x, (atB bs k).2.2.1 = x := ⟨_, rfl⟩
      rw [hbN] at x1
      rw [hbD] at x2
      obtain ⟨u, hu⟩ : ∃ u, Mt.bt (atB bs k) = u := ⟨_, rfl⟩
      have HTT : Hid (Mt.tk bN bD = u) := Lib.hid (by rw [← hbN, ← hbD]; exact hu)
      have hbt := Te.bt_r HV.out.1 hkl
      rw [hu] at hbt
      obtain ⟨t, ht⟩ : ∃ t, u * Te.sb l y.b = t := ⟨_, rfl⟩
      have HT := Lib.hid ht
      have HX2 : Hid (x + t = Te.pre bs l us (i + 1)) := Lib.hid (by rw [Te.pre_succ, hy, hkn, hu, ht, HX.out])
      subst hA1 hA3
      have T := At2.new wr y.b y.p 55
      have X1 := ((Below.refl wr.heap.size wr).alloc (Nat.le_refl _) (.cells #[.int .i64 y.b, .int .i64 y.p] 55)).cell (p := ⟨bb, off + k * 4 + 1, none⟩) hbb |>.trans x1
      have X2 := ((Below.refl wr.heap.size wr).alloc (Nat.le_refl _) (.cells #[.int .i64 y.b, .int .i64 y.p] 55)).cell (p := ⟨bb, off + k * 4 + 2, none⟩) hbb |>.trans x2
      replace K := K.alloc (.cells #[.int .i64 y.b, .int .i64 y.p] 55)
      have hal := (Below.refl wr.heap.size wr).alloc (Nat.le_refl _) (.cells #[.int .i64 y.b, .int .i64 y.p] 55)
      replace G := grown_stay G hal
      replace B := B.alloc B.size (.cells #[.int .i64 y.b, .int .i64 y.p] 55)
      have hus : u ≤ 40320 := hbt.2
      have hu0 : 0 ≤ u := by omega
      clear f0 f3 hc hbN hbD hu ht hq hlt hvc Y hy hk hal x1 x2 hin hBw hbt
      go_wp2_with fail
      obtain ⟨wq, hwq⟩ : ∃ x, wr.alloc (.cells #[.int .i64 y.b, .int .i64 y.p] 55) = x := ⟨_, rfl⟩
      rw [hwq] at T X1 X2 G K B ⊢
      clear hwq g0 g1
      have x0 := fun y : Ext wq => y.cell T.c0; have x1 := fun y : Ext wq => y.cell X1; have x2 := fun y : Ext wq => y.cell X2
      have HC := fun y : Ext wq => munits_is bN bD u HTT.out hu0 y.w
      have hne := Ext.there wq
      refine Ext.tail 10 (by kernel_rfl) (by kernel_rfl) ?_
      simp only [List.take_succ_cons, List.take_zero, List.drop_succ_cons, List.drop_zero]
      repeat (go_big_quiet_step ((go_at_call 52; with_reducible exact Ext.call _ (HC _))))
      refine wpQuiet_nil ?_
      rintro _ ⟨xw, rfl⟩
      have hb := xw.h
      clear x0 x1 x2 HC hne X1 X2 T
      generalize xw.w = w3 at *
      clear xw
      replace K := K.below hb; replace B := B.trans (hb.mono B.size); replace G := grown_stay G hb
      clear hb
      go_wp2_with fail
      refine (wplay_is l y.b u x t _ HV.out.2 hk0 HT.out (by omega) (by omega) (by omega) (by omega) C n2 c2 A2 HN2.out _ K (HL.out.below B)).mono ?_; rintro e w7 ⟨⟨_, rfl⟩, K2, hg⟩
      replace G := grown_then G hg; replace B := B.grown hg B.size (fun j hj => by have := Option.some.inj hj; omega)
      clear hg K
      go_wp2_with fail
      go_roundw
      case rel => exact ⟨i + 1, q + 1, x + t, by have := HLT.out; omega, by have := HQ.out; omega, rfl, HX2, K2, G, B⟩
      case measure => simp [intOf]; have := HQ.out; have := HLT.out; omega
    case neg =>
      obtain rfl : i = m := by omega
      have hq1 : ¬ q < (i : Int) := by omega
      have HXE : Hid (x = z) := Lib.hid (by rw [HX.out, HZ.out])
      clear hq
      rw [HXE.out] at K
      go_wp2_with fail
      go_end0
      exact ⟨⟨_, rfl⟩, K, G⟩
set_option maxRecDepth 100000 in
set_option maxHeartbeats 6400000 in
theorem wPlayed_is (bs : List Mt.B) (l : List Fo.T3) (h : FH) (f : Fo.Fm) (a b N D E : Int) (hA : Te.PlaA bs l f a b N D E) (n1 c1 n2 c2 : Nat) (A1 A2 : Option Addr) (h1 : bs.length = n1) (h2 : l.length = n2) (hwf : Mt.Wf bs) (hw3 : ∀ c ∈ f.cs, Fo.wf3 c) (w : World) (hB : SlB w A1 bs) (hL : SlT w A2 l) (hF : SlF w h f) :
    Calls Try.prog 19 #[.slice A1 n1 c1, .slice A2 n2 c2, .agg #[.int .i64 h.n, .slice h.R h.rl h.rc, .slice h.E h.el h.ec, .int .i64 h.ja, .int .i64 h.jt, .int .i64 h.jf, .slice h.C h.cl h.cc], .int .i64 a, .int .i64 b] w fun e w' => e = .returned (.tuple #[.agg #[.int .i64 N, .int .i64 D], .int .i64 E]) ∧ Below w.heap.size w w' := by
  have HANS := Lib.hid hA; have HN1 := Lib.hid h1; have HN2 := Lib.hid h2; have HB := Lib.hid hB; have HL := Lib.hid hL; have HF := Lib.hid hF; have HWF := Lib.hid hwf; have HW3 := Lib.hid hw3
  have HFN0 := Lib.hid hF.n
  obtain ⟨u, hu⟩ : ∃ u : Bool, u = true ↔ Te.Val bs l := ⟨@decide _ (Classical.propDecidable _), @decide_eq_true_iff _ (Classical.propDecidable _)⟩
  have HU := Lib.hid hu
  have Q := (FB.new w h).alloc (.cells #[.int .i64 0, .int .i64 0] 25)
  have R := Var2.new (w.alloc (.cells #[.int .i64 h.n, .slice h.R h.rl h.rc, .slice h.E h.el h.ec, .int .i64 h.ja, .int .i64 h.jt, .int .i64 h.jf, .slice h.C h.cl h.cc] 47)) 0 0 25
  rw [World.size_alloc] at R
  have hb0 := ((Below.refl w.heap.size w).alloc (Nat.le_refl _) (.cells #[.int .i64 h.n, .slice h.R h.rl h.rc, .slice h.E h.el h.ec, .int .i64 h.ja, .int .i64 h.jt, .int .i64 h.jf, .slice h.C h.cl h.cc] 47)).alloc (by simp) (.cells #[.int .i64 0, .int .i64 0] 25)
  clear hA h1 h2 hB hL hu hF hwf hw3
  cases u with
  | false =>
    obtain ⟨rfl, rfl, rfl⟩ := HANS.out.no (fun k => (by have := HU.out.2 k.1; cases this))
    go_enter Try.func19, Try.ntmps19
    go_wp2_with fail
    refine (wtvalid_is bs l false n1 c1 n2 c2 A1 A2 HU.out HN1.out HN2.out HWF.out _ (HB.out.below hb0) (HL.out.below hb0)).mono ?_; rintro e w2 ⟨rfl, hb⟩
    replace Q := Q.below hb; replace R := R.below hb; replace hb0 := hb0.trans (hb.mono hb0.size)
    clear hb
    have r0 := R.at2.c0; have r1 := R.at2.c1; have rl := R.at2.lt; have rf0 := R.f0; have rf1 := R.f1
    go_wp2_with fail
    clear r0 r1 rl rf0 rf1
    have R2 := R.put 0 0
    have hB2 := (hb0.setCell (p := ⟨w.heap.size + 1, 0, none⟩) (show w.heap.size ≤ w.heap.size + 1 by omega) (.int .i64 0)).setCell (p := ⟨w.heap.size + 1, 1, none⟩) (show w.heap.size ≤ w.heap.size + 1 by omega) (.int .i64 0)
    have z0 := R2.at2.c0; have z1 := R2.at2.c1
    refine bodyPost_ret (v := .tuple #[.agg #[.int .i64 0, .int .i64 0], .int .i64 1]) (by simp [results, Try.results19, z0, z1, go_sem]) rfl ⟨rfl, hB2⟩
  | true =>
  have HV := Lib.hid (HU.out.1 rfl)
  have hn1 : n1 ≤ 4000 := by have := HV.out.1.2.1; have := HN1.out; omega
  by_cases m1 : h.n = (n1 : Int)
  case neg =>
    have m1' : (h.n != (n1 : Int)) = true := by simpa using m1
    have HM1 := Lib.hid m1
    obtain ⟨rfl, rfl, rfl⟩ := HANS.out.no (fun k => HM1.out (by have h3 := k.2.2.1; have h4 := HFN0.out; have := HN1.out; omega))
    clear m1
    go_enter Try.func19, Try.ntmps19
    go_wp2_with fail
    refine (wtvalid_is bs l true n1 c1 n2 c2 A1 A2 ⟨fun _ => HV.out, fun _ => rfl⟩ HN1.out HN2.out HWF.out _ (HB.out.below hb0) (HL.out.below hb0)).mono ?_; rintro e w2 ⟨rfl, hb⟩
    replace Q := Q.below hb; replace R := R.below hb; replace hb0 := hb0.trans (hb.mono hb0.size)
    clear hb
    have q0 := Q.c0; have q1 := Q.c1; have q2 := Q.c2; have q3 := Q.c3; have q4 := Q.c4; have q5 := Q.c5; have q6 := Q.c6; have ql := Q.lt
    have r0 := R.at2.c0; have r1 := R.at2.c1; have rl := R.at2.lt; have rf0 := R.f0; have rf1 := R.f1
    go_wp2_with fail
    clear q0 q1 q2 q3 q4 q5 q6 ql
    clear r0 r1 rl rf0 rf1
    have R2 := R.put 0 0
    have hB2 := (hb0.setCell (p := ⟨w.heap.size + 1, 0, none⟩) (show w.heap.size ≤ w.heap.size + 1 by omega) (.int .i64 0)).setCell (p := ⟨w.heap.size + 1, 1, none⟩) (show w.heap.size ≤ w.heap.size + 1 by omega) (.int .i64 0)
    have z0 := R2.at2.c0; have z1 := R2.at2.c1
    refine bodyPost_ret (v := .tuple #[.agg #[.int .i64 0, .int .i64 0], .int .i64 1]) (by simp [results, Try.results19, z0, z1, go_sem]) rfl ⟨rfl, hB2⟩
  case pos =>
  have m1' : (h.n != (n1 : Int)) = false := by simpa using m1
  have HM1 : Hid (f.n = (bs.length : Int)) := Lib.hid (by have h4 := HFN0.out; have := HN1.out; omega)
  clear m1
  by_cases hv : Fo.Val f
  case neg =>
    have HFN := Lib.hid hv
    obtain ⟨rfl, rfl, rfl⟩ := HANS.out.no (fun k => HFN.out k.2.1)
    clear hv
    go_enter Try.func19, Try.ntmps19
    go_wp2_with fail
    refine (wtvalid_is bs l true n1 c1 n2 c2 A1 A2 ⟨fun _ => HV.out, fun _ => rfl⟩ HN1.out HN2.out HWF.out _ (HB.out.below hb0) (HL.out.below hb0)).mono ?_; rintro e w2 ⟨rfl, hb⟩
    replace Q := Q.below hb; replace R := R.below hb; replace hb0 := hb0.trans (hb.mono hb0.size)
    clear hb
    have q0 := Q.c0; have q1 := Q.c1; have q2 := Q.c2; have q3 := Q.c3; have q4 := Q.c4; have q5 := Q.c5; have q6 := Q.c6; have ql := Q.lt
    go_wp2_with fail
    clear q0 q1 q2 q3 q4 q5 q6 ql
    refine (wUnfold_no h f HFN.out HW3.out _ (HF.out.below hb0)).mono ?_; rintro e w3 ⟨rfl, hb⟩
    replace Q := Q.below hb; replace R := R.below hb; replace hb0 := hb0.trans (hb.mono hb0.size)
    clear hb
    have r0 := R.at2.c0; have r1 := R.at2.c1; have rl := R.at2.lt; have rf0 := R.f0; have rf1 := R.f1
    go_wp2_with fail
    clear r0 r1 rl rf0 rf1
    have R2 := R.put 0 0
    have hB2 := (hb0.setCell (p := ⟨w.heap.size + 1, 0, none⟩) (show w.heap.size ≤ w.heap.size + 1 by omega) (.int .i64 0)).setCell (p := ⟨w.heap.size + 1, 1, none⟩) (show w.heap.size ≤ w.heap.size + 1 by omega) (.int .i64 0)
    have z0 := R2.at2.c0; have z1 := R2.at2.c1
    refine bodyPost_ret (v := .tuple #[.agg #[.int .i64 0, .int .i64 0], .int .i64 1]) (by simp [results, Try.results19, z0, z1, go_sem]) rfl ⟨rfl, hB2⟩
  case pos =>
  have HFV := Lib.hid hv
  clear hv
  obtain ⟨nv, hnv⟩ : ∃ n, (Fo.unf f).length = n := ⟨_, rfl⟩
  have hnvm : nv ≤ 20000 := by rw [← hnv]; exact Te.unf_most HFV.out
  have HNV := Lib.hid hnv
  clear hnv
  by_cases m2 : 0 ≤ a ∧ a ≤ b
  case neg =>
    have HM2 := Lib.hid m2
    obtain ⟨rfl, rfl, rfl⟩ := HANS.out.no (fun k => HM2.out ⟨k.2.2.2.1, k.2.2.2.2.1⟩)
    clear m2
    go_enter Try.func19, Try.ntmps19
    go_wp2_with fail
    refine (wtvalid_is bs l true n1 c1 n2 c2 A1 A2 ⟨fun _ => HV.out, fun _ => rfl⟩ HN1.out HN2.out HWF.out _ (HB.out.below hb0) (HL.out.below hb0)).mono ?_; rintro e w2 ⟨rfl, hb⟩
    replace Q := Q.below hb; replace R := R.below hb; replace hb0 := hb0.trans (hb.mono hb0.size)
    clear hb
    have q0 := Q.c0; have q1 := Q.c1; have q2 := Q.c2; have q3 := Q.c3; have q4 := Q.c4; have q5 := Q.c5; have q6 := Q.c6; have ql := Q.lt
    go_wp2_with fail
    clear q0 q1 q2 q3 q4 q5 q6 ql
    refine (wUnfold_is h f HFV.out HW3.out _ (HF.out.below hb0)).mono ?_; rintro e w3 ⟨hb, uv, rfl, OV⟩
    obtain ⟨-, VA, vc, rfl, LV, hVA⟩ := own_V OV
    have hvcap := own_Vc OV
    rw [HNV.out] at hvcap ⊢
    clear OV
    replace Q := Q.below hb; replace R := R.below hb; replace hb0 := hb0.trans (hb.mono hb0.size)
    clear hb
    have r0 := R.at2.c0; have r1 := R.at2.c1; have rl := R.at2.lt; have rf0 := R.f0; have rf1 := R.f1
    go_wp2_with fail
    refine (lbetween_is a 0 b false ⟨fun h => (by cases h), fun h => absurd h HM2.out⟩ _).mono ?_; rintro e w4 ⟨rfl, rfl⟩
    go_wp2_with fail
    clear r0 r1 rl rf0 rf1
    have R2 := R.put 0 0
    have hB2 := (hb0.setCell (p := ⟨w.heap.size + 1, 0, none⟩) (show w.heap.size ≤ w.heap.size + 1 by omega) (.int .i64 0)).setCell (p := ⟨w.heap.size + 1, 1, none⟩) (show w.heap.size ≤ w.heap.size + 1 by omega) (.int .i64 0)
    have z0 := R2.at2.c0; have z1 := R2.at2.c1
    refine bodyPost_ret (v := .tuple #[.agg #[.int .i64 0, .int .i64 0], .int .i64 1]) (by simp [results, Try.results19, z0, z1, go_sem]) rfl ⟨rfl, hB2⟩
  case pos =>
  obtain ⟨m2, m3⟩ := m2
  by_cases m4 : b ≤ (nv : Int)
  case neg =>
    have m4' : decide (b > (nv : Int)) = true := decide_eq_true (by omega)
    have m4'' : decide ((nv : Int) < b) = true := decide_eq_true (by omega)
    have HM4 := Lib.hid m4
    obtain ⟨rfl, rfl, rfl⟩ := HANS.out.no (fun k => HM4.out (by have := k.2.2.2.2.2; rw [HNV.out] at this; exact this))
    clear m4
    go_enter Try.func19, Try.ntmps19
    go_wp2_with fail
    refine (wtvalid_is bs l true n1 c1 n2 c2 A1 A2 ⟨fun _ => HV.out, fun _ => rfl⟩ HN1.out HN2.out HWF.out _ (HB.out.below hb0) (HL.out.below hb0)).mono ?_; rintro e w2 ⟨rfl, hb⟩
    replace Q := Q.below hb; replace R := R.below hb; replace hb0 := hb0.trans (hb.mono hb0.size)
    clear hb
    have q0 := Q.c0; have q1 := Q.c1; have q2 := Q.c2; have q3 := Q.c3; have q4 := Q.c4; have q5 := Q.c5; have q6 := Q.c6; have ql := Q.lt
    go_wp2_with fail
    clear q0 q1 q2 q3 q4 q5 q6 ql
    refine (wUnfold_is h f HFV.out HW3.out _ (HF.out.below hb0)).mono ?_; rintro e w3 ⟨hb, uv, rfl, OV⟩
    obtain ⟨-, VA, vc, rfl, LV, hVA⟩ := own_V OV
    have hvcap := own_Vc OV
    rw [HNV.out] at hvcap ⊢
    clear OV
    replace Q := Q.below hb; replace R := R.below hb; replace hb0 := hb0.trans (hb.mono hb0.size)
    clear hb
    have r0 := R.at2.c0; have r1 := R.at2.c1; have rl := R.at2.lt; have rf0 := R.f0; have rf1 := R.f1
    go_wp2_with fail
    refine (lbetween_is a 0 b true ⟨fun _ => ⟨m2, m3⟩, fun _ => rfl⟩ _).mono ?_; rintro e w4 ⟨rfl, rfl⟩
    go_wp2_with fail
    clear r0 r1 rl rf0 rf1
    have R2 := R.put 0 0
    have hB2 := (hb0.setCell (p := ⟨w.heap.size + 1, 0, none⟩) (show w.heap.size ≤ w.heap.size + 1 by omega) (.int .i64 0)).setCell (p := ⟨w.heap.size + 1, 1, none⟩) (show w.heap.size ≤ w.heap.size + 1 by omega) (.int .i64 0)
    have z0 := R2.at2.c0; have z1 := R2.at2.c1
    refine bodyPost_ret (v := .tuple #[.agg #[.int .i64 0, .int .i64 0], .int .i64 1]) (by simp [results, Try.results19, z0, z1, go_sem]) rfl ⟨rfl, hB2⟩
  case pos =>
  obtain ⟨i0, rfl⟩ := Int.eq_ofNat_of_zero_le m2
  obtain ⟨j0, rfl⟩ := Int.eq_ofNat_of_zero_le (Int.le_trans m2 m3)
  have hij : i0 ≤ j0 := by omega
  have hjn : j0 ≤ nv := by omega
  have hmk := HANS.out.ok ⟨HV.out, HFV.out, HM1.out, m2, m3, by rw [HNV.out]; exact m4⟩
  rw [Int.toNat_natCast, Int.toNat_natCast] at hmk
  have HSI := Lib.hid (Te.sub_in (Te.unf_inb HFV.out HM1.out) (i := i0) (m := j0 - i0) (by rw [HNV.out]; omega))
  have HSL := Lib.hid (Te.sub_len (vs := Fo.unf f) (i := i0) (m := j0 - i0) (by rw [HNV.out]; omega))
  obtain ⟨z, hz⟩ : ∃ z, Te.pre bs l (Fo.unf f) j0 - Te.pre bs l (Fo.unf f) i0 = z := ⟨_, rfl⟩
  rw [hz] at hmk
  have HSZ : Hid (Te.pre bs l (Te.sub (Fo.unf f) i0 (j0 - i0)) (j0 - i0) = z) := Lib.hid (by rw [Te.pre_sub (Nat.le_refl _), show i0 + (j0 - i0) = j0 by omega]; exact hz)
  have HMK := Lib.hid hmk
  have m4' : decide ((j0 : Int) > (nv : Int)) = false := decide_eq_false (by omega)
  have m4'' : decide (nv < j0) = false := decide_eq_false (by omega)
  clear m2 m3 m4 hmk hz
  by_cases m5 : i0 = j0
  case pos =>
    subst m5
    have HSE : Hid (Te.sub (Fo.unf f) i0 (i0 - i0) = []) := Lib.hid (List.length_eq_zero_iff.1 (by rw [HSL.out]; omega))
    rw [Nat.sub_self] at HSI HSL HSZ HSE
    go_enter Try.func19, Try.ntmps19
    go_wp2_with fail
    refine (wtvalid_is bs l true n1 c1 n2 c2 A1 A2 ⟨fun _ => HV.out, fun _ => rfl⟩ HN1.out HN2.out HWF.out _ (HB.out.below hb0) (HL.out.below hb0)).mono ?_; rintro e w2 ⟨rfl, hb⟩
    replace Q := Q.below hb; replace R := R.below hb; replace hb0 := hb0.trans (hb.mono hb0.size)
    clear hb
    have q0 := Q.c0; have q1 := Q.c1; have q2 := Q.c2; have q3 := Q.c3; have q4 := Q.c4; have q5 := Q.c5; have q6 := Q.c6; have ql := Q.lt
    go_wp2_with fail
    clear q0 q1 q2 q3 q4 q5 q6 ql
    refine (wUnfold_is h f HFV.out HW3.out _ (HF.out.below hb0)).mono ?_; rintro e w3 ⟨hb, uv, rfl, OV⟩
    obtain ⟨-, VA, vc, rfl, LV, hVA⟩ := own_V OV
    have hvcap := own_Vc OV
    rw [HNV.out] at hvcap ⊢
    clear OV
    replace Q := Q.below hb; replace R := R.below hb; replace hb0 := hb0.trans (hb.mono hb0.size)
    clear hb
    go_wp2_with fail
    refine (lbetween_is (i0 : Int) 0 (i0 : Int) true ⟨fun _ => by omega, fun _ => rfl⟩ _).mono ?_; rintro e w4 ⟨rfl, rfl⟩
    have hbw := hb0
    have K := Ck.new w4 A2 n2 c2 72
    have hal := (Below.refl w4.heap.size w4).alloc (Nat.le_refl _) (.cells #[.int .i64 0, .slice A2 n2 c2] 72)
    have hs3 := hb0.size; have hrw := R.at2.lt
    replace Q := Q.alloc (.cells #[.int .i64 0, .slice A2 n2 c2] 72); replace R := R.alloc (.cells #[.int .i64 0, .slice A2 n2 c2] 72); replace hb0 := hb0.alloc hb0.size (.cells #[.int .i64 0, .slice A2 n2 c2] 72)
    go_wp2_with fail
    all_goals
      refine (wwhole_is bs l HV.out _ HSI.out _ HSL.out (by omega) _ HSZ.out n1 c1 n2 c2 _ w4.heap.size A1 A2 _ HN1.out HN2.out w4 _ (HB.out.below hbw) (HL.out.below hbw) (by rw [HSE.out]; exact SlV.nil _ _) (Nat.le_refl _) hal K).mono ?_; rintro e w5 ⟨⟨_, rfl⟩, K2, hgr⟩
      replace R := R.blkT hgr.size (hgr.block _ R.at2.lt (by intro e8; have := Option.some.inj e8; omega))
      replace hb0 := hb0.grown hgr hb0.size (fun j hj => by have := Option.some.inj hj; omega)
      clear hgr K
      go_wp2_with fail
      refine (wcsec_is w4.heap.size _ N D E HMK.out _ K2.t).mono ?_; rintro e w6 ⟨rfl, hb⟩
      replace R := R.below hb; replace hb0 := hb0.trans (hb.mono hb0.size)
      clear hb
      have r0 := R.at2.c0; have r1 := R.at2.c1; have rl := R.at2.lt; have rf0 := R.f0; have rf1 := R.f1
      go_wp2_with fail
      clear r0 r1 rl rf0 rf1
      have R2 := R.put N D
      have hB2 := (hb0.setCell (p := ⟨w.heap.size + 1, 0, none⟩) (show w.heap.size ≤ w.heap.size + 1 by omega) (.int .i64 N)).setCell (p := ⟨w.heap.size + 1, 1, none⟩) (show w.heap.size ≤ w.heap.size + 1 by omega) (.int .i64 D)
      have z0 := R2.at2.c0; have z1 := R2.at2.c1
      refine bodyPost_ret (v := .tuple #[.agg #[.int .i64 N, .int .i64 D], .int .i64 E]) (by simp [results, Try.results19, z0, z1, go_sem]) rfl ⟨rfl, hB2⟩
  case neg =>
  have hlt : i0 < j0 := by omega
  go_enter Try.func19, Try.ntmps19
  go_wp2_with fail
  refine (wtvalid_is bs l true n1 c1 n2 c2 A1 A2 ⟨fun _ => HV.out, fun _ => rfl⟩ HN1.out HN2.out HWF.out _ (HB.out.below hb0) (HL.out.below hb0)).mono ?_; rintro e w2 ⟨rfl, hb⟩
  replace Q := Q.below hb; replace R := R.below hb; replace hb0 := hb0.trans (hb.mono hb0.size)
  clear hb
  have q0 := Q.c0; have q1 := Q.c1; have q2 := Q.c2; have q3 := Q.c3; have q4 := Q.c4; have q5 := Q.c5; have q6 := Q.c6; have ql := Q.lt
  go_wp2_with fail
  clear q0 q1 q2 q3 q4 q5 q6 ql
  refine (wUnfold_is h f HFV.out HW3.out _ (HF.out.below hb0)).mono ?_; rintro e w3 ⟨hb, uv, rfl, OV⟩
  obtain ⟨-, VA, vc, rfl, LV, hVA⟩ := own_V OV
  have hvcap := own_Vc OV
  rw [HNV.out] at hvcap ⊢
  clear OV
  replace Q := Q.below hb; replace R := R.below hb; replace hb0 := hb0.trans (hb.mono hb0.size)
  clear hb
  go_wp2_with fail
  refine (lbetween_is (i0 : Int) 0 (j0 : Int) true ⟨fun _ => by omega, fun _ => rfl⟩ _).mono ?_; rintro e w4 ⟨rfl, rfl⟩
  have hbw := hb0
  have K := Ck.new w4 A2 n2 c2 72
  have hal := (Below.refl w4.heap.size w4).alloc (Nat.le_refl _) (.cells #[.int .i64 0, .slice A2 n2 c2] 72)
  have hs3 := hb0.size; have hrw := R.at2.lt
  replace Q := Q.alloc (.cells #[.int .i64 0, .slice A2 n2 c2] 72); replace R := R.alloc (.cells #[.int .i64 0, .slice A2 n2 c2] 72); replace hb0 := hb0.alloc hb0.size (.cells #[.int .i64 0, .slice A2 n2 c2] 72)
  obtain ⟨vb, vo, rfl, hvb, hvc⟩ := LV (by rw [HNV.out]; omega)
  have hsub := SlV.sub (m := j0 - i0) (i := i0) (by rw [HNV.out]; omega) hvb hvc
  have hne5 : ¬ vc = i0 := by omega
  have hne6 : ¬ i0 = vc := by omega
  have HSUB := Lib.hid hsub
  clear hsub hvc
  go_wp2_with fail
  refine (wwhole_is bs l HV.out _ HSI.out _ HSL.out (by omega) _ HSZ.out n1 c1 n2 c2 _ w4.heap.size A1 A2 _ HN1.out HN2.out w4 _ (HB.out.below hbw) (HL.out.below hbw) HSUB.out (Nat.le_refl _) hal K).mono ?_; rintro e w5 ⟨⟨_, rfl⟩, K2, hgr⟩
  replace R := R.blkT hgr.size (hgr.block _ R.at2.lt (by intro e8; have := Option.some.inj e8; omega))
  replace hb0 := hb0.grown hgr hb0.size (fun j hj => by have := Option.some.inj hj; omega)
  clear hgr K
  go_wp2_with fail
  refine (wcsec_is w4.heap.size _ N D E HMK.out _ K2.t).mono ?_; rintro e w6 ⟨rfl, hb⟩
  replace R := R.below hb; replace hb0 := hb0.trans (hb.mono hb0.size)
  clear hb
  have r0 := R.at2.c0; have r1 := R.at2.c1; have rl := R.at2.lt; have rf0 := R.f0; have rf1 := R.f1
  go_wp2_with fail
  clear r0 r1 rl rf0 rf1
  have R2 := R.put N D
  have hB2 := (hb0.setCell (p := ⟨w.heap.size + 1, 0, none⟩) (show w.heap.size ≤ w.heap.size + 1 by omega) (.int .i64 N)).setCell (p := ⟨w.heap.size + 1, 1, none⟩) (show w.heap.size ≤ w.heap.size + 1 by omega) (.int .i64 D)
  have z0 := R2.at2.c0; have z1 := R2.at2.c1
  refine bodyPost_ret (v := .tuple #[.agg #[.int .i64 N, .int .i64 D], .int .i64 E]) (by simp [results, Try.results19, z0, z1, go_sem]) rfl ⟨rfl, hB2⟩
end Go.Proofs.Ytahdlkdiadlgeaa

/- The laws' rat and head. -/
namespace Go.Proofs.Ytahdlkdiadlgeaa
open Go.RowKit

theorem tx_wf : Mt.Wf txB := fun j hj => by
  have : j = 0 ∨ j = 1 ∨ j = 2 := by simp [txB] at hj; omega
  rcases this with rfl | rfl | rfl <;> exact ⟨by decide, by decide⟩
theorem lrat_is (n d : Int) (w : World) :
    Calls Try.prog 12 #[.int .i64 n, .int .i64 d] w fun e w' => e = .returned (.agg #[.int .i64 n, .int .i64 d]) ∧ Below w.heap.size w w' := by
  have G := (Below.refl w.heap.size w).alloc (Nat.le_refl _) (.cells #[.int .i64 n, .int .i64 d] 25)
  go_enter Try.func12, Try.ntmps12
  go_wp2_with fail
  exact bodyPost_ret (v := .agg #[.int .i64 n, .int .i64 d]) (by simp [results, Try.results12, go_sem]) rfl ⟨rfl, G⟩
theorem txT_sl2 {w : World} {b : Nat} (h : SlT w (some ⟨b, 0, none⟩) txT) : SlT w (some ⟨b, 3, none⟩) (txT.drop 1) := fun _ => by
  obtain ⟨g, o, e, hg, hc⟩ := h (by decide)
  cases e
  exact ⟨b, 3, rfl, hg, fun i hi => by
    have : i = 0 := by simp [txT] at hi; omega
    subst this
    have := hc 1 (by decide)
    exact this⟩
set_option maxRecDepth 100000 in
set_option maxHeartbeats 6400000 in
theorem head_any (w : World) :
    Calls Try.prog 8 #[] w fun e w' => e = .returned (.bool true) ∧ Below w.heap.size w w' := by
  have B := Below.refl w.heap.size w
  go_enter Try.func8, Try.ntmps8
  go_wp2_with fail
  refine (lrat_is 4 1 _).mono ?_; rintro e w1 ⟨rfl, hb⟩
  replace B := B.trans (hb.mono B.size); clear hb
  go_wp2_with fail
  refine (lrat_is 4 1 _).mono ?_; rintro e w2 ⟨rfl, hb⟩
  replace B := B.trans (hb.mono B.size); clear hb
  go_wp2_with fail
  refine (lrat_is 4 1 _).mono ?_; rintro e w3 ⟨rfl, hb⟩
  replace B := B.trans (hb.mono B.size); clear hb
  have SB := txB_sl w3
  replace B := B.alloc B.size (.cells #[.int .i64 3, .int .i64 4, .int .i64 1, .int .i64 0, .int .i64 1, .int .i64 4, .int .i64 1, .int .i64 0, .int .i64 2, .int .i64 4, .int .i64 1, .int .i64 0] 64)
  go_wp2_with fail
  refine (lrat_is 1 1 _).mono ?_; rintro e w4 ⟨rfl, hb⟩
  replace SB := SB.below hb; replace B := B.trans (hb.mono B.size); clear hb
  go_wp2_with fail
  refine (lrat_is 1 2 _).mono ?_; rintro e w5 ⟨rfl, hb⟩
  replace SB := SB.below hb; replace B := B.trans (hb.mono B.size); clear hb
  have ST := txT_sl w5
  replace SB := SB.alloc (.cells #[.int .i64 0, .int .i64 1, .int .i64 1, .int .i64 2, .int .i64 1, .int .i64 2] 38); replace B := B.alloc B.size (.cells #[.int .i64 0, .int .i64 1, .int .i64 1, .int .i64 2, .int .i64 1, .int .i64 2] 38)
  go_wp2_with fail
  refine (lrat_is 0 1 _).mono ?_; rintro e w6 ⟨rfl, hb⟩
  replace SB := SB.below hb; replace ST := ST.below hb; replace B := B.trans (hb.mono B.size); clear hb
  have Z := At2.new w6 0 1 25
  replace SB := SB.alloc (.cells #[.int .i64 0, .int .i64 1] 25); replace ST := ST.alloc (.cells #[.int .i64 0, .int .i64 1] 25); replace B := B.alloc B.size (.cells #[.int .i64 0, .int .i64 1] 25)
  have z0 := Z.c0; have z1 := Z.c1; have zl := Z.lt
  go_wp2_with fail
  clear z0 z1 zl
  refine (wSeconds_is txB txT 0 0 1 3 0 1 10 1 0 tx_s1 3 3 2 2 _ _ rfl rfl tx_wf _ SB ST).mono ?_; rintro e w7 ⟨rfl, hb⟩
  replace SB := SB.below hb; replace ST := ST.below hb; replace Z := Z.below hb; replace B := B.trans (hb.mono B.size); clear hb
  have RA := At2.new w7 10 1 25
  replace SB := SB.alloc (.cells #[.int .i64 10, .int .i64 1] 25); replace ST := ST.alloc (.cells #[.int .i64 10, .int .i64 1] 25); replace Z := Z.alloc (.cells #[.int .i64 10, .int .i64 1] 25); replace B := B.alloc B.size (.cells #[.int .i64 10, .int .i64 1] 25)
  have z0 := Z.c0; have z1 := Z.c1; have zl := Z.lt
  have ra0 := RA.c0; have ra1 := RA.c1; have ral := RA.lt
  go_wp2_with fail
  clear z0 z1 zl ra0 ra1 ral
  refine (lrat_is 3 1 _).mono ?_; rintro e w8 ⟨rfl, hb⟩
  replace SB := SB.below hb; replace ST := ST.below hb; replace Z := Z.below hb; replace RA := RA.below hb; replace B := B.trans (hb.mono B.size); clear hb
  have z0 := Z.c0; have z1 := Z.c1; have zl := Z.lt
  have ra0 := RA.c0; have ra1 := RA.c1; have ral := RA.lt
  go_wp2_with fail
  clear z0 z1 zl ra0 ra1 ral
  refine (lrat_is 1 1 _).mono ?_; rintro e w9 ⟨rfl, hb⟩
  replace SB := SB.below hb; replace ST := ST.below hb; replace Z := Z.below hb; replace RA := RA.below hb; replace B := B.trans (hb.mono B.size); clear hb
  have z0 := Z.c0; have z1 := Z.c1; have zl := Z.lt
  have ra0 := RA.c0; have ra1 := RA.c1; have ral := RA.lt
  go_wp2_with fail
  clear z0 z1 zl ra0 ra1 ral
  refine (wSeconds_is txB txT 1 3 1 2 1 1 3 2 0 tx_s2 3 3 2 2 _ _ rfl rfl tx_wf _ SB ST).mono ?_; rintro e w10 ⟨rfl, hb⟩
  replace SB := SB.below hb; replace ST := ST.below hb; replace Z := Z.below hb; replace RA := RA.below hb; replace B := B.trans (hb.mono B.size); clear hb
  have RB := At2.new w10 3 2 25
  replace SB := SB.alloc (.cells #[.int .i64 3, .int .i64 2] 25); replace ST := ST.alloc (.cells #[.int .i64 3, .int .i64 2] 25); replace Z := Z.alloc (.cells #[.int .i64 3, .int .i64 2] 25); replace RA := RA.alloc (.cells #[.int .i64 3, .int .i64 2] 25); replace B := B.alloc B.size (.cells #[.int .i64 3, .int .i64 2] 25)
  have SF := txF_sl (w10.alloc (.cells #[.int .i64 3, .int .i64 2] 25))
  rw [World.size_alloc] at SF
  replace SB := SB.alloc (.cells #[.int .i64 2, .int .i64 3, .int .i64 2] 66); replace ST := ST.alloc (.cells #[.int .i64 2, .int .i64 3, .int .i64 2] 66); replace Z := Z.alloc (.cells #[.int .i64 2, .int .i64 3, .int .i64 2] 66); replace RA := RA.alloc (.cells #[.int .i64 2, .int .i64 3, .int .i64 2] 66); replace RB := RB.alloc (.cells #[.int .i64 2, .int .i64 3, .int .i64 2] 66); replace B := B.alloc B.size (.cells #[.int .i64 2, .int .i64 3, .int .i64 2] 66)
  have z0 := Z.c0; have z1 := Z.c1; have zl := Z.lt
  have ra0 := RA.c0; have ra1 := RA.c1; have ral := RA.lt
  have rb0 := RB.c0; have rb1 := RB.c1; have rbl := RB.lt
  go_wp2_with fail
  clear z0 z1 zl ra0 ra1 ral rb0 rb1 rbl
  refine (wPlayed_is txB txT ⟨3, some ⟨w10.heap.size + 1, 0, none⟩, 1, 1, none, 0, 0, 0, 0, 0, none, 0, 0⟩ txF 0 4 12 1 0 tx_p 3 3 2 2 _ _ rfl rfl tx_wf (fun c hc => by cases hc) _ SB ST SF).mono ?_; rintro e w11 ⟨rfl, hb⟩
  replace SB := SB.below hb; replace ST := ST.below hb; replace Z := Z.below hb; replace RA := RA.below hb; replace RB := RB.below hb; replace SF := SF.below hb; replace B := B.trans (hb.mono B.size); clear hb
  clear SF
  have RC := At2.new w11 12 1 25
  replace SB := SB.alloc (.cells #[.int .i64 12, .int .i64 1] 25); replace ST := ST.alloc (.cells #[.int .i64 12, .int .i64 1] 25); replace Z := Z.alloc (.cells #[.int .i64 12, .int .i64 1] 25); replace RA := RA.alloc (.cells #[.int .i64 12, .int .i64 1] 25); replace RB := RB.alloc (.cells #[.int .i64 12, .int .i64 1] 25); replace B := B.alloc B.size (.cells #[.int .i64 12, .int .i64 1] 25)
  have z0 := Z.c0; have z1 := Z.c1; have zl := Z.lt
  have ra0 := RA.c0; have ra1 := RA.c1; have ral := RA.lt
  have rb0 := RB.c0; have rb1 := RB.c1; have rbl := RB.lt
  have rc0 := RC.c0; have rc1 := RC.c1; have rcl := RC.lt
  go_wp2_with fail
  clear z0 z1 zl ra0 ra1 ral rb0 rb1 rbl rc0 rc1 rcl
  refine (wAt_is txB txT 1 1 1 0 tx_a 3 3 2 2 _ _ rfl rfl tx_wf _ SB ST).mono ?_; rintro e w12 ⟨rfl, hb⟩
  replace SB := SB.below hb; replace ST := ST.below hb; replace Z := Z.below hb; replace RA := RA.below hb; replace RB := RB.below hb; replace RC := RC.below hb; replace B := B.trans (hb.mono B.size); clear hb
  have RD := At2.new w12 1 1 25
  replace SB := SB.alloc (.cells #[.int .i64 1, .int .i64 1] 25); replace ST := ST.alloc (.cells #[.int .i64 1, .int .i64 1] 25); replace Z := Z.alloc (.cells #[.int .i64 1, .int .i64 1] 25); replace RA := RA.alloc (.cells #[.int .i64 1, .int .i64 1] 25); replace RB := RB.alloc (.cells #[.int .i64 1, .int .i64 1] 25); replace RC := RC.alloc (.cells #[.int .i64 1, .int .i64 1] 25); replace B := B.alloc B.size (.cells #[.int .i64 1, .int .i64 1] 25)
  have z0 := Z.c0; have z1 := Z.c1; have zl := Z.lt
  have ra0 := RA.c0; have ra1 := RA.c1; have ral := RA.lt
  have rb0 := RB.c0; have rb1 := RB.c1; have rbl := RB.lt
  have rc0 := RC.c0; have rc1 := RC.c1; have rcl := RC.lt
  have rd0 := RD.c0; have rd1 := RD.c1; have rdl := RD.lt
  go_wp2_with fail
  clear z0 z1 zl ra0 ra1 ral rb0 rb1 rbl rc0 rc1 rcl rd0 rd1 rdl
  refine (wSeconds_is txB txT 3 0 1 0 0 1 0 0 1 tx_s3 3 3 2 2 _ _ rfl rfl tx_wf _ SB ST).mono ?_; rintro e w13 ⟨rfl, hb⟩
  replace SB := SB.below hb; replace ST := ST.below hb; replace Z := Z.below hb; replace RA := RA.below hb; replace RB := RB.below hb; replace RC := RC.below hb; replace RD := RD.below hb; replace B := B.trans (hb.mono B.size); clear hb
  replace SB := SB.alloc (.cells #[.int .i64 0, .int .i64 0] 25); replace ST := ST.alloc (.cells #[.int .i64 0, .int .i64 0] 25); replace Z := Z.alloc (.cells #[.int .i64 0, .int .i64 0] 25); replace RA := RA.alloc (.cells #[.int .i64 0, .int .i64 0] 25); replace RB := RB.alloc (.cells #[.int .i64 0, .int .i64 0] 25); replace RC := RC.alloc (.cells #[.int .i64 0, .int .i64 0] 25); replace RD := RD.alloc (.cells #[.int .i64 0, .int .i64 0] 25); replace B := B.alloc B.size (.cells #[.int .i64 0, .int .i64 0] 25)
  clear Z
  go_wp2_with fail
  obtain ⟨wr, hwr⟩ : ∃ x, w13.alloc (.cells #[.int .i64 0, .int .i64 0] 25) = x := ⟨_, rfl⟩
  rw [hwr] at B SB ST RA RB RC RD
  try rw [hwr]
  clear hwr
  have hne := Ext.there wr
  have ra0 := fun x : Ext wr => x.cell RA.c0; have ra1 := fun x : Ext wr => x.cell RA.c1
  have rb0 := fun x : Ext wr => x.cell RB.c0; have rb1 := fun x : Ext wr => x.cell RB.c1
  have rc0 := fun x : Ext wr => x.cell RC.c0; have rc1 := fun x : Ext wr => x.cell RC.c1
  have rd0 := fun x : Ext wr => x.cell RD.c0; have rd1 := fun x : Ext wr => x.cell RD.c1
  have HV1 := fun y : Ext wr => wtvalid_is txB txT true 3 3 2 2 _ _ ⟨fun _ => tx_val, fun _ => rfl⟩ rfl rfl tx_wf y.w (SB.below y.h) (ST.below y.h)
  have HV2 := fun y : Ext wr => wtvalid_is txB (txT.drop 1) false 3 3 1 1 _ _ ⟨fun h => (by cases h), fun k => absurd k tx_no⟩ rfl rfl tx_wf y.w (SB.below y.h) (txT_sl2 (ST.below y.h))
  refine Ext.region (by kernel_rfl) (by kernel_rfl) ?_
  repeat (go_big_quiet_step (first | (go_at_call 12; exact Ext.call _ (lrat_is _ _ _)) | (go_at_call 24; first | (with_reducible exact Ext.call _ (HV1 _)) | (with_reducible exact Ext.call _ (HV2 _)))))
  refine wpQuiet_nil ?_
  rintro _ ⟨xw, rfl⟩
  have B1 := B.trans (xw.h.mono B.size)
  clear hne HV1 HV2 ra0 ra1 rb0 rb1 rc0 rc1 rd0 rd1
  generalize xw.w = w30 at *
  clear xw
  go_wp2_with fail
  go_ret
  exact ⟨rfl, B1⟩
end Go.Proofs.Ytahdlkdiadlgeaa

/- Ratios and positions compared. -/
namespace Go.Proofs.Ytahdlkdiadlgeaa
open Go.RowKit

set_option maxRecDepth 100000 in
theorem eqRat (a b c d : Int) (w : World) : (Go.Op.equalIn 9999 25 (.agg #[.int .i64 a, .int .i64 b]) (.agg #[.int .i64 c, .int .i64 d])).run Try.prog w = .ok (a == c && b == d) w := by
  rw [run_equalIn_struct w 9998 25 _ _ (by kernel_rfl) (by kernel_rfl)]
  have p1 : (part 3 #[.int .i64 a, .int .i64 b] 0).run Try.prog w = .ok (.int .i64 a) w := run_part_plain w (by kernel_rfl) rfl
  have p2 : (part 3 #[.int .i64 c, .int .i64 d] 0).run Try.prog w = .ok (.int .i64 c) w := run_part_plain w (by kernel_rfl) rfl
  have p3 : (part 3 #[.int .i64 a, .int .i64 b] 1).run Try.prog w = .ok (.int .i64 b) w := run_part_plain w (by kernel_rfl) rfl
  have p4 : (part 3 #[.int .i64 c, .int .i64 d] 1).run Try.prog w = .ok (.int .i64 d) w := run_part_plain w (by kernel_rfl) rfl
  have q1 := run_equalIn_int w 9997 3 .i64 .i64 a c Try.underlying3
  have q2 := run_equalIn_int w 9997 3 .i64 .i64 b d Try.underlying3
  have hm : (Try.prog.fieldsOf 25).toList.map (fun f => (f.name, f.type, f.offset)) = [("N", 3, 0), ("D", 3, 1)] := by kernel_rfl
  generalize (Try.prog.fieldsOf 25).toList = L at hm ⊢
  rcases L with _ | ⟨f1, _ | ⟨f2, _ | ⟨f3, L⟩⟩⟩ <;> simp only [List.map_cons, List.map_nil, List.cons.injEq, Prod.mk.injEq, and_true, reduceCtorEq, and_false] at hm
  obtain ⟨⟨n1, t1, o1⟩, n2, t2, o2⟩ := hm
  replace n1 : f1.name ≠ "_" := by rw [n1]; decide
  replace n2 : f2.name ≠ "_" := by rw [n2]; decide
  unfold Op.eqFields
  rw [if_pos n1, t1, o1]
  simp only [Sem.run_bind, p1, p2, q1, Result.andThen_ok]
  cases (a == c)
  · simp
  · simp only [Bool.not_true, Bool.false_eq_true, if_false, Bool.true_and]
    unfold Op.eqFields
    rw [if_pos n2, t2, o2]
    simp only [Sem.run_bind, p3, p4, q2, Result.andThen_ok]
    cases (b == d) <;> simp [Op.eqFields]
theorem part_rat (l : Array Value) (off : Nat) (x y : Int) (w : World) (h : l.extract off (off + 2) = #[.int .i64 x, .int .i64 y]) : (part 25 l off).run Try.prog w = .ok (.agg #[.int .i64 x, .int .i64 y]) w := by
  have a := Try.isAgg25 w
  unfold part
  simp [Sem.run_bind, a, h]
set_option maxRecDepth 100000 in
theorem eqRatT (a b c d : Int) (g : Bool) (h : g = true ↔ a = c ∧ b = d) (w : World) : (Go.Op.equalIn 10000 25 (.agg #[.int .i64 a, .int .i64 b]) (.agg #[.int .i64 c, .int .i64 d])).run Try.prog w = .ok g w := by
  have hg : g = ((a == c) && ((b == d) && true)) := by
    rw [Bool.eq_iff_iff, h]
    simp only [Bool.and_eq_true, beq_iff_eq, and_true]
  rw [hg, run_equalIn_struct w 9999 25 _ _ (by kernel_rfl) (by kernel_rfl)]
  have hm : (Try.prog.fieldsOf 25).toList.map (fun f => (f.name, f.type, f.offset)) = [("N", 3, 0), ("D", 3, 1)] := by kernel_rfl
  generalize (Try.prog.fieldsOf 25).toList = L at hm ⊢
  rcases L with _ | ⟨f1, _ | ⟨f2, _ | ⟨f3, L⟩⟩⟩ <;> simp only [List.map_cons, List.map_nil, List.cons.injEq, Prod.mk.injEq, and_true, reduceCtorEq, and_false] at hm
  obtain ⟨⟨n1, t1, o1⟩, n2, t2, o2⟩ := hm
  refine eqFT (by rw [n1]; decide) (u := .int .i64 a) (v := .int .i64 c) (by rw [t1, o1]; exact run_part_plain w (by kernel_rfl) rfl) (by rw [t1, o1]; exact run_part_plain w (by kernel_rfl) rfl) (by rw [t1]; exact run_equalIn_int w 9998 3 .i64 .i64 a c Try.underlying3) ?_
  refine eqFT (by rw [n2]; decide) (u := .int .i64 b) (v := .int .i64 d) (by rw [t2, o2]; exact run_part_plain w (by kernel_rfl) rfl) (by rw [t2, o2]; exact run_part_plain w (by kernel_rfl) rfl) (by rw [t2]; exact run_equalIn_int w 9998 3 .i64 .i64 b d Try.underlying3) ?_
  rfl
set_option maxRecDepth 100000 in
theorem eqPosT (a n d a' n' d' : Int) (g : Bool) (h : g = true ↔ a = a' ∧ n = n' ∧ d = d') (w : World) : (Go.Op.equalIn 10000 27 (.agg #[.int .i64 a, .int .i64 n, .int .i64 d]) (.agg #[.int .i64 a', .int .i64 n', .int .i64 d'])).run Try.prog w = .ok g w := by
  have hg : g = ((a == a') && ((n == n' && d == d') && true)) := by
    rw [Bool.eq_iff_iff, h]
    simp only [Bool.and_eq_true, beq_iff_eq, and_true]
  have q1 := eqRat n d n' d' w
  rw [hg, run_equalIn_struct w 9999 27 _ _ (by kernel_rfl) (by kernel_rfl)]
  have hm : (Try.prog.fieldsOf 27).toList.map (fun f => (f.name, f.type, f.offset)) = [("Bar", 3, 0), ("At", 25, 1)] := by kernel_rfl
  generalize (Try.prog.fieldsOf 27).toList = L at hm ⊢
  rcases L with _ | ⟨f1, _ | ⟨f2, _ | ⟨f3, L⟩⟩⟩ <;> simp only [List.map_cons, List.map_nil, List.cons.injEq, Prod.mk.injEq, and_true, reduceCtorEq, and_false] at hm
  obtain ⟨⟨n1, t1, o1⟩, n2, t2, o2⟩ := hm
  refine eqFT (by rw [n1]; decide) (u := .int .i64 a) (v := .int .i64 a') (by rw [t1, o1]; exact run_part_plain w (by kernel_rfl) rfl) (by rw [t1, o1]; exact run_part_plain w (by kernel_rfl) rfl) (by rw [t1]; exact run_equalIn_int w 9998 3 .i64 .i64 a a' Try.underlying3) ?_
  refine eqFT (by rw [n2]; decide) (u := .agg #[.int .i64 n, .int .i64 d]) (v := .agg #[.int .i64 n', .int .i64 d']) (by rw [t2, o2]; exact part_rat #[.int .i64 a, .int .i64 n, .int .i64 d] 1 n d w rfl) (by rw [t2, o2]; exact part_rat #[.int .i64 a', .int .i64 n', .int .i64 d'] 1 n' d' w rfl) (by rw [t2]; exact q1) ?_
  rfl
end Go.Proofs.Ytahdlkdiadlgeaa

/- Mathematics of the laws of tempo: times add up, later positions take longer. -/
namespace Go.Proofs.Ytahdlkdiadlgeaa
namespace Te
open Fo (T3 at3)
theorem takes_mk {n : Int} (h : -1000000000000000 ≤ n ∧ n ≤ 1000000000000000) : Rt.takes n 100800 = true := by
  unfold Rt.takes
  simp
  omega
/-- What Make answers of so many 100800ths. -/
theorem mk_ok {n N D : Int} (h : -1000000000000000 ≤ n ∧ n ≤ 1000000000000000) (hm : Rt.makeR n 100800 = (N, D, 0)) : Rt.vld N D = true ∧ N * 100800 = D * n ∧ 1 ≤ D := by
  rw [Rt.make_ok (takes_mk h)] at hm
  simp only [Prod.mk.injEq] at hm
  obtain ⟨h1, h2, h3⟩ := hm
  obtain ⟨-, h5, h6, -, -⟩ := Rt.red_ok h3
  rw [h1, h2] at h5 h6
  exact ⟨h5, h6, (Rt.vld_lim h5).2.2.1⟩
theorem mk_e {n N D E : Int} (h : -1000000000000000 ≤ n ∧ n ≤ 1000000000000000) (hm : Rt.makeR n 100800 = (N, D, E)) : E = 0 ∨ (E = 3 ∧ N = 0 ∧ D = 0) := by
  rw [Rt.make_ok (takes_mk h)] at hm
  simp only [Prod.mk.injEq] at hm
  obtain ⟨h1, h2, h3⟩ := hm
  rcases Rt.redE_cases n 100800 with h4 | h4 | h4
  · exact .inl (by omega)
  · exact absurd (Rt.redE_one.1 h4) (by decide)
  · have h5 := Rt.red_err (n := n) (d := 100800) (by omega)
    exact .inr ⟨by omega, by omega, by omega⟩
theorem mk_zero : Rt.makeR 0 100800 = (0, 1, 0) := by decide +kernel
theorem mk_add {n m a b c d x y : Int} (hn : -400000000000000 ≤ n ∧ n ≤ 400000000000000) (hm : -400000000000000 ≤ m ∧ m ≤ 400000000000000) (h1 : Rt.makeR n 100800 = (a, b, 0)) (h2 : Rt.makeR m 100800 = (c, d, 0)) (h3 : Rt.makeR (n + m) 100800 = (x, y, 0)) : Rt.addR a b c d = (x, y, 0) := by
  obtain ⟨v1, e1, p1⟩ := mk_ok (by omega) h1
  obtain ⟨v2, e2, p2⟩ := mk_ok (by omega) h2
  obtain ⟨v3, e3, p3⟩ := mk_ok (by omega) h3
  refine Rt.add_of v1 v2 v3 ?_
  refine Int.eq_of_mul_eq_mul_right (show (100800 : Int) ≠ 0 by decide) ?_
  grind
theorem mk_sign {n N D : Int} (h : -1000000000000000 ≤ n ∧ n ≤ 1000000000000000) (hm : Rt.makeR n 100800 = (N, D, 0)) (h0 : 0 ≤ n) : 0 ≤ N ∧ (N = 0 ↔ n = 0) := by
  obtain ⟨v, e, p⟩ := mk_ok h hm
  have h1 : 0 ≤ D * n := Int.mul_nonneg (by omega) h0
  refine ⟨by omega, fun hN => ?_, fun hn => ?_⟩
  · subst hN
    rcases Int.mul_eq_zero.1 (show D * n = 0 by omega) with h | h
    · omega
    · exact h
  · subst hn
    simp at e
    omega
/-! ### positions -/
theorem pos_lt {bs : List Mt.B} {b n d : Int} (h : Mt.posB bs b n d = true) : 0 ≤ b ∧ b.toNat ≤ bs.length ∧ 0 ≤ Mt.tk n d ∧ (b.toNat = bs.length → Mt.tk n d = 0) ∧ (b.toNat < bs.length → Mt.tk n d < Mt.bt (atB bs b.toNat)) := by
  obtain ⟨h0, h1, h2, h3, h4⟩ := Mt.posB_iff.1 h
  exact ⟨h0, h1, h2, h3, fun k => by rw [atB_eq k]; exact h4 k⟩
theorem bef_irr (a n d : Int) : ¬ Bef a n d a n d := fun h => by
  rcases h with h | ⟨_, h⟩ <;> omega
theorem bef_same {bs : List Mt.B} {a an ad b bn bd : Int} (hp : Mt.posB bs a an ad = true) (_hq : Mt.posB bs b bn bd = true) (h1 : ¬ Bef a an ad b bn bd) (h2 : ¬ Bef b bn bd a an ad) : a = b ∧ an = bn ∧ ad = bd := by
  unfold Bef at h1 h2
  have e1 : a = b := by omega
  have e2 : Mt.tk an ad = Mt.tk bn bd := by omega
  have t1 := (pos_lt hp).2.2.1
  obtain ⟨x1, x2⟩ := Mt.of_tk (n := an) (d := ad) (by omega)
  obtain ⟨y1, y2⟩ := Mt.of_tk (n := bn) (d := bd) (by omega)
  rw [e2] at x1 x2
  exact ⟨e1, by rw [← x1, y1], by rw [← x2, y2]⟩
theorem bef_trans {a an ad b bn bd c cn cd : Int} (h1 : ¬ Bef b bn bd a an ad) (h2 : ¬ Bef c cn cd b bn bd) : ¬ Bef c cn cd a an ad := by
  unfold Bef at *
  omega
theorem tm_r {bs : List Mt.B} {l : List T3} (V : Val bs l) {a n d : Int} (hp : Mt.posB bs a n d = true) : 0 ≤ tm bs l a.toNat (Mt.tk n d) ∧ tm bs l a.toNat (Mt.tk n d) ≤ 100000000000 := by
  obtain ⟨h0, h1, h2, h3, h4⟩ := pos_lt hp
  have h5 := cum_mono V (i := 0) (k := a.toNat) (by omega)
  rw [Nat.zero_add, show cum bs l 0 = 0 from rfl] at h5
  have h6 := V.1.2.1
  unfold tm
  by_cases h7 : a.toNat < bs.length
  · rw [if_pos h7]
    have h8 := bt_r V.1 h7
    have h9 := V.2.sb_r ((a.toNat : Nat) : Int)
    have h10 := mul_r (a := Mt.tk n d) (b := sb l ((a.toNat : Nat) : Int)) (A := 40320) (B := 600) h2 (by have := h4 h7; omega) (by omega) h9.2
    omega
  · rw [if_neg h7]
    omega
theorem tm_lt {bs : List Mt.B} {l : List T3} (V : Val bs l) {a an ad b bn bd : Int} (hp : Mt.posB bs a an ad = true) (hq : Mt.posB bs b bn bd = true) (h : Bef a an ad b bn bd) : tm bs l a.toNat (Mt.tk an ad) < tm bs l b.toNat (Mt.tk bn bd) := by
  obtain ⟨p0, p1, p2, p3, p4⟩ := pos_lt hp
  obtain ⟨q0, q1, q2, q3, q4⟩ := pos_lt hq
  have hs : ∀ i : Nat, 1 ≤ sb l (i : Int) ∧ sb l (i : Int) ≤ 600 := fun i => V.2.sb_r _
  rcases h with h | ⟨h, ht⟩
  · have h7 : a.toNat < bs.length := by omega
    unfold tm
    rw [if_pos h7]
    obtain ⟨k, hk⟩ : ∃ k, b.toNat = (a.toNat + 1) + k := ⟨b.toNat - (a.toNat + 1), by omega⟩
    have h8 := (cum_mono V (i := a.toNat + 1) (k := k) (by omega)).1
    rw [← hk, cum_succ] at h8
    have h9 : Mt.tk an ad * sb l ((a.toNat : Nat) : Int) < Mt.bt (atB bs a.toNat) * sb l ((a.toNat : Nat) : Int) := Int.mul_lt_mul_of_pos_right (p4 h7) (by have := hs a.toNat; omega)
    have h10 : 0 ≤ (if b.toNat < bs.length then Mt.tk bn bd * sb l ((b.toNat : Nat) : Int) else 0) := by
      split
      · exact Int.mul_nonneg q2 (by have := hs b.toNat; omega)
      · exact Int.le_refl _
    omega
  · subst h
    have h7 : a.toNat < bs.length := by
      rcases Nat.lt_or_ge a.toNat bs.length with h | h
      · exact h
      · have := q3 (by omega)
        omega
    unfold tm
    rw [if_pos h7, if_pos h7]
    have h9 : Mt.tk an ad * sb l ((a.toNat : Nat) : Int) < Mt.tk bn bd * sb l ((a.toNat : Nat) : Int) := Int.mul_lt_mul_of_pos_right ht (by have := hs a.toNat; omega)
    omega
theorem tm_le {bs : List Mt.B} {l : List T3} (V : Val bs l) {a an ad b bn bd : Int} (hp : Mt.posB bs a an ad = true) (hq : Mt.posB bs b bn bd = true) (h : ¬ Bef b bn bd a an ad) : tm bs l a.toNat (Mt.tk an ad) ≤ tm bs l b.toNat (Mt.tk bn bd) := by
  by_cases h1 : Bef a an ad b bn bd
  · exact Int.le_of_lt (tm_lt V hp hq h1)
  · obtain ⟨rfl, rfl, rfl⟩ := bef_same hp hq h1 h
    exact Int.le_refl _
end Te
end Go.Proofs.Ytahdlkdiadlgeaa

/- The laws' usable; what Seconds answers of positions that are right. -/
namespace Go.Proofs.Ytahdlkdiadlgeaa
open Go.RowKit

def useT (bs : List Mt.B) (l : List Fo.T3) (n1 n2 : Nat) : Prop := n1 ≤ 40 ∧ n2 ≤ 60 ∧ Te.Val bs l
set_option maxHeartbeats 800000 in
theorem lusable_is (bs : List Mt.B) (l : List Fo.T3) (r : Bool) (n1 c1 n2 c2 : Nat) (A1 A2 : Option Addr) (hr : r = true ↔ useT bs l n1 n2) (h1 : bs.length = n1) (h2 : l.length = n2) (w : World) (hB : SlB w A1 bs) (hL : SlT w A2 l) :
    Calls Try.prog 9 #[.slice A1 n1 c1, .slice A2 n2 c2] w fun e w' => e = .returned (.bool r) ∧ Below w.heap.size w w' := by
  have HN1 := Lib.hid h1; have HN2 := Lib.hid h2; have HB := Lib.hid hB; have HL := Lib.hid hL; have HR := Lib.hid hr
  clear h1 h2 hB hL hr
  by_cases m1 : (n1 : Int) ≤ 40
  case neg =>
    have m1n : ¬ n1 ≤ 40 := by omega
    obtain rfl : r = false := by
      cases r with
      | false => rfl
      | true => exact absurd (HR.out.1 rfl).1 m1n
    go_enter Try.func9, Try.ntmps9
    go_wp2_with fail
    go_ret
    exact ⟨rfl, Below.refl _ _⟩
  case pos =>
  have m1n : n1 ≤ 40 := by omega
  by_cases m2 : (n2 : Int) ≤ 60
  case neg =>
    have m2n : ¬ n2 ≤ 60 := by omega
    obtain rfl : r = false := by
      cases r with
      | false => rfl
      | true => exact absurd (HR.out.1 rfl).2.1 m2n
    go_enter Try.func9, Try.ntmps9
    go_wp2_with fail
    go_ret
    exact ⟨rfl, Below.refl _ _⟩
  case pos =>
  have m2n : n2 ≤ 60 := by omega
  have HV : Hid (r = true ↔ Te.Val bs l) := Lib.hid (HR.out.trans ⟨fun k => k.2.2, fun k => ⟨by omega, by omega, k⟩⟩)
  go_enter Try.func9, Try.ntmps9
  go_wp2_with fail
  refine (rtvalid_is bs l r n1 c1 n2 c2 A1 A2 HV.out HN1.out HN2.out _ HB.out HL.out).mono ?_; rintro e w2 ⟨rfl, hb⟩
  go_wp2_with fail
  go_ret
  exact ⟨by first | rfl | simp, hb⟩
namespace Te
theorem sec_self {bs : List Mt.B} {l : List Fo.T3} (V : Val bs l) {a n d : Int} (hp : Mt.posB bs a n d = true) : SecA bs l a n d a n d 0 1 0 :=
  ⟨fun _ => by rw [Int.sub_self]; exact mk_zero, fun k => absurd ⟨V, hp, hp, bef_irr a n d⟩ k⟩
theorem sec_yes {bs : List Mt.B} {l : List Fo.T3} (V : Val bs l) {a an ad b bn bd N D E : Int} (hp : Mt.posB bs a an ad = true) (hq : Mt.posB bs b bn bd = true) (A : SecA bs l a an ad b bn bd N D E) (h : ¬ Bef b bn bd a an ad) : Rt.makeR (tm bs l b.toNat (Mt.tk bn bd) - tm bs l a.toNat (Mt.tk an ad)) 100800 = (N, D, E) ∧ 0 ≤ tm bs l b.toNat (Mt.tk bn bd) - tm bs l a.toNat (Mt.tk an ad) ∧ tm bs l b.toNat (Mt.tk bn bd) - tm bs l a.toNat (Mt.tk an ad) ≤ 100000000000 ∧ (E = 0 ∨ (E = 3 ∧ N = 0 ∧ D = 0)) := by
  have h1 := A.ok ⟨V, hp, hq, h⟩
  have h2 := tm_le V hp hq h
  have h3 := tm_r V hp
  have h4 := tm_r V hq
  exact ⟨h1, by omega, by omega, mk_e (by omega) h1⟩
theorem sec_e {bs : List Mt.B} {l : List Fo.T3} (V : Val bs l) {a an ad b bn bd N D E : Int} (hp : Mt.posB bs a an ad = true) (hq : Mt.posB bs b bn bd = true) (A : SecA bs l a an ad b bn bd N D E) : (E = 0 ∧ ¬ Bef b bn bd a an ad) ∨ (E = 3 ∧ ¬ Bef b bn bd a an ad) ∨ (E = 1 ∧ Bef b bn bd a an ad) := by
  by_cases h : Bef b bn bd a an ad
  · exact .inr (.inr ⟨(A.no (fun k => k.2.2.2 h)).2.2, h⟩)
  · rcases (sec_yes V hp hq A h).2.2.2 with h1 | h1
    · exact .inl ⟨h1, h⟩
    · exact .inr (.inl ⟨h1.1, h⟩)
/-- The parts' sum, and its sign. -/
theorem parts {bs : List Mt.B} {l : List Fo.T3} (V : Val bs l) {a an ad b bn bd c cn cd N1 D1 N2 D2 N3 D3 : Int} (hp : Mt.posB bs a an ad = true) (hq : Mt.posB bs b bn bd = true) (hr : Mt.posB bs c cn cd = true)
    (A1 : SecA bs l a an ad b bn bd N1 D1 0) (A2 : SecA bs l b bn bd c cn cd N2 D2 0) (A3 : SecA bs l a an ad c cn cd N3 D3 0) (h1 : ¬ Bef b bn bd a an ad) (h2 : ¬ Bef c cn cd b bn bd) : Rt.addR N1 D1 N2 D2 = (N3, D3, 0) := by
  obtain ⟨e1, x1, y1, _⟩ := sec_yes V hp hq A1 h1
  obtain ⟨e2, x2, y2, _⟩ := sec_yes V hq hr A2 h2
  obtain ⟨e3, x3, y3, _⟩ := sec_yes V hp hr A3 (bef_trans h1 h2)
  refine mk_add (by omega) (by omega) e1 e2 ?_
  rw [← e3]
  congr 1
  omega
theorem sec_sign {bs : List Mt.B} {l : List Fo.T3} (V : Val bs l) {a an ad b bn bd N D : Int} (hp : Mt.posB bs a an ad = true) (hq : Mt.posB bs b bn bd = true) (A : SecA bs l a an ad b bn bd N D 0) (h : ¬ Bef b bn bd a an ad) : 0 ≤ N ∧ (N = 0 ↔ a = b ∧ an = bn ∧ ad = bd) := by
  obtain ⟨e1, x1, y1, _⟩ := sec_yes V hp hq A h
  obtain ⟨s1, s2⟩ := mk_sign (by omega) e1 x1
  refine ⟨s1, s2.trans ⟨fun h0 => ?_, ?_⟩⟩
  · refine bef_same hp hq (fun k => ?_) h
    have := tm_lt V hp hq k
    omega
  · rintro ⟨rfl, rfl, rfl⟩
    exact Int.sub_self _
theorem sec_back {bs : List Mt.B} {l : List Fo.T3} (V : Val bs l) {a an ad b bn bd N D E : Int} (hp : Mt.posB bs a an ad = true) (hq : Mt.posB bs b bn bd = true) (A : SecA bs l b bn bd a an ad N D E) (h : ¬ Bef b bn bd a an ad) : (E = 0 ∧ a = b ∧ an = bn ∧ ad = bd) ∨ (E = 1 ∧ ¬ (a = b ∧ an = bn ∧ ad = bd)) := by
  by_cases h1 : Bef a an ad b bn bd
  · refine .inr ⟨(A.no (fun k => k.2.2.2 h1)).2.2, ?_⟩
    rintro ⟨rfl, rfl, rfl⟩
    exact h h1
  · obtain ⟨rfl, rfl, rfl⟩ := bef_same hp hq h1 h
    refine .inl ⟨?_, rfl, rfl, rfl⟩
    have e := A.ok ⟨V, hp, hp, h⟩
    rw [Int.sub_self, mk_zero] at e
    simp only [Prod.mk.injEq] at e
    exact e.2.2.symm
end Te
end Go.Proofs.Ytahdlkdiadlgeaa
