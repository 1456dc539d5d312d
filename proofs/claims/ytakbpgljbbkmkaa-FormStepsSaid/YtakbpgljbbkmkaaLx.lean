/- The walk of the laws' follows. -/
import Derived.Test.YtakbpgljbbkmkaaLv
namespace Go.Proofs.Ytakbpgljbbkmkaa
open Go.RowKit

set_option maxRecDepth 100000 in
set_option maxHeartbeats 12800000 in
theorem lfollows_is (h : FH) (f : Fo.Fm) (V : Fo.Val f) (a b : Int) (hst : Fo.Stp f a b) (ha : 0 ≤ a ∧ a < 4000) (hbb : 0 ≤ b ∧ b < 4000) (w : World) (hS : SlF w h f) :
    Calls Try.prog 26 #[.agg #[.int .i64 h.n, .slice h.R h.rl h.rc, .slice h.E h.el h.ec, .int .i64 h.ja, .int .i64 h.jt, .int .i64 h.jf, .slice h.C h.cl h.cc], .int .i64 a, .int .i64 b] w fun e w' => e = .returned (.bool true) ∧ Below w.heap.size w w' := by
  have HS := Lib.hid hS
  have HST := Lib.hid hst
  have HN : Hid (f.rs.length = h.rl) := Lib.hid hS.rl
  have hrl : h.rl ≤ 100 := by rw [← hS.rl]; exact V.rl
  have HEL : Hid (h.el ≤ 100) := Lib.hid (by rw [← hS.el]; exact V.el)
  have HRB : Hid (∀ x ∈ f.rs, 0 ≤ x.a ∧ x.a < x.b ∧ x.b ≤ 4000) := Lib.hid (fun x hx => by have := Fo.chR_all (Int.le_refl 0) V.rs x hx; have := V.n; omega)
  have HJB : Hid (h.ja ≤ 4000 ∧ 0 ≤ h.jt ∧ h.jt ≤ 4000) := Lib.hid (by
    have hj := V.j
    have hn := V.n
    unfold Fo.okJ at hj
    rw [← hS.ja, ← hS.jt]
    omega)
  have Q := FB.new w h
  have B := (Below.refl w.heap.size w).alloc (Nat.le_refl _) (.cells #[.int .i64 h.n, .slice h.R h.rl h.rc, .slice h.E h.el h.ec, .int .i64 h.ja, .int .i64 h.jt, .int .i64 h.jf, .slice h.C h.cl h.cc] 28)
  obtain ⟨ha0, ha1⟩ := ha
  obtain ⟨hb0, hb1⟩ := hbb
  clear hS hst V
  go_enter Try.func26, Try.ntmps26
  by_cases hab : a < b
  case pos =>
    obtain ⟨r1, hr1⟩ : ∃ r : Bool, r = true ↔ Fo.Skp f.es (a + 1) b := ⟨@decide _ (Classical.propDecidable _), @decide_eq_true_iff _ (Classical.propDecidable _)⟩
    have HR1 := Lib.hid hr1
    clear hr1
    have q0 := Q.c0; have q1 := Q.c1; have q2 := Q.c2; have q3 := Q.c3; have q4 := Q.c4; have q5 := Q.c5; have q6 := Q.c6; have ql := Q.lt
    go_wp2_with fail
    clear q0 q1 q2 q3 q4 q5 q6 ql
    refine (lskipped_is h f (a + 1) b r1 HR1.out (by omega) (by omega) HEL.out _ (HS.out.below B)).mono ?_; rintro e w2 ⟨rfl, hb⟩
    replace Q := Q.below hb; replace B := B.trans (hb.mono B.size); clear hb
    cases r1 with
    | true =>
      go_wp2_with fail
      go_ret
      exact ⟨rfl, B⟩
    | false =>
      have HNA : Hid (¬ (a < b ∧ Fo.Skp f.es (a + 1) b)) := Lib.hid (fun h => by have := HR1.out.2 h.2; cases this)
      have q0 := Q.c0; have q1 := Q.c1; have q2 := Q.c2; have q3 := Q.c3; have q4 := Q.c4; have q5 := Q.c5; have q6 := Q.c6; have ql := Q.lt
      go_wp2_with fail
      clear q0 q1 q2 q3 q4 q5 q6 ql
      go_loopw [22] (fun s22 wr => ∃ (j : Nat), j ≤ h.rl ∧ s22 = .int .i64 (j : Int) ∧ Hid (∀ x ∈ f.rs.take j, ¬ (Fo.inn x a ∧ Fo.inn x b ∧ Fo.Skp f.es (a + 1) x.b ∧ Fo.Skp f.es x.a b)) ∧ Hid (FB wr w.heap.size h) ∧ Below w.heap.size w wr) (fun s22 _ => h.rl - (intOf s22).toNat)
      case atStart => exact ⟨0, Nat.zero_le _, rfl, Lib.hid (fun x hx => by simp at hx), Lib.hid Q, B⟩
      case round =>
        clear Q B
        obtain ⟨j, hj, rfl, HNO, HQ, hR⟩ := hrel
        by_cases hlj : j < h.rl
        · have hjl : j < f.rs.length := by rw [HN.out]; exact hlj
          obtain ⟨bb, off, hE, hbb, hcc⟩ := HS.out.sr (by omega)
          have X := (hcc j hjl).below hR hbb
          obtain ⟨x, hx⟩ : ∃ x, Fo.at3 f.rs j = x := ⟨_, rfl⟩
          rw [hx] at X
          have hxb := HRB.out x (by rw [← hx]; exact Fo.at3_mem hjl)
          have HTA : Hid (f.rs.take (j + 1) = f.rs.take j ++ [x]) := Lib.hid (by rw [← hx]; exact Fo.take_at hjl)
          have XT := TB.new wr x 54
          have HXT := Lib.hid XT
          have HQ1 := Lib.hid (HQ.out.alloc (.cells #[.int .i64 x.a, .int .i64 x.b, .int .i64 x.c] 54))
          have HR1 := Lib.hid (hR.alloc hR.size (.cells #[.int .i64 x.a, .int .i64 x.b, .int .i64 x.c] 54))
          obtain ⟨c0, c1, c2⟩ := X
          have x0 := XT.c0; have x1 := XT.c1; have x2 := XT.c2; have xl := XT.lt
          have hj1 : (j : Int) < (h.rl : Int) := by omega
          obtain ⟨hxa, hxc⟩ := hxb
          have q0 := HQ1.out.c0; have q1 := HQ1.out.c1; have q2 := HQ1.out.c2; have q3 := HQ1.out.c3; have q4 := HQ1.out.c4; have q5 := HQ1.out.c5; have q6 := HQ1.out.c6; have ql := HQ1.out.lt
          have HMS : Hid (Fo.inn x a ∧ Fo.inn x b ∧ Fo.Skp f.es (a + 1) x.b ∧ Fo.Skp f.es x.a b → x ∈ f.rs) := Lib.hid (fun _ => by rw [← hx]; exact Fo.at3_mem hjl)
          have HNX : Hid (¬ (Fo.inn x a ∧ Fo.inn x b ∧ Fo.Skp f.es (a + 1) x.b ∧ Fo.Skp f.es x.a b) → ∀ x ∈ f.rs.take (j + 1), ¬ (Fo.inn x a ∧ Fo.inn x b ∧ Fo.Skp f.es (a + 1) x.b ∧ Fo.Skp f.es x.a b)) := Lib.hid (fun hn y hy => by
            rw [HTA.out] at hy
            rcases List.mem_append.1 hy with hy | hy
            · exact HNO.out y hy
            · rw [List.mem_singleton.1 hy]; exact hn)
          have HSR : Hid (SlF w {h with R := some ⟨bb, off, none⟩} f) := Lib.hid (by rw [← hE]; exact HS.out)
          clear hcc hx hjl XT HTA
          rw [hE]
          by_cases h1 : x.a ≤ a
          case neg =>
            have HNX := Lib.hid (HNX.out fun h => h1 h.1.1)
            go_wp2_with fail
            go_roundw
            case rel => exact ⟨j + 1, by omega, by simp, HNX, Lib.hid HQ1.out, HR1.out⟩
            case measure => simp [intOf]; omega
          case pos =>
            by_cases h2 : a < x.b
            case neg =>
              have HNX := Lib.hid (HNX.out fun h => h2 h.1.2)
              go_wp2_with fail
              go_roundw
              case rel => exact ⟨j + 1, by omega, by simp, HNX, Lib.hid HQ1.out, HR1.out⟩
              case measure => simp [intOf]; omega
            case pos =>
              by_cases h3 : x.a ≤ b
              case neg =>
                exfalso; omega
              case pos =>
                rcases Int.lt_or_le b x.b with h4 | h4
                case inr =>
                  have HNX := Lib.hid (HNX.out fun h => absurd h.2.1.2 (by omega))
                  go_wp2_with fail
                  go_roundw
                  case rel => exact ⟨j + 1, by omega, by simp, HNX, Lib.hid HQ1.out, HR1.out⟩
                  case measure => simp [intOf]; omega
                case inl =>
                  obtain ⟨r2, hr2⟩ : ∃ r : Bool, r = true ↔ Fo.Skp f.es (a + 1) x.b := ⟨@decide _ (Classical.propDecidable _), @decide_eq_true_iff _ (Classical.propDecidable _)⟩
                  have HR2 := Lib.hid hr2
                  clear hr2
                  go_wp2_with fail
                  refine (lskipped_is {h with R := some ⟨bb, off, none⟩} f (a + 1) x.b r2 HR2.out (by omega) (by omega) HEL.out _ (HSR.out.below HR1.out)).mono ?_; rintro e w3 ⟨rfl, hb⟩
                  have HQ2 := Lib.hid (HQ1.out.below hb)
                  have HX2 := Lib.hid (HXT.out.below hb)
                  have HR3 := Lib.hid (HR1.out.trans (hb.mono HR1.out.size))
                  clear hb c0 c1 c2 x0 x1 x2 xl q0 q1 q2 q3 q4 q5 q6 ql
                  have x0 := HX2.out.c0; have x1 := HX2.out.c1; have x2 := HX2.out.c2; have xl := HX2.out.lt
                  have q0 := HQ2.out.c0; have q1 := HQ2.out.c1; have q2 := HQ2.out.c2; have q3 := HQ2.out.c3; have q4 := HQ2.out.c4; have q5 := HQ2.out.c5; have q6 := HQ2.out.c6; have ql := HQ2.out.lt
                  cases r2 with
                  | false =>
                    have HNX := Lib.hid (HNX.out fun h => by have := HR2.out.2 h.2.2.1; cases this)
                    go_wp2_with fail
                    go_roundw
                    case rel => exact ⟨j + 1, by omega, by simp, HNX, Lib.hid HQ2.out, HR3.out⟩
                    case measure => simp [intOf]; omega
                  | true =>
                    obtain ⟨r3, hr3⟩ : ∃ r : Bool, r = true ↔ Fo.Skp f.es x.a b := ⟨@decide _ (Classical.propDecidable _), @decide_eq_true_iff _ (Classical.propDecidable _)⟩
                    have HR4 := Lib.hid hr3
                    clear hr3
                    go_wp2_with fail
                    refine (lskipped_is {h with R := some ⟨bb, off, none⟩} f x.a b r3 HR4.out (by omega) (by omega) HEL.out _ (HSR.out.below HR3.out)).mono ?_; rintro e w4 ⟨rfl, hb⟩
                    have HQ3 := Lib.hid (HQ2.out.below hb)
                    have HR5 := Lib.hid (HR3.out.trans (hb.mono HR3.out.size))
                    clear hb x0 x1 x2 xl q0 q1 q2 q3 q4 q5 q6 ql
                    cases r3 with
                    | false =>
                      have HNX := Lib.hid (HNX.out fun h => by have := HR4.out.2 h.2.2.2; cases this)
                      go_wp2_with fail
                      go_roundw
                      case rel => exact ⟨j + 1, by omega, by simp, HNX, Lib.hid HQ3.out, HR5.out⟩
                      case measure => simp [intOf]; omega
                    | true =>
                      go_wp2_with fail
                      go_ret
                      exact ⟨rfl, HR5.out⟩
        · obtain rfl : j = h.rl := by omega
          have HJ : Hid (0 < h.ja ∧ a < h.ja ∧ h.jt ≤ b ∧ Fo.Skp f.es (a + 1) h.ja ∧ Fo.Skp f.es h.jt b) := Lib.hid (by
            rcases HST.out with h1 | ⟨x, hx, h1⟩ | h1
            · exact absurd h1 HNA.out
            · exact absurd h1 (HNO.out x (by rw [List.take_of_length_le (by rw [HN.out]; exact Nat.le_refl _)]; exact hx))
            · rw [HS.out.ja, HS.out.jt] at h1; exact h1)
          have h1 := HJ.out.1
          have h2 := HJ.out.2.1
          have h3 := HJ.out.2.2.1
          obtain ⟨hja, hjt⟩ := HJB.out
          have q0 := HQ.out.c0; have q1 := HQ.out.c1; have q2 := HQ.out.c2; have q3 := HQ.out.c3; have q4 := HQ.out.c4; have q5 := HQ.out.c5; have q6 := HQ.out.c6; have ql := HQ.out.lt
          go_wp2_with fail
          refine (lskipped_is h f (a + 1) h.ja true ⟨fun _ => HJ.out.2.2.2.1, fun _ => rfl⟩ (by omega) (by omega) HEL.out _ (HS.out.below hR)).mono ?_; rintro e w3 ⟨rfl, hb⟩
          have HQ2 := Lib.hid (HQ.out.below hb)
          have HR3 := Lib.hid (hR.trans (hb.mono hR.size))
          clear hb q0 q1 q2 q3 q4 q5 q6 ql
          have q0 := HQ2.out.c0; have q1 := HQ2.out.c1; have q2 := HQ2.out.c2; have q3 := HQ2.out.c3; have q4 := HQ2.out.c4; have q5 := HQ2.out.c5; have q6 := HQ2.out.c6; have ql := HQ2.out.lt
          go_wp2_with fail
          refine (lskipped_is h f h.jt b true ⟨fun _ => HJ.out.2.2.2.2, fun _ => rfl⟩ (by omega) (by omega) HEL.out _ (HS.out.below HR3.out)).mono ?_; rintro e w4 ⟨rfl, hb⟩
          have HR5 := Lib.hid (HR3.out.trans (hb.mono HR3.out.size))
          clear hb q0 q1 q2 q3 q4 q5 q6 ql
          go_wp2_with fail
          go_ret
          exact ⟨rfl, HR5.out⟩
  case neg =>
    have HNA : Hid (¬ (a < b ∧ Fo.Skp f.es (a + 1) b)) := Lib.hid (fun h => hab h.1)
    have q0 := Q.c0; have q1 := Q.c1; have q2 := Q.c2; have q3 := Q.c3; have q4 := Q.c4; have q5 := Q.c5; have q6 := Q.c6; have ql := Q.lt
    go_wp2_with fail
    clear q0 q1 q2 q3 q4 q5 q6 ql
    go_loopw [22] (fun s22 wr => ∃ (j : Nat), j ≤ h.rl ∧ s22 = .int .i64 (j : Int) ∧ Hid (∀ x ∈ f.rs.take j, ¬ (Fo.inn x a ∧ Fo.inn x b ∧ Fo.Skp f.es (a + 1) x.b ∧ Fo.Skp f.es x.a b)) ∧ Hid (FB wr w.heap.size h) ∧ Below w.heap.size w wr) (fun s22 _ => h.rl - (intOf s22).toNat)
    case atStart => exact ⟨0, Nat.zero_le _, rfl, Lib.hid (fun x hx => by simp at hx), Lib.hid Q, B⟩
    case round =>
      clear Q B
      obtain ⟨j, hj, rfl, HNO, HQ, hR⟩ := hrel
      by_cases hlj : j < h.rl
      · have hjl : j < f.rs.length := by rw [HN.out]; exact hlj
        obtain ⟨bb, off, hE, hbb, hcc⟩ := HS.out.sr (by omega)
        have X := (hcc j hjl).below hR hbb
        obtain ⟨x, hx⟩ : ∃ x, Fo.at3 f.rs j = x := ⟨_, rfl⟩
        rw [hx] at X
        have hxb := HRB.out x (by rw [← hx]; exact Fo.at3_mem hjl)
        have HTA : Hid (f.rs.take (j + 1) = f.rs.take j ++ [x]) := Lib.hid (by rw [← hx]; exact Fo.take_at hjl)
        have XT := TB.new wr x 54
        have HXT := Lib.hid XT
        have HQ1 := Lib.hid (HQ.out.alloc (.cells #[.int .i64 x.a, .int .i64 x.b, .int .i64 x.c] 54))
        have HR1 := Lib.hid (hR.alloc hR.size (.cells #[.int .i64 x.a, .int .i64 x.b, .int .i64 x.c] 54))
        obtain ⟨c0, c1, c2⟩ := X
        have x0 := XT.c0; have x1 := XT.c1; have x2 := XT.c2; have xl := XT.lt
        have hj1 : (j : Int) < (h.rl : Int) := by omega
        obtain ⟨hxa, hxc⟩ := hxb
        have q0 := HQ1.out.c0; have q1 := HQ1.out.c1; have q2 := HQ1.out.c2; have q3 := HQ1.out.c3; have q4 := HQ1.out.c4; have q5 := HQ1.out.c5; have q6 := HQ1.out.c6; have ql := HQ1.out.lt
        have HMS : Hid (Fo.inn x a ∧ Fo.inn x b ∧ Fo.Skp f.es (a + 1) x.b ∧ Fo.Skp f.es x.a b → x ∈ f.rs) := Lib.hid (fun _ => by rw [← hx]; exact Fo.at3_mem hjl)
        have HNX : Hid (¬ (Fo.inn x a ∧ Fo.inn x b ∧ Fo.Skp f.es (a + 1) x.b ∧ Fo.Skp f.es x.a b) → ∀ x ∈ f.rs.take (j + 1), ¬ (Fo.inn x a ∧ Fo.inn x b ∧ Fo.Skp f.es (a + 1) x.b ∧ Fo.Skp f.es x.a b)) := Lib.hid (fun hn y hy => by
          rw [HTA.out] at hy
          rcases List.mem_append.1 hy with hy | hy
          · exact HNO.out y hy
          · rw [List.mem_singleton.1 hy]; exact hn)
        have HSR : Hid (SlF w {h with R := some ⟨bb, off, none⟩} f) := Lib.hid (by rw [← hE]; exact HS.out)
        clear hcc hx hjl XT HTA
        rw [hE]
        by_cases h1 : x.a ≤ a
        case neg =>
          have HNX := Lib.hid (HNX.out fun h => h1 h.1.1)
          go_wp2_with fail
          go_roundw
          case rel => exact ⟨j + 1, by omega, by simp, HNX, Lib.hid HQ1.out, HR1.out⟩
          case measure => simp [intOf]; omega
        case pos =>
          by_cases h2 : a < x.b
          case neg =>
            have HNX := Lib.hid (HNX.out fun h => h2 h.1.2)
            go_wp2_with fail
            go_roundw
            case rel => exact ⟨j + 1, by omega, by simp, HNX, Lib.hid HQ1.out, HR1.out⟩
            case measure => simp [intOf]; omega
          case pos =>
            by_cases h3 : x.a ≤ b
            case neg =>
              have HNX := Lib.hid (HNX.out fun h => h3 h.2.1.1)
              go_wp2_with fail
              go_roundw
              case rel => exact ⟨j + 1, by omega, by simp, HNX, Lib.hid HQ1.out, HR1.out⟩
              case measure => simp [intOf]; omega
            case pos =>
              rcases Int.lt_or_le b x.b with h4 | h4
              case inr =>
                exfalso; omega
              case inl =>
                obtain ⟨r2, hr2⟩ : ∃ r : Bool, r = true ↔ Fo.Skp f.es (a + 1) x.b := ⟨@decide _ (Classical.propDecidable _), @decide_eq_true_iff _ (Classical.propDecidable _)⟩
                have HR2 := Lib.hid hr2
                clear hr2
                go_wp2_with fail
                refine (lskipped_is {h with R := some ⟨bb, off, none⟩} f (a + 1) x.b r2 HR2.out (by omega) (by omega) HEL.out _ (HSR.out.below HR1.out)).mono ?_; rintro e w3 ⟨rfl, hb⟩
                have HQ2 := Lib.hid (HQ1.out.below hb)
                have HX2 := Lib.hid (HXT.out.below hb)
                have HR3 := Lib.hid (HR1.out.trans (hb.mono HR1.out.size))
                clear hb c0 c1 c2 x0 x1 x2 xl q0 q1 q2 q3 q4 q5 q6 ql
                have x0 := HX2.out.c0; have x1 := HX2.out.c1; have x2 := HX2.out.c2; have xl := HX2.out.lt
                have q0 := HQ2.out.c0; have q1 := HQ2.out.c1; have q2 := HQ2.out.c2; have q3 := HQ2.out.c3; have q4 := HQ2.out.c4; have q5 := HQ2.out.c5; have q6 := HQ2.out.c6; have ql := HQ2.out.lt
                cases r2 with
                | false =>
                  have HNX := Lib.hid (HNX.out fun h => by have := HR2.out.2 h.2.2.1; cases this)
                  go_wp2_with fail
                  go_roundw
                  case rel => exact ⟨j + 1, by omega, by simp, HNX, Lib.hid HQ2.out, HR3.out⟩
                  case measure => simp [intOf]; omega
                | true =>
                  obtain ⟨r3, hr3⟩ : ∃ r : Bool, r = true ↔ Fo.Skp f.es x.a b := ⟨@decide _ (Classical.propDecidable _), @decide_eq_true_iff _ (Classical.propDecidable _)⟩
                  have HR4 := Lib.hid hr3
                  clear hr3
                  go_wp2_with fail
                  refine (lskipped_is {h with R := some ⟨bb, off, none⟩} f x.a b r3 HR4.out (by omega) (by omega) HEL.out _ (HSR.out.below HR3.out)).mono ?_; rintro e w4 ⟨rfl, hb⟩
                  have HQ3 := Lib.hid (HQ2.out.below hb)
                  have HR5 := Lib.hid (HR3.out.trans (hb.mono HR3.out.size))
                  clear hb x0 x1 x2 xl q0 q1 q2 q3 q4 q5 q6 ql
                  cases r3 with
                  | false =>
                    have HNX := Lib.hid (HNX.out fun h => by have := HR4.out.2 h.2.2.2; cases this)
                    go_wp2_with fail
                    go_roundw
                    case rel => exact ⟨j + 1, by omega, by simp, HNX, Lib.hid HQ3.out, HR5.out⟩
                    case measure => simp [intOf]; omega
                  | true =>
                    go_wp2_with fail
                    go_ret
                    exact ⟨rfl, HR5.out⟩
      · obtain rfl : j = h.rl := by omega
        have HJ : Hid (0 < h.ja ∧ a < h.ja ∧ h.jt ≤ b ∧ Fo.Skp f.es (a + 1) h.ja ∧ Fo.Skp f.es h.jt b) := Lib.hid (by
          rcases HST.out with h1 | ⟨x, hx, h1⟩ | h1
          · exact absurd h1 HNA.out
          · exact absurd h1 (HNO.out x (by rw [List.take_of_length_le (by rw [HN.out]; exact Nat.le_refl _)]; exact hx))
          · rw [HS.out.ja, HS.out.jt] at h1; exact h1)
        have h1 := HJ.out.1
        have h2 := HJ.out.2.1
        have h3 := HJ.out.2.2.1
        obtain ⟨hja, hjt⟩ := HJB.out
        have q0 := HQ.out.c0; have q1 := HQ.out.c1; have q2 := HQ.out.c2; have q3 := HQ.out.c3; have q4 := HQ.out.c4; have q5 := HQ.out.c5; have q6 := HQ.out.c6; have ql := HQ.out.lt
        go_wp2_with fail
        refine (lskipped_is h f (a + 1) h.ja true ⟨fun _ => HJ.out.2.2.2.1, fun _ => rfl⟩ (by omega) (by omega) HEL.out _ (HS.out.below hR)).mono ?_; rintro e w3 ⟨rfl, hb⟩
        have HQ2 := Lib.hid (HQ.out.below hb)
        have HR3 := Lib.hid (hR.trans (hb.mono hR.size))
        clear hb q0 q1 q2 q3 q4 q5 q6 ql
        have q0 := HQ2.out.c0; have q1 := HQ2.out.c1; have q2 := HQ2.out.c2; have q3 := HQ2.out.c3; have q4 := HQ2.out.c4; have q5 := HQ2.out.c5; have q6 := HQ2.out.c6; have ql := HQ2.out.lt
        go_wp2_with fail
        refine (lskipped_is h f h.jt b true ⟨fun _ => HJ.out.2.2.2.2, fun _ => rfl⟩ (by omega) (by omega) HEL.out _ (HS.out.below HR3.out)).mono ?_; rintro e w4 ⟨rfl, hb⟩
        have HR5 := Lib.hid (HR3.out.trans (hb.mono HR3.out.size))
        clear hb q0 q1 q2 q3 q4 q5 q6 ql
        go_wp2_with fail
        go_ret
        exact ⟨rfl, HR5.out⟩
end Go.Proofs.Ytakbpgljbbkmkaa
