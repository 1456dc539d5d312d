/- The walks of the laws' skipped and follows. -/
import Derived.Test.YtakbpgljbbkmkaaHy
namespace Go.Proofs.Ytakbpgljbbkmkaa
open Go.RowKit

set_option maxRecDepth 100000 in
set_option maxHeartbeats 6400000 in
theorem lskipped_is (h : FH) (f : Fo.Fm) (p q : Int) (r : Bool) (hr : r = true ↔ Fo.Skp f.es p q) (hp : 0 ≤ p ∧ p ≤ 100000) (hq : 0 ≤ q ∧ q ≤ 100000) (hel : h.el ≤ 100) (w : World) (hS : SlF w h f) :
    Calls Try.prog 52 #[.agg #[.int .i64 h.n, .slice h.R h.rl h.rc, .slice h.E h.el h.ec, .int .i64 h.ja, .int .i64 h.jt, .int .i64 h.jf, .slice h.C h.cl h.cc], .int .i64 p, .int .i64 q] w fun e w' => e = .returned (.bool r) ∧ Below w.heap.size w w' := by
  have HR := Lib.hid hr
  have HS := Lib.hid hS
  have HN : Hid (f.es.length = h.el) := Lib.hid hS.el
  have HQ := Lib.hid (FB.new w h)
  have HB0 := Lib.hid ((Below.refl w.heap.size w).alloc (Nat.le_refl _) (.cells #[.int .i64 h.n, .slice h.R h.rl h.rc, .slice h.E h.el h.ec, .int .i64 h.ja, .int .i64 h.jt, .int .i64 h.jf, .slice h.C h.cl h.cc] 28))
  obtain ⟨hp0, hp1⟩ := hp
  obtain ⟨hq0, hq1⟩ := hq
  clear hr hS
  go_enter Try.func52, Try.ntmps52
  go_wp2_with fail
  go_loopw [7] (fun s7 wr => ∃ (bar : Int), p ≤ bar ∧ bar ≤ 100000 ∧ s7 = .int .i64 bar ∧ Hid (Fo.Skp f.es p bar) ∧ Hid (FB wr w.heap.size h) ∧ Below w.heap.size w wr) (fun s7 _ => (q - intOf s7).toNat)
  case atStart => exact ⟨p, Int.le_refl _, hp1, rfl, Lib.hid (Fo.Skp.nil (Int.le_refl _)), HQ, HB0.out⟩
  case round =>
    clear HQ HB0
    obtain ⟨bar, hb0, hb1, rfl, HK, HQ, hR⟩ := hrel
    by_cases hlt : bar < q
    · have q2 := HQ.out.c2; have ql := HQ.out.lt
      go_wp2_with fail
      clear q2 ql
      go_loopw [8, 20] (fun s8 s20 wq => ∃ (j : Nat) (g : Bool), j ≤ h.el ∧ s20 = .int .i64 (j : Int) ∧ s8 = .bool g ∧ Hid (g = true ↔ ∃ e ∈ f.es.take j, Fo.inn e bar) ∧ Hid (FB wq w.heap.size h) ∧ Below w.heap.size w wq) (fun _ s20 _ => h.el - (intOf s20).toNat)
      case atStart => exact ⟨0, false, Nat.zero_le _, rfl, rfl, Lib.hid ⟨fun h => (by cases h), fun ⟨e, he, _⟩ => (by simp at he)⟩, HQ, hR⟩
      case round =>
        clear HQ hR
        obtain ⟨j, g, hj, rfl, rfl, HG, HQ, hR⟩ := hrel
        by_cases hlj : j < h.el
        · have hjl : j < f.es.length := by rw [HN.out]; exact hlj
          obtain ⟨bb, off, hE, hbb, hcc⟩ := HS.out.se (by omega)
          have X := (hcc j hjl).below hR hbb
          obtain ⟨x, hx⟩ : ∃ x, Fo.at3 f.es j = x := ⟨_, rfl⟩
          rw [hx] at X
          have HTA : Hid (f.es.take (j + 1) = f.es.take j ++ [x]) := Lib.hid (by rw [← hx]; exact Fo.take_at hjl)
          have XT := TB.new wr x 73
          have HQ1 := Lib.hid (HQ.out.alloc (.cells #[.int .i64 x.a, .int .i64 x.b, .int .i64 x.c] 73))
          have HR1 := Lib.hid (hR.alloc hR.size (.cells #[.int .i64 x.a, .int .i64 x.b, .int .i64 x.c] 73))
          obtain ⟨c0, c1, c2⟩ := X
          have x0 := XT.c0; have x1 := XT.c1; have x2 := XT.c2; have xl := XT.lt
          have hj1 : (j : Int) < (h.el : Int) := by omega
          have HNX : Hid (∀ g2 : Bool, (g2 = true ↔ g = true ∨ Fo.inn x bar) → (g2 = true ↔ ∃ e ∈ f.es.take (j + 1), Fo.inn e bar)) := Lib.hid (fun g2 h2 => by
            rw [HTA.out, h2, HG.out]
            constructor
            · rintro (⟨e, he, h3⟩ | h3)
              · exact ⟨e, List.mem_append_left _ he, h3⟩
              · exact ⟨x, by simp, h3⟩
            · rintro ⟨e, he, h3⟩
              rcases List.mem_append.1 he with he | he
              · exact .inl ⟨e, he, h3⟩
              · rw [List.mem_singleton.1 he] at h3; exact .inr h3)
          clear hcc hx hjl XT
          rw [hE]
          cases g with
          | true =>
            have HG2 := Lib.hid (HNX.out true ⟨fun _ => .inl rfl, fun _ => rfl⟩)
            go_wp2_with fail
            go_roundw
            case rel => exact ⟨j + 1, true, by omega, by simp, rfl, HG2, HQ1, HR1.out⟩
            case measure => simp [intOf]; omega
          | false =>
            by_cases h1 : x.a ≤ bar
            · by_cases h2 : bar < x.b
              · have HG2 := Lib.hid (HNX.out true ⟨fun _ => .inr ⟨h1, h2⟩, fun _ => rfl⟩)
                go_wp2_with fail
                go_roundw
                case rel => exact ⟨j + 1, true, by omega, by simp, rfl, HG2, HQ1, HR1.out⟩
                case measure => simp [intOf]; omega
              · have HG2 := Lib.hid (HNX.out false ⟨fun h => (by cases h), fun h => h.elim (fun h => (by cases h)) (fun h => absurd h.2 h2)⟩)
                go_wp2_with fail
                go_roundw
                case rel => exact ⟨j + 1, false, by omega, by simp, rfl, HG2, HQ1, HR1.out⟩
                case measure => simp [intOf]; omega
            · have HG2 := Lib.hid (HNX.out false ⟨fun h => (by cases h), fun h => h.elim (fun h => (by cases h)) (fun h => absurd h.1 h1)⟩)
              go_wp2_with fail
              go_roundw
              case rel => exact ⟨j + 1, false, by omega, by simp, rfl, HG2, HQ1, HR1.out⟩
              case measure => simp [intOf]; omega
        · obtain rfl : j = h.el := by omega
          have HG2 : Hid (g = true ↔ ∃ e ∈ f.es, Fo.inn e bar) := Lib.hid (by
            have h := HG.out
            rwa [List.take_of_length_le (by rw [HN.out]; exact Nat.le_refl _)] at h)
          clear HG
          cases g with
          | false =>
            obtain rfl : r = false := by
              cases r with
              | false => rfl
              | true => have := HG2.out.2 (HR.out.1 rfl bar hb0 hlt); cases this
            go_wp2_with fail
            go_ret
            exact ⟨rfl, hR⟩
          | true =>
            have HK2 : Hid (Fo.Skp f.es p (bar + 1)) := Lib.hid (HK.out.app (fun b h1 h2 => by
              obtain rfl : b = bar := by omega
              exact HG2.out.1 rfl))
            go_wp2_with fail
            go_roundw
            case rel => exact ⟨bar + 1, by omega, by omega, rfl, HK2, HQ, hR⟩
            case measure => simp [intOf]; omega
    · obtain rfl : r = true := HR.out.2 (fun b h1 h2 => HK.out b h1 (by omega))
      go_wp2_with fail
      go_ret
      exact ⟨rfl, hR⟩

end Go.Proofs.Ytakbpgljbbkmkaa
