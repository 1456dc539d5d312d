import Derived.Test.YtbbjifhelbeniaaGreatDoorHd
import Derived.Deep.MidRow
/- The contracts of Plays and With letter by letter, for the laws. -/
namespace Go.Proofs.YtbbjifhelbeniaaGreatDoor
open Go.RowKit

theorem fnde_ex (ok : Prop) (r : Int) : ∃ x f e, FndE ok r x f e := by
  by_cases h : ok
  · obtain ⟨x, f, h1⟩ := fnd_ex r
    exact ⟨x, f, 0, .inr ⟨h, h1, rfl⟩⟩
  · exact ⟨0, false, 1, .inl ⟨h, rfl, rfl, rfl⟩⟩
/-- What Plays answers. -/
def PlI (ok : Prop) (r : Int) (M : List No.Nt) (L : List No.Nt) (e : Int) : Prop := (¬ ok ∧ L = [] ∧ e = 1) ∨ (ok ∧ r < 0 ∧ L = [] ∧ e = 22) ∨ (ok ∧ 0 ≤ r ∧ L = M ∧ e = 0)
theorem pli_ex (ok : Prop) (r : Int) (M : List No.Nt) : ∃ L e, PlI ok r M L e := by
  by_cases h : ok
  · by_cases h2 : r < 0
    · exact ⟨[], 22, .inr (.inl ⟨h, h2, rfl, rfl⟩)⟩
    · exact ⟨M, 0, .inr (.inr ⟨h, by omega, rfl, rfl⟩)⟩
  · exact ⟨[], 1, .inl ⟨h, rfl, rfl⟩⟩
theorem splaysL_is (s : SH) (bs : List Mt.B) (ps : List Sc.Pt) (ns : List No.Nt) (id r : Int) (L : List No.Nt) (e : Int) (h : Sc.pix ps id = r) (hp : PlI (Sc.Val s.v bs ps ns) r (Sc.play (atQ ps r.toNat) ns) L e) (hwf : WfS bs ps ns) (w : World) (hG : Glob w) (hS : SlS w s bs ps ns) :
    Calls Tryz.prog 19 #[.agg #[.int .i64 s.v, .slice s.B s.bl s.bc, .slice s.P s.pl s.pc, .slice s.N s.nl s.nc], .int .i64 id] w fun y w' => ∃ D c, y = .returned (.tuple #[.slice D L.length c, .int .i64 e]) ∧ SlO w' D L ∧ Below w.heap.size w w' :=
  (splaysAll_is s bs ps ns id r h hwf w hG hS).mono fun y w' ⟨hb, hy⟩ => by
    rcases hy with ⟨k, rfl⟩ | ⟨k, k2, rfl⟩ | ⟨k, k2, v, rfl, ho⟩
    · obtain ⟨rfl, rfl⟩ : L = [] ∧ e = 1 := by
        rcases hp with ⟨_, h2⟩ | ⟨h1, _⟩ | ⟨h1, _⟩
        · exact h2
        · exact absurd h1 k
        · exact absurd h1 k
      exact ⟨none, 0, rfl, SlO.nil _ _, hb⟩
    · obtain ⟨rfl, rfl⟩ : L = [] ∧ e = 22 := by
        rcases hp with ⟨h1, _⟩ | ⟨_, _, h2⟩ | ⟨_, h1, _⟩
        · exact absurd k h1
        · exact h2
        · omega
      exact ⟨none, 0, rfl, SlO.nil _ _, hb⟩
    · obtain ⟨rfl, rfl⟩ : L = Sc.play (atQ ps r.toNat) ns ∧ e = 0 := by
        rcases hp with ⟨h1, _⟩ | ⟨_, h1, _⟩ | ⟨_, _, h2⟩
        · exact absurd k h1
        · omega
        · exact h2
      obtain ⟨D, c, rfl, h2⟩ := own_so ho
      exact ⟨D, c, rfl, h2, hb⟩
theorem rplaysL_is (s : SH) (bs : List Mt.B) (ps : List Sc.Pt) (ns : List No.Nt) (id r : Int) (L : List No.Nt) (e : Int) (h : Sc.pix ps id = r) (hp : PlI (Sc.Val s.v bs ps ns) r (Sc.play (atQ ps r.toNat) ns) L e) (w : World) (hS : SlS w s bs ps ns) :
    Calls Tryz.prog 20 #[.agg #[.int .i64 s.v, .slice s.B s.bl s.bc, .slice s.P s.pl s.pc, .slice s.N s.nl s.nc], .int .i64 id] w fun y w' => ∃ D c, y = .returned (.tuple #[.slice D L.length c, .int .i64 e]) ∧ SlO w' D L ∧ Below w.heap.size w w' :=
  (rplaysAll_is s bs ps ns id r h w hS).mono fun y w' ⟨hb, hy⟩ => by
    rcases hy with ⟨k, rfl⟩ | ⟨k, k2, rfl⟩ | ⟨k, k2, v, rfl, ho⟩
    · obtain ⟨rfl, rfl⟩ : L = [] ∧ e = 1 := by
        rcases hp with ⟨_, h2⟩ | ⟨h1, _⟩ | ⟨h1, _⟩
        · exact h2
        · exact absurd h1 k
        · exact absurd h1 k
      exact ⟨none, 0, rfl, SlO.nil _ _, hb⟩
    · obtain ⟨rfl, rfl⟩ : L = [] ∧ e = 22 := by
        rcases hp with ⟨h1, _⟩ | ⟨_, _, h2⟩ | ⟨_, h1, _⟩
        · exact absurd k h1
        · exact h2
        · omega
      exact ⟨none, 0, rfl, SlO.nil _ _, hb⟩
    · obtain ⟨rfl, rfl⟩ : L = Sc.play (atQ ps r.toNat) ns ∧ e = 0 := by
        rcases hp with ⟨h1, _⟩ | ⟨_, h1, _⟩ | ⟨_, _, h2⟩
        · exact absurd k h1
        · omega
        · exact h2
      obtain ⟨D, c, rfl, h2⟩ := own_so ho
      exact ⟨D, c, rfl, h2, hb⟩
/-- What With answers, as lists. -/
structure WiL (e nv : Int) (bs : List Mt.B) (ps : List Sc.Pt) (ns : List No.Nt) (v' : Int) (bs' : List Mt.B) (ps' : List Sc.Pt) (ns' : List No.Nt) : Prop where
  ok : e = 0 → v' = nv ∧ bs' = bs ∧ ps' = ps ∧ ns' = ns
  no : e ≠ 0 → v' = 0 ∧ bs' = [] ∧ ps' = [] ∧ ns' = []
theorem wil_ex (e nv : Int) (bs : List Mt.B) (ps : List Sc.Pt) (ns : List No.Nt) : ∃ v' bs' ps' ns', WiL e nv bs ps ns v' bs' ps' ns' := by
  by_cases h : e = 0
  · exact ⟨nv, bs, ps, ns, fun _ => ⟨rfl, rfl, rfl, rfl⟩, fun h2 => absurd h h2⟩
  · exact ⟨0, [], [], [], fun h2 => absurd h2 h, fun _ => ⟨rfl, rfl, rfl, rfl⟩⟩
theorem withi_ex (ok : Prop) (W : Int) : ∃ e, WithI ok W e := by
  by_cases h : ok
  · exact ⟨W, .inr ⟨h, rfl⟩⟩
  · exact ⟨1, .inl ⟨h, rfl⟩⟩
theorem WithR.lists {nv : Int} {bs : List Mt.B} {ps : List Sc.Pt} {ns : List No.Nt} {e : Int} {s' : SH} {w' : World} (h : WithR nv bs ps ns e s' w') {v' : Int} {bs' : List Mt.B} {ps' : List Sc.Pt} {ns' : List No.Nt} (hl : WiL e nv bs ps ns v' bs' ps' ns') : s'.v = v' ∧ SlS w' s' bs' ps' ns' := by
  by_cases h0 : e = 0
  · obtain ⟨rfl, rfl, rfl, rfl⟩ := hl.ok h0
    obtain ⟨h1, h2, -⟩ := h.ok h0
    exact ⟨h1, h2⟩
  · obtain ⟨rfl, rfl, rfl, rfl⟩ := hl.no h0
    have h1 := h.no h0
    subst h1
    exact ⟨rfl, sls_nil w'⟩
theorem swithL_is (s : SH) (bs : List Mt.B) (ps : List Sc.Pt) (ns : List No.Nt) (nv : Int) (l : List No.Nt) (e : Int) (len cap : Nat) (A : Option Addr) (v' : Int) (bs' : List Mt.B) (ps' : List Sc.Pt) (ns' : List No.Nt) (h : WithI (Sc.Val s.v bs ps ns ∧ (1 ≤ nv ∧ nv ≤ 1000000) ∧ No.Val bs l) (Sc.wrong ps l) e) (hw : WiL e nv bs ps (No.srt (No.lt bs) l) v' bs' ps' ns') (hl : l.length = len) (hwf : WfS bs ps ns) (hwn : No.Wf l) (w : World) (hG : Glob w) (hS : SlS w s bs ps ns) (hA : SlO w A l) :
    Calls Tryz.prog 22 #[.agg #[.int .i64 s.v, .slice s.B s.bl s.bc, .slice s.P s.pl s.pc, .slice s.N s.nl s.nc], .int .i64 nv, .slice A len cap] w fun y w' => ∃ s' : SH, y = .returned (.tuple #[.agg #[.int .i64 s'.v, .slice s'.B s'.bl s'.bc, .slice s'.P s'.pl s'.pc, .slice s'.N s'.nl s'.nc], .int .i64 e]) ∧ s'.v = v' ∧ SlS w' s' bs' ps' ns' ∧ Below w.heap.size w w' :=
  (swith_is s bs ps ns nv l e len cap A h hl hwf hwn w hG hS hA).mono fun y w' ⟨hb, s', h1, h2⟩ => by
    obtain ⟨h3, h4⟩ := h2.lists hw
    exact ⟨s', h1, h3, h4, hb⟩
theorem rwithL_is (s : SH) (bs : List Mt.B) (ps : List Sc.Pt) (ns : List No.Nt) (nv : Int) (l : List No.Nt) (e : Int) (len cap : Nat) (A : Option Addr) (v' : Int) (bs' : List Mt.B) (ps' : List Sc.Pt) (ns' : List No.Nt) (h : WithI (Sc.Val s.v bs ps ns ∧ (1 ≤ nv ∧ nv ≤ 1000000) ∧ No.Val bs l) (Sc.wrong ps l) e) (hw : WiL e nv bs ps (No.srt (No.lt bs) l) v' bs' ps' ns') (hl : l.length = len) (w : World) (hS : SlS w s bs ps ns) (hA : SlO w A l) :
    Calls Tryz.prog 23 #[.agg #[.int .i64 s.v, .slice s.B s.bl s.bc, .slice s.P s.pl s.pc, .slice s.N s.nl s.nc], .int .i64 nv, .slice A len cap] w fun y w' => ∃ s' : SH, y = .returned (.tuple #[.agg #[.int .i64 s'.v, .slice s'.B s'.bl s'.bc, .slice s'.P s'.pl s'.pc, .slice s'.N s'.nl s'.nc], .int .i64 e]) ∧ s'.v = v' ∧ SlS w' s' bs' ps' ns' ∧ Below w.heap.size w w' :=
  (rwith_is s bs ps ns nv l e len cap A h hl w hS hA).mono fun y w' ⟨hb, s', h1, h2⟩ => by
    obtain ⟨h3, h4⟩ := h2.lists hw
    exact ⟨s', h1, h3, h4, hb⟩
end Go.Proofs.YtbbjifhelbeniaaGreatDoor

/- Mathematics of the laws of scores. -/
namespace Go.Proofs.YtbbjifhelbeniaaGreatDoor

namespace No
theorem atO_get {l : List Nt} {i : Nat} (h : i < l.length) : atO l i = l[i] := atO_eq h
theorem wf_iff {l : List Nt} : Wf l ↔ ∀ n ∈ l, (-9223372036854775808 ≤ n.id ∧ n.id ≤ 9223372036854775807) ∧ (-9223372036854775808 ≤ n.ba ∧ n.ba ≤ 9223372036854775807) := by
  constructor
  · intro h n hn
    obtain ⟨j, hj, rfl⟩ := List.mem_iff_getElem.1 hn
    have := h j hj
    rwa [atO_eq hj] at this
  · intro h j hj
    exact h _ (atO_mem hj)
theorem wf_perm {l m : List Nt} (h : Wf l) (hp : m.Perm l) : Wf m := wf_iff.2 fun n hn => wf_iff.1 h n (hp.mem_iff.1 hn)
theorem wf_snoc {l : List Nt} {n : Nt} (h : Wf l) (hn : (-9223372036854775808 ≤ n.id ∧ n.id ≤ 9223372036854775807) ∧ (-9223372036854775808 ≤ n.ba ∧ n.ba ≤ 9223372036854775807)) : Wf (l ++ [n]) := wf_iff.2 fun m hm => by
  rcases List.mem_append.1 hm with h1 | h1
  · exact wf_iff.1 h m h1
  · rw [List.mem_singleton.1 h1]; exact hn
theorem bix_of {bs : List Mt.B} (h : Mt.Val bs) {i : Nat} (hi : i < bs.length) : bix bs (atB bs i).1 = i := bix_first hi rfl fun k hk => h.2.2.2 i k hi hk
theorem id_one {l : List Nt} (h : l.Pairwise fun a b => a.id ≠ b.id) {a b : Nt} (ha : a ∈ l) (hb : b ∈ l) (e : a.id = b.id) : a = b := by
  obtain ⟨i, hi, rfl⟩ := List.mem_iff_getElem.1 ha
  obtain ⟨j, hj, rfl⟩ := List.mem_iff_getElem.1 hb
  rcases Nat.lt_trichotomy i j with hij | hij | hij
  · exact absurd e (List.pairwise_iff_getElem.1 h i j hi hj hij)
  · subst hij; rfl
  · exact absurd e.symm (List.pairwise_iff_getElem.1 h j i hj hi hij)
theorem rev_step {l : List Nt} {k : Nat} (h : k < l.length) : l.reverse.take (k + 1) = l.reverse.take k ++ [atO l (l.length - 1 - k)] := by
  rw [List.take_succ_eq_append_getElem (by simpa using h), List.getElem_reverse, atO_eq (by omega)]
end No

namespace Sc
/-- How many notes parts with their own notes play. -/
def cnt : List Pt → List No.Nt → Nat
  | [], _ => 0
  | p :: l, ns => (if p.f = 0 then (play p ns).length else 0) + cnt l ns
theorem cnt_append : ∀ (a b : List Pt) (ns : List No.Nt), cnt (a ++ b) ns = cnt a ns + cnt b ns
  | [], b, ns => by simp [cnt]
  | p :: a, b, ns => by
    rw [List.cons_append, cnt, cnt, cnt_append a b ns]
    omega
theorem cnt_take {l : List Pt} {k : Nat} (h : k < l.length) (ns : List No.Nt) : cnt (l.take (k + 1)) ns = cnt (l.take k) ns + (if (atQ l k).f = 0 then (play (atQ l k) ns).length else 0) := by
  rw [List.take_succ_eq_append_getElem h, cnt_append, atQ_eq h]
  simp [cnt]
def one : List Pt → Int → Nat
  | [], _ => 0
  | p :: l, x => (if p.f = 0 ∧ p.id = x then 1 else 0) + one l x
theorem play_cons (p : Pt) (n : No.Nt) (l : List No.Nt) : (play p (n :: l)).length = (if n.pa = src p then 1 else 0) + (play p l).length := by
  unfold play
  by_cases h : n.pa = src p
  · rw [if_pos h]; simp [h]; omega
  · rw [if_neg h]; simp [h]
theorem cnt_cons : ∀ (l : List Pt) (n : No.Nt) (ns : List No.Nt), cnt l (n :: ns) = one l n.pa + cnt l ns
  | [], _, _ => rfl
  | p :: l, n, ns => by
    rw [cnt, cnt, one, cnt_cons l n ns, play_cons]
    by_cases h : p.f = 0
    · have hs : src p = p.id := by unfold src; rw [if_pos h]
      rw [if_pos h, if_pos h, hs]
      by_cases e : p.id = n.pa
      · rw [if_pos e.symm, if_pos ⟨h, e⟩]; omega
      · rw [if_neg (fun h => e h.symm), if_neg (fun h => e h.2)]; omega
    · rw [if_neg h, if_neg h, if_neg (fun k => h k.1)]; omega
theorem one_zero : ∀ {l : List Pt} {x : Int}, (∀ p ∈ l, p.id ≠ x) → one l x = 0
  | [], _, _ => rfl
  | p :: l, x, h => by
    rw [one, if_neg (fun k => h p (by simp) k.2), one_zero fun q hq => h q (by simp [hq])]
theorem one_is : ∀ {l : List Pt} {x : Int}, (l.Pairwise fun a b => a.id ≠ b.id) → (∃ p ∈ l, p.f = 0 ∧ p.id = x) → one l x = 1
  | [], _, _, ⟨_, h, _⟩ => by cases h
  | p :: l, x, h, ⟨q, hq, h0, hx⟩ => by
    obtain ⟨h1, h2⟩ := List.pairwise_cons.1 h
    rw [one]
    rcases List.mem_cons.1 hq with rfl | hq
    · rw [if_pos ⟨h0, hx⟩, one_zero fun r hr e => h1 r hr (hx.trans e.symm)]
    · rw [if_neg (fun k => h1 q hq (k.2.trans hx.symm)), one_is h2 ⟨q, hq, h0, hx⟩]
theorem cnt_all {ps : List Pt} (h : ps.Pairwise fun a b => a.id ≠ b.id) : ∀ {ns : List No.Nt}, (∀ n ∈ ns, ∃ p ∈ ps, p.f = 0 ∧ p.id = n.pa) → cnt ps ns = ns.length
  | [], _ => by
    have : ∀ l : List Pt, cnt l [] = 0 := fun l => by
      induction l with
      | nil => rfl
      | cons p l ih => rw [cnt, ih]; simp [play]
    exact this ps
  | n :: ns, hn => by
    rw [cnt_cons, one_is h (hn n (by simp)), cnt_all h fun m hm => hn m (by simp [hm]), List.length_cons]
    omega
theorem Val.cnt {v : Int} {bs : List Mt.B} {ps : List Pt} {ns : List No.Nt} (h : Val v bs ps ns) : cnt ps ns = ns.length :=
  cnt_all h.parts.2.2.1 fun n hn => by
    obtain ⟨p, hp, _⟩ := wrong_zero.1 h.wrong n hn
    exact ⟨p, ownF_mem hp⟩
/-- The notes that a part plays, one by one. -/
theorem play_at {p : Pt} {ns : List No.Nt} {i : Nat} (h : i < ns.length) (hs : (atO ns i).pa = src p) : (play p (ns.take i)).length < (play p ns).length ∧ atO (play p ns) (play p (ns.take i)).length = asP p (atO ns i) := by
  have h1 := play_take (p := p) h
  rw [if_pos hs] at h1
  obtain ⟨r, hr⟩ := play_prefix p ns (i + 1)
  rw [h1] at hr
  rw [← hr]
  have hlt : (play p (ns.take i)).length < (play p (ns.take i) ++ [asP p (atO ns i)] ++ r).length := by simp
  refine ⟨hlt, ?_⟩
  rw [atO_eq hlt]
  simp only [List.append_assoc]
  rw [List.getElem_append_right (Nat.le_refl _)]
  simp
/-- The same score with notes in another order. -/
theorem Val.sorted {v : Int} {bs : List Mt.B} {ps : List Pt} {ns l : List No.Nt} {nv : Int} (h : Val v bs ps ns) (hv : 1 ≤ nv ∧ nv ≤ 1000000) (hl : No.Val bs l) (hw : Sc.wrong ps l = 0) : Val nv bs ps (No.srt (No.lt bs) l) :=
  ⟨hv, h.parts, No.vperm hl (No.srt_perm l), No.srt_self (No.lt_asymm bs) (No.lt_trans bs) (No.srt_sorted (No.lt_trans bs) (No.lt_differ hl.2.2.2)), by rw [wrong_perm (No.srt_perm l)]; exact hw⟩
theorem srt_rev {v : Int} {bs : List Mt.B} {ps : List Pt} {ns : List No.Nt} (h : Val v bs ps ns) : No.srt (No.lt bs) ns.reverse = ns := by
  rw [No.srt_any (No.lt_asymm bs) (No.lt_trans bs) (List.reverse_perm ns) (No.lt_differ (No.vperm h.notes (List.reverse_perm ns)).2.2.2), h.order]
/-- A note in a list with others is found. -/
theorem nix_in {l m : List No.Nt} (h : m.Pairwise fun a b => a.id ≠ b.id) (hp : m.Perm l) {i : Nat} (hi : i < l.length) : 0 ≤ nix m (atO l i).id ∧ nix m (atO l i).id < m.length ∧ atO m (nix m (atO l i).id).toNat = atO l i := by
  have hmem : atO l i ∈ m := hp.mem_iff.2 (atO_mem hi)
  have h2 := nix_lt m (atO l i).id
  have h1 : 0 ≤ nix m (atO l i).id := by
    by_cases h0 : nix m (atO l i).id < 0
    · exact absurd rfl (nix_none h0 _ hmem)
    · omega
  refine ⟨h1, h2, No.id_one h (atO_mem (by omega)) hmem (nix_at h1)⟩
/-! ### a further note -/
theorem play_append (p : Pt) (a b : List No.Nt) : play p (a ++ b) = play p a ++ play p b := by
  unfold play
  rw [List.filter_append, List.map_append]
theorem srt_further {bs : List Mt.B} {ns : List No.Nt} {n : No.Nt} (h : No.srt (No.lt bs) ns = ns) : ∃ a b, ns = a ++ b ∧ No.srt (No.lt bs) (ns ++ [n]) = a ++ n :: b := by
  rw [No.srt_snoc, h]
  exact ⟨_, _, (List.take_append_drop _ ns).symm, rfl⟩
/-- A part that does not play it. -/
theorem further_no {bs : List Mt.B} {ns : List No.Nt} {n : No.Nt} {p : Pt} (h : No.srt (No.lt bs) ns = ns) (hp : n.pa ≠ src p) : play p (No.srt (No.lt bs) (ns ++ [n])) = play p ns := by
  obtain ⟨a, b, h1, h2⟩ := srt_further (n := n) h
  rw [h2, h1, play_append, play_append, show n :: b = [n] ++ b from rfl, play_append]
  rw [show play p [n] = [] by unfold play; simp [hp]]
  simp
theorem play_ids {p : Pt} {ns : List No.Nt} (h : ns.Pairwise fun a b => a.id ≠ b.id) : (play p ns).Pairwise fun a b => a.id ≠ b.id := by
  unfold play
  rw [List.pairwise_map]
  exact h.sublist List.filter_sublist
/-- A part that plays it. -/
theorem further_yes {bs : List Mt.B} {ns : List No.Nt} {n : No.Nt} {p : Pt} (h : No.srt (No.lt bs) ns = ns) (hd : (ns ++ [n]).Pairwise fun a b => a.id ≠ b.id) (hp : n.pa = src p) :
    ∃ a b, play p ns = a ++ b ∧ play p (No.srt (No.lt bs) (ns ++ [n])) = a ++ asP p n :: b ∧ nix (play p (No.srt (No.lt bs) (ns ++ [n]))) n.id = a.length := by
  obtain ⟨a, b, h1, h2⟩ := srt_further (n := n) h
  have h3 : play p (No.srt (No.lt bs) (ns ++ [n])) = play p a ++ asP p n :: play p b := by
    rw [h2, play_append, show n :: b = [n] ++ b from rfl, play_append]
    rw [show play p [n] = [asP p n] by unfold play; simp [hp]]
    rfl
  refine ⟨play p a, play p b, by rw [h1, play_append], h3, ?_⟩
  have hd2 : (No.srt (No.lt bs) (ns ++ [n])).Pairwise fun a b => a.id ≠ b.id := (List.Perm.pairwise_iff (fun {a b} h => (fun e => h e.symm)) (No.srt_perm (lt := No.lt bs) (ns ++ [n]))).2 hd
  have hd3 := play_ids (p := p) hd2
  have hlt : (play p a).length < (play p (No.srt (No.lt bs) (ns ++ [n]))).length := by rw [h3]; simp
  have e := nix_of hd3 hlt
  have e2 : atO (play p (No.srt (No.lt bs) (ns ++ [n]))) (play p a).length = asP p n := by
    rw [atO_eq hlt]
    simp only [h3]
    rw [List.getElem_append_right (Nat.le_refl _)]
    simp
  rw [e2] at e
  exact e
/-! ### who refuses -/
theorem stray_step {ps : List Pt} {l : List No.Nt} {i : Nat} (h : i < l.length) : stray ps (l.take (i + 1)) ↔ stray ps (l.take i) ∨ ownF ps (atO l i).pa = none := by
  rw [List.take_succ_eq_append_getElem h, ← atO_eq h]
  constructor
  · rintro ⟨n, hn, e⟩
    rcases List.mem_append.1 hn with h1 | h1
    · exact .inl ⟨n, h1, e⟩
    · rw [List.mem_singleton.1 h1] at e; exact .inr e
  · rintro (⟨n, hn, e⟩ | e)
    · exact ⟨n, List.mem_append_left _ hn, e⟩
    · exact ⟨_, List.mem_append_right _ (List.mem_singleton_self _), e⟩
theorem far_step {ps : List Pt} {l : List No.Nt} {i : Nat} (h : i < l.length) : far ps (l.take (i + 1)) ↔ far ps (l.take i) ∨ ∃ p, ownF ps (atO l i).pa = some p ∧ ¬ rng p (atO l i) := by
  rw [List.take_succ_eq_append_getElem h, ← atO_eq h]
  constructor
  · rintro ⟨n, hn, e⟩
    rcases List.mem_append.1 hn with h1 | h1
    · exact .inl ⟨n, h1, e⟩
    · rw [List.mem_singleton.1 h1] at e; exact .inr e
  · rintro (⟨n, hn, e⟩ | e)
    · exact ⟨n, List.mem_append_left _ hn, e⟩
    · exact ⟨_, List.mem_append_right _ (List.mem_singleton_self _), e⟩
end Sc
end Go.Proofs.YtbbjifhelbeniaaGreatDoor

/- A note in a variable that is stored into in part; the class of worlds of 'm.Pitch, m.Part = n.Pitch, n.Part'. -/
namespace Go.Proofs.YtbbjifhelbeniaaGreatDoor
open Go.RowKit

theorem NtB.to {w : World} {b : Nat} {n : No.Nt} (h : NtB w b n) : ∀ j u, (rowO n)[j]? = some u → w.cell? ⟨b, j, none⟩ = some u := fun j u hj => by
  match j, hj with
  | 0, hj => exact h.c0.trans hj
  | 1, hj => exact h.c1.trans hj
  | 2, hj => exact h.c2.trans hj
  | 3, hj => exact h.c3.trans hj
  | 4, hj => exact h.c4.trans hj
  | 5, hj => exact h.c5.trans hj
  | 6, hj => exact h.c6.trans hj
  | 7, hj => exact h.c7.trans hj
  | 8, hj => exact h.c8.trans hj
  | 9, hj => exact h.c9.trans hj
  | 10, hj => exact h.c10.trans hj
  | 11, hj => exact h.c11.trans hj
  | j + 12, hj => simp [rowO] at hj
theorem NtB.of {w : World} {b : Nat} {n : No.Nt} (hl : b < w.heap.size) (h : ∀ j u, (rowO n)[j]? = some u → w.cell? ⟨b, j, none⟩ = some u) : NtB w b n :=
  ⟨hl, h 0 _ rfl, h 1 _ rfl, h 2 _ rfl, h 3 _ rfl, h 4 _ rfl, h 5 _ rfl, h 6 _ rfl, h 7 _ rfl, h 8 _ rfl, h 9 _ rfl, h 10 _ rfl, h 11 _ rfl⟩
/-- A note in a block that can be written. -/
structure NtF (w : World) (b : Nat) (n : No.Nt) : Prop where
  at_ : NtB w b n
  fr : ∀ j, w.frozen? ⟨b, j, none⟩ = false
theorem NtF.below {w w' : World} {b : Nat} {n : No.Nt} (h : NtF w b n) (hb : Below w.heap.size w w') : NtF w' b n := ⟨h.at_.below hb, fun j => (hb.frozen (p := ⟨b, j, none⟩) h.at_.lt).trans (h.fr j)⟩
theorem NtF.new (w : World) (n : No.Nt) : NtF (w.alloc (.cells #[.int .i64 n.id, .int .i64 n.pa, .int .i64 n.ba, .int .i64 n.vo, .int .i64 n.os, .int .i64 n.sn, .int .i64 n.sd, .int .i64 n.ln, .int .i64 n.ld, .int .i64 n.st, .int .i64 n.al, .int .i64 n.oc] 51)) w.heap.size n :=
  ⟨NtB.new w n, fun j => by
    have h := heap_alloc_new w (.cells #[.int .i64 n.id, .int .i64 n.pa, .int .i64 n.ba, .int .i64 n.vo, .int .i64 n.os, .int .i64 n.sn, .int .i64 n.sd, .int .i64 n.ln, .int .i64 n.ld, .int .i64 n.st, .int .i64 n.al, .int .i64 n.oc] 51)
    simp only [World.frozen?, h]
    simp⟩
theorem NtF.there {w : World} {b : Nat} {n : No.Nt} (h : NtF w b n) {o k : Nat} (hk : o + k ≤ 12) : w.there b o k := fun j hj => ⟨by
  have hl : o + j < (rowO n).length := by rw [rowO_length]; omega
  rw [h.at_.to (o + j) _ (List.getElem?_eq_getElem hl)]
  rfl, h.fr _⟩
theorem setCells_size (b : Nat) : ∀ (vs : List Value) (o : Nat) (w : World), (w.setCells b o vs).heap.size = w.heap.size
  | [], _, _ => rfl
  | v :: r, o, w => by rw [World.setCells, setCells_size b r]; simp
theorem below_setCells {B b : Nat} {w0 : World} (hb : B ≤ b) : ∀ (vs : List Value) (o : Nat) {w : World}, Below B w0 w → Below B w0 (w.setCells b o vs)
  | [], _, _, h => h
  | v :: r, o, _, h => below_setCells hb r (o + 1) (h.setCell (p := ⟨b, o, none⟩) hb v)
theorem NtB.sets_ne {w : World} {b k : Nat} {n : No.Nt} (h : NtB w k n) (hne : k ≠ b) (o : Nat) (vs : List Value) : NtB (w.setCells b o vs) k n :=
  NtB.of (by rw [setCells_size]; exact h.lt) fun j u hj => (World.cell?_setCells_out b vs o w ⟨k, j, none⟩ fun e _ => absurd e hne).trans (h.to j u hj)
theorem NtF.sets {w : World} {b : Nat} {n : No.Nt} (h : NtF w b n) (o : Nat) (vs : List Value) (m : No.Nt) (ho : o + vs.length ≤ 12)
    (hm : ∀ j u, (rowO m)[j]? = some u → (o ≤ j ∧ j < o + vs.length ∧ vs[j - o]? = some u) ∨ ((j < o ∨ o + vs.length ≤ j) ∧ (rowO n)[j]? = some u)) : NtF (w.setCells b o vs) b m :=
  ⟨NtB.of (by rw [setCells_size]; exact h.at_.lt) fun j u hj => by
    rcases hm j u hj with ⟨h1, h2, h3⟩ | ⟨h1, h2⟩
    · have e := World.cell?_setCells_in b vs o w (fun i hi => (h.there ho i hi).1) (j - o) (by omega)
      rw [show o + (j - o) = j by omega] at e
      rw [e, ← h3, List.getElem?_eq_getElem (by omega)]
    · rw [World.cell?_setCells_out b vs o w ⟨b, j, none⟩ fun _ _ => h1]
      exact h.at_.to j u h2, fun j => (World.frozen?_setCells b vs o w _).trans (h.fr j)⟩
theorem NtF.pitch {w : World} {b : Nat} {n : No.Nt} (h : NtF w b n) (x y z : Int) : NtF (w.setCells b 9 [.int .i64 x, .int .i64 y, .int .i64 z]) b ⟨n.id, n.pa, n.ba, n.vo, n.os, n.sn, n.sd, n.ln, n.ld, x, y, z⟩ :=
  h.sets 9 _ _ (by simp) fun j u hj => by
    match j, hj with
    | 0, hj => exact .inr ⟨.inl (by decide), hj⟩
    | 1, hj => exact .inr ⟨.inl (by decide), hj⟩
    | 2, hj => exact .inr ⟨.inl (by decide), hj⟩
    | 3, hj => exact .inr ⟨.inl (by decide), hj⟩
    | 4, hj => exact .inr ⟨.inl (by decide), hj⟩
    | 5, hj => exact .inr ⟨.inl (by decide), hj⟩
    | 6, hj => exact .inr ⟨.inl (by decide), hj⟩
    | 7, hj => exact .inr ⟨.inl (by decide), hj⟩
    | 8, hj => exact .inr ⟨.inl (by decide), hj⟩
    | 9, hj => exact .inl ⟨by decide, by simp, hj⟩
    | 10, hj => exact .inl ⟨by decide, by simp, hj⟩
    | 11, hj => exact .inl ⟨by decide, by simp, hj⟩
    | j + 12, hj => simp [rowO] at hj
theorem NtF.part {w : World} {b : Nat} {n : No.Nt} (h : NtF w b n) (x : Int) : NtF (w.setCell ⟨b, 1, none⟩ (.int .i64 x)) b ⟨n.id, x, n.ba, n.vo, n.os, n.sn, n.sd, n.ln, n.ld, n.st, n.al, n.oc⟩ :=
  h.sets 1 [.int .i64 x] _ (by simp) fun j u hj => by
    match j, hj with
    | 0, hj => exact .inr ⟨.inl (by decide), hj⟩
    | 1, hj => exact .inl ⟨by decide, by simp, hj⟩
    | 2, hj => exact .inr ⟨.inr (by simp), hj⟩
    | 3, hj => exact .inr ⟨.inr (by simp), hj⟩
    | 4, hj => exact .inr ⟨.inr (by simp), hj⟩
    | 5, hj => exact .inr ⟨.inr (by simp), hj⟩
    | 6, hj => exact .inr ⟨.inr (by simp), hj⟩
    | 7, hj => exact .inr ⟨.inr (by simp), hj⟩
    | 8, hj => exact .inr ⟨.inr (by simp), hj⟩
    | 9, hj => exact .inr ⟨.inr (by simp), hj⟩
    | 10, hj => exact .inr ⟨.inr (by simp), hj⟩
    | 11, hj => exact .inr ⟨.inr (by simp), hj⟩
    | j + 12, hj => simp [rowO] at hj
/-- Its pitch is stored. -/
theorem NtF.run {w : World} {b : Nat} {n : No.Nt} (h : NtF w b n) (x y z : Int) : (storeVar 47 ⟨b, 9, none⟩ (.agg #[.int .i64 x, .int .i64 y, .int .i64 z])).run Tryz.prog w = .ok () (w.setCells b 9 [.int .i64 x, .int .i64 y, .int .i64 z]) :=
  run_storeVar_mid w b 9 47 #[.int .i64 x, .int .i64 y, .int .i64 z] (h.there (by simp)) (by kernel_rfl) (by simp [Value.oneCell'])
/-- Before and behind the store of the pitch. -/
def mvC (wr : World) (vm vn : Nat) (M N n : No.Nt) (vs : List Value) (w : World) : Prop := (Below wr.heap.size wr w ∧ NtB w vn n) ∧ match vs with
  | [] => NtF w vm M
  | _ => NtF w vm N
namespace Sc
theorem cnt_le (l : List Pt) (k : Nat) (ns : List No.Nt) : cnt (l.take k) ns ≤ cnt l ns := by
  conv => rhs; rw [← List.take_append_drop k l]
  rw [cnt_append]
  omega
end Sc
end Go.Proofs.YtbbjifhelbeniaaGreatDoor
