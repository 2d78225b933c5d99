/- My kit: texts that lean on no dump, in one file. -/
import Derived.Test.YtkfgflmhefbinaaRows
import Derived.Test.YtkfgflmhefbinaaTRule
import Derived.Test.YtkfgflmhefbinaaKit
import Derived.Lib.AppendZeros
import Derived.Test.YtkfgflmhefbinaaNodeMath
import Derived.Test.YtkfgflmhefbinaaMon
import Derived.Test.YtkfgflmhefbinaaRoundC
/- Contracts of the laws' helpers on Book (a struct of one slice of Rule, the nodes behind). -/
namespace Go.Proofs.Ytkfgflmhefbinaa.TBook
open Go.RowKit RowN TRule
/-- All of a book's rules have few nodes. -/
def Few (rs : List Ru) : Prop := ∀ j (h : j < rs.length), rs[j].Nodes.length ≤ 1099511627776
/-- The answer is a book with the rules rs in new memory. -/
def IsSto (rs : List Ru) (w : World) (e : Ending) (w' : World) : Prop := ∃ p c, e = .returned (.agg #[.slice p rs.length c]) ∧ OwD w' w.heap.size w'.heap.size (.slice p rs.length c) rs ∧ Below w.heap.size w w'
theorem rows_c (w : World) (a : Option Addr) (m cap : Nat) (rs : List Ru) (hm : rs.length = m) (hs : m ≤ 1099511627776) (hn : Few rs) (h : RdD w a rs) :
    Calls Try.prog 75 #[.slice a m cap] w (TRule.IsRow rs w) := by
  obtain ⟨xs, rfl, h0⟩ := h
  exact TRule.to_c w a m cap xs (by simpa using hm) hs (fun j hj => by have := hn j (by simpa using hj); simpa using this) h0
set_option maxHeartbeats 1000000 in
theorem to_c (w : World) (a : Option Addr) (m cap : Nat) (rs : List Ru) (hm : rs.length = m) (hs : m ≤ 1099511627776) (hn : Few rs) (h : RdD w a rs) :
    Calls Try.prog 35 #[.agg #[.slice a m cap]] w (IsSto rs w) := by
  have KK := Lib.hid h
  have HM := Lib.hid hm
  have HN := Lib.hid hn
  clear h hm hn
  go_enter Try.func35, Try.ntmps35
  go_wp2_with fail
  refine (rows_c _ a m cap rs HM.out hs HN.out (KK.out.on (by (repeat (first | exact Below.refl _ _ | apply BelowKit.bl_alloc | apply BelowKit.bl_drewN | apply BelowKit.bl_drew | (refine BelowKit.bl_set ?_ _ ?_; rotate_left; (first | omega | (simp; omega) | simp)) | (refine BelowKit.bl_trans ?_ (‹Hid (Below _ _ _)›).out)))))).mono ?_
  rintro e w1 ⟨p, cc, rfl, ho, hb⟩
  rw [HM.out] at ho ⊢
  obtain ⟨hc, hf⟩ := BelowKit.bcell hb
  have hz := hb.size
  simp at hz
  have HB := Lib.hid (show Below w.heap.size w w1 from BelowKit.bl_trans (by (repeat (first | exact Below.refl _ _ | apply BelowKit.bl_alloc | apply BelowKit.bl_drewN | apply BelowKit.bl_drew | (refine BelowKit.bl_set ?_ _ ?_; rotate_left; (first | omega | (simp; omega) | simp)) | (refine BelowKit.bl_trans ?_ (‹Hid (Below _ _ _)›).out)))) hb)
  have HO := Lib.hid ho
  have q0 : w1.cell? ⟨w.heap.size + 1, 0, none⟩ = some (.slice none 0 0) := (hc (w.heap.size + 1) 0 (by simp)).trans (by simp [go_sem])
  have r0 : w1.frozen? ⟨w.heap.size + 1, 0, none⟩ = false := (hf (w.heap.size + 1) 0 (by simp)).trans (by simp [go_sem])
  have q1 : w1.cell? ⟨w.heap.size + 1 + 1, 0, none⟩ = some (.slice none 0 0) := (hc (w.heap.size + 1 + 1) 0 (by simp)).trans (by simp [go_sem])
  have r1 : w1.frozen? ⟨w.heap.size + 1 + 1, 0, none⟩ = false := (hf (w.heap.size + 1 + 1) 0 (by simp)).trans (by simp [go_sem])
  clear hb ho hc hf
  go_wp2
  refine bodyPost_ret (v := .agg #[.slice p m cc]) (by simp [results, Try.results35, q0, go_sem]) rfl ⟨p, cc, ?_, ?_, ?_⟩
  · rw [HM.out]
  · rw [HM.out]
    refine (OwD.base ((HO.out.box (.inl (by simp)) _).box (.inl (by simp)) _) (by simp; omega)).up ?_ ?_
    · simp
    · simp
  · (repeat (first | exact Below.refl _ _ | apply BelowKit.bl_alloc | apply BelowKit.bl_drewN | apply BelowKit.bl_drew | (refine BelowKit.bl_set ?_ _ ?_; rotate_left; (first | omega | (simp; omega) | simp)) | (refine BelowKit.bl_trans ?_ (‹Hid (Below _ _ _)›).out)))
set_option maxHeartbeats 1000000 in
theorem eq_c (w : World) (m c1 c2 : Nat) (a1 a2 : Option Addr) (rs : List Ru) (hm : rs.length = m) (hs : m ≤ 1099511627776) (hn : Few rs) (h1 : RdD w a1 rs) (h2 : RdD w a2 rs) :
    Calls Try.prog 36 #[.agg #[.slice a1 m c1], .agg #[.slice a2 m c2]] w (IsBo true w) := by
  have K1 := Lib.hid h1
  have K2 := Lib.hid h2
  have HM := Lib.hid hm
  have HN := Lib.hid hn
  clear h1 h2 hm hn
  go_enter Try.func36, Try.ntmps36
  go_wp2_with fail
  refine (TRule.eq_c _ m c1 c2 a1 a2 rs HM.out hs HN.out (K1.out.on (by (repeat (first | exact Below.refl _ _ | apply BelowKit.bl_alloc | apply BelowKit.bl_drewN | apply BelowKit.bl_drew | (refine BelowKit.bl_set ?_ _ ?_; rotate_left; (first | omega | (simp; omega) | simp)) | (refine BelowKit.bl_trans ?_ (‹Hid (Below _ _ _)›).out))))) (K2.out.on (by (repeat (first | exact Below.refl _ _ | apply BelowKit.bl_alloc | apply BelowKit.bl_drewN | apply BelowKit.bl_drew | (refine BelowKit.bl_set ?_ _ ?_; rotate_left; (first | omega | (simp; omega) | simp)) | (refine BelowKit.bl_trans ?_ (‹Hid (Below _ _ _)›).out)))))).mono ?_
  rintro e w1 ⟨rfl, hb⟩
  have HB := Lib.hid hb
  clear hb
  go_wp2
  go_ret
  exact ⟨rfl, by (repeat (first | exact Below.refl _ _ | apply BelowKit.bl_alloc | apply BelowKit.bl_drewN | apply BelowKit.bl_drew | (refine BelowKit.bl_set ?_ _ ?_; rotate_left; (first | omega | (simp; omega) | simp)) | (refine BelowKit.bl_trans ?_ (‹Hid (Below _ _ _)›).out)))⟩
set_option maxHeartbeats 1000000 in
theorem mark_m (w : World) (lo hi : Nat) (a : Option Addr) (m cap : Nat) (rs : List Ru) (k : Int) (hm : rs.length = m) (hs : m ≤ 1099511627776) (hn : Few rs) (hk0 : 0 ≤ k) (hk1 : k + tot rs ≤ 1099511627776) (h : OwD w lo hi (.slice a m cap) rs) (hlo : lo ≤ w.heap.size) :
    Calls Try.prog 38 #[.agg #[.slice a m cap], .int .i64 k] w (Marked lo hi (.slice a m cap) (marks k rs) (k + tot rs) w) := by
  have KK := Lib.hid h
  have HM := Lib.hid hm
  have HN := Lib.hid hn
  have HLO := Lib.hid hlo
  have HK1 := Lib.hid hk1
  clear h hm hn hlo hk1
  go_enter Try.func38, Try.ntmps38
  go_wp2_with fail
  refine (TRule.mark_c _ lo hi a m cap rs k HM.out hs HN.out hk0 HK1.out (KK.out.on (by (repeat (first | exact Below.refl _ _ | apply BelowKit.bl_alloc | apply BelowKit.bl_drewN | apply BelowKit.bl_drew | (refine BelowKit.bl_set ?_ _ ?_; rotate_left; (first | omega | (simp; omega) | simp)) | (refine BelowKit.bl_trans ?_ (‹Hid (Below _ _ _)›).out))))) (Nat.le_trans HLO.out (by simp))).mono ?_
  rintro e w1 ⟨rfl, ho, hg⟩
  have HO := Lib.hid ho
  have HG := Lib.hid hg
  clear ho hg
  go_wp2
  go_ret
  exact ⟨rfl, HO.out, (Own.Mid.of_below (by (repeat (first | exact Below.refl _ _ | apply BelowKit.bl_alloc | apply BelowKit.bl_drewN | apply BelowKit.bl_drew | (refine BelowKit.bl_set ?_ _ ?_; rotate_left; (first | omega | (simp; omega) | simp)) | (refine BelowKit.bl_trans ?_ (‹Hid (Below _ _ _)›).out)))) HLO.out).trans HG.out⟩
set_option maxHeartbeats 1000000 in
theorem held_c (w : World) (a : Option Addr) (m cap : Nat) (rs : List Ru) (k : Int) (hm : rs.length = m) (hs : m ≤ 1099511627776) (hn : Few rs) (hk0 : 0 ≤ k) (hk1 : k + tot rs ≤ 1099511627776) (h : RdD w a (marks k rs)) :
    Calls Try.prog 40 #[.agg #[.slice a m cap], .int .i64 k] w (fun e w' => e = .returned (.int .i64 (k + tot rs)) ∧ Below w.heap.size w w') := by
  have KK := Lib.hid h
  have HM := Lib.hid hm
  have HN := Lib.hid hn
  have HK1 := Lib.hid hk1
  have hp : 0 ≤ k + tot rs := by have := tot_pos rs; omega
  clear h hm hn hk1
  go_enter Try.func40, Try.ntmps40
  go_wp2_with fail
  refine (TRule.held_c _ a m cap rs k HM.out hs HN.out hk0 HK1.out (KK.out.on (by (repeat (first | exact Below.refl _ _ | apply BelowKit.bl_alloc | apply BelowKit.bl_drewN | apply BelowKit.bl_drew | (refine BelowKit.bl_set ?_ _ ?_; rotate_left; (first | omega | (simp; omega) | simp)) | (refine BelowKit.bl_trans ?_ (‹Hid (Below _ _ _)›).out)))))).mono ?_
  rintro e w1 ⟨rfl, hb⟩
  have HB := Lib.hid hb
  obtain ⟨z, hz⟩ : ∃ z, k + tot rs = z := ⟨_, rfl⟩
  rw [hz] at hp ⊢
  have HZ := Lib.hid hz
  clear hb hz
  go_wp2
  go_ret
  exact ⟨by rw [HZ.out]; rfl, by (repeat (first | exact Below.refl _ _ | apply BelowKit.bl_alloc | apply BelowKit.bl_drewN | apply BelowKit.bl_drew | (refine BelowKit.bl_set ?_ _ ?_; rotate_left; (first | omega | (simp; omega) | simp)) | (refine BelowKit.bl_trans ?_ (‹Hid (Below _ _ _)›).out)))⟩
theorem sz_c (w : World) (a : Option Addr) (m cap : Nat) (k : Int) (rs : List Ru) (hm : rs.length = m) (hs : m ≤ 9223372036854775807) (hn : ∀ j (h : j < rs.length), rs[j].Nodes.length ≤ 9223372036854775807) (hk0 : 0 ≤ k) (hk1 : k ≤ 1099511627776) (h : RdD w a rs) :
    Calls Try.prog 33 #[.agg #[.slice a m cap], .int .i64 k] w (fun e w' => e = .returned (.int .i64 (if k < szT rs then -1 else k - szT rs)) ∧ Below w.heap.size w w') := by
  have KK := Lib.hid h
  have HM := Lib.hid hm
  have HN := Lib.hid hn
  obtain ⟨z, hz⟩ : ∃ z, szT rs = z := ⟨_, rfl⟩
  have HZ := Lib.hid hz
  rw [hz]
  clear h hm hn hz
  by_cases hb : k < z
  · rw [if_pos hb]
    have HB := Lib.hid hb
    go_enter Try.func33, Try.ntmps33
    go_wp2_with fail
    refine (TRule.sz_c _ a m cap k rs HM.out hs HN.out hk0 hk1 (KK.out.on (by (repeat (first | exact Below.refl _ _ | apply BelowKit.bl_alloc | apply BelowKit.bl_drewN | apply BelowKit.bl_drew | (refine BelowKit.bl_set ?_ _ ?_; rotate_left; (first | omega | (simp; omega) | simp)) | (refine BelowKit.bl_trans ?_ (‹Hid (Below _ _ _)›).out)))))).mono ?_
    rintro e w1 ⟨rfl, hb1⟩
    have HB1 := Lib.hid hb1
    clear hb1
    rw [HZ.out, if_pos HB.out]
    go_wp2
    go_ret
    exact ⟨rfl, by (repeat (first | exact Below.refl _ _ | apply BelowKit.bl_alloc | apply BelowKit.bl_drewN | apply BelowKit.bl_drew | (refine BelowKit.bl_set ?_ _ ?_; rotate_left; (first | omega | (simp; omega) | simp)) | (refine BelowKit.bl_trans ?_ (‹Hid (Below _ _ _)›).out)))⟩
  · rw [if_neg hb]
    have HB := Lib.hid hb
    go_enter Try.func33, Try.ntmps33
    go_wp2_with fail
    refine (TRule.sz_c _ a m cap k rs HM.out hs HN.out hk0 hk1 (KK.out.on (by (repeat (first | exact Below.refl _ _ | apply BelowKit.bl_alloc | apply BelowKit.bl_drewN | apply BelowKit.bl_drew | (refine BelowKit.bl_set ?_ _ ?_; rotate_left; (first | omega | (simp; omega) | simp)) | (refine BelowKit.bl_trans ?_ (‹Hid (Below _ _ _)›).out)))))).mono ?_
    rintro e w1 ⟨rfl, hb1⟩
    have HB1 := Lib.hid hb1
    clear hb1
    rw [HZ.out, if_neg (by have := HB.out; omega)]
    obtain ⟨v, hv⟩ : ∃ v, k - z = v := ⟨_, rfl⟩
    have hv0 : 0 ≤ v := by have := HB.out; omega
    rw [hv]
    have HV := Lib.hid hv
    clear hv
    go_wp2
    go_ret
    exact ⟨by rw [HV.out]; rfl, by (repeat (first | exact Below.refl _ _ | apply BelowKit.bl_alloc | apply BelowKit.bl_drewN | apply BelowKit.bl_drew | (refine BelowKit.bl_set ?_ _ ?_; rotate_left; (first | omega | (simp; omega) | simp)) | (refine BelowKit.bl_trans ?_ (‹Hid (Below _ _ _)›).out)))⟩
end Go.Proofs.Ytkfgflmhefbinaa.TBook

/- Rows of rules that grow by append, or whose nodes are copied one by one; a new row that has room. -/
namespace Go.Proofs.Ytkfgflmhefbinaa.RuleRow
open Go.RowKit RowN TRule TBook
theorem own_cap {α : Type} {f : α → List Value} {c : Nat} {w : World} {B T n cap : Nat} {a : Option Addr} {l : List α} (h : Owns f c w B T (.slice a n cap) l) : n ≤ cap := by
  rcases h.2 with ⟨e, _⟩ | ⟨g, cap', cur, e, _, _, hnc, _⟩
  · cases e; exact Nat.le_refl _
  · cases e; exact hnc
theorem OwD.cap {w : World} {lo hi n cap : Nat} {a : Option Addr} {rs : List Ru} (h : OwD w lo hi (.slice a n cap) rs) : n ≤ cap := by
  obtain ⟨xs, _, h⟩ := h
  exact own_cap h.out.own
/-- The row is the call's own, and so are the nodes behind its first j elements. -/
structure Part (w : World) (lo hi : Nat) (v : Value) (j : Nat) (ys : List El) : Prop where
  out : Own.Ow fc 7 T w lo hi v ys
  inn : ∀ k (h : k < ys.length), k < j → Own.Ow TNode.fc 6 TNode.T w lo hi (sl ys[k]) ys[k].r.Nodes
  apart : ∀ i (h : i < ys.length) k, i < j → (sl ys[i]).ownBlock = some k → v.ownBlock ≠ some k
  sep : ∀ i i' (hi : i < ys.length) (hi' : i' < ys.length) k, i < j → i' < j → i ≠ i' → (sl ys[i]).ownBlock = some k → (sl ys[i']).ownBlock ≠ some k
theorem Part.on {w w' : World} {lo hi j : Nat} {v : Value} {ys : List El} (h : Part w lo hi v j ys) (hb : Below w.heap.size w w') : Part w' lo hi v j ys :=
  ⟨h.out.on hb, fun k hk hj => (h.inn k hk hj).on hb, h.apart, h.sep⟩
theorem Part.up {w : World} {lo hi hi' j : Nat} {v : Value} {ys : List El} (h : Part w lo hi v j ys) (h1 : hi ≤ hi') (h2 : hi' ≤ w.heap.size) : Part w lo hi' v j ys :=
  ⟨⟨h.out.own, fun k hk => Nat.lt_of_lt_of_le (h.out.top k hk) h1, h2⟩, fun k hk hj => ⟨(h.inn k hk hj).own, fun q hq => Nat.lt_of_lt_of_le ((h.inn k hk hj).top q hq) h1, h2⟩, h.apart, h.sep⟩
theorem Part.start {w : World} {lo hi : Nat} {v : Value} {ys : List El} (h : Own.Ow fc 7 T w lo hi v ys) : Part w lo hi v 0 ys :=
  ⟨h, fun _ _ e => by omega, fun _ _ _ e => by omega, fun _ _ _ _ _ e => by omega⟩
theorem Part.nest {w : World} {lo hi j : Nat} {v : Value} {ys : List El} (h : Part w lo hi v j ys) (hj : ys.length ≤ j) : Nest w lo hi v ys :=
  ⟨h.out, fun k hk => h.inn k hk (by omega), fun i hi k hk => h.apart i hi k (by omega) hk, fun i i' hi hi' k hne hk => h.sep i i' hi hi' k (by omega) (by omega) hne hk⟩
/-- The next element's nodes are copied: its slice is stored. -/
theorem Part.put {w : World} {lo hi g cap n j : Nat} {ys : List El} (h : Part w lo hi (.slice (some ⟨g, 0, none⟩) n cap) j ys) (hj : j < ys.length) (p : Option Addr) (c : Nat) (hx : Own.Ow TNode.fc 6 TNode.T w lo hi (.slice p ys[j].r.Nodes.length c) ys[j].r.Nodes)
    (hg : ∀ k, (Value.slice p ys[j].r.Nodes.length c).ownBlock = some k → k ≠ g) (hs : ∀ k, (Value.slice p ys[j].r.Nodes.length c).ownBlock = some k → ∀ i (hi : i < ys.length), i < j → (sl ys[i]).ownBlock ≠ some k) :
    Part (w.setCell ⟨g, j * 7 + 6, none⟩ (.slice p ys[j].r.Nodes.length c)) lo hi (.slice (some ⟨g, 0, none⟩) n cap) (j + 1) (ys.set j ⟨ys[j].r, p, c⟩) := by
  have hsz : (w.setCell ⟨g, j * 7 + 6, none⟩ (.slice p ys[j].r.Nodes.length c)).heap.size = w.heap.size := by simp
  refine ⟨⟨h.out.own.stored fw j hj 6 (by omega) (.slice p ys[j].r.Nodes.length c) ⟨ys[j].r, p, c⟩ rfl, h.out.top, by rw [hsz]; exact h.out.lim⟩, fun i hi hij => ?_, fun i hi k hij hk => ?_, fun i i' hi hi' k hij hij' hne hk => ?_⟩
  · rw [List.length_set] at hi
    by_cases e : j = i
    · subst e
      rw [List.getElem_set_self]
      exact ⟨hx.own.beside (fun e => hg g e rfl) _, hx.top, by rw [hsz]; exact hx.lim⟩
    · rw [List.getElem_set_ne e]
      have q := h.inn i hi (by omega)
      exact ⟨q.own.beside (fun e2 => h.apart i hi g (by omega) e2 rfl) _, q.top, by rw [hsz]; exact q.lim⟩
  · rw [List.length_set] at hi
    by_cases e : j = i
    · subst e
      rw [List.getElem_set_self] at hk
      intro e2
      exact hg k hk (Option.some.inj e2).symm
    · rw [List.getElem_set_ne e] at hk
      exact h.apart i hi k (by omega) hk
  · rw [List.length_set] at hi hi'
    by_cases e : j = i
    · subst e
      rw [List.getElem_set_self] at hk
      rw [List.getElem_set_ne hne]
      exact hs k hk i' hi' (by omega)
    · rw [List.getElem_set_ne e] at hk
      by_cases e' : j = i'
      · subst e'
        rw [List.getElem_set_self]
        intro e2
        exact hs k e2 i hi (by omega) hk
      · rw [List.getElem_set_ne e']
        exact h.sep i i' hi hi' k (by omega) (by omega) hne hk
/-- An element is appended, its nodes in a block that nothing else has. -/
theorem Nest.snoc {w w' : World} {lo hi : Nat} {v v' : Value} {xs : List El} {x : El} (h : Nest w lo hi v xs) (hx : Own.Ow TNode.fc 6 TNode.T w lo hi (sl x) x.r.Nodes)
    (hv : ∀ k, (sl x).ownBlock = some k → v.ownBlock ≠ some k) (hs : ∀ k, (sl x).ownBlock = some k → ∀ i (hi : i < xs.length), (sl xs[i]).ownBlock ≠ some k)
    (ho : Owns fc 7 w' lo T v' (xs ++ [x])) (hg : w.grownBy w' v.ownBlock) (ha : At w v v') : Nest w' lo w'.heap.size v' (xs ++ [x]) := by
  have at_ : ∀ i (hi : i < (xs ++ [x]).length), (∃ h : i < xs.length, (xs ++ [x])[i] = xs[i]) ∨ (i = xs.length ∧ (xs ++ [x])[i] = x) := fun i hi => by
    by_cases e : i < xs.length
    · exact .inl ⟨e, List.getElem_append_left e⟩
    · have : i = xs.length := by simp at hi; omega
      subst this
      exact .inr ⟨rfl, by simp⟩
  have ow : ∀ (y : El), Own.Ow TNode.fc 6 TNode.T w lo hi (sl y) y.r.Nodes → (∀ k, (sl y).ownBlock = some k → v.ownBlock ≠ some k) → Own.Ow TNode.fc 6 TNode.T w' lo w'.heap.size (sl y) y.r.Nodes := fun y hy hne =>
    Own.ow_of (hy.own.kept hg (by
      cases e : (sl y).ownBlock with
      | none => exact .inl rfl
      | some k => exact .inr (fun e2 => hne k e e2.symm)))
  have ap : ∀ (y : El), Own.Ow TNode.fc 6 TNode.T w lo hi (sl y) y.r.Nodes → (∀ k, (sl y).ownBlock = some k → v.ownBlock ≠ some k) → ∀ k, (sl y).ownBlock = some k → v'.ownBlock ≠ some k := fun y hy hne k hk e => by
    rcases ha k e with q | q
    · exact hne k hk q
    · have := hy.top k hk
      have := hy.lim
      omega
  refine ⟨Own.ow_of ho, fun i hi => ?_, fun i hi k hk => ?_, fun i i' hi hi' k hne hk => ?_⟩
  · rcases at_ i hi with ⟨q, e⟩ | ⟨_, e⟩
    · rw [e]; exact ow _ (h.inn i q) (fun k hk => h.apart i q k hk)
    · rw [e]; exact ow _ hx hv
  · rcases at_ i hi with ⟨q, e⟩ | ⟨_, e⟩
    · rw [e] at hk; exact ap _ (h.inn i q) (fun k hk => h.apart i q k hk) k hk
    · rw [e] at hk; exact ap _ hx hv k hk
  · rcases at_ i hi with ⟨q, e⟩ | ⟨q, e⟩
    · rw [e] at hk
      rcases at_ i' hi' with ⟨q', e'⟩ | ⟨_, e'⟩
      · rw [e']; exact h.sep i i' q q' k hne hk
      · rw [e']; intro e2; exact hs k e2 i q hk
    · rw [e] at hk
      rcases at_ i' hi' with ⟨q', e'⟩ | ⟨q', e'⟩
      · rw [e']; exact hs k hk i' q'
      · omega
/-- A store into a block that none of the rows has. -/
theorem Nest.beside {w : World} {lo hi b o : Nat} {v : Value} {xs : List El} (h : Nest w lo hi v xs) (h1 : v.ownBlock ≠ some b) (h2 : ∀ i (hi : i < xs.length), (sl xs[i]).ownBlock ≠ some b) (u : Value) : Nest (w.setCell ⟨b, o, none⟩ u) lo hi v xs :=
  ⟨⟨h.out.own.beside h1 u, h.out.top, by simpa using h.out.lim⟩, fun j hj => ⟨(h.inn j hj).own.beside (h2 j hj) u, (h.inn j hj).top, by simpa using (h.inn j hj).lim⟩, h.apart, h.sep⟩
theorem grow_step {w4 w5 : World} {lo hi : Nat} {s v' : Value} {ys : List El} {x : El} (h : Nest w4 lo hi s ys) (hlo : lo ≤ hi) (hx : Own.Ow TNode.fc 6 TNode.T w4 hi w4.heap.size (sl x) x.r.Nodes)
    (ho : Owns fc 7 w5 lo T v' (ys ++ [x])) (o : Obj) (hg : (w4.alloc o).grownBy w5 s.ownBlock) (ha : At (w4.alloc o) s v') : Nest w5 lo w5.heap.size v' (ys ++ [x]) ∧ Below lo w4 w5 := by
  have hb : Below w4.heap.size w4 (w4.alloc o) := BelowKit.bl_alloc (Below.refl _ _)
  have hl := h.out.lim
  have hz : w4.heap.size ≤ (w4.alloc o).heap.size := hb.size
  refine ⟨Nest.snoc ((h.on hb).up (hi' := w4.heap.size) hl hz) ((hx.on hb).base hlo) (fun k hk e => ?_) (fun k hk i hi e => ?_) ho hg ha, ?_⟩
  · have h1 := hx.own.low k hk
    have h2 := h.out.top k e
    omega
  · have h1 := hx.own.low k hk
    have h2 := (h.inn i hi).top k e
    omega
  · exact ((Below.refl lo w4).alloc (by omega) o).grown hg (by omega) (fun k hk => h.out.own.low k hk)
/-- The answer is AddRule's, in new memory. -/
def IsAdd (rs : List Ru) (b : Bool) (w : World) (e : Ending) (w' : World) : Prop := ∃ p c, e = .returned (.tuple #[.agg #[.slice p rs.length c], .bool b]) ∧ OwD w' w.heap.size w'.heap.size (.slice p rs.length c) rs ∧ Below w.heap.size w w'
theorem reads_snoc {w : World} {lo : Nat} {n cap : Nat} {p : Option Addr} {xs : List El} {y : El} (ho : Owns fc 7 w lo T (.slice p n cap) (xs ++ [y])) (h : ∀ j (h : j < xs.length), Reads TNode.fc 6 w xs[j].p xs[j].r.Nodes) (hy : Reads TNode.fc 6 w y.p y.r.Nodes) : ReadsD w p (xs ++ [y]) := by
  refine ⟨reads_own fw ho, fun j hj => ?_⟩
  by_cases e : j < xs.length
  · rw [List.getElem_append_left e]; exact h j e
  · obtain rfl : j = xs.length := by simp at hj; omega
    simpa using hy
theorem few_snoc {rs : List Ru} {r : Ru} (h : Few rs) (hr : r.Nodes.length ≤ 1099511627776) : Few (rs ++ [r]) := fun j hj => by
  by_cases e : j < rs.length
  · rw [List.getElem_append_left e]; exact h j e
  · obtain rfl : j = rs.length := by simp at hj; omega
    simpa using hr
theorem newR (w : World) (x : El) (g : Nat) (hg : w.heap.size = g) : ∀ j u, ([x].flatMap fc)[j]? = some u →
    (w.alloc (.cells #[.int .i64 x.r.Name, .int .i64 x.r.From, .int .i64 x.r.To, .int .i64 x.r.Joined, .int .i64 x.r.Rank, .int .i64 x.r.Mode, .slice x.p x.r.Nodes.length x.c] 34)).cell? ((⟨g, 0, none⟩ : Addr).add j) = some u := by
  subst hg
  exact news_block (T := 34) (heap_alloc_new w _)
theorem newL (w : World) (x0 x1 x2 x3 x4 x5 : Int) (p : Option Addr) (n c : Nat) (l : List TNode.El) (hn : l.length = n) (g : Nat) (hg : w.heap.size = g) : ∀ j u, ([(⟨⟨x0, x1, x2, x3, x4, x5, l⟩, p, c⟩ : El)].flatMap fc)[j]? = some u →
    (w.alloc (.cells #[.int .i64 x0, .int .i64 x1, .int .i64 x2, .int .i64 x3, .int .i64 x4, .int .i64 x5, .slice p n c] 34)).cell? ((⟨g, 0, none⟩ : Addr).add j) = some u := by
  subst hn
  exact newR w ⟨⟨x0, x1, x2, x3, x4, x5, l⟩, p, c⟩ g hg
theorem newD (w : World) (x : El) (g : Nat) (hg : w.heap.size = g) : Reads fc 7 (w.alloc (.cells #[.int .i64 x.r.Name, .int .i64 x.r.From, .int .i64 x.r.To, .int .i64 x.r.Joined, .int .i64 x.r.Rank, .int .i64 x.r.Mode, .slice x.p x.r.Nodes.length x.c] 34)) (some ⟨g, 0, none⟩) [x] := fun j hj => by
  obtain rfl : j = 0 := by simpa using hj
  refine ⟨g, 0, rfl, by subst hg; simp, fun i hi => ?_⟩
  have e : (fc x)[i]? = some ((fc x)[i]'(by simpa [fc] using hi)) := List.getElem?_eq_getElem _
  have := newR w x g hg i _ (by rw [show ([x].flatMap fc) = fc x by simp]; exact e)
  simp only [Addr.add] at this
  simp only [List.getElem_cons_zero, Nat.zero_mul, Nat.zero_add]
  rw [e]
  by_cases h0 : i = 0
  · subst h0; simpa using this
  · simpa [h0] using this
section
variable {α : Type} {f : α → List Value} {c : Nat}
theorem zero_size (z : Array Value) (n : Nat) : (Builtin.zeroCells z n).size = n * z.size := by simp [Builtin.zeroCells]
/-- append(nil, make([]T, n)...): a new block of zeros. -/
theorem run_zerosN {P : Program} {t T tn : TypeId} {z : Value} {cb : Nat} (st : ElT P t T z c cb) (hc : 0 < c) (kn : IntKind) (htn : P.underlying tn = some (.int kn)) (w : World) (ty : TypeId) (n : Nat) (h0 : 0 < n) (hn : n ≤ 1099511627776) :
    (Builtin.append_ #[t, tn] ty #[.slice none 0 0, .int kn n]).run P w =
      .ok (.slice (some ⟨w.heap.size, 0, none⟩) n (grownCap w n 0 T)) (w.drew.alloc (.cells (Builtin.zeroCells z.cells n ++ Builtin.zeroCells z.cells (grownCap w n 0 T - n)) T)) := by
  obtain ⟨i0, hi, hz0, hz1, hz2⟩ := info_parts st.hi
  refine Lib.run_append_nil_zeros w t tn ty T i0 z kn kn st.ht htn hi hz0 n h0 (by rw [hz1]; exact hc) (by omega) ?_
  rw [hz2]
  exact Nat.le_trans (Nat.mul_le_mul hn st.hb) (by omega)
/-- Such a block, cut to length 0, is an empty row with room. -/
theorem owns_room {P : Program} {t T : TypeId} {z : Value} {cb : Nat} (st : ElT P t T z c cb) (w : World) (B n : Nat) (hB : B ≤ w.heap.size) (hn : n ≤ 1099511627776) :
    Owns f c (w.drew.alloc (.cells (Builtin.zeroCells z.cells n ++ Builtin.zeroCells z.cells (grownCap w n 0 T - n)) T)) B T (.slice (some ⟨w.heap.size, 0, none⟩) 0 (grownCap w n 0 T)) [] := by
  have h1 := grownCap_ge w n 0 T
  have h2 := grownCap_le_maxLen w n 0 T (by unfold maxLen; omega)
  refine ⟨by simp, .inr ⟨_, _, _, rfl, hB, heap_alloc_new w.drew _, Nat.zero_le _, h2, ?_, by simp⟩⟩
  rw [Array.size_append, zero_size, zero_size, st.hz, ← Nat.add_mul]
  congr 1
  omega
end
end Go.Proofs.Ytkfgflmhefbinaa.RuleRow

/- Rule books: which rule applies: plain mathematics. -/
namespace Go.Proofs.Ytkfgflmhefbinaa.BookMath
open TRule Mon
/-- A valid rule. -/
structure RuleP (r : Ru) : Prop where
  name : 1 ≤ r.Name ∧ r.Name ≤ 20
  months : 0 ≤ r.From ∧ r.From < r.To ∧ r.To ≤ 3600
  joined : 1 ≤ r.Joined ∧ r.Joined ≤ 3600
  rank : 0 ≤ r.Rank ∧ r.Rank ≤ 9
  mode : 1 ≤ r.Mode ∧ r.Mode ≤ 4
  nodes : NodeMath.okF r.Nodes = true
noncomputable def ruleB (r : Ru) : Bool := inB r.Name 1 20 && decide (0 ≤ r.From) && decide (r.From < r.To) && decide (r.To ≤ 3600) && inB r.Joined 1 3600 && inB r.Rank 0 9 && inB r.Mode 1 4 && NodeMath.okF r.Nodes
theorem ruleB_of {r : Ru} (h : ruleB r = true) : RuleP r := by
  simp only [ruleB, Bool.and_eq_true, decide_eq_true_eq] at h
  obtain ⟨⟨⟨⟨⟨⟨⟨h1, h2⟩, h3⟩, h4⟩, h5⟩, h6⟩, h7⟩, h8⟩ := h
  exact ⟨inB_of h1, ⟨h2, h3, h4⟩, inB_of h5, inB_of h6, inB_of h7, h8⟩
theorem ruleB_yes {r : Ru} (h : RuleP r) : ruleB r = true := by
  have h1 := inB_yes h.name.1 h.name.2
  have h5 := inB_yes h.joined.1 h.joined.2
  have h6 := inB_yes h.rank.1 h.rank.2
  have h7 := inB_yes h.mode.1 h.mode.2
  simp [ruleB, h1, h5, h6, h7, h.nodes, h.months.1, h.months.2.1, h.months.2.2]
theorem ruleB_no {r : Ru} (h : ¬ RuleP r) : ruleB r = false := by
  cases e : ruleB r with
  | true => exact absurd (ruleB_of e) h
  | false => rfl
/-- Two rules of one name and one rank that have a common month. -/
def clash (o r : Ru) : Bool := decide (o.Name = r.Name) && decide (o.Rank = r.Rank) && decide (0 < common o.From o.To r.From r.To)
theorem clash_iff {o r : Ru} (ho : RuleP o) (hr : RuleP r) : clash o r = true ↔ o.Name = r.Name ∧ o.Rank = r.Rank ∧ o.From < r.To ∧ r.From < o.To := by
  have a1 := ho.months
  have a2 := hr.months
  have c : common o.From o.To r.From r.To = max 0 (min o.To r.To - max o.From r.From) := by
    unfold common
    rw [if_pos ⟨inB_yes (by omega) (by omega), inB_yes (by omega) (by omega), inB_yes (by omega) (by omega), inB_yes (by omega) (by omega)⟩]
  simp only [clash, Bool.and_eq_true, decide_eq_true_eq, c]
  constructor
  · rintro ⟨⟨h1, h2⟩, h3⟩; exact ⟨h1, h2, by omega, by omega⟩
  · rintro ⟨h1, h2, h3, h4⟩; exact ⟨⟨h1, h2⟩, by omega⟩
theorem clash_comm (o r : Ru) : clash o r = clash r o := by
  have c : common o.From o.To r.From r.To = common r.From r.To o.From o.To := by
    unfold common
    by_cases h : inB o.From 0 3600 = true ∧ inB o.To 0 3600 = true ∧ inB r.From 0 3600 = true ∧ inB r.To 0 3600 = true
    · rw [if_pos h, if_pos ⟨h.2.2.1, h.2.2.2, h.1, h.2.1⟩]; omega
    · rw [if_neg h, if_neg (fun k => h ⟨k.2.2.1, k.2.2.2, k.1, k.2.1⟩)]
  have e1 : decide (o.Name = r.Name) = decide (r.Name = o.Name) := decide_eq_decide.2 ⟨Eq.symm, Eq.symm⟩
  have e2 : decide (o.Rank = r.Rank) = decide (r.Rank = o.Rank) := decide_eq_decide.2 ⟨Eq.symm, Eq.symm⟩
  unfold clash
  rw [c, e1, e2]
/-- A valid book. -/
structure BookP (rs : List Ru) : Prop where
  len : rs.length ≤ 20
  rule : ∀ i (h : i < rs.length), RuleP rs[i]
  apart : ∀ i k (h : i < rs.length) (hk : k < i), clash (rs[k]'(by omega)) rs[i] = false
/-- None of the first k rules clashes with r. -/
def freeTo (rs : List Ru) (r : Ru) (k : Nat) : Bool := (rs.take k).all fun o => !clash o r
theorem freeTo_zero (rs : List Ru) (r : Ru) : freeTo rs r 0 = true := by simp [freeTo]
theorem freeTo_succ (rs : List Ru) (r : Ru) (k : Nat) (h : k < rs.length) : freeTo rs r (k + 1) = (freeTo rs r k && !clash rs[k] r) := by
  unfold freeTo
  rw [List.take_succ_eq_append_getElem h, List.all_append]
  simp
theorem freeTo_at {rs : List Ru} {r : Ru} {k i : Nat} (h : freeTo rs r k = true) (hi : i < k) (hl : i < rs.length) : clash rs[i] r = false := by
  unfold freeTo at h
  have := List.all_eq_true.1 h rs[i] (List.mem_take_iff_getElem.2 ⟨i, by omega, rfl⟩)
  simpa using this
theorem freeTo_no {rs : List Ru} {r : Ru} {k n : Nat} (h : k < rs.length) (hc : clash rs[k] r = true) (hn : k < n) : freeTo rs r n = false := by
  cases e : freeTo rs r n with
  | true => rw [freeTo_at e hn h] at hc; cases hc
  | false => rfl
/-- The first k rules are valid and apart. -/
def OkTo (rs : List Ru) (k : Nat) : Prop := ∀ i (h : i < rs.length), i < k → RuleP rs[i] ∧ freeTo rs rs[i] i = true
theorem OkTo.zero (rs : List Ru) : OkTo rs 0 := fun _ _ h => by omega
theorem OkTo.succ {rs : List Ru} {k : Nat} (h : OkTo rs k) (hk : k < rs.length) (h1 : RuleP rs[k]) (h2 : freeTo rs rs[k] k = true) : OkTo rs (k + 1) := fun i hi hl => by
  by_cases e : i = k
  · subst e; exact ⟨h1, h2⟩
  · exact h i hi (by omega)
theorem book_of {rs : List Ru} (h : OkTo rs rs.length) (hl : rs.length ≤ 20) : BookP rs :=
  ⟨hl, fun i hi => (h i hi hi).1, fun i k hi hk => freeTo_at (h i hi hi).2 hk (by omega)⟩
open Classical in
noncomputable def bookB (rs : List Ru) : Bool := decide (BookP rs)
theorem bookB_yes {rs : List Ru} (h : BookP rs) : bookB rs = true := by simp [bookB, h]
theorem bookB_of {rs : List Ru} (h : bookB rs = true) : BookP rs := by simpa [bookB] using h
theorem bookB_no {rs : List Ru} (h : ¬ BookP rs) : bookB rs = false := by simp [bookB, h]
theorem bookB_rule {rs : List Ru} {i : Nat} (h : i < rs.length) (hr : ¬ RuleP rs[i]) : bookB rs = false := bookB_no fun hb => hr (hb.rule i h)
theorem bookB_clash {rs : List Ru} {i k : Nat} (h : i < rs.length) (hk : k < i) (hc : clash (rs[k]'(by omega)) rs[i] = true) : bookB rs = false := bookB_no fun hb => by
  have := hb.apart i k h hk
  rw [this] at hc; cases hc
theorem bookB_len {rs : List Ru} (h : ¬ rs.length ≤ 20) : bookB rs = false := bookB_no fun hb => h hb.len
theorem bookB_len_is {rs : List Ru} (h : OkTo rs rs.length) : bookB rs = decide (rs.length ≤ 20) := by
  by_cases hl : rs.length ≤ 20
  · rw [bookB_yes (book_of h hl), decide_eq_true hl]
  · rw [bookB_len hl, decide_eq_false hl]
theorem clash_yes {o r : Ru} (h1 : o.Name = r.Name) (h2 : o.Rank = r.Rank) (h3 : 0 < common o.From o.To r.From r.To) : clash o r = true := by simp [clash, h1, h2, h3]
theorem clash_no {o r : Ru} (h : ¬ (o.Name = r.Name ∧ o.Rank = r.Rank ∧ 0 < common o.From o.To r.From r.To)) : clash o r = false := by
  cases e : clash o r with
  | false => rfl
  | true =>
    simp only [clash, Bool.and_eq_true, decide_eq_true_eq] at e
    exact absurd ⟨e.1.1, e.1.2, e.2⟩ h
theorem freeTo_go {rs : List Ru} {r : Ru} {k : Nat} (hf : freeTo rs r k = true) (h : k < rs.length) (hc : clash rs[k] r = false) : freeTo rs r (k + 1) = true := by rw [freeTo_succ rs r k h, hf, hc]; rfl
/-- The rule applies. -/
def appl (name m joined : Int) (r : Ru) : Bool := decide (r.Name = name) && decide (r.From ≤ m) && decide (m < r.To) && decide (joined < r.Joined)
theorem appl_iff {name m joined : Int} {r : Ru} : appl name m joined r = true ↔ r.Name = name ∧ r.From ≤ m ∧ m < r.To ∧ joined < r.Joined := by
  simp only [appl, Bool.and_eq_true, decide_eq_true_eq]
  exact ⟨fun ⟨⟨⟨a, b⟩, c⟩, d⟩ => ⟨a, b, c, d⟩, fun ⟨a, b, c, d⟩ => ⟨⟨⟨a, b⟩, c⟩, d⟩⟩
def rankAt (rs : List Ru) (i : Int) : Int := match rs[i.toNat]? with | some r => r.Rank | none => 0
theorem rankAt_get {rs : List Ru} {i : Nat} (h : i < rs.length) : rankAt rs (i : Int) = rs[i].Rank := by simp [rankAt, h]
/-- The best rule among the first k. -/
def forTo (rs : List Ru) (name m joined : Int) : Nat → Int
  | 0 => -1
  | k + 1 => if h : k < rs.length then (if appl name m joined rs[k] = true ∧ (forTo rs name m joined k < 0 ∨ rankAt rs (forTo rs name m joined k) < rs[k].Rank) then (k : Int) else forTo rs name m joined k) else forTo rs name m joined k
def forB (rs : List Ru) (name m joined : Int) : Int := forTo rs name m joined rs.length
theorem forTo_no {rs : List Ru} {name m joined : Int} {k : Nat} (h : k < rs.length) (ha : appl name m joined rs[k] = false) : forTo rs name m joined (k + 1) = forTo rs name m joined k := by
  rw [forTo, dif_pos h, if_neg (fun e => by rw [ha] at e; cases e.1)]
theorem forTo_first {rs : List Ru} {name m joined : Int} {k : Nat} (h : k < rs.length) (ha : appl name m joined rs[k] = true) (hb : forTo rs name m joined k = -1) : forTo rs name m joined (k + 1) = (k : Int) := by
  rw [forTo, dif_pos h, if_pos ⟨ha, .inl (by omega)⟩]
theorem forTo_more {rs : List Ru} {name m joined : Int} {k j : Nat} (h : k < rs.length) (ha : appl name m joined rs[k] = true) (hb : forTo rs name m joined k = (j : Int)) (hj : j < rs.length) (hr : rs[j].Rank < rs[k].Rank) : forTo rs name m joined (k + 1) = (k : Int) := by
  rw [forTo, dif_pos h, if_pos ⟨ha, .inr (by rw [hb, rankAt_get hj]; exact hr)⟩]
theorem forTo_less {rs : List Ru} {name m joined : Int} {k j : Nat} (h : k < rs.length) (hb : forTo rs name m joined k = (j : Int)) (hj : j < rs.length) (hr : ¬ rs[j].Rank < rs[k].Rank) : forTo rs name m joined (k + 1) = (j : Int) := by
  rw [forTo, dif_pos h, if_neg (fun e => by rcases e.2 with q | q; omega; rw [hb, rankAt_get hj] at q; exact hr q), hb]
theorem appl_no {name m joined : Int} {r : Ru} (h : ¬ (r.Name = name ∧ r.From ≤ m ∧ m < r.To ∧ joined < r.Joined)) : appl name m joined r = false := by
  cases e : appl name m joined r with
  | false => rfl
  | true => exact absurd (appl_iff.1 e) h
/-- What the best rule among the first k is. -/
def BestTo (rs : List Ru) (name m joined : Int) (k : Nat) (b : Int) : Prop :=
  (b = -1 ∧ ∀ i (h : i < rs.length), i < k → appl name m joined rs[i] = false) ∨
  ∃ j : Nat, b = (j : Int) ∧ j < k ∧ ∃ h : j < rs.length, appl name m joined rs[j] = true ∧ (∀ i (hi : i < rs.length), i < k → appl name m joined rs[i] = true → rs[i].Rank ≤ rs[j].Rank) ∧ (∀ i (hi : i < rs.length), i < j → appl name m joined rs[i] = true → rs[i].Rank < rs[j].Rank)
theorem best_to (rs : List Ru) (name m joined : Int) : ∀ k, k ≤ rs.length → BestTo rs name m joined k (forTo rs name m joined k)
  | 0, _ => .inl ⟨rfl, fun _ _ h => by omega⟩
  | k + 1, hk => by
    have hk1 : k < rs.length := by omega
    have ih := best_to rs name m joined k (by omega)
    rw [forTo, dif_pos hk1]
    rcases ih with ⟨hb, hno⟩ | ⟨j, hb, hjk, hj, ha, hge, hlt⟩
    · rw [hb]
      cases e : appl name m joined rs[k] with
      | true =>
        rw [if_pos ⟨rfl, .inl (by omega)⟩]
        refine .inr ⟨k, rfl, by omega, hk1, e, fun i hi hik h => ?_, fun i hi hik h => ?_⟩
        · by_cases e2 : i = k
          · subst e2; exact Int.le_refl _
          · rw [hno i hi (by omega)] at h
            cases h
        · rw [hno i hi hik] at h
          cases h
      | false =>
        rw [if_neg (fun h => by cases h.1)]
        exact .inl ⟨rfl, fun i hi hik => by
          by_cases e2 : i = k
          · subst e2; exact e
          · exact hno i hi (by omega)⟩
    · rw [hb, rankAt_get hj]
      by_cases e : appl name m joined rs[k] = true ∧ ((j : Int) < 0 ∨ rs[j].Rank < rs[k].Rank)
      · rw [if_pos e]
        have h1 : rs[j].Rank < rs[k].Rank := by rcases e.2 with h | h; omega; exact h
        refine .inr ⟨k, rfl, by omega, hk1, e.1, fun i hi hik h => ?_, fun i hi hik h => ?_⟩
        · by_cases e2 : i = k
          · subst e2; exact Int.le_refl _
          · have := hge i hi (by omega) h
            omega
        · have := hge i hi hik h
          omega
      · rw [if_neg e]
        refine .inr ⟨j, rfl, by omega, hj, ha, fun i hi hik h => ?_, hlt⟩
        by_cases e2 : i = k
        · subst e2
          exact Int.not_lt.1 fun h2 => e ⟨h, .inr h2⟩
        · exact hge i hi (by omega) h
theorem best (rs : List Ru) (name m joined : Int) : BestTo rs name m joined rs.length (forB rs name m joined) := best_to rs name m joined _ (Nat.le_refl _)
theorem for_none {rs : List Ru} {name m joined : Int} (h : ∀ i (hi : i < rs.length), appl name m joined rs[i] = false) : forB rs name m joined = -1 := by
  rcases best rs name m joined with ⟨hb, _⟩ | ⟨j, _, _, hj, ha, _⟩
  · exact hb
  · rw [h j hj] at ha; cases ha
/-- In a valid book two rules that apply in one month have different ranks. -/
theorem rank_ne {rs : List Ru} (hb : BookP rs) {name m joined : Int} {i j : Nat} (hi : i < rs.length) (hj : j < rs.length) (h1 : appl name m joined rs[i] = true) (h2 : appl name m joined rs[j] = true) (he : rs[i].Rank = rs[j].Rank) : i = j := by
  have a1 := appl_iff.1 h1
  have a2 := appl_iff.1 h2
  have lt : ∀ {i k : Nat} (h : i < rs.length) (hk : k < rs.length), k < i → appl name m joined rs[i] = true → appl name m joined rs[k] = true → rs[i].Rank = rs[k].Rank → False := fun {i k} h hk hki h1 h2 he => by
    have a1 := appl_iff.1 h1
    have a2 := appl_iff.1 h2
    have hc := hb.apart i k h hki
    have := (clash_iff (hb.rule k hk) (hb.rule i h)).2 ⟨by omega, he.symm, by omega, by omega⟩
    rw [this] at hc; cases hc
  rcases Nat.lt_trichotomy i j with h | h | h
  · exact (lt hj hi h h2 h1 he.symm).elim
  · exact h
  · exact (lt hi hj h h1 h2 he).elim
/-- The rule of the greatest rank, however it is found. -/
theorem for_is {rs : List Ru} (hb : BookP rs) {name m joined : Int} {j : Nat} (hj : j < rs.length) (ha : appl name m joined rs[j] = true) (hg : ∀ i (hi : i < rs.length), appl name m joined rs[i] = true → rs[i].Rank ≤ rs[j].Rank) : forB rs name m joined = (j : Int) := by
  rcases best rs name m joined with ⟨_, hno⟩ | ⟨k, hk, _, hkl, hka, hge, _⟩
  · rw [hno j hj hj] at ha; cases ha
  · rw [hk, rank_ne hb hkl hj hka ha (by have := hg k hkl hka; have := hge j hj hj ha; omega)]
noncomputable def ruleFor (rs : List Ru) (name m joined : Int) : Int := if bookB rs = true then forB rs name m joined else -1
theorem ruleFor_no {rs : List Ru} {name m joined : Int} (h : bookB rs = false) : ruleFor rs name m joined = -1 := by unfold ruleFor; rw [h]; rfl
theorem ruleFor_yes {rs : List Ru} {name m joined : Int} (h : bookB rs = true) : ruleFor rs name m joined = forB rs name m joined := by unfold ruleFor; rw [if_pos h]
theorem forB_bd (rs : List Ru) (name m joined : Int) : -1 ≤ forB rs name m joined ∧ forB rs name m joined < (rs.length : Int) := by
  rcases best rs name m joined with ⟨hb, _⟩ | ⟨j, hb, _, hj, _⟩ <;> omega
theorem ruleFor_bd (rs : List Ru) (name m joined : Int) : -1 ≤ ruleFor rs name m joined ∧ ruleFor rs name m joined < (rs.length : Int) := by
  unfold ruleFor
  split
  · exact forB_bd rs name m joined
  · omega
/-- The months from .. to - 1 for which no rule applies. -/
def gapsTo (rs : List Ru) (name joined from_ : Int) (n : Nat) : List Int := ((List.range n).map fun (i : Nat) => from_ + (i : Int)).filter fun m => decide (forB rs name m joined < 0)
theorem gapsTo_zero (rs : List Ru) (name joined f : Int) : gapsTo rs name joined f 0 = [] := rfl
theorem gapsTo_succ (rs : List Ru) (name joined f : Int) (n : Nat) : gapsTo rs name joined f (n + 1) = gapsTo rs name joined f n ++ (if forB rs name (f + (n : Int)) joined < 0 then [f + (n : Int)] else []) := by
  unfold gapsTo
  rw [List.range_succ, List.map_append, List.filter_append]
  by_cases h : forB rs name (f + (n : Int)) joined < 0 <;> simp [h]
theorem gapsTo_len (rs : List Ru) (name joined f : Int) (n : Nat) : (gapsTo rs name joined f n).length ≤ n := by
  unfold gapsTo
  refine Nat.le_trans (List.length_filter_le _ _) ?_
  simp
noncomputable def gaps (rs : List Ru) (name joined f t : Int) : List Int := if bookB rs = true ∧ inB f 0 3600 = true ∧ inB t 0 3600 = true then gapsTo rs name joined f (t - f).toNat else []
/-- AddRule's answer. -/
noncomputable def added (rs : List Ru) (r : Ru) : List Ru × Bool := if bookB rs = true ∧ bookB (rs ++ [r]) = true then (rs ++ [r], true) else (rs, false)
end Go.Proofs.Ytkfgflmhefbinaa.BookMath

/- Rule books: the figure, protection, one more rule: plain mathematics. -/
namespace Go.Proofs.Ytkfgflmhefbinaa.BookLaws
open TRule BookMath Mon NodeMath
/-- The value of the rule at index i, rounded. -/
noncomputable def figAt (rs : List Ru) (i : Int) (vs : List TFrac.El) : Int × Int × Bool :=
  match rs[i.toNat]? with
  | some r => if 0 ≤ i ∧ (evalL r.Nodes vs).2.2 = true then ((RoundF.rndR (evalL r.Nodes vs).1 (evalL r.Nodes vs).2.1 r.Mode).1, i, true) else (0, 0, false)
  | none => (0, 0, false)
noncomputable def fig (rs : List Ru) (name m joined : Int) (vs : List TFrac.El) : Int × Int × Bool := figAt rs (ruleFor rs name m joined) vs
theorem figAt_neg {rs : List Ru} {i : Int} {vs : List TFrac.El} (h : i < 0) : figAt rs i vs = (0, 0, false) := by
  unfold figAt
  split
  · rw [if_neg (fun e => by omega)]
  · rfl
theorem figAt_no {rs : List Ru} {j : Nat} {vs : List TFrac.El} (h : j < rs.length) (e : (evalL rs[j].Nodes vs).2.2 = false) : figAt rs (j : Int) vs = (0, 0, false) := by
  unfold figAt
  rw [Int.toNat_natCast, List.getElem?_eq_getElem h]
  simp only []
  rw [if_neg (fun q => by rw [e] at q; cases q.2)]
theorem figAt_yes {rs : List Ru} {j : Nat} {vs : List TFrac.El} (h : j < rs.length) (e : (evalL rs[j].Nodes vs).2.2 = true) : figAt rs (j : Int) vs = ((RoundF.rndR (evalL rs[j].Nodes vs).1 (evalL rs[j].Nodes vs).2.1 rs[j].Mode).1, (j : Int), true) := by
  unfold figAt
  rw [Int.toNat_natCast, List.getElem?_eq_getElem h]
  simp only []
  rw [if_pos ⟨by omega, e⟩]
noncomputable def prot (rs : List Ru) (name m joined : Int) : Bool := decide (0 ≤ ruleFor rs name m joined) && !decide (ruleFor rs name m joined = ruleFor rs name m 3599)
theorem prot_neg {rs : List Ru} {name m joined : Int} (h : ruleFor rs name m joined < 0) : prot rs name m joined = false := by
  unfold prot
  rw [decide_eq_false (by omega)]
  rfl
theorem prot_pos {rs : List Ru} {name m joined i k : Int} (h : ruleFor rs name m joined = i) (hk : ruleFor rs name m 3599 = k) (h0 : 0 ≤ i) : prot rs name m joined = !decide (i = k) := by
  unfold prot
  rw [h, hk, decide_eq_true h0]
  rfl
/-- What RuleFor returns. -/
theorem ruleFor_is (rs : List Ru) (name m joined : Int) : ruleFor rs name m joined = -1 ∨ ∃ (j : Nat) (h : j < rs.length), ruleFor rs name m joined = (j : Int) ∧ appl name m joined rs[j] = true := by
  unfold ruleFor
  split
  · rcases best rs name m joined with ⟨h, _⟩ | ⟨j, h, _, hj, ha, _⟩
    · exact .inl h
    · exact .inr ⟨j, hj, h, ha⟩
  · exact .inl rfl
/-- A book whose longer list is valid is valid. -/
theorem book_init {rs : List Ru} {r : Ru} (h : BookP (rs ++ [r])) : BookP rs := by
  refine ⟨by have := h.len; simp at this; omega, fun i hi => ?_, fun i k hi hk => ?_⟩
  · have := h.rule i (by simp; omega)
    rwa [List.getElem_append_left hi] at this
  · have := h.apart i k (by simp; omega) hk
    rwa [List.getElem_append_left hi, List.getElem_append_left (by omega)] at this
theorem book_snoc {rs : List Ru} {r : Ru} (h : BookP rs) (hr : RuleP r) (hl : rs.length + 1 ≤ 20) (hc : ∀ k (hk : k < rs.length), clash rs[k] r = false) : BookP (rs ++ [r]) := by
  refine ⟨by simp; omega, fun i hi => ?_, fun i k hi hk => ?_⟩
  · by_cases e : i < rs.length
    · rw [List.getElem_append_left e]; exact h.rule i e
    · obtain rfl : i = rs.length := by simp at hi; omega
      simpa using hr
  · by_cases e : i < rs.length
    · rw [List.getElem_append_left e, List.getElem_append_left (by omega)]; exact h.apart i k e hk
    · obtain rfl : i = rs.length := by simp at hi; omega
      rw [List.getElem_append_left hk]
      simpa using hc k hk
theorem added_yes {rs : List Ru} {r : Ru} (h : bookB (rs ++ [r]) = true) : added rs r = (rs ++ [r], true) := by
  unfold added
  rw [if_pos ⟨bookB_yes (book_init (bookB_of h)), h⟩]
theorem added_no {rs : List Ru} {r : Ru} (h : bookB (rs ++ [r]) = false) : added rs r = (rs, false) := by
  unfold added
  rw [if_neg (fun e => by rw [h] at e; cases e.2)]
theorem added_no1 {rs : List Ru} {r : Ru} (h : bookB rs = false) : added rs r = (rs, false) := by
  unfold added
  rw [if_neg (fun e => by rw [h] at e; cases e.1)]
theorem forTo_app (rs t : List Ru) (name m joined : Int) : ∀ k, k ≤ rs.length → forTo (rs ++ t) name m joined k = forTo rs name m joined k
  | 0, _ => rfl
  | k + 1, hk => by
    have ih := forTo_app rs t name m joined k (by omega)
    have hk1 : k < rs.length := by omega
    have hk2 : k < (rs ++ t).length := by simp; omega
    have b := best_to rs name m joined k (by omega)
    have e : rankAt (rs ++ t) (forTo rs name m joined k) = rankAt rs (forTo rs name m joined k) ∨ forTo rs name m joined k < 0 := by
      rcases b with ⟨hb, _⟩ | ⟨j, hb, _, hj, _⟩
      · exact .inr (by omega)
      · refine .inl ?_
        rw [hb, rankAt_get hj, rankAt_get (by simp; omega), List.getElem_append_left hj]
    rw [forTo, forTo, dif_pos hk2, dif_pos hk1, ih, List.getElem_append_left hk1]
    rcases e with e | e
    · rw [e]
    · by_cases ha : appl name m joined rs[k] = true
      · rw [if_pos ⟨ha, .inl e⟩, if_pos ⟨ha, .inl e⟩]
      · rw [if_neg (fun q => ha q.1), if_neg (fun q => ha q.1)]
/-- A rule that does not apply changes nothing. -/
theorem for_more_no {rs : List Ru} {r : Ru} {name m joined : Int} (h : appl name m joined r = false) : forB (rs ++ [r]) name m joined = forB rs name m joined := by
  unfold forB
  have e : (rs ++ [r]).length = rs.length + 1 := by simp
  have hk : rs.length < (rs ++ [r]).length := by omega
  rw [e, forTo_no hk (by simpa using h), forTo_app rs [r] name m joined rs.length (Nat.le_refl _)]
/-- A rule of a greater rank is the one. -/
theorem for_more_yes {rs : List Ru} {r : Ru} {name m joined : Int} (hb : BookP (rs ++ [r])) (h : appl name m joined r = true) (hg : ∀ i (hi : i < rs.length), rs[i].Rank ≤ r.Rank) : forB (rs ++ [r]) name m joined = (rs.length : Int) := by
  refine for_is hb (j := rs.length) (by simp) (by simpa using h) (fun i hi _ => ?_)
  by_cases e : i < rs.length
  · rw [List.getElem_append_left e]
    simpa using hg i e
  · obtain rfl : i = rs.length := by simp at hi; omega
    exact Int.le_refl _
end Go.Proofs.Ytkfgflmhefbinaa.BookLaws
