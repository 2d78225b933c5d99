/- Rule books: which rule applies: plain mathematics. -/
import Derived.Test.YtkfgflmhefbinaaTRule
import Derived.Test.YtkfgflmhefbinaaNodeMath
import Derived.Test.YtkfgflmhefbinaaMon
namespace Go.Proofs.Ytkfgflmhefbinaa.BookMath
open TRule Mon
/-- A valid rule. -/
structure RuleP (r : Ru) : Prop where
  name : 1 ≤ r.Name ∧ r.Name ≤ 20
  months : 0 ≤ r.From ∧ r.From < r.To ∧ r.To ≤ 3600
  joined : 1 ≤ r.Joined ∧ r.Joined ≤ 3600
  rank : 0 ≤ r.Rank ∧ r.Rank ≤ 9
  mode : 1 ≤ r.Mode ∧ r.Mode ≤ 4
  nodes : NodeMath.okF r.Nodes = true
noncomputable def ruleB (r : Ru) : Bool := inB r.Name 1 20 && decide (0 ≤ r.From) && decide (r.From < r.To) && decide (r.To ≤ 3600) && inB r.Joined 1 3600 && inB r.Rank 0 9 && inB r.Mode 1 4 && NodeMath.okF r.Nodes
theorem ruleB_of {r : Ru} (h : ruleB r = true) : RuleP r := by
  simp only [ruleB, Bool.and_eq_true, decide_eq_true_eq] at h
  obtain ⟨⟨⟨⟨⟨⟨⟨h1, h2⟩, h3⟩, h4⟩, h5⟩, h6⟩, h7⟩, h8⟩ := h
  exact ⟨inB_of h1, ⟨h2, h3, h4⟩, inB_of h5, inB_of h6, inB_of h7, h8⟩
theorem ruleB_yes {r : Ru} (h : RuleP r) : ruleB r = true := by
  have h1 := inB_yes h.name.1 h.name.2
  have h5 := inB_yes h.joined.1 h.joined.2
  have h6 := inB_yes h.rank.1 h.rank.2
  have h7 := inB_yes h.mode.1 h.mode.2
  simp [ruleB, h1, h5, h6, h7, h.nodes, h.months.1, h.months.2.1, h.months.2.2]
theorem ruleB_no {r : Ru} (h : ¬ RuleP r) : ruleB r = false := by
  cases e : ruleB r with
  | true => exact absurd (ruleB_of e) h
  | false => rfl
/-- Two rules of one name and one rank that have a common month. -/
def clash (o r : Ru) : Bool := decide (o.Name = r.Name) && decide (o.Rank = r.Rank) && decide (0 < common o.From o.To r.From r.To)
theorem clash_iff {o r : Ru} (ho : RuleP o) (hr : RuleP r) : clash o r = true ↔ o.Name = r.Name ∧ o.Rank = r.Rank ∧ o.From < r.To ∧ r.From < o.To := by
  have a1 := ho.months
  have a2 := hr.months
  have c : common o.From o.To r.From r.To = max 0 (min o.To r.To - max o.From r.From) := by
    unfold common
    rw [if_pos ⟨inB_yes (by omega) (by omega), inB_yes (by omega) (by omega), inB_yes (by omega) (by omega), inB_yes (by omega) (by omega)⟩]
  simp only [clash, Bool.and_eq_true, decide_eq_true_eq, c]
  constructor
  · rintro ⟨⟨h1, h2⟩, h3⟩; exact ⟨h1, h2, by omega, by omega⟩
  · rintro ⟨h1, h2, h3, h4⟩; exact ⟨⟨h1, h2⟩, by omega⟩
theorem clash_comm (o r : Ru) : clash o r = clash r o := by
  have c : common o.From o.To r.From r.To = common r.From r.To o.From o.To := by
    unfold common
    by_cases h : inB o.From 0 3600 = true ∧ inB o.To 0 3600 = true ∧ inB r.From 0 3600 = true ∧ inB r.To 0 3600 = true
    · rw [if_pos h, if_pos ⟨h.2.2.1, h.2.2.2, h.1, h.2.1⟩]; omega
    · rw [if_neg h, if_neg (fun k => h ⟨k.2.2.1, k.2.2.2, k.1, k.2.1⟩)]
  have e1 : decide (o.Name = r.Name) = decide (r.Name = o.Name) := decide_eq_decide.2 ⟨Eq.symm, Eq.symm⟩
  have e2 : decide (o.Rank = r.Rank) = decide (r.Rank = o.Rank) := decide_eq_decide.2 ⟨Eq.symm, Eq.symm⟩
  unfold clash
  rw [c, e1, e2]
/-- A valid book. -/
structure BookP (rs : List Ru) : Prop where
  len : rs.length ≤ 20
  rule : ∀ i (h : i < rs.length), RuleP rs[i]
  apart : ∀ i k (h : i < rs.length) (hk : k < i), clash (rs[k]'(by omega)) rs[i] = false
/-- None of the first k rules clashes with r. -/
def freeTo (rs : List Ru) (r : Ru) (k : Nat) : Bool := (rs.take k).all fun o => !clash o r
theorem freeTo_zero (rs : List Ru) (r : Ru) : freeTo rs r 0 = true := by simp [freeTo]
theorem freeTo_succ (rs : List Ru) (r : Ru) (k : Nat) (h : k < rs.length) : freeTo rs r (k + 1) = (freeTo rs r k && !clash rs[k] r) := by
  unfold freeTo
  rw [List.take_succ_eq_append_getElem h, List.all_append]
  simp
theorem freeTo_at {rs : List Ru} {r : Ru} {k i : Nat} (h : freeTo rs r k = true) (hi : i < k) (hl : i < rs.length) : clash rs[i] r = false := by
  unfold freeTo at h
  have := List.all_eq_true.1 h rs[i] (List.mem_take_iff_getElem.2 ⟨i, by omega, rfl⟩)
  simpa using this
theorem freeTo_no {rs : List Ru} {r : Ru} {k n : Nat} (h : k < rs.length) (hc : clash rs[k] r = true) (hn : k < n) : freeTo rs r n = false := by
  cases e : freeTo rs r n with
  | true => rw [freeTo_at e hn h] at hc; cases hc
  | false => rfl
/-- The first k rules are valid and apart. -/
def OkTo (rs : List Ru) (k : Nat) : Prop := ∀ i (h : i < rs.length), i < k → RuleP rs[i] ∧ freeTo rs rs[i] i = true
theorem OkTo.zero (rs : List Ru) : OkTo rs 0 := fun _ _ h => by omega
theorem OkTo.succ {rs : List Ru} {k : Nat} (h : OkTo rs k) (hk : k < rs.length) (h1 : RuleP rs[k]) (h2 : freeTo rs rs[k] k = true) : OkTo rs (k + 1) := fun i hi hl => by
  by_cases e : i = k
  · subst e; exact ⟨h1, h2⟩
  · exact h i hi (by omega)
theorem book_of {rs : List Ru} (h : OkTo rs rs.length) (hl : rs.length ≤ 20) : BookP rs :=
  ⟨hl, fun i hi => (h i hi hi).1, fun i k hi hk => freeTo_at (h i hi hi).2 hk (by omega)⟩
open Classical in
noncomputable def bookB (rs : List Ru) : Bool := decide (BookP rs)
theorem bookB_yes {rs : List Ru} (h : BookP rs) : bookB rs = true := by simp [bookB, h]
theorem bookB_of {rs : List Ru} (h : bookB rs = true) : BookP rs := by simpa [bookB] using h
theorem bookB_no {rs : List Ru} (h : ¬ BookP rs) : bookB rs = false := by simp [bookB, h]
theorem bookB_rule {rs : List Ru} {i : Nat} (h : i < rs.length) (hr : ¬ RuleP rs[i]) : bookB rs = false := bookB_no fun hb => hr (hb.rule i h)
theorem bookB_clash {rs : List Ru} {i k : Nat} (h : i < rs.length) (hk : k < i) (hc : clash (rs[k]'(by omega)) rs[i] = true) : bookB rs = false := bookB_no fun hb => by
  have := hb.apart i k h hk
  rw [this] at hc; cases hc
theorem bookB_len {rs : List Ru} (h : ¬ rs.length ≤ 20) : bookB rs = false := bookB_no fun hb => h hb.len
theorem bookB_len_is {rs : List Ru} (h : OkTo rs rs.length) : bookB rs = decide (rs.length ≤ 20) := by
  by_cases hl : rs.length ≤ 20
  · rw [bookB_yes (book_of h hl), decide_eq_true hl]
  · rw [bookB_len hl, decide_eq_false hl]
theorem clash_yes {o r : Ru} (h1 : o.Name = r.Name) (h2 : o.Rank = r.Rank) (h3 : 0 < common o.From o.To r.From r.To) : clash o r = true := by simp [clash, h1, h2, h3]
theorem clash_no {o r : Ru} (h : ¬ (o.Name = r.Name ∧ o.Rank = r.Rank ∧ 0 < common o.From o.To r.From r.To)) : clash o r = false := by
  cases e : clash o r with
  | false => rfl
  | true =>
    simp only [clash, Bool.and_eq_true, decide_eq_true_eq] at e
    exact absurd ⟨e.1.1, e.1.2, e.2⟩ h
theorem freeTo_go {rs : List Ru} {r : Ru} {k : Nat} (hf : freeTo rs r k = true) (h : k < rs.length) (hc : clash rs[k] r = false) : freeTo rs r (k + 1) = true := by rw [freeTo_succ rs r k h, hf, hc]; rfl
/-- The rule applies. -/
def appl (name m joined : Int) (r : Ru) : Bool := decide (r.Name = name) && decide (r.From ≤ m) && decide (m < r.To) && decide (joined < r.Joined)
theorem appl_iff {name m joined : Int} {r : Ru} : appl name m joined r = true ↔ r.Name = name ∧ r.From ≤ m ∧ m < r.To ∧ joined < r.Joined := by
  simp only [appl, Bool.and_eq_true, decide_eq_true_eq]
  exact ⟨fun ⟨⟨⟨a, b⟩, c⟩, d⟩ => ⟨a, b, c, d⟩, fun ⟨a, b, c, d⟩ => ⟨⟨⟨a, b⟩, c⟩, d⟩⟩
def rankAt (rs : List Ru) (i : Int) : Int := match rs[i.toNat]? with | some r => r.Rank | none => 0
theorem rankAt_get {rs : List Ru} {i : Nat} (h : i < rs.length) : rankAt rs (i : Int) = rs[i].Rank := by simp [rankAt, h]
/-- The best rule among the first k. -/
def forTo (rs : List Ru) (name m joined : Int) : Nat → Int
  | 0 => -1
  | k + 1 => if h : k < rs.length then (if appl name m joined rs[k] = true ∧ (forTo rs name m joined k < 0 ∨ rankAt rs (forTo rs name m joined k) < rs[k].Rank) then (k : Int) else forTo rs name m joined k) else forTo rs name m joined k
def forB (rs : List Ru) (name m joined : Int) : Int := forTo rs name m joined rs.length
theorem forTo_no {rs : List Ru} {name m joined : Int} {k : Nat} (h : k < rs.length) (ha : appl name m joined rs[k] = false) : forTo rs name m joined (k + 1) = forTo rs name m joined k := by
  rw [forTo, dif_pos h, if_neg (fun e => by rw [ha] at e; cases e.1)]
theorem forTo_first {rs : List Ru} {name m joined : Int} {k : Nat} (h : k < rs.length) (ha : appl name m joined rs[k] = true) (hb : forTo rs name m joined k = -1) : forTo rs name m joined (k + 1) = (k : Int) := by
  rw [forTo, dif_pos h, if_pos ⟨ha, .inl (by omega)⟩]
theorem forTo_more {rs : List Ru} {name m joined : Int} {k j : Nat} (h : k < rs.length) (ha : appl name m joined rs[k] = true) (hb : forTo rs name m joined k = (j : Int)) (hj : j < rs.length) (hr : rs[j].Rank < rs[k].Rank) : forTo rs name m joined (k + 1) = (k : Int) := by
  rw [forTo, dif_pos h, if_pos ⟨ha, .inr (by rw [hb, rankAt_get hj]; exact hr)⟩]
theorem forTo_less {rs : List Ru} {name m joined : Int} {k j : Nat} (h : k < rs.length) (hb : forTo rs name m joined k = (j : Int)) (hj : j < rs.length) (hr : ¬ rs[j].Rank < rs[k].Rank) : forTo rs name m joined (k + 1) = (j : Int) := by
  rw [forTo, dif_pos h, if_neg (fun e => by rcases e.2 with q | q; omega; rw [hb, rankAt_get hj] at q; exact hr q), hb]
theorem appl_no {name m joined : Int} {r : Ru} (h : ¬ (r.Name = name ∧ r.From ≤ m ∧ m < r.To ∧ joined < r.Joined)) : appl name m joined r = false := by
  cases e : appl name m joined r with
  | false => rfl
  | true => exact absurd (appl_iff.1 e) h
/-- What the best rule among the first k is. -/
def BestTo (rs : List Ru) (name m joined : Int) (k : Nat) (b : Int) : Prop :=
  (b = -1 ∧ ∀ i (h : i < rs.length), i < k → appl name m joined rs[i] = false) ∨
  ∃ j : Nat, b = (j : Int) ∧ j < k ∧ ∃ h : j < rs.length, appl name m joined rs[j] = true ∧ (∀ i (hi : i < rs.length), i < k → appl name m joined rs[i] = true → rs[i].Rank ≤ rs[j].Rank) ∧ (∀ i (hi : i < rs.length), i < j → appl name m joined rs[i] = true → rs[i].Rank < rs[j].Rank)
theorem best_to (rs : List Ru) (name m joined : Int) : ∀ k, k ≤ rs.length → BestTo rs name m joined k (forTo rs name m joined k)
  | 0, _ => .inl ⟨rfl, fun _ _ h => by omega⟩
  | k + 1, hk => by
    have hk1 : k < rs.length := by omega
    have ih := best_to rs name m joined k (by omega)
    rw [forTo, dif_pos hk1]
    rcases ih with ⟨hb, hno⟩ | ⟨j, hb, hjk, hj, ha, hge, hlt⟩
    · rw [hb]
      cases e : appl name m joined rs[k] with
      | true =>
        rw [if_pos ⟨rfl, .inl (by omega)⟩]
        refine .inr ⟨k, rfl, by omega, hk1, e, fun i hi hik h => ?_, fun i hi hik h => ?_⟩
        · by_cases e2 : i = k
          · subst e2; exact Int.le_refl _
          · rw [hno i hi (by omega)] at h
            cases h
        · rw [hno i hi hik] at h
          cases h
      | false =>
        rw [if_neg (fun h => by cases h.1)]
        exact .inl ⟨rfl, fun i hi hik => by
          by_cases e2 : i = k
          · subst e2; exact e
          · exact hno i hi (by omega)⟩
    · rw [hb, rankAt_get hj]
      by_cases e : appl name m joined rs[k] = true ∧ ((j : Int) < 0 ∨ rs[j].Rank < rs[k].Rank)
      · rw [if_pos e]
        have h1 : rs[j].Rank < rs[k].Rank := by rcases e.2 with h | h; omega; exact h
        refine .inr ⟨k, rfl, by omega, hk1, e.1, fun i hi hik h => ?_, fun i hi hik h => ?_⟩
        · by_cases e2 : i = k
          · subst e2; exact Int.le_refl _
          · have := hge i hi (by omega) h
            omega
        · have := hge i hi hik h
          omega
      · rw [if_neg e]
        refine .inr ⟨j, rfl, by omega, hj, ha, fun i hi hik h => ?_, hlt⟩
        by_cases e2 : i = k
        · subst e2
          exact Int.not_lt.1 fun h2 => e ⟨h, .inr h2⟩
        · exact hge i hi (by omega) h
theorem best (rs : List Ru) (name m joined : Int) : BestTo rs name m joined rs.length (forB rs name m joined) := best_to rs name m joined _ (Nat.le_refl _)
theorem for_none {rs : List Ru} {name m joined : Int} (h : ∀ i (hi : i < rs.length), appl name m joined rs[i] = false) : forB rs name m joined = -1 := by
  rcases best rs name m joined with ⟨hb, _⟩ | ⟨j, _, _, hj, ha, _⟩
  · exact hb
  · rw [h j hj] at ha; cases ha
/-- In a valid book two rules that apply in one month have different ranks. -/
theorem rank_ne {rs : List Ru} (hb : BookP rs) {name m joined : Int} {i j : Nat} (hi : i < rs.length) (hj : j < rs.length) (h1 : appl name m joined rs[i] = true) (h2 : appl name m joined rs[j] = true) (he : rs[i].Rank = rs[j].Rank) : i = j := by
  have a1 := appl_iff.1 h1
  have a2 := appl_iff.1 h2
  have lt : ∀ {i k : Nat} (h : i < rs.length) (hk : k < rs.length), k < i → appl name m joined rs[i] = true → appl name m joined rs[k] = true → rs[i].Rank = rs[k].Rank → False := fun {i k} h hk hki h1 h2 he => by
    have a1 := appl_iff.1 h1
    have a2 := appl_iff.1 h2
    have hc := hb.apart i k h hki
    have := (clash_iff (hb.rule k hk) (hb.rule i h)).2 ⟨by omega, he.symm, by omega, by omega⟩
    rw [this] at hc; cases hc
  rcases Nat.lt_trichotomy i j with h | h | h
  · exact (lt hj hi h h2 h1 he.symm).elim
  · exact h
  · exact (lt hi hj h h1 h2 he).elim
/-- The rule of the greatest rank, however it is found. -/
theorem for_is {rs : List Ru} (hb : BookP rs) {name m joined : Int} {j : Nat} (hj : j < rs.length) (ha : appl name m joined rs[j] = true) (hg : ∀ i (hi : i < rs.length), appl name m joined rs[i] = true → rs[i].Rank ≤ rs[j].Rank) : forB rs name m joined = (j : Int) := by
  rcases best rs name m joined with ⟨_, hno⟩ | ⟨k, hk, _, hkl, hka, hge, _⟩
  · rw [hno j hj hj] at ha; cases ha
  · rw [hk, rank_ne hb hkl hj hka ha (by have := hg k hkl hka; have := hge j hj hj ha; omega)]
noncomputable def ruleFor (rs : List Ru) (name m joined : Int) : Int := if bookB rs = true then forB rs name m joined else -1
theorem ruleFor_no {rs : List Ru} {name m joined : Int} (h : bookB rs = false) : ruleFor rs name m joined = -1 := by unfold ruleFor; rw [h]; rfl
theorem ruleFor_yes {rs : List Ru} {name m joined : Int} (h : bookB rs = true) : ruleFor rs name m joined = forB rs name m joined := by unfold ruleFor; rw [if_pos h]
theorem forB_bd (rs : List Ru) (name m joined : Int) : -1 ≤ forB rs name m joined ∧ forB rs name m joined < (rs.length : Int) := by
  rcases best rs name m joined with ⟨hb, _⟩ | ⟨j, hb, _, hj, _⟩ <;> omega
theorem ruleFor_bd (rs : List Ru) (name m joined : Int) : -1 ≤ ruleFor rs name m joined ∧ ruleFor rs name m joined < (rs.length : Int) := by
  unfold ruleFor
  split
  · exact forB_bd rs name m joined
  · omega
/-- The months from .. to - 1 for which no rule applies. -/
def gapsTo (rs : List Ru) (name joined from_ : Int) (n : Nat) : List Int := ((List.range n).map fun (i : Nat) => from_ + (i : Int)).filter fun m => decide (forB rs name m joined < 0)
theorem gapsTo_zero (rs : List Ru) (name joined f : Int) : gapsTo rs name joined f 0 = [] := rfl
theorem gapsTo_succ (rs : List Ru) (name joined f : Int) (n : Nat) : gapsTo rs name joined f (n + 1) = gapsTo rs name joined f n ++ (if forB rs name (f + (n : Int)) joined < 0 then [f + (n : Int)] else []) := by
  unfold gapsTo
  rw [List.range_succ, List.map_append, List.filter_append]
  by_cases h : forB rs name (f + (n : Int)) joined < 0 <;> simp [h]
theorem gapsTo_len (rs : List Ru) (name joined f : Int) (n : Nat) : (gapsTo rs name joined f n).length ≤ n := by
  unfold gapsTo
  refine Nat.le_trans (List.length_filter_le _ _) ?_
  simp
noncomputable def gaps (rs : List Ru) (name joined f t : Int) : List Int := if bookB rs = true ∧ inB f 0 3600 = true ∧ inB t 0 3600 = true then gapsTo rs name joined f (t - f).toNat else []
/-- AddRule's answer. -/
noncomputable def added (rs : List Ru) (r : Ru) : List Ru × Bool := if bookB rs = true ∧ bookB (rs ++ [r]) = true then (rs ++ [r], true) else (rs, false)
end Go.Proofs.Ytkfgflmhefbinaa.BookMath
