/- Rule books: the figure, protection, one more rule: plain mathematics. -/
import Derived.Test.YtkfgflmhefbinaaBookMath
import Derived.Test.YtkfgflmhefbinaaRoundF
namespace Go.Proofs.Ytkfgflmhefbinaa.BookLaws
open TRule BookMath Mon NodeMath
/-- The value of the rule at index i, rounded. -/
noncomputable def figAt (rs : List Ru) (i : Int) (vs : List TFrac.El) : Int × Int × Bool :=
  match rs[i.toNat]? with
  | some r => if 0 ≤ i ∧ (evalL r.Nodes vs).2.2 = true then ((RoundF.rndR (evalL r.Nodes vs).1 (evalL r.Nodes vs).2.1 r.Mode).1, i, true) else (0, 0, false)
  | none => (0, 0, false)
noncomputable def fig (rs : List Ru) (name m joined : Int) (vs : List TFrac.El) : Int × Int × Bool := figAt rs (ruleFor rs name m joined) vs
theorem figAt_neg {rs : List Ru} {i : Int} {vs : List TFrac.El} (h : i < 0) : figAt rs i vs = (0, 0, false) := by
  unfold figAt
  split
  · rw [if_neg (fun e => by omega)]
  · rfl
theorem figAt_no {rs : List Ru} {j : Nat} {vs : List TFrac.El} (h : j < rs.length) (e : (evalL rs[j].Nodes vs).2.2 = false) : figAt rs (j : Int) vs = (0, 0, false) := by
  unfold figAt
  rw [Int.toNat_natCast, List.getElem?_eq_getElem h]
  simp only []
  rw [if_neg (fun q => by rw [e] at q; cases q.2)]
theorem figAt_yes {rs : List Ru} {j : Nat} {vs : List TFrac.El} (h : j < rs.length) (e : (evalL rs[j].Nodes vs).2.2 = true) : figAt rs (j : Int) vs = ((RoundF.rndR (evalL rs[j].Nodes vs).1 (evalL rs[j].Nodes vs).2.1 rs[j].Mode).1, (j : Int), true) := by
  unfold figAt
  rw [Int.toNat_natCast, List.getElem?_eq_getElem h]
  simp only []
  rw [if_pos ⟨by omega, e⟩]
noncomputable def prot (rs : List Ru) (name m joined : Int) : Bool := decide (0 ≤ ruleFor rs name m joined) && !decide (ruleFor rs name m joined = ruleFor rs name m 3599)
theorem prot_neg {rs : List Ru} {name m joined : Int} (h : ruleFor rs name m joined < 0) : prot rs name m joined = false := by
  unfold prot
  rw [decide_eq_false (by omega)]
  rfl
theorem prot_pos {rs : List Ru} {name m joined i k : Int} (h : ruleFor rs name m joined = i) (hk : ruleFor rs name m 3599 = k) (h0 : 0 ≤ i) : prot rs name m joined = !decide (i = k) := by
  unfold prot
  rw [h, hk, decide_eq_true h0]
  rfl
/-- What RuleFor returns. -/
theorem ruleFor_is (rs : List Ru) (name m joined : Int) : ruleFor rs name m joined = -1 ∨ ∃ (j : Nat) (h : j < rs.length), ruleFor rs name m joined = (j : Int) ∧ appl name m joined rs[j] = true := by
  unfold ruleFor
  split
  · rcases best rs name m joined with ⟨h, _⟩ | ⟨j, h, _, hj, ha, _⟩
    · exact .inl h
    · exact .inr ⟨j, hj, h, ha⟩
  · exact .inl rfl
/-- A book whose longer list is valid is valid. -/
theorem book_init {rs : List Ru} {r : Ru} (h : BookP (rs ++ [r])) : BookP rs := by
  refine ⟨by have := h.len; simp at this; omega, fun i hi => ?_, fun i k hi hk => ?_⟩
  · have := h.rule i (by simp; omega)
    rwa [List.getElem_append_left hi] at this
  · have := h.apart i k (by simp; omega) hk
    rwa [List.getElem_append_left hi, List.getElem_append_left (by omega)] at this
theorem book_snoc {rs : List Ru} {r : Ru} (h : BookP rs) (hr : RuleP r) (hl : rs.length + 1 ≤ 20) (hc : ∀ k (hk : k < rs.length), clash rs[k] r = false) : BookP (rs ++ [r]) := by
  refine ⟨by simp; omega, fun i hi => ?_, fun i k hi hk => ?_⟩
  · by_cases e : i < rs.length
    · rw [List.getElem_append_left e]; exact h.rule i e
    · obtain rfl : i = rs.length := by simp at hi; omega
      simpa using hr
  · by_cases e : i < rs.length
    · rw [List.getElem_append_left e, List.getElem_append_left (by omega)]; exact h.apart i k e hk
    · obtain rfl : i = rs.length := by simp at hi; omega
      rw [List.getElem_append_left hk]
      simpa using hc k hk
theorem added_yes {rs : List Ru} {r : Ru} (h : bookB (rs ++ [r]) = true) : added rs r = (rs ++ [r], true) := by
  unfold added
  rw [if_pos ⟨bookB_yes (book_init (bookB_of h)), h⟩]
theorem added_no {rs : List Ru} {r : Ru} (h : bookB (rs ++ [r]) = false) : added rs r = (rs, false) := by
  unfold added
  rw [if_neg (fun e => by rw [h] at e; cases e.2)]
theorem added_no1 {rs : List Ru} {r : Ru} (h : bookB rs = false) : added rs r = (rs, false) := by
  unfold added
  rw [if_neg (fun e => by rw [h] at e; cases e.1)]
theorem forTo_app (rs t : List Ru) (name m joined : Int) : ∀ k, k ≤ rs.length → forTo (rs ++ t) name m joined k = forTo rs name m joined k
  | 0, _ => rfl
  | k + 1, hk => by
    have ih := forTo_app rs t name m joined k (by omega)
    have hk1 : k < rs.length := by omega
    have hk2 : k < (rs ++ t).length := by simp; omega
    have b := best_to rs name m joined k (by omega)
    have e : rankAt (rs ++ t) (forTo rs name m joined k) = rankAt rs (forTo rs name m joined k) ∨ forTo rs name m joined k < 0 := by
      rcases b with ⟨hb, _⟩ | ⟨j, hb, _, hj, _⟩
      · exact .inr (by omega)
      · refine .inl ?_
        rw [hb, rankAt_get hj, rankAt_get (by simp; omega), List.getElem_append_left hj]
    rw [forTo, forTo, dif_pos hk2, dif_pos hk1, ih, List.getElem_append_left hk1]
    rcases e with e | e
    · rw [e]
    · by_cases ha : appl name m joined rs[k] = true
      · rw [if_pos ⟨ha, .inl e⟩, if_pos ⟨ha, .inl e⟩]
      · rw [if_neg (fun q => ha q.1), if_neg (fun q => ha q.1)]
/-- A rule that does not apply changes nothing. -/
theorem for_more_no {rs : List Ru} {r : Ru} {name m joined : Int} (h : appl name m joined r = false) : forB (rs ++ [r]) name m joined = forB rs name m joined := by
  unfold forB
  have e : (rs ++ [r]).length = rs.length + 1 := by simp
  have hk : rs.length < (rs ++ [r]).length := by omega
  rw [e, forTo_no hk (by simpa using h), forTo_app rs [r] name m joined rs.length (Nat.le_refl _)]
/-- A rule of a greater rank is the one. -/
theorem for_more_yes {rs : List Ru} {r : Ru} {name m joined : Int} (hb : BookP (rs ++ [r])) (h : appl name m joined r = true) (hg : ∀ i (hi : i < rs.length), rs[i].Rank ≤ r.Rank) : forB (rs ++ [r]) name m joined = (rs.length : Int) := by
  refine for_is hb (j := rs.length) (by simp) (by simpa using h) (fun i hi _ => ?_)
  by_cases e : i < rs.length
  · rw [List.getElem_append_left e]
    simpa using hg i e
  · obtain rfl : i = rs.length := by simp at hi; omega
    exact Int.le_refl _
end Go.Proofs.Ytkfgflmhefbinaa.BookLaws
