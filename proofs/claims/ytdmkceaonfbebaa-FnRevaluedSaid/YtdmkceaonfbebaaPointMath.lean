/- What series of points say: plain mathematics on lists of points. -/
import Derived.Test.YtdmkceaonfbebaaTPoint
import Derived.Test.YtdmkceaonfbebaaMon
namespace Go.Proofs.Ytdmkceaonfbebaa.PointMath
open TPoint Mon

def okP (x : El) : Bool := decide (0 ≤ x.Month ∧ x.Month ≤ x.Known ∧ x.Known ≤ 3599 ∧ 1 ≤ x.Value ∧ x.Value ≤ 1000000)
theorem okP_yes {x : El} (h : 0 ≤ x.Month ∧ x.Month ≤ x.Known ∧ x.Known ≤ 3599 ∧ 1 ≤ x.Value ∧ x.Value ≤ 1000000) : okP x = true := decide_eq_true h
theorem okP_no {x : El} (h : ¬ (0 ≤ x.Month ∧ x.Month ≤ x.Known ∧ x.Known ≤ 3599 ∧ 1 ≤ x.Value ∧ x.Value ≤ 1000000)) : okP x = false := decide_eq_false h
theorem okP_of {x : El} (h : okP x = true) : 0 ≤ x.Month ∧ x.Month ≤ x.Known ∧ x.Known ≤ 3599 ∧ 1 ≤ x.Value ∧ x.Value ≤ 1000000 := of_decide_eq_true h
def OkS (l : List El) : Prop := l.length ≤ 200 ∧ (∀ i (h : i < l.length), okP l[i] = true) ∧ ∀ i (h : i + 1 < l.length), l[i].Known ≤ l[i + 1].Known
open Classical in
noncomputable def okS (l : List El) : Bool := decide (OkS l)
theorem okS_yes {l : List El} (h : OkS l) : okS l = true := by simp [okS, h]
theorem okS_no {l : List El} (h : ¬ OkS l) : okS l = false := by simp [okS, h]
theorem okS_of {l : List El} (h : okS l = true) : OkS l := by simpa [okS] using h
theorem okS_not {l : List El} (h : okS l = false) : ¬ OkS l := by simpa [okS] using h
/-- A prefix of a valid series is valid. -/
theorem OkS.left {l r : List El} (h : OkS (l ++ r)) : OkS l := by
  refine ⟨by have := h.1; simp at this; omega, fun i hi => ?_, fun i hi => ?_⟩
  · have := h.2.1 i (by simp; omega)
    rwa [List.getElem_append_left hi] at this
  · have := h.2.2 i (by simp; omega)
    rwa [List.getElem_append_left (show i < l.length by omega), List.getElem_append_left hi] at this
theorem OkS.snoc {l : List El} {x : El} (h : OkS l) (hn : l.length < 200) (hx : okP x = true) (hk : ∀ y ∈ l, y.Known ≤ x.Known) : OkS (l ++ [x]) := by
  refine ⟨by simp; omega, fun i hi => ?_, fun i hi => ?_⟩
  · by_cases h1 : i < l.length
    · rw [List.getElem_append_left h1]; exact h.2.1 i h1
    · have : i = l.length := by simp at hi; omega
      subst this
      simpa using hx
  · by_cases h1 : i + 1 < l.length
    · rw [List.getElem_append_left h1, List.getElem_append_left (show i < l.length by omega)]; exact h.2.2 i h1
    · have : i + 1 = l.length := by simp at hi; omega
      have e : (l ++ [x])[i + 1] = x := by simp [this]
      rw [e, List.getElem_append_left (show i < l.length by omega)]
      exact hk _ (List.getElem_mem _)
theorem OkS.known {l : List El} (h : OkS l) : ∀ i j (hi : i < l.length) (hj : j < l.length), i ≤ j → l[i].Known ≤ l[j].Known := by
  intro i j hi hj hij
  induction j with
  | zero => have : i = 0 := by omega
            subst this; exact Int.le_refl _
  | succ k ih =>
    by_cases e : i = k + 1
    · subst e; exact Int.le_refl _
    · exact Int.le_trans (ih (by omega) (by omega)) (h.2.2 k hj)


/-- The best point so far. -/
def hitP (m kn : Int) (b : Option El) (x : El) : Bool := decide (x.Month ≤ m ∧ x.Known ≤ kn ∧ ∀ y, b = some y → y.Month ≤ x.Month)
def better (m kn : Int) (b : Option El) (x : El) : Option El := if hitP m kn b x = true then some x else b
def bestOf (m kn : Int) (l : List El) : Option El := l.foldl (better m kn) none
def valOf : Option El → Int × Bool
  | none => (0, false)
  | some y => (y.Value, true)
/-- The index of a month as it was known in the month kn. -/
def idx (m kn : Int) (l : List El) : Int × Bool := valOf (bestOf m kn l)
theorem best_nil (m kn : Int) : bestOf m kn [] = none := rfl
theorem best_snoc (m kn : Int) (l : List El) (x : El) : bestOf m kn (l ++ [x]) = better m kn (bestOf m kn l) x := by simp [bestOf, List.foldl_append]
theorem best_take (m kn : Int) (l : List El) (j : Nat) (h : j < l.length) : bestOf m kn (l.take (j + 1)) = better m kn (bestOf m kn (l.take j)) l[j] := by
  rw [List.take_succ_eq_append_getElem h]
  exact best_snoc ..
theorem better_yes {m kn : Int} {b : Option El} {x : El} (h1 : x.Month ≤ m) (h2 : x.Known ≤ kn) (h3 : ∀ y, b = some y → y.Month ≤ x.Month) : better m kn b x = some x := if_pos (decide_eq_true ⟨h1, h2, h3⟩)
theorem better_no {m kn : Int} {b : Option El} {x : El} (h : ¬ (x.Month ≤ m ∧ x.Known ≤ kn ∧ ∀ y, b = some y → y.Month ≤ x.Month)) : better m kn b x = b := if_neg (by rw [hitP, decide_eq_false h]; exact Bool.false_ne_true)
/-- The values of all points for a month. -/
def revs (m : Int) (l : List El) : List Int := (l.filter fun x => decide (x.Month = m)).map (·.Value)
theorem revs_len (m : Int) (l : List El) : (revs m l).length ≤ l.length := by
  unfold revs
  rw [List.length_map]
  exact List.length_filter_le ..
theorem revs_take (m : Int) (l : List El) (j : Nat) (h : j < l.length) : revs m (l.take (j + 1)) = if l[j].Month = m then revs m (l.take j) ++ [l[j].Value] else revs m (l.take j) := by
  rw [List.take_succ_eq_append_getElem h]
  unfold revs
  rw [List.filter_append]
  by_cases hb : l[j].Month = m <;> simp [hb]
/-- A series and whether a point could be added. -/
noncomputable def added (l : List El) (x : El) : List El × Bool := if okS (l ++ [x]) = true then (l ++ [x], true) else (l, false)
theorem added_yes {l : List El} {x : El} (h : okS (l ++ [x]) = true) : added l x = (l ++ [x], true) := if_pos h
theorem added_no {l : List El} {x : El} (h : okS (l ++ [x]) = false) : added l x = (l, false) := if_neg (by rw [h]; exact Bool.false_ne_true)
theorem added_le (l : List El) (x : El) (h : l.length ≤ 1099511627775) : (added l x).1.length ≤ 1099511627776 := by
  unfold added
  split <;> simp <;> omega
/-- The first j points are valid and in order. -/
def Pre (l : List El) (j : Nat) : Prop := (∀ i (h : i < l.length), i < j → okP l[i] = true) ∧ ∀ i (h : i + 1 < l.length), i + 1 < j → l[i].Known ≤ l[i + 1].Known
/-- The month in which the last of the first j points became known. -/
def since (l : List El) (j : Nat) : Int := if h : 0 < j ∧ j ≤ l.length then (l[j - 1]'(by omega)).Known else 0
theorem since_zero (l : List El) : since l 0 = 0 := by simp [since]
theorem since_succ (l : List El) (j : Nat) (h : j < l.length) : since l (j + 1) = l[j].Known := by
  unfold since
  rw [dif_pos ⟨by omega, by omega⟩]
  rfl
theorem Pre.zero (l : List El) : Pre l 0 := ⟨fun i _ hi => by omega, fun i _ hi => by omega⟩
theorem Pre.succ {l : List El} {j : Nat} (h : Pre l j) (hj : j < l.length) (h1 : okP l[j] = true) (h2 : since l j ≤ l[j].Known) : Pre l (j + 1) := by
  refine ⟨fun i hi hij => ?_, fun i hi hij => ?_⟩
  · by_cases e : i = j
    · subst e; exact h1
    · exact h.1 i hi (by omega)
  · by_cases e : i + 1 = j
    · subst e
      rw [since_succ l i (by omega)] at h2
      exact h2
    · exact h.2 i hi (by omega)
theorem Pre.all {l : List El} (h : Pre l l.length) (hl : l.length ≤ 200) : OkS l := ⟨hl, fun i hi => h.1 i hi hi, fun i hi => h.2 i hi hi⟩
theorem not_ok {l : List El} {j : Nat} (hj : j < l.length) (h : okP l[j] = false) : ¬ OkS l := fun e => by rw [e.2.1 j hj] at h; cases h
theorem not_since {l : List El} {j : Nat} (hj : j < l.length) (h : okP l[j] = true) (h2 : l[j].Known < since l j) : ¬ OkS l := fun e => by
  cases j with
  | zero =>
    rw [since_zero] at h2
    have := okP_of h
    omega
  | succ i =>
    rw [since_succ l i (by omega)] at h2
    have := e.2.2 i hj
    omega
theorem not_len {l : List El} (h : 200 < l.length) : ¬ OkS l := fun e => by have := e.1; omega
end Go.Proofs.Ytdmkceaonfbebaa.PointMath
