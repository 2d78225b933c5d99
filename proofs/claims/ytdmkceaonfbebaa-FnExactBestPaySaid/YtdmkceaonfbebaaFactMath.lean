/- What stores say: plain mathematics on lists of facts. -/
import Derived.Test.YtdmkceaonfbebaaFact
namespace Go.Proofs.Ytdmkceaonfbebaa.FactMath
open Fact Mon

def OkS (l : List Fa) : Prop := l.length ≤ 200 ∧ (∀ i (h : i < l.length), okF l[i] = true) ∧ ∀ i (h : i + 1 < l.length), l[i].n ≤ l[i + 1].n
open Classical in
noncomputable def okS (l : List Fa) : Bool := decide (OkS l)
theorem okS_yes {l : List Fa} (h : OkS l) : okS l = true := by simp [okS, h]
theorem okS_no {l : List Fa} (h : ¬ OkS l) : okS l = false := by simp [okS, h]
theorem okS_of {l : List Fa} (h : okS l = true) : OkS l := by simpa [okS] using h
theorem okS_not {l : List Fa} (h : okS l = false) : ¬ OkS l := by simpa [okS] using h
/-- A prefix of a valid store is valid. -/
theorem OkS.left {l r : List Fa} (h : OkS (l ++ r)) : OkS l := by
  refine ⟨by have := h.1; simp at this; omega, fun i hi => ?_, fun i hi => ?_⟩
  · have := h.2.1 i (by simp; omega)
    rwa [List.getElem_append_left hi] at this
  · have := h.2.2 i (by simp; omega)
    rwa [List.getElem_append_left (show i < l.length by omega), List.getElem_append_left hi] at this
theorem OkS.snoc {l : List Fa} {x : Fa} (h : OkS l) (hn : l.length < 200) (hx : okF x = true) (hk : ∀ y ∈ l, y.n ≤ x.n) : OkS (l ++ [x]) := by
  refine ⟨by simp; omega, fun i hi => ?_, fun i hi => ?_⟩
  · by_cases h1 : i < l.length
    · rw [List.getElem_append_left h1]; exact h.2.1 i h1
    · have : i = l.length := by simp at hi; omega
      subst this
      simpa using hx
  · by_cases h1 : i + 1 < l.length
    · rw [List.getElem_append_left h1, List.getElem_append_left (show i < l.length by omega)]; exact h.2.2 i h1
    · have : i + 1 = l.length := by simp at hi; omega
      have e : (l ++ [x])[i + 1] = x := by simp [this]
      rw [e, List.getElem_append_left (show i < l.length by omega)]
      exact hk _ (List.getElem_mem _)
theorem OkS.known {l : List Fa} (h : OkS l) : ∀ i j (hi : i < l.length) (hj : j < l.length), i ≤ j → l[i].n ≤ l[j].n := by
  intro i j hi hj hij
  induction j with
  | zero => have : i = 0 := by omega
            subst this; exact Int.le_refl _
  | succ k ih =>
    by_cases e : i = k + 1
    · subst e; exact Int.le_refl _
    · exact Int.le_trans (ih (by omega) (by omega)) (h.2.2 k hj)

def hit (key m kn : Int) (x : Fa) : Bool := decide (x.k = key ∧ x.f ≤ m ∧ m < x.t ∧ x.n ≤ kn)
theorem hit_yes {key m kn : Int} {x : Fa} (h : x.k = key ∧ x.f ≤ m ∧ m < x.t ∧ x.n ≤ kn) : hit key m kn x = true := decide_eq_true h
theorem hit_no {key m kn : Int} {x : Fa} (h : ¬ (x.k = key ∧ x.f ≤ m ∧ m < x.t ∧ x.n ≤ kn)) : hit key m kn x = false := decide_eq_false h
theorem hit_of {key m kn : Int} {x : Fa} (h : hit key m kn x = true) : x.k = key ∧ x.f ≤ m ∧ m < x.t ∧ x.n ≤ kn := of_decide_eq_true h
/-- The value of a month as it was known in the month kn. -/
def val (key m kn : Int) (l : List Fa) : Int × Bool := l.foldl (fun r x => if hit key m kn x = true then (x.v, true) else r) (0, false)
theorem val_nil (key m kn : Int) : val key m kn [] = (0, false) := rfl
theorem val_snoc (key m kn : Int) (l : List Fa) (x : Fa) : val key m kn (l ++ [x]) = if hit key m kn x = true then (x.v, true) else val key m kn l := by simp [val, List.foldl_append]
theorem val_take (key m kn : Int) (l : List Fa) (j : Nat) (h : j < l.length) : val key m kn (l.take (j + 1)) = if hit key m kn l[j] = true then (l[j].v, true) else val key m kn (l.take j) := by
  rw [List.take_succ_eq_append_getElem h]
  exact val_snoc ..
def keep (kn : Int) (l : List Fa) : List Fa := l.filter fun x => decide (x.n ≤ kn)
theorem keep_len (kn : Int) (l : List Fa) : (keep kn l).length ≤ l.length := List.length_filter_le ..
theorem keep_take (kn : Int) (l : List Fa) (j : Nat) (h : j < l.length) : keep kn (l.take (j + 1)) = if l[j].n ≤ kn then keep kn (l.take j) ++ [l[j]] else keep kn (l.take j) := by
  rw [List.take_succ_eq_append_getElem h]
  unfold keep
  rw [List.filter_append]
  by_cases hb : l[j].n ≤ kn <;> simp [hb]
/-- The months in which what was known in a differs from what was known in b. -/
def differ (key a b : Int) (l : List Fa) (m : Int) : Bool := decide (val key m a l ≠ val key m b l)
def monthsTo (key a b : Int) (l : List Fa) (n : Nat) : List Int := ((List.range n).map fun (i : Nat) => (i : Int)).filter (differ key a b l)
theorem monthsTo_zero (key a b : Int) (l : List Fa) : monthsTo key a b l 0 = [] := rfl
theorem monthsTo_succ (key a b : Int) (l : List Fa) (n : Nat) : monthsTo key a b l (n + 1) = if differ key a b l (n : Int) = true then monthsTo key a b l n ++ [(n : Int)] else monthsTo key a b l n := by
  unfold monthsTo
  rw [List.range_succ, List.map_append, List.filter_append]
  by_cases hb : differ key a b l (n : Int) = true <;> simp [hb]
theorem monthsTo_len (key a b : Int) (l : List Fa) (n : Nat) : (monthsTo key a b l n).length ≤ n := by
  unfold monthsTo
  refine Nat.le_trans (List.length_filter_le ..) ?_
  simp
noncomputable def changed (l : List Fa) (key a b : Int) : List Int := if okS l = true ∧ inB key 1 50 = true ∧ inB a 0 3599 = true ∧ inB b 0 3599 = true then monthsTo key a b l 3600 else []
theorem changed_len (l : List Fa) (key a b : Int) : (changed l key a b).length ≤ 3600 := by
  unfold changed
  split
  · exact monthsTo_len ..
  · simp
/-- A store and whether a fact could be added. -/
noncomputable def added (l : List Fa) (x : Fa) : List Fa × Bool := if okS (l ++ [x]) = true then (l ++ [x], true) else (l, false)
theorem added_yes {l : List Fa} {x : Fa} (h : okS (l ++ [x]) = true) : added l x = (l ++ [x], true) := if_pos h
theorem added_no {l : List Fa} {x : Fa} (h : okS (l ++ [x]) = false) : added l x = (l, false) := if_neg (by rw [h]; exact Bool.false_ne_true)
theorem added_le (l : List Fa) (x : Fa) (h : l.length ≤ 1099511627775) : (added l x).1.length ≤ 1099511627776 := by
  unfold added
  split <;> simp <;> omega
/-- The first j facts are valid and in order. -/
def Pre (l : List Fa) (j : Nat) : Prop := (∀ i (h : i < l.length), i < j → okF l[i] = true) ∧ ∀ i (h : i + 1 < l.length), i + 1 < j → l[i].n ≤ l[i + 1].n
/-- The month in which the last of the first j facts became known. -/
def since (l : List Fa) (j : Nat) : Int := if h : 0 < j ∧ j ≤ l.length then (l[j - 1]'(by omega)).n else 0
theorem since_zero (l : List Fa) : since l 0 = 0 := by simp [since]
theorem since_succ (l : List Fa) (j : Nat) (h : j < l.length) : since l (j + 1) = l[j].n := by
  unfold since
  rw [dif_pos ⟨by omega, by omega⟩]
  rfl
theorem Pre.zero (l : List Fa) : Pre l 0 := ⟨fun i _ hi => by omega, fun i _ hi => by omega⟩
theorem Pre.succ {l : List Fa} {j : Nat} (h : Pre l j) (hj : j < l.length) (h1 : okF l[j] = true) (h2 : since l j ≤ l[j].n) : Pre l (j + 1) := by
  refine ⟨fun i hi hij => ?_, fun i hi hij => ?_⟩
  · by_cases e : i = j
    · subst e; exact h1
    · exact h.1 i hi (by omega)
  · by_cases e : i + 1 = j
    · subst e
      rw [since_succ l i (by omega)] at h2
      exact h2
    · exact h.2 i hi (by omega)
theorem Pre.all {l : List Fa} (h : Pre l l.length) (hl : l.length ≤ 200) : OkS l := ⟨hl, fun i hi => h.1 i hi hi, fun i hi => h.2 i hi hi⟩
theorem not_ok {l : List Fa} {j : Nat} (hj : j < l.length) (h : okF l[j] = false) : ¬ OkS l := fun e => by rw [e.2.1 j hj] at h; cases h
theorem not_since {l : List Fa} {j : Nat} (hj : j < l.length) (h : okF l[j] = true) (h2 : l[j].n < since l j) : ¬ OkS l := fun e => by
  cases j with
  | zero =>
    rw [since_zero] at h2
    have := okF_of h
    omega
  | succ i =>
    rw [since_succ l i (by omega)] at h2
    have := e.2.2 i hj
    omega
theorem not_len {l : List Fa} (h : 200 < l.length) : ¬ OkS l := fun e => by have := e.1; omega
end Go.Proofs.Ytdmkceaonfbebaa.FactMath
