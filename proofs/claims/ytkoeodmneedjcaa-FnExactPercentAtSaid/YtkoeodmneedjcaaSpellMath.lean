/- Spells of employment: service, breaks, insertion: plain mathematics. -/
import Derived.Test.YtkoeodmneedjcaaTSpell
import Derived.Test.YtkoeodmneedjcaaTSegment
import Derived.Test.YtkoeodmneedjcaaMon
namespace Go.Proofs.Ytkoeodmneedjcaa.SpellMath
open TSpell Mon
abbrev Sp := TSpell.El
abbrev Seg := TSegment.El
/-- A valid spell. -/
def OkP (x : Sp) : Prop := 0 ≤ x.From ∧ x.From < x.To ∧ x.To ≤ 3600 ∧ 1 ≤ x.Percent ∧ x.Percent ≤ 100
structure Ok (l : List Sp) : Prop where
  len : l.length ≤ 30
  each : ∀ i (h : i < l.length), OkP l[i]
  next : ∀ i (h : i + 1 < l.length), (l[i]'(by omega)).To ≤ l[i + 1].From
/-- The first k spells are valid and in order. -/
structure OkTo (l : List Sp) (k : Nat) : Prop where
  each : ∀ i (h : i < l.length), i < k → OkP l[i]
  next : ∀ i (h : i + 1 < l.length), i + 1 < k → (l[i]'(by omega)).To ≤ l[i + 1].From
theorem OkTo.zero (l : List Sp) : OkTo l 0 := ⟨fun _ _ h => by omega, fun _ _ h => by omega⟩
theorem OkTo.succ {l : List Sp} {k : Nat} (h : OkTo l k) (hk : k < l.length) (h1 : OkP l[k]) (h2 : ∀ j, k = j + 1 → ∀ (hj : j < l.length), l[j].To ≤ l[k].From) : OkTo l (k + 1) := by
  refine ⟨fun i hi hl => ?_, fun i hi hl => ?_⟩
  · by_cases e : i = k
    · subst e; exact h1
    · exact h.each i hi (by omega)
  · by_cases e : i + 1 = k
    · subst e; exact h2 i rfl (by omega)
    · exact h.next i hi (by omega)
theorem ok_of {l : List Sp} (h : OkTo l l.length) (hl : l.length ≤ 30) : Ok l := ⟨hl, fun i hi => h.each i hi hi, fun i hi => h.next i hi hi⟩
open Classical in
noncomputable def okB (l : List Sp) : Bool := decide (Ok l)
theorem okB_yes {l : List Sp} (h : Ok l) : okB l = true := by simp [okB, h]
theorem okB_of {l : List Sp} (h : okB l = true) : Ok l := by simpa [okB] using h
theorem okB_no {l : List Sp} (h : ¬ Ok l) : okB l = false := by simp [okB, h]
theorem okB_len {l : List Sp} (h : ¬ l.length ≤ 30) : okB l = false := okB_no fun e => h e.len
theorem okB_each {l : List Sp} {i : Nat} (h : i < l.length) (hn : ¬ OkP l[i]) : okB l = false := okB_no fun e => hn (e.each i h)
theorem okB_next {l : List Sp} {i : Nat} (h : i + 1 < l.length) (hn : ¬ (l[i]'(by omega)).To ≤ l[i + 1].From) : okB l = false := okB_no fun e => hn (e.next i h)
theorem okB_len_is {l : List Sp} (h : OkTo l l.length) : okB l = decide (l.length ≤ 30) := by
  by_cases hl : l.length ≤ 30
  · rw [okB_yes (ok_of h hl), decide_eq_true hl]
  · rw [okB_len hl, decide_eq_false hl]
/-- In a valid list a later spell begins no earlier than an earlier one ends. -/
theorem Ok.before {l : List Sp} (h : Ok l) {i j : Nat} (hj : j < l.length) (hij : i < j) : (l[i]'(by omega)).To ≤ l[j].From := by
  induction j with
  | zero => omega
  | succ j ih =>
    by_cases e : i = j
    · subst e; exact h.next i hj
    · have h1 := ih (by omega) (by omega)
      have h2 := h.each j (by omega)
      have h3 := h.next j hj
      unfold OkP at h2
      omega
/-- What a spell adds to the service of a range. -/
def one (f t : Int) (x : Sp) : Int := if x.Leave = true then 0 else x.Percent * common x.From x.To f t
def svcTo (l : List Sp) (f t : Int) (k : Nat) : Int := ((l.take k).map (one f t)).sum
noncomputable def svc (l : List Sp) (f t : Int) : Int := if okB l = true then (l.map (one f t)).sum else 0
theorem svcTo_zero (l : List Sp) (f t : Int) : svcTo l f t 0 = 0 := by simp [svcTo]
theorem svcTo_succ (l : List Sp) (f t : Int) (k : Nat) (h : k < l.length) : svcTo l f t (k + 1) = svcTo l f t k + one f t l[k] := by
  unfold svcTo
  rw [List.take_succ_eq_append_getElem h, List.map_append, List.sum_append]
  simp
theorem svcTo_all (l : List Sp) (f t : Int) : svcTo l f t l.length = (l.map (one f t)).sum := by simp [svcTo]
theorem svc_yes {l : List Sp} {f t : Int} (h : okB l = true) : svc l f t = svcTo l f t l.length := by rw [svc, if_pos h, svcTo_all]
theorem svc_no {l : List Sp} {f t : Int} (h : okB l = false) : svc l f t = 0 := by rw [svc, if_neg (by rw [h]; simp)]
theorem common_bd (a b c d : Int) : 0 ≤ common a b c d ∧ common a b c d ≤ 3600 := by
  unfold common
  split
  next h =>
    have h1 := inB_of h.1; have h2 := inB_of h.2.1; have h3 := inB_of h.2.2.1; have h4 := inB_of h.2.2.2
    omega
  next => omega
theorem one_bd {f t : Int} {x : Sp} (h : OkP x) : 0 ≤ one f t x ∧ one f t x ≤ 360000 := by
  unfold one
  have hc := common_bd x.From x.To f t
  have hp := h.2.2.2
  split
  · omega
  · constructor
    · exact Int.mul_nonneg (by omega) hc.1
    · have h1 : x.Percent * common x.From x.To f t ≤ 100 * 3600 := Int.mul_le_mul hp.2 hc.2 hc.1 (by omega)
      omega
theorem svcTo_bd {l : List Sp} {f t : Int} (h : ∀ i (h : i < l.length), OkP l[i]) : ∀ k : Nat, k ≤ l.length → 0 ≤ svcTo l f t k ∧ svcTo l f t k ≤ 360000 * (k : Int)
  | 0, _ => by rw [svcTo_zero]; omega
  | k + 1, hk => by
    have ih := svcTo_bd (f := f) (t := t) h k (by omega)
    have h1 := one_bd (f := f) (t := t) (h k (by omega))
    rw [svcTo_succ l f t k (by omega)]
    omega
/-- The spell contains the month and counts. -/
def inS (m : Int) (x : Sp) : Bool := decide (x.From ≤ m) && decide (m < x.To) && !x.Leave
/-- The percent of the first spell that contains the month. -/
def firstP (l : List Sp) (m : Int) : Int := match l.find? (inS m) with | some x => x.Percent | none => 0
noncomputable def pct (l : List Sp) (m : Int) : Int := if okB l = true then firstP l m else 0
theorem pct_no {l : List Sp} {m : Int} (h : okB l = false) : pct l m = 0 := by rw [pct, if_neg (by rw [h]; simp)]
theorem pct_yes {l : List Sp} {m : Int} (h : okB l = true) : pct l m = firstP l m := by rw [pct, if_pos h]
theorem find_none {l : List Sp} {m : Int} (h : ∀ i (h : i < l.length), inS m l[i] = false) : firstP l m = 0 := by
  have : l.find? (inS m) = none := by
    rw [List.find?_eq_none]
    intro x hx
    obtain ⟨i, hi, rfl⟩ := List.mem_iff_getElem.1 hx
    rw [h i hi]
    simp
  rw [firstP, this]
theorem find_at {l : List Sp} {m : Int} {k : Nat} (hk : k < l.length) (h : inS m l[k] = true) (hb : ∀ i (h : i < l.length), i < k → inS m l[i] = false) : firstP l m = l[k].Percent := by
  have : l.find? (inS m) = some l[k] := by
    rw [List.find?_eq_some_iff_getElem]
    refine ⟨h, k, hk, rfl, fun j hj => ?_⟩
    rw [hb j (by omega) hj]
    rfl
  rw [firstP, this]
/-- The ranges between successive spells that do not touch. -/
def gap (x y : Sp) : List Seg := if x.To < y.From then [⟨x.To, y.From, y.From - x.To⟩] else []
def breaksTo (l : List Sp) : Nat → List Seg
  | 0 => []
  | k + 1 => if h : k + 1 < l.length then breaksTo l k ++ gap (l[k]'(by omega)) l[k + 1] else breaksTo l k
theorem breaksTo_succ (l : List Sp) (k : Nat) (h : k + 1 < l.length) : breaksTo l (k + 1) = breaksTo l k ++ gap (l[k]'(by omega)) l[k + 1] := by rw [breaksTo, dif_pos h]
theorem breaksTo_len (l : List Sp) : ∀ k, (breaksTo l k).length ≤ k
  | 0 => by simp [breaksTo]
  | k + 1 => by
    have ih := breaksTo_len l k
    rw [breaksTo]
    split
    · rw [List.length_append]
      have : (gap (l[k]'(by omega)) (l[k + 1]'(by assumption))).length ≤ 1 := by unfold gap; split <;> simp
      omega
    · omega
noncomputable def breaks (l : List Sp) : List Seg := if okB l = true then breaksTo l (l.length - 1) else []
theorem breaks_no {l : List Sp} (h : okB l = false) : breaks l = [] := by rw [breaks, if_neg (by rw [h]; simp)]
theorem breaks_yes {l : List Sp} (h : okB l = true) : breaks l = breaksTo l (l.length - 1) := by rw [breaks, if_pos h]
theorem breaks_len (l : List Sp) : (breaks l).length ≤ l.length := by
  unfold breaks
  split
  · exact Nat.le_trans (breaksTo_len _ _) (by omega)
  · simp
/-- Insertion before the first spell that begins later. -/
def ins (l : List Sp) (x : Sp) : List Sp := match l with
  | [] => [x]
  | y :: r => if x.From < y.From then x :: y :: r else y :: ins r x
theorem ins_len : ∀ (l : List Sp) (x : Sp), (ins l x).length = l.length + 1
  | [], _ => rfl
  | y :: r, x => by
    rw [ins]
    split
    · rfl
    · rw [List.length_cons, ins_len r x, List.length_cons]
theorem ins_split : ∀ (l : List Sp) (x : Sp), ∃ k, k ≤ l.length ∧ ins l x = l.take k ++ x :: l.drop k ∧ (∀ i (h : i < l.length), i < k → l[i].From ≤ x.From) ∧ (∀ (h : k < l.length), x.From < l[k].From)
  | [], x => ⟨0, Nat.le_refl _, rfl, fun _ _ h => by omega, fun h => by simp at h⟩
  | y :: r, x => by
    rw [ins]
    by_cases h : x.From < y.From
    · rw [if_pos h]
      exact ⟨0, Nat.zero_le _, rfl, fun _ _ h => by omega, fun _ => h⟩
    · rw [if_neg h]
      obtain ⟨k, hk, e, h1, h2⟩ := ins_split r x
      refine ⟨k + 1, by simp; omega, by rw [e]; simp, fun i hi hik => ?_, fun hl => ?_⟩
      · cases i with
        | zero => exact Int.not_lt.1 h
        | succ i => exact h1 i (by simpa using hi) (by omega)
      · exact h2 (by simpa using hl)
theorem ins_at {l : List Sp} {x : Sp} {k : Nat} (hk : k ≤ l.length) (h1 : ∀ i (h : i < l.length), i < k → l[i].From ≤ x.From) (h2 : ∀ (h : k < l.length), x.From < l[k].From) : ins l x = l.take k ++ x :: l.drop k := by
  induction l generalizing k with
  | nil =>
    obtain rfl : k = 0 := by simpa using hk
    rfl
  | cons y r ih =>
    rw [ins]
    cases k with
    | zero =>
      have h0 : x.From < y.From := h2 (by simp)
      rw [if_pos h0]
      rfl
    | succ k =>
      have h0 := h1 0 (by simp) (by omega)
      rw [if_neg (by have : y.From ≤ x.From := h0; omega)]
      rw [ih (k := k) (by simpa using hk) (fun i hi hik => h1 (i + 1) (by simpa using hi) (by omega)) (fun h => h2 (by simpa using h))]
      rfl
/-- AddSpell's answer. -/
noncomputable def added (l : List Sp) (x : Sp) : List Sp × Bool := if okB l = true ∧ okB (ins l x) = true then (ins l x, true) else (l, false)
theorem added_yes {l : List Sp} {x : Sp} (h1 : okB l = true) (h2 : okB (ins l x) = true) : added l x = (ins l x, true) := if_pos ⟨h1, h2⟩
theorem added_no1 {l : List Sp} {x : Sp} (h1 : okB l = false) : added l x = (l, false) := if_neg fun e => by rw [h1] at e; cases e.1
theorem added_no2 {l : List Sp} {x : Sp} (h2 : okB (ins l x) = false) : added l x = (l, false) := if_neg fun e => by rw [h2] at e; cases e.2
theorem added_le (l : List Sp) (x : Sp) : (added l x).1.length ≤ l.length + 1 := by
  unfold added
  split
  · rw [ins_len]; exact Nat.le_refl _
  · simp only []; omega
end Go.Proofs.Ytkoeodmneedjcaa.SpellMath
