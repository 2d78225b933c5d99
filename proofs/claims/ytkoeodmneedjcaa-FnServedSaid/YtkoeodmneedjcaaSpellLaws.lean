/- Service month by month, breaks and spells together, an inserted spell: plain mathematics of the drawn laws of chapter 11. -/
import Derived.Test.YtkoeodmneedjcaaSpellMath
namespace Go.Proofs.Ytkoeodmneedjcaa.SpellLaws
open SpellMath Mon
/-- What a spell adds in one month. -/
def term (m : Int) (x : Sp) : Int := if inS m x = true then x.Percent else 0
theorem inS_iff {m : Int} {x : Sp} : inS m x = true ↔ x.From ≤ m ∧ m < x.To ∧ x.Leave = false := by
  simp only [inS, Bool.and_eq_true, decide_eq_true_eq, Bool.not_eq_true']
  exact ⟨fun ⟨⟨a, b⟩, c⟩ => ⟨a, b, c⟩, fun ⟨a, b, c⟩ => ⟨⟨a, b⟩, c⟩⟩
theorem inS_no {m : Int} {x : Sp} (h : ¬ (x.From ≤ m ∧ m < x.To ∧ x.Leave = false)) : inS m x = false := by
  cases e : inS m x with
  | false => rfl
  | true => exact absurd (inS_iff.1 e) h
theorem terms_zero {l : List Sp} {m : Int} (h : ∀ x ∈ l, inS m x = false) : (l.map (term m)).sum = 0 := by
  induction l with
  | nil => rfl
  | cons x r ih =>
    rw [List.map_cons, List.sum_cons, ih (fun y hy => h y (List.mem_cons_of_mem _ hy)), term, if_neg (by rw [h x List.mem_cons_self]; simp)]
    rfl
/-- In a valid list at most one spell contains a month. -/
theorem first_is {l : List Sp} (h : Ok l) (m : Int) : firstP l m = (l.map (term m)).sum := by
  by_cases hex : ∃ k, ∃ hk : k < l.length, inS m l[k] = true
  · obtain ⟨k, hk, hin⟩ := hex
    have others : ∀ i (hi : i < l.length), i ≠ k → inS m l[i] = false := fun i hi hne => inS_no fun e => by
      have a := inS_iff.1 hin
      rcases Nat.lt_or_gt_of_ne hne with q | q
      · have := h.before hk q; omega
      · have := h.before hi q; omega
    rw [find_at hk hin (fun i hi hik => others i hi (by omega))]
    have e : l = l.take k ++ l[k] :: l.drop (k + 1) := by rw [← List.drop_eq_getElem_cons hk, List.take_append_drop]
    have z1 : ((l.take k).map (term m)).sum = 0 := terms_zero fun x hx => by
      obtain ⟨i, hi, rfl⟩ := List.mem_take_iff_getElem.1 hx
      exact others i (by omega) (by omega)
    have z2 : ((l.drop (k + 1)).map (term m)).sum = 0 := terms_zero fun x hx => by
      obtain ⟨i, hi, rfl⟩ := List.mem_iff_getElem.1 hx
      rw [List.getElem_drop]
      rw [List.length_drop] at hi
      exact others (k + 1 + i) (by omega) (by omega)
    generalize hy : l[k] = y at e hin ⊢
    rw [e, List.map_append, List.sum_append, z1, List.map_cons, List.sum_cons, z2, term, if_pos hin]
    omega
  · have hno : ∀ i (hi : i < l.length), inS m l[i] = false := fun i hi => by
      cases e : inS m l[i] with
      | false => rfl
      | true => exact absurd ⟨i, hi, e⟩ hex
    rw [find_none hno, terms_zero fun x hx => by
      obtain ⟨i, hi, rfl⟩ := List.mem_iff_getElem.1 hx
      exact hno i hi]
theorem common_in {a b c d : Int} (h1 : 0 ≤ a ∧ a ≤ 3600) (h2 : 0 ≤ b ∧ b ≤ 3600) (h3 : 0 ≤ c ∧ c ≤ 3600) (h4 : 0 ≤ d ∧ d ≤ 3600) : common a b c d = max 0 (min b d - max a c) := by
  unfold common
  rw [if_pos ⟨inB_yes h1.1 h1.2, inB_yes h2.1 h2.2, inB_yes h3.1 h3.2, inB_yes h4.1 h4.2⟩]
theorem one_succ {x : Sp} (h : OkP x) {a m : Int} (ha : 0 ≤ a) (hm : a ≤ m) (hl : m + 1 ≤ 3600) : one a (m + 1) x = one a m x + term m x := by
  unfold OkP at h
  unfold one term
  by_cases hl : x.Leave = true
  · rw [if_pos hl, if_pos hl, if_neg (fun e => by have := (inS_iff.1 e).2.2; rw [hl] at this; cases this)]
    rfl
  · have hl2 : x.Leave = false := by simpa using hl
    rw [if_neg hl, if_neg hl, common_in (by omega) (by omega) (by omega) (by omega), common_in (by omega) (by omega) (by omega) (by omega)]
    by_cases hin : x.From ≤ m ∧ m < x.To
    · rw [if_pos (inS_iff.2 ⟨hin.1, hin.2, hl2⟩)]
      have e : max 0 (min x.To (m + 1) - max x.From a) = max 0 (min x.To m - max x.From a) + 1 := by omega
      rw [e, Int.mul_add, Int.mul_one]
    · rw [if_neg (fun e => hin ⟨(inS_iff.1 e).1, (inS_iff.1 e).2.1⟩)]
      have e : max 0 (min x.To (m + 1) - max x.From a) = max 0 (min x.To m - max x.From a) := by omega
      rw [e, Int.add_zero]
theorem one_empty {x : Sp} {a b : Int} (h : b ≤ a) : one a b x = 0 := by
  unfold one
  split
  · rfl
  · have : common x.From x.To a b = 0 := by
      unfold common
      split
      · omega
      · rfl
    rw [this, Int.mul_zero]
theorem svc_succ {l : List Sp} (h : Ok l) {a m : Int} (ha : 0 ≤ a) (hm : a ≤ m) (hl : m + 1 ≤ 3600) : svc l a (m + 1) = svc l a m + pct l m := by
  have hb := okB_yes h
  rw [svc, svc, if_pos hb, if_pos hb, pct_yes hb, first_is h]
  have key : ∀ r : List Sp, (∀ x ∈ r, OkP x) → (r.map (one a (m + 1))).sum = (r.map (one a m)).sum + (r.map (term m)).sum := by
    intro r
    induction r with
    | nil => intro _; rfl
    | cons x r ih =>
      intro hr
      simp only [List.map_cons, List.sum_cons]
      rw [ih (fun y hy => hr y (List.mem_cons_of_mem _ hy)), one_succ (hr x List.mem_cons_self) ha hm hl]
      omega
  exact key l fun x hx => by
    obtain ⟨i, hi, rfl⟩ := List.mem_iff_getElem.1 hx
    exact h.each i hi
theorem svc_empty {l : List Sp} {a b : Int} (h : b ≤ a) : svc l a b = 0 := by
  unfold svc
  split
  · have : ∀ r : List Sp, (r.map (one a b)).sum = 0 := by
      intro r
      induction r with
      | nil => rfl
      | cons x r ih => rw [List.map_cons, List.sum_cons, ih, one_empty h]; rfl
    exact this l
  · rfl
theorem svc_full {l : List Sp} (h : Ok l) {a b : Int} (ha : 0 ≤ a) (hb : 0 ≤ b) (hb2 : b ≤ 3600) (ha2 : a ≤ 3600) : svc l a b ≤ svc l 0 3600 := by
  have hok := okB_yes h
  rw [svc, svc, if_pos hok, if_pos hok]
  have key : ∀ r : List Sp, (∀ x ∈ r, OkP x) → (r.map (one a b)).sum ≤ (r.map (one 0 3600)).sum := by
    intro r
    induction r with
    | nil => intro _; exact Int.le_refl _
    | cons x r ih =>
      intro hr
      simp only [List.map_cons, List.sum_cons]
      have h1 := ih (fun y hy => hr y (List.mem_cons_of_mem _ hy))
      have hx := hr x List.mem_cons_self
      unfold OkP at hx
      have h2 : one a b x ≤ one 0 3600 x := by
        unfold one
        split
        · exact Int.le_refl _
        · refine Int.mul_le_mul_of_nonneg_left ?_ (by omega)
          rw [common_in (by omega) (by omega) (by omega) (by omega), common_in (by omega) (by omega) (by omega) (by omega)]
          omega
      omega
  exact key l fun x hx => by
    obtain ⟨i, hi, rfl⟩ := List.mem_iff_getElem.1 hx
    exact h.each i hi
theorem svc_bd {l : List Sp} (h : Ok l) (f t : Int) : 0 ≤ svc l f t ∧ svc l f t ≤ 10800000 := by
  have h1 := svcTo_bd (f := f) (t := t) h.each l.length (Nat.le_refl _)
  have h2 := h.len
  rw [svc_yes (okB_yes h)]
  omega
/-- The lengths of the first k spells. -/
def lens (l : List Sp) (k : Nat) : Int := ((l.take k).map fun x => x.To - x.From).sum
def vals (l : List Seg) (k : Nat) : Int := ((l.take k).map fun x => x.Value).sum
theorem lens_succ (l : List Sp) (k : Nat) (h : k < l.length) : lens l (k + 1) = lens l k + (l[k].To - l[k].From) := by
  unfold lens
  rw [List.take_succ_eq_append_getElem h, List.map_append, List.sum_append]
  simp
theorem vals_succ (l : List Seg) (k : Nat) (h : k < l.length) : vals l (k + 1) = vals l k + l[k].Value := by
  unfold vals
  rw [List.take_succ_eq_append_getElem h, List.map_append, List.sum_append]
  simp
theorem vals_app (a b : List Seg) : vals (a ++ b) (a ++ b).length = vals a a.length + vals b b.length := by
  simp [vals, List.take_of_length_le]
/-- Spells and breaks together fill the time. -/
theorem fill {l : List Sp} (h : Ok l) : ∀ k (hk : k < l.length), lens l (k + 1) + vals (breaksTo l k) (breaksTo l k).length = l[k].To - (l[0]'(by omega)).From
  | 0, hk => by
    rw [lens_succ l 0 hk]
    have e : breaksTo l 0 = [] := rfl
    rw [e]
    simp [lens, vals]
  | k + 1, hk => by
    have ih := fill h k (by omega)
    have hn := h.next k hk
    rw [lens_succ l (k + 1) hk, breaksTo_succ l k hk, vals_app]
    have e : vals (gap (l[k]'(by omega)) l[k + 1]) (gap (l[k]'(by omega)) l[k + 1]).length = l[k + 1].From - (l[k]'(by omega)).To := by
      unfold gap
      split
      · simp [vals]
      · simp [vals]; omega
    rw [e]
    omega
theorem gap_val {x y : Sp} : ∀ s ∈ gap x y, s.Value = s.To - s.From ∧ 0 < s.Value := fun s hs => by
  unfold gap at hs
  split at hs
  next h =>
    have e : s = ⟨x.To, y.From, y.From - x.To⟩ := by simpa using hs
    subst e
    exact ⟨rfl, by show 0 < y.From - x.To; omega⟩
  next => simp at hs
theorem breaks_val (l : List Sp) : ∀ k, ∀ s ∈ breaksTo l k, s.Value = s.To - s.From ∧ 0 < s.Value
  | 0, s, hs => by simp [breaksTo] at hs
  | k + 1, s, hs => by
    rw [breaksTo] at hs
    split at hs
    · rcases List.mem_append.1 hs with q | q
      · exact breaks_val l k s q
      · exact gap_val s q
    · exact breaks_val l k s hs
theorem breaks_bd {l : List Sp} (h : Ok l) : ∀ k, ∀ s ∈ breaksTo l k, 0 ≤ s.From ∧ s.From ≤ 3600 ∧ 0 ≤ s.To ∧ s.To ≤ 3600
  | 0, s, hs => by simp [breaksTo] at hs
  | k + 1, s, hs => by
    rw [breaksTo] at hs
    split at hs
    next hk =>
      rcases List.mem_append.1 hs with q | q
      · exact breaks_bd h k s q
      · have h1 := h.each k (by omega)
        have h2 := h.each (k + 1) hk
        unfold OkP at h1 h2
        unfold gap at q
        split at q
        · have e : s = ⟨(l[k]'(by omega)).To, l[k + 1].From, l[k + 1].From - (l[k]'(by omega)).To⟩ := by simpa using q
          subst e
          exact ⟨by show 0 ≤ (l[k]'(by omega)).To; omega, by show (l[k]'(by omega)).To ≤ 3600; omega, by show 0 ≤ l[k + 1].From; omega, by show l[k + 1].From ≤ 3600; omega⟩
        · simp at q
    next => exact breaks_bd h k s hs
theorem lens_bd {l : List Sp} (h : Ok l) : ∀ k, k ≤ l.length → 0 ≤ lens l k ∧ lens l k ≤ 3600 * (k : Int)
  | 0, _ => by simp [lens]
  | k + 1, hk => by
    have ih := lens_bd h k (by omega)
    have h1 := h.each k (by omega)
    unfold OkP at h1
    rw [lens_succ l k (by omega)]
    omega
/-- What FnBreaks asks of the breaks of valid spells. -/
structure Brk (l : List Sp) (B : List Seg) : Prop where
  len : B.length ≤ 30
  one : ∀ k (h : k < B.length), B[k].Value = B[k].To - B[k].From ∧ 0 < B[k].Value ∧ 0 ≤ B[k].From ∧ B[k].From ≤ 3600 ∧ 0 ≤ B[k].To ∧ B[k].To ≤ 3600
  none : l.length = 0 → lens l l.length + vals B B.length = 0
  some : ∀ k (h : k + 1 = l.length), lens l l.length + vals B B.length = (l[k]'(by omega)).To - (l[0]'(by omega)).From
theorem brk_of {l : List Sp} (h : Ok l) : Brk l (breaks l) := by
  have hl := breaks_len l
  have hl2 := h.len
  refine ⟨by omega, fun k hk => ?_, fun h0 => ?_, fun k hk => ?_⟩
  · have hm : (breaks l)[k] ∈ breaksTo l (l.length - 1) := by rw [← breaks_yes (okB_yes h)]; exact List.getElem_mem hk
    have h1 := breaks_val l _ _ hm
    have h2 := breaks_bd h _ _ hm
    exact ⟨h1.1, h1.2, h2.1, h2.2.1, h2.2.2.1, h2.2.2.2⟩
  · obtain rfl := List.eq_nil_of_length_eq_zero h0
    rw [List.eq_nil_of_length_eq_zero (show (breaks ([] : List Sp)).length = 0 by simpa using hl)]
    rfl
  · have e := fill h k (by omega)
    rw [breaks_yes (okB_yes h), show l.length - 1 = k by omega]
    have e2 : lens l (k + 1) = lens l l.length := by rw [hk]
    rw [e2] at e
    exact e
theorem vals_bd {l : List Sp} {B : List Seg} (h : Brk l B) : ∀ k, k ≤ B.length → 0 ≤ vals B k ∧ vals B k ≤ 3600 * (k : Int)
  | 0, _ => by simp [vals]
  | k + 1, hk => by
    have ih := vals_bd h k (by omega)
    have h1 := h.one k (by omega)
    rw [vals_succ B k (by omega)]
    omega
/-- A spell behind all others. -/
theorem ins_end {l : List Sp} {x : Sp} (h : ∀ y ∈ l, y.From ≤ x.From) : ins l x = l ++ [x] := by
  induction l with
  | nil => rfl
  | cons y r ih =>
    rw [ins, if_neg (by have := h y List.mem_cons_self; omega), ih (fun z hz => h z (List.mem_cons_of_mem _ hz))]
    rfl
theorem ok_snoc {l : List Sp} {x : Sp} (h : Ok l) (hl : l.length + 1 ≤ 30) (hx : OkP x) (hb : ∀ y ∈ l, y.To ≤ x.From) : Ok (l ++ [x]) := by
  refine ⟨by simp; omega, fun i hi => ?_, fun i hi => ?_⟩
  · by_cases e : i < l.length
    · rw [List.getElem_append_left e]; exact h.each i e
    · obtain rfl : i = l.length := by simp at hi; omega
      simpa using hx
  · by_cases e : i + 1 < l.length
    · rw [List.getElem_append_left e, List.getElem_append_left (by omega)]; exact h.next i e
    · obtain e2 : i + 1 = l.length := by simp at hi; omega
      have e3 : (l ++ [x])[i + 1] = x := by simp [e2]
      rw [e3, List.getElem_append_left (by omega)]
      exact hb _ (List.getElem_mem _)
theorem svc_snoc {l : List Sp} {x : Sp} {f t : Int} (h1 : okB l = true) (h2 : okB (l ++ [x]) = true) : svc (l ++ [x]) f t = svc l f t + one f t x := by
  rw [svc, svc, if_pos h1, if_pos h2, List.map_append, List.sum_append]
  simp
theorem not_twice {l : List Sp} {x : Sp} (hx : x.From < x.To) : ¬ Ok (l ++ [x] ++ [x]) := fun h => by
  have := h.next l.length (by simp)
  simp at this
  omega
theorem one_full {x : Sp} (h : OkP x) (hl : x.Leave = false) : one 0 3600 x = x.Percent * (x.To - x.From) := by
  unfold OkP at h
  rw [one, if_neg (by rw [hl]; simp), common_in (by omega) (by omega) (by omega) (by omega)]
  rw [show max 0 (min x.To 3600 - max x.From 0) = x.To - x.From by omega]
/-- What FnInserted asks of a spell that is put behind all others. -/
structure After (l : List Sp) (x : Sp) (P D : Int) : Prop where
  add1 : (added l x).1 = l ++ [x]
  add2 : (added l x).2 = true
  twice : (added (l ++ [x]) x).2 = false
  ok : okB (l ++ [x]) = true
  svc : svc (l ++ [x]) 0 3600 = svc l 0 3600 + P * D
theorem after_of {l : List Sp} {x : Sp} {P D : Int} (h : Ok l) (hl : l.length + 1 ≤ 30) (hb : ∀ y ∈ l, y.To ≤ x.From) (hx : OkP x) (hP : x.Percent = P) (hD : x.To - x.From = D) (hv : x.Leave = false) : After l x P D := by
  have hi : ins l x = l ++ [x] := ins_end fun y hy => by
    obtain ⟨i, hi, rfl⟩ := List.mem_iff_getElem.1 hy
    have h1 := h.each i hi
    have h2 := hb _ hy
    unfold OkP at h1
    omega
  have ho := ok_snoc h hl hx hb
  have e : added l x = (l ++ [x], true) := by rw [← hi]; exact added_yes (okB_yes h) (by rw [hi]; exact okB_yes ho)
  have hi2 : ins (l ++ [x]) x = l ++ [x] ++ [x] := ins_end fun y hy => by
    rcases List.mem_append.1 hy with q | q
    · obtain ⟨i, hi, rfl⟩ := List.mem_iff_getElem.1 q
      have h1 := h.each i hi
      have h2 := hb _ q
      unfold OkP at h1
      omega
    · obtain rfl : y = x := by simpa using q
      exact Int.le_refl _
  refine ⟨by rw [e], by rw [e], ?_, okB_yes ho, ?_⟩
  · rw [added_no2 (by rw [hi2]; exact okB_no (not_twice hx.2.1))]
  · rw [svc_snoc (okB_yes h) (okB_yes ho), one_full hx hv, hP, hD]
end Go.Proofs.Ytkoeodmneedjcaa.SpellLaws
