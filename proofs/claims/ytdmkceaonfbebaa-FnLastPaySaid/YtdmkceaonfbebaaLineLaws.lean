/- What a timeline is, month by month: valid, with the value of every month, and its sums. -/
import Derived.Test.YtdmkceaonfbebaaLineMath
namespace Go.Proofs.Ytdmkceaonfbebaa.LineLaws
open TSegment SegMath Mon Fact FactMath LineMath

theorem addM_concat (L0 : List El) (y : El) (m v : Int) : addM (L0 ++ [y]) m (v, true) = if y.To = m ∧ y.Value = v then L0 ++ [⟨y.From, m + 1, y.Value⟩] else (L0 ++ [y]) ++ [⟨m, m + 1, v⟩] := by
  unfold addM
  rw [if_pos rfl, List.getLast?_concat]
  show (if _ then _ else _) = _
  by_cases h : y.To = m ∧ y.Value = v
  · rw [if_pos h, if_pos h, List.length_append, List.length_singleton, Nat.add_sub_cancel, List.set_append_right _ _ (Nat.le_refl _), Nat.sub_self]
    rfl
  · rw [if_neg h, if_neg h]
theorem okN_snoc (L : List El) : ∀ (y x : El), okN y (L ++ [x]) = (okN y L && (okX x && okP (L.getLast?.getD y) x)) := by
  induction L with
  | nil => intro y x; simp [okN]
  | cons a t ih =>
    intro y x
    rw [List.cons_append]
    simp only [okN]
    rw [ih, List.getLast?_cons, Option.getD_some]
    simp only [Bool.and_assoc]
theorem okL_one (x : El) : okL [x] = okX x := by simp [okL, okN]
theorem okL_snoc (L : List El) (y x : El) : okL ((L ++ [y]) ++ [x]) = (okL (L ++ [y]) && (okX x && okP y x)) := by
  cases L with
  | nil => simp [okL, okN]
  | cons a t =>
    simp only [List.cons_append, okL]
    rw [okN_snoc, List.getLast?_concat, Option.getD_some]
    simp only [Bool.and_assoc]
theorem okL_last (L : List El) (y y' : El) (h : okL (L ++ [y]) = true) (h1 : y'.From = y.From) (h2 : y'.Value = y.Value) (h3 : okX y' = true) : okL (L ++ [y']) = true := by
  rcases List.eq_nil_or_concat L with rfl | ⟨L0, z, rfl⟩
  · rw [List.nil_append, okL_one]; exact h3
  · simp only [List.concat_eq_append] at h ⊢
    rw [okL_snoc] at h ⊢
    simp only [Bool.and_eq_true] at h ⊢
    refine ⟨h.1, h3, ?_⟩
    have := h.2.2
    unfold okP at this ⊢
    rw [h1, h2]
    exact this

def has (m : Int) (x : El) : Bool := decide (x.From ≤ m ∧ m < x.To)
theorem has_no {m : Int} {x : El} (h : ¬ (x.From ≤ m ∧ m < x.To)) : has m x = false := decide_eq_false h
theorem has_yes {m : Int} {x : El} (h : x.From ≤ m ∧ m < x.To) : has m x = true := decide_eq_true h
/-- The value of the first segment that contains m. -/
def seen (L : List El) (m : Int) : Option Int := (L.find? (has m)).map (·.Value)
theorem seen_snoc (L : List El) (x : El) (m : Int) : seen (L ++ [x]) m = (seen L m).or (if has m x = true then some x.Value else none) := by
  unfold seen
  rw [List.find?_append]
  cases L.find? (has m) with
  | some a => rfl
  | none => by_cases h : has m x = true <;> simp [h]
structure Is (f : Int) (g : Int → Int × Bool) (n : Nat) (L : List El) : Prop where
  lie : ∀ x ∈ L, f ≤ x.From ∧ x.From < x.To ∧ x.To ≤ f + (n : Int)
  ok : okL L = true
  val : ∀ m, f ≤ m → m < f + (n : Int) → seen L m = if (g m).2 = true then some (g m).1 else none
theorem Is.late {f : Int} {g : Int → Int × Bool} {n : Nat} {L : List El} (h : Is f g n L) {m : Int} (hm : f + (n : Int) ≤ m) : seen L m = none := by
  unfold seen
  rw [List.find?_eq_none.2 (fun x hx => by rw [has_no (by have := h.lie x hx; omega)]; exact Bool.false_ne_true)]
  rfl
theorem Is.next {f : Int} {g : Int → Int × Bool} {n : Nat} {L : List El} (h : Is f g n L) (h0 : 0 ≤ f) (h1 : f + (n : Int) + 1 ≤ 3600) : Is f g (n + 1) (addM L (f + (n : Int)) (g (f + (n : Int)))) := by
  obtain ⟨⟨v, o⟩, hg⟩ : ∃ r, g (f + (n : Int)) = r := ⟨_, rfl⟩
  rw [hg]
  cases o with
  | false =>
    rw [addM_no]
    refine ⟨fun x hx => by have := h.lie x hx; omega, h.ok, fun m m0 m1 => ?_⟩
    by_cases hm : m < f + (n : Int)
    · exact h.val m m0 hm
    · obtain rfl : m = f + (n : Int) := by omega
      rw [h.late (Int.le_refl _), hg]
      rfl
  | true =>
    rcases List.eq_nil_or_concat L with rfl | ⟨L0, y, rfl⟩
    · rw [addM_nil rfl, List.nil_append]
      refine ⟨fun x hx => ?_, ?_, fun m m0 m1 => ?_⟩
      · obtain rfl := List.mem_singleton.1 hx
        simp only []
        omega
      · rw [okL_one]
        exact okX_yes (by simp only []; omega)
      · by_cases hm : m < f + (n : Int)
        · rw [← h.val m m0 hm]
          simp [seen, has_no (m := m) (x := ⟨f + (n : Int), f + (n : Int) + 1, v⟩) (by simp only []; omega)]
        · obtain rfl : m = f + (n : Int) := by omega
          rw [hg]
          simp [seen, has_yes (m := f + (n : Int)) (x := ⟨f + (n : Int), f + (n : Int) + 1, v⟩) (by simp only []; omega)]
    · simp only [List.concat_eq_append] at h ⊢
      have hy := h.lie y (by simp)
      rw [addM_concat]
      by_cases hs : y.To = f + (n : Int) ∧ y.Value = v
      · rw [if_pos hs]
        have hX : okX ⟨y.From, f + (n : Int) + 1, y.Value⟩ = true := okX_yes (by simp only []; omega)
        refine ⟨fun x hx => ?_, okL_last L0 y _ h.ok rfl rfl hX, fun m m0 m1 => ?_⟩
        · rcases List.mem_append.1 hx with hx | hx
          · have := h.lie x (List.mem_append_left _ hx); omega
          · obtain rfl := List.mem_singleton.1 hx
            simp only []
            omega
        · by_cases hm : m < f + (n : Int)
          · rw [← h.val m m0 hm, seen_snoc, seen_snoc]
            congr 1
            by_cases hq : y.From ≤ m
            · rw [has_yes (x := y) ⟨hq, by omega⟩, has_yes (x := ⟨y.From, f + (n : Int) + 1, y.Value⟩) ⟨hq, by simp only []; omega⟩]
            · rw [has_no (x := y) (fun e => hq e.1), has_no (x := ⟨y.From, f + (n : Int) + 1, y.Value⟩) (fun e => hq e.1)]
          · obtain rfl : m = f + (n : Int) := by omega
            have hl := h.late (Int.le_refl _)
            rw [seen_snoc] at hl ⊢
            rw [hg, has_yes (x := ⟨y.From, f + (n : Int) + 1, y.Value⟩) (by simp only []; omega), if_pos rfl, if_pos rfl]
            rw [(Option.or_eq_none_iff.1 hl).1]
            simp [hs.2]
      · rw [if_neg hs]
        refine ⟨fun x hx => ?_, ?_, fun m m0 m1 => ?_⟩
        · rcases List.mem_append.1 hx with hx | hx
          · have := h.lie x hx; omega
          · obtain rfl := List.mem_singleton.1 hx
            simp only []
            omega
        · rw [okL_snoc, h.ok, okX_yes (by simp only []; omega), okP_yes ⟨by simp only []; omega, hs⟩]
          rfl
        · rw [seen_snoc]
          by_cases hm : m < f + (n : Int)
          · rw [h.val m m0 hm, has_no (by simp only []; omega), if_neg Bool.false_ne_true]
            split <;> rfl
          · obtain rfl : m = f + (n : Int) := by omega
            rw [h.late (Int.le_refl _), has_yes (by simp only []; omega), hg]
            rfl
theorem is_line (key kn f : Int) (l : List Fa) (h0 : 0 ≤ f) (n : Nat) (h1 : f + (n : Int) ≤ 3600) : Is f (fun m => val key m kn l) n (lineTo key kn f l n) := by
  induction n with
  | zero => exact ⟨fun x hx => (by simp [lineTo] at hx), rfl, fun m m0 m1 => by omega⟩
  | succ n ih => exact (ih (by omega)).next h0 (by omega)
theorem addM_two (L : List El) (m v : Int) : (∃ L0 y, L = L0 ++ [y] ∧ y.To = m ∧ y.Value = v ∧ addM L m (v, true) = L0 ++ [⟨y.From, m + 1, y.Value⟩]) ∨ addM L m (v, true) = L ++ [⟨m, m + 1, v⟩] := by
  rcases List.eq_nil_or_concat L with rfl | ⟨L0, y, rfl⟩
  · exact .inr (addM_nil rfl _ _)
  · simp only [List.concat_eq_append]
    rw [addM_concat]
    by_cases hs : y.To = m ∧ y.Value = v
    · exact .inl ⟨L0, y, rfl, hs.1, hs.2, if_pos hs⟩
    · exact .inr (if_neg hs)
/-- The sum of the values of all segments over the months a to b - 1. -/
def part (a b : Int) : List El → Int
  | [] => 0
  | x :: t => x.Value * common x.From x.To a b + part a b t
theorem part_append (a b : Int) (L R : List El) : part a b (L ++ R) = part a b L + part a b R := by
  induction L with
  | nil => simp [part]
  | cons x t ih => rw [List.cons_append]; simp only [part]; rw [ih]; omega
theorem part_one (a b : Int) (x : El) : part a b [x] = x.Value * common x.From x.To a b := by simp [part]
theorem sumT_part (a b : Int) (L : List El) (h : ∀ x ∈ L, inB x.Value (-1000000000) 1000000000 = true) : ∀ n, sumT a b L n = n + part a b L := by
  induction L with
  | nil => intro n; simp [sumT, part]
  | cons x t ih =>
    intro n
    simp only [sumT, part]
    rw [if_pos (h x (by simp)), ih (fun y hy => h y (List.mem_cons_of_mem _ hy))]
    omega
theorem vals_line (key kn f : Int) (l : List Fa) (hv : ∀ m, (val key m kn l).2 = true → inB (val key m kn l).1 (-1000000000) 1000000000 = true) (n : Nat) : ∀ x ∈ lineTo key kn f l n, inB x.Value (-1000000000) 1000000000 = true := by
  induction n with
  | zero => intro x hx; simp [lineTo] at hx
  | succ n ih =>
    intro x hx
    simp only [lineTo] at hx
    obtain ⟨⟨v, o⟩, hg⟩ : ∃ r, val key (f + (n : Int)) kn l = r := ⟨_, rfl⟩
    rw [hg] at hx
    cases o with
    | false => rw [addM_no] at hx; exact ih x hx
    | true =>
      have hv' := hv (f + (n : Int)) (by rw [hg])
      rw [hg] at hv'
      rcases addM_two (lineTo key kn f l n) (f + (n : Int)) v with ⟨L0, y, e, _, _, e2⟩ | e2
      · rw [e2] at hx
        rw [e] at ih
        rcases List.mem_append.1 hx with hx | hx
        · exact ih x (List.mem_append_left _ hx)
        · obtain rfl := List.mem_singleton.1 hx
          exact ih y (by simp)
      · rw [e2] at hx
        rcases List.mem_append.1 hx with hx | hx
        · exact ih x hx
        · obtain rfl := List.mem_singleton.1 hx
          exact hv'
/-- The values of the first n months, where they are counted. -/
def tot (g : Int → Int × Bool) (a b f : Int) : Nat → Int
  | 0 => 0
  | n + 1 => tot g a b f n + if (g (f + (n : Int))).2 = true ∧ a ≤ f + (n : Int) ∧ f + (n : Int) < b then (g (f + (n : Int))).1 else 0
theorem common_in {F T a b : Int} (h1 : 0 ≤ F) (h2 : F ≤ 3600) (h3 : 0 ≤ T) (h4 : T ≤ 3600) (h5 : 0 ≤ a) (h6 : a ≤ 3600) (h7 : 0 ≤ b) (h8 : b ≤ 3600) : common F T a b = max 0 (min T b - max F a) :=
  if_pos ⟨inB_yes h1 h2, inB_yes h3 h4, inB_yes h5 h6, inB_yes h7 h8⟩
theorem part_line (key kn f a b : Int) (l : List Fa) (h0 : 0 ≤ f) (h5 : 0 ≤ a) (h6 : a ≤ 3600) (h7 : 0 ≤ b) (h8 : b ≤ 3600) (n : Nat) (h1 : f + (n : Int) ≤ 3600) :
    part a b (lineTo key kn f l n) = tot (fun m => val key m kn l) a b f n := by
  induction n with
  | zero => rfl
  | succ n ih =>
    have ih := ih (by omega)
    have hL := is_line key kn f l h0 n (by omega)
    simp only [lineTo, tot]
    rw [← ih]
    obtain ⟨⟨v, o⟩, hg⟩ : ∃ r, val key (f + (n : Int)) kn l = r := ⟨_, rfl⟩
    rw [hg]
    cases o with
    | false => rw [addM_no]; simp
    | true =>
      rcases addM_two (lineTo key kn f l n) (f + (n : Int)) v with ⟨L0, y, e, e3, e4, e2⟩ | e2
      · rw [e2, e, part_append, part_append, part_one, part_one]
        have hy := hL.lie y (by rw [e]; simp)
        rw [common_in (F := y.From) (T := y.To) (by omega) (by omega) (by omega) (by omega) h5 h6 h7 h8]
        simp only []
        rw [common_in (F := y.From) (T := f + (n : Int) + 1) (by omega) (by omega) (by omega) (by omega) h5 h6 h7 h8]
        by_cases hab : a ≤ f + (n : Int) ∧ f + (n : Int) < b
        · rw [if_pos ⟨trivial, hab⟩, ← e4]
          rw [show max 0 (min (f + (n : Int) + 1) b - max y.From a) = max 0 (min y.To b - max y.From a) + 1 by omega, Int.mul_add, Int.mul_one]
          omega
        · rw [if_neg (fun q => hab q.2)]
          rw [show max 0 (min (f + (n : Int) + 1) b - max y.From a) = max 0 (min y.To b - max y.From a) by omega]
          omega
      · rw [e2, part_append, part_one]
        simp only []
        rw [common_in (F := f + (n : Int)) (T := f + (n : Int) + 1) (by omega) (by omega) (by omega) (by omega) h5 h6 h7 h8]
        by_cases hab : a ≤ f + (n : Int) ∧ f + (n : Int) < b
        · rw [if_pos ⟨trivial, hab⟩, show max 0 (min (f + (n : Int) + 1) b - max (f + (n : Int)) a) = 1 by omega, Int.mul_one]
        · rw [if_neg (fun q => hab q.2), show max 0 (min (f + (n : Int) + 1) b - max (f + (n : Int)) a) = 0 by omega, Int.mul_zero]
theorem snoc_ind {α : Type} {P : List α → Prop} (h0 : P []) (h1 : ∀ l x, P l → P (l ++ [x])) (l : List α) : P l := by
  have h : ∀ l : List α, P l.reverse := fun l => by
    induction l with
    | nil => exact h0
    | cons x t ih => rw [List.reverse_cons]; exact h1 _ _ ih
  rw [← List.reverse_reverse l]
  exact h _
/-- Where there is no value it is 0; where there is one, a fact gave it. -/
theorem val_none (key m kn : Int) (l : List Fa) (h : (val key m kn l).2 = false) : (val key m kn l).1 = 0 := by
  revert h
  refine snoc_ind (P := fun l => (val key m kn l).2 = false → (val key m kn l).1 = 0) (fun _ => rfl) (fun l x ih h => ?_) l
  rw [val_snoc] at h ⊢
  split at h
  · cases h
  next e => rw [if_neg e]; exact ih h
theorem val_bd (key m kn : Int) (l : List Fa) (hl : okS l = true) (h : (val key m kn l).2 = true) : inB (val key m kn l).1 (-1000000000) 1000000000 = true := by
  have hall : ∀ x ∈ l, okF x = true := fun x hx => by
    obtain ⟨i, hi, rfl⟩ := List.mem_iff_getElem.1 hx
    exact (okS_of hl).2.1 i hi
  refine (fun K => K hall h : ((∀ x ∈ l, okF x = true) → (val key m kn l).2 = true → inB (val key m kn l).1 (-1000000000) 1000000000 = true) → _) ?_
  refine snoc_ind (P := fun l => (∀ x ∈ l, okF x = true) → (val key m kn l).2 = true → inB (val key m kn l).1 (-1000000000) 1000000000 = true) (fun _ h => by cases h) (fun l x ih hall h => ?_) l
  rw [val_snoc] at h ⊢
  split
  · have := okF_of (hall x (by simp))
    exact inB_yes (by simp only []; omega) (by simp only []; omega)
  next e =>
    rw [if_neg e] at h
    exact ih (fun y hy => hall y (List.mem_append_left _ hy)) h
/-- The index of the segment that contains m, and its value. -/
theorem segT_none (m : Int) (L : List El) : ∀ k, seen L m = none → segT m L k = -1 := by
  induction L with
  | nil => intro k _; rfl
  | cons x t ih =>
    intro k h
    by_cases hx : x.From ≤ m ∧ m < x.To
    · simp [seen, has_yes hx] at h
    · have h' : seen t m = none := by simpa [seen, List.find?_cons, has_no hx] using h
      exact (if_neg hx).trans (ih (k + 1) h')
theorem segT_some (m : Int) (L : List El) : ∀ (k v : Int), seen L m = some v → ∃ (i : Nat) (h : i < L.length), segT m L k = k + (i : Int) ∧ L[i].Value = v := by
  induction L with
  | nil => intro k v h; cases h
  | cons x t ih =>
    intro k v h
    by_cases hx : x.From ≤ m ∧ m < x.To
    · have h' : x.Value = v := by simpa [seen, List.find?_cons, has_yes hx] using h
      exact ⟨0, by simp, (if_pos hx).trans (by simp), h'⟩
    · have h' : seen t m = some v := by simpa [seen, List.find?_cons, has_no hx] using h
      obtain ⟨i, hi, e1, e2⟩ := ih (k + 1) v h'
      exact ⟨i + 1, by simp; omega, (if_neg hx).trans (e1.trans (by push_cast; omega)), e2⟩
end Go.Proofs.Ytdmkceaonfbebaa.LineLaws
