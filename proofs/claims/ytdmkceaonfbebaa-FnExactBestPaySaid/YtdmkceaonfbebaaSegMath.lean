/- What the functions of chapter 6 answer, as plain functions on lists of segments. -/
import Derived.Test.YtdmkceaonfbebaaTSegment
import Derived.Test.YtdmkceaonfbebaaMon
namespace Go.Proofs.Ytdmkceaonfbebaa.SegMath
open TSegment Mon

/-- The index of the first segment, from k on, that contains m. -/
def segT (m : Int) : List El → Int → Int
  | [], _ => -1
  | x :: t, k => if x.From ≤ m ∧ m < x.To then k else segT m t (k + 1)
theorem segT_end (m : Int) (l : List El) (j : Nat) (h : l.length ≤ j) : segT m (l.drop j) (j : Int) = -1 := by rw [List.drop_eq_nil_of_le h]; rfl
theorem segT_yes {m : Int} {l : List El} {j : Nat} (h : j < l.length) (e : l[j].From ≤ m ∧ m < l[j].To) : segT m (l.drop j) (j : Int) = (j : Int) := by
  rw [List.drop_eq_getElem_cons h]; exact if_pos e
theorem segT_no {m : Int} {l : List El} {j : Nat} (h : j < l.length) (e : ¬ (l[j].From ≤ m ∧ m < l[j].To)) : segT m (l.drop j) (j : Int) = segT m (l.drop (j + 1)) ((j + 1 : Nat) : Int) := by
  rw [List.drop_eq_getElem_cons h]; exact (if_neg e).trans (by simp)

/-- A segment by itself, and beside the one before. -/
def okX (x : El) : Bool := decide (0 ≤ x.From ∧ x.From < x.To ∧ x.To ≤ 3600)
def okP (y x : El) : Bool := decide (y.To ≤ x.From ∧ ¬ (y.To = x.From ∧ y.Value = x.Value))
def okN : El → List El → Bool
  | _, [] => true
  | y, x :: t => okX x && (okP y x && okN x t)
def okL : List El → Bool
  | [] => true
  | x :: t => okX x && okN x t
/-- What is still asked where the first j segments are known to be right. -/
def rest (l : List El) : Nat → Bool
  | 0 => okL l
  | j + 1 => match l[j]? with | some y => okN y (l.drop (j + 1)) | none => true
theorem rest_one {l : List El} (h : 0 < l.length) : rest l 0 = (okX l[0] && rest l 1) := by
  match l, h with
  | x :: t, _ => simp [rest, okL]
theorem rest_next {l : List El} {j : Nat} (h : j + 1 < l.length) : rest l (j + 1) = (okX l[j + 1] && (okP (l[j]'(by omega)) l[j + 1] && rest l (j + 2))) := by
  simp only [rest]
  rw [List.getElem?_eq_getElem (show j < l.length by omega), List.getElem?_eq_getElem h]
  simp only []
  rw [List.drop_eq_getElem_cons h]
  rfl
theorem rest_end (l : List El) : rest l l.length = true := by
  cases hl : l.length with
  | zero => rw [List.eq_nil_of_length_eq_zero hl]; rfl
  | succ n =>
    simp only [rest]
    rw [List.getElem?_eq_getElem (show n < l.length by omega)]
    simp only []
    rw [List.drop_eq_nil_of_le (by omega)]
    rfl
def okT (l : List El) : Bool := okL l && decide (l.length ≤ 401)
theorem okX_yes {x : El} (h : 0 ≤ x.From ∧ x.From < x.To ∧ x.To ≤ 3600) : okX x = true := decide_eq_true h
theorem okX_no {x : El} (h : ¬ (0 ≤ x.From ∧ x.From < x.To ∧ x.To ≤ 3600)) : okX x = false := decide_eq_false h
theorem okP_yes {y x : El} (h : y.To ≤ x.From ∧ ¬ (y.To = x.From ∧ y.Value = x.Value)) : okP y x = true := decide_eq_true h
theorem okP_no {y x : El} (h : ¬ (y.To ≤ x.From ∧ ¬ (y.To = x.From ∧ y.Value = x.Value))) : okP y x = false := decide_eq_false h

/-- The sum, segment by segment. -/
def sumT (f t : Int) : List El → Int → Int
  | [], n => n
  | x :: r, n => if inB x.Value (-1000000000) 1000000000 = true then sumT f t r (n + x.Value * common x.From x.To f t) else 0
theorem sumT_end (f t : Int) (l : List El) (j : Nat) (n : Int) (h : l.length ≤ j) : sumT f t (l.drop j) n = n := by rw [List.drop_eq_nil_of_le h]; rfl
theorem sumT_yes {f t : Int} {l : List El} {j : Nat} (n : Int) (h : j < l.length) (e : inB l[j].Value (-1000000000) 1000000000 = true) : sumT f t (l.drop j) n = sumT f t (l.drop (j + 1)) (n + l[j].Value * common l[j].From l[j].To f t) := by
  rw [List.drop_eq_getElem_cons h]; exact if_pos e
theorem sumT_no {f t : Int} {l : List El} {j : Nat} (n : Int) (h : j < l.length) (e : inB l[j].Value (-1000000000) 1000000000 = false) : sumT f t (l.drop j) n = 0 := by
  rw [List.drop_eq_getElem_cons h]; exact if_neg (by rw [e]; exact Bool.false_ne_true)
def sumO (l : List El) (f t : Int) : Int := if okT l = true ∧ inB f 0 3600 = true ∧ inB t 0 3600 = true then sumT f t l 0 else 0
theorem common_lo (f t l h : Int) : 0 ≤ common f t l h := by unfold common; split <;> omega
theorem common_hi (f t l h : Int) : common f t l h ≤ 3600 := by
  unfold common
  split
  next e =>
    obtain ⟨h1, h2, h3, h4⟩ := e
    have := inB_of h1
    have := inB_of h2
    have := inB_of h3
    have := inB_of h4
    omega
  next => omega
theorem part_bd {v c : Int} (h1 : -1000000000 ≤ v) (h2 : v ≤ 1000000000) (h3 : 0 ≤ c) (h4 : c ≤ 3600) : -3600000000000 ≤ v * c ∧ v * c ≤ 3600000000000 := by
  constructor
  · have a : -1000000000 * c ≤ v * c := Int.mul_le_mul_of_nonneg_right h1 h3
    omega
  · have a : v * c ≤ 1000000000 * c := Int.mul_le_mul_of_nonneg_right h2 h3
    omega
end Go.Proofs.Ytdmkceaonfbebaa.SegMath
