/- Pay: the final, the average, the best and the revalued one: plain mathematics. -/
import Derived.Test.YtdmkceaonfbebaaFactMath
import Derived.Test.YtdmkceaonfbebaaPointMath
import Derived.Test.YtdmkceaonfbebaaPointLaws
import Derived.Test.YtdmkceaonfbebaaKit
namespace Go.Proofs.Ytdmkceaonfbebaa.PayMath
open Fact FactMath Mon
open FracMath (red cmpI)
/-- The pay of a month, and whether there is one. -/
def pv (l : List Fa) (kn mo : Int) : Int × Bool := val 1 mo kn l
/-- The pay of the last month below k that has one. -/
def finTo (l : List Fa) (kn : Int) : Nat → Int × Bool
  | 0 => (0, false)
  | k + 1 => if (pv l kn (k : Int)).2 = true then pv l kn (k : Int) else finTo l kn k
noncomputable def fin (l : List Fa) (m kn : Int) : Int × Bool := if okS l = true ∧ inB m 0 3600 = true then finTo l kn m.toNat else (0, false)
theorem fin_yes {l : List Fa} {m kn : Int} (h1 : okS l = true) (h2 : inB m 0 3600 = true) : fin l m kn = finTo l kn m.toNat := if_pos ⟨h1, h2⟩
theorem fin_no1 {l : List Fa} {m kn : Int} (h1 : okS l = false) : fin l m kn = (0, false) := if_neg fun e => by rw [h1] at e; cases e.1
theorem fin_no2 {l : List Fa} {m kn : Int} (h2 : inB m 0 3600 = false) : fin l m kn = (0, false) := if_neg fun e => by rw [h2] at e; cases e.2
/-- What a month adds to the sum, and to the number of months. -/
def amt (v : Int × Bool) : Int := if v.2 = true then v.1 else 0
def one (v : Int × Bool) : Int := if v.2 = true then 1 else 0
def sumTo (l : List Fa) (kn f : Int) : Nat → Int
  | 0 => 0
  | n + 1 => sumTo l kn f n + amt (pv l kn (f + (n : Int)))
def cntTo (l : List Fa) (kn f : Int) : Nat → Int
  | 0 => 0
  | n + 1 => cntTo l kn f n + one (pv l kn (f + (n : Int)))
theorem sum_zero (l : List Fa) (kn f : Int) : sumTo l kn f 0 = 0 := rfl
theorem sum_succ (l : List Fa) (kn f : Int) (n : Nat) : sumTo l kn f (n + 1) = sumTo l kn f n + amt (pv l kn (f + (n : Int))) := rfl
theorem cnt_zero (l : List Fa) (kn f : Int) : cntTo l kn f 0 = 0 := rfl
theorem cnt_succ (l : List Fa) (kn f : Int) (n : Nat) : cntTo l kn f (n + 1) = cntTo l kn f n + one (pv l kn (f + (n : Int))) := rfl
theorem cnt_bd (l : List Fa) (kn f : Int) : ∀ n : Nat, 0 ≤ cntTo l kn f n ∧ cntTo l kn f n ≤ (n : Int)
  | 0 => by rw [cnt_zero]; omega
  | n + 1 => by
    have ih := cnt_bd l kn f n
    rw [cnt_succ]
    have : one (pv l kn (f + (n : Int))) = 0 ∨ one (pv l kn (f + (n : Int))) = 1 := by unfold one; split <;> simp
    omega
theorem val_in (key m kn : Int) : ∀ (l : List Fa) (r : Int × Bool), (∃ x ∈ l, l.foldl (fun r x => if hit key m kn x = true then (x.v, true) else r) r = (x.v, true)) ∨ l.foldl (fun r x => if hit key m kn x = true then (x.v, true) else r) r = r
  | [], _ => .inr rfl
  | y :: t, r => by
    rw [List.foldl_cons]
    rcases val_in key m kn t (if hit key m kn y = true then (y.v, true) else r) with ⟨x, hx, e⟩ | e
    · exact .inl ⟨x, List.mem_cons_of_mem _ hx, e⟩
    · rw [e]
      split
      · exact .inl ⟨y, List.mem_cons_self, rfl⟩
      · exact .inr rfl
theorem pv_bd {l : List Fa} (h : OkS l) (kn mo : Int) : -1000000000 ≤ (pv l kn mo).1 ∧ (pv l kn mo).1 ≤ 1000000000 := by
  unfold pv val
  rcases val_in 1 mo kn l (0, false) with ⟨x, hx, e⟩ | e
  · rw [e]
    obtain ⟨i, hi, rfl⟩ := List.mem_iff_getElem.1 hx
    have := h.2.1 i hi
    simp only [okF, inB, Bool.and_eq_true, decide_eq_true_eq] at this
    exact this.2
  · rw [e]; simp
theorem amt_bd {l : List Fa} (h : OkS l) (kn mo : Int) : -1000000000 ≤ amt (pv l kn mo) ∧ amt (pv l kn mo) ≤ 1000000000 := by
  unfold amt
  split
  · exact pv_bd h kn mo
  · omega
theorem sum_bd {l : List Fa} (h : OkS l) (kn f : Int) : ∀ n : Nat, -1000000000 * (n : Int) ≤ sumTo l kn f n ∧ sumTo l kn f n ≤ 1000000000 * (n : Int)
  | 0 => by rw [sum_zero]; omega
  | n + 1 => by
    have ih := sum_bd h kn f n
    have h1 := amt_bd h kn (f + (n : Int))
    rw [sum_succ]
    omega
/-- The mean of the pay from f to t - 1: numerator, denominator, whether there is one. -/
def avg (l : List Fa) (f t kn : Int) : Int × Int × Bool := if cntTo l kn f (t - f).toNat = 0 then (0, 0, false) else red (sumTo l kn f (t - f).toNat) (cntTo l kn f (t - f).toNat)
theorem avg_none {l : List Fa} {f t kn : Int} (h : cntTo l kn f (t - f).toNat = 0) : avg l f t kn = (0, 0, false) := if_pos h
theorem avg_some {l : List Fa} {f t kn : Int} (h : cntTo l kn f (t - f).toNat ≠ 0) : avg l f t kn = red (sumTo l kn f (t - f).toNat) (cntTo l kn f (t - f).toNat) := if_neg h
/-- The store and both ends of the range are valid. -/
noncomputable def rangeB (l : List Fa) (f t : Int) : Bool := okS l && inB f 0 3600 && inB t 0 3600
theorem range_of {l : List Fa} {f t : Int} (h : rangeB l f t = true) : OkS l ∧ (0 ≤ f ∧ f ≤ 3600) ∧ 0 ≤ t ∧ t ≤ 3600 := by
  simp only [rangeB, Bool.and_eq_true] at h
  exact ⟨okS_of h.1.1, inB_of h.1.2, inB_of h.2⟩
noncomputable def aver (l : List Fa) (f t kn : Int) : Int × Int × Bool := if rangeB l f t = true then avg l f t kn else (0, 0, false)
theorem aver_yes {l : List Fa} {f t kn : Int} (h : rangeB l f t = true) : aver l f t kn = avg l f t kn := if_pos h
theorem aver_no {l : List Fa} {f t kn : Int} (h : rangeB l f t = false) : aver l f t kn = (0, 0, false) := if_neg (by rw [h]; simp)
/-- The best of the ranges so far. -/
structure Bst where
  n : Int
  d : Int
  p : Int
  ok : Bool
def bst0 : Bst := ⟨0, 0, 0, false⟩
/-- Is the new one taken? -/
def taken (b : Bst) (x : Int × Int × Bool) : Bool := x.2.2 && (!b.ok || decide (0 < cmpI x.1 x.2.1 b.n b.d))
def better (b : Bst) (x : Int × Int × Bool) (p : Int) : Bst := if taken b x = true then ⟨x.1, x.2.1, p, true⟩ else b
theorem better_yes {b : Bst} {x : Int × Int × Bool} {p : Int} (h : taken b x = true) : better b x p = ⟨x.1, x.2.1, p, true⟩ := if_pos h
theorem better_no {b : Bst} {x : Int × Int × Bool} {p : Int} (h : taken b x = false) : better b x p = b := if_neg (by rw [h]; simp)
def bestTo (l : List Fa) (kn f len : Int) : Nat → Bst
  | 0 => bst0
  | k + 1 => better (bestTo l kn f len k) (avg l (f + (k : Int)) (f + (k : Int) + len) kn) (f + (k : Int))
theorem best_zero (l : List Fa) (kn f len : Int) : bestTo l kn f len 0 = bst0 := rfl
theorem best_succ (l : List Fa) (kn f len : Int) (k : Nat) : bestTo l kn f len (k + 1) = better (bestTo l kn f len k) (avg l (f + (k : Int)) (f + (k : Int) + len) kn) (f + (k : Int)) := rfl
noncomputable def best (l : List Fa) (f t len kn : Int) : Bst := if rangeB l f t = true ∧ inB len 1 60 = true then bestTo l kn f len (t - len - f + 1).toNat else bst0
theorem best_yes {l : List Fa} {f t len kn : Int} (h1 : rangeB l f t = true) (h2 : inB len 1 60 = true) : best l f t len kn = bestTo l kn f len (t - len - f + 1).toNat := if_pos ⟨h1, h2⟩
theorem best_no1 {l : List Fa} {f t len kn : Int} (h1 : rangeB l f t = false) : best l f t len kn = bst0 := if_neg fun e => by rw [h1] at e; cases e.1
theorem best_no2 {l : List Fa} {f t len kn : Int} (h2 : inB len 1 60 = false) : best l f t len kn = bst0 := if_neg fun e => by rw [h2] at e; cases e.2
/-- What a month adds to the revalued pay: last is the index of the last month. -/
def rev1 (v base : Int × Bool) (last : Int) : Int := if v.2 = true ∧ base.2 = true ∧ 0 < v.1 then (v.1 * last).tdiv base.1 else 0
def revTo (l : List Fa) (x : List TPoint.El) (kn f last : Int) : Nat → Int
  | 0 => 0
  | n + 1 => revTo l x kn f last n + rev1 (pv l kn (f + (n : Int))) (PointMath.idx (f + (n : Int)) kn x) last
theorem rev_zero (l : List Fa) (x : List TPoint.El) (kn f last : Int) : revTo l x kn f last 0 = 0 := rfl
theorem rev_succ (l : List Fa) (x : List TPoint.El) (kn f last : Int) (n : Nat) : revTo l x kn f last (n + 1) = revTo l x kn f last n + rev1 (pv l kn (f + (n : Int))) (PointMath.idx (f + (n : Int)) kn x) last := rfl
noncomputable def rev (l : List Fa) (x : List TPoint.El) (f t kn : Int) : Int :=
  if rangeB l f t = true ∧ PointMath.okS x = true ∧ (PointMath.idx (t - 1) kn x).2 = true then revTo l x kn f (PointMath.idx (t - 1) kn x).1 (t - f).toNat else 0
theorem rev_yes {l : List Fa} {x : List TPoint.El} {f t kn : Int} (h1 : rangeB l f t = true) (h2 : PointMath.okS x = true) (h3 : (PointMath.idx (t - 1) kn x).2 = true) : rev l x f t kn = revTo l x kn f (PointMath.idx (t - 1) kn x).1 (t - f).toNat := if_pos ⟨h1, h2, h3⟩
theorem rev_no1 {l : List Fa} {x : List TPoint.El} {f t kn : Int} (h : rangeB l f t = false) : rev l x f t kn = 0 := if_neg fun e => by rw [h] at e; cases e.1
theorem rev_no2 {l : List Fa} {x : List TPoint.El} {f t kn : Int} (h : PointMath.okS x = false) : rev l x f t kn = 0 := if_neg fun e => by rw [h] at e; cases e.2.1
theorem rev_no3 {l : List Fa} {x : List TPoint.El} {f t kn : Int} (h : (PointMath.idx (t - 1) kn x).2 = false) : rev l x f t kn = 0 := if_neg fun e => by rw [h] at e; cases e.2.2
/-- An index of a valid series is from 1 to 1000000. -/
theorem idx_bd {x : List TPoint.El} (h : PointMath.okS x = true) {M kn : Int} (h2 : (PointMath.idx M kn x).2 = true) : 1 ≤ (PointMath.idx M kn x).1 ∧ (PointMath.idx M kn x).1 ≤ 1000000 := by
  unfold PointMath.idx at h2 ⊢
  cases e : PointMath.bestOf M kn x with
  | none => rw [e] at h2; cases h2
  | some y =>
    obtain ⟨hy, _⟩ := PointLaws.best_of e
    obtain ⟨i, hi, rfl⟩ := List.mem_iff_getElem.1 hy
    exact (PointMath.okP_of ((PointMath.okS_of h).2.1 i hi)).2.2.2
theorem rev1_bd {v base : Int × Bool} {last : Int} (h1 : v.1 ≤ 1000000000) (h2 : base.2 = true → 1 ≤ base.1) (h3 : 1 ≤ last) (h4 : last ≤ 1000000) : 0 ≤ rev1 v base last ∧ rev1 v base last ≤ 1000000000000000 := by
  unfold rev1
  split
  next h =>
    have hb := h2 h.2.1
    have e1 : 0 ≤ v.1 * last := Int.mul_nonneg (by omega) (by omega)
    have e2 : v.1 * last ≤ 1000000000 * 1000000 := Int.mul_le_mul h1 h4 (by omega) (by omega)
    rw [Int.tdiv_eq_ediv_of_nonneg e1]
    refine ⟨Int.ediv_nonneg e1 (by omega), Int.le_trans (Int.ediv_le_self _ e1) (by omega)⟩
  next => omega
theorem rev_bd {l : List Fa} {x : List TPoint.El} (h : OkS l) (hx : PointMath.okS x = true) {kn f last : Int} (h3 : 1 ≤ last) (h4 : last ≤ 1000000) : ∀ n : Nat, 0 ≤ revTo l x kn f last n ∧ revTo l x kn f last n ≤ 1000000000000000 * (n : Int)
  | 0 => by rw [rev_zero]; omega
  | n + 1 => by
    have ih := rev_bd h hx h3 h4 (kn := kn) (f := f) n
    have h1 := rev1_bd (v := pv l kn (f + (n : Int))) (base := PointMath.idx (f + (n : Int)) kn x) (pv_bd h kn _).2 (fun e => (idx_bd hx e).1) h3 h4
    rw [rev_succ]
    omega
end Go.Proofs.Ytdmkceaonfbebaa.PayMath
