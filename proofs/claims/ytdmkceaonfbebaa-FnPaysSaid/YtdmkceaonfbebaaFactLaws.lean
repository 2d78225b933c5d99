/- Plain mathematics of the drawn laws on stores. -/
import Derived.Test.YtdmkceaonfbebaaFactMath
namespace Go.Proofs.Ytdmkceaonfbebaa.FactLaws
open Fact FactMath Mon
theorem okS_filter {l : List Fa} (h : OkS l) (p : Fa → Bool) : OkS (l.filter p) := by
  have hp : l.Pairwise (fun x y => x.n ≤ y.n) := List.pairwise_iff_getElem.2 fun i j hi hj hij => h.known i j hi hj (Nat.le_of_lt hij)
  have hq := hp.filter p
  refine ⟨Nat.le_trans (List.length_filter_le ..) h.1, fun i hi => ?_, fun i hi => ?_⟩
  · have hm : (l.filter p)[i] ∈ l := (List.mem_filter.1 (List.getElem_mem hi)).1
    obtain ⟨j, hj, e⟩ := List.getElem_of_mem hm
    rw [← e]
    exact h.2.1 j hj
  · exact List.pairwise_iff_getElem.1 hq i (i + 1) (by omega) hi (by omega)
theorem okS_keep {l : List Fa} (h : okS l = true) (kn : Int) : okS (keep kn l) = true := okS_yes (okS_filter (okS_of h) _)
/-- The last element's word comes first. -/
theorem val_append (key m kn : Int) (l r : List Fa) : val key m kn (l ++ r) = r.foldl (fun v x => if hit key m kn x = true then (x.v, true) else v) (val key m kn l) := by simp [val, List.foldl_append]
theorem val_keep (key m kn big : Int) (l : List Fa) (h : ∀ x ∈ l, x.n ≤ big) : val key m big (keep kn l) = val key m kn l := by
  unfold val keep
  generalize ((0 : Int), false) = r
  induction l generalizing r with
  | nil => rfl
  | cons x xs ih =>
    have hx := h x (by simp)
    have ih' := fun r => ih (fun y hy => h y (by simp [hy])) r
    by_cases hk : x.n ≤ kn
    · rw [List.filter_cons_of_pos (by simpa using hk), List.foldl_cons, List.foldl_cons, ih']
      have e : hit key m big x = hit key m kn x := by simp [hit, hk, hx]
      rw [e]
    · rw [List.filter_cons_of_neg (by simpa using hk), List.foldl_cons, ih']
      have e : hit key m kn x = false := hit_no (fun h => hk h.2.2.2)
      rw [e]
      simp
/-- No month from 100 on is spoken of. -/
theorem val_far (key m kn : Int) (l : List Fa) (h : ∀ x ∈ l, x.t ≤ m) : val key m kn l = (0, false) := by
  unfold val
  generalize hr : ((0 : Int), false) = r
  clear hr
  induction l generalizing r with
  | nil => rfl
  | cons x xs ih =>
    rw [List.foldl_cons, hit_no (fun e => by have := h x (by simp); omega)]
    simpa using ih (fun y hy => h y (by simp [hy])) r
theorem differ_same (key a : Int) (l : List Fa) (m : Int) : FactMath.differ key a a l m = false := by simp [FactMath.differ]
theorem monthsTo_same (key a : Int) (l : List Fa) (n : Nat) : monthsTo key a a l n = [] := by
  unfold monthsTo
  exact List.filter_eq_nil_iff.2 fun x _ => by rw [differ_same]; exact Bool.false_ne_true
theorem monthsTo_add (key a b : Int) (l : List Fa) (n k : Nat) : monthsTo key a b l (n + k) = monthsTo key a b l n ++ ((List.range k).map fun (i : Nat) => ((n + i : Nat) : Int)).filter (FactMath.differ key a b l) := by
  unfold monthsTo
  rw [List.range_add, List.map_append, List.filter_append, List.map_map]
  rfl
theorem monthsTo_far (key a b : Int) (l : List Fa) (n k : Nat) (h : ∀ x ∈ l, x.t ≤ (n : Int)) : monthsTo key a b l (n + k) = monthsTo key a b l n := by
  rw [monthsTo_add, List.filter_eq_nil_iff.2, List.append_nil]
  intro x hx
  obtain ⟨i, _, rfl⟩ := List.mem_map.1 hx
  unfold FactMath.differ
  rw [val_far _ _ _ _ (fun y hy => by have := h y hy; omega), val_far _ _ _ _ (fun y hy => by have := h y hy; omega)]
  simp
/-- The first month that differs from n on stands behind those before n. -/
theorem monthsTo_at (key a b : Int) (l : List Fa) (n N : Nat) (h : n < N) (hd : FactMath.differ key a b l (n : Int) = true) :
    ∃ hlt : (monthsTo key a b l n).length < (monthsTo key a b l N).length, (monthsTo key a b l N)[(monthsTo key a b l n).length] = (n : Int) := by
  obtain ⟨k, rfl⟩ : ∃ k, N = n + 1 + k := ⟨N - (n + 1), by omega⟩
  rw [monthsTo_add key a b l (n + 1) k, monthsTo_succ, if_pos hd]
  refine ⟨by simp, ?_⟩
  rw [List.getElem_append_left (by simp), List.getElem_append_right (by simp)]
  simp
theorem monthsTo_prefix (key a b : Int) (l : List Fa) (n N : Nat) (h : n ≤ N) : (monthsTo key a b l n).length ≤ (monthsTo key a b l N).length := by
  obtain ⟨k, rfl⟩ : ∃ k, N = n + k := ⟨N - n, by omega⟩
  rw [monthsTo_add]
  simp
end Go.Proofs.Ytdmkceaonfbebaa.FactLaws
