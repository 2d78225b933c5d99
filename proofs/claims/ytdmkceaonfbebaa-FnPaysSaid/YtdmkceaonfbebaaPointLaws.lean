/- Plain mathematics of the drawn laws on series. -/
import Derived.Test.YtdmkceaonfbebaaPointMath
import Derived.Test.YtdmkceaonfbebaaRatioMath
namespace Go.Proofs.Ytdmkceaonfbebaa.PointLaws
open TPoint PointMath FracMath RatioMath
/-- The best point is one of the points, not after the month and known. -/
theorem best_mem {M kn : Int} : ∀ {l : List El} {b : Option El} {y : El}, l.foldl (better M kn) b = some y → (b = some y) ∨ (y ∈ l ∧ y.Month ≤ M ∧ y.Known ≤ kn)
  | [], b, y, h => .inl h
  | x :: r, b, y, h => by
    rw [List.foldl_cons] at h
    rcases best_mem h with h1 | ⟨h1, h2⟩
    · unfold better at h1
      split at h1
      next hh =>
        have := of_decide_eq_true hh
        obtain rfl := Option.some.inj h1
        exact .inr ⟨by simp, this.1, this.2.1⟩
      next => exact .inl h1
    · exact .inr ⟨List.mem_cons_of_mem _ h1, h2⟩
theorem best_of {M kn : Int} {l : List El} {y : El} (h : bestOf M kn l = some y) : y ∈ l ∧ y.Month ≤ M ∧ y.Known ≤ kn := by
  rcases best_mem h with h1 | h1
  · cases h1
  · exact h1
theorem better_some {M kn : Int} {b : Option El} {x : El} (h : b.isSome = true) : (better M kn b x).isSome = true := by
  unfold better
  split
  · rfl
  · exact h
theorem best_keeps {M kn : Int} : ∀ {l : List El} {b : Option El}, b.isSome = true → (l.foldl (better M kn) b).isSome = true
  | [], _, h => h
  | _ :: _, _, h => by rw [List.foldl_cons]; exact best_keeps (better_some h)
/-- A first point that is old enough: every index is known. -/
theorem best_cons {M kn : Int} {x : El} {r : List El} (h1 : x.Month ≤ M) (h2 : x.Known ≤ kn) : ∃ y, bestOf M kn (x :: r) = some y := by
  have : (bestOf M kn (x :: r)).isSome = true := by
    unfold bestOf
    rw [List.foldl_cons, better_yes h1 h2 (fun y e => by cases e)]
    exact best_keeps rfl
  exact Option.isSome_iff_exists.1 this
/-- A point that becomes known later changes no index. -/
theorem idx_late {m kn : Int} {l : List El} {x : El} (h : ¬ x.Known ≤ kn) : idx m kn (l ++ [x]) = idx m kn l := by
  unfold idx
  rw [best_snoc, better_no (fun e => h e.2.1)]
/-- The last point states its month's index. -/
theorem idx_last {kn : Int} {l : List El} {x : El} (h : x.Known ≤ kn) : idx x.Month kn (l ++ [x]) = (x.Value, true) := by
  unfold idx
  rw [best_snoc, better_yes (Int.le_refl _) h (fun y e => (best_of e).2.1)]
  rfl
theorem revs_last {l : List El} {x : El} : revs x.Month (l ++ [x]) = revs x.Month l ++ [x.Value] := by
  unfold revs
  rw [List.filter_append, List.map_append]
  simp
/-- A series whose first point is that of the first month, every value from 9000 to 12999. -/
structure Full (l : List El) : Prop where
  first : ∃ x r, l = x :: r ∧ x.Month = 0 ∧ x.Known = 0
  each : ∀ x ∈ l, 9000 ≤ x.Value ∧ x.Value ≤ 12999
theorem Full.one {v : Int} (h1 : 9000 ≤ v) (h2 : v ≤ 12999) : Full [⟨0, 0, v⟩] := ⟨⟨_, _, rfl, rfl, rfl⟩, fun x hx => by
  obtain rfl : x = ⟨0, 0, v⟩ := by simpa using hx
  exact ⟨h1, h2⟩⟩
theorem Full.added {l : List El} {x : El} (h : Full l) (h1 : 9000 ≤ x.Value) (h2 : x.Value ≤ 12999) : Full (added l x).1 := by
  unfold PointMath.added
  split
  · obtain ⟨⟨y, r, rfl, h3, h4⟩, h5⟩ := h
    refine ⟨⟨y, r ++ [x], rfl, h3, h4⟩, fun z hz => ?_⟩
    rcases List.mem_append.1 (show z ∈ (y :: r) ++ [x] from hz) with hz | hz
    · exact h5 z hz
    · obtain rfl : z = x := by simpa using hz
      exact ⟨h1, h2⟩
  · exact h
theorem Full.idx {l : List El} (h : Full l) {M kn : Int} (h1 : 0 ≤ M) (h2 : 0 ≤ kn) : ∃ v, idx M kn l = (v, true) ∧ 9000 ≤ v ∧ v ≤ 12999 := by
  obtain ⟨⟨x, r, rfl, h3, h4⟩, h5⟩ := h
  obtain ⟨y, hy⟩ := best_cons (r := r) (show x.Month ≤ M by omega) (show x.Known ≤ kn by omega)
  refine ⟨y.Value, ?_, h5 y (best_of hy).1⟩
  unfold PointMath.idx
  rw [hy]
  rfl
/-- The quotient of two small positive numbers is a fraction; its inverse is the quotient the other way round. -/
theorem new_pos {x y : Int} (hx : 1 ≤ x) (hx2 : x ≤ 1000000) (hy : 1 ≤ y) (hy2 : y ≤ 1000000) :
    newR y x = (lowN y x, lowD y x, true) ∧ 1 ≤ lowN y x ∧ lowN y x ≤ 1000000 ∧ 1 ≤ lowD y x ∧ lowD y x ≤ 1000000 ∧ okB (lowN y x) (lowD y x) = true := by
  have hd : x ≠ 0 := by omega
  have h1 := lowD_pos (n := y) hd
  obtain ⟨⟨h2, h3⟩, h4⟩ := low_le (n := y) (show 0 < x by omega) 1000000 (by omega) hy2
  have hf : fitB y x = true := by unfold fitB; exact decide_eq_true ⟨by omega, by omega, by omega⟩
  have hr := red_yes hd hf
  have hc := red_cross (n := y) (d := x) (by rw [hr])
  rw [hr] at hc
  simp only [] at hc
  have h5 : 1 ≤ lowN y x := by
    rcases Int.lt_or_le 0 (lowN y x) with h | h
    · omega
    · exfalso
      have e1 : lowN y x * x ≤ 0 := by
        have := Int.mul_le_mul_of_nonneg_right h (show 0 ≤ x by omega)
        simpa using this
      have e2 : 0 < y * lowD y x := Int.mul_pos (by omega) (by omega)
      omega
  refine ⟨by rw [newR, if_pos ⟨⟨by omega, by omega⟩, by omega, by omega⟩]; exact hr, h5, h3, h1, by omega, ?_⟩
  rw [fit_ok hd]; exact hf
theorem low_swap {x y : Int} (hx : 1 ≤ x) (hy : 1 ≤ y) : lowN x y = lowD y x ∧ lowD x y = lowN y x := by
  unfold lowN lowD
  rw [sg_pos (show 0 < y by omega), sg_pos (show 0 < y by omega), sg_pos (show 0 < x by omega), sg_pos (show 0 < x by omega), Int.gcd_comm x y]
  exact ⟨rfl, rfl⟩
theorem red_one {k : Int} (h : 0 < k) : red k k = (1, 1, true) := by
  have := red_mul (n := 1) (d := 1) h
  rw [Int.mul_one] at this
  rw [this]
  exact red_ok (by decide)
theorem mul_one {x y : Int} (hx : 1 ≤ x) (hx2 : x ≤ 1000000) (hy : 1 ≤ y) (hy2 : y ≤ 1000000) : mulR (lowN y x) (lowD y x) (lowN x y) (lowD x y) = (1, 1, true) := by
  obtain ⟨_, h1, h2, h3, h4, h5⟩ := new_pos hx hx2 hy hy2
  obtain ⟨_, k1, k2, k3, k4, k5⟩ := new_pos hy hy2 hx hx2
  have hs := low_swap hx hy
  unfold mulR
  rw [if_pos ⟨by unfold facB; rw [h5, inB_yes (by omega) h2]; rfl, by unfold facB; rw [k5, inB_yes (by omega) k2]; rfl⟩, hs.1, hs.2, Int.mul_comm (lowD y x) (lowN y x)]
  exact red_one (Int.mul_pos (by omega) (by omega))
theorem new_one {x : Int} (hx : 1 ≤ x) (hx2 : x ≤ 1000000) : newR x x = (1, 1, true) := by
  rw [newR, if_pos ⟨⟨by omega, by omega⟩, by omega, by omega⟩]
  exact red_one (by omega)
end Go.Proofs.Ytdmkceaonfbebaa.PointLaws
