/- Plain mathematics of the allocation: the parts add up to the total, and each differs from its exact share by less than one. -/
import Derived.Test.YtdmnagpnhphifaaAllocMath
namespace Go.Proofs.Ytdmnagpnhphifaa.AllocSum
open Greatest AllocMath

theorem sum_set (p : List Int) : ∀ (i : Nat) (x : Int), i < p.length → (p.set i x).sum = p.sum - p.getD i 0 + x := by
  induction p with
  | nil => intro i x h; simp at h
  | cons a p ih =>
    intro i x h
    cases i with
    | zero => simp [List.getD]; omega
    | succ i =>
      have := ih i x (by simpa using h)
      simp only [List.set_cons_succ, List.sum_cons, List.getD, List.getElem?_cons_succ] at *
      omega
theorem bump_sum (zs : List Int) : ∀ p : List Int, (∀ z ∈ zs, 0 ≤ z ∧ z < p.length) → (bump p zs).sum = p.sum + zs.length := by
  induction zs with
  | nil => intro p _; simp [bump]
  | cons z zs ih =>
    intro p h
    show (bump (bump1 p z) zs).sum = _
    have hz := h z (by simp)
    rw [ih (bump1 p z) (fun y hy => by rw [bump1_len]; exact h y (List.mem_cons_of_mem _ hy))]
    unfold bump1
    rw [sum_set _ _ _ (by omega), List.length_cons]
    omega
theorem bump_get (zs : List Int) : ∀ (p : List Int) (j : Nat), j < p.length → (∀ z ∈ zs, 0 ≤ z) → zs.Nodup → (bump p zs).getD j 0 = p.getD j 0 + if (j : Int) ∈ zs then 1 else 0 := by
  induction zs with
  | nil => intro p j _ _ _; simp [bump]
  | cons z zs ih =>
    intro p j hj hz hn
    show (bump (bump1 p z) zs).getD j 0 = _
    have hz0 := hz z (by simp)
    have hnz := (List.nodup_cons.1 hn).1
    rw [ih (bump1 p z) j (by rw [bump1_len]; exact hj) (fun y hy => hz y (List.mem_cons_of_mem _ hy)) (List.nodup_cons.1 hn).2]
    unfold bump1
    rw [getD_set]
    by_cases h2 : z.toNat = j
    · have h3 : (j : Int) = z := by omega
      rw [if_pos ⟨h2, hj⟩, if_neg (by rw [h3]; exact hnz), if_pos (by rw [h3]; simp), h2]
      omega
    · have h3 : (j : Int) ≠ z := by omega
      rw [if_neg (fun h => h2 h.1)]
      by_cases h1 : (j : Int) ∈ zs
      · rw [if_pos h1, if_pos (List.mem_cons_of_mem _ h1)]
      · rw [if_neg h1, if_neg (by simp [h1, h3])]
theorem perm_sum {a b : List Int} (h : a.Perm b) : a.sum = b.sum := by
  induction h with
  | nil => rfl
  | cons x _ ih => simp [ih]
  | swap x y l => simp; omega
  | trans _ _ h1 h2 => rw [h1, h2]
theorem val_idx (r : List Int) : (idx r.length).map (val r) = r := by
  apply List.ext_getElem
  · simp [idx_len]
  · intro i h1 h2
    simp only [idx, List.map_map, List.getElem_map, List.getElem_range, Function.comp, val]
    simp only [List.getD, Int.toNat_natCast]
    rw [List.getElem?_eq_getElem h2]
    rfl
theorem val_sum (r : List Int) : ((ord r).map (val r)).sum = r.sum := by
  rw [perm_sum ((ord_perm r).map (val r)), val_idx]
theorem sum_le {c : Int} (l : List Int) (h : ∀ x ∈ l, x ≤ c) : l.sum ≤ (l.length : Int) * c := by
  induction l with
  | nil => simp
  | cons x l ih =>
    have a := ih (fun y hy => h y (List.mem_cons_of_mem _ hy))
    have b := h x (by simp)
    rw [List.sum_cons, List.length_cons]
    have e : ((l.length + 1 : Nat) : Int) * c = (l.length : Int) * c + c := by rw [show ((l.length + 1 : Nat) : Int) = (l.length : Int) + 1 by omega, Int.add_mul, Int.one_mul]
    omega
/-- Who gets one more has a remainder. -/
theorem taken_pos {r : List Int} {s : Int} {R k : Nat} (hs : 0 < s) (hr1 : ∀ x ∈ r, x ≤ s - 1) (he : (R : Int) * s = r.sum) (hk : k < R) (hk2 : k < (ord r).length) : 0 < val r ((ord r)[k]) := by
  rcases Int.lt_or_le 0 (val r ((ord r)[k])) with h | h
  · exact h
  exfalso
  have hl := ord_len r
  have hso := List.pairwise_iff_getElem.1 (ord_sorted r)
  have h1 : (((ord r).take k).map (val r)).sum ≤ ((((ord r).take k).map (val r)).length : Int) * (s - 1) := by
    refine sum_le _ ?_
    intro x hx
    obtain ⟨z, hz, rfl⟩ := List.mem_map.1 hx
    have hzb := ord_in r z (List.mem_of_mem_take hz)
    have : val r z = r[z.toNat]'(by omega) := by unfold val; simp only [List.getD]; rw [List.getElem?_eq_getElem (by omega)]; rfl
    rw [this]
    exact hr1 _ (List.getElem_mem _)
  have h2 : (((ord r).drop k).map (val r)).sum ≤ ((((ord r).drop k).map (val r)).length : Int) * 0 := by
    refine sum_le _ ?_
    intro x hx
    obtain ⟨z, hz, rfl⟩ := List.mem_map.1 hx
    obtain ⟨i, hi, rfl⟩ := List.mem_iff_getElem.1 hz
    rw [List.getElem_drop]
    by_cases c : i = 0
    · subst c; simpa using h
    · have hi2 : k + i < (ord r).length := by simp at hi; omega
      have := hso k (k + i) hk2 hi2 (by omega)
      unfold Greatest.R at this
      omega
  have h3 := val_sum r
  rw [← List.take_append_drop k (ord r), List.map_append, List.sum_append, ← he] at h3
  have h4 : ((((ord r).take k).map (val r)).length : Int) * (s - 1) ≤ (k : Int) * (s - 1) := Int.mul_le_mul_of_nonneg_right (by simp; omega) (by omega)
  have h5 : ((k + 1 : Nat) : Int) * s ≤ (R : Int) * s := Int.mul_le_mul_of_nonneg_right (by omega) (by omega)
  have h6 : ((k + 1 : Nat) : Int) * s = (k : Int) * s + s := by rw [show ((k + 1 : Nat) : Int) = (k : Int) + 1 by omega, Int.add_mul, Int.one_mul]
  have h7 : (k : Int) * (s - 1) = (k : Int) * s - k := by rw [Int.mul_sub, Int.mul_one]
  omega

theorem rems_le {t s : Int} (hs : 0 < s) (W : List Int) : ∀ x ∈ rems t s W, x ≤ s - 1 := by
  intro x hx
  obtain ⟨y, _, rfl⟩ := List.mem_map.1 hx
  have := Int.emod_lt_of_pos (t * y) hs
  unfold rem1; omega
/-- What the law says: the length, the sum, and how near each part is. -/
theorem alloc_law {t : Int} {W : List Int} (h : okA t W = true) : (allocR t W).length = W.length ∧ (allocR t W).sum = t ∧
    ∀ j, j < W.length → -W.sum < (allocR t W).getD j 0 * W.sum - t * W.getD j 0 ∧ (allocR t W).getD j 0 * W.sum - t * W.getD j 0 < W.sum := by
  have hh := h
  simp only [okA, decide_eq_true_eq] at hh
  obtain ⟨hw, ht, hs⟩ := hh
  obtain ⟨⟨hl1, hl2⟩, hin⟩ := okW_iff.1 hw
  obtain ⟨s, hse⟩ : ∃ s, W.sum = s := ⟨_, rfl⟩
  have hrb := rest_bd (t := t) (s := s) (W := W) (by omega) hse hl1
  have hsp := sum_split t (s := s) W
  unfold allocR
  rw [if_pos h, hse]
  rw [hse] at hs hsp
  have hPl := parts_len t s W
  have hQl := rems_len t s W
  have hyl := ord_len (rems t s W)
  have hnd : (ord (rems t s W)).Nodup := (ord_perm _).nodup_iff.2 (idx_nodup _)
  obtain ⟨R, hR⟩ : ∃ R : Nat, rest t s W = (R : Int) := ⟨(rest t s W).toNat, by omega⟩
  rw [hR, Int.toNat_natCast]
  have hRl : ((ord (rems t s W)).take R).length = R := by rw [List.length_take]; omega
  have hpos : ∀ z ∈ (ord (rems t s W)).take R, 0 ≤ z ∧ z < (rems t s W).length := fun z hz => ord_in _ z (List.mem_of_mem_take hz)
  have hre : (R : Int) * s = (rems t s W).sum := by
    rw [← hR]; unfold rest; rw [Int.sub_mul]; omega
  refine ⟨by rw [bump_len, hPl], ?_, ?_⟩
  · rw [bump_sum _ _ (fun z hz => by rw [hPl, ← hQl]; exact hpos z hz), hRl, ← hR]
    unfold rest
    omega
  · intro j hj
    rw [bump_get _ _ j (by rw [hPl]; exact hj) (fun z hz => (hpos z hz).1) (hnd.sublist (List.take_sublist _ _))]
    have e1 : (parts t s W).getD j 0 = part1 t s (W.getD j 0) := by
      unfold parts; simp only [List.getD, List.getElem?_map]; rw [List.getElem?_eq_getElem hj]; rfl
    have e2 : (rems t s W).getD j 0 = rem1 t s (W.getD j 0) := by
      unfold rems; simp only [List.getD, List.getElem?_map]; rw [List.getElem?_eq_getElem hj]; rfl
    rw [e1]
    have e3 := Int.ediv_mul_add_emod (t * W.getD j 0) s
    have a1 := Int.emod_nonneg (t * W.getD j 0) (show s ≠ 0 by omega)
    have a2 := Int.emod_lt_of_pos (t * W.getD j 0) hs
    have tp : (j : Int) ∈ (ord (rems t s W)).take R → 0 < rem1 t s (W.getD j 0) := by
      intro hm
      obtain ⟨k, hk, hke⟩ := List.mem_iff_getElem.1 hm
      rw [List.getElem_take] at hke
      have hkR : k < R := by omega
      have := taken_pos hs (rems_le hs W) hre hkR (by omega)
      rw [hke] at this
      unfold val at this
      rw [Int.toNat_natCast, e2] at this
      exact this
    unfold part1 at *
    unfold rem1 at tp
    generalize t * W.getD j 0 = m at *
    by_cases c : (j : Int) ∈ (ord (rems t s W)).take R
    · rw [if_pos c, Int.add_mul, Int.one_mul]
      have := tp c
      omega
    · rw [if_neg c, Int.add_zero]
      omega
theorem alloc_bd {t : Int} {W : List Int} (h : okA t W = true) (j : Nat) : 0 ≤ (allocR t W).getD j 0 ∧ (allocR t W).getD j 0 ≤ 1000000000000040 := by
  have hh := h
  simp only [okA, decide_eq_true_eq] at hh
  obtain ⟨hw, ht, hs⟩ := hh
  obtain ⟨⟨hl1, hl2⟩, hin⟩ := okW_iff.1 hw
  unfold allocR
  rw [if_pos h]
  have hb := small_bump ((ord (rems t W.sum W)).take (rest t W.sum W).toNat) (small_parts ht.1 ht.2 hs hin) j
  have : ((ord (rems t W.sum W)).take (rest t W.sum W).toNat).length ≤ 40 := by
    rw [List.length_take, ord_len, rems_len]; omega
  omega
end Go.Proofs.Ytdmnagpnhphifaa.AllocSum
