/- Plain mathematics of the allocation: parts and remainders, who gets one more, and that the model's search finds the same ones. -/
import Derived.Test.YtdmnagpnhphifaaGreatest
namespace Go.Proofs.Ytdmnagpnhphifaa.AllocMath
open Greatest

def okW (W : List Int) : Bool := decide ((1 ≤ W.length ∧ W.length ≤ 40) ∧ ∀ x ∈ W, 0 ≤ x ∧ x ≤ 1000000)
theorem okW_iff {W : List Int} : okW W = true ↔ (1 ≤ W.length ∧ W.length ≤ 40) ∧ ∀ x ∈ W, 0 ≤ x ∧ x ≤ 1000000 := by simp only [okW, decide_eq_true_eq]
theorem okW_no {W : List Int} (h : ¬ ((1 ≤ W.length ∧ W.length ≤ 40) ∧ ∀ x ∈ W, 0 ≤ x ∧ x ≤ 1000000)) : okW W = false := by simp only [okW, decide_eq_false_iff_not]; exact h
def part1 (t s x : Int) : Int := t * x / s
def rem1 (t s x : Int) : Int := t * x % s
def parts (t s : Int) (W : List Int) : List Int := W.map (part1 t s)
def rems (t s : Int) (W : List Int) : List Int := W.map (rem1 t s)
def rest (t s : Int) (W : List Int) : Int := t - (parts t s W).sum
def bump1 (p : List Int) (z : Int) : List Int := p.set z.toNat (p.getD z.toNat 0 + 1)
def bump (p zs : List Int) : List Int := zs.foldl bump1 p
def mask1 (r : List Int) (z : Int) : List Int := r.set z.toNat (-1)
def mask (r zs : List Int) : List Int := zs.foldl mask1 r
def leB (r : List Int) (x y : Int) : Bool := decide (¬ (val r x < val r y ∨ (val r y = val r x ∧ y < x)))
/-- The indexes in the order in which they get one more. -/
def ord (r : List Int) : List Int := (idx r.length).mergeSort (leB r)
def okA (t : Int) (W : List Int) : Bool := decide (okW W = true ∧ (0 ≤ t ∧ t ≤ 1000000000) ∧ 0 < W.sum)
def allocR (t : Int) (W : List Int) : List Int := if okA t W = true then bump (parts t W.sum W) ((ord (rems t W.sum W)).take (rest t W.sum W).toNat) else []

theorem bump_snoc (p zs : List Int) (z : Int) : bump p (zs ++ [z]) = bump1 (bump p zs) z := by simp [bump, List.foldl_append]
theorem mask_snoc (p zs : List Int) (z : Int) : mask p (zs ++ [z]) = mask1 (mask p zs) z := by simp [mask, List.foldl_append]
theorem bump1_len (p : List Int) (z : Int) : (bump1 p z).length = p.length := by simp [bump1]
theorem bump_len (zs : List Int) : ∀ p, (bump p zs).length = p.length := by
  induction zs with
  | nil => intro p; rfl
  | cons z zs ih => intro p; show (bump (bump1 p z) zs).length = _; rw [ih, bump1_len]
theorem mask_len (zs : List Int) : ∀ p, (mask p zs).length = p.length := by
  induction zs with
  | nil => intro p; rfl
  | cons z zs ih => intro p; show (mask (mask1 p z) zs).length = _; rw [ih]; simp [mask1]
theorem parts_len (t s : Int) (W : List Int) : (parts t s W).length = W.length := by simp [parts]
theorem rems_len (t s : Int) (W : List Int) : (rems t s W).length = W.length := by simp [rems]
theorem alloc_len (t : Int) (W : List Int) : (allocR t W).length ≤ W.length := by
  unfold allocR; split
  · rw [bump_len, parts_len]; exact Nat.le_refl _
  · exact Nat.zero_le _

theorem idx_nodup (m : Nat) : (idx m).Nodup := by
  unfold idx
  rw [List.nodup_iff_pairwise_ne, List.pairwise_map]
  exact List.nodup_range.imp fun h e => h (by omega)
theorem ord_perm (r : List Int) : (ord r).Perm (idx r.length) := List.mergeSort_perm _ _
theorem ord_sorted (r : List Int) : (ord r).Pairwise (R r) := by
  have h1 : (ord r).Pairwise (fun x y => leB r x y = true) := List.pairwise_mergeSort
    (fun a b c h1 h2 => by simp only [leB, decide_eq_true_eq] at *; omega)
    (fun a b => by simp only [leB, Bool.or_eq_true, decide_eq_true_eq]; omega) _
  have h2 : (ord r).Nodup := (ord_perm r).nodup_iff.2 (idx_nodup _)
  refine (h1.and (List.nodup_iff_pairwise_ne.1 h2)).imp ?_
  rintro x y ⟨h, hne⟩
  simp only [leB, decide_eq_true_eq] at h
  unfold R
  omega
theorem ord_unique {r Z : List Int} {m : Nat} (hm : r.length = m) (hp : Z.Perm (idx m)) (hs : Z.Pairwise (R r)) : Z = ord r := by
  subst hm
  refine List.Perm.eq_of_pairwise (le := R r) ?_ hs (ord_sorted r) (hp.trans (ord_perm r).symm)
  intro a b _ _ h1 h2
  unfold R at *
  omega
theorem ord_len (r : List Int) : (ord r).length = r.length := by rw [(ord_perm r).length_eq, idx_len]
theorem ord_in (r : List Int) (x : Int) (h : x ∈ ord r) : 0 ≤ x ∧ x < r.length := idx_ok _ x ((ord_perm r).mem_iff.1 h)

theorem sum_split (t : Int) {s : Int} (W : List Int) : (parts t s W).sum * s + (rems t s W).sum = t * W.sum := by
  induction W with
  | nil => simp [parts, rems]
  | cons x W ih =>
    show (part1 t s x + (parts t s W).sum) * s + (rem1 t s x + (rems t s W).sum) = t * (x + W.sum)
    have e := Int.ediv_mul_add_emod (t * x) s
    unfold part1 rem1
    rw [Int.add_mul, Int.mul_add]
    omega
theorem rems_bd {t s : Int} (hs : 0 < s) (W : List Int) : 0 ≤ (rems t s W).sum ∧ (rems t s W).sum ≤ (W.length : Int) * (s - 1) := by
  induction W with
  | nil => simp [rems]
  | cons x W ih =>
    show 0 ≤ rem1 t s x + (rems t s W).sum ∧ rem1 t s x + (rems t s W).sum ≤ ((W.length + 1 : Nat) : Int) * (s - 1)
    have a1 := Int.emod_nonneg (t * x) (show s ≠ 0 by omega)
    have a2 := Int.emod_lt_of_pos (t * x) hs
    have e : ((W.length + 1 : Nat) : Int) * (s - 1) = (W.length : Int) * (s - 1) + (s - 1) := by
      rw [show ((W.length + 1 : Nat) : Int) = (W.length : Int) + 1 by omega, Int.add_mul, Int.one_mul]
    unfold rem1
    omega
theorem rest_bd {t s : Int} {W : List Int} (hs : 0 < s) (h : W.sum = s) (hl : 1 ≤ W.length) : 0 ≤ rest t s W ∧ rest t s W < W.length := by
  have h1 := sum_split t (s := s) W
  obtain ⟨h2, h3⟩ := rems_bd (t := t) hs W
  rw [h] at h1
  have e : rest t s W * s = (rems t s W).sum := by unfold rest; rw [Int.sub_mul]; omega
  constructor
  · rcases Int.lt_or_le (rest t s W) 0 with c | c
    · have := Int.mul_le_mul_of_nonneg_right (show rest t s W ≤ -1 by omega) (Int.le_of_lt hs)
      omega
    · exact c
  · rcases Int.lt_or_le (rest t s W) W.length with c | c
    · exact c
    · have k := Int.mul_le_mul_of_nonneg_right c (Int.le_of_lt hs)
      have k2 : (W.length : Int) * (s - 1) = (W.length : Int) * s - W.length := by rw [Int.mul_sub, Int.mul_one]
      omega
theorem sum_bd {W : List Int} (h : ∀ x ∈ W, 0 ≤ x ∧ x ≤ 1000000) : 0 ≤ W.sum ∧ W.sum ≤ (W.length : Int) * 1000000 := by
  induction W with
  | nil => simp
  | cons x W ih =>
    have a := ih (fun y hy => h y (List.mem_cons_of_mem _ hy))
    have b := h x (by simp)
    rw [List.sum_cons, List.length_cons]
    omega
theorem mul_small {t x : Int} (h1 : 0 ≤ t) (h2 : t ≤ 1000000000) (h3 : 0 ≤ x) (h4 : x ≤ 1000000) : 0 ≤ t * x ∧ t * x ≤ 1000000000000000 := by
  have a := Int.mul_nonneg h1 h3
  have b : t * x ≤ 1000000000 * 1000000 := Int.mul_le_mul h2 h4 h3 (by omega)
  omega
theorem part_bd {t s x : Int} (h1 : 0 ≤ t) (h2 : t ≤ 1000000000) (h3 : 0 ≤ x) (h4 : x ≤ 1000000) (hs : 0 < s) : 0 ≤ part1 t s x ∧ part1 t s x ≤ 1000000000000000 := by
  have a := mul_small h1 h2 h3 h4
  have b := Int.ediv_nonneg a.1 (Int.le_of_lt hs)
  have c := Int.ediv_le_self s a.1
  unfold part1; omega
/-- All numbers lie from 0 to B. -/
def Small (B : Int) (p : List Int) : Prop := ∀ j, 0 ≤ p.getD j 0 ∧ p.getD j 0 ≤ B
theorem getD_set (p : List Int) (i j : Nat) (x : Int) : (p.set i x).getD j 0 = if i = j ∧ j < p.length then x else p.getD j 0 := by
  simp only [List.getD, List.getElem?_set]
  by_cases h : i = j
  · subst h
    by_cases h2 : i < p.length
    · simp [h2]
    · simp [h2]
  · simp [h]
theorem small_bump1 {B : Int} {p : List Int} (h : Small B p) (z : Int) : Small (B + 1) (bump1 p z) := by
  intro j
  have a := h j
  have b := h z.toNat
  unfold bump1
  rw [getD_set]
  split <;> omega
theorem small_bump (zs : List Int) : ∀ {B : Int} {p : List Int}, Small B p → Small (B + zs.length) (bump p zs) := by
  induction zs with
  | nil => intro B p h; simpa [bump] using h
  | cons z zs ih =>
    intro B p h
    have := ih (small_bump1 h z)
    show Small (B + ((zs.length + 1 : Nat) : Int)) (bump (bump1 p z) zs)
    rw [show B + ((zs.length + 1 : Nat) : Int) = B + 1 + (zs.length : Int) by omega]
    exact this
theorem small_parts {t s : Int} {W : List Int} (h1 : 0 ≤ t) (h2 : t ≤ 1000000000) (hs : 0 < s) (hW : ∀ x ∈ W, 0 ≤ x ∧ x ≤ 1000000) : Small 1000000000000000 (parts t s W) := by
  intro j
  unfold parts
  simp only [List.getD, List.getElem?_map]
  by_cases h : j < W.length
  · rw [List.getElem?_eq_getElem h]
    have := hW _ (List.getElem_mem h)
    exact part_bd h1 h2 this.1 this.2 hs
  · rw [List.getElem?_eq_none (by omega)]
    simp
theorem mask_get (zs : List Int) : ∀ (r : List Int) (j : Nat), j < r.length → (∀ z ∈ zs, 0 ≤ z) → (mask r zs).getD j 0 = if (j : Int) ∈ zs then -1 else r.getD j 0 := by
  induction zs with
  | nil => intro r j _ _; rfl
  | cons z zs ih =>
    intro r j hj hz
    show (mask (mask1 r z) zs).getD j 0 = _
    have hz0 := hz z (by simp)
    rw [ih (mask1 r z) j (by simpa [mask1] using hj) (fun y hy => hz y (List.mem_cons_of_mem _ hy))]
    unfold mask1
    rw [getD_set]
    by_cases h1 : (j : Int) ∈ zs
    · simp [h1]
    · by_cases h2 : z.toNat = j
      · have : z = (j : Int) := by omega
        rw [if_neg h1, if_pos ⟨h2, hj⟩, if_pos (by rw [this]; simp)]
      · have : (j : Int) ≠ z := by omega
        rw [if_neg h1, if_neg (fun h => h2 h.1), if_neg (by simp [h1, this])]
/-- The first greatest of what is left is the next in the order. -/
theorem best_is {r : List Int} {k : Nat} (hk : k < r.length) (hr : ∀ j, j < r.length → 0 ≤ r.getD j 0) (b : Nat) (hb : b < r.length)
    (h1 : ∀ j, j < r.length → (mask r ((ord r).take k)).getD j 0 ≤ (mask r ((ord r).take k)).getD b 0)
    (h2 : ∀ j, j < b → (mask r ((ord r).take k)).getD j 0 < (mask r ((ord r).take k)).getD b 0) : (ord r).take (k + 1) = (ord r).take k ++ [(b : Int)] := by
  have hl := ord_len r
  have hkl : k < (ord r).length := by omega
  have hpos : ∀ z ∈ (ord r).take k, 0 ≤ z := fun z hz => (ord_in r z (List.mem_of_mem_take hz)).1
  have hnd : (ord r).Nodup := (ord_perm r).nodup_iff.2 (idx_nodup _)
  have hso := List.pairwise_iff_getElem.1 (ord_sorted r)
  have hne := List.pairwise_iff_getElem.1 (List.nodup_iff_pairwise_ne.1 hnd)
  obtain ⟨z, hz⟩ : ∃ z, (ord r)[k] = z := ⟨_, rfl⟩
  have hzb := ord_in r z (by rw [← hz]; exact List.getElem_mem hkl)
  have hzn : z ∉ (ord r).take k := by
    intro hm
    obtain ⟨i, hi, he⟩ := List.mem_iff_getElem.1 hm
    rw [List.getElem_take] at he
    have hi2 : i < k := by simp at hi; omega
    exact hne i k (by omega) hkl hi2 (by rw [he, hz])
  have mz : (mask r ((ord r).take k)).getD z.toNat 0 = val r z := by
    rw [mask_get _ r z.toNat (by omega) hpos, if_neg (by rw [Int.toNat_of_nonneg hzb.1]; exact hzn)]
    rfl
  have hz0 := hr z.toNat (by omega)
  have hbz := h1 z.toNat (by omega)
  rw [mz] at hbz
  have hbn : (b : Int) ∉ (ord r).take k := by
    intro hm
    have e := mask_get _ r b hb hpos
    rw [if_pos hm] at e
    unfold val at hbz
    omega
  have mb : (mask r ((ord r).take k)).getD b 0 = val r (b : Int) := by
    rw [mask_get _ r b hb hpos, if_neg hbn]
    unfold val
    rw [Int.toNat_natCast]
  rw [mb] at hbz
  have hbo : (b : Int) ∈ ord r := (ord_perm r).mem_iff.2 (List.mem_map.2 ⟨b, List.mem_range.2 hb, rfl⟩)
  obtain ⟨i, hi, he⟩ := List.mem_iff_getElem.1 hbo
  have hik : ¬ i < k := fun h => hbn (List.mem_iff_getElem.2 ⟨i, by simp; omega, by rw [List.getElem_take]; exact he⟩)
  have hik2 : i = k := by
    by_cases c : i = k
    · exact c
    · exfalso
      have h := hso k i hkl hi (by omega)
      rw [hz, he] at h
      unfold R at h
      rcases h with h | ⟨h, hlt⟩
      · omega
      · have := h2 z.toNat (by omega)
        rw [mz, mb] at this
        omega
  subst hik2
  rw [List.take_succ_eq_append_getElem hkl, he]
end Go.Proofs.Ytdmnagpnhphifaa.AllocMath
