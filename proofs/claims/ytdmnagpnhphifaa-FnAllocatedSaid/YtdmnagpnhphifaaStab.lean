/- Plain mathematics of the library's stable sort in place: exchanges, blocks that change places, insertions and merges, on lists. Imports nothing of the dump. -/
import Derived.WalkKit
namespace Go.Proofs.Ytdmnagpnhphifaa.Stab
variable {α : Type} [Inhabited α]

/-- Two elements exchanged. -/
def swp (l : List α) (i j : Nat) : List α := (l.set i (l.getD j default)).set j (l.getD i default)
theorem swp_len (l : List α) (i j : Nat) : (swp l i j).length = l.length := by simp [swp]
theorem swp_comm (l : List α) (i j : Nat) (h : i ≠ j) : swp l i j = swp l j i := by unfold swp; exact List.set_comm _ _ h
theorem swp_seg (P M S : List α) (x y : α) (i j : Nat) (hi : i = P.length) (hj : j = P.length + 1 + M.length) :
    swp (P ++ (x :: (M ++ (y :: S)))) i j = P ++ (y :: (M ++ (x :: S))) := by
  subst hi hj
  have e1 : (P ++ (x :: (M ++ (y :: S)))).getD P.length default = x := by simp [List.getD]
  have e2 : (P ++ (x :: (M ++ (y :: S)))).getD (P.length + 1 + M.length) default = y := by
    simp only [List.getD]
    rw [List.getElem?_append_right (by omega), show P.length + 1 + M.length - P.length = M.length + 1 by omega, List.getElem?_cons_succ, List.getElem?_append_right (Nat.le_refl _), Nat.sub_self]
    rfl
  unfold swp
  rw [e1, e2, List.set_append_right _ _ (Nat.le_refl _), Nat.sub_self, List.set_cons_zero, List.set_append_right _ _ (by omega), show P.length + 1 + M.length - P.length = M.length + 1 by omega, List.set_cons_succ,
    List.set_append_right _ _ (Nat.le_refl _), Nat.sub_self, List.set_cons_zero]
theorem swp_seg' (P M S : List α) (x y : α) (i j : Nat) (hi : i = P.length) (hj : j = P.length + 1 + M.length) :
    swp (P ++ (x :: (M ++ (y :: S)))) j i = P ++ (y :: (M ++ (x :: S))) := by
  rw [swp_comm _ _ _ (by omega)]; exact swp_seg P M S x y i j hi hj
/-- Neighbours. -/
theorem swp_next (P S : List α) (x y : α) (i : Nat) (hi : i = P.length) : swp (P ++ (x :: (y :: S))) i (i + 1) = P ++ (y :: (x :: S)) :=
  swp_seg P [] S x y i (i + 1) hi (by simp; omega)
theorem swp_next' (P S : List α) (x y : α) (i : Nat) (hi : i = P.length) : swp (P ++ (x :: (y :: S))) (i + 1) i = P ++ (y :: (x :: S)) :=
  swp_seg' P [] S x y i (i + 1) hi (by simp; omega)

/-- Two blocks on the way to change places: the first k elements have. -/
def swr {β : Type} (P X M Y S : List β) (k : Nat) : List β := P ++ (Y.take k ++ (X.drop k ++ (M ++ (X.take k ++ (Y.drop k ++ S)))))
theorem swr_zero {β : Type} (P X M Y S : List β) : swr P X M Y S 0 = P ++ (X ++ (M ++ (Y ++ S))) := by simp [swr]
theorem swr_all {β : Type} (P X M Y S : List β) (n : Nat) (hx : X.length = n) (hy : Y.length = n) : swr P X M Y S n = P ++ (Y ++ (M ++ (X ++ S))) := by
  unfold swr
  rw [List.take_of_length_le (by omega), List.drop_of_length_le (l := X) (by omega), List.take_of_length_le (l := X) (by omega), List.drop_of_length_le (l := Y) (by omega), List.nil_append, List.nil_append]
theorem swr_len {β : Type} (P X M Y S : List β) (k : Nat) : (swr P X M Y S k).length = P.length + X.length + M.length + Y.length + S.length := by
  unfold swr; simp [List.length_append]; omega
theorem swr_step (P X M Y S : List α) (k n a b : Nat) (hx : X.length = n) (hy : Y.length = n) (hk : k < n) (ha : a = P.length) (hb : b = P.length + n + M.length) :
    swp (swr P X M Y S k) (a + k) (b + k) = swr P X M Y S (k + 1) := by
  have e1 : X.drop k = X[k] :: X.drop (k + 1) := List.drop_eq_getElem_cons (by omega)
  have e2 : Y.drop k = Y[k] :: Y.drop (k + 1) := List.drop_eq_getElem_cons (by omega)
  have e3 : X.take (k + 1) = X.take k ++ [X[k]] := List.take_succ_eq_append_getElem (by omega)
  have e4 : Y.take (k + 1) = Y.take k ++ [Y[k]] := List.take_succ_eq_append_getElem (by omega)
  have h := swp_seg (P ++ Y.take k) (X.drop (k + 1) ++ (M ++ X.take k)) (Y.drop (k + 1) ++ S) X[k] Y[k] (a + k) (b + k) (by simp; omega) (by simp; omega)
  have l1 : swr P X M Y S k = (P ++ Y.take k) ++ (X[k] :: ((X.drop (k + 1) ++ (M ++ X.take k)) ++ (Y[k] :: (Y.drop (k + 1) ++ S)))) := by
    unfold swr; rw [e1, e2]; simp only [List.append_assoc, List.cons_append]
  have l2 : swr P X M Y S (k + 1) = (P ++ Y.take k) ++ (Y[k] :: ((X.drop (k + 1) ++ (M ++ X.take k)) ++ (X[k] :: (Y.drop (k + 1) ++ S)))) := by
    unfold swr; rw [e3, e4]; simp only [List.append_assoc, List.cons_append, List.nil_append]
  rw [l1, l2, h]

/-- The comparison of an earlier x and a later y agrees with the order R. -/
def Agree (R : α → α → Prop) (cf : α → α → Int) (x y : α) : Prop := (cf y x < 0 → R y x) ∧ (¬ cf y x < 0 → R x y)
def Trans (R : α → α → Prop) : Prop := ∀ x y z, R x y → R y z → R x z
theorem cross {R : α → α → Prop} (ht : Trans R) {X Y : List α} (hX : X.Pairwise R) (hY : Y.Pairwise R) (h : X = [] ∨ Y = [] ∨ R (X.getD (X.length - 1) default) (Y.getD 0 default)) :
    ∀ x ∈ X, ∀ y ∈ Y, R x y := by
  intro x hx y hy
  rcases h with rfl | rfl | h
  · cases hx
  · cases hy
  · rcases List.eq_nil_or_concat X with rfl | ⟨X0, z, rfl⟩
    · cases hx
    · cases Y with
      | nil => cases hy
      | cons u Y0 =>
        have e1 : (X0 ++ [z]).getD ((X0 ++ [z]).length - 1) default = z := by simp [List.getD]
        rw [show X0.concat z = X0 ++ [z] by simp] at *
        rw [e1] at h
        have h' : R z u := h
        have a1 : R x u := by
          rcases List.mem_append.1 hx with hx | hx
          · exact ht _ _ _ ((List.pairwise_append.1 hX).2.2 x hx z (by simp)) h'
          · obtain rfl : x = z := by simpa using hx
            exact h'
        rcases List.mem_cons.1 hy with rfl | hy
        · exact a1
        · exact ht _ _ _ a1 ((List.pairwise_cons.1 hY).1 y hy)
theorem sorted_app {R : α → α → Prop} (ht : Trans R) {X Y : List α} (hX : X.Pairwise R) (hY : Y.Pairwise R) (h : X = [] ∨ Y = [] ∨ R (X.getD (X.length - 1) default) (Y.getD 0 default)) :
    (X ++ Y).Pairwise R := List.pairwise_append.2 ⟨hX, hY, cross ht hX hY h⟩
/-- A new element put between. -/
theorem sorted_mid {R : α → α → Prop} (ht : Trans R) {X Y : List α} {v : α} (hXY : (X ++ Y).Pairwise R) (h1 : X = [] ∨ R (X.getD (X.length - 1) default) v) (h2 : Y = [] ∨ R v (Y.getD 0 default)) :
    (X ++ (v :: Y)).Pairwise R := by
  obtain ⟨hX, hY, hc⟩ := List.pairwise_append.1 hXY
  have hv : (v :: Y).Pairwise R := by
    have := sorted_app (X := [v]) ht (by simp) hY (by rcases h2 with h2 | h2; exact .inr (.inl h2); exact .inr (.inr h2))
    simpa using this
  exact sorted_app ht hX hv (by rcases h1 with h1 | h1; exact .inl h1; exact .inr (.inr h1))
/-- A stretch of a longer list. -/
theorem getD_at (P X S : List α) (j : Nat) (h : j < X.length) (i : Nat) (hi : i = P.length + j) : (P ++ (X ++ S)).getD i default = X.getD j default := by
  subst hi
  simp only [List.getD]
  rw [List.getElem?_append_right (by omega), show P.length + j - P.length = j by omega, List.getElem?_append_left h]
theorem getD_mem (X : List α) (j : Nat) (h : j < X.length) : X.getD j default ∈ X := by
  simp only [List.getD]
  rw [List.getElem?_eq_getElem h]
  exact List.getElem_mem h
theorem getD_take (X : List α) (j k : Nat) (h : j < k) : (X.take k).getD j default = X.getD j default := by
  simp only [List.getD]
  rw [List.getElem?_take, if_pos h]
theorem getD_drop (X : List α) (j k : Nat) : (X.drop k).getD j default = X.getD (k + j) default := by
  simp only [List.getD]
  rw [List.getElem?_drop]

theorem last_take (Y : List α) (t : Nat) (h0 : 0 < t) (ht : t ≤ Y.length) : (Y.take t).getD ((Y.take t).length - 1) default = Y.getD (t - 1) default := by
  rw [getD_take _ _ _ (by simp; omega)]
  congr 1
  simp
  omega
/-- One element before a sorted block. -/
theorem one_left {R : α → α → Prop} {cf : α → α → Int} (ht : Trans R) (x : α) (Y : List α) (hY : Y.Pairwise R) (hag : ∀ y ∈ Y, Agree R cf x y) (t : Nat) (hl : t ≤ Y.length)
    (h1 : t = 0 ∨ cf (Y.getD (t - 1) default) x < 0) (h2 : t = Y.length ∨ ¬ cf (Y.getD t default) x < 0) :
    (Y.take t ++ (x :: Y.drop t)).Pairwise R ∧ (Y.take t ++ (x :: Y.drop t)).Perm ([x] ++ Y) := by
  refine ⟨sorted_mid ht (by rw [List.take_append_drop]; exact hY) ?_ ?_, ?_⟩
  · by_cases h0 : t = 0
    · left; rw [h0]; rfl
    · right
      rw [last_take Y t (by omega) hl]
      exact (hag _ (getD_mem Y _ (by omega))).1 (by rcases h1 with h1 | h1; exact absurd h1 h0; exact h1)
  · by_cases h0 : t = Y.length
    · left; rw [h0]; exact List.drop_of_length_le (Nat.le_refl _)
    · right
      rw [getD_drop, Nat.add_zero]
      exact (hag _ (getD_mem Y _ (by omega))).2 (by rcases h2 with h2 | h2; exact absurd h2 h0; exact h2)
  · refine List.perm_middle.trans ?_
    rw [List.take_append_drop]
    exact List.Perm.refl _
/-- One element behind a sorted block. -/
theorem one_right {R : α → α → Prop} {cf : α → α → Int} (ht : Trans R) (y : α) (X : List α) (hX : X.Pairwise R) (hag : ∀ x ∈ X, Agree R cf x y) (t : Nat) (hl : t ≤ X.length)
    (h1 : t = 0 ∨ ¬ cf y (X.getD (t - 1) default) < 0) (h2 : t = X.length ∨ cf y (X.getD t default) < 0) :
    (X.take t ++ (y :: X.drop t)).Pairwise R ∧ (X.take t ++ (y :: X.drop t)).Perm (X ++ [y]) := by
  refine ⟨sorted_mid ht (by rw [List.take_append_drop]; exact hX) ?_ ?_, ?_⟩
  · by_cases h0 : t = 0
    · left; rw [h0]; rfl
    · right
      rw [last_take X t (by omega) hl]
      exact (hag _ (getD_mem X _ (by omega))).2 (by rcases h1 with h1 | h1; exact absurd h1 h0; exact h1)
  · by_cases h0 : t = X.length
    · left; rw [h0]; exact List.drop_of_length_le (Nat.le_refl _)
    · right
      rw [getD_drop, Nat.add_zero]
      exact (hag _ (getD_mem X _ (by omega))).1 (by rcases h2 with h2 | h2; exact absurd h2 h0; exact h2)
  · refine List.perm_middle.trans ?_
    rw [List.take_append_drop]
    exact (List.perm_append_comm (l₁ := X) (l₂ := [y])).symm
/-- Two halves merged. -/
theorem two_halves {R : α → α → Prop} {cf : α → α → Int} (ht : Trans R) (X Y Z1 Z2 : List α) (hX : X.Pairwise R) (hY : Y.Pairwise R) (hag : ∀ x ∈ X, ∀ y ∈ Y, Agree R cf x y) (s e : Nat) (hs : s ≤ X.length) (he : e ≤ Y.length)
    (p1 : Z1.Perm (X.take s ++ Y.take e)) (p2 : Z2.Perm (X.drop s ++ Y.drop e)) (s1 : Z1.Pairwise R) (s2 : Z2.Pairwise R)
    (h1 : s = 0 ∨ e = Y.length ∨ ¬ cf (Y.getD e default) (X.getD (s - 1) default) < 0) (h2 : s = X.length ∨ e = 0 ∨ cf (Y.getD (e - 1) default) (X.getD s default) < 0) :
    (Z1 ++ Z2).Pairwise R ∧ (Z1 ++ Z2).Perm (X ++ Y) := by
  have cX : ∀ x ∈ X.take s, ∀ y ∈ X.drop s, R x y := (List.pairwise_append.1 (by rw [List.take_append_drop]; exact hX)).2.2
  have cY : ∀ x ∈ Y.take e, ∀ y ∈ Y.drop e, R x y := (List.pairwise_append.1 (by rw [List.take_append_drop]; exact hY)).2.2
  have hX1 : (X.take s).Pairwise R := hX.sublist (List.take_sublist _ _)
  have hX2 : (X.drop s).Pairwise R := hX.sublist (List.drop_sublist _ _)
  have hY1 : (Y.take e).Pairwise R := hY.sublist (List.take_sublist _ _)
  have hY2 : (Y.drop e).Pairwise R := hY.sublist (List.drop_sublist _ _)
  have c1 : ∀ x ∈ X.take s, ∀ y ∈ Y.drop e, R x y := by
    refine cross ht hX1 hY2 ?_
    by_cases h0 : s = 0
    · left; rw [h0]; rfl
    · by_cases h3 : e = Y.length
      · right; left; rw [h3]; exact List.drop_of_length_le (Nat.le_refl _)
      · right; right
        rw [last_take X s (by omega) hs, getD_drop, Nat.add_zero]
        exact (hag _ (getD_mem X _ (by omega)) _ (getD_mem Y _ (by omega))).2 (by rcases h1 with h1 | h1 | h1; exact absurd h1 h0; exact absurd h1 h3; exact h1)
  have c2 : ∀ y ∈ Y.take e, ∀ x ∈ X.drop s, R y x := by
    refine cross ht hY1 hX2 ?_
    by_cases h0 : e = 0
    · left; rw [h0]; rfl
    · by_cases h3 : s = X.length
      · right; left; rw [h3]; exact List.drop_of_length_le (Nat.le_refl _)
      · right; right
        rw [last_take Y e (by omega) he, getD_drop, Nat.add_zero]
        exact (hag _ (getD_mem X _ (by omega)) _ (getD_mem Y _ (by omega))).1 (by rcases h2 with h2 | h2 | h2; exact absurd h2 h3; exact absurd h2 h0; exact h2)
  refine ⟨List.pairwise_append.2 ⟨s1, s2, fun x hx y hy => ?_⟩, ?_⟩
  · have hx' := p1.mem_iff.1 hx
    have hy' := p2.mem_iff.1 hy
    rcases List.mem_append.1 hx' with hx' | hx' <;> rcases List.mem_append.1 hy' with hy' | hy'
    · exact cX x hx' y hy'
    · exact c1 x hx' y hy'
    · exact c2 x hx' y hy'
    · exact cY x hx' y hy'
  · refine (p1.append p2).trans ?_
    have e1 : (X.take s ++ Y.take e) ++ (X.drop s ++ Y.drop e) = X.take s ++ ((Y.take e ++ X.drop s) ++ Y.drop e) := by simp only [List.append_assoc]
    have e2 : X ++ Y = X.take s ++ ((X.drop s ++ Y.take e) ++ Y.drop e) := by
      simp only [List.append_assoc]
      rw [List.take_append_drop, ← List.append_assoc (X.take s), List.take_append_drop]
    rw [e1, e2]
    exact List.Perm.append_left _ (List.Perm.append_right _ List.perm_append_comm)
end Go.Proofs.Ytdmnagpnhphifaa.Stab
