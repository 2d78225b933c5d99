/- The words of a formula's text and their number: plain mathematics. -/
import Derived.Test.YtiogpiopgcbdbaaNodeMath
import Derived.Test.YtiogpiopgcbdbaaFracTxM
namespace Go.Proofs.Ytiogpiopgcbdbaa.SizeM
open TNode NodeMath FracMath FracTxM NumMath
abbrev W := List UInt8
def nameW (k : Int) : W := if k = 3 then [43] else if k = 4 then [45] else if k = 5 then [42] else if k = 6 then [47] else if k = 7 then [109, 105, 110] else if k = 8 then [109, 97, 120] else [112, 105, 99, 107]
def leafW (n : El) : W := if n.Kind = 1 then fracT n.Value_Num n.Value_Den else 118 :: fmt n.A
/-- The words of node k, with so much fuel. -/
def wordsF (l : List El) : Nat → Nat → List W
  | 0, _ => []
  | f + 1, k => if h : k < l.length then
      (if l[k].Kind ≤ 2 then [leafW l[k]] else nameW l[k].Kind :: (wordsF l f l[k].A.toNat ++ wordsF l f l[k].B.toNat ++ (if l[k].Kind = 9 then wordsF l f l[k].C.toNat else [])))
      else []
def words (l : List El) (k : Nat) : List W := wordsF l (k + 1) k
theorem ok_at {l : List El} (hl : OkF l) {k : Nat} (h : k < l.length) : (l[k].Kind = 1 ∨ l[k].Kind = 2 ∨ 3 ≤ l[k].Kind ∧ l[k].Kind ≤ 9) ∧ (3 ≤ l[k].Kind → (0 ≤ l[k].A ∧ l[k].A.toNat < k) ∧ (0 ≤ l[k].B ∧ l[k].B.toNat < k)) ∧ (l[k].Kind = 9 → 0 ≤ l[k].C ∧ l[k].C.toNat < k) := by
  have := okN_of (hl.2 k h)
  generalize l[k] = n at this ⊢
  rcases this with h1 | ⟨_, _, h1 | h1 | h1⟩
  · have := h1.1; omega
  · have := h1.1; omega
  · obtain ⟨a, b, c, _⟩ := h1; omega
  · obtain ⟨a, b, c, d⟩ := h1; omega
theorem fuel {l : List El} (hl : OkF l) : ∀ (f g k : Nat), k < f → k < g → wordsF l f k = wordsF l g k
  | 0, _, _, h, _ => by omega
  | _ + 1, 0, _, _, h => by omega
  | f + 1, g + 1, k, h1, h2 => by
    rw [wordsF, wordsF]
    by_cases hk : k < l.length
    · rw [dif_pos hk, dif_pos hk]
      obtain ⟨c1, c2, c3⟩ := ok_at hl hk
      by_cases hs : l[k].Kind ≤ 2
      · rw [if_pos hs, if_pos hs]
      · obtain ⟨a, b⟩ := c2 (by omega)
        rw [if_neg hs, if_neg hs, fuel hl f g _ (by omega) (by omega), fuel hl f g l[k].B.toNat (by omega) (by omega)]
        by_cases h9 : l[k].Kind = 9
        · have := c3 h9
          rw [if_pos h9, if_pos h9, fuel hl f g l[k].C.toNat (by omega) (by omega)]
        · rw [if_neg h9, if_neg h9]
    · rw [dif_neg hk, dif_neg hk]
theorem words_leaf {l : List El} {k : Nat} (h : k < l.length) (hs : l[k].Kind ≤ 2) : words l k = [leafW l[k]] := by
  unfold words; rw [wordsF, dif_pos h, if_pos hs]
theorem words_two {l : List El} (hl : OkF l) {k : Nat} (h : k < l.length) (hs : ¬ l[k].Kind ≤ 2) (h9 : ¬ l[k].Kind = 9) : words l k = nameW l[k].Kind :: (words l l[k].A.toNat ++ words l l[k].B.toNat) := by
  obtain ⟨c1, c2, _⟩ := ok_at hl h
  obtain ⟨a, b⟩ := c2 (by omega)
  unfold words
  rw [wordsF, dif_pos h, if_neg hs, if_neg h9, List.append_nil, fuel hl k (l[k].A.toNat + 1) _ (by omega) (by omega), fuel hl k (l[k].B.toNat + 1) _ (by omega) (by omega)]
theorem words_pick {l : List El} (hl : OkF l) {k : Nat} (h : k < l.length) (h9 : l[k].Kind = 9) : words l k = nameW l[k].Kind :: (words l l[k].A.toNat ++ words l l[k].B.toNat ++ words l l[k].C.toNat) := by
  obtain ⟨c1, c2, c3⟩ := ok_at hl h
  obtain ⟨a, b⟩ := c2 (by omega)
  have c := c3 h9
  unfold words
  rw [wordsF, dif_pos h, if_neg (by omega), if_pos h9, fuel hl k (l[k].A.toNat + 1) _ (by omega) (by omega), fuel hl k (l[k].B.toNat + 1) _ (by omega) (by omega), fuel hl k (l[k].C.toNat + 1) _ (by omega) (by omega)]
theorem words_pos {l : List El} {k : Nat} (h : k < l.length) : 1 ≤ (words l k).length := by
  unfold words
  rw [wordsF, dif_pos h]
  split <;> simp
/-- The number of words, at most 25. -/
def sz (l : List El) (k : Nat) : Int := min ((words l k).length : Int) 25
theorem sz_bd (l : List El) (k : Nat) : 0 ≤ sz l k ∧ sz l k ≤ 25 := by unfold sz; omega
def sizeTo (l : List El) (k : Nat) : List Int := (List.range k).map fun i => sz l i
theorem sizeTo_len (l : List El) (k : Nat) : (sizeTo l k).length = k := by simp [sizeTo]
theorem sizeTo_get (l : List El) (k i : Nat) (h : i < (sizeTo l k).length) : (sizeTo l k)[i] = sz l i := by simp [sizeTo]
theorem sizeTo_succ (l : List El) (k : Nat) : sizeTo l (k + 1) = sizeTo l k ++ [sz l k] := by simp [sizeTo, List.range_succ]
theorem sz_leaf {l : List El} {k : Nat} (h : k < l.length) (hs : l[k].Kind ≤ 2) : sz l k = 1 := by unfold sz; rw [words_leaf h hs]; rfl
theorem sz_two {l : List El} (hl : OkF l) {k : Nat} (h : k < l.length) (hs : ¬ l[k].Kind ≤ 2) (h9 : ¬ l[k].Kind = 9) : sz l k = min (1 + sz l l[k].A.toNat + sz l l[k].B.toNat) 25 := by
  unfold sz; rw [words_two hl h hs h9]; simp only [List.length_cons, List.length_append]; omega
theorem sz_pick {l : List El} (hl : OkF l) {k : Nat} (h : k < l.length) (h9 : l[k].Kind = 9) : sz l k = min (1 + sz l l[k].A.toNat + sz l l[k].B.toNat + sz l l[k].C.toNat) 25 := by
  unfold sz; rw [words_pick hl h h9]; simp only [List.length_cons, List.length_append]; omega
noncomputable def sizeF (l : List El) : Int := if okF l = true then sz l (l.length - 1) else 0
/-- The text of node k. -/
def joinW : List W → List UInt8
  | [] => []
  | [x] => x
  | x :: y :: r => x ++ 32 :: joinW (y :: r)
theorem join_cons {x : W} {r : List W} (h : r ≠ []) : joinW (x :: r) = x ++ 32 :: joinW r := by
  cases r with
  | nil => exact absurd rfl h
  | cons y s => rfl
theorem join_app : ∀ {a b : List W}, a ≠ [] → b ≠ [] → joinW (a ++ b) = joinW a ++ 32 :: joinW b
  | [], _, h, _ => absurd rfl h
  | [x], b, _, hb => join_cons hb
  | x :: y :: r, b, _, hb => by
    have ih := join_app (a := y :: r) (b := b) (by simp) hb
    have e1 : joinW (x :: y :: r) = x ++ 32 :: joinW (y :: r) := rfl
    have e2 : joinW ((x :: y :: r) ++ b) = x ++ 32 :: joinW ((y :: r) ++ b) := rfl
    rw [e1, e2, ih]
    simp
noncomputable def textF (l : List El) : List UInt8 := if okF l = true ∧ (words l (l.length - 1)).length ≤ 24 then joinW (words l (l.length - 1)) else []
theorem name_len (k : Int) : (nameW k).length ≤ 4 := by unfold nameW; repeat (first | (split; decide) | split | decide)
theorem leaf_len {n : El} {at_ : Int} (h : OkN n at_) (hs : n.Kind ≤ 2) : (leafW n).length ≤ 25 := by
  unfold leafW
  rcases h with h1 | ⟨_, _, h1 | h1 | h1⟩
  · rw [if_pos h1.1]; exact (parts h1.2.2.2.2).2.2.2.2
  · rw [if_neg (by omega)]
    obtain ⟨k, hk⟩ : ∃ k : Nat, n.A = (k : Int) := ⟨n.A.toNat, by omega⟩
    have := fmt_lenN (n := k) (k := 1) (by omega) (by omega)
    rw [hk, List.length_cons]; omega
  · have := h1.1; omega
  · have := h1.1; omega
theorem word_len {l : List El} (hl : OkF l) : ∀ (f k : Nat), ∀ x ∈ wordsF l f k, x.length ≤ 25
  | 0, _, x, h => by rw [wordsF] at h; cases h
  | f + 1, k, x, h => by
    rw [wordsF] at h
    split at h
    next hk =>
      split at h
      next hs =>
        rw [List.mem_singleton] at h
        rw [h]; exact leaf_len (okN_of (hl.2 k hk)) hs
      next hs =>
        rcases List.mem_cons.1 h with rfl | h
        · have := name_len l[k].Kind; omega
        · rcases List.mem_append.1 h with h | h
          · rcases List.mem_append.1 h with h | h
            · exact word_len hl f _ x h
            · exact word_len hl f _ x h
          · split at h
            · exact word_len hl f _ x h
            · cases h
    next => cases h
theorem join_len : ∀ (ws : List W), (∀ x ∈ ws, x.length ≤ 25) → (joinW ws).length ≤ 26 * ws.length
  | [], _ => by simp [joinW]
  | [x], h => by have := h x (by simp); simp [joinW]; omega
  | x :: y :: r, h => by
    have h1 := h x (by simp)
    have h2 := join_len (y :: r) (fun z hz => h z (List.mem_cons_of_mem _ hz))
    have e : joinW (x :: y :: r) = x ++ 32 :: joinW (y :: r) := rfl
    rw [e, List.length_append, List.length_cons, List.length_cons]
    omega
theorem text_len {l : List El} (hl : OkF l) {k : Nat} (h : (words l k).length ≤ 24) : (joinW (words l k)).length ≤ 624 := by
  have := join_len (words l k) (fun x hx => word_len hl _ _ x hx)
  omega
end Go.Proofs.Ytiogpiopgcbdbaa.SizeM
