/- A node's operands as a list; size, words and reading by them: plain mathematics. -/
import Derived.Test.YtiogpiopgcbdbaaSizeM
namespace Go.Proofs.Ytiogpiopgcbdbaa.OpsM
open TNode NodeMath FracMath FracTxM NumMath SizeM
def opsL (x : El) : List Int := if x.Kind ≤ 2 then [] else if x.Kind = 9 then [x.A, x.B, x.C] else [x.A, x.B]
def wordW (x : El) : W := if x.Kind ≤ 2 then leafW x else nameW x.Kind
theorem ops_len (x : El) : (opsL x).length ≤ 3 := by unfold opsL; split; · simp
                                                     split <;> simp
theorem ok_ops {l : List El} (hl : OkF l) {k : Nat} (h : k < l.length) : ∀ o ∈ opsL l[k], 0 ≤ o ∧ o.toNat < k := by
  obtain ⟨c1, c2, c3⟩ := ok_at hl h
  intro o ho
  unfold opsL at ho
  split at ho
  · cases ho
  · have c2 := c2 (by omega)
    split at ho
    next h9 =>
      have c3 := c3 h9
      simp only [List.mem_cons, List.not_mem_nil, or_false] at ho
      rcases ho with rfl | rfl | rfl
      · exact c2.1
      · exact c2.2
      · exact c3
    next h9 =>
      simp only [List.mem_cons, List.not_mem_nil, or_false] at ho
      rcases ho with rfl | rfl
      · exact c2.1
      · exact c2.2
theorem kind_at {l : List El} (hl : OkF l) {k : Nat} (h : k < l.length) : 1 ≤ l[k].Kind ∧ l[k].Kind ≤ 9 := by
  obtain ⟨c1, _, _⟩ := ok_at hl h
  omega
/-- The operands' sizes ahead of the j-th. -/
def sumTo (l : List El) (os : List Int) (j : Nat) : Int := ((os.take j).map fun o => sz l o.toNat).sum
theorem sumTo_succ (l : List El) (os : List Int) (j : Nat) (h : j < os.length) : sumTo l os (j + 1) = sumTo l os j + sz l os[j].toNat := by
  unfold sumTo
  rw [List.take_succ_eq_append_getElem h, List.map_append, List.sum_append]
  simp only [List.map_cons, List.map_nil, List.sum_cons, List.sum_nil, Int.add_zero]
theorem sumTo_bd (l : List El) (os : List Int) : ∀ j, 0 ≤ sumTo l os j ∧ sumTo l os j ≤ 25 * (j : Int)
  | 0 => by simp [sumTo]
  | j + 1 => by
    have ih := sumTo_bd l os j
    by_cases h : j < os.length
    · rw [sumTo_succ l os j h]
      have := sz_bd l os[j].toNat
      omega
    · have e : sumTo l os (j + 1) = sumTo l os j := by unfold sumTo; rw [List.take_of_length_le (by omega), List.take_of_length_le (by omega)]
      rw [e]
      omega
theorem sz_ops {l : List El} (hl : OkF l) {k : Nat} (h : k < l.length) : sz l k = min (1 + sumTo l (opsL l[k]) (opsL l[k]).length) 25 := by
  unfold sumTo
  rw [List.take_length]
  unfold opsL
  by_cases hs : l[k].Kind ≤ 2
  · rw [if_pos hs, sz_leaf h hs]; rfl
  · rw [if_neg hs]
    by_cases h9 : l[k].Kind = 9
    · rw [if_pos h9, sz_pick hl h h9]
      simp only [List.map_cons, List.map_nil, List.sum_cons, List.sum_nil]
      congr 1
      omega
    · rw [if_neg h9, sz_two hl h hs h9]
      simp only [List.map_cons, List.map_nil, List.sum_cons, List.sum_nil]
      congr 1
      omega
/-- The words of the operands from the j-th on. -/
def wordsFrom (l : List El) (os : List Int) : List W := os.flatMap fun o => words l o.toNat
theorem words_ops {l : List El} (hl : OkF l) {k : Nat} (h : k < l.length) : words l k = wordW l[k] :: wordsFrom l (opsL l[k]) := by
  unfold opsL wordW wordsFrom
  by_cases hs : l[k].Kind ≤ 2
  · rw [if_pos hs, if_pos hs, words_leaf h hs]; rfl
  · rw [if_neg hs, if_neg hs]
    by_cases h9 : l[k].Kind = 9
    · rw [if_pos h9, words_pick hl h h9]; simp
    · rw [if_neg h9, words_two hl h hs h9]; simp
end Go.Proofs.Ytiogpiopgcbdbaa.OpsM
