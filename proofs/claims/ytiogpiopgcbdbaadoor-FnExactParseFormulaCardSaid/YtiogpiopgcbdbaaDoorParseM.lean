/- The formula that a text stands for; what is read is valid: plain mathematics. -/
import Derived.Test.YtiogpiopgcbdbaaDoorRows
import Derived.Test.YtiogpiopgcbdbaaDoorReadK
import Derived.Test.YtiogpiopgcbdbaaDoorSplitMath
import Derived.Test.YtiogpiopgcbdbaaDoorTNode
namespace Go.Proofs.YtiogpiopgcbdbaaDoor.ParseM
open Go.RowKit RowN TNode NodeMath FracMath FracTxM SizeM ReadM SplitMath
def dat (ps : List ByteArray) : List SizeM.W := ps.map fun p => p.data.toList
theorem st_size (s : ByteArray) : ∀ k, ∀ p ∈ (st s k).2, p.size ≤ s.size
  | 0 => by intro p hp; simp [st] at hp
  | k + 1 => by
    intro p hp
    rw [st] at hp
    split at hp
    · dsimp only at hp
      split at hp
      · rcases List.mem_append.1 hp with h | h
        · exact st_size s k p h
        · simp only [List.mem_singleton] at h
          subst h
          rw [ByteArray.size_extract]
          omega
      · exact st_size s k p hp
    · exact st_size s k p hp
theorem fin_size (s : ByteArray) : ∀ p ∈ fin s, p.size ≤ s.size := by
  intro p hp
  unfold fin at hp
  split at hp
  · rcases List.mem_append.1 hp with h | h
    · exact st_size s _ p h
    · simp only [List.mem_singleton] at h
      subst h
      rw [ByteArray.size_extract]
      omega
  · exact st_size s _ p hp
theorem split_bd {s : ByteArray} {ws : List ByteArray} (h : split s = some ws) : ws.length ≤ 24 ∧ ∀ p ∈ ws, p.size ≤ 600 := by
  unfold split at h
  split at h
  · cases h
  · rename_i hn
    cases h
    have h1 : ¬ 600 < s.size := fun h => hn (.inl h)
    have h2 : ¬ 24 < (fin s).length := fun h => hn (.inr (.inr h))
    exact ⟨by omega, fun p hp => by have := fin_size s p hp; omega⟩
/-- Each node that is read is valid at its index. -/
theorem read_ok : ∀ (f : Nat) (ws : List SizeM.W) (out o : List El) (r : List SizeM.W), readT f ws out = some (o, r) → (∀ i (h : i < out.length), OkN out[i] (i : Int)) → (∀ i (h : i < o.length), OkN o[i] (i : Int)) ∧ out.length < o.length
  | 0, _, _, _, _, h, _ => by rw [readT] at h; cases h
  | _ + 1, [], _, _, _, h, _ => by rw [readT] at h; cases h
  | f + 1, w :: ws, out, o, r, h, ho => by
    have one : ∀ (l : List El) (x : El), (∀ i (h : i < l.length), OkN l[i] (i : Int)) → OkN x (l.length : Int) → ∀ i (h : i < (l ++ [x]).length), OkN (l ++ [x])[i] (i : Int) := fun l x hl hx i hi => by
      by_cases e : i < l.length
      · rw [List.getElem_append_left e]; exact hl i e
      · rw [List.length_append, List.length_singleton] at hi
        obtain rfl : i = l.length := by omega
        rw [List.getElem_append_right (Nat.le_refl _)]
        simpa using hx
    rw [readT] at h
    split at h
    next hp =>
      cases h
      refine ⟨one _ _ ho ?_, by simp⟩
      have := (parse_yes (s := w) (n := (parseT w).1) (d := (parseT w).2.1) (by rw [← hp])).1
      exact .inl ⟨rfl, rfl, rfl, rfl, this⟩
    next hp =>
      split at h
      next hv =>
        cases h
        refine ⟨one _ _ ho ?_, by simp⟩
        have hb : varOf w ≤ 7 := by
          unfold varOf at hv ⊢
          split
          · split
            · omega
            · omega
          · omega
        exact .inr ⟨rfl, rfl, .inl ⟨rfl, by simp only []; omega, rfl, rfl⟩⟩
      next hv =>
        split at h
        · cases h
        next hk =>
          have hkb := ReadK.kind_or w
          cases e1 : readT f ws out with
          | none => rw [e1] at h; cases h
          | some p1 =>
            obtain ⟨o1, r1⟩ := p1
            rw [e1] at h
            simp only [] at h
            obtain ⟨h1, l1⟩ := read_ok f ws out o1 r1 e1 ho
            cases e2 : readT f r1 o1 with
            | none => rw [e2] at h; cases h
            | some p2 =>
              obtain ⟨o2, r2⟩ := p2
              rw [e2] at h
              simp only [] at h
              obtain ⟨h2, l2⟩ := read_ok f r1 o1 o2 r2 e2 h1
              split at h
              next h9 =>
                cases e3 : readT f r2 o2 with
                | none => rw [e3] at h; cases h
                | some p3 =>
                  obtain ⟨o3, r3⟩ := p3
                  rw [e3] at h
                  simp only [] at h
                  obtain ⟨h3, l3⟩ := read_ok f r2 o2 o3 r3 e3 h2
                  cases h
                  refine ⟨one _ _ h3 (.inr ⟨rfl, rfl, .inr (.inr ⟨rfl, ?_, ?_, ?_⟩)⟩), by simp; omega⟩ <;> simp only [] <;> omega
              next h9 =>
                cases h
                refine ⟨one _ _ h2 (.inr ⟨rfl, rfl, .inr (.inl ⟨?_, ?_, ?_, rfl⟩)⟩), by simp; omega⟩ <;> simp only [] <;> omega
theorem read_okF {f : Nat} {ws : List SizeM.W} {o : List El} {r : List SizeM.W} (h : readT f ws [] = some (o, r)) (hl : ws.length ≤ 24) : okF o = true := by
  obtain ⟨h1, h2⟩ := read_ok f ws [] o r h (fun i hi => by simp at hi)
  have h3 := ReadK.read_len _ _ _ _ _ h
  rw [List.length_nil] at h2 h3
  exact okF_yes ⟨⟨by omega, by omega⟩, fun i hi => okN_yes (h1 i hi)⟩
/-- The formula that a text stands for. -/
noncomputable def parseF (s : ByteArray) : List El × Bool := match split s with
  | none => ([], false)
  | some ws => match readT (ws.length + 1) (dat ws) [] with
    | some (o, []) => if okF o = true then (o, true) else ([], false)
    | _ => ([], false)
theorem parseF_none {s : ByteArray} (h : split s = none) : parseF s = ([], false) := by unfold parseF; rw [h]
theorem parseF_bad {s : ByteArray} {ws : List ByteArray} (h : split s = some ws) (hr : readT (ws.length + 1) (dat ws) [] = none) : parseF s = ([], false) := by unfold parseF; simp only [h, hr]
theorem parseF_more {s : ByteArray} {ws : List ByteArray} {o : List El} {r : List SizeM.W} (h : split s = some ws) (hr : readT (ws.length + 1) (dat ws) [] = some (o, r)) (hne : r ≠ []) : parseF s = ([], false) := by
  unfold parseF
  simp only [h, hr]
  cases r with
  | nil => exact absurd rfl hne
  | cons x r => rfl
theorem parseF_yes {s : ByteArray} {ws : List ByteArray} {o : List El} (h : split s = some ws) (hr : readT (ws.length + 1) (dat ws) [] = some (o, [])) : parseF s = if okF o = true then (o, true) else ([], false) := by unfold parseF; simp only [h, hr]
/-- A result of ParseFormula. -/
def IsForm (R : List El × Bool) (w : World) (e : Ending) (w' : World) : Prop := ∃ p c, e = .returned (.tuple #[.slice p R.1.length c, .bool R.2]) ∧ Owns fc 6 w' w.heap.size T (.slice p R.1.length c) R.1 ∧ Below w.heap.size w w'
end Go.Proofs.YtiogpiopgcbdbaaDoor.ParseM
