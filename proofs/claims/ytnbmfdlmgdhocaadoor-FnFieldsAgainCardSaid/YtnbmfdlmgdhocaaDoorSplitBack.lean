/- The fields of a line, each followed by one space, are the fields of that text. Imports nothing of the dump. -/
import Derived.WalkKit
import Derived.Test.YtnbmfdlmgdhocaaDoorSplitMath
namespace Go.Proofs.YtnbmfdlmgdhocaaDoor.SplitBack
open SplitMath

/-- A field: not empty, its bytes printable and none of them a space. -/
def Good (f : ByteArray) : Prop := 0 < f.size ∧ ∀ i, i < f.size → at_ f i ≠ 32 ∧ okB (at_ f i)
def joinB (p : List ByteArray) : List UInt8 := p.flatMap fun f => f.data.toList ++ [32]
theorem joinB_snoc (p : List ByteArray) (f : ByteArray) : joinB (p ++ [f]) = joinB p ++ f.data.toList ++ [32] := by simp [joinB]

theorem ext_data (s : ByteArray) (a b : Nat) : (s.extract a b).data.toList = (s.data.toList.drop a).take (b - a) := by
  rw [ByteArray.data_extract, Array.toList_extract, List.extract_eq_take_drop]
theorem at_ext (s : ByteArray) (a b i : Nat) (h : a + i < b) (_hb : b ≤ s.size) : at_ (s.extract a b) i = at_ s (a + i) := by
  unfold at_
  rw [ext_data, List.getD_eq_getElem?_getD, List.getD_eq_getElem?_getD, List.getElem?_take, if_pos (by omega), List.getElem?_drop]
theorem size_ext (s : ByteArray) (a b : Nat) (h : a ≤ b) (hb : b ≤ s.size) : (s.extract a b).size = b - a := by rw [ByteArray.size_extract]; omega

/-- Over bytes that are no spaces the state stays. -/
theorem st_run (s : ByteArray) (k : Nat) : ∀ i, (∀ j, j < i → at_ s (k + j) ≠ 32) → st s (k + i) = st s k
  | 0, _ => rfl
  | i + 1, h => by
    rw [show k + (i + 1) = (k + i) + 1 by omega, st, if_neg (h i (by omega))]
    exact st_run s k i fun j hj => h j (by omega)
theorem at_list (s : ByteArray) (l : List UInt8) (h : s.data.toList = l) (k : Nat) : at_ s k = (l.getD k 0).toNat := by unfold at_; rw [h]

theorem st_join (s : ByteArray) : ∀ (n : Nat) (p q : List ByteArray), p.length = n → s.data.toList = joinB (p ++ q) → (∀ f ∈ p, Good f) → st s (joinB p).length = ((joinB p).length, p) := by
  intro n
  induction n with
  | zero => intro p q hp _ _; have : p = [] := List.eq_nil_of_length_eq_zero hp
            subst this; rfl
  | succ n ih =>
    intro p q hp hs hg
    have hne : p ≠ [] := by intro e; subst e; simp at hp
    obtain ⟨p', f, rfl⟩ : ∃ p' f, p = p' ++ [f] := ⟨p.dropLast, p.getLast hne, (List.dropLast_concat_getLast hne).symm⟩
    have hf := hg f (by simp)
    have i1 := ih p' ([f] ++ q) (by simpa using hp) (by rw [hs, List.append_assoc]) (fun x hx => hg x (by simp [hx]))
    have hlist : s.data.toList = joinB p' ++ (f.data.toList ++ ([32] ++ joinB q)) := by
      rw [hs]; simp [joinB]
    obtain ⟨k, hk⟩ : ∃ k, (joinB p').length = k := ⟨_, rfl⟩
    have hfl : f.data.toList.length = f.size := by simp
    have hat : ∀ j, j < f.size → at_ s (k + j) = at_ f j := fun j hj => by
      rw [at_list s _ hlist, List.getD_eq_getElem?_getD, List.getElem?_append_right (by omega), hk, show k + j - k = j by omega, List.getElem?_append_left (by omega)]
      unfold at_
      rw [List.getD_eq_getElem?_getD]
    have hsp : at_ s (k + f.size) = 32 := by
      rw [at_list s _ hlist, List.getD_eq_getElem?_getD, List.getElem?_append_right (by omega), hk, show k + f.size - k = f.size by omega, List.getElem?_append_right (by omega), hfl, Nat.sub_self]
      rfl
    have hrun := st_run s k f.size (fun j hj => by rw [hat j hj]; exact (hf.2 j hj).1)
    have hlen : (joinB (p' ++ [f])).length = (k + f.size) + 1 := by
      rw [joinB_snoc, List.length_append, List.length_append, hk, hfl]; rfl
    rw [hk] at i1
    rw [hlen, st, if_pos hsp, hrun, i1]
    have hpos := hf.1
    show ((k + f.size) + 1, if k < k + f.size then p' ++ [s.extract k (k + f.size)] else p') = _
    rw [if_pos (by omega)]
    have he : s.extract k (k + f.size) = f := by
      apply ByteArray.ext
      apply Array.toList_inj.1
      rw [ext_data, hlist, show k + f.size - k = f.size by omega, ← hk, List.drop_left, ← hfl, List.take_left]
    rw [he]
theorem okB_join (p : List ByteArray) (hg : ∀ f ∈ p, Good f) : ∀ b ∈ joinB p, okB b.toNat := by
  intro b hb
  simp only [joinB, List.mem_flatMap, List.mem_append, List.mem_singleton] at hb
  obtain ⟨f, hf, h | h⟩ := hb
  · obtain ⟨i, hi, rfl⟩ := List.mem_iff_getElem.1 h
    have := ((hg f hf).2 i (by simpa using hi)).2
    unfold at_ at this
    rwa [List.getD_eq_getElem?_getD, List.getElem?_eq_getElem hi] at this
  · subst h; exact ⟨by decide, by decide⟩
/-- Good fields, each followed by a space, are the fields of that text. -/
theorem split_join (s : ByteArray) (p : List ByteArray) (hs : s.data.toList = joinB p) (hg : ∀ f ∈ p, Good f) (hp : p.length ≤ 24) (hz : s.size ≤ 600) : split s = some p := by
  have hl : (joinB p).length = s.size := by rw [← hs]; simp
  have h1 := st_join s p.length p [] rfl (by rw [List.append_nil]; exact hs) hg
  rw [hl] at h1
  have hf : fin s = p := by unfold fin; rw [h1]; exact if_neg (Nat.lt_irrefl _)
  rw [split_some s hz ?_ (by rw [hf]; exact hp), hf]
  intro k hk
  have hk2 : k < (joinB p).length := by omega
  have := okB_join p hg (joinB p)[k] (List.getElem_mem hk2)
  rw [at_list s _ hs, List.getD_eq_getElem?_getD, List.getElem?_eq_getElem hk2]
  exact this

/-- The closed fields are good, and the open one holds no space. -/
theorem st_good (s : ByteArray) (hok : ∀ j, j < s.size → okB (at_ s j)) : ∀ k, k ≤ s.size → (∀ f ∈ (st s k).2, Good f) ∧ (∀ j, (st s k).1 ≤ j → j < k → at_ s j ≠ 32)
  | 0, _ => ⟨by simp [st], fun j _ hj => by omega⟩
  | k + 1, hk => by
    obtain ⟨i1, i2⟩ := st_good s hok k (by omega)
    have hle := (st_le s k).1
    by_cases h : at_ s k = 32
    · rw [st, if_pos h]
      refine ⟨?_, fun j h1 h2 => by have h3 : k + 1 ≤ j := h1; omega⟩
      show ∀ f ∈ (if (st s k).1 < k then (st s k).2 ++ [s.extract (st s k).1 k] else (st s k).2), Good f
      split
      · intro f hf
        rw [List.mem_append, List.mem_singleton] at hf
        rcases hf with hf | rfl
        · exact i1 f hf
        · have hz := size_ext s (st s k).1 k hle (by omega)
          refine ⟨by omega, fun i hi => ?_⟩
          rw [at_ext s _ k i (by omega) (by omega)]
          exact ⟨i2 _ (by omega) (by omega), hok _ (by omega)⟩
      · exact i1
    · rw [st, if_neg h]
      refine ⟨i1, fun j h1 h2 => ?_⟩
      by_cases e : j = k
      · rw [e]; exact h
      · exact i2 j h1 (by omega)
theorem fin_good (s : ByteArray) (hok : ∀ j, j < s.size → okB (at_ s j)) : ∀ f ∈ fin s, Good f := by
  obtain ⟨i1, i2⟩ := st_good s hok s.size (Nat.le_refl _)
  have hle := (st_le s s.size).1
  unfold fin
  split
  · intro f hf
    rw [List.mem_append, List.mem_singleton] at hf
    rcases hf with hf | rfl
    · exact i1 f hf
    · have hz := size_ext s (st s s.size).1 s.size hle (Nat.le_refl _)
      refine ⟨by omega, fun i hi => ?_⟩
      rw [at_ext s _ s.size i (by omega) (Nat.le_refl _)]
      exact ⟨i2 _ (by omega) (by omega), hok _ (by omega)⟩
  · exact i1
theorem st_size (s : ByteArray) : ∀ k, k ≤ s.size → ∀ f ∈ (st s k).2, f.size ≤ s.size
  | 0, _ => by simp [st]
  | k + 1, hk => by
    have ih := st_size s k (by omega)
    unfold st
    split
    · show ∀ f ∈ (if (st s k).1 < k then (st s k).2 ++ [s.extract (st s k).1 k] else (st s k).2), f.size ≤ s.size
      split
      · intro f hf
        rw [List.mem_append, List.mem_singleton] at hf
        rcases hf with hf | rfl
        · exact ih f hf
        · rw [ByteArray.size_extract]; omega
      · exact ih
    · exact ih
/-- What is known of the fields that the function answers. -/
theorem split_facts (s : ByteArray) (p : List ByteArray) (h : split s = some p) : (∀ f ∈ p, Good f) ∧ p.length ≤ 24 ∧ (∀ f ∈ p, f.size ≤ 600) := by
  unfold split at h
  split at h
  · cases h
  · rename_i hn
    simp only [Option.some.injEq] at h
    subst h
    have hsz : s.size ≤ 600 := by
      rcases Nat.lt_or_ge 600 s.size with h | h
      · exact absurd (.inl h) hn
      · exact h
    have hok : ∀ j, j < s.size → okB (at_ s j) := fun j hj => by
      rcases Classical.em (okB (at_ s j)) with h | h
      · exact h
      · exact absurd (.inr (.inl ⟨j, hj, h⟩)) hn
    have h24 : (fin s).length ≤ 24 := by
      rcases Nat.lt_or_ge 24 (fin s).length with h | h
      · exact absurd (.inr (.inr h)) hn
      · exact h
    refine ⟨fin_good s hok, h24, fun f hf => ?_⟩
    unfold fin at hf
    split at hf
    · rw [List.mem_append, List.mem_singleton] at hf
      rcases hf with hf | rfl
      · exact Nat.le_trans (st_size s s.size (Nat.le_refl _) f hf) hsz
      · rw [ByteArray.size_extract]; omega
    · exact Nat.le_trans (st_size s s.size (Nat.le_refl _) f hf) hsz
end Go.Proofs.YtnbmfdlmgdhocaaDoor.SplitBack
