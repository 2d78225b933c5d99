/- A formula's text stands for a formula of the same text and the same value: plain mathematics. -/
import Derived.Test.YtiogpiopgcbdbaaGreatDoorNine
import Derived.Test.YtiogpiopgcbdbaaGreatDoorFracTxS
namespace Go.Proofs.YtiogpiopgcbdbaaGreatDoor.FormB
open TNode NodeMath FracMath FracTxM SizeM ReadM SplitMath ParseM
/-- What is read with much fuel is read with a step for each word. -/
theorem read_enough : ∀ (f : Nat) (ws : List SizeM.W) (out o : List El) (r : List SizeM.W), readT f ws out = some (o, r) → r.length < ws.length ∧ ∀ g, ws.length ≤ g + r.length → readT g ws out = some (o, r)
  | 0, _, _, _, _, h => by rw [readT] at h; cases h
  | _ + 1, [], _, _, _, h => by rw [readT] at h; cases h
  | f + 1, w :: ws, out, o, r, h => by
    have up : ∀ {r : List SizeM.W} {g : Nat}, r.length ≤ ws.length → (w :: ws).length ≤ g + r.length → ∃ k, g = k + 1 ∧ ws.length ≤ k + r.length := fun {r g} h1 h2 => by
      rw [List.length_cons] at h2
      exact ⟨g - 1, by omega, by omega⟩
    rw [readT] at h
    split at h
    next hp =>
      cases h
      refine ⟨by simp, fun g hg => ?_⟩
      obtain ⟨k, rfl, hk⟩ := up (Nat.le_refl _) hg
      rw [readT, if_pos hp]
    next hp =>
      split at h
      next hv =>
        cases h
        refine ⟨by simp, fun g hg => ?_⟩
        obtain ⟨k, rfl, hk⟩ := up (Nat.le_refl _) hg
        rw [readT, if_neg hp, if_pos hv]
      next hv =>
        split at h
        · cases h
        next h0 =>
          cases e1 : readT f ws out with
          | none => rw [e1] at h; cases h
          | some p1 =>
            obtain ⟨o1, r1⟩ := p1
            rw [e1] at h
            simp only [] at h
            obtain ⟨l1, g1⟩ := read_enough f ws out o1 r1 e1
            cases e2 : readT f r1 o1 with
            | none => rw [e2] at h; cases h
            | some p2 =>
              obtain ⟨o2, r2⟩ := p2
              rw [e2] at h
              simp only [] at h
              obtain ⟨l2, g2⟩ := read_enough f r1 o1 o2 r2 e2
              split at h
              next h9 =>
                cases e3 : readT f r2 o2 with
                | none => rw [e3] at h; cases h
                | some p3 =>
                  obtain ⟨o3, r3⟩ := p3
                  rw [e3] at h
                  simp only [] at h
                  obtain ⟨l3, g3⟩ := read_enough f r2 o2 o3 r3 e3
                  cases h
                  refine ⟨by rw [List.length_cons]; omega, fun g hg => ?_⟩
                  obtain ⟨k, rfl, hk⟩ := up (by omega) hg
                  rw [readT, if_neg hp, if_neg hv, if_neg h0, g1 k (by omega)]
                  simp only []
                  rw [g2 k (by omega)]
                  simp only []
                  rw [if_pos h9, g3 k (by omega)]
              next h9 =>
                cases h
                refine ⟨by rw [List.length_cons]; omega, fun g hg => ?_⟩
                obtain ⟨k, rfl, hk⟩ := up (by omega) hg
                rw [readT, if_neg hp, if_neg hv, if_neg h0, g1 k (by omega)]
                simp only []
                rw [g2 k (by omega)]
                simp only []
                rw [if_neg h9]
theorem dat_bstr (ws : List SizeM.W) : dat (ws.map ReadB.bstr) = ws := by
  unfold dat
  rw [List.map_map]
  refine (List.map_congr_left fun x _ => ?_).trans (List.map_id ws)
  exact ReadB.bstr_data x
/-- The formula that a formula's text stands for. -/
theorem form_back {l : List El} (hl : OkF l) (h24 : (words l (l.length - 1)).length ≤ 24) : ∃ U : List El, parseF (FracTxS.str (textF l)) = (U, true) ∧ U.length = (words l (l.length - 1)).length ∧ textF U = textF l ∧ ∀ vs v, evalAll l vs = (v, true) → evalL U vs = evalL l vs := by
  have h1 := hl.1.1
  have e1 := okF_yes hl
  obtain ⟨U, hr, hU, hlen, hw, hv⟩ := ReadB.read_back hl h24
  have e2 := okF_yes hU
  have ht : textF l = joinW (words l (l.length - 1)) := by unfold textF; rw [if_pos ⟨e1, h24⟩]
  refine ⟨U, ?_, hlen, ?_, hv⟩
  · have hs : split (FracTxS.str (textF l)) = some ((words l (l.length - 1)).map ReadB.bstr) := by
      rw [ht]
      exact ReadB.text_split hl (by omega) h24
    have hg := (read_enough _ _ _ _ _ hr).2 ((words l (l.length - 1)).length + 1) (by simp)
    rw [parseF_yes hs (by rw [dat_bstr, List.length_map]; exact hg), if_pos e2]
  · rw [ht]
    unfold textF
    rw [hw, if_pos ⟨e2, h24⟩]
/-- A valid formula's text is short. -/
theorem text_le (l : List El) : (textF l).length ≤ 1000 := by
  unfold textF
  split
  next h =>
    obtain ⟨h1, h2⟩ := h
    have hl := okF_of h1
    have h3 := hl.1.1
    have hk : l.length - 1 < l.length := by omega
    obtain ⟨_, hg⟩ := ReadB.words_good hl (l.length - 1 + 1) (l.length - 1) (by omega) hk
    have hp := words_pos (l := l) hk
    unfold words at h2 hp ⊢
    have hne : wordsF l (l.length - 1 + 1) (l.length - 1) ≠ [] := List.length_pos_iff.1 (by omega)
    have := ReadB.join_lenS _ hne
    omega
  next => simp
/-- A valid formula's text is empty and its size 25, or its text stands for a formula of as many nodes as its size says. -/
theorem two {l : List El} (hl : OkF l) : (sizeF l = 25 ∧ textF l = []) ∨ ∃ U : List El, sizeF l = (U.length : Int) ∧ U.length ≤ 24 ∧ parseF (FracTxS.str (textF l)) = (U, true) ∧ textF U = textF l ∧ ∀ vs v, evalAll l vs = (v, true) → evalL U vs = evalL l vs := by
  have h1 := hl.1.1
  have e1 := okF_yes hl
  have hz : sizeF l = sz l (l.length - 1) := by unfold sizeF; rw [if_pos e1]
  by_cases h24 : (words l (l.length - 1)).length ≤ 24
  · obtain ⟨U, a1, a2, a3, a4⟩ := form_back hl h24
    exact .inr ⟨U, by rw [hz, a2]; unfold sz; omega, by omega, a1, a3, a4⟩
  · refine .inl ⟨by rw [hz]; unfold sz; omega, ?_⟩
    unfold textF
    rw [if_neg (fun h => h24 h.2)]
/-- Where the first formula has a value, the second has the same. -/
theorem same_value {l U : List El} {vs : List Fr} {x y : Int} (h : ∀ vs v, evalAll l vs = (v, true) → evalL U vs = evalL l vs) (he : evalL l vs = (x, y, true)) : evalL U vs = (x, y, true) := by
  obtain ⟨⟨v, b⟩, hv⟩ : ∃ V, evalAll l vs = V := ⟨_, rfl⟩
  cases b with
  | true => rw [h vs v hv, he]
  | false => unfold evalL at he; rw [hv] at he; cases he
end Go.Proofs.YtiogpiopgcbdbaaGreatDoor.FormB
