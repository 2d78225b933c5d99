/- The words of the operations as a map's reading, and the kinds by their words: plain mathematics. Imports nothing of the dump. -/
import Derived.Test.YtiogpiopgcbdbaaDoorReadK
import Derived.Maps.RangeWalk
import Derived.Maps.OwnSet
namespace Go.Proofs.YtiogpiopgcbdbaaDoor.MapM
open TNode NodeMath FracMath FracTxM NumMath SizeM ReadM Go.Maps
abbrev DU : Type := DataW Unit
abbrev kI (k : Int) : Lit := .int .i64 k
abbrev kS (l : List UInt8) : Lit := .string l
abbrev vI (k : Int) : DU := .lit (.int .i64 k)
abbrev vS (l : List UInt8) : DU := .lit (.string l)
def D0 : DU := .map []
def D1 : DU := D0.put (kI 3) (vS [43])
def D2 : DU := D1.put (kI 4) (vS [45])
def D3 : DU := D2.put (kI 5) (vS [42])
def D4 : DU := D3.put (kI 6) (vS [47])
def D5 : DU := D4.put (kI 7) (vS [109, 105, 110])
def D6 : DU := D5.put (kI 8) (vS [109, 97, 120])
def Dw : DU := D6.put (kI 9) (vS [112, 105, 99, 107])
theorem Dw_at {k : Int} (h : 3 ≤ k ∧ k ≤ 9) (z : DU) : Dw.atKey (kI k) z = vS (nameW k) := by
  have hk : k = 3 ∨ k = 4 ∨ k = 5 ∨ k = 6 ∨ k = 7 ∨ k = 8 ∨ k = 9 := by omega
  rcases hk with rfl | rfl | rfl | rfl | rfl | rfl | rfl <;> rfl
theorem Dw_size : size Dw = 7 := rfl
theorem Dw_in {k : Int} (h : 3 ≤ k ∧ k ≤ 9) : has Dw (kI k) = true := by
  have hk : k = 3 ∨ k = 4 ∨ k = 5 ∨ k = 6 ∨ k = 7 ∨ k = 8 ∨ k = 9 := by omega
  rcases hk with rfl | rfl | rfl | rfl | rfl | rfl | rfl <;> rfl
theorem Dw_has {kl : Lit} (h : has Dw kl = true) : ∃ k, 3 ≤ k ∧ k ≤ 9 ∧ kl = kI k := by
  by_cases h9 : kl = kI 9
  · exact ⟨9, by omega, by omega, h9⟩
  rw [Dw, has_put_other h9] at h
  by_cases h8 : kl = kI 8
  · exact ⟨8, by omega, by omega, h8⟩
  rw [D6, has_put_other h8] at h
  by_cases h7 : kl = kI 7
  · exact ⟨7, by omega, by omega, h7⟩
  rw [D5, has_put_other h7] at h
  by_cases h6 : kl = kI 6
  · exact ⟨6, by omega, by omega, h6⟩
  rw [D4, has_put_other h6] at h
  by_cases h5 : kl = kI 5
  · exact ⟨5, by omega, by omega, h5⟩
  rw [D3, has_put_other h5] at h
  by_cases h4 : kl = kI 4
  · exact ⟨4, by omega, by omega, h4⟩
  rw [D2, has_put_other h4] at h
  by_cases h3 : kl = kI 3
  · exact ⟨3, by omega, by omega, h3⟩
  rw [D1, has_put_other h3] at h
  cases h
/-- The kinds of the words that have come. -/
structure Kd (D : DU) (left : Lit → Bool) : Prop where
  val : ∀ s : List UInt8, D.atKey (kS s) (vI 0) = vI (if kindOf s ≠ 0 ∧ left (kI (kindOf s)) = false then kindOf s else 0)
  here : ∀ s : List UInt8, has D (kS s) = decide (kindOf s ≠ 0 ∧ left (kI (kindOf s)) = false)
theorem Kd.start : Kd D0 (has Dw) := by
  have h : ∀ s : List UInt8, ¬ (kindOf s ≠ 0 ∧ has Dw (kI (kindOf s)) = false) := fun s h => by
    have := Dw_in (k := kindOf s) (by rcases ReadK.kind_or s with e | e; · exact absurd e h.1
                                      · exact e)
    rw [this] at h
    cases h.2
  exact ⟨fun s => by rw [if_neg (h s)]; rfl, fun s => by rw [decide_eq_false (h s)]; rfl⟩
theorem Kd.step {D : DU} {left : Lit → Bool} (h : Kd D left) (hD : IsMap D) {x : Int} (hx : 3 ≤ x ∧ x ≤ 9) : Kd (D.put (kS (nameW x)) (vI x)) (fun z => left z && !z.sameKey (kI x)) := by
  have hk : kindOf (nameW x) = x := kind_name hx
  have hs : (kI x).sameKey (kI x) = true := WideAt.sameKey_self trivial
  have key : ∀ s : List UInt8, s ≠ nameW x → (kindOf s ≠ 0 ∧ (left (kI (kindOf s)) && !(kI (kindOf s)).sameKey (kI x)) = false ↔ kindOf s ≠ 0 ∧ left (kI (kindOf s)) = false) := fun s hne => by
    by_cases h0 : kindOf s = 0
    · simp [h0]
    · have : kI (kindOf s) ≠ kI x := fun e => hne (by
        have e' : kindOf s = x := by injection e
        rw [← ReadK.name_kind s h0, e'])
      rw [sameKey_ne this]
      simp
  refine ⟨fun s => ?_, fun s => ?_⟩
  · by_cases e : s = nameW x
    · subst e
      rw [atKey_put_same hD (show WideAt.IsKeyLit (kS (nameW x)) from trivial), hk, hs, if_pos ⟨by omega, by simp⟩]
    · rw [atKey_put_other (fun h => e (by injection h)), h.val s]
      by_cases hA : kindOf s ≠ 0 ∧ left (kI (kindOf s)) = false
      · rw [if_pos hA, if_pos ((key s e).2 hA)]
      · rw [if_neg hA, if_neg (fun h => hA ((key s e).1 h))]
  · by_cases e : s = nameW x
    · subst e
      rw [has_put_same hD (show WideAt.IsKeyLit (kS (nameW x)) from trivial), hk, hs]
      exact (decide_eq_true ⟨by omega, by simp⟩).symm
    · rw [has_put_other (fun h => e (by injection h)), h.here s]
      exact decide_eq_decide.2 (key s e).symm
/-- All kinds by their words. -/
structure KD (D : DU) : Prop where
  val : ∀ s : List UInt8, D.atKey (kS s) (vI 0) = vI (kindOf s)
  here : ∀ s : List UInt8, has D (kS s) = decide (kindOf s ≠ 0)
theorem Kd.done {D : DU} {left : Lit → Bool} (h : Kd D left) (hl : ∀ kl, left kl = false) : KD D := by
  refine ⟨fun s => ?_, fun s => ?_⟩
  · rw [h.val s]
    by_cases h0 : kindOf s = 0
    · rw [if_neg (fun e => e.1 h0), h0]
    · rw [if_pos ⟨h0, hl _⟩]
  · rw [h.here s]
    exact decide_eq_decide.2 ⟨fun e => e.1, fun e => ⟨e, hl _⟩⟩
end Go.Proofs.YtiogpiopgcbdbaaDoor.MapM
