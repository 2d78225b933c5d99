/- One word of a formula, and a node by its operands in order: plain mathematics. -/
import Derived.Test.YtiogpiopgcbdbaaDoorReadK
import Derived.Test.YtiogpiopgcbdbaaDoorOpsM
namespace Go.Proofs.YtiogpiopgcbdbaaDoor.WordM
open TNode NodeMath FracMath FracTxM NumMath NumParse NumBack HexMath SizeM ReadM OpsM
def numV (t : SizeM.W) : Int := match pU t with | some n => (n : Int) | none => 0
def okV (t : SizeM.W) : Bool := match pU t with | some _ => true | none => false
def okW (t : SizeM.W) : Bool := okV t && decide (numV t < 8)
/-- The node of a word, still without operands. -/
def readW (w : SizeM.W) : El × Bool :=
  if kindOf w ≠ 0 then (⟨kindOf w, 0, 0, 0, 0, 0⟩, true)
  else if w.head? = some 118 then (⟨2, numV w.tail, 0, 0, 0, 0⟩, okW w.tail)
  else (⟨1, 0, 0, 0, (parseT w).1, (parseT w).2.1⟩, (parseT w).2.2)
theorem head_frac (n d : Int) : (fracT n d).head? ≠ some 118 := by
  have hf : ∀ r, (fmt n ++ r).head? ≠ some 118 := fun r e => by
    unfold fmt at e
    split at e
    · exact absurd e (by simp)
    · split at e
      · exact absurd e (by simp)
      · obtain ⟨_, hd⟩ := dg_back n.natAbs n.natAbs (Nat.le_refl _)
        rw [dg_pos n.natAbs (by omega)] at e hd
        cases hc : dg (n.natAbs / 10) with
        | nil =>
          rw [hc] at e hd
          simp only [List.nil_append, List.cons_append, List.head?_cons, Option.some.injEq] at e
          rw [e] at hd
          exact absurd hd (by decide)
        | cons b t =>
          rw [hc] at e hd
          simp only [List.cons_append, List.head?_cons, Option.some.injEq] at e
          subst e
          simp only [List.cons_append, List.all_cons, Bool.and_eq_true] at hd
          exact absurd hd.1 (by decide)
  unfold fracT
  split
  · split
    · have := hf []; rwa [List.append_nil] at this
    · rw [List.append_assoc]; exact hf _
  · simp
theorem parse_v {w : SizeM.W} (h : w.head? = some 118) : (parseT w).2.2 = false := by
  rw [parse_no (fun n d _ e => head_frac n d (by rw [e]; exact h))]
theorem var_head {w : SizeM.W} (h : w.head? ≠ some 118) : varOf w < 0 := by
  unfold varOf
  split
  · rename_i a c
    rw [if_neg]
    · omega
    · rintro ⟨rfl, _⟩
      exact h rfl
  · omega
theorem kind_v {w : SizeM.W} (h : w.head? = some 118) : kindOf w = 0 := by
  rcases ReadK.kind_or w with h0 | h0
  · exact h0
  · have e := ReadK.name_kind w (by omega)
    have hk : kindOf w = 3 ∨ kindOf w = 4 ∨ kindOf w = 5 ∨ kindOf w = 6 ∨ kindOf w = 7 ∨ kindOf w = 8 ∨ kindOf w = 9 := by omega
    rcases hk with k | k | k | k | k | k | k <;> (rw [k] at e; rw [← e] at h; exact absurd h (by decide))
theorem var_num {t : SizeM.W} : (okW t = true ∧ varOf (118 :: t) = numV t ∧ 0 ≤ numV t) ∨ (okW t = false ∧ varOf (118 :: t) < 0) := by
  unfold okW okV numV
  cases hp : pU t with
  | none =>
    refine .inr ⟨rfl, ?_⟩
    refine ReadK.var_no ?_
    rintro ⟨c, e, h1, h2⟩
    obtain ⟨k, rfl⟩ : ∃ k, c = 48 + k := ⟨c - 48, by omega⟩
    injection e with _ e
    have := pU_fmt (k : Int)
    rw [fmt_digit k (by omega), ← e, hp, if_pos (by omega)] at this
    cases this
  | some n =>
    simp only [Bool.true_and]
    have hp' := hp
    unfold pU at hp
    split at hp
    next h =>
      obtain rfl := Option.some.inj hp
      have hf := fmt_vd t h.1 h.2.1
      by_cases h8 : vd t < 8
      · refine .inl ⟨decide_eq_true (by omega), ?_, by omega⟩
        rw [← hf]
        have := (parse_var (vd t) h8).2
        rw [hf] at this ⊢
        exact this
      · refine .inr ⟨decide_eq_false (by omega), ReadK.var_no ?_⟩
        rintro ⟨c, e, h1, h2⟩
        obtain ⟨k, rfl⟩ : ∃ k, c = 48 + k := ⟨c - 48, by omega⟩
        injection e with _ e
        have := pU_fmt (k : Int)
        rw [fmt_digit k (by omega), ← e, hp', if_pos (by omega)] at this
        have := Option.some.inj this
        omega
    next => cases hp
/-- The operands from the j-th on, nn of them. -/
def aft (x : El) (nn : Nat) (f : Nat) (j : Nat) (A B C : Int) (o : List El) (r : List SizeM.W) : Option (List El × List SizeM.W) :=
  if h : j < nn then match readT f r o with
    | none => none
    | some (o', r') => aft x nn f (j + 1) (if j = 0 then (o'.length : Int) - 1 else A) (if j = 1 then (o'.length : Int) - 1 else B) (if 2 ≤ j then (o'.length : Int) - 1 else C) o' r'
  else some (o ++ [⟨x.Kind, A, B, C, x.Value_Num, x.Value_Den⟩], r)
termination_by nn - j
decreasing_by omega
theorem aft_none {x : El} {nn f j : Nat} {A B C : Int} {o : List El} {r : List SizeM.W} (h : j < nn) (e : readT f r o = none) : aft x nn f j A B C o r = none := by rw [aft, dif_pos h, e]
theorem aft_some {x : El} {nn f j : Nat} {A B C : Int} {o o' : List El} {r r' : List SizeM.W} (h : j < nn) (e : readT f r o = some (o', r')) : aft x nn f j A B C o r = aft x nn f (j + 1) (if j = 0 then (o'.length : Int) - 1 else A) (if j = 1 then (o'.length : Int) - 1 else B) (if 2 ≤ j then (o'.length : Int) - 1 else C) o' r' := by rw [aft, dif_pos h, e]
theorem aft_end {x : El} {nn f j : Nat} {A B C : Int} {o : List El} {r : List SizeM.W} (h : ¬ j < nn) : aft x nn f j A B C o r = some (o ++ [⟨x.Kind, A, B, C, x.Value_Num, x.Value_Den⟩], r) := by rw [aft, dif_neg h]
theorem aft_after {k : Int} {nn : Nat} (hn : ∀ j, j < nn ↔ (j < 2 ∨ (j < 3 ∧ k = 9))) : ∀ (m f j : Nat) (A B C : Int) (o : List El) (r : List SizeM.W), nn - j ≤ m → aft ⟨k, 0, 0, 0, 0, 0⟩ nn f j A B C o r = ReadK.after k f j A B C o r
  | 0, f, j, A, B, C, o, r, h => by rw [aft_end (by omega), ReadK.after_end (fun e => by have := (hn j).2 e; omega)]
  | m + 1, f, j, A, B, C, o, r, h => by
    by_cases hj : j < nn
    · cases e : readT f r o with
      | none => rw [aft_none hj e, ReadK.after_none ((hn j).1 hj) e]
      | some p =>
        obtain ⟨o', r'⟩ := p
        rw [aft_some hj e, ReadK.after_some ((hn j).1 hj) e]
        exact aft_after hn m f (j + 1) _ _ _ o' r' (by omega)
    · rw [aft_end hj, ReadK.after_end (fun e => hj ((hn j).2 e))]
theorem read_no {f : Nat} {w : SizeM.W} {r : List SizeM.W} {out : List El} (h : (readW w).2 = false) : readT (f + 1) (w :: r) out = none := by
  unfold readW at h
  by_cases hk : kindOf w = 0
  · rw [if_neg (by simp [hk])] at h
    by_cases hv : w.head? = some 118
    · rw [if_pos hv] at h
      obtain ⟨t, rfl⟩ : ∃ t, w = 118 :: t := by
        cases w with
        | nil => cases hv
        | cons a t => simp only [List.head?_cons, Option.some.injEq] at hv; subst hv; exact ⟨t, rfl⟩
      simp only [List.tail_cons] at h
      rcases var_num (t := t) with e | e
      · rw [h] at e; cases e.1
      · rw [readT, if_neg (by rw [parse_v hv]; simp), if_neg (by omega), if_pos hk]
    · rw [if_neg hv] at h
      simp only [] at h
      rw [readT, if_neg (by rw [h]; simp), if_neg (by have := var_head hv; omega), if_pos hk]
  · rw [if_pos hk] at h
    cases h
theorem read_aft {f : Nat} {w : SizeM.W} {r : List SizeM.W} {out : List El} {x : El} (h : readW w = (x, true)) : readT (f + 1) (w :: r) out = aft x (opsL x).length f 0 x.A x.B x.C out r ∧ 1 ≤ x.Kind ∧ x.Kind ≤ 9 := by
  unfold readW at h
  by_cases hk : kindOf w = 0
  · rw [if_neg (by simp [hk])] at h
    by_cases hv : w.head? = some 118
    · rw [if_pos hv] at h
      obtain ⟨t, rfl⟩ : ∃ t, w = 118 :: t := by
        cases w with
        | nil => cases hv
        | cons a t => simp only [List.head?_cons, Option.some.injEq] at hv; subst hv; exact ⟨t, rfl⟩
      simp only [List.tail_cons] at h
      obtain ⟨rfl, h2⟩ := Prod.mk.inj h
      rcases var_num (t := t) with e | e
      · rw [readT, if_neg (by rw [parse_v hv]; simp), if_pos (by omega), e.2.1]
        refine ⟨?_, by simp, by simp⟩
        rw [show (opsL (⟨2, numV t, 0, 0, 0, 0⟩ : El)).length = 0 from rfl, aft_end (by omega)]
      · rw [h2] at e; cases e.1
    · rw [if_neg hv] at h
      obtain ⟨rfl, h2⟩ := Prod.mk.inj h
      rw [readT, if_pos h2]
      refine ⟨?_, by simp, by simp⟩
      rw [show (opsL (⟨1, 0, 0, 0, (parseT w).1, (parseT w).2.1⟩ : El)).length = 0 from rfl, aft_end (by omega)]
  · rw [if_pos hk] at h
    obtain ⟨rfl, _⟩ := Prod.mk.inj h
    have hb := ReadK.kind_or w
    have hk3 : 3 ≤ kindOf w ∧ kindOf w ≤ 9 := by omega
    have e := ReadK.name_kind w hk
    have hp : (parseT w).2.2 = false := by rw [← e]; exact parse_name hk3
    have hvv : varOf w < 0 := by rw [← e, var_name hk3]; omega
    refine ⟨?_, by simp only []; omega, by simp only []; omega⟩
    rw [ReadK.read_after hp hvv hk]
    refine (aft_after (fun j => ?_) _ f 0 0 0 0 out r (Nat.le_refl _)).symm
    unfold opsL
    simp only []
    rw [if_neg (by omega)]
    by_cases h9 : kindOf w = 9
    · rw [if_pos h9]; simp; omega
    · rw [if_neg h9]; simp; omega
end Go.Proofs.YtiogpiopgcbdbaaDoor.WordM
