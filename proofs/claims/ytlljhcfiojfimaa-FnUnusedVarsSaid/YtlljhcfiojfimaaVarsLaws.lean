/- A variable that a formula does not use does not change its value: plain mathematics. -/
import Derived.Test.YtlljhcfiojfimaaVarsMath
namespace Go.Proofs.Ytlljhcfiojfimaa.VarsLaws
open TNode NodeMath FracMath VarsMath
theorem set_true {s : List Bool} {i j : Nat} (h : s.getD j false = true) : (s.set i true).getD j false = true := by
  by_cases e : i = j
  · subst e
    have hl : i < s.length := by
      rcases Nat.lt_or_ge i s.length with h1 | h1
      · exact h1
      · simp [h1] at h
    simp [hl]
  · simpa [List.getElem?_set_ne e] using h
theorem set_here {s : List Bool} {i : Nat} (h : i < s.length) : (s.set i true).getD i false = true := by simp [h]
theorem set_other {s : List Bool} {i j : Nat} (h : i ≠ j) : (s.set i true).getD j false = s.getD j false := by simp [List.getElem?_set_ne h]
/-- What a needed node's kind asks of the state. -/
structure Cl (n : El) (s : List Bool × List Bool) : Prop where
  var : n.Kind = 2 → s.1.getD n.A.toNat false = true
  two : n.Kind ≠ 1 → n.Kind ≠ 2 → s.2.getD n.A.toNat false = true ∧ s.2.getD n.B.toNat false = true
  pick : n.Kind = 9 → s.2.getD n.C.toNat false = true
theorem step_mono (n : El) (i : Nat) (s : List Bool × List Bool) : (∀ j, s.1.getD j false = true → (stepV n i s).1.getD j false = true) ∧ (∀ j, s.2.getD j false = true → (stepV n i s).2.getD j false = true) := by
  unfold stepV setB
  split
  · exact ⟨fun _ h => h, fun _ h => h⟩
  · split
    · exact ⟨fun j h => set_true h, fun _ h => h⟩
    · split
      · exact ⟨fun _ h => h, fun j h => set_true (set_true (set_true h))⟩
      · exact ⟨fun _ h => h, fun j h => set_true (set_true h)⟩
theorem Cl.mono {n : El} {s : List Bool × List Bool} (h : Cl n s) (m : El) (i : Nat) : Cl n (stepV m i s) :=
  ⟨fun e => (step_mono m i s).1 _ (h.var e), fun e1 e2 => ⟨(step_mono m i s).2 _ (h.two e1 e2).1, (step_mono m i s).2 _ (h.two e1 e2).2⟩, fun e => (step_mono m i s).2 _ (h.pick e)⟩
/-- A step at a node sets needs below it alone. -/
theorem step_above {n : El} {i : Nat} {s : List Bool × List Bool} (hn : OkN n (i : Int)) {j : Nat} (hj : i ≤ j) : (stepV n i s).2.getD j false = s.2.getD j false := by
  unfold stepV setB
  split
  · rfl
  next h1 =>
    split
    · rfl
    next h2 =>
      have hab : (0 ≤ n.A ∧ n.A < (i : Int)) ∧ (0 ≤ n.B ∧ n.B < (i : Int)) := by
        rcases hn with h | ⟨_, _, h | h | h⟩
        · exact absurd (.inr h.1) h1
        · exact absurd h.1 h2
        · exact ⟨h.2.1, h.2.2.1⟩
        · exact ⟨h.2.1, h.2.2.1⟩
      split
      next h9 =>
        have hc : 0 ≤ n.C ∧ n.C < (i : Int) := by
          rcases hn with h | ⟨_, _, h | h | h⟩
          · exact absurd (.inr h.1) h1
          · exact absurd h.1 h2
          · have := h.1; omega
          · exact h.2.2.2
        simp only [set_other (show n.C.toNat ≠ j by omega), set_other (show n.B.toNat ≠ j by omega), set_other (show n.A.toNat ≠ j by omega)]
      next => simp only [set_other (show n.B.toNat ≠ j by omega), set_other (show n.A.toNat ≠ j by omega)]
theorem step_cl {n : El} {i : Nat} {s : List Bool × List Bool} (hn : OkN n (i : Int)) (h1 : s.1.length = 8) (h2 : i < s.2.length) (hi : s.2.getD i false = true) : Cl n (stepV n i s) := by
  unfold stepV setB
  by_cases k1 : n.Kind = 1
  · rw [if_pos (.inr k1)]
    exact ⟨fun e => by omega, fun e => absurd k1 e, fun e => by omega⟩
  rw [if_neg (by rw [hi]; simp [k1])]
  by_cases k2 : n.Kind = 2
  · rw [if_pos k2]
    have ha : 0 ≤ n.A ∧ n.A ≤ 7 := by
      rcases hn with h | ⟨_, _, h | h | h⟩
      · exact absurd h.1 k1
      · exact h.2.1
      · have := h.1; omega
      · have := h.1; omega
    exact ⟨fun _ => set_here (by omega), fun _ e => absurd k2 e, fun e => by omega⟩
  rw [if_neg k2]
  have hab : (0 ≤ n.A ∧ n.A < (i : Int)) ∧ (0 ≤ n.B ∧ n.B < (i : Int)) := by
    rcases hn with h | ⟨_, _, h | h | h⟩
    · exact absurd h.1 k1
    · exact absurd h.1 k2
    · exact ⟨h.2.1, h.2.2.1⟩
    · exact ⟨h.2.1, h.2.2.1⟩
  by_cases k9 : n.Kind = 9
  · rw [if_pos k9]
    have hc : 0 ≤ n.C ∧ n.C < (i : Int) := by
      rcases hn with h | ⟨_, _, h | h | h⟩
      · exact absurd h.1 k1
      · exact absurd h.1 k2
      · have := h.1; omega
      · exact h.2.2.2
    exact ⟨fun e => absurd e k2, fun _ _ => ⟨set_true (set_true (set_here (by omega))), set_true (set_here (by simp; omega))⟩, fun _ => set_here (by simp; omega)⟩
  · rw [if_neg k9]
    exact ⟨fun e => absurd e k2, fun _ _ => ⟨set_true (set_here (by omega)), set_here (by simp; omega)⟩, fun e => absurd e k9⟩
theorem run_cl {l : List El} (hl : OkF l) : ∀ j, j ≤ l.length → ∀ i (hi : i < l.length), l.length ≤ i + j → (runV l j).2.getD i false = true → Cl l[i] (runV l j)
  | 0, _, i, hi, h, _ => by omega
  | j + 1, hj, i, hi, h, hn => by
    have hk : l.length - 1 - j < l.length := by omega
    rw [runV, dif_pos hk] at hn ⊢
    obtain ⟨hl1, hl2⟩ := runV_len l j
    have hok := okN_of (hl.2 _ hk)
    rw [step_above hok (show l.length - 1 - j ≤ i by omega)] at hn
    by_cases e : i = l.length - 1 - j
    · subst e
      exact step_cl hok hl1 (by omega) hn
    · exact (run_cl hl j (by omega) i hi (by omega) hn).mono _ _
theorem run_last {l : List El} (hl : 1 ≤ l.length) : ∀ j, (runV l j).2.getD (l.length - 1) false = true
  | 0 => by rw [runV]; exact set_here (by simp; omega)
  | j + 1 => by
    rw [runV]
    split
    · exact (step_mono _ _ _).2 _ (run_last hl j)
    · exact run_last hl j
/-- The values of the first nodes, one by one. -/
theorem eval_at {l : List El} {vs : List Fr} : ∀ {j : Nat} {v : List Fr} (hj : j ≤ l.length) (_ : evalTo l vs j = some v) (i : Nat) (hi : i < j) (hv : i < v.length), valN (l[i]'(by omega)) (v.take i) vs = (v[i].Num, v[i].Den, true)
  | 0, v, _, _, i, hi, _ => by omega
  | j + 1, v, hj, h, i, hi, hv => by
    have h0 := h
    rw [evalTo] at h
    cases e : evalTo l vs j with
    | none => rw [e] at h; cases h
    | some u =>
      rw [e] at h
      simp only [dif_pos (Nat.lt_of_succ_le hj)] at h
      have hu := evalTo_len (show j ≤ l.length by omega) e
      split at h
      next hk =>
        obtain rfl := Option.some.inj h
        by_cases e1 : i < j
        · have := eval_at (show j ≤ l.length by omega) e i e1 (by omega)
          rw [List.take_append_of_le_length (by omega), List.getElem_append_left (by omega)]
          exact this
        · have e2 : i = j := by omega
          subst e2
          have e3 : (u ++ [(⟨(valN (l[i]'(by omega)) u vs).1, (valN (l[i]'(by omega)) u vs).2.1⟩ : Fr)]).take i = u := by rw [List.take_append_of_le_length (by omega), List.take_of_length_le (by omega)]
          rw [e3]
          have e4 : (u ++ [(⟨(valN (l[i]'(by omega)) u vs).1, (valN (l[i]'(by omega)) u vs).2.1⟩ : Fr)])[i] = ⟨(valN (l[i]'(by omega)) u vs).1, (valN (l[i]'(by omega)) u vs).2.1⟩ := by simp [← hu]
          rw [e4, ← hk]
      next => cases h
theorem at0_take {v : List Fr} {i : Nat} {a : Int} (h : 0 ≤ a ∧ a < (i : Int)) : at0 (v.take i) a = at0 v a := by
  unfold at0
  rw [List.getD_eq_getElem?_getD, List.getD_eq_getElem?_getD, List.getElem?_take_of_lt (by omega)]
theorem at0_set {vs : List Fr} {k : Nat} {f : Fr} {a : Int} (h : a.toNat ≠ k) : at0 (vs.set k f) a = at0 vs a := by
  unfold at0
  rw [List.getD_eq_getElem?_getD, List.getD_eq_getElem?_getD, List.getElem?_set_ne (fun e => h e.symm)]
/-- Needed nodes have the same value, whatever an unused variable is. -/
theorem agree {l : List El} (hl : OkF l) {vs v v' : List Fr} {k : Nat} {f : Fr} (hk : (runV l l.length).1.getD k false = false) (h : evalTo l vs l.length = some v) (h' : evalTo l (vs.set k f) l.length = some v') :
    ∀ (i : Nat), i < l.length → (runV l l.length).2.getD i false = true → at0 v (i : Int) = at0 v' (i : Int) := by
  intro i
  induction i using Nat.strongRecOn with
  | _ i ih =>
    intro hi hn
    have hv := evalTo_len (Nat.le_refl _) h
    have hv' := evalTo_len (Nat.le_refl _) h'
    have e1 := eval_at (Nat.le_refl _) h i hi (by omega)
    have e2 := eval_at (Nat.le_refl _) h' i hi (by omega)
    have hc := run_cl hl l.length (Nat.le_refl _) i hi (by omega) hn
    have hok := okN_of (hl.2 i hi)
    have key : valN l[i] (v.take i) vs = valN l[i] (v'.take i) (vs.set k f) := by
      by_cases k1 : l[i].Kind = 1
      · unfold valN; rw [if_pos k1, if_pos k1]
      by_cases k2 : l[i].Kind = 2
      · have hne : l[i].A.toNat ≠ k := fun e => by have := hc.var k2; rw [e, hk] at this; cases this
        unfold valN; rw [if_neg k1, if_neg k1, if_pos k2, if_pos k2, at0_set hne]
      have hab : (0 ≤ l[i].A ∧ l[i].A < (i : Int)) ∧ (0 ≤ l[i].B ∧ l[i].B < (i : Int)) := by
        rcases hok with h | ⟨_, _, h | h | h⟩
        · exact absurd h.1 k1
        · exact absurd h.1 k2
        · exact ⟨h.2.1, h.2.2.1⟩
        · exact ⟨h.2.1, h.2.2.1⟩
      have nat : ∀ {a : Int}, 0 ≤ a ∧ a < (i : Int) → (runV l l.length).2.getD a.toNat false = true → at0 v a = at0 v' a := fun {a} ha hna => by
        have := ih a.toNat (by omega) (by omega) hna
        rw [show ((a.toNat : Nat) : Int) = a by omega] at this
        exact this
      have ea := nat hab.1 (hc.two k1 k2).1
      have eb := nat hab.2 (hc.two k1 k2).2
      have ec : l[i].Kind = 9 → at0 (v.take i) l[i].C = at0 (v'.take i) l[i].C := fun k9 => by
        have hcc : 0 ≤ l[i].C ∧ l[i].C < (i : Int) := by
          rcases hok with h | ⟨_, _, h | h | h⟩
          · exact absurd h.1 k1
          · exact absurd h.1 k2
          · have := h.1; omega
          · exact h.2.2.2
        rw [at0_take hcc, at0_take hcc]
        exact nat hcc (hc.pick k9)
      have k9 : ¬ l[i].Kind = 3 → ¬ l[i].Kind = 4 → ¬ l[i].Kind = 5 → ¬ l[i].Kind = 6 → ¬ l[i].Kind = 7 → ¬ l[i].Kind = 8 → l[i].Kind = 9 := fun _ _ _ _ _ _ => by
        rcases hok with h | ⟨_, _, h | h | h⟩
        · exact absurd h.1 k1
        · exact absurd h.1 k2
        · have := h.1; omega
        · exact h.1
      unfold valN
      rw [if_neg k1, if_neg k1, if_neg k2, if_neg k2, at0_take hab.1, at0_take hab.1, at0_take hab.2, at0_take hab.2, ea, eb]
      simp only []
      by_cases c3 : l[i].Kind = 3
      · rw [if_pos c3, if_pos c3]
      by_cases c4 : l[i].Kind = 4
      · rw [if_neg c3, if_neg c3, if_pos c4, if_pos c4]
      by_cases c5 : l[i].Kind = 5
      · rw [if_neg c3, if_neg c3, if_neg c4, if_neg c4, if_pos c5, if_pos c5]
      by_cases c6 : l[i].Kind = 6
      · rw [if_neg c3, if_neg c3, if_neg c4, if_neg c4, if_neg c5, if_neg c5, if_pos c6, if_pos c6]
      by_cases c7 : l[i].Kind = 7
      · simp only [if_neg c3, if_neg c4, if_neg c5, if_neg c6, if_pos c7]
      by_cases c8 : l[i].Kind = 8
      · simp only [if_neg c3, if_neg c4, if_neg c5, if_neg c6, if_neg c7, if_pos c8]
      · simp only [if_neg c3, if_neg c4, if_neg c5, if_neg c6, if_neg c7, if_neg c8, ec (k9 c3 c4 c5 c6 c7 c8)]
    rw [e1, e2] at key
    have g1 : at0 v (i : Int) = v[i]'(by omega) := by simp [at0, show i < v.length by omega]
    have g2 : at0 v' (i : Int) = v'[i]'(by omega) := by simp [at0, show i < v'.length by omega]
    rw [g1, g2]
    have h1 := (Prod.mk.inj key).1
    have h2 := (Prod.mk.inj (Prod.mk.inj key).2).1
    generalize v[i]'(by omega) = x at h1 h2
    generalize v'[i]'(by omega) = y at h1 h2
    cases x
    cases y
    simp only [] at h1 h2
    rw [h1, h2]
/-- A variable that is not used does not change the value. -/
theorem unused {l : List El} {vs : List Fr} {k : Nat} {f : Fr} (hl : OkF l) (hk : (varsOf l).getD k false = false) (h1 : (evalL l vs).2.2 = true) (h2 : (evalL l (vs.set k f)).2.2 = true) : evalL l vs = evalL l (vs.set k f) := by
  have hk' : (runV l l.length).1.getD k false = false := by rw [varsOf, if_pos (okF_yes hl)] at hk; exact hk
  have some_of : ∀ {ws : List Fr}, (evalL l ws).2.2 = true → ∃ v, evalTo l ws l.length = some v ∧ evalAll l ws = (v, true) := fun {ws} h => by
    unfold evalL at h
    split at h
    next hh =>
      unfold evalAll at hh ⊢
      split at hh
      next hc =>
        cases e : evalTo l ws l.length with
        | none => rw [e] at hh; cases hh
        | some v => exact ⟨v, rfl, by rw [if_pos hc]⟩
      next => cases hh
    next => cases h
  obtain ⟨v, hv, ha⟩ := some_of h1
  obtain ⟨v', hv', ha'⟩ := some_of h2
  have hlen := evalTo_len (Nat.le_refl _) hv
  have hlen' := evalTo_len (Nat.le_refl _) hv'
  have hn := hl.1.1
  have := agree hl hk' hv hv' (l.length - 1) (by omega) (run_last hn l.length)
  rw [show ((l.length - 1 : Nat) : Int) = (l.length : Int) - 1 by omega] at this
  unfold evalL
  rw [ha, ha']
  simp only [if_true, hlen, hlen', this]
end Go.Proofs.Ytlljhcfiojfimaa.VarsLaws
