/- All values of a valid formula are valid fractions, and each follows from those ahead of it: plain mathematics. -/
import Derived.Test.YtlljhcfiojfimaaVarsLaws
namespace Go.Proofs.Ytlljhcfiojfimaa.DerivedMath
open TNode NodeMath FracMath VarsLaws
theorem sum_ok {a b c d : Int} (h : (sumR a b c d).2.2 = true) : okB (sumR a b c d).1 (sumR a b c d).2.1 = true := by
  unfold sumR at h ⊢
  split at h
  next hh => rw [if_pos hh]; exact red_okB h
  next => cases h
theorem sub_ok {a b c d : Int} (h : (subR a b c d).2.2 = true) : okB (subR a b c d).1 (subR a b c d).2.1 = true := by
  unfold subR at h ⊢
  split at h
  next hh => rw [if_pos hh]; exact red_okB h
  next => cases h
theorem mul_ok {a b c d : Int} (h : (mulR a b c d).2.2 = true) : okB (mulR a b c d).1 (mulR a b c d).2.1 = true := by
  unfold mulR at h ⊢
  split at h
  next hh => rw [if_pos hh]; exact red_okB h
  next => cases h
theorem div_ok {a b c d : Int} (h : (divR a b c d).2.2 = true) : okB (divR a b c d).1 (divR a b c d).2.1 = true := by
  unfold divR at h ⊢
  split at h
  next hh => rw [if_pos hh]; exact red_okB h
  next => cases h
theorem sgn_neg (x : Int) : sgnI (-x) = -sgnI x := by unfold sgnI; split <;> split <;> (try split) <;> omega
theorem cmp_anti {a b c d : Int} (h1 : okB a b = true) (h2 : okB c d = true) : cmpI c d a b = -cmpI a b c d := by
  unfold cmpI
  rw [if_pos ⟨h2, h1⟩, if_pos ⟨h1, h2⟩, ← sgn_neg]
  congr 1
  rw [Int.neg_mul, Int.neg_mul]
  omega
theorem cmp_self {a b : Int} (h : okB a b = true) : cmpI a b a b = 0 := by
  unfold cmpI
  rw [if_pos ⟨h, h⟩, Int.neg_mul, show a * b + -(a * b) = 0 by omega]
  rfl
theorem at0_ok {v : List Fr} {i : Nat} {a : Int} (hv : ∀ k (h : k < v.length), okV v[k] = true) (hl : v.length = i) (ha : 0 ≤ a ∧ a < (i : Int)) : okV (at0 v a) = true := by
  obtain ⟨k, rfl⟩ : ∃ k : Nat, a = (k : Int) := ⟨a.toNat, by omega⟩
  have hk : k < v.length := by omega
  have : at0 v (k : Int) = v[k] := by simp [at0, hk]
  rw [this]
  exact hv k hk
theorem val_ok {n : El} {i : Nat} {v vs : List Fr} (hn : OkN n (i : Int)) (hl : v.length = i) (hv : ∀ k (h : k < v.length), okV v[k] = true) (hvs : OkVs vs) (h : (valN n v vs).2.2 = true) : okB (valN n v vs).1 (valN n v vs).2.1 = true := by
  rcases hn with h1 | ⟨_, _, h1 | h1 | h1⟩
  · unfold valN; rw [if_pos h1.1]; exact h1.2.2.2.2
  · unfold valN; rw [if_neg (by omega), if_pos h1.1]
    have := at0_ok (i := 8) hvs.2 hvs.1 (a := n.A) (by omega)
    exact this
  · obtain ⟨hk, ha, hb, _⟩ := h1
    have va := at0_ok hv hl ha
    have vb := at0_ok hv hl hb
    have hk6 : n.Kind = 3 ∨ n.Kind = 4 ∨ n.Kind = 5 ∨ n.Kind = 6 ∨ n.Kind = 7 ∨ n.Kind = 8 := by omega
    unfold valN at h ⊢
    rcases hk6 with e | e | e | e | e | e
    · simp only [e] at h ⊢; exact sum_ok h
    · simp only [e] at h ⊢; exact sub_ok h
    · simp only [e] at h ⊢; exact mul_ok h
    · simp only [e] at h ⊢; exact div_ok h
    · simp only [e] at h ⊢
      simp only [show ¬ (7 : Int) = 1 by decide, show ¬ (7 : Int) = 2 by decide, show ¬ (7 : Int) = 3 by decide, show ¬ (7 : Int) = 4 by decide, show ¬ (7 : Int) = 5 by decide, show ¬ (7 : Int) = 6 by decide, if_false, if_true]
      split
      · exact vb
      · exact va
    · simp only [e] at h ⊢
      simp only [show ¬ (8 : Int) = 1 by decide, show ¬ (8 : Int) = 2 by decide, show ¬ (8 : Int) = 3 by decide, show ¬ (8 : Int) = 4 by decide, show ¬ (8 : Int) = 5 by decide, show ¬ (8 : Int) = 6 by decide, show ¬ (8 : Int) = 7 by decide, if_false, if_true]
      split
      · exact vb
      · exact va
  · obtain ⟨hk, ha, hb, hc⟩ := h1
    have vb := at0_ok hv hl hb
    have vc := at0_ok hv hl hc
    unfold valN
    rw [if_neg (by omega), if_neg (by omega)]
    simp only []
    rw [if_neg (by omega), if_neg (by omega), if_neg (by omega), if_neg (by omega), if_neg (by omega), if_neg (by omega)]
    split
    · exact vb
    · exact vc
theorem eval_ok {l : List El} {vs : List Fr} (hl : OkF l) (hvs : OkVs vs) : ∀ {j : Nat} {v : List Fr}, j ≤ l.length → evalTo l vs j = some v → ∀ k (h : k < v.length), okV v[k] = true
  | 0, v, _, h => by rw [evalTo] at h; cases h; intro k hk; simp at hk
  | j + 1, v, hj, h => by
    rw [evalTo] at h
    cases e : evalTo l vs j with
    | none => rw [e] at h; cases h
    | some u =>
      rw [e] at h
      simp only [dif_pos (Nat.lt_of_succ_le hj)] at h
      have hu := evalTo_len (show j ≤ l.length by omega) e
      have ih := eval_ok hl hvs (show j ≤ l.length by omega) e
      split at h
      next hk =>
        obtain rfl := Option.some.inj h
        have hx := val_ok (okN_of (hl.2 j (by omega))) hu ih hvs hk
        intro k hk'
        by_cases e1 : k < u.length
        · rw [List.getElem_append_left e1]; exact ih k e1
        · have e2 : k = u.length := by simp at hk'; omega
          subst e2
          simpa [okV] using hx
      next => cases h
/-- What the law asks of each value. -/
structure Der (n : El) (x : Fr) (v vs : List Fr) : Prop where
  c : n.Kind = 1 → x.Num = n.Value_Num ∧ x.Den = n.Value_Den
  var : n.Kind = 2 → x.Num = (at0 vs n.A).Num ∧ x.Den = (at0 vs n.A).Den
  lo : n.Kind = 7 → cmpI x.Num x.Den (at0 v n.A).Num (at0 v n.A).Den ≤ 0 ∧ cmpI x.Num x.Den (at0 v n.B).Num (at0 v n.B).Den ≤ 0
  hi : n.Kind = 8 → 0 ≤ cmpI x.Num x.Den (at0 v n.A).Num (at0 v n.A).Den ∧ 0 ≤ cmpI x.Num x.Den (at0 v n.B).Num (at0 v n.B).Den
theorem derived {l : List El} {vs v : List Fr} (hl : OkF l) (hvs : OkVs vs) (h : evalTo l vs l.length = some v) (i : Nat) (hi : i < l.length) (hv : i < v.length) : Der l[i] v[i] v vs := by
  have hlen := evalTo_len (Nat.le_refl _) h
  have hok := eval_ok hl hvs (Nat.le_refl _) h
  have e := eval_at (Nat.le_refl _) h i hi hv
  have hn := okN_of (hl.2 i hi)
  generalize l[i] = n at e hn
  have hx : v[i].Num = (valN n (v.take i) vs).1 ∧ v[i].Den = (valN n (v.take i) vs).2.1 := by rw [e]; exact ⟨rfl, rfl⟩
  have two : ∀ {k : Int}, n.Kind = k → 3 ≤ k → k ≤ 8 → okV (at0 v n.A) = true ∧ okV (at0 v n.B) = true ∧ at0 (v.take i) n.A = at0 v n.A ∧ at0 (v.take i) n.B = at0 v n.B := fun {k} hk h3 h8 => by
    rcases hn with h1 | ⟨_, _, h1 | h1 | h1⟩
    · have := h1.1; omega
    · have := h1.1; omega
    · exact ⟨at0_ok hok rfl ⟨h1.2.1.1, by have := h1.2.1.2; omega⟩, at0_ok hok rfl ⟨h1.2.2.1.1, by have := h1.2.2.1.2; omega⟩, at0_take h1.2.1, at0_take h1.2.2.1⟩
    · have := h1.1; omega
  refine ⟨fun hk => ?_, fun hk => ?_, fun hk => ?_, fun hk => ?_⟩
  · rw [hx.1, hx.2]; unfold valN; rw [if_pos hk]; exact ⟨rfl, rfl⟩
  · rw [hx.1, hx.2]; unfold valN; rw [if_neg (by omega), if_pos hk]; exact ⟨rfl, rfl⟩
  · obtain ⟨va, vb, ea, eb⟩ := two hk (by decide) (by decide)
    unfold okV at va vb
    have hx2 : v[i].Num = (if cmpI (at0 v n.B).Num (at0 v n.B).Den (at0 v n.A).Num (at0 v n.A).Den < 0 then (at0 v n.B) else (at0 v n.A)).Num ∧ v[i].Den = (if cmpI (at0 v n.B).Num (at0 v n.B).Den (at0 v n.A).Num (at0 v n.A).Den < 0 then (at0 v n.B) else (at0 v n.A)).Den := by
      rw [hx.1, hx.2]; unfold valN
      rw [if_neg (by omega), if_neg (by omega), ea, eb]
      simp only []
      rw [if_neg (by omega), if_neg (by omega), if_neg (by omega), if_neg (by omega), if_pos hk]
      split <;> exact ⟨rfl, rfl⟩
    rw [hx2.1, hx2.2]
    split
    next hlt => exact ⟨by omega, by rw [cmp_self vb]; omega⟩
    next hge => exact ⟨by rw [cmp_self va]; omega, by have := cmp_anti vb va; omega⟩
  · obtain ⟨va, vb, ea, eb⟩ := two hk (by decide) (by decide)
    unfold okV at va vb
    have hx2 : v[i].Num = (if 0 < cmpI (at0 v n.B).Num (at0 v n.B).Den (at0 v n.A).Num (at0 v n.A).Den then (at0 v n.B) else (at0 v n.A)).Num ∧ v[i].Den = (if 0 < cmpI (at0 v n.B).Num (at0 v n.B).Den (at0 v n.A).Num (at0 v n.A).Den then (at0 v n.B) else (at0 v n.A)).Den := by
      rw [hx.1, hx.2]; unfold valN
      rw [if_neg (by omega), if_neg (by omega), ea, eb]
      simp only []
      rw [if_neg (by omega), if_neg (by omega), if_neg (by omega), if_neg (by omega), if_neg (by omega), if_pos hk]
      split <;> exact ⟨rfl, rfl⟩
    rw [hx2.1, hx2.2]
    split
    next hlt => exact ⟨by omega, by rw [cmp_self vb]; omega⟩
    next hge => exact ⟨by rw [cmp_self va]; omega, by have := cmp_anti vb va; omega⟩
/-- What EvalAll and Eval answer together. -/
theorem both {l : List El} {vs r : List Fr} {b : Bool} (h : evalAll l vs = (r, b)) : (b = false ∧ (evalL l vs).2.2 = false) ∨ (b = true ∧ OkF l ∧ OkVs vs ∧ evalTo l vs l.length = some r ∧ r.length = l.length ∧ ∃ (hr : r.length - 1 < r.length), evalL l vs = (r[r.length - 1].Num, r[r.length - 1].Den, true)) := by
  cases b with
  | false => exact .inl ⟨rfl, by unfold evalL; rw [h]; simp⟩
  | true =>
    have h0 := h
    unfold evalAll at h
    split at h
    next hc =>
      have hF := okF_of hc.1
      split at h
      next u hu =>
        obtain rfl := (Prod.mk.inj h).1
        have hlen := evalTo_len (Nat.le_refl _) hu
        have h1 := hF.1.1
        have hr : u.length - 1 < u.length := by omega
        refine .inr ⟨rfl, hF, okVs_of hc.2, hu, hlen, hr, ?_⟩
        unfold evalL
        rw [h0]
        simp only [if_true]
        have : at0 u ((u.length : Int) - 1) = u[u.length - 1] := by
          rw [show (u.length : Int) - 1 = ((u.length - 1 : Nat) : Int) by omega]
          simp [at0, hr]
        rw [this]
      next => cases (Prod.mk.inj h).2
    next => cases (Prod.mk.inj h).2
end Go.Proofs.Ytlljhcfiojfimaa.DerivedMath
