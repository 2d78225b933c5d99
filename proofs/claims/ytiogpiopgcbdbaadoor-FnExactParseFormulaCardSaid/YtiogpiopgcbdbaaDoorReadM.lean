/- Reading a formula from words, and the formula that is read from a formula's own words: plain mathematics. -/
import Derived.Test.YtiogpiopgcbdbaaDoorSizeM
namespace Go.Proofs.YtiogpiopgcbdbaaDoor.ReadM
open TNode NodeMath FracMath FracTxM NumMath NumParse NumBack HexMath SizeM
def kindOf (w : W) : Int := if w = [43] then 3 else if w = [45] then 4 else if w = [42] then 5 else if w = [47] then 6 else if w = [109, 105, 110] then 7 else if w = [109, 97, 120] then 8 else if w = [112, 105, 99, 107] then 9 else 0
theorem kind_name {k : Int} (h : 3 ≤ k ∧ k ≤ 9) : kindOf (nameW k) = k := by
  have hk : k = 3 ∨ k = 4 ∨ k = 5 ∨ k = 6 ∨ k = 7 ∨ k = 8 ∨ k = 9 := by omega
  rcases hk with rfl | rfl | rfl | rfl | rfl | rfl | rfl <;> decide
/-- The variable that a word names, or -1. -/
def varOf (w : W) : Int := match w with
  | [a, c] => if a = 118 ∧ 48 ≤ c.toNat ∧ c.toNat ≤ 55 then (c.toNat : Int) - 48 else -1
  | _ => -1
/-- Reading one node: the nodes so far, the words that are left. -/
def readT : Nat → List W → List El → Option (List El × List W)
  | 0, _, _ => none
  | _ + 1, [], _ => none
  | f + 1, w :: r, out =>
    if (parseT w).2.2 = true then some (out ++ [⟨1, 0, 0, 0, (parseT w).1, (parseT w).2.1⟩], r)
    else if 0 ≤ varOf w then some (out ++ [⟨2, varOf w, 0, 0, 0, 0⟩], r)
    else if kindOf w = 0 then none
    else match readT f r out with
      | none => none
      | some (o1, r1) => match readT f r1 o1 with
        | none => none
        | some (o2, r2) =>
          if kindOf w = 9 then match readT f r2 o2 with
            | none => none
            | some (o3, r3) => some (o3 ++ [⟨9, (o1.length : Int) - 1, (o2.length : Int) - 1, (o3.length : Int) - 1, 0, 0⟩], r3)
          else some (o2 ++ [⟨kindOf w, (o1.length : Int) - 1, (o2.length : Int) - 1, 0, 0, 0⟩], r2)
/-- The nodes that are appended for node k where b nodes lie ahead. -/
def unf (l : List El) : Nat → Nat → Nat → List El
  | 0, _, _ => []
  | f + 1, k, b => if h : k < l.length then
      (if l[k].Kind ≤ 2 then [l[k]]
       else if l[k].Kind = 9 then
         let ua := unf l f l[k].A.toNat b
         let ub := unf l f l[k].B.toNat (b + ua.length)
         let uc := unf l f l[k].C.toNat (b + ua.length + ub.length)
         ua ++ ub ++ uc ++ [⟨9, ((b + ua.length : Nat) : Int) - 1, ((b + ua.length + ub.length : Nat) : Int) - 1, ((b + ua.length + ub.length + uc.length : Nat) : Int) - 1, 0, 0⟩]
       else
         let ua := unf l f l[k].A.toNat b
         let ub := unf l f l[k].B.toNat (b + ua.length)
         ua ++ ub ++ [⟨l[k].Kind, ((b + ua.length : Nat) : Int) - 1, ((b + ua.length + ub.length : Nat) : Int) - 1, 0, 0, 0⟩])
      else []
theorem unf_leaf {l : List El} {f k b : Nat} (h : k < l.length) (hs : l[k].Kind ≤ 2) : unf l (f + 1) k b = [l[k]] := by rw [unf, dif_pos h, if_pos hs]
theorem unf_pick {l : List El} {f k b : Nat} (h : k < l.length) (h9 : l[k].Kind = 9) {ua ub uc : List El} (ea : unf l f l[k].A.toNat b = ua) (eb : unf l f l[k].B.toNat (b + ua.length) = ub) (ec : unf l f l[k].C.toNat (b + ua.length + ub.length) = uc) :
    unf l (f + 1) k b = ua ++ ub ++ uc ++ [⟨9, ((b + ua.length : Nat) : Int) - 1, ((b + ua.length + ub.length : Nat) : Int) - 1, ((b + ua.length + ub.length + uc.length : Nat) : Int) - 1, 0, 0⟩] := by
  rw [unf, dif_pos h, if_neg (by omega), if_pos h9]
  simp only [ea, eb, ec]
theorem unf_two {l : List El} {f k b : Nat} (h : k < l.length) (hs : ¬ l[k].Kind ≤ 2) (h9 : ¬ l[k].Kind = 9) {ua ub : List El} (ea : unf l f l[k].A.toNat b = ua) (eb : unf l f l[k].B.toNat (b + ua.length) = ub) :
    unf l (f + 1) k b = ua ++ ub ++ [⟨l[k].Kind, ((b + ua.length : Nat) : Int) - 1, ((b + ua.length + ub.length : Nat) : Int) - 1, 0, 0, 0⟩] := by
  rw [unf, dif_pos h, if_neg hs, if_neg h9]
  simp only [ea, eb]
/-- As many nodes as words. -/
theorem unf_len {l : List El} (hl : OkF l) : ∀ (f k b : Nat), k < f → k < l.length → (unf l f k b).length = (wordsF l f k).length
  | 0, _, _, h, _ => by omega
  | f + 1, k, b, hf, hk => by
    obtain ⟨c1, c2, c3⟩ := ok_at hl hk
    by_cases hs : l[k].Kind ≤ 2
    · rw [unf_leaf hk hs, wordsF, dif_pos hk, if_pos hs]; rfl
    · obtain ⟨a, b'⟩ := c2 (by omega)
      have ia := fun b => unf_len hl f l[k].A.toNat b (by omega) (by omega)
      have ib := fun b => unf_len hl f l[k].B.toNat b (by omega) (by omega)
      by_cases h9 : l[k].Kind = 9
      · have c := c3 h9
        have ic := fun b => unf_len hl f l[k].C.toNat b (by omega) (by omega)
        rw [unf_pick hk h9 rfl rfl rfl, wordsF, dif_pos hk, if_neg hs, if_pos h9]
        simp only [List.length_append, List.length_cons, List.length_nil, ia, ib, ic]
      · rw [unf_two hk hs h9 rfl rfl, wordsF, dif_pos hk, if_neg hs, if_neg h9]
        simp only [List.length_append, List.length_cons, List.length_nil, ia, ib]
theorem unf_pos {l : List El} (hl : OkF l) {f k b : Nat} (hf : k < f) (hk : k < l.length) : 1 ≤ (unf l f k b).length := by
  rw [unf_len hl f k b hf hk]
  have := words_pos (l := l) hk
  unfold words at this
  rwa [fuel hl (k + 1) f k (by omega) hf] at this
/-! What the words of a formula are read as. -/
theorem parse_name {k : Int} (h : 3 ≤ k ∧ k ≤ 9) : (parseT (nameW k)).2.2 = false := by
  have bad : ∀ (w : W), w.length ≤ 25 → 0 < w.length → numT w = -1 → (parseT w).2.2 = false := fun w h1 h2 h3 => by
    unfold parseT
    rw [if_neg (by omega), if_pos (.inl (by omega))]
  have hk : k = 3 ∨ k = 4 ∨ k = 5 ∨ k = 6 ∨ k = 7 ∨ k = 8 ∨ k = 9 := by omega
  rcases hk with rfl | rfl | rfl | rfl | rfl | rfl | rfl
  · exact bad _ (by decide) (by decide) (by decide)
  · have e : parseT (nameW 4) = (0, 0, false) := by
      unfold parseT
      rw [if_neg (by decide), if_neg (by decide), if_neg]
      have h1 : sgnT (nameW 4) * numT (nameW 4) = 0 := by decide
      have h2 : denT (nameW 4) = 1 := by decide
      rw [h1, h2]
      unfold fracT
      split
      · rw [if_pos rfl]; decide
      · decide
    rw [e]
  · exact bad _ (by decide) (by decide) (by decide)
  · have e : parseT (nameW 6) = (0, 0, false) := by
      unfold parseT
      rw [if_neg (by decide), if_neg (by decide), if_neg]
      have h1 : sgnT (nameW 6) * numT (nameW 6) = 0 := by decide
      have h2 : denT (nameW 6) = 0 := by decide
      rw [h1, h2, fracT_no (okB_no (by omega))]
      decide
    rw [e]
  · exact bad _ (by decide) (by decide) (by decide)
  · exact bad _ (by decide) (by decide) (by decide)
  · exact bad _ (by decide) (by decide) (by decide)
theorem var_name {k : Int} (h : 3 ≤ k ∧ k ≤ 9) : varOf (nameW k) = -1 := by
  have hk : k = 3 ∨ k = 4 ∨ k = 5 ∨ k = 6 ∨ k = 7 ∨ k = 8 ∨ k = 9 := by omega
  rcases hk with rfl | rfl | rfl | rfl | rfl | rfl | rfl <;> decide
theorem fmt_digit (k : Nat) (h : k < 8) : fmt (k : Int) = [UInt8.ofNat (48 + k)] := by
  by_cases h0 : k = 0
  · subst h0; rfl
  · unfold fmt
    rw [if_neg (by omega), if_neg (by omega), Int.natAbs_natCast, dg_pos _ (by omega), show k / 10 = 0 by omega, dg_zero, show k % 10 = k by omega]
    unfold fig
    rw [if_pos (by omega)]
    rfl
theorem parse_var (k : Nat) (h : k < 8) : (parseT (118 :: fmt (k : Int))).2.2 = false ∧ varOf (118 :: fmt (k : Int)) = (k : Int) := by
  rw [fmt_digit k h]
  have H : ∀ m : Fin 8, (parseT [118, UInt8.ofNat (48 + m.val)]).2.2 = false ∧ varOf [118, UInt8.ofNat (48 + m.val)] = (m.val : Int) := by
    intro m
    have hn : numT [118, UInt8.ofNat (48 + m.val)] = -1 := by revert m; decide
    refine ⟨?_, by revert m; decide⟩
    unfold parseT
    rw [if_neg (by simp), if_pos (.inl (by omega))]
  exact H ⟨k, h⟩
/-- A formula's words are read as its nodes, each operand on its own. -/
theorem read_words {l : List El} (hl : OkF l) : ∀ (f k : Nat) (r : List W) (out : List El), k < f → k < l.length → readT f (wordsF l f k ++ r) out = some (out ++ unf l f k out.length, r)
  | 0, _, _, _, h, _ => by omega
  | f + 1, k, r, out, hf, hk => by
    obtain ⟨c1, c2, c3⟩ := ok_at hl hk
    have hok := okN_of (hl.2 k hk)
    by_cases hs : l[k].Kind ≤ 2
    · rw [unf_leaf hk hs, wordsF, dif_pos hk, if_pos hs]
      show readT (f + 1) (leafW l[k] :: r) out = _
      generalize l[k] = n at hok hs
      obtain ⟨kd, a, b, c, u, d⟩ := n
      rcases hok with h1 | ⟨hu, hd, h1 | h1 | h1⟩
      · obtain ⟨e1, e2, e3, e4, e5⟩ := h1
        simp only [] at e1 e2 e3 e4 e5
        subst e1 e2 e3 e4
        have e : leafW ⟨1, 0, 0, 0, u, d⟩ = fracT u d := rfl
        rw [e, readT, parse_frac e5]
        simp
      · obtain ⟨e1, e2, e3, e4⟩ := h1
        simp only [] at e1 e2 e3 e4 hu hd
        subst e1 e3 e4 hu hd
        obtain ⟨m, rfl⟩ : ∃ m : Nat, a = (m : Int) := ⟨a.toNat, by omega⟩
        have e : leafW ⟨2, (m : Int), 0, 0, 0, 0⟩ = 118 :: fmt (m : Int) := rfl
        obtain ⟨p1, p2⟩ := parse_var m (by omega)
        rw [e, readT, p1, p2]
        simp
      · have := h1.1; simp only [] at this hs; omega
      · have := h1.1; simp only [] at this hs; omega
    · obtain ⟨ha, hb⟩ := c2 (by omega)
      have hk3 : 3 ≤ l[k].Kind ∧ l[k].Kind ≤ 9 := by omega
      have ia := fun r out => read_words hl f l[k].A.toNat r out (by omega) (by omega)
      have ib := fun r out => read_words hl f l[k].B.toNat r out (by omega) (by omega)
      by_cases h9 : l[k].Kind = 9
      · have hc := c3 h9
        have ic := fun r out => read_words hl f l[k].C.toNat r out (by omega) (by omega)
        rw [unf_pick hk h9 rfl rfl rfl, wordsF, dif_pos hk, if_neg hs, if_pos h9]
        simp only [List.cons_append, List.append_assoc]
        rw [readT, parse_name hk3, var_name hk3, kind_name hk3]
        simp only [Bool.false_eq_true, if_false, show ¬ (0 : Int) ≤ -1 by omega, ia, ib, ic, h9]
        simp [List.length_append, Nat.add_assoc]
      · rw [unf_two hk hs h9 rfl rfl, wordsF, dif_pos hk, if_neg hs, if_neg h9]
        simp only [List.cons_append, List.append_assoc, List.append_nil]
        rw [readT, parse_name hk3, var_name hk3, kind_name hk3]
        simp only [Bool.false_eq_true, if_false, show ¬ (0 : Int) ≤ -1 by omega, ia, ib, h9, show ¬ l[k].Kind = 0 by omega]
        simp [List.length_append, Nat.add_assoc]
/-! The formula that is read: valid, with the same words and the same value. -/
/-- Each new node is valid at its index. -/
theorem unf_ok {l : List El} (hl : OkF l) : ∀ (f k b : Nat), k < f → k < l.length → ∀ i (h : i < (unf l f k b).length), OkN (unf l f k b)[i] ((b + i : Nat) : Int)
  | 0, _, _, h, _ => by omega
  | f + 1, k, b, hf, hk => by
    obtain ⟨c1, c2, c3⟩ := ok_at hl hk
    have hok := okN_of (hl.2 k hk)
    by_cases hs : l[k].Kind ≤ 2
    · rw [unf_leaf hk hs]
      intro i hi
      obtain rfl : i = 0 := by simp at hi; omega
      show OkN l[k] _
      rcases hok with h1 | ⟨hu, hd, h1 | h1 | h1⟩
      · exact .inl h1
      · exact .inr ⟨hu, hd, .inl h1⟩
      · have := h1.1; omega
      · have := h1.1; omega
    · obtain ⟨ha, hb⟩ := c2 (by omega)
      have ia := fun b => unf_ok hl f l[k].A.toNat b (by omega) (by omega)
      have ib := fun b => unf_ok hl f l[k].B.toNat b (by omega) (by omega)
      have pa := fun b => unf_pos hl (b := b) (show l[k].A.toNat < f by omega) (by omega)
      have pb := fun b => unf_pos hl (b := b) (show l[k].B.toNat < f by omega) (by omega)
      by_cases h9 : l[k].Kind = 9
      · have hc := c3 h9
        have ic := fun b => unf_ok hl f l[k].C.toNat b (by omega) (by omega)
        have pc := fun b => unf_pos hl (b := b) (show l[k].C.toNat < f by omega) (by omega)
        obtain ⟨ua, ea⟩ : ∃ u, unf l f l[k].A.toNat b = u := ⟨_, rfl⟩
        obtain ⟨ub, eb⟩ : ∃ u, unf l f l[k].B.toNat (b + ua.length) = u := ⟨_, rfl⟩
        obtain ⟨uc, ec⟩ : ∃ u, unf l f l[k].C.toNat (b + ua.length + ub.length) = u := ⟨_, rfl⟩
        rw [unf_pick hk h9 ea eb ec]
        have ia := ia b; rw [ea] at ia
        have ib := ib (b + ua.length); rw [eb] at ib
        have ic := ic (b + ua.length + ub.length); rw [ec] at ic
        have pa := pa b; rw [ea] at pa
        have pb := pb (b + ua.length); rw [eb] at pb
        have pc := pc (b + ua.length + ub.length); rw [ec] at pc
        intro i hi
        simp only [List.length_append, List.length_cons, List.length_nil] at hi
        by_cases i1 : i < ua.length
        · rw [List.getElem_append_left (by simp; omega), List.getElem_append_left (by simp; omega), List.getElem_append_left i1]; exact ia i i1
        by_cases i2 : i < ua.length + ub.length
        · rw [List.getElem_append_left (by simp; omega), List.getElem_append_left (by simp; omega), List.getElem_append_right (by omega)]
          have := ib (i - ua.length) (by omega)
          rwa [show b + ua.length + (i - ua.length) = b + i by omega] at this
        by_cases i3 : i < ua.length + ub.length + uc.length
        · rw [List.getElem_append_left (by simp; omega), List.getElem_append_right (by simp; omega)]
          simp only [List.length_append]
          have := ic (i - (ua.length + ub.length)) (by omega)
          rwa [show b + ua.length + ub.length + (i - (ua.length + ub.length)) = b + i by omega] at this
        · rw [List.getElem_append_right (by simp; omega)]
          simp only [List.getElem_singleton]
          refine .inr ⟨rfl, rfl, .inr (.inr ⟨rfl, ?_, ?_, ?_⟩)⟩ <;> simp only [] <;> omega
      · obtain ⟨ua, ea⟩ : ∃ u, unf l f l[k].A.toNat b = u := ⟨_, rfl⟩
        obtain ⟨ub, eb⟩ : ∃ u, unf l f l[k].B.toNat (b + ua.length) = u := ⟨_, rfl⟩
        rw [unf_two hk hs h9 ea eb]
        have ia := ia b; rw [ea] at ia
        have ib := ib (b + ua.length); rw [eb] at ib
        have pa := pa b; rw [ea] at pa
        have pb := pb (b + ua.length); rw [eb] at pb
        intro i hi
        simp only [List.length_append, List.length_cons, List.length_nil] at hi
        by_cases i1 : i < ua.length
        · rw [List.getElem_append_left (by simp; omega), List.getElem_append_left i1]; exact ia i i1
        by_cases i2 : i < ua.length + ub.length
        · rw [List.getElem_append_left (by simp; omega), List.getElem_append_right (by omega)]
          have := ib (i - ua.length) (by omega)
          rwa [show b + ua.length + (i - ua.length) = b + i by omega] at this
        · rw [List.getElem_append_right (by simp; omega)]
          simp only [List.getElem_singleton]
          refine .inr ⟨rfl, rfl, .inr (.inl ⟨?_, ?_, ?_, rfl⟩)⟩ <;> simp only [] <;> omega
/-- The last of some nodes that lie in a list. -/
theorem unf_words {l : List El} (hl : OkF l) : ∀ (f k : Nat) (pre post : List El), k < f → k < l.length → ∀ F, pre.length + (unf l f k pre.length).length ≤ F →
    wordsF (pre ++ unf l f k pre.length ++ post) F (pre.length + (unf l f k pre.length).length - 1) = wordsF l f k
  | 0, _, _, _, h, _ => by omega
  | f + 1, k, pre, post, hf, hk => by
    intro F hF
    obtain ⟨c1, c2, c3⟩ := ok_at hl hk
    have hpos := unf_pos hl (b := pre.length) hf hk
    obtain ⟨G, rfl⟩ : ∃ G, F = G + 1 := ⟨F - 1, by omega⟩
    by_cases hs : l[k].Kind ≤ 2
    · rw [unf_leaf hk hs] at hF ⊢
      simp only [List.length_cons, List.length_nil, Nat.zero_add, Nat.add_sub_cancel] at hF ⊢
      have e : (pre ++ [l[k]] ++ post)[pre.length]'(by simp) = l[k] := by simp
      rw [wordsF, dif_pos (by simp), e, if_pos hs, wordsF, dif_pos hk, if_pos hs]
    · obtain ⟨ha, hb⟩ := c2 (by omega)
      have ia := fun pre post => unf_words hl f l[k].A.toNat pre post (by omega) (by omega)
      have ib := fun pre post => unf_words hl f l[k].B.toNat pre post (by omega) (by omega)
      have pa := fun b => unf_pos hl (b := b) (show l[k].A.toNat < f by omega) (by omega)
      have pb := fun b => unf_pos hl (b := b) (show l[k].B.toNat < f by omega) (by omega)
      by_cases h9 : l[k].Kind = 9
      · have hc := c3 h9
        have ic := fun pre post => unf_words hl f l[k].C.toNat pre post (by omega) (by omega)
        have pc := fun b => unf_pos hl (b := b) (show l[k].C.toNat < f by omega) (by omega)
        obtain ⟨ua, ea⟩ : ∃ u, unf l f l[k].A.toNat pre.length = u := ⟨_, rfl⟩
        obtain ⟨ub, eb⟩ : ∃ u, unf l f l[k].B.toNat (pre.length + ua.length) = u := ⟨_, rfl⟩
        obtain ⟨uc, ec⟩ : ∃ u, unf l f l[k].C.toNat (pre.length + ua.length + ub.length) = u := ⟨_, rfl⟩
        have pa := pa pre.length; rw [ea] at pa
        have pb := pb (pre.length + ua.length); rw [eb] at pb
        have pc := pc (pre.length + ua.length + ub.length); rw [ec] at pc
        rw [unf_pick hk h9 ea eb ec] at hF ⊢
        obtain ⟨x, hx⟩ : ∃ x : El, x = ⟨9, ((pre.length + ua.length : Nat) : Int) - 1, ((pre.length + ua.length + ub.length : Nat) : Int) - 1, ((pre.length + ua.length + ub.length + uc.length : Nat) : Int) - 1, 0, 0⟩ := ⟨_, rfl⟩
        rw [← hx] at hF ⊢
        simp only [List.length_append, List.length_cons, List.length_nil] at hF ⊢
        have i1 := ia pre (ub ++ uc ++ [x] ++ post) G (by rw [ea]; omega)
        have i2 := ib (pre ++ ua) (uc ++ [x] ++ post) G (by rw [List.length_append, eb]; omega)
        have i3 := ic (pre ++ ua ++ ub) ([x] ++ post) G (by rw [List.length_append, List.length_append, ec]; omega)
        rw [ea] at i1
        rw [List.length_append, eb] at i2
        rw [List.length_append, List.length_append, ec] at i3
        have e0 : pre.length + (ua.length + ub.length + uc.length + (0 + 1)) - 1 = pre.length + ua.length + ub.length + uc.length := by omega
        rw [e0]
        have eL : pre ++ (ua ++ ub ++ uc ++ [x]) ++ post = (pre ++ ua ++ ub ++ uc) ++ x :: post := by simp
        have e1 : pre ++ ua ++ (ub ++ uc ++ [x] ++ post) = pre ++ (ua ++ ub ++ uc ++ [x]) ++ post := by simp
        have e2 : pre ++ ua ++ ub ++ (uc ++ [x] ++ post) = pre ++ (ua ++ ub ++ uc ++ [x]) ++ post := by simp
        have e3 : pre ++ ua ++ ub ++ uc ++ ([x] ++ post) = pre ++ (ua ++ ub ++ uc ++ [x]) ++ post := by simp
        rw [e1] at i1
        rw [e2] at i2
        rw [e3] at i3
        have hlt : pre.length + ua.length + ub.length + uc.length < (pre ++ (ua ++ ub ++ uc ++ [x]) ++ post).length := by simp; omega
        have hget : (pre ++ (ua ++ ub ++ uc ++ [x]) ++ post)[pre.length + ua.length + ub.length + uc.length]'hlt = x := by
          simp only [eL]
          rw [List.getElem_append_right (by simp; omega)]
          simp [Nat.add_assoc]
        rw [wordsF, dif_pos hlt, hget, hx]
        simp only []
        rw [if_neg (by omega)]
        simp only [if_true]
        rw [wordsF, dif_pos hk, if_neg hs, if_pos h9, h9]
        rw [← hx, show (((pre.length + ua.length : Nat) : Int) - 1).toNat = pre.length + ua.length - 1 by omega, show (((pre.length + ua.length + ub.length : Nat) : Int) - 1).toNat = pre.length + ua.length + ub.length - 1 by omega, show (((pre.length + ua.length + ub.length + uc.length : Nat) : Int) - 1).toNat = pre.length + ua.length + ub.length + uc.length - 1 by omega, i1, i2, i3]
      · obtain ⟨ua, ea⟩ : ∃ u, unf l f l[k].A.toNat pre.length = u := ⟨_, rfl⟩
        obtain ⟨ub, eb⟩ : ∃ u, unf l f l[k].B.toNat (pre.length + ua.length) = u := ⟨_, rfl⟩
        have pa := pa pre.length; rw [ea] at pa
        have pb := pb (pre.length + ua.length); rw [eb] at pb
        rw [unf_two hk hs h9 ea eb] at hF ⊢
        obtain ⟨x, hx⟩ : ∃ x : El, x = ⟨l[k].Kind, ((pre.length + ua.length : Nat) : Int) - 1, ((pre.length + ua.length + ub.length : Nat) : Int) - 1, 0, 0, 0⟩ := ⟨_, rfl⟩
        rw [← hx] at hF ⊢
        simp only [List.length_append, List.length_cons, List.length_nil] at hF ⊢
        have i1 := ia pre (ub ++ [x] ++ post) G (by rw [ea]; omega)
        have i2 := ib (pre ++ ua) ([x] ++ post) G (by rw [List.length_append, eb]; omega)
        rw [ea] at i1
        rw [List.length_append, eb] at i2
        have e0 : pre.length + (ua.length + ub.length + (0 + 1)) - 1 = pre.length + ua.length + ub.length := by omega
        rw [e0]
        have eL : pre ++ (ua ++ ub ++ [x]) ++ post = (pre ++ ua ++ ub) ++ x :: post := by simp
        have e1 : pre ++ ua ++ (ub ++ [x] ++ post) = pre ++ (ua ++ ub ++ [x]) ++ post := by simp
        have e2 : pre ++ ua ++ ub ++ ([x] ++ post) = pre ++ (ua ++ ub ++ [x]) ++ post := by simp
        rw [e1] at i1
        rw [e2] at i2
        have hlt : pre.length + ua.length + ub.length < (pre ++ (ua ++ ub ++ [x]) ++ post).length := by simp; omega
        have hget : (pre ++ (ua ++ ub ++ [x]) ++ post)[pre.length + ua.length + ub.length]'hlt = x := by
          simp only [eL]
          rw [List.getElem_append_right (by simp; omega)]
          simp [Nat.add_assoc]
        rw [wordsF, dif_pos hlt, hget, hx]
        simp only []
        rw [if_neg hs, if_neg h9, wordsF, dif_pos hk, if_neg hs, if_neg h9]
        rw [← hx, show (((pre.length + ua.length : Nat) : Int) - 1).toNat = pre.length + ua.length - 1 by omega, show (((pre.length + ua.length + ub.length : Nat) : Int) - 1).toNat = pre.length + ua.length + ub.length - 1 by omega, i1, i2]
end Go.Proofs.YtiogpiopgcbdbaaDoor.ReadM
