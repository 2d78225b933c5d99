/- My kit: texts that lean on no dump, in one file. -/
import Derived.Test.YtiogpiopgcbdbaaGreatDoorKit
import Derived.Test.YtiogpiopgcbdbaaGreatDoorNodeMath
import Derived.Lib.AtoiAllCases
import Derived.Lib.IndexMore
import Derived.Lib.IndexBytes
import Derived.Maps.RangeWalk
import Derived.Maps.OwnSet
import Derived.WalkKit
import Derived.Test.YtiogpiopgcbdbaaGreatDoorRows
import Derived.Test.YtiogpiopgcbdbaaGreatDoorTNode
/- The text of a fraction, and the fraction of a text: plain mathematics. -/
namespace Go.Proofs.YtiogpiopgcbdbaaGreatDoor.FracTxM
open FracMath HexMath NumMath NumParse NumBack
/-- The text of a fraction, none where it is not valid. -/
def fracT (n d : Int) : List UInt8 := if okB n d = true then (if d = 1 then fmt n else fmt n ++ [47] ++ fmt d) else []
theorem fracT_no {n d : Int} (h : okB n d = false) : fracT n d = [] := by simp [fracT, h]
theorem fracT_one {n : Int} (h : okB n 1 = true) : fracT n 1 = fmt n := by simp [fracT, h]
theorem fracT_two {n d : Int} (h : okB n d = true) (hd : ¬ d = 1) : fracT n d = fmt n ++ [47] ++ fmt d := by unfold fracT; rw [if_pos h, if_neg hd]
/-- The number of at most 13 digits, or -1. -/
def dgt (s : List UInt8) : Int := if s.length ≤ 13 ∧ s.all isD = true then (vd s : Int) else -1
def sgnT (s : List UInt8) : Int := if s.head? = some 45 then -1 else 1
def bodyT (s : List UInt8) : List UInt8 := if s.head? = some 45 then s.tail else s
def cutT (s : List UInt8) : Nat := s.findIdx (fun b => b == 47)
def numT (s : List UInt8) : Int := dgt ((bodyT s).take (cutT (bodyT s)))
def denT (s : List UInt8) : Int := if cutT (bodyT s) < (bodyT s).length then dgt ((bodyT s).drop (cutT (bodyT s) + 1)) else 1
/-- The fraction of a text. -/
def parseT (s : List UInt8) : Int × Int × Bool :=
  if s.length = 0 ∨ 25 < s.length then (0, 0, false)
  else if numT s < 0 ∨ denT s < 0 then (0, 0, false)
  else if fracT (sgnT s * numT s) (denT s) = s then (sgnT s * numT s, denT s, true) else (0, 0, false)
theorem dgt_bd (s : List UInt8) : -1 ≤ dgt s ∧ dgt s ≤ 9999999999999 := by
  unfold dgt
  split
  next h =>
    have := vd_lt s h.2
    have h2 : 10 ^ s.length ≤ 10 ^ 13 := Nat.pow_le_pow_right (by omega) h.1
    omega
  next => omega
/-- Digits of a natural number. -/
theorem fmt_nat (n : Nat) : vd (fmt (n : Int)) = n ∧ (fmt (n : Int)).all isD = true := by
  unfold fmt
  by_cases h0 : n = 0
  · subst h0; exact ⟨rfl, rfl⟩
  · rw [if_neg (by omega), if_neg (by omega), Int.natAbs_natCast]
    exact dg_back n n (Nat.le_refl _)
theorem fmt_lenN {n k : Nat} (h : n < 10 ^ k) (hk : 1 ≤ k) : (fmt (n : Int)).length ≤ k := by
  unfold fmt
  by_cases h0 : n = 0
  · subst h0; simpa using hk
  · rw [if_neg (by omega), if_neg (by omega), Int.natAbs_natCast]
    exact dg_len k n h
theorem dgt_fmt {n : Nat} (h : n < 10 ^ 13) : dgt (fmt (n : Int)) = (n : Int) := by
  obtain ⟨h1, h2⟩ := fmt_nat n
  unfold dgt
  rw [if_pos ⟨fmt_lenN h (by omega), h2⟩, h1]
theorem fmt_neg {n : Nat} (h : 0 < n) : fmt (-(n : Int)) = 45 :: fmt (n : Int) := by
  unfold fmt
  rw [if_neg (by omega), if_pos (by omega), if_neg (by omega), if_neg (by omega)]
  simp
theorem fmt_head (n : Nat) : (fmt (n : Int)).head? ≠ some 45 := by
  obtain ⟨_, h2⟩ := fmt_nat n
  intro e
  cases hf : fmt (n : Int) with
  | nil => rw [hf] at e; cases e
  | cons a r =>
    rw [hf] at e h2
    simp only [List.head?_cons, Option.some.injEq] at e
    subst e
    rw [List.all_cons, Bool.and_eq_true] at h2
    exact absurd h2.1 (by decide)
theorem no_slash {l : List UInt8} (h : l.all isD = true) : l.findIdx (fun b => b == 47) = l.length := by
  rw [List.findIdx_eq_length]
  intro b hb
  have := List.all_eq_true.1 h b hb
  simp only [isD, decide_eq_true_eq] at this
  simp only [beq_eq_false_iff_ne, ne_eq]
  intro e
  subst e
  simp at this
theorem cut_app {l r : List UInt8} (h : l.all isD = true) : (l ++ 47 :: r).findIdx (fun b => b == 47) = l.length := by
  rw [List.findIdx_append, no_slash h]
  simp [List.findIdx_cons]
theorem fmt_ne (n : Int) : fmt n ≠ [] := by
  intro e
  unfold fmt at e
  split at e
  · cases e
  · split at e
    · cases e
    · rw [dg_pos _ (by omega)] at e; simp at e
/-- The parts of a valid fraction's text. -/
theorem parts {n d : Int} (h : okB n d = true) : sgnT (fracT n d) * numT (fracT n d) = n ∧ denT (fracT n d) = d ∧ 0 ≤ numT (fracT n d) ∧ 0 < (fracT n d).length ∧ (fracT n d).length ≤ 25 := by
  obtain ⟨d1, d2, n1, n2⟩ := ok_bd h
  obtain ⟨k, hk⟩ : ∃ k : Nat, d = (k : Int) := ⟨d.toNat, by omega⟩
  -- the text without its sign
  have key : ∀ (m : Nat), m < 10 ^ 13 → ∀ (t : List UInt8), t = (if d = 1 then fmt (m : Int) else fmt (m : Int) ++ [47] ++ fmt d) →
      dgt (t.take (cutT t)) = (m : Int) ∧ (if cutT t < t.length then dgt (t.drop (cutT t + 1)) else 1) = d ∧ t.head? ≠ some 45 ∧ 0 < t.length ∧ t.length ≤ 24 := by
    intro m hm t ht
    obtain ⟨_, hm2⟩ := fmt_nat m
    have hl := fmt_lenN hm (by omega)
    have hp : 0 < (fmt (m : Int)).length := List.length_pos_iff.2 (fmt_ne _)
    by_cases h1 : d = 1
    · rw [if_pos h1] at ht
      subst ht
      have hc : cutT (fmt (m : Int)) = (fmt (m : Int)).length := no_slash hm2
      rw [hc, List.take_of_length_le (Nat.le_refl _), if_neg (Nat.lt_irrefl _)]
      exact ⟨dgt_fmt hm, h1.symm, fmt_head m, hp, by omega⟩
    · rw [if_neg h1] at ht
      have ht' : t = fmt (m : Int) ++ 47 :: fmt d := by rw [ht]; simp
      subst ht'
      have hc : cutT (fmt (m : Int) ++ 47 :: fmt d) = (fmt (m : Int)).length := cut_app hm2
      have hl7 : (fmt d).length ≤ 7 := by rw [hk]; exact fmt_lenN (by omega) (by omega)
      rw [hc, List.take_left', if_pos (by simp)]
      · refine ⟨dgt_fmt hm, ?_, ?_, by simp; omega, by simp; omega⟩
        · rw [show fmt (m : Int) ++ 47 :: fmt d = (fmt (m : Int) ++ [47]) ++ fmt d by simp, List.drop_left' (by simp), hk]
          exact dgt_fmt (by omega)
        · intro e
          cases hf : fmt (m : Int) with
          | nil => exact fmt_ne _ hf
          | cons a r => rw [hf] at e; exact fmt_head m (by rw [hf]; exact e)
      · rfl
  have hT : fracT n d = (if d = 1 then fmt n else fmt n ++ [47] ++ fmt d) := by unfold fracT; rw [if_pos h]
  by_cases hn : n < 0
  · obtain ⟨m, hm⟩ : ∃ m : Nat, n = -(m : Int) := ⟨n.natAbs, by omega⟩
    have hs : fracT n d = 45 :: (if d = 1 then fmt (m : Int) else fmt (m : Int) ++ [47] ++ fmt d) := by
      rw [hT, hm, fmt_neg (by omega)]
      split <;> rfl
    obtain ⟨k1, k2, k3, k4, k5⟩ := key m (by omega) _ rfl
    rw [hs]
    unfold numT denT sgnT bodyT
    simp only [List.head?_cons, if_true, List.tail_cons, List.length_cons]
    rw [k1]
    exact ⟨by omega, k2, by omega, by omega, by omega⟩
  · obtain ⟨m, hm⟩ : ∃ m : Nat, n = (m : Int) := ⟨n.toNat, by omega⟩
    have hs : fracT n d = (if d = 1 then fmt (m : Int) else fmt (m : Int) ++ [47] ++ fmt d) := by rw [hT, hm]
    obtain ⟨k1, k2, k3, k4, k5⟩ := key m (by omega) _ rfl
    rw [hs]
    unfold numT denT sgnT bodyT
    simp only [if_neg k3]
    rw [k1]
    exact ⟨by omega, k2, by omega, k4, by omega⟩
/-- A valid fraction is parsed from its text. -/
theorem parse_frac {n d : Int} (h : okB n d = true) : parseT (fracT n d) = (n, d, true) := by
  obtain ⟨h1, h2, h3, h4, h5⟩ := parts h
  have hd := (ok_bd h).1
  unfold parseT
  rw [if_neg (by omega), if_neg (by omega), h1, h2, if_pos rfl]
/-- What is parsed is valid and has the text. -/
theorem parse_yes {s : List UInt8} {n d : Int} (h : parseT s = (n, d, true)) : okB n d = true ∧ fracT n d = s := by
  unfold parseT at h
  split at h
  · cases h
  next h0 =>
    split at h
    · cases h
    · split at h
      next e =>
        obtain ⟨rfl, rfl⟩ : sgnT s * numT s = n ∧ denT s = d := by
          simp only [Prod.mk.injEq, and_true] at h
          exact h
        refine ⟨?_, e⟩
        cases ho : okB (sgnT s * numT s) (denT s) with
        | true => rfl
        | false =>
          rw [fracT_no ho] at e
          rw [← e] at h0
          simp at h0
      · cases h
theorem parse_no {s : List UInt8} (h : ∀ n d, okB n d = true → fracT n d ≠ s) : parseT s = (0, 0, false) := by
  cases e : parseT s with
  | mk n r =>
    obtain ⟨d, b⟩ := r
    cases b with
    | true => obtain ⟨h1, h2⟩ := parse_yes e; exact absurd h2 (h n d h1)
    | false =>
      rw [← e]
      unfold parseT at e ⊢
      split
      · rfl
      · split
        · rfl
        · split
          next h1 h2 h3 => rw [if_neg h1, if_neg h2, if_pos h3] at e; simp at e
          · rfl
end Go.Proofs.YtiogpiopgcbdbaaGreatDoor.FracTxM

/- The words of a formula's text and their number: plain mathematics. -/
namespace Go.Proofs.YtiogpiopgcbdbaaGreatDoor.SizeM
open TNode NodeMath FracMath FracTxM NumMath
abbrev W := List UInt8
def nameW (k : Int) : W := if k = 3 then [43] else if k = 4 then [45] else if k = 5 then [42] else if k = 6 then [47] else if k = 7 then [109, 105, 110] else if k = 8 then [109, 97, 120] else [112, 105, 99, 107]
def leafW (n : El) : W := if n.Kind = 1 then fracT n.Value_Num n.Value_Den else 118 :: fmt n.A
/-- The words of node k, with so much fuel. -/
def wordsF (l : List El) : Nat → Nat → List W
  | 0, _ => []
  | f + 1, k => if h : k < l.length then
      (if l[k].Kind ≤ 2 then [leafW l[k]] else nameW l[k].Kind :: (wordsF l f l[k].A.toNat ++ wordsF l f l[k].B.toNat ++ (if l[k].Kind = 9 then wordsF l f l[k].C.toNat else [])))
      else []
def words (l : List El) (k : Nat) : List W := wordsF l (k + 1) k
theorem ok_at {l : List El} (hl : OkF l) {k : Nat} (h : k < l.length) : (l[k].Kind = 1 ∨ l[k].Kind = 2 ∨ 3 ≤ l[k].Kind ∧ l[k].Kind ≤ 9) ∧ (3 ≤ l[k].Kind → (0 ≤ l[k].A ∧ l[k].A.toNat < k) ∧ (0 ≤ l[k].B ∧ l[k].B.toNat < k)) ∧ (l[k].Kind = 9 → 0 ≤ l[k].C ∧ l[k].C.toNat < k) := by
  have := okN_of (hl.2 k h)
  generalize l[k] = n at this ⊢
  rcases this with h1 | ⟨_, _, h1 | h1 | h1⟩
  · have := h1.1; omega
  · have := h1.1; omega
  · obtain ⟨a, b, c, _⟩ := h1; omega
  · obtain ⟨a, b, c, d⟩ := h1; omega
theorem fuel {l : List El} (hl : OkF l) : ∀ (f g k : Nat), k < f → k < g → wordsF l f k = wordsF l g k
  | 0, _, _, h, _ => by omega
  | _ + 1, 0, _, _, h => by omega
  | f + 1, g + 1, k, h1, h2 => by
    rw [wordsF, wordsF]
    by_cases hk : k < l.length
    · rw [dif_pos hk, dif_pos hk]
      obtain ⟨c1, c2, c3⟩ := ok_at hl hk
      by_cases hs : l[k].Kind ≤ 2
      · rw [if_pos hs, if_pos hs]
      · obtain ⟨a, b⟩ := c2 (by omega)
        rw [if_neg hs, if_neg hs, fuel hl f g _ (by omega) (by omega), fuel hl f g l[k].B.toNat (by omega) (by omega)]
        by_cases h9 : l[k].Kind = 9
        · have := c3 h9
          rw [if_pos h9, if_pos h9, fuel hl f g l[k].C.toNat (by omega) (by omega)]
        · rw [if_neg h9, if_neg h9]
    · rw [dif_neg hk, dif_neg hk]
theorem words_leaf {l : List El} {k : Nat} (h : k < l.length) (hs : l[k].Kind ≤ 2) : words l k = [leafW l[k]] := by
  unfold words; rw [wordsF, dif_pos h, if_pos hs]
theorem words_two {l : List El} (hl : OkF l) {k : Nat} (h : k < l.length) (hs : ¬ l[k].Kind ≤ 2) (h9 : ¬ l[k].Kind = 9) : words l k = nameW l[k].Kind :: (words l l[k].A.toNat ++ words l l[k].B.toNat) := by
  obtain ⟨c1, c2, _⟩ := ok_at hl h
  obtain ⟨a, b⟩ := c2 (by omega)
  unfold words
  rw [wordsF, dif_pos h, if_neg hs, if_neg h9, List.append_nil, fuel hl k (l[k].A.toNat + 1) _ (by omega) (by omega), fuel hl k (l[k].B.toNat + 1) _ (by omega) (by omega)]
theorem words_pick {l : List El} (hl : OkF l) {k : Nat} (h : k < l.length) (h9 : l[k].Kind = 9) : words l k = nameW l[k].Kind :: (words l l[k].A.toNat ++ words l l[k].B.toNat ++ words l l[k].C.toNat) := by
  obtain ⟨c1, c2, c3⟩ := ok_at hl h
  obtain ⟨a, b⟩ := c2 (by omega)
  have c := c3 h9
  unfold words
  rw [wordsF, dif_pos h, if_neg (by omega), if_pos h9, fuel hl k (l[k].A.toNat + 1) _ (by omega) (by omega), fuel hl k (l[k].B.toNat + 1) _ (by omega) (by omega), fuel hl k (l[k].C.toNat + 1) _ (by omega) (by omega)]
theorem words_pos {l : List El} {k : Nat} (h : k < l.length) : 1 ≤ (words l k).length := by
  unfold words
  rw [wordsF, dif_pos h]
  split <;> simp
/-- The number of words, at most 25. -/
def sz (l : List El) (k : Nat) : Int := min ((words l k).length : Int) 25
theorem sz_bd (l : List El) (k : Nat) : 0 ≤ sz l k ∧ sz l k ≤ 25 := by unfold sz; omega
def sizeTo (l : List El) (k : Nat) : List Int := (List.range k).map fun i => sz l i
theorem sizeTo_len (l : List El) (k : Nat) : (sizeTo l k).length = k := by simp [sizeTo]
theorem sizeTo_get (l : List El) (k i : Nat) (h : i < (sizeTo l k).length) : (sizeTo l k)[i] = sz l i := by simp [sizeTo]
theorem sizeTo_succ (l : List El) (k : Nat) : sizeTo l (k + 1) = sizeTo l k ++ [sz l k] := by simp [sizeTo, List.range_succ]
theorem sz_leaf {l : List El} {k : Nat} (h : k < l.length) (hs : l[k].Kind ≤ 2) : sz l k = 1 := by unfold sz; rw [words_leaf h hs]; rfl
theorem sz_two {l : List El} (hl : OkF l) {k : Nat} (h : k < l.length) (hs : ¬ l[k].Kind ≤ 2) (h9 : ¬ l[k].Kind = 9) : sz l k = min (1 + sz l l[k].A.toNat + sz l l[k].B.toNat) 25 := by
  unfold sz; rw [words_two hl h hs h9]; simp only [List.length_cons, List.length_append]; omega
theorem sz_pick {l : List El} (hl : OkF l) {k : Nat} (h : k < l.length) (h9 : l[k].Kind = 9) : sz l k = min (1 + sz l l[k].A.toNat + sz l l[k].B.toNat + sz l l[k].C.toNat) 25 := by
  unfold sz; rw [words_pick hl h h9]; simp only [List.length_cons, List.length_append]; omega
noncomputable def sizeF (l : List El) : Int := if okF l = true then sz l (l.length - 1) else 0
/-- The text of node k. -/
def joinW : List W → List UInt8
  | [] => []
  | [x] => x
  | x :: y :: r => x ++ 32 :: joinW (y :: r)
theorem join_cons {x : W} {r : List W} (h : r ≠ []) : joinW (x :: r) = x ++ 32 :: joinW r := by
  cases r with
  | nil => exact absurd rfl h
  | cons y s => rfl
theorem join_app : ∀ {a b : List W}, a ≠ [] → b ≠ [] → joinW (a ++ b) = joinW a ++ 32 :: joinW b
  | [], _, h, _ => absurd rfl h
  | [x], b, _, hb => join_cons hb
  | x :: y :: r, b, _, hb => by
    have ih := join_app (a := y :: r) (b := b) (by simp) hb
    have e1 : joinW (x :: y :: r) = x ++ 32 :: joinW (y :: r) := rfl
    have e2 : joinW ((x :: y :: r) ++ b) = x ++ 32 :: joinW ((y :: r) ++ b) := rfl
    rw [e1, e2, ih]
    simp
noncomputable def textF (l : List El) : List UInt8 := if okF l = true ∧ (words l (l.length - 1)).length ≤ 24 then joinW (words l (l.length - 1)) else []
theorem name_len (k : Int) : (nameW k).length ≤ 4 := by unfold nameW; repeat (first | (split; decide) | split | decide)
theorem leaf_len {n : El} {at_ : Int} (h : OkN n at_) (hs : n.Kind ≤ 2) : (leafW n).length ≤ 25 := by
  unfold leafW
  rcases h with h1 | ⟨_, _, h1 | h1 | h1⟩
  · rw [if_pos h1.1]; exact (parts h1.2.2.2.2).2.2.2.2
  · rw [if_neg (by omega)]
    obtain ⟨k, hk⟩ : ∃ k : Nat, n.A = (k : Int) := ⟨n.A.toNat, by omega⟩
    have := fmt_lenN (n := k) (k := 1) (by omega) (by omega)
    rw [hk, List.length_cons]; omega
  · have := h1.1; omega
  · have := h1.1; omega
theorem word_len {l : List El} (hl : OkF l) : ∀ (f k : Nat), ∀ x ∈ wordsF l f k, x.length ≤ 25
  | 0, _, x, h => by rw [wordsF] at h; cases h
  | f + 1, k, x, h => by
    rw [wordsF] at h
    split at h
    next hk =>
      split at h
      next hs =>
        rw [List.mem_singleton] at h
        rw [h]; exact leaf_len (okN_of (hl.2 k hk)) hs
      next hs =>
        rcases List.mem_cons.1 h with rfl | h
        · have := name_len l[k].Kind; omega
        · rcases List.mem_append.1 h with h | h
          · rcases List.mem_append.1 h with h | h
            · exact word_len hl f _ x h
            · exact word_len hl f _ x h
          · split at h
            · exact word_len hl f _ x h
            · cases h
    next => cases h
theorem join_len : ∀ (ws : List W), (∀ x ∈ ws, x.length ≤ 25) → (joinW ws).length ≤ 26 * ws.length
  | [], _ => by simp [joinW]
  | [x], h => by have := h x (by simp); simp [joinW]; omega
  | x :: y :: r, h => by
    have h1 := h x (by simp)
    have h2 := join_len (y :: r) (fun z hz => h z (List.mem_cons_of_mem _ hz))
    have e : joinW (x :: y :: r) = x ++ 32 :: joinW (y :: r) := rfl
    rw [e, List.length_append, List.length_cons, List.length_cons]
    omega
theorem text_len {l : List El} (hl : OkF l) {k : Nat} (h : (words l k).length ≤ 24) : (joinW (words l k)).length ≤ 624 := by
  have := join_len (words l k) (fun x hx => word_len hl _ _ x hx)
  omega
end Go.Proofs.YtiogpiopgcbdbaaGreatDoor.SizeM

/- Reading a formula from words, and the formula that is read from a formula's own words: plain mathematics. -/
namespace Go.Proofs.YtiogpiopgcbdbaaGreatDoor.ReadM
open TNode NodeMath FracMath FracTxM NumMath NumParse NumBack HexMath SizeM
def kindOf (w : W) : Int := if w = [43] then 3 else if w = [45] then 4 else if w = [42] then 5 else if w = [47] then 6 else if w = [109, 105, 110] then 7 else if w = [109, 97, 120] then 8 else if w = [112, 105, 99, 107] then 9 else 0
theorem kind_name {k : Int} (h : 3 ≤ k ∧ k ≤ 9) : kindOf (nameW k) = k := by
  have hk : k = 3 ∨ k = 4 ∨ k = 5 ∨ k = 6 ∨ k = 7 ∨ k = 8 ∨ k = 9 := by omega
  rcases hk with rfl | rfl | rfl | rfl | rfl | rfl | rfl <;> decide
/-- The variable that a word names, or -1. -/
def varOf (w : W) : Int := match w with
  | [a, c] => if a = 118 ∧ 48 ≤ c.toNat ∧ c.toNat ≤ 55 then (c.toNat : Int) - 48 else -1
  | _ => -1
/-- Reading one node: the nodes so far, the words that are left. -/
def readT : Nat → List W → List El → Option (List El × List W)
  | 0, _, _ => none
  | _ + 1, [], _ => none
  | f + 1, w :: r, out =>
    if (parseT w).2.2 = true then some (out ++ [⟨1, 0, 0, 0, (parseT w).1, (parseT w).2.1⟩], r)
    else if 0 ≤ varOf w then some (out ++ [⟨2, varOf w, 0, 0, 0, 0⟩], r)
    else if kindOf w = 0 then none
    else match readT f r out with
      | none => none
      | some (o1, r1) => match readT f r1 o1 with
        | none => none
        | some (o2, r2) =>
          if kindOf w = 9 then match readT f r2 o2 with
            | none => none
            | some (o3, r3) => some (o3 ++ [⟨9, (o1.length : Int) - 1, (o2.length : Int) - 1, (o3.length : Int) - 1, 0, 0⟩], r3)
          else some (o2 ++ [⟨kindOf w, (o1.length : Int) - 1, (o2.length : Int) - 1, 0, 0, 0⟩], r2)
/-- The nodes that are appended for node k where b nodes lie ahead. -/
def unf (l : List El) : Nat → Nat → Nat → List El
  | 0, _, _ => []
  | f + 1, k, b => if h : k < l.length then
      (if l[k].Kind ≤ 2 then [l[k]]
       else if l[k].Kind = 9 then
         let ua := unf l f l[k].A.toNat b
         let ub := unf l f l[k].B.toNat (b + ua.length)
         let uc := unf l f l[k].C.toNat (b + ua.length + ub.length)
         ua ++ ub ++ uc ++ [⟨9, ((b + ua.length : Nat) : Int) - 1, ((b + ua.length + ub.length : Nat) : Int) - 1, ((b + ua.length + ub.length + uc.length : Nat) : Int) - 1, 0, 0⟩]
       else
         let ua := unf l f l[k].A.toNat b
         let ub := unf l f l[k].B.toNat (b + ua.length)
         ua ++ ub ++ [⟨l[k].Kind, ((b + ua.length : Nat) : Int) - 1, ((b + ua.length + ub.length : Nat) : Int) - 1, 0, 0, 0⟩])
      else []
theorem unf_leaf {l : List El} {f k b : Nat} (h : k < l.length) (hs : l[k].Kind ≤ 2) : unf l (f + 1) k b = [l[k]] := by rw [unf, dif_pos h, if_pos hs]
theorem unf_pick {l : List El} {f k b : Nat} (h : k < l.length) (h9 : l[k].Kind = 9) {ua ub uc : List El} (ea : unf l f l[k].A.toNat b = ua) (eb : unf l f l[k].B.toNat (b + ua.length) = ub) (ec : unf l f l[k].C.toNat (b + ua.length + ub.length) = uc) :
    unf l (f + 1) k b = ua ++ ub ++ uc ++ [⟨9, ((b + ua.length : Nat) : Int) - 1, ((b + ua.length + ub.length : Nat) : Int) - 1, ((b + ua.length + ub.length + uc.length : Nat) : Int) - 1, 0, 0⟩] := by
  rw [unf, dif_pos h, if_neg (by omega), if_pos h9]
  simp only [ea, eb, ec]
theorem unf_two {l : List El} {f k b : Nat} (h : k < l.length) (hs : ¬ l[k].Kind ≤ 2) (h9 : ¬ l[k].Kind = 9) {ua ub : List El} (ea : unf l f l[k].A.toNat b = ua) (eb : unf l f l[k].B.toNat (b + ua.length) = ub) :
    unf l (f + 1) k b = ua ++ ub ++ [⟨l[k].Kind, ((b + ua.length : Nat) : Int) - 1, ((b + ua.length + ub.length : Nat) : Int) - 1, 0, 0, 0⟩] := by
  rw [unf, dif_pos h, if_neg hs, if_neg h9]
  simp only [ea, eb]
/-- As many nodes as words. -/
theorem unf_len {l : List El} (hl : OkF l) : ∀ (f k b : Nat), k < f → k < l.length → (unf l f k b).length = (wordsF l f k).length
  | 0, _, _, h, _ => by omega
  | f + 1, k, b, hf, hk => by
    obtain ⟨c1, c2, c3⟩ := ok_at hl hk
    by_cases hs : l[k].Kind ≤ 2
    · rw [unf_leaf hk hs, wordsF, dif_pos hk, if_pos hs]; rfl
    · obtain ⟨a, b'⟩ := c2 (by omega)
      have ia := fun b => unf_len hl f l[k].A.toNat b (by omega) (by omega)
      have ib := fun b => unf_len hl f l[k].B.toNat b (by omega) (by omega)
      by_cases h9 : l[k].Kind = 9
      · have c := c3 h9
        have ic := fun b => unf_len hl f l[k].C.toNat b (by omega) (by omega)
        rw [unf_pick hk h9 rfl rfl rfl, wordsF, dif_pos hk, if_neg hs, if_pos h9]
        simp only [List.length_append, List.length_cons, List.length_nil, ia, ib, ic]
      · rw [unf_two hk hs h9 rfl rfl, wordsF, dif_pos hk, if_neg hs, if_neg h9]
        simp only [List.length_append, List.length_cons, List.length_nil, ia, ib]
theorem unf_pos {l : List El} (hl : OkF l) {f k b : Nat} (hf : k < f) (hk : k < l.length) : 1 ≤ (unf l f k b).length := by
  rw [unf_len hl f k b hf hk]
  have := words_pos (l := l) hk
  unfold words at this
  rwa [fuel hl (k + 1) f k (by omega) hf] at this
/-! What the words of a formula are read as. -/
theorem parse_name {k : Int} (h : 3 ≤ k ∧ k ≤ 9) : (parseT (nameW k)).2.2 = false := by
  have bad : ∀ (w : W), w.length ≤ 25 → 0 < w.length → numT w = -1 → (parseT w).2.2 = false := fun w h1 h2 h3 => by
    unfold parseT
    rw [if_neg (by omega), if_pos (.inl (by omega))]
  have hk : k = 3 ∨ k = 4 ∨ k = 5 ∨ k = 6 ∨ k = 7 ∨ k = 8 ∨ k = 9 := by omega
  rcases hk with rfl | rfl | rfl | rfl | rfl | rfl | rfl
  · exact bad _ (by decide) (by decide) (by decide)
  · have e : parseT (nameW 4) = (0, 0, false) := by
      unfold parseT
      rw [if_neg (by decide), if_neg (by decide), if_neg]
      have h1 : sgnT (nameW 4) * numT (nameW 4) = 0 := by decide
      have h2 : denT (nameW 4) = 1 := by decide
      rw [h1, h2]
      unfold fracT
      split
      · rw [if_pos rfl]; decide
      · decide
    rw [e]
  · exact bad _ (by decide) (by decide) (by decide)
  · have e : parseT (nameW 6) = (0, 0, false) := by
      unfold parseT
      rw [if_neg (by decide), if_neg (by decide), if_neg]
      have h1 : sgnT (nameW 6) * numT (nameW 6) = 0 := by decide
      have h2 : denT (nameW 6) = 0 := by decide
      rw [h1, h2, fracT_no (okB_no (by omega))]
      decide
    rw [e]
  · exact bad _ (by decide) (by decide) (by decide)
  · exact bad _ (by decide) (by decide) (by decide)
  · exact bad _ (by decide) (by decide) (by decide)
theorem var_name {k : Int} (h : 3 ≤ k ∧ k ≤ 9) : varOf (nameW k) = -1 := by
  have hk : k = 3 ∨ k = 4 ∨ k = 5 ∨ k = 6 ∨ k = 7 ∨ k = 8 ∨ k = 9 := by omega
  rcases hk with rfl | rfl | rfl | rfl | rfl | rfl | rfl <;> decide
theorem fmt_digit (k : Nat) (h : k < 8) : fmt (k : Int) = [UInt8.ofNat (48 + k)] := by
  by_cases h0 : k = 0
  · subst h0; rfl
  · unfold fmt
    rw [if_neg (by omega), if_neg (by omega), Int.natAbs_natCast, dg_pos _ (by omega), show k / 10 = 0 by omega, dg_zero, show k % 10 = k by omega]
    unfold fig
    rw [if_pos (by omega)]
    rfl
theorem parse_var (k : Nat) (h : k < 8) : (parseT (118 :: fmt (k : Int))).2.2 = false ∧ varOf (118 :: fmt (k : Int)) = (k : Int) := by
  rw [fmt_digit k h]
  have H : ∀ m : Fin 8, (parseT [118, UInt8.ofNat (48 + m.val)]).2.2 = false ∧ varOf [118, UInt8.ofNat (48 + m.val)] = (m.val : Int) := by
    intro m
    have hn : numT [118, UInt8.ofNat (48 + m.val)] = -1 := by revert m; decide
    refine ⟨?_, by revert m; decide⟩
    unfold parseT
    rw [if_neg (by simp), if_pos (.inl (by omega))]
  exact H ⟨k, h⟩
/-- A formula's words are read as its nodes, each operand on its own. -/
theorem read_words {l : List El} (hl : OkF l) : ∀ (f k : Nat) (r : List W) (out : List El), k < f → k < l.length → readT f (wordsF l f k ++ r) out = some (out ++ unf l f k out.length, r)
  | 0, _, _, _, h, _ => by omega
  | f + 1, k, r, out, hf, hk => by
    obtain ⟨c1, c2, c3⟩ := ok_at hl hk
    have hok := okN_of (hl.2 k hk)
    by_cases hs : l[k].Kind ≤ 2
    · rw [unf_leaf hk hs, wordsF, dif_pos hk, if_pos hs]
      show readT (f + 1) (leafW l[k] :: r) out = _
      generalize l[k] = n at hok hs
      obtain ⟨kd, a, b, c, u, d⟩ := n
      rcases hok with h1 | ⟨hu, hd, h1 | h1 | h1⟩
      · obtain ⟨e1, e2, e3, e4, e5⟩ := h1
        simp only [] at e1 e2 e3 e4 e5
        subst e1 e2 e3 e4
        have e : leafW ⟨1, 0, 0, 0, u, d⟩ = fracT u d := rfl
        rw [e, readT, parse_frac e5]
        simp
      · obtain ⟨e1, e2, e3, e4⟩ := h1
        simp only [] at e1 e2 e3 e4 hu hd
        subst e1 e3 e4 hu hd
        obtain ⟨m, rfl⟩ : ∃ m : Nat, a = (m : Int) := ⟨a.toNat, by omega⟩
        have e : leafW ⟨2, (m : Int), 0, 0, 0, 0⟩ = 118 :: fmt (m : Int) := rfl
        obtain ⟨p1, p2⟩ := parse_var m (by omega)
        rw [e, readT, p1, p2]
        simp
      · have := h1.1; simp only [] at this hs; omega
      · have := h1.1; simp only [] at this hs; omega
    · obtain ⟨ha, hb⟩ := c2 (by omega)
      have hk3 : 3 ≤ l[k].Kind ∧ l[k].Kind ≤ 9 := by omega
      have ia := fun r out => read_words hl f l[k].A.toNat r out (by omega) (by omega)
      have ib := fun r out => read_words hl f l[k].B.toNat r out (by omega) (by omega)
      by_cases h9 : l[k].Kind = 9
      · have hc := c3 h9
        have ic := fun r out => read_words hl f l[k].C.toNat r out (by omega) (by omega)
        rw [unf_pick hk h9 rfl rfl rfl, wordsF, dif_pos hk, if_neg hs, if_pos h9]
        simp only [List.cons_append, List.append_assoc]
        rw [readT, parse_name hk3, var_name hk3, kind_name hk3]
        simp only [Bool.false_eq_true, if_false, show ¬ (0 : Int) ≤ -1 by omega, ia, ib, ic, h9]
        simp [List.length_append, Nat.add_assoc]
      · rw [unf_two hk hs h9 rfl rfl, wordsF, dif_pos hk, if_neg hs, if_neg h9]
        simp only [List.cons_append, List.append_assoc, List.append_nil]
        rw [readT, parse_name hk3, var_name hk3, kind_name hk3]
        simp only [Bool.false_eq_true, if_false, show ¬ (0 : Int) ≤ -1 by omega, ia, ib, h9, show ¬ l[k].Kind = 0 by omega]
        simp [List.length_append, Nat.add_assoc]
/-! The formula that is read: valid, with the same words and the same value. -/
/-- Each new node is valid at its index. -/
theorem unf_ok {l : List El} (hl : OkF l) : ∀ (f k b : Nat), k < f → k < l.length → ∀ i (h : i < (unf l f k b).length), OkN (unf l f k b)[i] ((b + i : Nat) : Int)
  | 0, _, _, h, _ => by omega
  | f + 1, k, b, hf, hk => by
    obtain ⟨c1, c2, c3⟩ := ok_at hl hk
    have hok := okN_of (hl.2 k hk)
    by_cases hs : l[k].Kind ≤ 2
    · rw [unf_leaf hk hs]
      intro i hi
      obtain rfl : i = 0 := by simp at hi; omega
      show OkN l[k] _
      rcases hok with h1 | ⟨hu, hd, h1 | h1 | h1⟩
      · exact .inl h1
      · exact .inr ⟨hu, hd, .inl h1⟩
      · have := h1.1; omega
      · have := h1.1; omega
    · obtain ⟨ha, hb⟩ := c2 (by omega)
      have ia := fun b => unf_ok hl f l[k].A.toNat b (by omega) (by omega)
      have ib := fun b => unf_ok hl f l[k].B.toNat b (by omega) (by omega)
      have pa := fun b => unf_pos hl (b := b) (show l[k].A.toNat < f by omega) (by omega)
      have pb := fun b => unf_pos hl (b := b) (show l[k].B.toNat < f by omega) (by omega)
      by_cases h9 : l[k].Kind = 9
      · have hc := c3 h9
        have ic := fun b => unf_ok hl f l[k].C.toNat b (by omega) (by omega)
        have pc := fun b => unf_pos hl (b := b) (show l[k].C.toNat < f by omega) (by omega)
        obtain ⟨ua, ea⟩ : ∃ u, unf l f l[k].A.toNat b = u := ⟨_, rfl⟩
        obtain ⟨ub, eb⟩ : ∃ u, unf l f l[k].B.toNat (b + ua.length) = u := ⟨_, rfl⟩
        obtain ⟨uc, ec⟩ : ∃ u, unf l f l[k].C.toNat (b + ua.length + ub.length) = u := ⟨_, rfl⟩
        rw [unf_pick hk h9 ea eb ec]
        have ia := ia b; rw [ea] at ia
        have ib := ib (b + ua.length); rw [eb] at ib
        have ic := ic (b + ua.length + ub.length); rw [ec] at ic
        have pa := pa b; rw [ea] at pa
        have pb := pb (b + ua.length); rw [eb] at pb
        have pc := pc (b + ua.length + ub.length); rw [ec] at pc
        intro i hi
        simp only [List.length_append, List.length_cons, List.length_nil] at hi
        by_cases i1 : i < ua.length
        · rw [List.getElem_append_left (by simp; omega), List.getElem_append_left (by simp; omega), List.getElem_append_left i1]; exact ia i i1
        by_cases i2 : i < ua.length + ub.length
        · rw [List.getElem_append_left (by simp; omega), List.getElem_append_left (by simp; omega), List.getElem_append_right (by omega)]
          have := ib (i - ua.length) (by omega)
          rwa [show b + ua.length + (i - ua.length) = b + i by omega] at this
        by_cases i3 : i < ua.length + ub.length + uc.length
        · rw [List.getElem_append_left (by simp; omega), List.getElem_append_right (by simp; omega)]
          simp only [List.length_append]
          have := ic (i - (ua.length + ub.length)) (by omega)
          rwa [show b + ua.length + ub.length + (i - (ua.length + ub.length)) = b + i by omega] at this
        · rw [List.getElem_append_right (by simp; omega)]
          simp only [List.getElem_singleton]
          refine .inr ⟨rfl, rfl, .inr (.inr ⟨rfl, ?_, ?_, ?_⟩)⟩ <;> simp only [] <;> omega
      · obtain ⟨ua, ea⟩ : ∃ u, unf l f l[k].A.toNat b = u := ⟨_, rfl⟩
        obtain ⟨ub, eb⟩ : ∃ u, unf l f l[k].B.toNat (b + ua.length) = u := ⟨_, rfl⟩
        rw [unf_two hk hs h9 ea eb]
        have ia := ia b; rw [ea] at ia
        have ib := ib (b + ua.length); rw [eb] at ib
        have pa := pa b; rw [ea] at pa
        have pb := pb (b + ua.length); rw [eb] at pb
        intro i hi
        simp only [List.length_append, List.length_cons, List.length_nil] at hi
        by_cases i1 : i < ua.length
        · rw [List.getElem_append_left (by simp; omega), List.getElem_append_left i1]; exact ia i i1
        by_cases i2 : i < ua.length + ub.length
        · rw [List.getElem_append_left (by simp; omega), List.getElem_append_right (by omega)]
          have := ib (i - ua.length) (by omega)
          rwa [show b + ua.length + (i - ua.length) = b + i by omega] at this
        · rw [List.getElem_append_right (by simp; omega)]
          simp only [List.getElem_singleton]
          refine .inr ⟨rfl, rfl, .inr (.inl ⟨?_, ?_, ?_, rfl⟩)⟩ <;> simp only [] <;> omega
/-- The last of some nodes that lie in a list. -/
theorem unf_words {l : List El} (hl : OkF l) : ∀ (f k : Nat) (pre post : List El), k < f → k < l.length → ∀ F, pre.length + (unf l f k pre.length).length ≤ F →
    wordsF (pre ++ unf l f k pre.length ++ post) F (pre.length + (unf l f k pre.length).length - 1) = wordsF l f k
  | 0, _, _, _, h, _ => by omega
  | f + 1, k, pre, post, hf, hk => by
    intro F hF
    obtain ⟨c1, c2, c3⟩ := ok_at hl hk
    have hpos := unf_pos hl (b := pre.length) hf hk
    obtain ⟨G, rfl⟩ : ∃ G, F = G + 1 := ⟨F - 1, by omega⟩
    by_cases hs : l[k].Kind ≤ 2
    · rw [unf_leaf hk hs] at hF ⊢
      simp only [List.length_cons, List.length_nil, Nat.zero_add, Nat.add_sub_cancel] at hF ⊢
      have e : (pre ++ [l[k]] ++ post)[pre.length]'(by simp) = l[k] := by simp
      rw [wordsF, dif_pos (by simp), e, if_pos hs, wordsF, dif_pos hk, if_pos hs]
    · obtain ⟨ha, hb⟩ := c2 (by omega)
      have ia := fun pre post => unf_words hl f l[k].A.toNat pre post (by omega) (by omega)
      have ib := fun pre post => unf_words hl f l[k].B.toNat pre post (by omega) (by omega)
      have pa := fun b => unf_pos hl (b := b) (show l[k].A.toNat < f by omega) (by omega)
      have pb := fun b => unf_pos hl (b := b) (show l[k].B.toNat < f by omega) (by omega)
      by_cases h9 : l[k].Kind = 9
      · have hc := c3 h9
        have ic := fun pre post => unf_words hl f l[k].C.toNat pre post (by omega) (by omega)
        have pc := fun b => unf_pos hl (b := b) (show l[k].C.toNat < f by omega) (by omega)
        obtain ⟨ua, ea⟩ : ∃ u, unf l f l[k].A.toNat pre.length = u := ⟨_, rfl⟩
        obtain ⟨ub, eb⟩ : ∃ u, unf l f l[k].B.toNat (pre.length + ua.length) = u := ⟨_, rfl⟩
        obtain ⟨uc, ec⟩ : ∃ u, unf l f l[k].C.toNat (pre.length + ua.length + ub.length) = u := ⟨_, rfl⟩
        have pa := pa pre.length; rw [ea] at pa
        have pb := pb (pre.length + ua.length); rw [eb] at pb
        have pc := pc (pre.length + ua.length + ub.length); rw [ec] at pc
        rw [unf_pick hk h9 ea eb ec] at hF ⊢
        obtain ⟨x, hx⟩ : ∃ x : El, x = ⟨9, ((pre.length + ua.length : Nat) : Int) - 1, ((pre.length + ua.length + ub.length : Nat) : Int) - 1, ((pre.length + ua.length + ub.length + uc.length : Nat) : Int) - 1, 0, 0⟩ := ⟨_, rfl⟩
        rw [← hx] at hF ⊢
        simp only [List.length_append, List.length_cons, List.length_nil] at hF ⊢
        have i1 := ia pre (ub ++ uc ++ [x] ++ post) G (by rw [ea]; omega)
        have i2 := ib (pre ++ ua) (uc ++ [x] ++ post) G (by rw [List.length_append, eb]; omega)
        have i3 := ic (pre ++ ua ++ ub) ([x] ++ post) G (by rw [List.length_append, List.length_append, ec]; omega)
        rw [ea] at i1
        rw [List.length_append, eb] at i2
        rw [List.length_append, List.length_append, ec] at i3
        have e0 : pre.length + (ua.length + ub.length + uc.length + (0 + 1)) - 1 = pre.length + ua.length + ub.length + uc.length := by omega
        rw [e0]
        have eL : pre ++ (ua ++ ub ++ uc ++ [x]) ++ post = (pre ++ ua ++ ub ++ uc) ++ x :: post := by simp
        have e1 : pre ++ ua ++ (ub ++ uc ++ [x] ++ post) = pre ++ (ua ++ ub ++ uc ++ [x]) ++ post := by simp
        have e2 : pre ++ ua ++ ub ++ (uc ++ [x] ++ post) = pre ++ (ua ++ ub ++ uc ++ [x]) ++ post := by simp
        have e3 : pre ++ ua ++ ub ++ uc ++ ([x] ++ post) = pre ++ (ua ++ ub ++ uc ++ [x]) ++ post := by simp
        rw [e1] at i1
        rw [e2] at i2
        rw [e3] at i3
        have hlt : pre.length + ua.length + ub.length + uc.length < (pre ++ (ua ++ ub ++ uc ++ [x]) ++ post).length := by simp; omega
        have hget : (pre ++ (ua ++ ub ++ uc ++ [x]) ++ post)[pre.length + ua.length + ub.length + uc.length]'hlt = x := by
          simp only [eL]
          rw [List.getElem_append_right (by simp; omega)]
          simp [Nat.add_assoc]
        rw [wordsF, dif_pos hlt, hget, hx]
        simp only []
        rw [if_neg (by omega)]
        simp only [if_true]
        rw [wordsF, dif_pos hk, if_neg hs, if_pos h9, h9]
        rw [← hx, show (((pre.length + ua.length : Nat) : Int) - 1).toNat = pre.length + ua.length - 1 by omega, show (((pre.length + ua.length + ub.length : Nat) : Int) - 1).toNat = pre.length + ua.length + ub.length - 1 by omega, show (((pre.length + ua.length + ub.length + uc.length : Nat) : Int) - 1).toNat = pre.length + ua.length + ub.length + uc.length - 1 by omega, i1, i2, i3]
      · obtain ⟨ua, ea⟩ : ∃ u, unf l f l[k].A.toNat pre.length = u := ⟨_, rfl⟩
        obtain ⟨ub, eb⟩ : ∃ u, unf l f l[k].B.toNat (pre.length + ua.length) = u := ⟨_, rfl⟩
        have pa := pa pre.length; rw [ea] at pa
        have pb := pb (pre.length + ua.length); rw [eb] at pb
        rw [unf_two hk hs h9 ea eb] at hF ⊢
        obtain ⟨x, hx⟩ : ∃ x : El, x = ⟨l[k].Kind, ((pre.length + ua.length : Nat) : Int) - 1, ((pre.length + ua.length + ub.length : Nat) : Int) - 1, 0, 0, 0⟩ := ⟨_, rfl⟩
        rw [← hx] at hF ⊢
        simp only [List.length_append, List.length_cons, List.length_nil] at hF ⊢
        have i1 := ia pre (ub ++ [x] ++ post) G (by rw [ea]; omega)
        have i2 := ib (pre ++ ua) ([x] ++ post) G (by rw [List.length_append, eb]; omega)
        rw [ea] at i1
        rw [List.length_append, eb] at i2
        have e0 : pre.length + (ua.length + ub.length + (0 + 1)) - 1 = pre.length + ua.length + ub.length := by omega
        rw [e0]
        have eL : pre ++ (ua ++ ub ++ [x]) ++ post = (pre ++ ua ++ ub) ++ x :: post := by simp
        have e1 : pre ++ ua ++ (ub ++ [x] ++ post) = pre ++ (ua ++ ub ++ [x]) ++ post := by simp
        have e2 : pre ++ ua ++ ub ++ ([x] ++ post) = pre ++ (ua ++ ub ++ [x]) ++ post := by simp
        rw [e1] at i1
        rw [e2] at i2
        have hlt : pre.length + ua.length + ub.length < (pre ++ (ua ++ ub ++ [x]) ++ post).length := by simp; omega
        have hget : (pre ++ (ua ++ ub ++ [x]) ++ post)[pre.length + ua.length + ub.length]'hlt = x := by
          simp only [eL]
          rw [List.getElem_append_right (by simp; omega)]
          simp [Nat.add_assoc]
        rw [wordsF, dif_pos hlt, hget, hx]
        simp only []
        rw [if_neg hs, if_neg h9, wordsF, dif_pos hk, if_neg hs, if_neg h9]
        rw [← hx, show (((pre.length + ua.length : Nat) : Int) - 1).toNat = pre.length + ua.length - 1 by omega, show (((pre.length + ua.length + ub.length : Nat) : Int) - 1).toNat = pre.length + ua.length + ub.length - 1 by omega, i1, i2]
end Go.Proofs.YtiogpiopgcbdbaaGreatDoor.ReadM

/- Reading one node by its operands, one behind the other: plain mathematics. -/
namespace Go.Proofs.YtiogpiopgcbdbaaGreatDoor.ReadK
open TNode NodeMath FracMath FracTxM NumMath NumParse NumBack HexMath SizeM ReadM
/-- As many nodes more as words less. -/
theorem read_len : ∀ (f : Nat) (ws : List SizeM.W) (out o : List El) (r : List SizeM.W), readT f ws out = some (o, r) → o.length + r.length = out.length + ws.length
  | 0, _, _, _, _, h => by rw [readT] at h; cases h
  | _ + 1, [], _, _, _, h => by rw [readT] at h; cases h
  | f + 1, w :: ws, out, o, r, h => by
    rw [readT] at h
    split at h
    · cases h; simp; omega
    · split at h
      · cases h; simp; omega
      · split at h
        · cases h
        · cases e1 : readT f ws out with
          | none => rw [e1] at h; cases h
          | some p1 =>
            obtain ⟨o1, r1⟩ := p1
            rw [e1] at h
            simp only [] at h
            have l1 := read_len f ws out o1 r1 e1
            cases e2 : readT f r1 o1 with
            | none => rw [e2] at h; cases h
            | some p2 =>
              obtain ⟨o2, r2⟩ := p2
              rw [e2] at h
              simp only [] at h
              have l2 := read_len f r1 o1 o2 r2 e2
              split at h
              · cases e3 : readT f r2 o2 with
                | none => rw [e3] at h; cases h
                | some p3 =>
                  obtain ⟨o3, r3⟩ := p3
                  rw [e3] at h
                  simp only [] at h
                  have l3 := read_len f r2 o2 o3 r3 e3
                  cases h
                  simp
                  omega
              · cases h
                simp
                omega
theorem drop_suffix {α : Type} {l r : List α} {p : Nat} (h : r <:+ l.drop p) : r = l.drop (l.length - r.length) := List.suffix_iff_eq_drop.1 (h.trans (List.drop_suffix p l))
/-- The kind that the search has found ahead of k. -/
def kindTo (w : SizeM.W) (k : Int) : Int := if kindOf w < k then kindOf w else 0
theorem kind_or (w : SizeM.W) : kindOf w = 0 ∨ 3 ≤ kindOf w ∧ kindOf w ≤ 9 := by
  unfold kindOf
  repeat' split
  all_goals omega
theorem kindTo_3 (w : SizeM.W) : kindTo w 3 = 0 := by
  unfold kindTo
  have := kind_or w
  split <;> omega
theorem kindTo_10 (w : SizeM.W) : kindTo w 10 = kindOf w := by
  unfold kindTo
  have := kind_or w
  split <;> omega
theorem name_kind (w : SizeM.W) (h : kindOf w ≠ 0) : nameW (kindOf w) = w := by
  unfold kindOf at h ⊢
  repeat' split
  all_goals first
    | (subst_vars; rfl)
    | (simp_all; done)
theorem kindTo_yes {w : SizeM.W} {k : Int} (h : 3 ≤ k ∧ k ≤ 9) (e : nameW k = w) : kindTo w (k + 1) = k := by
  have : kindOf w = k := by rw [← e]; exact kind_name h
  unfold kindTo
  rw [this, if_pos (by omega)]
theorem kindTo_no {w : SizeM.W} {k : Int} (h : 3 ≤ k ∧ k ≤ 9) (e : nameW k ≠ w) : kindTo w (k + 1) = kindTo w k := by
  have : kindOf w ≠ k := fun h2 => e (by rw [← h2]; exact name_kind w (by omega))
  unfold kindTo
  by_cases h2 : kindOf w < k
  · rw [if_pos (by omega), if_pos h2]
  · rw [if_neg (by omega), if_neg h2]
/-- The operands from the j-th on. -/
def after (k : Int) (f : Nat) (j : Nat) (A B C : Int) (o : List El) (r : List SizeM.W) : Option (List El × List SizeM.W) :=
  if h : j < 2 ∨ (j < 3 ∧ k = 9) then match readT f r o with
    | none => none
    | some (o', r') => after k f (j + 1) (if j = 0 then (o'.length : Int) - 1 else A) (if j = 1 then (o'.length : Int) - 1 else B) (if 2 ≤ j then (o'.length : Int) - 1 else C) o' r'
  else some (o ++ [⟨k, A, B, C, 0, 0⟩], r)
termination_by 3 - j
decreasing_by omega
theorem after_none {k : Int} {f j : Nat} {A B C : Int} {o : List El} {r : List SizeM.W} (h : j < 2 ∨ (j < 3 ∧ k = 9)) (e : readT f r o = none) : after k f j A B C o r = none := by rw [after, dif_pos h, e]
theorem after_some {k : Int} {f j : Nat} {A B C : Int} {o o' : List El} {r r' : List SizeM.W} (h : j < 2 ∨ (j < 3 ∧ k = 9)) (e : readT f r o = some (o', r')) : after k f j A B C o r = after k f (j + 1) (if j = 0 then (o'.length : Int) - 1 else A) (if j = 1 then (o'.length : Int) - 1 else B) (if 2 ≤ j then (o'.length : Int) - 1 else C) o' r' := by rw [after, dif_pos h, e]
theorem after_end {k : Int} {f j : Nat} {A B C : Int} {o : List El} {r : List SizeM.W} (h : ¬ (j < 2 ∨ (j < 3 ∧ k = 9))) : after k f j A B C o r = some (o ++ [⟨k, A, B, C, 0, 0⟩], r) := by rw [after, dif_neg h]
theorem read_after {f : Nat} {w : SizeM.W} {r : List SizeM.W} {out : List El} (h1 : (parseT w).2.2 = false) (h2 : varOf w < 0) (h3 : kindOf w ≠ 0) : readT (f + 1) (w :: r) out = after (kindOf w) f 0 0 0 0 out r := by
  rw [readT, if_neg (by rw [h1]; simp), if_neg (by omega), if_neg h3]
  cases e1 : readT f r out with
  | none => rw [after_none (by omega) e1]
  | some p1 =>
    obtain ⟨o1, r1⟩ := p1
    rw [after_some (by omega) e1]
    simp only []
    cases e2 : readT f r1 o1 with
    | none => rw [after_none (by omega) e2]
    | some p2 =>
      obtain ⟨o2, r2⟩ := p2
      rw [after_some (by omega) e2]
      simp only []
      by_cases h9 : kindOf w = 9
      · rw [if_pos h9]
        cases e3 : readT f r2 o2 with
        | none => rw [after_none (by omega) e3]
        | some p3 =>
          obtain ⟨o3, r3⟩ := p3
          rw [after_some (by omega) e3, after_end (by omega), h9]
          rfl
      · rw [if_neg h9, after_end (by omega)]
        rfl
theorem var_no {l : SizeM.W} (h : ¬ ∃ c : Nat, l = [118, UInt8.ofNat c] ∧ 48 ≤ c ∧ c ≤ 55) : varOf l < 0 := by
  unfold varOf
  split
  · rename_i a c
    rw [if_neg]
    · omega
    · rintro ⟨rfl, h2, h3⟩
      exact h ⟨c.toNat, by simp, h2, h3⟩
  · omega
theorem two {s : ByteArray} (h : s.size = 2) : ∃ a b, s.data.toList = [a, b] ∧ (s[0]'(by omega)).toNat = a.toNat ∧ (s[1]'(by omega)).toNat = b.toNat := by
  have hl : s.data.toList.length = 2 := by simpa using h
  obtain ⟨a, b, e⟩ : ∃ a b, s.data.toList = [a, b] := by
    match e : s.data.toList, hl with
    | [a, b], _ => exact ⟨a, b, rfl⟩
  refine ⟨a, b, e, ?_, ?_⟩
  · have : s[0]'(by omega) = s.data.toList[0]'(by simp; omega) := rfl
    rw [this]; simp only [e]; rfl
  · have : s[1]'(by omega) = s.data.toList[1]'(by simp; omega) := rfl
    rw [this]; simp only [e]; rfl
end Go.Proofs.YtiogpiopgcbdbaaGreatDoor.ReadK

/- A node's operands as a list; size, words and reading by them: plain mathematics. -/
namespace Go.Proofs.YtiogpiopgcbdbaaGreatDoor.OpsM
open TNode NodeMath FracMath FracTxM NumMath SizeM
def opsL (x : El) : List Int := if x.Kind ≤ 2 then [] else if x.Kind = 9 then [x.A, x.B, x.C] else [x.A, x.B]
def wordW (x : El) : W := if x.Kind ≤ 2 then leafW x else nameW x.Kind
theorem ops_len (x : El) : (opsL x).length ≤ 3 := by unfold opsL; split; · simp
                                                     split <;> simp
theorem ok_ops {l : List El} (hl : OkF l) {k : Nat} (h : k < l.length) : ∀ o ∈ opsL l[k], 0 ≤ o ∧ o.toNat < k := by
  obtain ⟨c1, c2, c3⟩ := ok_at hl h
  intro o ho
  unfold opsL at ho
  split at ho
  · cases ho
  · have c2 := c2 (by omega)
    split at ho
    next h9 =>
      have c3 := c3 h9
      simp only [List.mem_cons, List.not_mem_nil, or_false] at ho
      rcases ho with rfl | rfl | rfl
      · exact c2.1
      · exact c2.2
      · exact c3
    next h9 =>
      simp only [List.mem_cons, List.not_mem_nil, or_false] at ho
      rcases ho with rfl | rfl
      · exact c2.1
      · exact c2.2
theorem kind_at {l : List El} (hl : OkF l) {k : Nat} (h : k < l.length) : 1 ≤ l[k].Kind ∧ l[k].Kind ≤ 9 := by
  obtain ⟨c1, _, _⟩ := ok_at hl h
  omega
/-- The operands' sizes ahead of the j-th. -/
def sumTo (l : List El) (os : List Int) (j : Nat) : Int := ((os.take j).map fun o => sz l o.toNat).sum
theorem sumTo_succ (l : List El) (os : List Int) (j : Nat) (h : j < os.length) : sumTo l os (j + 1) = sumTo l os j + sz l os[j].toNat := by
  unfold sumTo
  rw [List.take_succ_eq_append_getElem h, List.map_append, List.sum_append]
  simp only [List.map_cons, List.map_nil, List.sum_cons, List.sum_nil, Int.add_zero]
theorem sumTo_bd (l : List El) (os : List Int) : ∀ j, 0 ≤ sumTo l os j ∧ sumTo l os j ≤ 25 * (j : Int)
  | 0 => by simp [sumTo]
  | j + 1 => by
    have ih := sumTo_bd l os j
    by_cases h : j < os.length
    · rw [sumTo_succ l os j h]
      have := sz_bd l os[j].toNat
      omega
    · have e : sumTo l os (j + 1) = sumTo l os j := by unfold sumTo; rw [List.take_of_length_le (by omega), List.take_of_length_le (by omega)]
      rw [e]
      omega
theorem sz_ops {l : List El} (hl : OkF l) {k : Nat} (h : k < l.length) : sz l k = min (1 + sumTo l (opsL l[k]) (opsL l[k]).length) 25 := by
  unfold sumTo
  rw [List.take_length]
  unfold opsL
  by_cases hs : l[k].Kind ≤ 2
  · rw [if_pos hs, sz_leaf h hs]; rfl
  · rw [if_neg hs]
    by_cases h9 : l[k].Kind = 9
    · rw [if_pos h9, sz_pick hl h h9]
      simp only [List.map_cons, List.map_nil, List.sum_cons, List.sum_nil]
      congr 1
      omega
    · rw [if_neg h9, sz_two hl h hs h9]
      simp only [List.map_cons, List.map_nil, List.sum_cons, List.sum_nil]
      congr 1
      omega
/-- The words of the operands from the j-th on. -/
def wordsFrom (l : List El) (os : List Int) : List W := os.flatMap fun o => words l o.toNat
theorem words_ops {l : List El} (hl : OkF l) {k : Nat} (h : k < l.length) : words l k = wordW l[k] :: wordsFrom l (opsL l[k]) := by
  unfold opsL wordW wordsFrom
  by_cases hs : l[k].Kind ≤ 2
  · rw [if_pos hs, if_pos hs, words_leaf h hs]; rfl
  · rw [if_neg hs, if_neg hs]
    by_cases h9 : l[k].Kind = 9
    · rw [if_pos h9, words_pick hl h h9]; simp
    · rw [if_neg h9, words_two hl h hs h9]; simp
end Go.Proofs.YtiogpiopgcbdbaaGreatDoor.OpsM

/- The program's way to the fraction of a text: cut at the first slash, both parts as decimal numbers, the text laid anew and compared. Plain mathematics; imports nothing of the dump. -/
namespace Go.Proofs.YtiogpiopgcbdbaaGreatDoor.AtoiM
open FracMath HexMath NumMath NumParse NumBack FracTxM
/-- Digits behind an accumulator. -/
def vdA (acc : Nat) (l : List UInt8) : Nat := l.foldl (fun x b => 10 * x + (b.toNat - 48)) acc
theorem vdA_ge : ∀ (l : List UInt8) (acc : Nat), acc ≤ vdA acc l
  | [], _ => Nat.le_refl _
  | b :: l, acc => by
    have := vdA_ge l (10 * acc + (b.toNat - 48))
    have e : vdA acc (b :: l) = vdA (10 * acc + (b.toNat - 48)) l := rfl
    omega
theorem parse_digits : ∀ (l : List UInt8) (acc : Nat), l.all isD = true → vdA acc l < 10 ^ 18 → Lib.parseUint10 acc l = .ok (vdA acc l)
  | [], _, _, _ => rfl
  | b :: l, acc, hd, hv => by
    rw [List.all_cons, Bool.and_eq_true] at hd
    have hb := hd.1
    simp only [isD, decide_eq_true_eq] at hb
    have e : vdA acc (b :: l) = vdA (10 * acc + (b.toNat - 48)) l := rfl
    rw [e] at hv ⊢
    have hge := vdA_ge l (10 * acc + (b.toNat - 48))
    have h18 : (10 : Nat) ^ 18 = 1000000000000000000 := by decide
    rw [h18] at hv
    rw [Lib.parseUint10, if_pos hb, if_neg (by omega), if_neg (by omega), show acc * 10 + (b.toNat - 48) = 10 * acc + (b.toNat - 48) by omega]
    exact parse_digits l _ hd.2 (by rw [h18]; exact hv)
theorem mag_dg {n : Nat} (h : n < 10 ^ 18) (h0 : 0 < n) : Lib.parseMag (dg n) = .ok n := by
  obtain ⟨h1, h2⟩ := dg_back n n (Nat.le_refl _)
  unfold Lib.parseMag
  rw [if_neg (by rw [dg_pos n h0]; simp), parse_digits _ _ h2 (by show vd (dg n) < _; rw [h1]; exact h)]
  exact congrArg _ h1
/-- A number's decimal text is read as the number. -/
theorem atoi_fmt {n : Int} (h1 : -1000000000000 ≤ n) (h2 : n ≤ 1000000000000) : Lib.atoiAll (fmt n) = .ok n := by
  have h18 : (10 : Nat) ^ 18 = 1000000000000000000 := by decide
  by_cases h0 : n = 0
  · subst h0; decide
  · unfold fmt
    rw [if_neg h0]
    by_cases hn : n < 0
    · rw [if_pos hn, Lib.atoiAll_minus, mag_dg (by rw [h18]; omega) (by omega), Lib.signed, if_neg (by omega)]
      congr 1
      omega
    · rw [if_neg hn]
      obtain ⟨a, r, e, ha⟩ := dg_head n.natAbs n.natAbs (Nat.le_refl _) (by omega)
      have hm := mag_dg (n := n.natAbs) (by rw [h18]; omega) (by omega)
      obtain ⟨_, hd⟩ := dg_back n.natAbs n.natAbs (Nat.le_refl _)
      rw [e] at hm hd ⊢
      rw [List.all_cons, Bool.and_eq_true] at hd
      have hb := hd.1
      simp only [isD, decide_eq_true_eq] at hb
      rw [Lib.atoiAll_plain a r (by omega) (by omega), hm, Lib.signless, if_neg (by omega)]
      congr 1
      omega
theorem index_no : ∀ {l : List UInt8} {c : UInt8}, c ∉ l → Lib.indexByte l c = -1
  | [], _, _ => rfl
  | b :: l, c, h => by
    rw [List.mem_cons, not_or] at h
    have hb : (b == c) = false := beq_eq_false_iff_ne.2 (fun e => h.1 e.symm)
    rw [Lib.indexByte, hb, index_no h.2]
    rfl
theorem index_at : ∀ {l r : List UInt8} {c : UInt8}, c ∉ l → Lib.indexByte (l ++ c :: r) c = l.length
  | [], r, c, _ => by
    rw [List.nil_append, Lib.indexByte, beq_self_eq_true]
    rfl
  | b :: l, r, c, h => by
    rw [List.mem_cons, not_or] at h
    have hb : (b == c) = false := beq_eq_false_iff_ne.2 (fun e => h.1 e.symm)
    have ih := index_at (r := r) h.2
    have hne : ((l.length : Int) == -1) = false := beq_eq_false_iff_ne.2 (by omega)
    rw [List.cons_append, Lib.indexByte, hb, ih, hne, List.length_cons]
    simp
/-- The text's parts at the first slash. -/
theorem cut_no {l : List UInt8} (h : (47 : UInt8) ∉ l) : Lib.cut l [47] = (l, [], false) := by
  unfold Lib.cut
  rw [Lib.index_one, index_no h, if_neg (by omega)]
theorem cut_at {l r : List UInt8} (h : (47 : UInt8) ∉ l) : Lib.cut (l ++ 47 :: r) [47] = (l, r, true) := by
  unfold Lib.cut
  rw [Lib.index_one, index_at h, if_pos (by omega), Int.toNat_natCast, List.take_left' rfl, List.length_singleton]
  have e : l ++ 47 :: r = (l ++ [47]) ++ r := by simp
  rw [e, List.drop_left' (by simp)]
theorem fmt_noslash (n : Int) : (47 : UInt8) ∉ fmt n := by
  have hdg : ∀ m : Nat, (47 : UInt8) ∉ dg m := fun m hm => by
    obtain ⟨_, hd⟩ := dg_back m m (Nat.le_refl _)
    have := List.all_eq_true.1 hd 47 hm
    exact absurd this (by decide)
  unfold fmt
  split
  · decide
  · split
    · rw [List.mem_cons, not_or]; exact ⟨by decide, hdg _⟩
    · exact hdg _
/-- The lower part, '1' where there is no slash. -/
def lower (l : List UInt8) : List UInt8 := if (Lib.cut l [47]).2.2 = true then (Lib.cut l [47]).2.1 else [49]
def upper (l : List UInt8) : List UInt8 := (Lib.cut l [47]).1
theorem parts_cut {n d : Int} (h : okB n d = true) : upper (fracT n d) = fmt n ∧ lower (fracT n d) = fmt d := by
  by_cases hd : d = 1
  · subst hd
    rw [fracT_one h]
    unfold upper lower
    rw [cut_no (fmt_noslash n)]
    refine ⟨rfl, ?_⟩
    rw [if_neg (by simp), show (1 : Int) = ((1 : Nat) : Int) from rfl]
    unfold fmt
    rw [if_neg (by omega), if_neg (by omega), Int.natAbs_natCast, dg_pos 1 (by omega), dg_zero]
    rfl
  · rw [fracT_two h hd]
    have e : fmt n ++ [47] ++ fmt d = fmt n ++ 47 :: fmt d := by simp
    rw [e]
    unfold upper lower
    rw [cut_at (fmt_noslash n)]
    exact ⟨rfl, rfl⟩
/-- Where one of the parts is no number there is no fraction. -/
theorem no_num {l : List UInt8} (h : ∀ n, Lib.atoiAll (upper l) ≠ .ok n) : parseT l = (0, 0, false) := parse_no fun n d ho e => by
  subst e
  have hb := ok_bd ho
  refine h n ?_
  rw [(parts_cut ho).1]
  exact atoi_fmt (by omega) (by omega)
theorem no_den {l : List UInt8} (h : ∀ n, Lib.atoiAll (lower l) ≠ .ok n) : parseT l = (0, 0, false) := parse_no fun n d ho e => by
  subst e
  have hb := ok_bd ho
  refine h d ?_
  rw [(parts_cut ho).2]
  exact atoi_fmt (by omega) (by omega)
theorem both_no {l : List UInt8} {n d : Int} (h1 : Lib.atoiAll (upper l) = .ok n) (h2 : Lib.atoiAll (lower l) = .ok d) (h : fracT n d ≠ l) : parseT l = (0, 0, false) := parse_no fun n' d' ho e => by
  have hb := ok_bd ho
  rw [← e, (parts_cut ho).1, atoi_fmt (by omega) (by omega)] at h1
  rw [← e, (parts_cut ho).2, atoi_fmt (by omega) (by omega)] at h2
  cases h1
  cases h2
  exact h e
theorem both_yes {l : List UInt8} {n d : Int} (h1 : Lib.atoiAll (upper l) = .ok n) (h : fracT n d = l) : parseT l = (n, d, true) := by
  cases ho : okB n d with
  | true => rw [← h]; exact parse_frac ho
  | false =>
    rw [fracT_no ho] at h
    subst h
    have : Lib.atoiAll (upper []) = Lib.atoiAll [] := by decide
    rw [this] at h1
    simp [Lib.atoiAll] at h1
end Go.Proofs.YtiogpiopgcbdbaaGreatDoor.AtoiM

/- The words of the operations as a map's reading, and the kinds by their words: plain mathematics. Imports nothing of the dump. -/
namespace Go.Proofs.YtiogpiopgcbdbaaGreatDoor.MapM
open TNode NodeMath FracMath FracTxM NumMath SizeM ReadM Go.Maps
abbrev DU : Type := DataW Unit
abbrev kI (k : Int) : Lit := .int .i64 k
abbrev kS (l : List UInt8) : Lit := .string l
abbrev vI (k : Int) : DU := .lit (.int .i64 k)
abbrev vS (l : List UInt8) : DU := .lit (.string l)
def D0 : DU := .map []
def D1 : DU := D0.put (kI 3) (vS [43])
def D2 : DU := D1.put (kI 4) (vS [45])
def D3 : DU := D2.put (kI 5) (vS [42])
def D4 : DU := D3.put (kI 6) (vS [47])
def D5 : DU := D4.put (kI 7) (vS [109, 105, 110])
def D6 : DU := D5.put (kI 8) (vS [109, 97, 120])
def Dw : DU := D6.put (kI 9) (vS [112, 105, 99, 107])
theorem Dw_at {k : Int} (h : 3 ≤ k ∧ k ≤ 9) (z : DU) : Dw.atKey (kI k) z = vS (nameW k) := by
  have hk : k = 3 ∨ k = 4 ∨ k = 5 ∨ k = 6 ∨ k = 7 ∨ k = 8 ∨ k = 9 := by omega
  rcases hk with rfl | rfl | rfl | rfl | rfl | rfl | rfl <;> rfl
theorem Dw_size : size Dw = 7 := rfl
theorem Dw_in {k : Int} (h : 3 ≤ k ∧ k ≤ 9) : has Dw (kI k) = true := by
  have hk : k = 3 ∨ k = 4 ∨ k = 5 ∨ k = 6 ∨ k = 7 ∨ k = 8 ∨ k = 9 := by omega
  rcases hk with rfl | rfl | rfl | rfl | rfl | rfl | rfl <;> rfl
theorem Dw_has {kl : Lit} (h : has Dw kl = true) : ∃ k, 3 ≤ k ∧ k ≤ 9 ∧ kl = kI k := by
  by_cases h9 : kl = kI 9
  · exact ⟨9, by omega, by omega, h9⟩
  rw [Dw, has_put_other h9] at h
  by_cases h8 : kl = kI 8
  · exact ⟨8, by omega, by omega, h8⟩
  rw [D6, has_put_other h8] at h
  by_cases h7 : kl = kI 7
  · exact ⟨7, by omega, by omega, h7⟩
  rw [D5, has_put_other h7] at h
  by_cases h6 : kl = kI 6
  · exact ⟨6, by omega, by omega, h6⟩
  rw [D4, has_put_other h6] at h
  by_cases h5 : kl = kI 5
  · exact ⟨5, by omega, by omega, h5⟩
  rw [D3, has_put_other h5] at h
  by_cases h4 : kl = kI 4
  · exact ⟨4, by omega, by omega, h4⟩
  rw [D2, has_put_other h4] at h
  by_cases h3 : kl = kI 3
  · exact ⟨3, by omega, by omega, h3⟩
  rw [D1, has_put_other h3] at h
  cases h
/-- The kinds of the words that have come. -/
structure Kd (D : DU) (left : Lit → Bool) : Prop where
  val : ∀ s : List UInt8, D.atKey (kS s) (vI 0) = vI (if kindOf s ≠ 0 ∧ left (kI (kindOf s)) = false then kindOf s else 0)
  here : ∀ s : List UInt8, has D (kS s) = decide (kindOf s ≠ 0 ∧ left (kI (kindOf s)) = false)
theorem Kd.start : Kd D0 (has Dw) := by
  have h : ∀ s : List UInt8, ¬ (kindOf s ≠ 0 ∧ has Dw (kI (kindOf s)) = false) := fun s h => by
    have := Dw_in (k := kindOf s) (by rcases ReadK.kind_or s with e | e; · exact absurd e h.1
                                      · exact e)
    rw [this] at h
    cases h.2
  exact ⟨fun s => by rw [if_neg (h s)]; rfl, fun s => by rw [decide_eq_false (h s)]; rfl⟩
theorem Kd.step {D : DU} {left : Lit → Bool} (h : Kd D left) (hD : IsMap D) {x : Int} (hx : 3 ≤ x ∧ x ≤ 9) : Kd (D.put (kS (nameW x)) (vI x)) (fun z => left z && !z.sameKey (kI x)) := by
  have hk : kindOf (nameW x) = x := kind_name hx
  have hs : (kI x).sameKey (kI x) = true := WideAt.sameKey_self trivial
  have key : ∀ s : List UInt8, s ≠ nameW x → (kindOf s ≠ 0 ∧ (left (kI (kindOf s)) && !(kI (kindOf s)).sameKey (kI x)) = false ↔ kindOf s ≠ 0 ∧ left (kI (kindOf s)) = false) := fun s hne => by
    by_cases h0 : kindOf s = 0
    · simp [h0]
    · have : kI (kindOf s) ≠ kI x := fun e => hne (by
        have e' : kindOf s = x := by injection e
        rw [← ReadK.name_kind s h0, e'])
      rw [sameKey_ne this]
      simp
  refine ⟨fun s => ?_, fun s => ?_⟩
  · by_cases e : s = nameW x
    · subst e
      rw [atKey_put_same hD (show WideAt.IsKeyLit (kS (nameW x)) from trivial), hk, hs, if_pos ⟨by omega, by simp⟩]
    · rw [atKey_put_other (fun h => e (by injection h)), h.val s]
      by_cases hA : kindOf s ≠ 0 ∧ left (kI (kindOf s)) = false
      · rw [if_pos hA, if_pos ((key s e).2 hA)]
      · rw [if_neg hA, if_neg (fun h => hA ((key s e).1 h))]
  · by_cases e : s = nameW x
    · subst e
      rw [has_put_same hD (show WideAt.IsKeyLit (kS (nameW x)) from trivial), hk, hs]
      exact (decide_eq_true ⟨by omega, by simp⟩).symm
    · rw [has_put_other (fun h => e (by injection h)), h.here s]
      exact decide_eq_decide.2 (key s e).symm
/-- All kinds by their words. -/
structure KD (D : DU) : Prop where
  val : ∀ s : List UInt8, D.atKey (kS s) (vI 0) = vI (kindOf s)
  here : ∀ s : List UInt8, has D (kS s) = decide (kindOf s ≠ 0)
theorem Kd.done {D : DU} {left : Lit → Bool} (h : Kd D left) (hl : ∀ kl, left kl = false) : KD D := by
  refine ⟨fun s => ?_, fun s => ?_⟩
  · rw [h.val s]
    by_cases h0 : kindOf s = 0
    · rw [if_neg (fun e => e.1 h0), h0]
    · rw [if_pos ⟨h0, hl _⟩]
  · rw [h.here s]
    exact decide_eq_decide.2 ⟨fun e => e.1, fun e => ⟨e, hl _⟩⟩
end Go.Proofs.YtiogpiopgcbdbaaGreatDoor.MapM

/- One word of a formula, and a node by its operands in order: plain mathematics. -/
namespace Go.Proofs.YtiogpiopgcbdbaaGreatDoor.WordM
open TNode NodeMath FracMath FracTxM NumMath NumParse NumBack HexMath SizeM ReadM OpsM
def numV (t : SizeM.W) : Int := match pU t with | some n => (n : Int) | none => 0
def okV (t : SizeM.W) : Bool := match pU t with | some _ => true | none => false
def okW (t : SizeM.W) : Bool := okV t && decide (numV t < 8)
/-- The node of a word, still without operands. -/
def readW (w : SizeM.W) : El × Bool :=
  if kindOf w ≠ 0 then (⟨kindOf w, 0, 0, 0, 0, 0⟩, true)
  else if w.head? = some 118 then (⟨2, numV w.tail, 0, 0, 0, 0⟩, okW w.tail)
  else (⟨1, 0, 0, 0, (parseT w).1, (parseT w).2.1⟩, (parseT w).2.2)
theorem head_frac (n d : Int) : (fracT n d).head? ≠ some 118 := by
  have hf : ∀ r, (fmt n ++ r).head? ≠ some 118 := fun r e => by
    unfold fmt at e
    split at e
    · exact absurd e (by simp)
    · split at e
      · exact absurd e (by simp)
      · obtain ⟨_, hd⟩ := dg_back n.natAbs n.natAbs (Nat.le_refl _)
        rw [dg_pos n.natAbs (by omega)] at e hd
        cases hc : dg (n.natAbs / 10) with
        | nil =>
          rw [hc] at e hd
          simp only [List.nil_append, List.cons_append, List.head?_cons, Option.some.injEq] at e
          rw [e] at hd
          exact absurd hd (by decide)
        | cons b t =>
          rw [hc] at e hd
          simp only [List.cons_append, List.head?_cons, Option.some.injEq] at e
          subst e
          simp only [List.cons_append, List.all_cons, Bool.and_eq_true] at hd
          exact absurd hd.1 (by decide)
  unfold fracT
  split
  · split
    · have := hf []; rwa [List.append_nil] at this
    · rw [List.append_assoc]; exact hf _
  · simp
theorem parse_v {w : SizeM.W} (h : w.head? = some 118) : (parseT w).2.2 = false := by
  rw [parse_no (fun n d _ e => head_frac n d (by rw [e]; exact h))]
theorem var_head {w : SizeM.W} (h : w.head? ≠ some 118) : varOf w < 0 := by
  unfold varOf
  split
  · rename_i a c
    rw [if_neg]
    · omega
    · rintro ⟨rfl, _⟩
      exact h rfl
  · omega
theorem kind_v {w : SizeM.W} (h : w.head? = some 118) : kindOf w = 0 := by
  rcases ReadK.kind_or w with h0 | h0
  · exact h0
  · have e := ReadK.name_kind w (by omega)
    have hk : kindOf w = 3 ∨ kindOf w = 4 ∨ kindOf w = 5 ∨ kindOf w = 6 ∨ kindOf w = 7 ∨ kindOf w = 8 ∨ kindOf w = 9 := by omega
    rcases hk with k | k | k | k | k | k | k <;> (rw [k] at e; rw [← e] at h; exact absurd h (by decide))
theorem var_num {t : SizeM.W} : (okW t = true ∧ varOf (118 :: t) = numV t ∧ 0 ≤ numV t) ∨ (okW t = false ∧ varOf (118 :: t) < 0) := by
  unfold okW okV numV
  cases hp : pU t with
  | none =>
    refine .inr ⟨rfl, ?_⟩
    refine ReadK.var_no ?_
    rintro ⟨c, e, h1, h2⟩
    obtain ⟨k, rfl⟩ : ∃ k, c = 48 + k := ⟨c - 48, by omega⟩
    injection e with _ e
    have := pU_fmt (k : Int)
    rw [fmt_digit k (by omega), ← e, hp, if_pos (by omega)] at this
    cases this
  | some n =>
    simp only [Bool.true_and]
    have hp' := hp
    unfold pU at hp
    split at hp
    next h =>
      obtain rfl := Option.some.inj hp
      have hf := fmt_vd t h.1 h.2.1
      by_cases h8 : vd t < 8
      · refine .inl ⟨decide_eq_true (by omega), ?_, by omega⟩
        rw [← hf]
        have := (parse_var (vd t) h8).2
        rw [hf] at this ⊢
        exact this
      · refine .inr ⟨decide_eq_false (by omega), ReadK.var_no ?_⟩
        rintro ⟨c, e, h1, h2⟩
        obtain ⟨k, rfl⟩ : ∃ k, c = 48 + k := ⟨c - 48, by omega⟩
        injection e with _ e
        have := pU_fmt (k : Int)
        rw [fmt_digit k (by omega), ← e, hp', if_pos (by omega)] at this
        have := Option.some.inj this
        omega
    next => cases hp
/-- The operands from the j-th on, nn of them. -/
def aft (x : El) (nn : Nat) (f : Nat) (j : Nat) (A B C : Int) (o : List El) (r : List SizeM.W) : Option (List El × List SizeM.W) :=
  if h : j < nn then match readT f r o with
    | none => none
    | some (o', r') => aft x nn f (j + 1) (if j = 0 then (o'.length : Int) - 1 else A) (if j = 1 then (o'.length : Int) - 1 else B) (if 2 ≤ j then (o'.length : Int) - 1 else C) o' r'
  else some (o ++ [⟨x.Kind, A, B, C, x.Value_Num, x.Value_Den⟩], r)
termination_by nn - j
decreasing_by omega
theorem aft_none {x : El} {nn f j : Nat} {A B C : Int} {o : List El} {r : List SizeM.W} (h : j < nn) (e : readT f r o = none) : aft x nn f j A B C o r = none := by rw [aft, dif_pos h, e]
theorem aft_some {x : El} {nn f j : Nat} {A B C : Int} {o o' : List El} {r r' : List SizeM.W} (h : j < nn) (e : readT f r o = some (o', r')) : aft x nn f j A B C o r = aft x nn f (j + 1) (if j = 0 then (o'.length : Int) - 1 else A) (if j = 1 then (o'.length : Int) - 1 else B) (if 2 ≤ j then (o'.length : Int) - 1 else C) o' r' := by rw [aft, dif_pos h, e]
theorem aft_end {x : El} {nn f j : Nat} {A B C : Int} {o : List El} {r : List SizeM.W} (h : ¬ j < nn) : aft x nn f j A B C o r = some (o ++ [⟨x.Kind, A, B, C, x.Value_Num, x.Value_Den⟩], r) := by rw [aft, dif_neg h]
theorem aft_after {k : Int} {nn : Nat} (hn : ∀ j, j < nn ↔ (j < 2 ∨ (j < 3 ∧ k = 9))) : ∀ (m f j : Nat) (A B C : Int) (o : List El) (r : List SizeM.W), nn - j ≤ m → aft ⟨k, 0, 0, 0, 0, 0⟩ nn f j A B C o r = ReadK.after k f j A B C o r
  | 0, f, j, A, B, C, o, r, h => by rw [aft_end (by omega), ReadK.after_end (fun e => by have := (hn j).2 e; omega)]
  | m + 1, f, j, A, B, C, o, r, h => by
    by_cases hj : j < nn
    · cases e : readT f r o with
      | none => rw [aft_none hj e, ReadK.after_none ((hn j).1 hj) e]
      | some p =>
        obtain ⟨o', r'⟩ := p
        rw [aft_some hj e, ReadK.after_some ((hn j).1 hj) e]
        exact aft_after hn m f (j + 1) _ _ _ o' r' (by omega)
    · rw [aft_end hj, ReadK.after_end (fun e => hj ((hn j).2 e))]
theorem read_no {f : Nat} {w : SizeM.W} {r : List SizeM.W} {out : List El} (h : (readW w).2 = false) : readT (f + 1) (w :: r) out = none := by
  unfold readW at h
  by_cases hk : kindOf w = 0
  · rw [if_neg (by simp [hk])] at h
    by_cases hv : w.head? = some 118
    · rw [if_pos hv] at h
      obtain ⟨t, rfl⟩ : ∃ t, w = 118 :: t := by
        cases w with
        | nil => cases hv
        | cons a t => simp only [List.head?_cons, Option.some.injEq] at hv; subst hv; exact ⟨t, rfl⟩
      simp only [List.tail_cons] at h
      rcases var_num (t := t) with e | e
      · rw [h] at e; cases e.1
      · rw [readT, if_neg (by rw [parse_v hv]; simp), if_neg (by omega), if_pos hk]
    · rw [if_neg hv] at h
      simp only [] at h
      rw [readT, if_neg (by rw [h]; simp), if_neg (by have := var_head hv; omega), if_pos hk]
  · rw [if_pos hk] at h
    cases h
theorem read_aft {f : Nat} {w : SizeM.W} {r : List SizeM.W} {out : List El} {x : El} (h : readW w = (x, true)) : readT (f + 1) (w :: r) out = aft x (opsL x).length f 0 x.A x.B x.C out r ∧ 1 ≤ x.Kind ∧ x.Kind ≤ 9 := by
  unfold readW at h
  by_cases hk : kindOf w = 0
  · rw [if_neg (by simp [hk])] at h
    by_cases hv : w.head? = some 118
    · rw [if_pos hv] at h
      obtain ⟨t, rfl⟩ : ∃ t, w = 118 :: t := by
        cases w with
        | nil => cases hv
        | cons a t => simp only [List.head?_cons, Option.some.injEq] at hv; subst hv; exact ⟨t, rfl⟩
      simp only [List.tail_cons] at h
      obtain ⟨rfl, h2⟩ := Prod.mk.inj h
      rcases var_num (t := t) with e | e
      · rw [readT, if_neg (by rw [parse_v hv]; simp), if_pos (by omega), e.2.1]
        refine ⟨?_, by simp, by simp⟩
        rw [show (opsL (⟨2, numV t, 0, 0, 0, 0⟩ : El)).length = 0 from rfl, aft_end (by omega)]
      · rw [h2] at e; cases e.1
    · rw [if_neg hv] at h
      obtain ⟨rfl, h2⟩ := Prod.mk.inj h
      rw [readT, if_pos h2]
      refine ⟨?_, by simp, by simp⟩
      rw [show (opsL (⟨1, 0, 0, 0, (parseT w).1, (parseT w).2.1⟩ : El)).length = 0 from rfl, aft_end (by omega)]
  · rw [if_pos hk] at h
    obtain ⟨rfl, _⟩ := Prod.mk.inj h
    have hb := ReadK.kind_or w
    have hk3 : 3 ≤ kindOf w ∧ kindOf w ≤ 9 := by omega
    have e := ReadK.name_kind w hk
    have hp : (parseT w).2.2 = false := by rw [← e]; exact parse_name hk3
    have hvv : varOf w < 0 := by rw [← e, var_name hk3]; omega
    refine ⟨?_, by simp only []; omega, by simp only []; omega⟩
    rw [ReadK.read_after hp hvv hk]
    refine (aft_after (fun j => ?_) _ f 0 0 0 0 out r (Nat.le_refl _)).symm
    unfold opsL
    simp only []
    rw [if_neg (by omega)]
    by_cases h9 : kindOf w = 9
    · rw [if_pos h9]; simp; omega
    · rw [if_neg h9]; simp; omega
end Go.Proofs.YtiogpiopgcbdbaaGreatDoor.WordM

/- The fields of a line as plain functions on bytes: both texts go through the bytes with the same state. Imports nothing of the dump. -/
namespace Go.Proofs.YtiogpiopgcbdbaaGreatDoor.SplitMath

/-- Byte k of the line. -/
def at_ (s : ByteArray) (k : Nat) : Nat := (s.data.toList.getD k 0).toNat
theorem at_get (s : ByteArray) (k : Nat) (h : k < s.size) : s[k].toNat = at_ s k := by
  unfold at_
  have h' : k < s.data.toList.length := by simpa using h
  rw [List.getD_eq_getElem?_getD, List.getElem?_eq_getElem h']
  rfl
/-- Behind the first k bytes: where the open field begins; the fields that are closed. -/
def st (s : ByteArray) : Nat → Nat × List ByteArray
  | 0 => (0, [])
  | k + 1 => if at_ s k = 32 then (k + 1, if (st s k).1 < k then (st s k).2 ++ [s.extract (st s k).1 k] else (st s k).2) else st s k
/-- All fields. -/
def fin (s : ByteArray) : List ByteArray := if (st s s.size).1 < s.size then (st s s.size).2 ++ [s.extract (st s s.size).1 s.size] else (st s s.size).2
theorem st_le (s : ByteArray) (k : Nat) : (st s k).1 ≤ k ∧ (st s k).2.length ≤ k := by
  induction k with
  | zero => exact ⟨Nat.le_refl _, Nat.le_refl _⟩
  | succ k ih =>
    unfold st
    split
    · refine ⟨Nat.le_refl _, ?_⟩
      show (if (st s k).1 < k then _ else _ : List ByteArray).length ≤ k + 1
      split
      · rw [List.length_append, List.length_singleton]; omega
      · omega
    · omega
def okB (n : Nat) : Prop := 32 ≤ n ∧ n ≤ 126
open Classical in
/-- What the function answers: the fields, or none. -/
noncomputable def split (s : ByteArray) : Option (List ByteArray) := if 600 < s.size ∨ (∃ k, k < s.size ∧ ¬ okB (at_ s k)) ∨ 24 < (fin s).length then none else some (fin s)
theorem split_long (s : ByteArray) (h : 600 < s.size) : split s = none := by unfold split; rw [if_pos (.inl h)]
theorem split_bad (s : ByteArray) (k : Nat) (h : k < s.size) (hb : ¬ okB (at_ s k)) : split s = none := by unfold split; rw [if_pos (.inr (.inl ⟨k, h, hb⟩))]
theorem split_many (s : ByteArray) (h : 24 < (fin s).length) : split s = none := by unfold split; rw [if_pos (.inr (.inr h))]
theorem split_some (s : ByteArray) (h1 : s.size ≤ 600) (h2 : ∀ k, k < s.size → okB (at_ s k)) (h3 : (fin s).length ≤ 24) : split s = some (fin s) := by
  unfold split
  rw [if_neg]
  rintro (h | ⟨k, hk, hb⟩ | h)
  · omega
  · exact hb (h2 k hk)
  · omega
end Go.Proofs.YtiogpiopgcbdbaaGreatDoor.SplitMath

/- The fields of a line, each followed by one space, are the fields of that text. Imports nothing of the dump. -/
namespace Go.Proofs.YtiogpiopgcbdbaaGreatDoor.SplitBack
open SplitMath

/-- A field: not empty, its bytes printable and none of them a space. -/
def Good (f : ByteArray) : Prop := 0 < f.size ∧ ∀ i, i < f.size → at_ f i ≠ 32 ∧ okB (at_ f i)
def joinB (p : List ByteArray) : List UInt8 := p.flatMap fun f => f.data.toList ++ [32]
theorem joinB_snoc (p : List ByteArray) (f : ByteArray) : joinB (p ++ [f]) = joinB p ++ f.data.toList ++ [32] := by simp [joinB]

theorem ext_data (s : ByteArray) (a b : Nat) : (s.extract a b).data.toList = (s.data.toList.drop a).take (b - a) := by
  rw [ByteArray.data_extract, Array.toList_extract, List.extract_eq_take_drop]
theorem at_ext (s : ByteArray) (a b i : Nat) (h : a + i < b) (_hb : b ≤ s.size) : at_ (s.extract a b) i = at_ s (a + i) := by
  unfold at_
  rw [ext_data, List.getD_eq_getElem?_getD, List.getD_eq_getElem?_getD, List.getElem?_take, if_pos (by omega), List.getElem?_drop]
theorem size_ext (s : ByteArray) (a b : Nat) (h : a ≤ b) (hb : b ≤ s.size) : (s.extract a b).size = b - a := by rw [ByteArray.size_extract]; omega

/-- Over bytes that are no spaces the state stays. -/
theorem st_run (s : ByteArray) (k : Nat) : ∀ i, (∀ j, j < i → at_ s (k + j) ≠ 32) → st s (k + i) = st s k
  | 0, _ => rfl
  | i + 1, h => by
    rw [show k + (i + 1) = (k + i) + 1 by omega, st, if_neg (h i (by omega))]
    exact st_run s k i fun j hj => h j (by omega)
theorem at_list (s : ByteArray) (l : List UInt8) (h : s.data.toList = l) (k : Nat) : at_ s k = (l.getD k 0).toNat := by unfold at_; rw [h]

theorem st_join (s : ByteArray) : ∀ (n : Nat) (p q : List ByteArray), p.length = n → s.data.toList = joinB (p ++ q) → (∀ f ∈ p, Good f) → st s (joinB p).length = ((joinB p).length, p) := by
  intro n
  induction n with
  | zero => intro p q hp _ _; have : p = [] := List.eq_nil_of_length_eq_zero hp
            subst this; rfl
  | succ n ih =>
    intro p q hp hs hg
    have hne : p ≠ [] := by intro e; subst e; simp at hp
    obtain ⟨p', f, rfl⟩ : ∃ p' f, p = p' ++ [f] := ⟨p.dropLast, p.getLast hne, (List.dropLast_concat_getLast hne).symm⟩
    have hf := hg f (by simp)
    have i1 := ih p' ([f] ++ q) (by simpa using hp) (by rw [hs, List.append_assoc]) (fun x hx => hg x (by simp [hx]))
    have hlist : s.data.toList = joinB p' ++ (f.data.toList ++ ([32] ++ joinB q)) := by
      rw [hs]; simp [joinB]
    obtain ⟨k, hk⟩ : ∃ k, (joinB p').length = k := ⟨_, rfl⟩
    have hfl : f.data.toList.length = f.size := by simp
    have hat : ∀ j, j < f.size → at_ s (k + j) = at_ f j := fun j hj => by
      rw [at_list s _ hlist, List.getD_eq_getElem?_getD, List.getElem?_append_right (by omega), hk, show k + j - k = j by omega, List.getElem?_append_left (by omega)]
      unfold at_
      rw [List.getD_eq_getElem?_getD]
    have hsp : at_ s (k + f.size) = 32 := by
      rw [at_list s _ hlist, List.getD_eq_getElem?_getD, List.getElem?_append_right (by omega), hk, show k + f.size - k = f.size by omega, List.getElem?_append_right (by omega), hfl, Nat.sub_self]
      rfl
    have hrun := st_run s k f.size (fun j hj => by rw [hat j hj]; exact (hf.2 j hj).1)
    have hlen : (joinB (p' ++ [f])).length = (k + f.size) + 1 := by
      rw [joinB_snoc, List.length_append, List.length_append, hk, hfl]; rfl
    rw [hk] at i1
    rw [hlen, st, if_pos hsp, hrun, i1]
    have hpos := hf.1
    show ((k + f.size) + 1, if k < k + f.size then p' ++ [s.extract k (k + f.size)] else p') = _
    rw [if_pos (by omega)]
    have he : s.extract k (k + f.size) = f := by
      apply ByteArray.ext
      apply Array.toList_inj.1
      rw [ext_data, hlist, show k + f.size - k = f.size by omega, ← hk, List.drop_left, ← hfl, List.take_left]
    rw [he]
theorem okB_join (p : List ByteArray) (hg : ∀ f ∈ p, Good f) : ∀ b ∈ joinB p, okB b.toNat := by
  intro b hb
  simp only [joinB, List.mem_flatMap, List.mem_append, List.mem_singleton] at hb
  obtain ⟨f, hf, h | h⟩ := hb
  · obtain ⟨i, hi, rfl⟩ := List.mem_iff_getElem.1 h
    have := ((hg f hf).2 i (by simpa using hi)).2
    unfold at_ at this
    rwa [List.getD_eq_getElem?_getD, List.getElem?_eq_getElem hi] at this
  · subst h; exact ⟨by decide, by decide⟩
/-- Good fields, each followed by a space, are the fields of that text. -/
theorem split_join (s : ByteArray) (p : List ByteArray) (hs : s.data.toList = joinB p) (hg : ∀ f ∈ p, Good f) (hp : p.length ≤ 24) (hz : s.size ≤ 600) : split s = some p := by
  have hl : (joinB p).length = s.size := by rw [← hs]; simp
  have h1 := st_join s p.length p [] rfl (by rw [List.append_nil]; exact hs) hg
  rw [hl] at h1
  have hf : fin s = p := by unfold fin; rw [h1]; exact if_neg (Nat.lt_irrefl _)
  rw [split_some s hz ?_ (by rw [hf]; exact hp), hf]
  intro k hk
  have hk2 : k < (joinB p).length := by omega
  have := okB_join p hg (joinB p)[k] (List.getElem_mem hk2)
  rw [at_list s _ hs, List.getD_eq_getElem?_getD, List.getElem?_eq_getElem hk2]
  exact this

/-- The closed fields are good, and the open one holds no space. -/
theorem st_good (s : ByteArray) (hok : ∀ j, j < s.size → okB (at_ s j)) : ∀ k, k ≤ s.size → (∀ f ∈ (st s k).2, Good f) ∧ (∀ j, (st s k).1 ≤ j → j < k → at_ s j ≠ 32)
  | 0, _ => ⟨by simp [st], fun j _ hj => by omega⟩
  | k + 1, hk => by
    obtain ⟨i1, i2⟩ := st_good s hok k (by omega)
    have hle := (st_le s k).1
    by_cases h : at_ s k = 32
    · rw [st, if_pos h]
      refine ⟨?_, fun j h1 h2 => by have h3 : k + 1 ≤ j := h1; omega⟩
      show ∀ f ∈ (if (st s k).1 < k then (st s k).2 ++ [s.extract (st s k).1 k] else (st s k).2), Good f
      split
      · intro f hf
        rw [List.mem_append, List.mem_singleton] at hf
        rcases hf with hf | rfl
        · exact i1 f hf
        · have hz := size_ext s (st s k).1 k hle (by omega)
          refine ⟨by omega, fun i hi => ?_⟩
          rw [at_ext s _ k i (by omega) (by omega)]
          exact ⟨i2 _ (by omega) (by omega), hok _ (by omega)⟩
      · exact i1
    · rw [st, if_neg h]
      refine ⟨i1, fun j h1 h2 => ?_⟩
      by_cases e : j = k
      · rw [e]; exact h
      · exact i2 j h1 (by omega)
theorem fin_good (s : ByteArray) (hok : ∀ j, j < s.size → okB (at_ s j)) : ∀ f ∈ fin s, Good f := by
  obtain ⟨i1, i2⟩ := st_good s hok s.size (Nat.le_refl _)
  have hle := (st_le s s.size).1
  unfold fin
  split
  · intro f hf
    rw [List.mem_append, List.mem_singleton] at hf
    rcases hf with hf | rfl
    · exact i1 f hf
    · have hz := size_ext s (st s s.size).1 s.size hle (Nat.le_refl _)
      refine ⟨by omega, fun i hi => ?_⟩
      rw [at_ext s _ s.size i (by omega) (Nat.le_refl _)]
      exact ⟨i2 _ (by omega) (by omega), hok _ (by omega)⟩
  · exact i1
theorem st_size (s : ByteArray) : ∀ k, k ≤ s.size → ∀ f ∈ (st s k).2, f.size ≤ s.size
  | 0, _ => by simp [st]
  | k + 1, hk => by
    have ih := st_size s k (by omega)
    unfold st
    split
    · show ∀ f ∈ (if (st s k).1 < k then (st s k).2 ++ [s.extract (st s k).1 k] else (st s k).2), f.size ≤ s.size
      split
      · intro f hf
        rw [List.mem_append, List.mem_singleton] at hf
        rcases hf with hf | rfl
        · exact ih f hf
        · rw [ByteArray.size_extract]; omega
      · exact ih
    · exact ih
/-- What is known of the fields that the function answers. -/
theorem split_facts (s : ByteArray) (p : List ByteArray) (h : split s = some p) : (∀ f ∈ p, Good f) ∧ p.length ≤ 24 ∧ (∀ f ∈ p, f.size ≤ 600) := by
  unfold split at h
  split at h
  · cases h
  · rename_i hn
    simp only [Option.some.injEq] at h
    subst h
    have hsz : s.size ≤ 600 := by
      rcases Nat.lt_or_ge 600 s.size with h | h
      · exact absurd (.inl h) hn
      · exact h
    have hok : ∀ j, j < s.size → okB (at_ s j) := fun j hj => by
      rcases Classical.em (okB (at_ s j)) with h | h
      · exact h
      · exact absurd (.inr (.inl ⟨j, hj, h⟩)) hn
    have h24 : (fin s).length ≤ 24 := by
      rcases Nat.lt_or_ge 24 (fin s).length with h | h
      · exact absurd (.inr (.inr h)) hn
      · exact h
    refine ⟨fin_good s hok, h24, fun f hf => ?_⟩
    unfold fin at hf
    split at hf
    · rw [List.mem_append, List.mem_singleton] at hf
      rcases hf with hf | rfl
      · exact Nat.le_trans (st_size s s.size (Nat.le_refl _) f hf) hsz
      · rw [ByteArray.size_extract]; omega
    · exact Nat.le_trans (st_size s s.size (Nat.le_refl _) f hf) hsz
end Go.Proofs.YtiogpiopgcbdbaaGreatDoor.SplitBack

/- The formula that a text stands for; what is read is valid: plain mathematics. -/
namespace Go.Proofs.YtiogpiopgcbdbaaGreatDoor.ParseM
open Go.RowKit RowN TNode NodeMath FracMath FracTxM SizeM ReadM SplitMath
def dat (ps : List ByteArray) : List SizeM.W := ps.map fun p => p.data.toList
theorem st_size (s : ByteArray) : ∀ k, ∀ p ∈ (st s k).2, p.size ≤ s.size
  | 0 => by intro p hp; simp [st] at hp
  | k + 1 => by
    intro p hp
    rw [st] at hp
    split at hp
    · dsimp only at hp
      split at hp
      · rcases List.mem_append.1 hp with h | h
        · exact st_size s k p h
        · simp only [List.mem_singleton] at h
          subst h
          rw [ByteArray.size_extract]
          omega
      · exact st_size s k p hp
    · exact st_size s k p hp
theorem fin_size (s : ByteArray) : ∀ p ∈ fin s, p.size ≤ s.size := by
  intro p hp
  unfold fin at hp
  split at hp
  · rcases List.mem_append.1 hp with h | h
    · exact st_size s _ p h
    · simp only [List.mem_singleton] at h
      subst h
      rw [ByteArray.size_extract]
      omega
  · exact st_size s _ p hp
theorem split_bd {s : ByteArray} {ws : List ByteArray} (h : split s = some ws) : ws.length ≤ 24 ∧ ∀ p ∈ ws, p.size ≤ 600 := by
  unfold split at h
  split at h
  · cases h
  · rename_i hn
    cases h
    have h1 : ¬ 600 < s.size := fun h => hn (.inl h)
    have h2 : ¬ 24 < (fin s).length := fun h => hn (.inr (.inr h))
    exact ⟨by omega, fun p hp => by have := fin_size s p hp; omega⟩
/-- Each node that is read is valid at its index. -/
theorem read_ok : ∀ (f : Nat) (ws : List SizeM.W) (out o : List El) (r : List SizeM.W), readT f ws out = some (o, r) → (∀ i (h : i < out.length), OkN out[i] (i : Int)) → (∀ i (h : i < o.length), OkN o[i] (i : Int)) ∧ out.length < o.length
  | 0, _, _, _, _, h, _ => by rw [readT] at h; cases h
  | _ + 1, [], _, _, _, h, _ => by rw [readT] at h; cases h
  | f + 1, w :: ws, out, o, r, h, ho => by
    have one : ∀ (l : List El) (x : El), (∀ i (h : i < l.length), OkN l[i] (i : Int)) → OkN x (l.length : Int) → ∀ i (h : i < (l ++ [x]).length), OkN (l ++ [x])[i] (i : Int) := fun l x hl hx i hi => by
      by_cases e : i < l.length
      · rw [List.getElem_append_left e]; exact hl i e
      · rw [List.length_append, List.length_singleton] at hi
        obtain rfl : i = l.length := by omega
        rw [List.getElem_append_right (Nat.le_refl _)]
        simpa using hx
    rw [readT] at h
    split at h
    next hp =>
      cases h
      refine ⟨one _ _ ho ?_, by simp⟩
      have := (parse_yes (s := w) (n := (parseT w).1) (d := (parseT w).2.1) (by rw [← hp])).1
      exact .inl ⟨rfl, rfl, rfl, rfl, this⟩
    next hp =>
      split at h
      next hv =>
        cases h
        refine ⟨one _ _ ho ?_, by simp⟩
        have hb : varOf w ≤ 7 := by
          unfold varOf at hv ⊢
          split
          · split
            · omega
            · omega
          · omega
        exact .inr ⟨rfl, rfl, .inl ⟨rfl, by simp only []; omega, rfl, rfl⟩⟩
      next hv =>
        split at h
        · cases h
        next hk =>
          have hkb := ReadK.kind_or w
          cases e1 : readT f ws out with
          | none => rw [e1] at h; cases h
          | some p1 =>
            obtain ⟨o1, r1⟩ := p1
            rw [e1] at h
            simp only [] at h
            obtain ⟨h1, l1⟩ := read_ok f ws out o1 r1 e1 ho
            cases e2 : readT f r1 o1 with
            | none => rw [e2] at h; cases h
            | some p2 =>
              obtain ⟨o2, r2⟩ := p2
              rw [e2] at h
              simp only [] at h
              obtain ⟨h2, l2⟩ := read_ok f r1 o1 o2 r2 e2 h1
              split at h
              next h9 =>
                cases e3 : readT f r2 o2 with
                | none => rw [e3] at h; cases h
                | some p3 =>
                  obtain ⟨o3, r3⟩ := p3
                  rw [e3] at h
                  simp only [] at h
                  obtain ⟨h3, l3⟩ := read_ok f r2 o2 o3 r3 e3 h2
                  cases h
                  refine ⟨one _ _ h3 (.inr ⟨rfl, rfl, .inr (.inr ⟨rfl, ?_, ?_, ?_⟩)⟩), by simp; omega⟩ <;> simp only [] <;> omega
              next h9 =>
                cases h
                refine ⟨one _ _ h2 (.inr ⟨rfl, rfl, .inr (.inl ⟨?_, ?_, ?_, rfl⟩)⟩), by simp; omega⟩ <;> simp only [] <;> omega
theorem read_okF {f : Nat} {ws : List SizeM.W} {o : List El} {r : List SizeM.W} (h : readT f ws [] = some (o, r)) (hl : ws.length ≤ 24) : okF o = true := by
  obtain ⟨h1, h2⟩ := read_ok f ws [] o r h (fun i hi => by simp at hi)
  have h3 := ReadK.read_len _ _ _ _ _ h
  rw [List.length_nil] at h2 h3
  exact okF_yes ⟨⟨by omega, by omega⟩, fun i hi => okN_yes (h1 i hi)⟩
/-- The formula that a text stands for. -/
noncomputable def parseF (s : ByteArray) : List El × Bool := match split s with
  | none => ([], false)
  | some ws => match readT (ws.length + 1) (dat ws) [] with
    | some (o, []) => if okF o = true then (o, true) else ([], false)
    | _ => ([], false)
theorem parseF_none {s : ByteArray} (h : split s = none) : parseF s = ([], false) := by unfold parseF; rw [h]
theorem parseF_bad {s : ByteArray} {ws : List ByteArray} (h : split s = some ws) (hr : readT (ws.length + 1) (dat ws) [] = none) : parseF s = ([], false) := by unfold parseF; simp only [h, hr]
theorem parseF_more {s : ByteArray} {ws : List ByteArray} {o : List El} {r : List SizeM.W} (h : split s = some ws) (hr : readT (ws.length + 1) (dat ws) [] = some (o, r)) (hne : r ≠ []) : parseF s = ([], false) := by
  unfold parseF
  simp only [h, hr]
  cases r with
  | nil => exact absurd rfl hne
  | cons x r => rfl
theorem parseF_yes {s : ByteArray} {ws : List ByteArray} {o : List El} (h : split s = some ws) (hr : readT (ws.length + 1) (dat ws) [] = some (o, [])) : parseF s = if okF o = true then (o, true) else ([], false) := by unfold parseF; simp only [h, hr]
/-- A result of ParseFormula. -/
def IsForm (R : List El × Bool) (w : World) (e : Ending) (w' : World) : Prop := ∃ p c, e = .returned (.tuple #[.slice p R.1.length c, .bool R.2]) ∧ Owns fc 6 w' w.heap.size T (.slice p R.1.length c) R.1 ∧ Below w.heap.size w w'
end Go.Proofs.YtiogpiopgcbdbaaGreatDoor.ParseM

/- Which variables a formula uses: plain mathematics. -/
namespace Go.Proofs.YtiogpiopgcbdbaaGreatDoor.VarsMath
open TNode NodeMath FracMath
def setB (s : List Bool) (i : Int) : List Bool := s.set i.toNat true
theorem setB_len (s : List Bool) (i : Int) : (setB s i).length = s.length := by simp [setB]
/-- One node, met from the last one down: the variables found so far, the nodes that are needed. -/
def stepV (n : El) (i : Nat) (s : List Bool × List Bool) : List Bool × List Bool :=
  if s.2.getD i false = false ∨ n.Kind = 1 then s
  else if n.Kind = 2 then (setB s.1 n.A, s.2)
  else if n.Kind = 9 then (s.1, setB (setB (setB s.2 n.A) n.B) n.C)
  else (s.1, setB (setB s.2 n.A) n.B)
/-- Behind j nodes. -/
def runV (l : List El) : Nat → List Bool × List Bool
  | 0 => (List.replicate 8 false, (List.replicate l.length false).set (l.length - 1) true)
  | j + 1 => if h : l.length - 1 - j < l.length then stepV l[l.length - 1 - j] (l.length - 1 - j) (runV l j) else runV l j
noncomputable def varsOf (l : List El) : List Bool := if okF l = true then (runV l l.length).1 else []
theorem stepV_len (n : El) (i : Nat) (s : List Bool × List Bool) : (stepV n i s).1.length = s.1.length ∧ (stepV n i s).2.length = s.2.length := by
  unfold stepV
  split
  · exact ⟨rfl, rfl⟩
  · split
    · exact ⟨setB_len _ _, rfl⟩
    · split
      · simp [setB_len]
      · simp [setB_len]
theorem runV_len (l : List El) : ∀ j, (runV l j).1.length = 8 ∧ (runV l j).2.length = l.length
  | 0 => by simp [runV]
  | j + 1 => by
    rw [runV]
    split
    · obtain ⟨h1, h2⟩ := runV_len l j
      obtain ⟨h3, h4⟩ := stepV_len l[l.length - 1 - j] (l.length - 1 - j) (runV l j)
      exact ⟨by rw [h3, h1], by rw [h4, h2]⟩
    · exact runV_len l j
theorem varsOf_len (l : List El) : (varsOf l).length ≤ 8 := by
  unfold varsOf
  split
  · exact Nat.le_of_eq (runV_len l _).1
  · simp
end Go.Proofs.YtiogpiopgcbdbaaGreatDoor.VarsMath

/- A variable that a formula does not use does not change its value: plain mathematics. -/
namespace Go.Proofs.YtiogpiopgcbdbaaGreatDoor.VarsLaws
open TNode NodeMath FracMath VarsMath
theorem set_true {s : List Bool} {i j : Nat} (h : s.getD j false = true) : (s.set i true).getD j false = true := by
  by_cases e : i = j
  · subst e
    have hl : i < s.length := by
      rcases Nat.lt_or_ge i s.length with h1 | h1
      · exact h1
      · simp [h1] at h
    simp [hl]
  · simpa [List.getElem?_set_ne e] using h
theorem set_here {s : List Bool} {i : Nat} (h : i < s.length) : (s.set i true).getD i false = true := by simp [h]
theorem set_other {s : List Bool} {i j : Nat} (h : i ≠ j) : (s.set i true).getD j false = s.getD j false := by simp [List.getElem?_set_ne h]
/-- What a needed node's kind asks of the state. -/
structure Cl (n : El) (s : List Bool × List Bool) : Prop where
  var : n.Kind = 2 → s.1.getD n.A.toNat false = true
  two : n.Kind ≠ 1 → n.Kind ≠ 2 → s.2.getD n.A.toNat false = true ∧ s.2.getD n.B.toNat false = true
  pick : n.Kind = 9 → s.2.getD n.C.toNat false = true
theorem step_mono (n : El) (i : Nat) (s : List Bool × List Bool) : (∀ j, s.1.getD j false = true → (stepV n i s).1.getD j false = true) ∧ (∀ j, s.2.getD j false = true → (stepV n i s).2.getD j false = true) := by
  unfold stepV setB
  split
  · exact ⟨fun _ h => h, fun _ h => h⟩
  · split
    · exact ⟨fun j h => set_true h, fun _ h => h⟩
    · split
      · exact ⟨fun _ h => h, fun j h => set_true (set_true (set_true h))⟩
      · exact ⟨fun _ h => h, fun j h => set_true (set_true h)⟩
theorem Cl.mono {n : El} {s : List Bool × List Bool} (h : Cl n s) (m : El) (i : Nat) : Cl n (stepV m i s) :=
  ⟨fun e => (step_mono m i s).1 _ (h.var e), fun e1 e2 => ⟨(step_mono m i s).2 _ (h.two e1 e2).1, (step_mono m i s).2 _ (h.two e1 e2).2⟩, fun e => (step_mono m i s).2 _ (h.pick e)⟩
/-- A step at a node sets needs below it alone. -/
theorem step_above {n : El} {i : Nat} {s : List Bool × List Bool} (hn : OkN n (i : Int)) {j : Nat} (hj : i ≤ j) : (stepV n i s).2.getD j false = s.2.getD j false := by
  unfold stepV setB
  split
  · rfl
  next h1 =>
    split
    · rfl
    next h2 =>
      have hab : (0 ≤ n.A ∧ n.A < (i : Int)) ∧ (0 ≤ n.B ∧ n.B < (i : Int)) := by
        rcases hn with h | ⟨_, _, h | h | h⟩
        · exact absurd (.inr h.1) h1
        · exact absurd h.1 h2
        · exact ⟨h.2.1, h.2.2.1⟩
        · exact ⟨h.2.1, h.2.2.1⟩
      split
      next h9 =>
        have hc : 0 ≤ n.C ∧ n.C < (i : Int) := by
          rcases hn with h | ⟨_, _, h | h | h⟩
          · exact absurd (.inr h.1) h1
          · exact absurd h.1 h2
          · have := h.1; omega
          · exact h.2.2.2
        simp only [set_other (show n.C.toNat ≠ j by omega), set_other (show n.B.toNat ≠ j by omega), set_other (show n.A.toNat ≠ j by omega)]
      next => simp only [set_other (show n.B.toNat ≠ j by omega), set_other (show n.A.toNat ≠ j by omega)]
theorem step_cl {n : El} {i : Nat} {s : List Bool × List Bool} (hn : OkN n (i : Int)) (h1 : s.1.length = 8) (h2 : i < s.2.length) (hi : s.2.getD i false = true) : Cl n (stepV n i s) := by
  unfold stepV setB
  by_cases k1 : n.Kind = 1
  · rw [if_pos (.inr k1)]
    exact ⟨fun e => by omega, fun e => absurd k1 e, fun e => by omega⟩
  rw [if_neg (by rw [hi]; simp [k1])]
  by_cases k2 : n.Kind = 2
  · rw [if_pos k2]
    have ha : 0 ≤ n.A ∧ n.A ≤ 7 := by
      rcases hn with h | ⟨_, _, h | h | h⟩
      · exact absurd h.1 k1
      · exact h.2.1
      · have := h.1; omega
      · have := h.1; omega
    exact ⟨fun _ => set_here (by omega), fun _ e => absurd k2 e, fun e => by omega⟩
  rw [if_neg k2]
  have hab : (0 ≤ n.A ∧ n.A < (i : Int)) ∧ (0 ≤ n.B ∧ n.B < (i : Int)) := by
    rcases hn with h | ⟨_, _, h | h | h⟩
    · exact absurd h.1 k1
    · exact absurd h.1 k2
    · exact ⟨h.2.1, h.2.2.1⟩
    · exact ⟨h.2.1, h.2.2.1⟩
  by_cases k9 : n.Kind = 9
  · rw [if_pos k9]
    have hc : 0 ≤ n.C ∧ n.C < (i : Int) := by
      rcases hn with h | ⟨_, _, h | h | h⟩
      · exact absurd h.1 k1
      · exact absurd h.1 k2
      · have := h.1; omega
      · exact h.2.2.2
    exact ⟨fun e => absurd e k2, fun _ _ => ⟨set_true (set_true (set_here (by omega))), set_true (set_here (by simp; omega))⟩, fun _ => set_here (by simp; omega)⟩
  · rw [if_neg k9]
    exact ⟨fun e => absurd e k2, fun _ _ => ⟨set_true (set_here (by omega)), set_here (by simp; omega)⟩, fun e => absurd e k9⟩
theorem run_cl {l : List El} (hl : OkF l) : ∀ j, j ≤ l.length → ∀ i (hi : i < l.length), l.length ≤ i + j → (runV l j).2.getD i false = true → Cl l[i] (runV l j)
  | 0, _, i, hi, h, _ => by omega
  | j + 1, hj, i, hi, h, hn => by
    have hk : l.length - 1 - j < l.length := by omega
    rw [runV, dif_pos hk] at hn ⊢
    obtain ⟨hl1, hl2⟩ := runV_len l j
    have hok := okN_of (hl.2 _ hk)
    rw [step_above hok (show l.length - 1 - j ≤ i by omega)] at hn
    by_cases e : i = l.length - 1 - j
    · subst e
      exact step_cl hok hl1 (by omega) hn
    · exact (run_cl hl j (by omega) i hi (by omega) hn).mono _ _
theorem run_last {l : List El} (hl : 1 ≤ l.length) : ∀ j, (runV l j).2.getD (l.length - 1) false = true
  | 0 => by rw [runV]; exact set_here (by simp; omega)
  | j + 1 => by
    rw [runV]
    split
    · exact (step_mono _ _ _).2 _ (run_last hl j)
    · exact run_last hl j
/-- The values of the first nodes, one by one. -/
theorem eval_at {l : List El} {vs : List Fr} : ∀ {j : Nat} {v : List Fr} (hj : j ≤ l.length) (_ : evalTo l vs j = some v) (i : Nat) (hi : i < j) (hv : i < v.length), valN (l[i]'(by omega)) (v.take i) vs = (v[i].Num, v[i].Den, true)
  | 0, v, _, _, i, hi, _ => by omega
  | j + 1, v, hj, h, i, hi, hv => by
    have h0 := h
    rw [evalTo] at h
    cases e : evalTo l vs j with
    | none => rw [e] at h; cases h
    | some u =>
      rw [e] at h
      simp only [dif_pos (Nat.lt_of_succ_le hj)] at h
      have hu := evalTo_len (show j ≤ l.length by omega) e
      split at h
      next hk =>
        obtain rfl := Option.some.inj h
        by_cases e1 : i < j
        · have := eval_at (show j ≤ l.length by omega) e i e1 (by omega)
          rw [List.take_append_of_le_length (by omega), List.getElem_append_left (by omega)]
          exact this
        · have e2 : i = j := by omega
          subst e2
          have e3 : (u ++ [(⟨(valN (l[i]'(by omega)) u vs).1, (valN (l[i]'(by omega)) u vs).2.1⟩ : Fr)]).take i = u := by rw [List.take_append_of_le_length (by omega), List.take_of_length_le (by omega)]
          rw [e3]
          have e4 : (u ++ [(⟨(valN (l[i]'(by omega)) u vs).1, (valN (l[i]'(by omega)) u vs).2.1⟩ : Fr)])[i] = ⟨(valN (l[i]'(by omega)) u vs).1, (valN (l[i]'(by omega)) u vs).2.1⟩ := by simp [← hu]
          rw [e4, ← hk]
      next => cases h
theorem at0_take {v : List Fr} {i : Nat} {a : Int} (h : 0 ≤ a ∧ a < (i : Int)) : at0 (v.take i) a = at0 v a := by
  unfold at0
  rw [List.getD_eq_getElem?_getD, List.getD_eq_getElem?_getD, List.getElem?_take_of_lt (by omega)]
theorem at0_set {vs : List Fr} {k : Nat} {f : Fr} {a : Int} (h : a.toNat ≠ k) : at0 (vs.set k f) a = at0 vs a := by
  unfold at0
  rw [List.getD_eq_getElem?_getD, List.getD_eq_getElem?_getD, List.getElem?_set_ne (fun e => h e.symm)]
/-- Needed nodes have the same value, whatever an unused variable is. -/
theorem agree {l : List El} (hl : OkF l) {vs v v' : List Fr} {k : Nat} {f : Fr} (hk : (runV l l.length).1.getD k false = false) (h : evalTo l vs l.length = some v) (h' : evalTo l (vs.set k f) l.length = some v') :
    ∀ (i : Nat), i < l.length → (runV l l.length).2.getD i false = true → at0 v (i : Int) = at0 v' (i : Int) := by
  intro i
  induction i using Nat.strongRecOn with
  | _ i ih =>
    intro hi hn
    have hv := evalTo_len (Nat.le_refl _) h
    have hv' := evalTo_len (Nat.le_refl _) h'
    have e1 := eval_at (Nat.le_refl _) h i hi (by omega)
    have e2 := eval_at (Nat.le_refl _) h' i hi (by omega)
    have hc := run_cl hl l.length (Nat.le_refl _) i hi (by omega) hn
    have hok := okN_of (hl.2 i hi)
    have key : valN l[i] (v.take i) vs = valN l[i] (v'.take i) (vs.set k f) := by
      by_cases k1 : l[i].Kind = 1
      · unfold valN; rw [if_pos k1, if_pos k1]
      by_cases k2 : l[i].Kind = 2
      · have hne : l[i].A.toNat ≠ k := fun e => by have := hc.var k2; rw [e, hk] at this; cases this
        unfold valN; rw [if_neg k1, if_neg k1, if_pos k2, if_pos k2, at0_set hne]
      have hab : (0 ≤ l[i].A ∧ l[i].A < (i : Int)) ∧ (0 ≤ l[i].B ∧ l[i].B < (i : Int)) := by
        rcases hok with h | ⟨_, _, h | h | h⟩
        · exact absurd h.1 k1
        · exact absurd h.1 k2
        · exact ⟨h.2.1, h.2.2.1⟩
        · exact ⟨h.2.1, h.2.2.1⟩
      have nat : ∀ {a : Int}, 0 ≤ a ∧ a < (i : Int) → (runV l l.length).2.getD a.toNat false = true → at0 v a = at0 v' a := fun {a} ha hna => by
        have := ih a.toNat (by omega) (by omega) hna
        rw [show ((a.toNat : Nat) : Int) = a by omega] at this
        exact this
      have ea := nat hab.1 (hc.two k1 k2).1
      have eb := nat hab.2 (hc.two k1 k2).2
      have ec : l[i].Kind = 9 → at0 (v.take i) l[i].C = at0 (v'.take i) l[i].C := fun k9 => by
        have hcc : 0 ≤ l[i].C ∧ l[i].C < (i : Int) := by
          rcases hok with h | ⟨_, _, h | h | h⟩
          · exact absurd h.1 k1
          · exact absurd h.1 k2
          · have := h.1; omega
          · exact h.2.2.2
        rw [at0_take hcc, at0_take hcc]
        exact nat hcc (hc.pick k9)
      have k9 : ¬ l[i].Kind = 3 → ¬ l[i].Kind = 4 → ¬ l[i].Kind = 5 → ¬ l[i].Kind = 6 → ¬ l[i].Kind = 7 → ¬ l[i].Kind = 8 → l[i].Kind = 9 := fun _ _ _ _ _ _ => by
        rcases hok with h | ⟨_, _, h | h | h⟩
        · exact absurd h.1 k1
        · exact absurd h.1 k2
        · have := h.1; omega
        · exact h.1
      unfold valN
      rw [if_neg k1, if_neg k1, if_neg k2, if_neg k2, at0_take hab.1, at0_take hab.1, at0_take hab.2, at0_take hab.2, ea, eb]
      simp only []
      by_cases c3 : l[i].Kind = 3
      · rw [if_pos c3, if_pos c3]
      by_cases c4 : l[i].Kind = 4
      · rw [if_neg c3, if_neg c3, if_pos c4, if_pos c4]
      by_cases c5 : l[i].Kind = 5
      · rw [if_neg c3, if_neg c3, if_neg c4, if_neg c4, if_pos c5, if_pos c5]
      by_cases c6 : l[i].Kind = 6
      · rw [if_neg c3, if_neg c3, if_neg c4, if_neg c4, if_neg c5, if_neg c5, if_pos c6, if_pos c6]
      by_cases c7 : l[i].Kind = 7
      · simp only [if_neg c3, if_neg c4, if_neg c5, if_neg c6, if_pos c7]
      by_cases c8 : l[i].Kind = 8
      · simp only [if_neg c3, if_neg c4, if_neg c5, if_neg c6, if_neg c7, if_pos c8]
      · simp only [if_neg c3, if_neg c4, if_neg c5, if_neg c6, if_neg c7, if_neg c8, ec (k9 c3 c4 c5 c6 c7 c8)]
    rw [e1, e2] at key
    have g1 : at0 v (i : Int) = v[i]'(by omega) := by simp [at0, show i < v.length by omega]
    have g2 : at0 v' (i : Int) = v'[i]'(by omega) := by simp [at0, show i < v'.length by omega]
    rw [g1, g2]
    have h1 := (Prod.mk.inj key).1
    have h2 := (Prod.mk.inj (Prod.mk.inj key).2).1
    generalize v[i]'(by omega) = x at h1 h2
    generalize v'[i]'(by omega) = y at h1 h2
    cases x
    cases y
    simp only [] at h1 h2
    rw [h1, h2]
/-- A variable that is not used does not change the value. -/
theorem unused {l : List El} {vs : List Fr} {k : Nat} {f : Fr} (hl : OkF l) (hk : (varsOf l).getD k false = false) (h1 : (evalL l vs).2.2 = true) (h2 : (evalL l (vs.set k f)).2.2 = true) : evalL l vs = evalL l (vs.set k f) := by
  have hk' : (runV l l.length).1.getD k false = false := by rw [varsOf, if_pos (okF_yes hl)] at hk; exact hk
  have some_of : ∀ {ws : List Fr}, (evalL l ws).2.2 = true → ∃ v, evalTo l ws l.length = some v ∧ evalAll l ws = (v, true) := fun {ws} h => by
    unfold evalL at h
    split at h
    next hh =>
      unfold evalAll at hh ⊢
      split at hh
      next hc =>
        cases e : evalTo l ws l.length with
        | none => rw [e] at hh; cases hh
        | some v => exact ⟨v, rfl, by rw [if_pos hc]⟩
      next => cases hh
    next => cases h
  obtain ⟨v, hv, ha⟩ := some_of h1
  obtain ⟨v', hv', ha'⟩ := some_of h2
  have hlen := evalTo_len (Nat.le_refl _) hv
  have hlen' := evalTo_len (Nat.le_refl _) hv'
  have hn := hl.1.1
  have := agree hl hk' hv hv' (l.length - 1) (by omega) (run_last hn l.length)
  rw [show ((l.length - 1 : Nat) : Int) = (l.length : Int) - 1 by omega] at this
  unfold evalL
  rw [ha, ha']
  simp only [if_true, hlen, hlen', this]
end Go.Proofs.YtiogpiopgcbdbaaGreatDoor.VarsLaws

/- The formula that is read from a formula's words has the same value: plain mathematics. -/
namespace Go.Proofs.YtiogpiopgcbdbaaGreatDoor.ReadV
open TNode NodeMath FracMath SizeM ReadM VarsLaws
theorem val_leaf {n : El} {v v' vs : List Fr} (h : n.Kind = 1 ∨ n.Kind = 2) : valN n v vs = valN n v' vs := by
  unfold valN
  rcases h with h | h
  · rw [if_pos h, if_pos h]
  · have h1 : ¬ n.Kind = 1 := by omega
    rw [if_neg h1, if_neg h1, if_pos h, if_pos h]
theorem val_ops {n n' : El} {v v' vs : List Fr} (hk : n.Kind = n'.Kind) (h1 : ¬ n.Kind = 1) (h2 : ¬ n.Kind = 2) (ha : at0 v n.A = at0 v' n'.A) (hb : at0 v n.B = at0 v' n'.B) (hc : n.Kind = 9 → at0 v n.C = at0 v' n'.C) (hr : n.Kind ≤ 8 ∨ n.Kind = 9) (h3 : 3 ≤ n.Kind) : valN n v vs = valN n' v' vs := by
  unfold valN
  rw [← hk, if_neg h1, if_neg h1, if_neg h2, if_neg h2, ha, hb]
  simp only []
  by_cases c3 : n.Kind = 3
  · rw [if_pos c3, if_pos c3]
  by_cases c4 : n.Kind = 4
  · rw [if_neg c3, if_neg c3, if_pos c4, if_pos c4]
  by_cases c5 : n.Kind = 5
  · rw [if_neg c3, if_neg c3, if_neg c4, if_neg c4, if_pos c5, if_pos c5]
  by_cases c6 : n.Kind = 6
  · rw [if_neg c3, if_neg c3, if_neg c4, if_neg c4, if_neg c5, if_neg c5, if_pos c6, if_pos c6]
  by_cases c7 : n.Kind = 7
  · simp only [if_neg c3, if_neg c4, if_neg c5, if_neg c6, if_pos c7]
  by_cases c8 : n.Kind = 8
  · simp only [if_neg c3, if_neg c4, if_neg c5, if_neg c6, if_neg c7, if_pos c8]
  · simp only [if_neg c3, if_neg c4, if_neg c5, if_neg c6, if_neg c7, if_neg c8, hc (by omega)]
theorem at0_last {vp va w : List Fr} {x : Fr} {i : Nat} (h : va.getLast? = some x) (hi : i = vp.length + va.length) : at0 (vp ++ va ++ w) ((i : Int) - 1) = x := by
  have hne : va ≠ [] := by intro e; subst e; cases h
  have hp : 0 < va.length := List.length_pos_iff.2 hne
  have e : ((i : Int) - 1).toNat = vp.length + (va.length - 1) := by omega
  unfold at0
  rw [e, List.getD_eq_getElem?_getD, List.append_assoc, List.getElem?_append_right (by omega), List.getElem?_append_left (by omega), Nat.add_sub_cancel_left]
  rw [List.getLast?_eq_getElem?] at h
  rw [h]
  rfl
theorem at0_nat {v : List Fr} {a : Int} {i : Nat} (_h0 : 0 ≤ a) (hi : a.toNat = i) (hv : i < v.length) : at0 v a = v[i] := by
  subst hi
  simp [at0, hv]
/-- One more value. -/
theorem eval_more {L : List El} {vs vp : List Fr} {j : Nat} {x : Fr} {n : El} (h : evalTo L vs j = some vp) (hj : j < L.length) (hn : L[j] = n) (hv : valN n vp vs = (x.Num, x.Den, true)) : evalTo L vs (j + 1) = some (vp ++ [x]) := by
  subst hn
  exact evalTo_yes h hj hv
theorem unf_eval {l : List El} {vs v : List Fr} (hl : OkF l) (hev : evalTo l vs l.length = some v) (hvl : v.length = l.length) : ∀ (f k : Nat) (pre post : List El) (vp : List Fr) (_ : k < f) (hk : k < l.length), evalTo (pre ++ unf l f k pre.length ++ post) vs pre.length = some vp →
    ∃ vu : List Fr, vu.length = (unf l f k pre.length).length ∧ vu.getLast? = some (v[k]'(by omega)) ∧ evalTo (pre ++ unf l f k pre.length ++ post) vs (pre.length + (unf l f k pre.length).length) = some (vp ++ vu)
  | 0, _, _, _, _, h, _ => by omega
  | f + 1, k, pre, post, vp, hf, hk => by
    intro hp
    obtain ⟨c1, c2, c3⟩ := ok_at hl hk
    have hval := eval_at (Nat.le_refl _) hev k hk (by omega)
    have hvp : vp.length = pre.length := evalTo_len (by simp) hp
    by_cases hs : l[k].Kind ≤ 2
    · rw [unf_leaf hk hs] at hp ⊢
      refine ⟨[v[k]], rfl, rfl, ?_⟩
      exact eval_more (n := l[k]) (x := v[k]) hp (by simp) (by simp) (by rw [val_leaf (v' := v.take k) (by omega)]; exact hval)
    · obtain ⟨ha, hb⟩ := c2 (by omega)
      have ia := fun pre post vp => unf_eval hl hev hvl f l[k].A.toNat pre post vp (by omega) (by omega)
      have ib := fun pre post vp => unf_eval hl hev hvl f l[k].B.toNat pre post vp (by omega) (by omega)
      have aA : at0 (v.take k) l[k].A = v[l[k].A.toNat]'(by omega) := by rw [at0_take (by omega)]; exact at0_nat ha.1 rfl (by omega)
      have aB : at0 (v.take k) l[k].B = v[l[k].B.toNat]'(by omega) := by rw [at0_take (by omega)]; exact at0_nat hb.1 rfl (by omega)
      by_cases h9 : l[k].Kind = 9
      · have hc := c3 h9
        have ic := fun pre post vp => unf_eval hl hev hvl f l[k].C.toNat pre post vp (by omega) (by omega)
        have aC : at0 (v.take k) l[k].C = v[l[k].C.toNat]'(by omega) := by rw [at0_take (by omega)]; exact at0_nat hc.1 rfl (by omega)
        obtain ⟨ua, ea⟩ : ∃ u, unf l f l[k].A.toNat pre.length = u := ⟨_, rfl⟩
        obtain ⟨ub, eb⟩ : ∃ u, unf l f l[k].B.toNat (pre.length + ua.length) = u := ⟨_, rfl⟩
        obtain ⟨uc, ec⟩ : ∃ u, unf l f l[k].C.toNat (pre.length + ua.length + ub.length) = u := ⟨_, rfl⟩
        rw [unf_pick hk h9 ea eb ec] at hp ⊢
        obtain ⟨x, hx⟩ : ∃ x : El, x = ⟨9, ((pre.length + ua.length : Nat) : Int) - 1, ((pre.length + ua.length + ub.length : Nat) : Int) - 1, ((pre.length + ua.length + ub.length + uc.length : Nat) : Int) - 1, 0, 0⟩ := ⟨_, rfl⟩
        rw [← hx] at hp ⊢
        obtain ⟨L, hL⟩ : ∃ L, pre ++ (ua ++ ub ++ uc ++ [x]) ++ post = L := ⟨_, rfl⟩
        have e1 : pre ++ ua ++ (ub ++ uc ++ [x] ++ post) = L := by rw [← hL]; simp
        have e2 : pre ++ ua ++ ub ++ (uc ++ [x] ++ post) = L := by rw [← hL]; simp
        have e3 : pre ++ ua ++ ub ++ uc ++ ([x] ++ post) = L := by rw [← hL]; simp
        rw [hL] at hp ⊢
        have i1 := ia pre (ub ++ uc ++ [x] ++ post) vp (by rw [ea, e1]; exact hp)
        rw [ea, e1] at i1
        obtain ⟨va, la, ga, hva⟩ := i1
        have i2 := ib (pre ++ ua) (uc ++ [x] ++ post) (vp ++ va) (by rw [List.length_append, eb, e2]; exact hva)
        rw [List.length_append, eb, e2] at i2
        obtain ⟨vb, lb, gb, hvb⟩ := i2
        have i3 := ic (pre ++ ua ++ ub) ([x] ++ post) (vp ++ va ++ vb) (by rw [List.length_append, List.length_append, ec, e3]; exact hvb)
        rw [List.length_append, List.length_append, ec, e3] at i3
        obtain ⟨vc, lc, gc, hvc⟩ := i3
        have hlt : pre.length + ua.length + ub.length + uc.length < L.length := by rw [← hL]; simp; omega
        have hget : L[pre.length + ua.length + ub.length + uc.length]'hlt = x := by
          simp only [← e3]
          rw [List.getElem_append_right (by simp; omega)]
          simp [Nat.add_assoc]
        have hfin := eval_more (x := v[k]) hvc hlt hget (by
          rw [← hval, hx]
          refine val_ops (by rw [h9]) (by show ¬ (9 : Int) = 1; decide) (by show ¬ (9 : Int) = 2; decide) ?_ ?_ (fun _ => ?_) (.inr rfl) (by show (3 : Int) ≤ 9; decide)
          · rw [aA, show vp ++ va ++ vb ++ vc = vp ++ va ++ (vb ++ vc) by simp]
            exact at0_last ga (by omega)
          · rw [aB, show vp ++ va ++ vb ++ vc = (vp ++ va) ++ vb ++ vc by simp]
            exact at0_last gb (by rw [List.length_append]; omega)
          · rw [aC, show vp ++ va ++ vb ++ vc = (vp ++ va ++ vb) ++ vc ++ [] by simp]
            exact at0_last gc (by rw [List.length_append, List.length_append]; omega))
        refine ⟨va ++ vb ++ vc ++ [v[k]], by simp [la, lb, lc], by simp, ?_⟩
        simp only [List.length_append, List.length_cons, List.length_nil]
        rw [show pre.length + (ua.length + ub.length + uc.length + (0 + 1)) = pre.length + ua.length + ub.length + uc.length + 1 by omega, hfin]
        simp
      · obtain ⟨ua, ea⟩ : ∃ u, unf l f l[k].A.toNat pre.length = u := ⟨_, rfl⟩
        obtain ⟨ub, eb⟩ : ∃ u, unf l f l[k].B.toNat (pre.length + ua.length) = u := ⟨_, rfl⟩
        rw [unf_two hk hs h9 ea eb] at hp ⊢
        obtain ⟨x, hx⟩ : ∃ x : El, x = ⟨l[k].Kind, ((pre.length + ua.length : Nat) : Int) - 1, ((pre.length + ua.length + ub.length : Nat) : Int) - 1, 0, 0, 0⟩ := ⟨_, rfl⟩
        rw [← hx] at hp ⊢
        obtain ⟨L, hL⟩ : ∃ L, pre ++ (ua ++ ub ++ [x]) ++ post = L := ⟨_, rfl⟩
        have e1 : pre ++ ua ++ (ub ++ [x] ++ post) = L := by rw [← hL]; simp
        have e2 : pre ++ ua ++ ub ++ ([x] ++ post) = L := by rw [← hL]; simp
        rw [hL] at hp ⊢
        have i1 := ia pre (ub ++ [x] ++ post) vp (by rw [ea, e1]; exact hp)
        rw [ea, e1] at i1
        obtain ⟨va, la, ga, hva⟩ := i1
        have i2 := ib (pre ++ ua) ([x] ++ post) (vp ++ va) (by rw [List.length_append, eb, e2]; exact hva)
        rw [List.length_append, eb, e2] at i2
        obtain ⟨vb, lb, gb, hvb⟩ := i2
        have hlt : pre.length + ua.length + ub.length < L.length := by rw [← hL]; simp; omega
        have hget : L[pre.length + ua.length + ub.length]'hlt = x := by
          simp only [← e2]
          rw [List.getElem_append_right (by simp; omega)]
          simp [Nat.add_assoc]
        have hfin := eval_more (x := v[k]) hvb hlt hget (by
          rw [← hval, hx]
          refine val_ops rfl (by show ¬ l[k].Kind = 1; omega) (by show ¬ l[k].Kind = 2; omega) ?_ ?_ (fun e => absurd e h9) (by show l[k].Kind ≤ 8 ∨ l[k].Kind = 9; omega) (by show 3 ≤ l[k].Kind; omega)
          · rw [aA]
            exact at0_last ga (by omega)
          · rw [aB, show vp ++ va ++ vb = (vp ++ va) ++ vb ++ [] by simp]
            exact at0_last gb (by rw [List.length_append]; omega))
        refine ⟨va ++ vb ++ [v[k]], by simp [la, lb], by simp, ?_⟩
        simp only [List.length_append, List.length_cons, List.length_nil]
        rw [show pre.length + (ua.length + ub.length + (0 + 1)) = pre.length + ua.length + ub.length + 1 by omega, hfin]
        simp
end Go.Proofs.YtiogpiopgcbdbaaGreatDoor.ReadV

/- A formula's text is split into its words, and these are read as a formula with the same text and value: plain mathematics. -/
namespace Go.Proofs.YtiogpiopgcbdbaaGreatDoor.ReadB
open TNode NodeMath FracMath FracTxM NumMath NumParse NumBack HexMath SizeM ReadM ReadV SplitMath SplitBack
theorem st_join2 (s : ByteArray) : ∀ (n : Nat) (p : List ByteArray) (t : List UInt8), p.length = n → s.data.toList = joinB p ++ t → (∀ f ∈ p, SplitBack.Good f) → st s (joinB p).length = ((joinB p).length, p) := by
  intro n
  induction n with
  | zero => intro p t hp _ _; have : p = [] := List.eq_nil_of_length_eq_zero hp
            subst this; rfl
  | succ n ih =>
    intro p t hp hs hg
    have hne : p ≠ [] := by intro e; subst e; simp at hp
    obtain ⟨p', f, rfl⟩ : ∃ p' f, p = p' ++ [f] := ⟨p.dropLast, p.getLast hne, (List.dropLast_concat_getLast hne).symm⟩
    have hf := hg f (by simp)
    have hlist : s.data.toList = joinB p' ++ (f.data.toList ++ ([32] ++ t)) := by
      rw [hs, joinB_snoc]; simp
    have i1 := ih p' (f.data.toList ++ ([32] ++ t)) (by simpa using hp) hlist (fun x hx => hg x (by simp [hx]))
    obtain ⟨k, hk⟩ : ∃ k, (joinB p').length = k := ⟨_, rfl⟩
    have hfl : f.data.toList.length = f.size := by simp
    have hat : ∀ j, j < f.size → at_ s (k + j) = at_ f j := fun j hj => by
      rw [at_list s _ hlist, List.getD_eq_getElem?_getD, List.getElem?_append_right (by omega), hk, show k + j - k = j by omega, List.getElem?_append_left (by omega)]
      unfold at_
      rw [List.getD_eq_getElem?_getD]
    have hsp : at_ s (k + f.size) = 32 := by
      rw [at_list s _ hlist, List.getD_eq_getElem?_getD, List.getElem?_append_right (by omega), hk, show k + f.size - k = f.size by omega, List.getElem?_append_right (by omega), hfl, Nat.sub_self]
      rfl
    have hrun := st_run s k f.size (fun j hj => by rw [hat j hj]; exact (hf.2 j hj).1)
    have hlen : (joinB (p' ++ [f])).length = (k + f.size) + 1 := by
      rw [joinB_snoc, List.length_append, List.length_append, hk, hfl]; rfl
    rw [hk] at i1
    rw [hlen, st, if_pos hsp, hrun, i1]
    have hpos := hf.1
    show ((k + f.size) + 1, if k < k + f.size then p' ++ [s.extract k (k + f.size)] else p') = _
    rw [if_pos (by omega)]
    have he : s.extract k (k + f.size) = f := by
      apply ByteArray.ext
      apply Array.toList_inj.1
      rw [ext_data, hlist, show k + f.size - k = f.size by omega, ← hk, List.drop_left, ← hfl, List.take_left]
    rw [he]
/-- SplitBack.Good fields, single spaces between them. -/
theorem split_words (s : ByteArray) (p : List ByteArray) (f : ByteArray) (hs : s.data.toList = joinB p ++ f.data.toList) (hg : ∀ x ∈ p, SplitBack.Good x) (hf : SplitBack.Good f) (hp : p.length + 1 ≤ 24) (hz : s.size ≤ 600) : split s = some (p ++ [f]) := by
  have hfl : f.data.toList.length = f.size := by simp
  obtain ⟨k, hk⟩ : ∃ k, (joinB p).length = k := ⟨_, rfl⟩
  have hl : s.size = k + f.size := by
    have : s.data.toList.length = s.size := by simp
    rw [← this, hs, List.length_append, hk, hfl]
  have i1 := st_join2 s p.length p f.data.toList rfl hs hg
  rw [hk] at i1
  have hat : ∀ j, j < f.size → at_ s (k + j) = at_ f j := fun j hj => by
    rw [at_list s _ hs, List.getD_eq_getElem?_getD, List.getElem?_append_right (by omega), hk, show k + j - k = j by omega]
    unfold at_
    rw [List.getD_eq_getElem?_getD]
  have hrun := st_run s k f.size (fun j hj => by rw [hat j hj]; exact (hf.2 j hj).1)
  have hpos := hf.1
  have hfin : fin s = p ++ [f] := by
    unfold fin
    rw [hl, hrun, i1]
    simp only []
    rw [if_pos (by omega)]
    have he : s.extract k (k + f.size) = f := by
      apply ByteArray.ext
      apply Array.toList_inj.1
      rw [ext_data, hs, show k + f.size - k = f.size by omega, ← hk, List.drop_left, ← hfl, List.take_length]
    rw [he]
  rw [split_some s hz ?_ (by rw [hfin]; simp; omega), hfin]
  intro j hj
  by_cases h1 : j < k
  · have h2 : j < (joinB p).length := by omega
    have := okB_join p hg (joinB p)[j] (List.getElem_mem h2)
    rw [at_list s _ hs, List.getD_eq_getElem?_getD, List.getElem?_append_left h2, List.getElem?_eq_getElem h2]
    exact this
  · have := (hf.2 (j - k) (by omega)).2
    rw [← hat (j - k) (by omega), show k + (j - k) = j by omega] at this
    exact this
def bstr (w : W) : ByteArray := ⟨w.toArray⟩
theorem bstr_data (w : W) : (bstr w).data.toList = w := by simp [bstr]
theorem join_split : ∀ (ws : List W) (x : W), joinW (ws ++ [x]) = joinB (ws.map bstr) ++ x
  | [], x => rfl
  | y :: r, x => by
    have e : joinW (y :: (r ++ [x])) = y ++ 32 :: joinW (r ++ [x]) := join_cons (by simp)
    rw [List.cons_append, e, join_split r x]
    simp [joinB, bstr]
/-- A word: not empty, all of it printable and no space. -/
def GoodW (w : W) : Prop := w ≠ [] ∧ ∀ b ∈ w, 33 ≤ b.toNat ∧ b.toNat ≤ 126
theorem good_of {w : W} (h : GoodW w) : SplitBack.Good (bstr w) := by
  have hl : (bstr w).size = w.length := by simp [bstr, ByteArray.size]
  refine ⟨by rw [hl]; exact List.length_pos_iff.2 h.1, fun i hi => ?_⟩
  rw [hl] at hi
  have := h.2 w[i] (List.getElem_mem hi)
  have e : at_ (bstr w) i = w[i].toNat := by unfold at_; rw [bstr_data, List.getD_eq_getElem?_getD, List.getElem?_eq_getElem hi]; rfl
  rw [e]
  unfold SplitMath.okB
  omega
theorem good_digits {w : W} (h : w.all isD = true) : ∀ b ∈ w, 33 ≤ b.toNat ∧ b.toNat ≤ 126 := fun b hb => by
  have := List.all_eq_true.1 h b hb
  simp only [isD, decide_eq_true_eq] at this
  omega
theorem good_fmt (n : Int) : ∀ b ∈ fmt n, 33 ≤ b.toNat ∧ b.toNat ≤ 126 := by
  by_cases h : 0 ≤ n
  · obtain ⟨m, rfl⟩ := Int.eq_ofNat_of_zero_le h
    exact good_digits (fmt_nat m).2
  · obtain ⟨m, rfl⟩ : ∃ m : Nat, n = -(m : Int) := ⟨n.natAbs, by omega⟩
    rw [fmt_neg (by omega)]
    intro b hb
    rcases List.mem_cons.1 hb with rfl | hb
    · decide
    · exact good_digits (fmt_nat m).2 b hb
theorem good_leaf {n : El} {at_ : Int} (h : OkN n at_) (hs : n.Kind ≤ 2) : GoodW (leafW n) := by
  unfold leafW
  rcases h with h1 | ⟨_, _, h1 | h1 | h1⟩
  · rw [if_pos h1.1]
    have hp := (parts h1.2.2.2.2).2.2.2.1
    refine ⟨List.length_pos_iff.1 hp, fun b hb => ?_⟩
    unfold fracT at hb
    rw [if_pos h1.2.2.2.2] at hb
    split at hb
    · exact good_fmt _ b hb
    · rcases List.mem_append.1 hb with hb | hb
      · rcases List.mem_append.1 hb with hb | hb
        · exact good_fmt _ b hb
        · rw [List.mem_singleton.1 hb]; decide
      · exact good_fmt _ b hb
  · rw [if_neg (by omega)]
    refine ⟨by simp, fun b hb => ?_⟩
    rcases List.mem_cons.1 hb with rfl | hb
    · decide
    · exact good_fmt _ b hb
  · have := h1.1; omega
  · have := h1.1; omega
theorem good_name {k : Int} (h : 3 ≤ k ∧ k ≤ 9) : GoodW (nameW k) := by
  have hk : k = 3 ∨ k = 4 ∨ k = 5 ∨ k = 6 ∨ k = 7 ∨ k = 8 ∨ k = 9 := by omega
  rcases hk with rfl | rfl | rfl | rfl | rfl | rfl | rfl <;> exact ⟨by decide, by decide⟩
def lenS (ws : List W) : Nat := (ws.map fun w => w.length + 1).sum
theorem lenS_app (a b : List W) : lenS (a ++ b) = lenS a + lenS b := by simp [lenS]
theorem lenS_cons (x : W) (r : List W) : lenS (x :: r) = x.length + 1 + lenS r := by simp [lenS]
theorem join_lenS : ∀ (ws : List W), ws ≠ [] → (joinW ws).length + 1 = lenS ws
  | [], h => absurd rfl h
  | [x], _ => by simp [joinW, lenS]
  | x :: y :: r, _ => by
    have := join_lenS (y :: r) (by simp)
    have e : joinW (x :: y :: r) = x ++ 32 :: joinW (y :: r) := rfl
    rw [e, lenS_cons, ← this]
    simp; omega
theorem words_good {l : List El} (hl : OkF l) : ∀ (f k : Nat), k < f → k < l.length → (∀ x ∈ wordsF l f k, GoodW x) ∧ lenS (wordsF l f k) ≤ 19 * (wordsF l f k).length + 7
  | 0, _, h, _ => by omega
  | f + 1, k, hf, hk => by
    obtain ⟨c1, c2, c3⟩ := ok_at hl hk
    have hok := okN_of (hl.2 k hk)
    rw [wordsF, dif_pos hk]
    by_cases hs : l[k].Kind ≤ 2
    · rw [if_pos hs]
      refine ⟨fun x hx => by rw [List.mem_singleton.1 hx]; exact good_leaf hok hs, ?_⟩
      have := leaf_len hok hs
      rw [lenS_cons]
      simp [lenS]; omega
    · obtain ⟨ha, hb⟩ := c2 (by omega)
      have ia := words_good hl f l[k].A.toNat (by omega) (by omega)
      have ib := words_good hl f l[k].B.toNat (by omega) (by omega)
      have hn := name_len l[k].Kind
      rw [if_neg hs]
      by_cases h9 : l[k].Kind = 9
      · have hc := c3 h9
        have ic := words_good hl f l[k].C.toNat (by omega) (by omega)
        rw [if_pos h9]
        refine ⟨fun x hx => ?_, ?_⟩
        · rcases List.mem_cons.1 hx with rfl | hx
          · exact good_name (by omega)
          · rcases List.mem_append.1 hx with hx | hx
            · rcases List.mem_append.1 hx with hx | hx
              · exact ia.1 x hx
              · exact ib.1 x hx
            · exact ic.1 x hx
        · rw [lenS_cons, lenS_app, lenS_app]
          simp only [List.length_cons, List.length_append]
          have := ia.2; have := ib.2; have := ic.2
          omega
      · rw [if_neg h9, List.append_nil]
        refine ⟨fun x hx => ?_, ?_⟩
        · rcases List.mem_cons.1 hx with rfl | hx
          · exact good_name (by omega)
          · rcases List.mem_append.1 hx with hx | hx
            · exact ia.1 x hx
            · exact ib.1 x hx
        · rw [lenS_cons, lenS_app]
          simp only [List.length_cons, List.length_append]
          have := ia.2; have := ib.2
          omega
/-- The text of a formula is split into its words. -/
theorem text_split {l : List El} (hl : OkF l) {k : Nat} (hk : k < l.length) (h24 : (words l k).length ≤ 24) : split (bstr (joinW (words l k))) = some ((words l k).map bstr) := by
  obtain ⟨hg, hlen⟩ := words_good hl (k + 1) k (by omega) hk
  have hp := words_pos (l := l) hk
  unfold words at h24 hp ⊢
  obtain ⟨ws, hws⟩ : ∃ ws, wordsF l (k + 1) k = ws := ⟨_, rfl⟩
  rw [hws] at hg hlen h24 hp ⊢
  have hne : ws ≠ [] := List.length_pos_iff.1 (by omega)
  have hj := join_lenS ws hne
  obtain ⟨p, x, rfl⟩ : ∃ p x, ws = p ++ [x] := ⟨ws.dropLast, ws.getLast hne, (List.dropLast_concat_getLast hne).symm⟩
  have hsz : (bstr (joinW (p ++ [x]))).size = (joinW (p ++ [x])).length := by simp [bstr, ByteArray.size]
  rw [split_words _ (p.map bstr) (bstr x) (by rw [bstr_data, bstr_data]; exact join_split p x) (fun y hy => by
    obtain ⟨z, hz, rfl⟩ := List.mem_map.1 hy
    exact good_of (hg z (by simp [hz]))) (good_of (hg x (by simp))) (by simpa using h24) (by rw [hsz]; omega)]
  simp
/-- What is read from a formula's own words. -/
theorem read_back {l : List El} (hl : OkF l) (h24 : (words l (l.length - 1)).length ≤ 24) : ∃ U : List El, readT l.length (words l (l.length - 1)) [] = some (U, []) ∧ OkF U ∧ U.length = (words l (l.length - 1)).length ∧ words U (U.length - 1) = words l (l.length - 1) ∧
    ∀ vs v, evalAll l vs = (v, true) → evalL U vs = evalL l vs := by
  have h1 := hl.1.1
  obtain ⟨k, hk⟩ : ∃ k, l.length = k + 1 := ⟨l.length - 1, by omega⟩
  have hkl : k < l.length := by omega
  rw [show l.length - 1 = k by omega] at h24 ⊢
  rw [hk]
  have hr := read_words hl (k + 1) k [] [] (by omega) hkl
  obtain ⟨U, hU⟩ : ∃ U, unf l (k + 1) k 0 = U := ⟨_, rfl⟩
  have hlen := unf_len hl (k + 1) k 0 (by omega) hkl
  have hok := unf_ok hl (k + 1) k 0 (by omega) hkl
  have hpos := unf_pos hl (b := 0) (show k < k + 1 by omega) hkl
  have hw := unf_words hl (k + 1) k [] [] (by omega) hkl
  have hev := fun (vs v : List Fr) (h : evalTo l vs l.length = some v) (hv : v.length = l.length) => unf_eval hl h hv (k + 1) k [] [] [] (by omega) hkl rfl
  simp only [List.length_nil, List.nil_append, List.append_nil, Nat.zero_add] at hr hw hev
  rw [hU] at hr hlen hok hpos hw hev
  have hUok : OkF U := ⟨⟨hpos, by rw [hlen]; unfold words at h24; omega⟩, fun i hi => okN_yes (by have := hok i hi; rwa [Nat.zero_add] at this)⟩
  refine ⟨U, hr, hUok, hlen, ?_, fun vs v he => ?_⟩
  · have e := hw (U.length - 1 + 1) (by omega)
    unfold words
    rw [e]
  · have hc : okF l = true ∧ okVs vs = true := by
      cases e1 : okF l with
      | true =>
        cases e2 : okVs vs with
        | true => exact ⟨rfl, rfl⟩
        | false => rw [evalAll_no (by rw [e2]; simp)] at he; cases he
      | false => rw [evalAll_no (by rw [e1]; simp)] at he; cases he
    have hto : evalTo l vs l.length = some v := by
      cases e : evalTo l vs l.length with
      | none => rw [evalAll_none hc (Nat.le_refl _) e] at he; cases he
      | some u => rw [evalAll_some hc e] at he; rw [(Prod.mk.inj he).1]
    have hvl := evalTo_len (Nat.le_refl _) hto
    obtain ⟨vu, l1, l2, l3⟩ := hev vs v hto hvl
    have hA := evalAll_some (l := U) (vs := vs) ⟨okF_yes hUok, hc.2⟩ l3
    have hne : vu ≠ [] := by intro e; subst e; cases l2
    have hup : 0 < vu.length := List.length_pos_iff.2 hne
    rw [List.getLast?_eq_getElem?, List.getElem?_eq_getElem (show vu.length - 1 < vu.length by omega)] at l2
    have hg := Option.some.inj l2
    unfold evalL
    rw [hA, he]
    simp only [if_true]
    have a1 : at0 vu ((vu.length : Int) - 1) = vu[vu.length - 1]'(by omega) := by
      rw [show (vu.length : Int) - 1 = ((vu.length - 1 : Nat) : Int) by omega]
      simp [at0, show vu.length - 1 < vu.length by omega]
    have a2 : at0 v ((v.length : Int) - 1) = v[k]'(by omega) := by
      rw [show (v.length : Int) - 1 = (k : Int) by omega]
      simp [at0, show k < v.length by omega]
    rw [a1, a2, hg]
end Go.Proofs.YtiogpiopgcbdbaaGreatDoor.ReadB
