/- Parsing of decimal text as a plain function on bytes, and how it goes with the decimal digits. Imports nothing of the dump. -/
import Derived.WalkKit
import Derived.Test.YtggnkjnpiagdpaaDoorHexMath
import Derived.Test.YtggnkjnpiagdpaaDoorNumMath
namespace Go.Proofs.YtggnkjnpiagdpaaDoor.NumParse
open HexMath NumMath

def isD (b : UInt8) : Bool := decide (48 ≤ b.toNat ∧ b.toNat ≤ 57)
def vd (l : List UInt8) : Nat := l.foldl (fun x b => 10 * x + (b.toNat - 48)) 0
theorem vd_snoc (l : List UInt8) (b : UInt8) : vd (l ++ [b]) = 10 * vd l + (b.toNat - 48) := by simp [vd]
/-- Not empty, and no zero ahead of further digits. -/
def canon (l : List UInt8) : Bool := match l with | [] => false | [_] => true | a :: _ :: _ => a != 48
def pU (l : List UInt8) : Option Nat := if canon l = true ∧ l.all isD = true ∧ vd l ≤ 1000000000 then some (vd l) else none
def resN (r : Option Nat) : Value := match r with | some n => .tuple #[.int .i64 n, .bool true] | none => .tuple #[.int .i64 0, .bool false]

theorem vd_mono (l m : List UInt8) : vd l ≤ vd (l ++ m) := by
  induction m generalizing l with
  | nil => simp
  | cons b m ih =>
    have h1 := ih (l ++ [b])
    rw [vd_snoc, List.append_assoc] at h1
    have : [b] ++ m = b :: m := rfl
    rw [this] at h1
    omega
theorem fig_dig (b : UInt8) (h : isD b = true) : fig (b.toNat - 48) = b := by
  simp only [isD, decide_eq_true_eq] at h
  have hb : b = UInt8.ofNat b.toNat := by simp
  unfold fig
  rw [if_pos (by omega), show 48 + (b.toNat - 48) = b.toNat by omega]
  exact hb.symm
theorem dg_step (x d : Nat) (h : d < 10) (hx : 0 < x ∨ 0 < d) : dg (10 * x + d) = dg x ++ [fig d] := by
  rw [dg_pos _ (by omega), show (10 * x + d) / 10 = x by omega, show (10 * x + d) % 10 = d by omega]
/-- The first digit of a number is not 0. -/
theorem dg_head : ∀ (n k : Nat), n ≤ k → 0 < n → ∃ a r, dg n = a :: r ∧ a ≠ 48 := by
  intro n k
  induction k generalizing n with
  | zero => intro h1 h2; omega
  | succ k ih =>
    intro h1 h2
    rw [dg_pos n h2]
    by_cases h : n / 10 = 0
    · rw [h, dg_zero]
      refine ⟨fig (n % 10), [], rfl, ?_⟩
      have H : ∀ m : Fin 10, m.val ≠ 0 → fig m.val ≠ 48 := by decide
      exact H ⟨n % 10, by omega⟩ (by show n % 10 ≠ 0; omega)
    · obtain ⟨a, r, e, ha⟩ := ih (n / 10) (by omega) (by omega)
      rw [e]
      exact ⟨a, r ++ [fig (n % 10)], rfl, ha⟩
theorem vd_pos_snoc (l : List UInt8) (b : UInt8) (h : 0 < vd l ∨ 0 < b.toNat - 48) : 0 < vd (l ++ [b]) := by rw [vd_snoc]; omega
/-- A list of digits that begins with no zero is the digits of its value. -/
theorem dg_vd (a : UInt8) (ha : isD a = true) (h48 : a ≠ 48) : ∀ (m : List UInt8), m.all isD = true → dg (vd (a :: m)) = a :: m ∧ 10 ^ m.length ≤ vd (a :: m) := by
  have ha' := ha
  simp only [isD, decide_eq_true_eq] at ha'
  have hne : a.toNat ≠ 48 := fun e => h48 (UInt8.toNat_inj.1 e)
  have key : ∀ (k : Nat) (m : List UInt8), m.length = k → m.all isD = true → dg (vd (a :: m)) = a :: m ∧ 10 ^ m.length ≤ vd (a :: m) := by
    intro k
    induction k with
    | zero =>
      intro m hm _
      have : m = [] := List.eq_nil_of_length_eq_zero hm
      subst this
      have e : vd [a] = a.toNat - 48 := by simp [vd]
      rw [e]
      refine ⟨?_, by simp; omega⟩
      have := dg_step 0 (a.toNat - 48) (by omega) (.inr (by omega))
      simp only [Nat.mul_zero, Nat.zero_add, dg_zero, List.nil_append] at this
      rw [this, fig_dig a ha]
    | succ k ih =>
      intro m hm hd
      have hne0 : m ≠ [] := by intro e; subst e; simp at hm
      obtain ⟨m', b, rfl⟩ : ∃ m' b, m = m' ++ [b] := ⟨m.dropLast, m.getLast hne0, (List.dropLast_concat_getLast hne0).symm⟩
      simp only [List.all_append, List.all_cons, List.all_nil, Bool.and_true, Bool.and_eq_true] at hd
      obtain ⟨i1, i2⟩ := ih m' (by simpa using hm) hd.1
      have hb := hd.2
      have hb' := hb
      simp only [isD, decide_eq_true_eq] at hb'
      have hp : 0 < 10 ^ m'.length := Nat.pos_of_ne_zero (by simp)
      rw [← List.cons_append, vd_snoc]
      refine ⟨?_, ?_⟩
      · rw [dg_step _ _ (by omega) (.inl (by omega)), i1, fig_dig b hb]
      · rw [List.length_append, List.length_singleton, Nat.pow_succ]; omega
  intro m hm
  exact key m.length m rfl hm
theorem fmt_vd (l : List UInt8) (hc : canon l = true) (hd : l.all isD = true) : fmt (vd l : Int) = l := by
  match l, hc, hd with
  | [a], _, hd =>
    simp only [List.all_cons, List.all_nil, Bool.and_true] at hd
    by_cases h48 : a = 48
    · subst h48; rfl
    · have hv := dg_vd a hd h48 [] rfl
      have h0 : 0 < vd [a] := by have := hv.2; simp at this; omega
      unfold fmt
      rw [if_neg (by omega), if_neg (by omega), Int.natAbs_natCast, hv.1]
  | a :: b :: m, hc, hd =>
    simp only [canon, bne_iff_ne] at hc
    rw [List.all_cons, Bool.and_eq_true] at hd
    have hv := dg_vd a hd.1 hc (b :: m) hd.2
    have hp : 0 < 10 ^ (b :: m).length := Nat.pos_of_ne_zero (by simp)
    unfold fmt
    rw [if_neg (by omega), if_neg (by omega), Int.natAbs_natCast, hv.1]
theorem canon_fmt (n : Nat) : canon (fmt (n : Int)) = true := by
  unfold fmt
  by_cases h : n = 0
  · subst h; rfl
  · rw [if_neg (by omega), if_neg (by omega), Int.natAbs_natCast]
    obtain ⟨a, r, e, ha⟩ := dg_head n n (Nat.le_refl _) (by omega)
    rw [e]
    cases r with
    | nil => rfl
    | cons b r => simp [canon, ha]
theorem big_none (l : List UInt8) (h : 10 < l.length) : pU l = none := by
  unfold pU
  rw [if_neg]
  rintro ⟨hc, hd, hv⟩
  match l, h, hc, hd, hv with
  | a :: b :: m, h, hc, hd, hv =>
    simp only [canon, bne_iff_ne] at hc
    rw [List.all_cons, Bool.and_eq_true] at hd
    have h2 := (dg_vd a hd.1 hc (b :: m) hd.2).2
    have : 10 ^ 10 ≤ 10 ^ (b :: m).length := Nat.pow_le_pow_right (by omega) (by simp at h ⊢; omega)
    omega
  | [], h, _, _, _ => simp at h
  | [_], h, _, _, _ => simp at h
theorem bad_none (s : ByteArray) (k c : Nat) (h : k < s.size) (hc : s[k].toNat = c) (hb : c < 48 ∨ 57 < c) : pU s.data.toList = none := by
  unfold pU
  rw [if_neg]
  rintro ⟨_, hd, _⟩
  rw [List.all_eq_true] at hd
  have := hd s[k] (by rw [List.mem_iff_getElem]; exact ⟨k, by simpa using h, rfl⟩)
  simp only [isD, decide_eq_true_eq] at this
  omega
theorem uncanon_none (l : List UInt8) (h : canon l = false) : pU l = none := by
  unfold pU
  rw [if_neg]
  rintro ⟨hc, _⟩
  rw [h] at hc; cases hc
theorem over_none (s : ByteArray) (k : Nat) (h : 1000000000 < vd (s.data.toList.take k)) : pU s.data.toList = none := by
  unfold pU
  rw [if_neg]
  rintro ⟨_, _, hv⟩
  have := vd_mono (s.data.toList.take k) (s.data.toList.drop k)
  rw [List.take_append_drop] at this
  omega
theorem vd_next (s : ByteArray) (k c : Nat) (h : k < s.size) (hc : s[k].toNat = c) : vd (s.data.toList.take (k + 1)) = 10 * vd (s.data.toList.take k) + (c - 48) := by
  rw [take_snoc s k h, vd_snoc, hc]
theorem all_next (s : ByteArray) (k c : Nat) (h : k < s.size) (hc : s[k].toNat = c) (h1 : 48 ≤ c) (h2 : c ≤ 57) (ha : (s.data.toList.take k).all isD = true) : (s.data.toList.take (k + 1)).all isD = true := by
  rw [take_snoc s k h, List.all_append, ha]
  simp [isD, hc, h1, h2]
theorem vd_lt (l : List UInt8) (h : l.all isD = true) : vd l < 10 ^ l.length := by
  have key : ∀ (k : Nat) (m : List UInt8), m.length = k → m.all isD = true → vd m < 10 ^ m.length := by
    intro k
    induction k with
    | zero => intro m hm _; have : m = [] := List.eq_nil_of_length_eq_zero hm
              subst this; simp [vd]
    | succ k ih =>
      intro m hm hd
      have hne0 : m ≠ [] := by intro e; subst e; simp at hm
      obtain ⟨m', b, rfl⟩ : ∃ m' b, m = m' ++ [b] := ⟨m.dropLast, m.getLast hne0, (List.dropLast_concat_getLast hne0).symm⟩
      simp only [List.all_append, List.all_cons, List.all_nil, Bool.and_true, Bool.and_eq_true] at hd
      have i1 := ih m' (by simpa using hm) hd.1
      have hb := hd.2
      simp only [isD, decide_eq_true_eq] at hb
      rw [vd_snoc, List.length_append, List.length_singleton, Nat.pow_succ]; omega
  exact key l.length l rfl h
end Go.Proofs.YtggnkjnpiagdpaaDoor.NumParse
