/- The program's way to the fraction of a text: cut at the first slash, both parts as decimal numbers, the text laid anew and compared. Plain mathematics; imports nothing of the dump. -/
import Derived.Test.YtiogpiopgcbdbaaDoorFracTxM
import Derived.Lib.AtoiAllCases
import Derived.Lib.IndexMore
import Derived.Lib.IndexBytes
namespace Go.Proofs.YtiogpiopgcbdbaaDoor.AtoiM
open FracMath HexMath NumMath NumParse NumBack FracTxM
/-- Digits behind an accumulator. -/
def vdA (acc : Nat) (l : List UInt8) : Nat := l.foldl (fun x b => 10 * x + (b.toNat - 48)) acc
theorem vdA_ge : ∀ (l : List UInt8) (acc : Nat), acc ≤ vdA acc l
  | [], _ => Nat.le_refl _
  | b :: l, acc => by
    have := vdA_ge l (10 * acc + (b.toNat - 48))
    have e : vdA acc (b :: l) = vdA (10 * acc + (b.toNat - 48)) l := rfl
    omega
theorem parse_digits : ∀ (l : List UInt8) (acc : Nat), l.all isD = true → vdA acc l < 10 ^ 18 → Lib.parseUint10 acc l = .ok (vdA acc l)
  | [], _, _, _ => rfl
  | b :: l, acc, hd, hv => by
    rw [List.all_cons, Bool.and_eq_true] at hd
    have hb := hd.1
    simp only [isD, decide_eq_true_eq] at hb
    have e : vdA acc (b :: l) = vdA (10 * acc + (b.toNat - 48)) l := rfl
    rw [e] at hv ⊢
    have hge := vdA_ge l (10 * acc + (b.toNat - 48))
    have h18 : (10 : Nat) ^ 18 = 1000000000000000000 := by decide
    rw [h18] at hv
    rw [Lib.parseUint10, if_pos hb, if_neg (by omega), if_neg (by omega), show acc * 10 + (b.toNat - 48) = 10 * acc + (b.toNat - 48) by omega]
    exact parse_digits l _ hd.2 (by rw [h18]; exact hv)
theorem mag_dg {n : Nat} (h : n < 10 ^ 18) (h0 : 0 < n) : Lib.parseMag (dg n) = .ok n := by
  obtain ⟨h1, h2⟩ := dg_back n n (Nat.le_refl _)
  unfold Lib.parseMag
  rw [if_neg (by rw [dg_pos n h0]; simp), parse_digits _ _ h2 (by show vd (dg n) < _; rw [h1]; exact h)]
  exact congrArg _ h1
/-- A number's decimal text is read as the number. -/
theorem atoi_fmt {n : Int} (h1 : -1000000000000 ≤ n) (h2 : n ≤ 1000000000000) : Lib.atoiAll (fmt n) = .ok n := by
  have h18 : (10 : Nat) ^ 18 = 1000000000000000000 := by decide
  by_cases h0 : n = 0
  · subst h0; decide
  · unfold fmt
    rw [if_neg h0]
    by_cases hn : n < 0
    · rw [if_pos hn, Lib.atoiAll_minus, mag_dg (by rw [h18]; omega) (by omega), Lib.signed, if_neg (by omega)]
      congr 1
      omega
    · rw [if_neg hn]
      obtain ⟨a, r, e, ha⟩ := dg_head n.natAbs n.natAbs (Nat.le_refl _) (by omega)
      have hm := mag_dg (n := n.natAbs) (by rw [h18]; omega) (by omega)
      obtain ⟨_, hd⟩ := dg_back n.natAbs n.natAbs (Nat.le_refl _)
      rw [e] at hm hd ⊢
      rw [List.all_cons, Bool.and_eq_true] at hd
      have hb := hd.1
      simp only [isD, decide_eq_true_eq] at hb
      rw [Lib.atoiAll_plain a r (by omega) (by omega), hm, Lib.signless, if_neg (by omega)]
      congr 1
      omega
theorem index_no : ∀ {l : List UInt8} {c : UInt8}, c ∉ l → Lib.indexByte l c = -1
  | [], _, _ => rfl
  | b :: l, c, h => by
    rw [List.mem_cons, not_or] at h
    have hb : (b == c) = false := beq_eq_false_iff_ne.2 (fun e => h.1 e.symm)
    rw [Lib.indexByte, hb, index_no h.2]
    rfl
theorem index_at : ∀ {l r : List UInt8} {c : UInt8}, c ∉ l → Lib.indexByte (l ++ c :: r) c = l.length
  | [], r, c, _ => by
    rw [List.nil_append, Lib.indexByte, beq_self_eq_true]
    rfl
  | b :: l, r, c, h => by
    rw [List.mem_cons, not_or] at h
    have hb : (b == c) = false := beq_eq_false_iff_ne.2 (fun e => h.1 e.symm)
    have ih := index_at (r := r) h.2
    have hne : ((l.length : Int) == -1) = false := beq_eq_false_iff_ne.2 (by omega)
    rw [List.cons_append, Lib.indexByte, hb, ih, hne, List.length_cons]
    simp
/-- The text's parts at the first slash. -/
theorem cut_no {l : List UInt8} (h : (47 : UInt8) ∉ l) : Lib.cut l [47] = (l, [], false) := by
  unfold Lib.cut
  rw [Lib.index_one, index_no h, if_neg (by omega)]
theorem cut_at {l r : List UInt8} (h : (47 : UInt8) ∉ l) : Lib.cut (l ++ 47 :: r) [47] = (l, r, true) := by
  unfold Lib.cut
  rw [Lib.index_one, index_at h, if_pos (by omega), Int.toNat_natCast, List.take_left' rfl, List.length_singleton]
  have e : l ++ 47 :: r = (l ++ [47]) ++ r := by simp
  rw [e, List.drop_left' (by simp)]
theorem fmt_noslash (n : Int) : (47 : UInt8) ∉ fmt n := by
  have hdg : ∀ m : Nat, (47 : UInt8) ∉ dg m := fun m hm => by
    obtain ⟨_, hd⟩ := dg_back m m (Nat.le_refl _)
    have := List.all_eq_true.1 hd 47 hm
    exact absurd this (by decide)
  unfold fmt
  split
  · decide
  · split
    · rw [List.mem_cons, not_or]; exact ⟨by decide, hdg _⟩
    · exact hdg _
/-- The lower part, '1' where there is no slash. -/
def lower (l : List UInt8) : List UInt8 := if (Lib.cut l [47]).2.2 = true then (Lib.cut l [47]).2.1 else [49]
def upper (l : List UInt8) : List UInt8 := (Lib.cut l [47]).1
theorem parts_cut {n d : Int} (h : okB n d = true) : upper (fracT n d) = fmt n ∧ lower (fracT n d) = fmt d := by
  by_cases hd : d = 1
  · subst hd
    rw [fracT_one h]
    unfold upper lower
    rw [cut_no (fmt_noslash n)]
    refine ⟨rfl, ?_⟩
    rw [if_neg (by simp), show (1 : Int) = ((1 : Nat) : Int) from rfl]
    unfold fmt
    rw [if_neg (by omega), if_neg (by omega), Int.natAbs_natCast, dg_pos 1 (by omega), dg_zero]
    rfl
  · rw [fracT_two h hd]
    have e : fmt n ++ [47] ++ fmt d = fmt n ++ 47 :: fmt d := by simp
    rw [e]
    unfold upper lower
    rw [cut_at (fmt_noslash n)]
    exact ⟨rfl, rfl⟩
/-- Where one of the parts is no number there is no fraction. -/
theorem no_num {l : List UInt8} (h : ∀ n, Lib.atoiAll (upper l) ≠ .ok n) : parseT l = (0, 0, false) := parse_no fun n d ho e => by
  subst e
  have hb := ok_bd ho
  refine h n ?_
  rw [(parts_cut ho).1]
  exact atoi_fmt (by omega) (by omega)
theorem no_den {l : List UInt8} (h : ∀ n, Lib.atoiAll (lower l) ≠ .ok n) : parseT l = (0, 0, false) := parse_no fun n d ho e => by
  subst e
  have hb := ok_bd ho
  refine h d ?_
  rw [(parts_cut ho).2]
  exact atoi_fmt (by omega) (by omega)
theorem both_no {l : List UInt8} {n d : Int} (h1 : Lib.atoiAll (upper l) = .ok n) (h2 : Lib.atoiAll (lower l) = .ok d) (h : fracT n d ≠ l) : parseT l = (0, 0, false) := parse_no fun n' d' ho e => by
  have hb := ok_bd ho
  rw [← e, (parts_cut ho).1, atoi_fmt (by omega) (by omega)] at h1
  rw [← e, (parts_cut ho).2, atoi_fmt (by omega) (by omega)] at h2
  cases h1
  cases h2
  exact h e
theorem both_yes {l : List UInt8} {n d : Int} (h1 : Lib.atoiAll (upper l) = .ok n) (h : fracT n d = l) : parseT l = (n, d, true) := by
  cases ho : okB n d with
  | true => rw [← h]; exact parse_frac ho
  | false =>
    rw [fracT_no ho] at h
    subst h
    have : Lib.atoiAll (upper []) = Lib.atoiAll [] := by decide
    rw [this] at h1
    simp [Lib.atoiAll] at h1
end Go.Proofs.YtiogpiopgcbdbaaDoor.AtoiM
