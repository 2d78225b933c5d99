/- A fraction's text behind which something stands; the greatest fraction: plain mathematics. -/
import Derived.Test.YtiogpiopgcbdbaaDoorAtoiM
namespace Go.Proofs.YtiogpiopgcbdbaaDoor.FracTxL
open FracMath HexMath NumMath NumParse NumBack FracTxM AtoiM
theorem fmt_inj {a b : Int} (ha : -1000000000000 ≤ a ∧ a ≤ 1000000000000) (hb : -1000000000000 ≤ b ∧ b ≤ 1000000000000) (h : fmt a = fmt b) : a = b := by
  have h1 := atoi_fmt ha.1 ha.2
  have h2 := atoi_fmt hb.1 hb.2
  rw [h, h2] at h1
  injection h1 with h1
  exact h1.symm
theorem fmt_one : fmt 1 = [49] := by
  rw [show (1 : Int) = ((1 : Nat) : Int) from rfl]
  unfold fmt
  rw [if_neg (by omega), if_neg (by omega), Int.natAbs_natCast, dg_pos 1 (by omega), dg_zero]
  rfl
/-- '/1' behind a fraction's text: no fraction. -/
theorem slash_no {n d : Int} (h : okB n d = true) : parseT (fracT n d ++ [47, 49]) = (0, 0, false) := parse_no fun n' d' ho e => by
  have hb := ok_bd h
  have hb' := ok_bd ho
  by_cases hd' : d' = 1
  · subst hd'
    rw [fracT_one ho] at e
    exact fmt_noslash n' (by rw [e]; simp)
  · have h1 := (parts_cut ho).1
    have h2 := (parts_cut ho).2
    rw [e] at h1 h2
    unfold upper at h1
    unfold lower at h2
    by_cases hd : d = 1
    · subst hd
      rw [fracT_one h, show fmt n ++ [47, 49] = fmt n ++ 47 :: [49] from rfl, cut_at (fmt_noslash n)] at h1 h2
      rw [if_pos rfl] at h2
      exact hd' (fmt_inj ⟨by omega, by omega⟩ ⟨by omega, by omega⟩ (by rw [fmt_one]; exact h2.symm))
    · rw [fracT_two h hd, show fmt n ++ [47] ++ fmt d ++ [47, 49] = fmt n ++ 47 :: (fmt d ++ [47, 49]) by simp, cut_at (fmt_noslash n)] at h1 h2
      rw [if_pos rfl] at h2
      exact fmt_noslash d' (by rw [← h2]; simp)
theorem big_ok : okB (-1000000000000) 1 = true := by decide
end Go.Proofs.YtiogpiopgcbdbaaDoor.FracTxL
