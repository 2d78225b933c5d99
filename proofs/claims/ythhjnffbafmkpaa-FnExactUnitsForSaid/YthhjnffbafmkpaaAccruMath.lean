/- Accrual: designs, accrued pensions, units, accounts that grow: plain mathematics. -/
import Derived.Test.YthhjnffbafmkpaaKit
import Derived.Test.YthhjnffbafmkpaaMon
import Derived.Test.YthhjnffbafmkpaaRoundC
namespace Go.Proofs.Ythhjnffbafmkpaa.AccruMath
open Mon
open FracMath (red okB mulR newR facB)
open RoundI (flo)
/-- A valid design: kind, rate, cap. -/
def okD (K R C : Int) : Bool := inB K 1 4 && (inB R 1 1000 && if K ≤ 2 then inB C 1 60 else decide (C = 0))
theorem okD_of {K R C : Int} (h : okD K R C = true) : (1 ≤ K ∧ K ≤ 4) ∧ (1 ≤ R ∧ R ≤ 1000) ∧ (K ≤ 2 → 1 ≤ C ∧ C ≤ 60) ∧ (¬ K ≤ 2 → C = 0) := by
  simp only [okD, Bool.and_eq_true] at h
  refine ⟨inB_of h.1, inB_of h.2.1, fun e => ?_, fun e => ?_⟩
  · have := h.2.2; rw [if_pos e] at this; exact inB_of this
  · have := h.2.2; rw [if_neg e] at this; exact of_decide_eq_true this
theorem okD_low {K R C : Int} (h1 : 1 ≤ K) (h2 : K ≤ 2) (h3 : 1 ≤ R) (h4 : R ≤ 1000) (h5 : 1 ≤ C) (h6 : C ≤ 60) : okD K R C = true := by
  rw [okD, inB_yes h1 (by omega), inB_yes h3 h4, if_pos h2, inB_yes h5 h6]; rfl
theorem okD_high {K R : Int} (h1 : 3 ≤ K) (h2 : K ≤ 4) (h3 : 1 ≤ R) (h4 : R ≤ 1000) : okD K R 0 = true := by
  rw [okD, inB_yes (by omega) h2, inB_yes h3 h4, if_neg (by omega)]; rfl
/-- The rate, and the years of service that count. -/
def rte (R : Int) : Int × Int × Bool := newR R 10000
def yrs (C s : Int) : Int × Int × Bool := newR (min s (C * 1200)) 1200
/-- The two products, one after the other. -/
def prods (R C s n d : Int) : Int × Int × Bool :=
  if (mulR n d (rte R).1 (rte R).2.1).2.2 = true then mulR (mulR n d (rte R).1 (rte R).2.1).1 (mulR n d (rte R).1 (rte R).2.1).2.1 (yrs C s).1 (yrs C s).2.1 else (0, 0, false)
def askA (K R C s n d : Int) : Bool := okD K R C && (decide (K ≤ 2) && (inB s 0 72000 && (okB n d && decide (0 ≤ n))))
def accr (K R C s n d : Int) : Int × Int × Bool := if askA K R C s n d = true then prods R C s n d else (0, 0, false)
theorem accr_yes {K R C s n d : Int} (h : askA K R C s n d = true) : accr K R C s n d = prods R C s n d := if_pos h
theorem accr_no {K R C s n d : Int} (h : askA K R C s n d = false) : accr K R C s n d = (0, 0, false) := if_neg (by rw [h]; simp)
/-- Units for money. -/
def units (c p : Int) : Int × Int := if inB c 0 1000000000 = true ∧ inB p 1 100000 = true then ((newR c p).1, (newR c p).2.1) else (0, 0)
theorem units_yes {c p : Int} (h1 : inB c 0 1000000000 = true) (h2 : inB p 1 100000 = true) : units c p = ((newR c p).1, (newR c p).2.1) := if_pos ⟨h1, h2⟩
theorem units_no {c p : Int} (h : ¬ (inB c 0 1000000000 = true ∧ inB p 1 100000 = true)) : units c p = (0, 0) := if_neg h
/-- The pension of units: what the product comes to, rounded down. -/
def askU (K R C n d : Int) : Bool := okD K R C && (decide (K = 3) && (okB n d && decide (0 ≤ n)))
def upen (K R C n d : Int) : Int × Bool := if askU K R C n d = true then (flo (mulR n d R 1).1 (mulR n d R 1).2.1, (mulR n d R 1).2.2) else (0, false)
theorem upen_yes {K R C n d : Int} (h : askU K R C n d = true) : upen K R C n d = (flo (mulR n d R 1).1 (mulR n d R 1).2.1, (mulR n d R 1).2.2) := if_pos h
theorem upen_no {K R C n d : Int} (h : askU K R C n d = false) : upen K R C n d = (0, false) := if_neg (by rw [h]; simp)
/-- The account after a year. -/
def askG (K R C b c e : Int) : Bool := okD K R C && (decide (K = 4) && (inB b 0 1000000000 && (inB c 0 1000000000 && inB e (-10000) 10000)))
def grow (K R C b c e : Int) : Int := if askG K R C b c e = true then b + (b * max e R).tdiv 10000 + c else 0
theorem grow_yes {K R C b c e : Int} (h : askG K R C b c e = true) : grow K R C b c e = b + (b * max e R).tdiv 10000 + c := if_pos h
theorem grow_no {K R C b c e : Int} (h : askG K R C b c e = false) : grow K R C b c e = 0 := if_neg (by rw [h]; simp)
end Go.Proofs.Ythhjnffbafmkpaa.AccruMath
