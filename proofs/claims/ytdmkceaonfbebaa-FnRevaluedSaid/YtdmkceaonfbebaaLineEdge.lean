/- The months' timeline, segment by segment: a segment goes from one month in which the value changes to the next one. -/
import Derived.Test.YtdmkceaonfbebaaLineMath
namespace Go.Proofs.Ytdmkceaonfbebaa.LineEdge
open TSegment SegMath Mon Fact FactMath LineMath

/-- The last segment ends at m at the latest; where it ends at m, r is not its value. -/
def Edge (out : List El) (m : Int) (r : Int × Bool) : Prop := ∀ y, out.getLast? = some y → y.To ≤ m ∧ (y.To = m → r ≠ (y.Value, true))
theorem Edge.nil (m : Int) (r : Int × Bool) : Edge [] m r := fun y h => by simp at h
theorem addM_edge {out : List El} {m v : Int} (h : Edge out m (v, true)) : addM out m (v, true) = out ++ [⟨m, m + 1, v⟩] := by
  unfold addM
  rw [if_pos rfl]
  cases hl : out.getLast? with
  | none => rfl
  | some y =>
    show (if _ then _ else _) = _
    rw [if_neg]
    rintro ⟨e1, e2⟩
    exact (h y hl).2 e1 (by rw [e2])
theorem addM_more (out : List El) (f m v : Int) : addM (out ++ [⟨f, m, v⟩]) m (v, true) = out ++ [⟨f, m + 1, v⟩] := by
  unfold addM
  rw [if_pos rfl, List.getLast?_concat]
  show (if _ then _ else _) = _
  rw [if_pos ⟨rfl, rfl⟩]
  simp
variable {key kn f : Int} {l : List Fa}
/-- The months j, .., j + d have the value v: one segment more. -/
theorem line_run {v : Int} (j d : Nat) (h : ∀ n : Int, f + (j : Int) ≤ n → n ≤ f + (j : Int) + (d : Int) → val key n kn l = (v, true)) (hE : Edge (lineTo key kn f l j) (f + (j : Int)) (v, true)) :
    lineTo key kn f l (j + d + 1) = lineTo key kn f l j ++ [⟨f + (j : Int), f + (j : Int) + (d : Int) + 1, v⟩] := by
  induction d with
  | zero =>
    show addM _ _ _ = _
    rw [h (f + (j : Int)) (by omega) (by omega)]
    simpa using addM_edge hE
  | succ d ih =>
    show addM (lineTo key kn f l (j + d + 1)) _ _ = _
    rw [ih (fun n h1 h2 => h n h1 (by omega)), h (f + ((j + (d + 1) : Nat) : Int)) (by omega) (by omega)]
    have e : f + (j : Int) + (d : Int) + 1 = f + ((j + (d + 1) : Nat) : Int) := by omega
    rw [e, addM_more, show f + (j : Int) + ((d + 1 : Nat) : Int) + 1 = f + ((j + (d + 1) : Nat) : Int) + 1 by omega]
/-- The months j, .., j + d have no value: nothing more. -/
theorem line_none {v : Int} (j d : Nat) (h : ∀ n : Int, f + (j : Int) ≤ n → n ≤ f + (j : Int) + (d : Int) → val key n kn l = (v, false)) : lineTo key kn f l (j + d + 1) = lineTo key kn f l j := by
  induction d with
  | zero =>
    show addM _ _ _ = _
    rw [h (f + (j : Int)) (by omega) (by omega)]
    exact addM_no _ _ _
  | succ d ih =>
    show addM (lineTo key kn f l (j + d + 1)) _ _ = _
    rw [ih (fun n h1 h2 => h n h1 (by omega)), h (f + ((j + (d + 1) : Nat) : Int)) (by omega) (by omega)]
    exact addM_no _ _ _
/-- e is the first month behind m in which the value is another, or t. -/
def IsNext (key kn : Int) (l : List Fa) (m t e : Int) : Prop := m < e ∧ e ≤ t ∧ (∀ n, m < n → n < e → val key n kn l = val key m kn l) ∧ (e < t → val key e kn l ≠ val key m kn l)
theorem next_run {j : Nat} {t e v : Int} (h : IsNext key kn l (f + (j : Int)) t e) (hv : val key (f + (j : Int)) kn l = (v, true)) (hE : Edge (lineTo key kn f l j) (f + (j : Int)) (v, true)) :
    ∃ i : Nat, e = f + (i : Int) ∧ j < i ∧ lineTo key kn f l i = lineTo key kn f l j ++ [⟨f + (j : Int), e, v⟩] ∧ (e < t → Edge (lineTo key kn f l i) e (val key e kn l)) := by
  obtain ⟨h1, h2, h3, h4⟩ := h
  obtain ⟨d, hd⟩ : ∃ d : Nat, e = f + (j : Int) + (d : Int) + 1 := ⟨(e - (f + (j : Int)) - 1).toNat, by omega⟩
  have hr := line_run (v := v) j d (fun n a b => by
    by_cases e0 : n = f + (j : Int)
    · rw [e0]; exact hv
    · rw [h3 n (by omega) (by omega)]; exact hv) hE
  refine ⟨j + d + 1, by omega, by omega, by rw [hr, hd], fun ht y hy => ?_⟩
  rw [hr, List.getLast?_concat] at hy
  cases hy
  refine ⟨by simp only []; omega, fun _ e1 => h4 ht ?_⟩
  rw [hv]; exact e1
theorem next_none {j : Nat} {t e v : Int} (h : IsNext key kn l (f + (j : Int)) t e) (hv : val key (f + (j : Int)) kn l = (v, false)) (hE : ∀ y, (lineTo key kn f l j).getLast? = some y → y.To ≤ f + (j : Int)) :
    ∃ i : Nat, e = f + (i : Int) ∧ j < i ∧ lineTo key kn f l i = lineTo key kn f l j ∧ (e < t → Edge (lineTo key kn f l i) e (val key e kn l)) := by
  obtain ⟨h1, h2, h3, h4⟩ := h
  obtain ⟨d, hd⟩ : ∃ d : Nat, e = f + (j : Int) + (d : Int) + 1 := ⟨(e - (f + (j : Int)) - 1).toNat, by omega⟩
  have hr := line_none (key := key) (kn := kn) (f := f) (l := l) (v := v) j d (fun n a b => by
    by_cases e0 : n = f + (j : Int)
    · rw [e0]; exact hv
    · exact (h3 n (by omega) (by omega)).trans hv)
  refine ⟨j + d + 1, by omega, by omega, hr, fun ht y hy => ?_⟩
  rw [hr] at hy
  have := hE y hy
  exact ⟨by omega, fun e1 => by omega⟩
end Go.Proofs.Ytdmkceaonfbebaa.LineEdge
