/- What TimelineOf answers, month by month. -/
import Derived.Test.YtdmkceaonfbebaaSegMath
import Derived.Test.YtdmkceaonfbebaaFactMath
namespace Go.Proofs.Ytdmkceaonfbebaa.LineMath
open TSegment SegMath Mon Fact FactMath

/-- One month more. -/
def addM (out : List El) (m : Int) (r : Int × Bool) : List El :=
  if r.2 = true then
    match out.getLast? with
    | some y => if y.To = m ∧ y.Value = r.1 then out.set (out.length - 1) ⟨y.From, m + 1, y.Value⟩ else out ++ [⟨m, m + 1, r.1⟩]
    | none => out ++ [⟨m, m + 1, r.1⟩]
  else out
theorem addM_no (out : List El) (m v : Int) : addM out m (v, false) = out := if_neg (by simp)
theorem addM_nil {out : List El} (h : out.length = 0) (m v : Int) : addM out m (v, true) = out ++ [⟨m, m + 1, v⟩] := by
  rw [List.eq_nil_of_length_eq_zero h]; rfl
theorem last_at {out : List El} {i : Nat} (h : out.length = i + 1) : out.getLast? = some (out[i]'(by omega)) := by
  rw [List.getLast?_eq_getElem?, show out.length - 1 = i by omega]
  exact List.getElem?_eq_getElem _
theorem addM_set {out : List El} {i : Nat} (h : out.length = i + 1) {m v : Int} (h1 : (out[i]'(by omega)).To = m) (h2 : (out[i]'(by omega)).Value = v) :
    addM out m (v, true) = out.set i ⟨(out[i]'(by omega)).From, m + 1, (out[i]'(by omega)).Value⟩ := by
  unfold addM
  rw [if_pos rfl, last_at h]
  show (if _ then _ else _) = _
  rw [if_pos ⟨h1, h2⟩, show out.length - 1 = i by omega]
theorem addM_add {out : List El} {i : Nat} (h : out.length = i + 1) {m v : Int} (h1 : ¬ ((out[i]'(by omega)).To = m ∧ (out[i]'(by omega)).Value = v)) :
    addM out m (v, true) = out ++ [⟨m, m + 1, v⟩] := by
  unfold addM
  rw [if_pos rfl, last_at h]
  show (if _ then _ else _) = _
  rw [if_neg h1]
theorem addM_len (out : List El) (m : Int) (r : Int × Bool) : (addM out m r).length ≤ out.length + 1 := by
  unfold addM
  split
  · split
    · split <;> simp
    · simp
  · omega
def lineTo (key kn f : Int) (l : List Fa) : Nat → List El
  | 0 => []
  | n + 1 => addM (lineTo key kn f l n) (f + (n : Int)) (val key (f + (n : Int)) kn l)
theorem lineTo_len (key kn f : Int) (l : List Fa) (n : Nat) : (lineTo key kn f l n).length ≤ n := by
  induction n with
  | zero => simp [lineTo]
  | succ n ih => have := addM_len (lineTo key kn f l n) (f + (n : Int)) (val key (f + (n : Int)) kn l); simp only [lineTo]; omega
noncomputable def line (l : List Fa) (key kn f t : Int) : List El := if okS l = true ∧ inB kn 0 3599 = true ∧ inB f 0 3600 = true ∧ inB t 0 3600 = true then lineTo key kn f l (t - f).toNat else []
theorem line_no {l : List Fa} {key kn f t : Int} (h : ¬ (okS l = true ∧ inB kn 0 3599 = true ∧ inB f 0 3600 = true ∧ inB t 0 3600 = true)) : line l key kn f t = [] := if_neg h
theorem line_yes {l : List Fa} {key kn f t : Int} (h0 : okS l = true) (h1 : inB kn 0 3599 = true) (h2 : inB f 0 3600 = true) (h3 : inB t 0 3600 = true) : line l key kn f t = lineTo key kn f l (t - f).toNat := if_pos ⟨h0, h1, h2, h3⟩
theorem line_len (l : List Fa) (key kn f t : Int) : (line l key kn f t).length ≤ 3600 := by
  unfold line
  split
  next h =>
    have h2 := inB_of h.2.2.1
    have h3 := inB_of h.2.2.2
    exact Nat.le_trans (lineTo_len _ _ _ _ _) (by omega)
  next => simp
end Go.Proofs.Ytdmkceaonfbebaa.LineMath
