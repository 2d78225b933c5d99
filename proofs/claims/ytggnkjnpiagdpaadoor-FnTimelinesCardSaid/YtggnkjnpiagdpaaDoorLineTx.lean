/- The text of a timeline, as a plain function: a segment's text, the texts joined by a space; lengths. -/
import Derived.Test.YtggnkjnpiagdpaaDoorSegMath
import Derived.Test.YtggnkjnpiagdpaaDoorMonText
import Derived.Lib.Join
namespace Go.Proofs.YtggnkjnpiagdpaaDoor.LineTx
open Go.RowKit TSegment SegMath Mon HexMath NumMath MonMath MonText

def dots : ByteArray := ⟨#[46, 46]⟩
def eqs : ByteArray := ⟨#[61]⟩
def num (n : Int) : ByteArray := ⟨(fmt n).toArray⟩
/-- A segment's text. -/
def segTx (x : El) : ByteArray := mtx x.From ++ dots ++ mtx (x.To - 1) ++ eqs ++ num x.Value
def segB (x : El) : List UInt8 := (segTx x).data.toList
/-- The first j texts, joined. -/
def acc (l : List El) (j : Nat) : List UInt8 := Lib.join ((l.take j).map segB) [32]
def lineTx (l : List El) : ByteArray := if okT l = true then ⟨(acc l l.length).toArray⟩ else ⟨#[]⟩
def InV (x : El) : Prop := -9223372036854775808 ≤ x.Value ∧ x.Value ≤ 9223372036854775807

theorem join_snoc (x : List UInt8) (r : List (List UInt8)) (y sep : List UInt8) : Lib.join (x :: r ++ [y]) sep = Lib.join (x :: r) sep ++ (sep ++ y) := by
  rw [List.cons_append, Lib.join_cons, Lib.join_cons]
  simp [Lib.joinTail]
theorem acc_zero (l : List El) : acc l 0 = [] := rfl
theorem acc_one {l : List El} (h : 0 < l.length) : acc l 1 = segB l[0] := by
  match l, h with
  | x :: t, _ => simp [acc, Lib.join_one]
theorem acc_next {l : List El} {j : Nat} (h0 : 0 < j) (h : j < l.length) : acc l (j + 1) = acc l j ++ [32] ++ segB l[j] := by
  unfold acc
  rw [List.take_succ_eq_append_getElem h, List.map_append]
  match l, j, h0, h with
  | x :: t, k + 1, _, _ =>
    rw [List.take_succ_cons, List.map_cons, List.map_cons, List.map_nil, join_snoc]
    simp

theorem okN_each : ∀ (t : List El) (y : El), okN y t = true → ∀ x ∈ t, okX x = true
  | [], _, _ => fun x h => absurd h List.not_mem_nil
  | z :: t, y, h => fun x hx => by
    simp only [okN, Bool.and_eq_true] at h
    rcases List.mem_cons.1 hx with rfl | hx
    · exact h.1
    · exact okN_each t z h.2.2 x hx
theorem okT_each {l : List El} (h : okT l = true) : ∀ x ∈ l, okX x = true := by
  simp only [okT, Bool.and_eq_true] at h
  match l, h.1 with
  | [], _ => exact fun x h => absurd h List.not_mem_nil
  | z :: t, h =>
    simp only [okL, Bool.and_eq_true] at h
    intro x hx
    rcases List.mem_cons.1 hx with rfl | hx
    · exact h.1
    · exact okN_each t z h.2 x hx
theorem mtx_size (m : Int) : (mtx m).size ≤ 7 := by
  unfold mtx
  split
  · rename_i h
    obtain ⟨a, b⟩ := inB_of h
    exact Nat.le_of_eq rfl
  · exact Nat.zero_le _
theorem num_size {n : Int} (h : -9223372036854775808 ≤ n ∧ n ≤ 9223372036854775807) : (num n).size ≤ 21 := by
  have e : (num n).size = (fmt n).length := by simp [num, ByteArray.size]
  rw [e]
  unfold fmt
  split
  · simp
  · split
    · simp only [List.length_cons]
      have := dg_len 20 n.natAbs (by omega)
      omega
    · have := dg_len 20 n.natAbs (by omega)
      omega
theorem seg_len {x : El} (h : InV x) : (segB x).length ≤ 38 := by
  have h1 := mtx_size x.From
  have h2 := mtx_size (x.To - 1)
  have h3 := num_size h
  have e : (segB x).length = (segTx x).size := by simp [segB]
  have e1 : dots.size = 2 := rfl
  have e2 : eqs.size = 1 := rfl
  rw [e, segTx]
  simp only [ByteArray.size_append]
  omega
theorem acc_len {l : List El} (h : ∀ x ∈ l, InV x) : ∀ j, j ≤ l.length → (acc l j).length ≤ 39 * j := by
  intro j
  induction j with
  | zero => intro _; rw [acc_zero]; exact Nat.zero_le _
  | succ j ih =>
    intro hj
    have h1 := ih (by omega)
    have h2 := seg_len (h l[j] (List.getElem_mem _))
    rcases Nat.eq_zero_or_pos j with rfl | hp
    · rw [acc_one (by omega)]; omega
    · rw [acc_next hp (by omega)]
      simp only [List.length_append, List.length_singleton]
      omega
end Go.Proofs.YtggnkjnpiagdpaaDoor.LineTx
