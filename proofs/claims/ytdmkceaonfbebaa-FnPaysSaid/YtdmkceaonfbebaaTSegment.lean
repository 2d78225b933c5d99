/- Rows of Segment (3 cells an element): what came in, what the call owns; the laws' helpers on them. Written by gen_row.py. -/
import Derived.Test.YtdmkceaonfbebaaRows
import Derived.Test.YtdmkceaonfbebaaKit
import Derived.WalkKit
import Derived.Below
import Derived.WalkSmall
import Derived.Lib.Hide
import Derived.BigQuiet
import Derived.Deep.QuietTactic
import Derived.OpenShut
namespace Go.Proofs.Ytdmkceaonfbebaa.TSegment
open Go.RowKit RowN
set_option linter.unusedVariables false

structure El where
  From : Int
  To : Int
  Value : Int
def fc (x : El) : List Value := [.int .i64 x.From, .int .i64 x.To, .int .i64 x.Value]
def fv (x : El) : Value := .agg #[.int .i64 x.From, .int .i64 x.To, .int .i64 x.Value]
def e0 : El := ⟨0, 0, 0⟩
theorem fw : Wide fc 3 := ⟨fun _ => rfl, by rintro x v hv; simp only [fc, List.mem_cons, List.not_mem_nil, or_false] at hv; rcases hv with rfl | rfl | rfl <;> rfl, by omega⟩
abbrev T : Nat := 122
theorem ft : ElT Try.prog 118 122 (fv e0) 3 24 := ⟨Try.underlying118, by kernel_rfl, by omega, rfl⟩
def Wf (x : El) : Prop := (Lit.int .i64 x.From).wf = true ∧ (Lit.int .i64 x.To).wf = true ∧ (Lit.int .i64 x.Value).wf = true
open Shape in
theorem cov {w : World} {cs : List Value} (h : FitL w [.int .i64, .int .i64, .int .i64] cs) : ∃ x, cs = fc x ∧ Wf x := by
  obtain ⟨x0, _, rfl, w0, h⟩ := fit_int h
  obtain ⟨x1, _, rfl, w1, h⟩ := fit_int h
  obtain ⟨x2, _, rfl, w2, h⟩ := fit_int h
  obtain rfl := fit_nil h
  exact ⟨⟨x0, x1, x2⟩, rfl, w0, w1, w2⟩
theorem read {w : World} {a : Option Addr} {l : List El} (h : Reads fc 3 w a l) (j : Nat) (hj : j < l.length) : ∃ blk off, a = some ⟨blk, off, none⟩ ∧ blk < w.heap.size ∧ w.cell? ⟨blk, off + j * 3, none⟩ = some (.int .i64 l[j].From) ∧ w.cell? ⟨blk, off + j * 3 + 1, none⟩ = some (.int .i64 l[j].To) ∧ w.cell? ⟨blk, off + j * 3 + 2, none⟩ = some (.int .i64 l[j].Value) := by
  obtain ⟨blk, off, e, hlt, hc⟩ := h j hj
  exact ⟨blk, off, e, hlt, hc 0 (by omega), hc 1 (by omega), hc 2 (by omega)⟩
theorem own {w : World} {B n cap : Nat} {a : Option Addr} {l : List El} (h : Owns fc 3 w B T (.slice a n cap) l) (j : Nat) (hj : j < l.length) : ∃ g, a = some ⟨g, 0, none⟩ ∧ B ≤ g ∧ g < w.heap.size ∧ w.cell? ⟨g, j * 3, none⟩ = some (.int .i64 l[j].From) ∧ w.cell? ⟨g, j * 3 + 1, none⟩ = some (.int .i64 l[j].To) ∧ w.cell? ⟨g, j * 3 + 2, none⟩ = some (.int .i64 l[j].Value) ∧ w.frozen? ⟨g, j * 3, none⟩ = false ∧ w.frozen? ⟨g, j * 3 + 1, none⟩ = false ∧ w.frozen? ⟨g, j * 3 + 2, none⟩ = false := by
  obtain ⟨g, e, hb, hlt, hc⟩ := h.at fw j hj
  exact ⟨g, e, hb, hlt, (hc 0 (by omega)).1, (hc 1 (by omega)).1, (hc 2 (by omega)).1, (hc 0 (by omega)).2, (hc 1 (by omega)).2, (hc 2 (by omega)).2⟩
theorem stored {w : World} {B g cap n : Nat} {l : List El} (h : Owns fc 3 w B T (.slice (some ⟨g, 0, none⟩) n cap) l) (j : Nat) (hj : j < l.length) (x : El) :
    Owns fc 3 (((w.setCell ⟨g, j * 3, none⟩ (.int .i64 x.From)).setCell ⟨g, j * 3 + 1, none⟩ (.int .i64 x.To)).setCell ⟨g, j * 3 + 2, none⟩ (.int .i64 x.Value)) B T (.slice (some ⟨g, 0, none⟩) n cap) (l.set j x) := by
  have s0 := h.stored fw j hj 0 (by omega) (.int .i64 x.From) ⟨x.From, l[j].To, l[j].Value⟩ rfl
  have s1 := s0.stored fw j (by simpa using hj) 1 (by omega) (.int .i64 x.To) ⟨x.From, x.To, l[j].Value⟩ (by rw [List.getElem_set_self]; rfl)
  have s2 := s1.stored fw j (by simpa using hj) 2 (by omega) (.int .i64 x.Value) x (by rw [List.getElem_set_self]; rfl)
  simpa only [List.set_set, Nat.add_zero] using s2
theorem below {w0 w : World} {B g o : Nat} {y0 y1 y2 : Value} (h : Below B w0 w) (hB : B ≤ g) : Below B w0 (((w.setCell ⟨g, o, none⟩ y0).setCell ⟨g, o + 1, none⟩ y1).setCell ⟨g, o + 2, none⟩ y2) :=
  (((h.setCell (p := ⟨g, o, none⟩) hB _).setCell (p := ⟨g, o + 1, none⟩) hB _).setCell (p := ⟨g, o + 2, none⟩) hB _)
def IsRow (l : List El) (w : World) (e : Ending) (w' : World) : Prop := ∃ p c, e = .returned (.slice p l.length c) ∧ Owns fc 3 w' w.heap.size T (.slice p l.length c) l ∧ Below w.heap.size w w'
def IsEl (x : El) (w : World) (e : Ending) (w' : World) : Prop := e = .returned (fv x) ∧ Below w.heap.size w w'
def IsBo (b : Bool) (w : World) (e : Ending) (w' : World) : Prop := e = .returned (.bool b) ∧ Below w.heap.size w w'

/-- The marks k, k + 1, .., 3 to an element. -/
def mk (k : Int) : El := ⟨k, k + 1, k + 1 + 1⟩
def marks (k : Int) (n : Nat) : List El := (List.range n).map fun (i : Nat) => mk (k + 3 * (i : Int))
theorem marks_len (k : Int) (n : Nat) : (marks k n).length = n := by simp [marks]
theorem marks_get (k : Int) (n j : Nat) (h : j < (marks k n).length) : (marks k n)[j] = mk (k + 3 * (j : Int)) := by simp [marks]
def markTo (l : List El) (k : Int) (j : Nat) : List El := marks k j ++ l.drop j
theorem markTo_zero (l : List El) (k : Int) : markTo l k 0 = l := by simp [markTo, marks]
theorem markTo_len (l : List El) (k : Int) (j : Nat) (h : j ≤ l.length) : (markTo l k j).length = l.length := by simp [markTo, marks_len]; omega
theorem markTo_all (l : List El) (k : Int) : markTo l k l.length = marks k l.length := by simp [markTo]
theorem markTo_set (l : List El) (k : Int) (j : Nat) (h : j < l.length) : (markTo l k j).set j (mk (k + 3 * (j : Int))) = markTo l k (j + 1) := by
  unfold markTo
  have e1 : (marks k j).length = j := marks_len k j
  rw [List.set_append_right _ _ (by omega), e1, Nat.sub_self, List.drop_eq_getElem_cons h, List.set_cons_zero]
  have e2 : marks k (j + 1) = marks k j ++ [mk (k + 3 * (j : Int))] := by simp [marks, List.range_succ]
  rw [e2, List.append_assoc]
  rfl
theorem gb_set {w w' : World} {g o : Nat} {row : Option Nat} (h : w.grownBy w' row) (hr : row = some g) (v : Value) : w.grownBy (w'.setCell ⟨g, o, none⟩ v) row :=
  h.trans ⟨rfl, rfl, rfl, by simp [World.setCell], fun i _ hne => Below.heap_setCell _ _ _ _ (fun e => hne (by rw [hr]; exact congrArg some e))⟩
end Go.Proofs.Ytdmkceaonfbebaa.TSegment
