/- Contracts of the laws' helpers on slices of facts and on stores: copied, compared, marked and found again. -/
import Derived.Test.YtpgcdelmfbegpaaRows
import Derived.Test.YtpgcdelmfbegpaaRowN
import Derived.Test.YtpgcdelmfbegpaaFact
import Derived.Test.YtpgcdelmfbegpaaBelowKit
import Derived.WalkKit
import Derived.Below
import Derived.WalkSmall
import Derived.Lib.Hide
import Derived.BigQuiet
import Derived.Deep.QuietTactic
import Derived.OpenShut
namespace Go.Proofs.Ytpgcdelmfbegpaa.FactRow
open Go.RowKit RowN Fact

abbrev FT : Nat := 75
abbrev OwnsF (w : World) (B : Nat) (v : Value) (l : List Fa) : Prop := Owns fc 5 w B FT v l
abbrev ReadsF (w : World) (a : Option Addr) (l : List Fa) : Prop := Reads fc 5 w a l

theorem read5 {w : World} {a : Option Addr} {l : List Fa} (h : ReadsF w a l) (j : Nat) (hj : j < l.length) : ∃ blk off, a = some ⟨blk, off, none⟩ ∧ blk < w.heap.size ∧
    w.cell? ⟨blk, off + j * 5, none⟩ = some (.int .i64 l[j].k) ∧ w.cell? ⟨blk, off + j * 5 + 1, none⟩ = some (.int .i64 l[j].f) ∧ w.cell? ⟨blk, off + j * 5 + 2, none⟩ = some (.int .i64 l[j].t) ∧
    w.cell? ⟨blk, off + j * 5 + 3, none⟩ = some (.int .i64 l[j].n) ∧ w.cell? ⟨blk, off + j * 5 + 4, none⟩ = some (.int .i64 l[j].v) := by
  obtain ⟨blk, off, e, hlt, hc⟩ := h j hj
  exact ⟨blk, off, e, hlt, hc 0 (by omega), hc 1 (by omega), hc 2 (by omega), hc 3 (by omega), hc 4 (by omega)⟩
theorem own5 {w : World} {B n cap : Nat} {a : Option Addr} {l : List Fa} (h : OwnsF w B (.slice a n cap) l) (j : Nat) (hj : j < l.length) : ∃ g, a = some ⟨g, 0, none⟩ ∧ B ≤ g ∧ g < w.heap.size ∧
    w.cell? ⟨g, j * 5, none⟩ = some (.int .i64 l[j].k) ∧ w.cell? ⟨g, j * 5 + 1, none⟩ = some (.int .i64 l[j].f) ∧ w.cell? ⟨g, j * 5 + 2, none⟩ = some (.int .i64 l[j].t) ∧
    w.cell? ⟨g, j * 5 + 3, none⟩ = some (.int .i64 l[j].n) ∧ w.cell? ⟨g, j * 5 + 4, none⟩ = some (.int .i64 l[j].v) ∧
    w.frozen? ⟨g, j * 5, none⟩ = false ∧ w.frozen? ⟨g, j * 5 + 1, none⟩ = false ∧ w.frozen? ⟨g, j * 5 + 2, none⟩ = false ∧ w.frozen? ⟨g, j * 5 + 3, none⟩ = false ∧ w.frozen? ⟨g, j * 5 + 4, none⟩ = false := by
  obtain ⟨g, e, hb, hlt, hc⟩ := h.at fw j hj
  exact ⟨g, e, hb, hlt, (hc 0 (by omega)).1, (hc 1 (by omega)).1, (hc 2 (by omega)).1, (hc 3 (by omega)).1, (hc 4 (by omega)).1, (hc 0 (by omega)).2, (hc 1 (by omega)).2, (hc 2 (by omega)).2, (hc 3 (by omega)).2, (hc 4 (by omega)).2⟩
/-- A whole element stored, field by field. -/
theorem stored5 {w : World} {B g cap n : Nat} {l : List Fa} (h : OwnsF w B (.slice (some ⟨g, 0, none⟩) n cap) l) (j : Nat) (hj : j < l.length) (x : Fa) :
    OwnsF (((((w.setCell ⟨g, j * 5, none⟩ (.int .i64 x.k)).setCell ⟨g, j * 5 + 1, none⟩ (.int .i64 x.f)).setCell ⟨g, j * 5 + 2, none⟩ (.int .i64 x.t)).setCell ⟨g, j * 5 + 3, none⟩ (.int .i64 x.n)).setCell ⟨g, j * 5 + 4, none⟩ (.int .i64 x.v)) B
      (.slice (some ⟨g, 0, none⟩) n cap) (l.set j x) := by
  have s0 := h.stored fw j hj 0 (by omega) (.int .i64 x.k) ⟨x.k, l[j].f, l[j].t, l[j].n, l[j].v⟩ rfl
  have s1 := s0.stored fw j (by simpa using hj) 1 (by omega) (.int .i64 x.f) ⟨x.k, x.f, l[j].t, l[j].n, l[j].v⟩ (by rw [List.getElem_set_self]; rfl)
  have s2 := s1.stored fw j (by simpa using hj) 2 (by omega) (.int .i64 x.t) ⟨x.k, x.f, x.t, l[j].n, l[j].v⟩ (by rw [List.getElem_set_self]; rfl)
  have s3 := s2.stored fw j (by simpa using hj) 3 (by omega) (.int .i64 x.n) ⟨x.k, x.f, x.t, x.n, l[j].v⟩ (by rw [List.getElem_set_self]; rfl)
  have s4 := s3.stored fw j (by simpa using hj) 4 (by omega) (.int .i64 x.v) x (by rw [List.getElem_set_self]; rfl)
  simpa only [List.set_set, Nat.add_zero] using s4
theorem below5 {w0 w : World} {B g o : Nat} {u0 u1 u2 u3 u4 : Value} (h : Below B w0 w) (hB : B ≤ g) :
    Below B w0 (((((w.setCell ⟨g, o, none⟩ u0).setCell ⟨g, o + 1, none⟩ u1).setCell ⟨g, o + 2, none⟩ u2).setCell ⟨g, o + 3, none⟩ u3).setCell ⟨g, o + 4, none⟩ u4) :=
  ((((h.setCell (p := ⟨g, o, none⟩) hB _).setCell (p := ⟨g, o + 1, none⟩) hB _).setCell (p := ⟨g, o + 2, none⟩) hB _).setCell (p := ⟨g, o + 3, none⟩) hB _).setCell (p := ⟨g, o + 4, none⟩) hB _



/-- The marks k, k + 1, .., five to a fact. -/
def mk5 (k : Int) : Fa := ⟨k, k + 1, k + 1 + 1, k + 1 + 1 + 1, k + 1 + 1 + 1 + 1⟩
def marks (k : Int) (n : Nat) : List Fa := (List.range n).map fun (i : Nat) => mk5 (k + 5 * (i : Int))
theorem marks_len (k : Int) (n : Nat) : (marks k n).length = n := by simp [marks]
theorem marks_get (k : Int) (n j : Nat) (h : j < (marks k n).length) : (marks k n)[j] = mk5 (k + 5 * (j : Int)) := by simp [marks]
def markTo (l : List Fa) (k : Int) (j : Nat) : List Fa := marks k j ++ l.drop j
theorem markTo_zero (l : List Fa) (k : Int) : markTo l k 0 = l := by simp [markTo, marks]
theorem markTo_len (l : List Fa) (k : Int) (j : Nat) (h : j ≤ l.length) : (markTo l k j).length = l.length := by simp [markTo, marks_len]; omega
theorem markTo_all (l : List Fa) (k : Int) : markTo l k l.length = marks k l.length := by simp [markTo]
theorem markTo_set (l : List Fa) (k : Int) (j : Nat) (h : j < l.length) : (markTo l k j).set j (mk5 (k + 5 * (j : Int))) = markTo l k (j + 1) := by
  unfold markTo
  have e1 : (marks k j).length = j := marks_len k j
  rw [List.set_append_right _ _ (by omega), e1, Nat.sub_self, List.drop_eq_getElem_cons h, List.set_cons_zero]
  have e2 : marks k (j + 1) = marks k j ++ [mk5 (k + 5 * (j : Int))] := by simp [marks, List.range_succ]
  rw [e2, List.append_assoc]
  rfl
theorem gb_set {w w' : World} {g o : Nat} {row : Option Nat} (h : w.grownBy w' row) (hr : row = some g) (v : Value) : w.grownBy (w'.setCell ⟨g, o, none⟩ v) row :=
  h.trans ⟨rfl, rfl, rfl, by simp [World.setCell], fun i _ hne => Below.heap_setCell _ _ _ _ (fun e => hne (by rw [hr]; exact congrArg some e))⟩

def Marked (B : Nat) (v : Value) (l : List Fa) (x : Int) (w : World) (e : Ending) (w' : World) : Prop := e = .returned (.int .i64 x) ∧ OwnsF w' B v l ∧ w.grownBy w' v.ownBlock

end Go.Proofs.Ytpgcdelmfbegpaa.FactRow
