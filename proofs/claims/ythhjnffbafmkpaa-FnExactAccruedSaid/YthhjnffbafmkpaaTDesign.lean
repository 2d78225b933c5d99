/- Rows of Design (3 cells an element): what came in, what the call owns; the laws' helpers on them. Written by gen_row.py. -/
import Derived.Test.YthhjnffbafmkpaaRows
import Derived.Test.YthhjnffbafmkpaaKit
import Derived.WalkKit
import Derived.Below
import Derived.WalkSmall
import Derived.Lib.Hide
import Derived.BigQuiet
import Derived.Deep.QuietTactic
import Derived.OpenShut
namespace Go.Proofs.Ythhjnffbafmkpaa.TDesign
open Go.RowKit RowN
set_option linter.unusedVariables false

structure El where
  Kind : Int
  Rate : Int
  Cap : Int
def fc (x : El) : List Value := [.int .i64 x.Kind, .int .i64 x.Rate, .int .i64 x.Cap]
def fv (x : El) : Value := .agg #[.int .i64 x.Kind, .int .i64 x.Rate, .int .i64 x.Cap]
def e0 : El := ⟨0, 0, 0⟩
theorem fw : Wide fc 3 := ⟨fun _ => rfl, by rintro x v hv; simp only [fc, List.mem_cons, List.not_mem_nil, or_false] at hv; rcases hv with rfl | rfl | rfl <;> rfl, by omega⟩
def Wf (x : El) : Prop := (Lit.int .i64 x.Kind).wf = true ∧ (Lit.int .i64 x.Rate).wf = true ∧ (Lit.int .i64 x.Cap).wf = true
open Shape in
theorem cov {w : World} {cs : List Value} (h : FitL w [.int .i64, .int .i64, .int .i64] cs) : ∃ x, cs = fc x ∧ Wf x := by
  obtain ⟨x0, _, rfl, w0, h0⟩ := fit_int h
  obtain ⟨x1, _, rfl, w1, h1⟩ := fit_int h0
  obtain ⟨x2, _, rfl, w2, h2⟩ := fit_int h1
  obtain rfl := fit_nil h2
  exact ⟨⟨x0, x1, x2⟩, rfl, w0, w1, w2⟩
theorem read {w : World} {a : Option Addr} {l : List El} (h : Reads fc 3 w a l) (j : Nat) (hj : j < l.length) : ∃ blk off, a = some ⟨blk, off, none⟩ ∧ blk < w.heap.size ∧ w.cell? ⟨blk, off + j * 3, none⟩ = some (.int .i64 l[j].Kind) ∧ w.cell? ⟨blk, off + j * 3 + 1, none⟩ = some (.int .i64 l[j].Rate) ∧ w.cell? ⟨blk, off + j * 3 + 2, none⟩ = some (.int .i64 l[j].Cap) := by
  obtain ⟨blk, off, e, hlt, hc⟩ := h j hj
  exact ⟨blk, off, e, hlt, hc 0 (by omega), hc 1 (by omega), hc 2 (by omega)⟩
def IsEl (x : El) (w : World) (e : Ending) (w' : World) : Prop := e = .returned (fv x) ∧ Below w.heap.size w w'
def IsBo (b : Bool) (w : World) (e : Ending) (w' : World) : Prop := e = .returned (.bool b) ∧ Below w.heap.size w w'
set_option maxHeartbeats 1000000 in
theorem to1 (x : El) (w : World) : Calls Try.prog 20 #[fv x] w (IsEl x w) := by
  obtain ⟨x0, x1, x2⟩ := x
  show Calls Try.prog 20 #[.agg #[.int .i64 x0, .int .i64 x1, .int .i64 x2]] w (IsEl ⟨x0, x1, x2⟩ w)
  go_enter Try.func20, Try.ntmps20
  go_wp2
  refine bodyPost_ret (v := .agg #[.int .i64 x0, .int .i64 x1, .int .i64 x2]) (by simp [results, Try.results20, go_sem]) rfl ⟨rfl, ?_⟩
  (repeat (first | exact Below.refl _ _ | apply BelowKit.bl_alloc | apply BelowKit.bl_drewN | apply BelowKit.bl_drew | (refine BelowKit.bl_set ?_ _ ?_; rotate_left; (first | omega | (simp; omega) | simp)) | (refine BelowKit.bl_trans ?_ (‹Hid (Below _ _ _)›).out)))

/-- The marks k, k + 1, .., 3 to an element. -/
def mk (k : Int) : El := ⟨k, k + 1, k + 1 + 1⟩
def marks (k : Int) (n : Nat) : List El := (List.range n).map fun (i : Nat) => mk (k + 3 * (i : Int))
theorem marks_len (k : Int) (n : Nat) : (marks k n).length = n := by simp [marks]
theorem marks_get (k : Int) (n j : Nat) (h : j < (marks k n).length) : (marks k n)[j] = mk (k + 3 * (j : Int)) := by simp [marks]
def markTo (l : List El) (k : Int) (j : Nat) : List El := marks k j ++ l.drop j
theorem markTo_zero (l : List El) (k : Int) : markTo l k 0 = l := by simp [markTo, marks]
theorem markTo_len (l : List El) (k : Int) (j : Nat) (h : j ≤ l.length) : (markTo l k j).length = l.length := by simp [markTo, marks_len]; omega
theorem markTo_all (l : List El) (k : Int) : markTo l k l.length = marks k l.length := by simp [markTo]
theorem markTo_set (l : List El) (k : Int) (j : Nat) (h : j < l.length) : (markTo l k j).set j (mk (k + 3 * (j : Int))) = markTo l k (j + 1) := by
  unfold markTo
  have e1 : (marks k j).length = j := marks_len k j
  rw [List.set_append_right _ _ (by omega), e1, Nat.sub_self, List.drop_eq_getElem_cons h, List.set_cons_zero]
  have e2 : marks k (j + 1) = marks k j ++ [mk (k + 3 * (j : Int))] := by simp [marks, List.range_succ]
  rw [e2, List.append_assoc]
  rfl
theorem gb_set {w w' : World} {g o : Nat} {row : Option Nat} (h : w.grownBy w' row) (hr : row = some g) (v : Value) : w.grownBy (w'.setCell ⟨g, o, none⟩ v) row :=
  h.trans ⟨rfl, rfl, rfl, by simp [World.setCell], fun i _ hne => Below.heap_setCell _ _ _ _ (fun e => hne (by rw [hr]; exact congrArg some e))⟩
end Go.Proofs.Ythhjnffbafmkpaa.TDesign
