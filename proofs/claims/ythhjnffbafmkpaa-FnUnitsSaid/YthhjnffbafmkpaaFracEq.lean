/- Fractions compared as structs. -/
import Derived.Test.YthhjnffbafmkpaaRows
import Derived.WalkKit
import Derived.Laws.StructEq
namespace Go.Proofs.Ythhjnffbafmkpaa.FracEq
open Go.RowKit
theorem ht : Try.prog.underlying 29 = some (.struct (Try.prog.fieldsOf 29)) := by kernel_rfl
theorem hp : Try.prog.stoodInHeld 29 = false := by kernel_rfl
theorem hi : Try.prog.underlying 3 = some (.int .i64) := by kernel_rfl
theorem guard (op : BinOp) (x y : Operand) (xs ys : Array Value) (W : World) : (eqGuard op 29 x y (.agg xs) (.agg ys)).run Try.prog W = .ok () W := run_eqGuard_agg W op _ x y xs ys (by kernel_rfl)
theorem fields (d : Nat) (a b c e : Int) (W : World) : (Op.eqFields (d + 1) #[.int .i64 a, .int .i64 b] #[.int .i64 c, .int .i64 e] (Try.prog.fieldsOf 29).toList).run Try.prog W = .ok (a == c && b == e) W := by
  obtain ⟨fs, hfs⟩ : ∃ fs, (Try.prog.fieldsOf 29).toList = fs := ⟨_, rfl⟩
  have h2 : fs.map (fun f => (f.name, f.type, f.offset)) = [("Num", 3, 0), ("Den", 3, 1)] := by rw [← hfs]; kernel_rfl
  rw [hfs]
  clear hfs
  have hl : fs.length = 2 := by simpa using congrArg List.length h2
  obtain ⟨f0, f1, rfl⟩ : ∃ f0 f1, fs = [f0, f1] := by
    match fs, hl with
    | [f0, f1], _ => exact ⟨f0, f1, rfl⟩
  simp at h2
  obtain ⟨⟨n0, t0, o0⟩, n1, t1, o1⟩ := h2
  by_cases h : a = c
  · subst h
    by_cases k : b = e
    · subst k
      simp [go_sem, n0, t0, o0, n1, t1, o1]
    · have k' : (b == e) = false := beq_eq_false_iff_ne.2 k
      simp [go_sem, n0, t0, o0, n1, t1, o1, k']
  · have h' : (a == c) = false := beq_eq_false_iff_ne.2 h
    simp [go_sem, n0, t0, o0, h']
theorem eql (a b c e : Int) (W : World) : (binOp .eql 29 (.agg #[.int .i64 a, .int .i64 b]) (.agg #[.int .i64 c, .int .i64 e])).run Try.prog W = .ok (.bool (a == c && b == e)) W := by
  rw [run_eql_struct, run_equalIn_agg W 9999 _ _ _ ht hp, fields]
  rfl
theorem neq (a b c e : Int) (W : World) : (binOp .neq 29 (.agg #[.int .i64 a, .int .i64 b]) (.agg #[.int .i64 c, .int .i64 e])).run Try.prog W = .ok (.bool (!(a == c && b == e))) W := by
  rw [run_neq_struct, run_equalIn_agg W 9999 _ _ _ ht hp, fields]
  rfl
end Go.Proofs.Ythhjnffbafmkpaa.FracEq
