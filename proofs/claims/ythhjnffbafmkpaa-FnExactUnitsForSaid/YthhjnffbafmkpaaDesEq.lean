/- Designs compared as structs. -/
import Derived.Test.YthhjnffbafmkpaaRows
import Derived.WalkKit
import Derived.Laws.StructEq
namespace Go.Proofs.Ythhjnffbafmkpaa.DesEq
open Go.RowKit
theorem ht : Try.prog.underlying 27 = some (.struct (Try.prog.fieldsOf 27)) := by kernel_rfl
theorem hp : Try.prog.stoodInHeld 27 = false := by kernel_rfl
theorem hi : Try.prog.underlying 3 = some (.int .i64) := by kernel_rfl
theorem guard (op : BinOp) (x y : Operand) (xs ys : Array Value) (W : World) : (eqGuard op 27 x y (.agg xs) (.agg ys)).run Try.prog W = .ok () W := run_eqGuard_agg W op _ x y xs ys (by kernel_rfl)
theorem fields (d : Nat) (a b c a' b' c' : Int) (W : World) : (Op.eqFields (d + 1) #[.int .i64 a, .int .i64 b, .int .i64 c] #[.int .i64 a', .int .i64 b', .int .i64 c'] (Try.prog.fieldsOf 27).toList).run Try.prog W = .ok (a == a' && b == b' && c == c') W := by
  obtain ⟨fs, hfs⟩ : ∃ fs, (Try.prog.fieldsOf 27).toList = fs := ⟨_, rfl⟩
  have h2 : fs.map (fun f => (f.name, f.type, f.offset)) = [("Kind", 3, 0), ("Rate", 3, 1), ("Cap", 3, 2)] := by rw [← hfs]; kernel_rfl
  rw [hfs]
  clear hfs
  have hl : fs.length = 3 := by simpa using congrArg List.length h2
  obtain ⟨f0, f1, f2, rfl⟩ : ∃ f0 f1 f2, fs = [f0, f1, f2] := by
    match fs, hl with
    | [f0, f1, f2], _ => exact ⟨f0, f1, f2, rfl⟩
  simp at h2
  obtain ⟨⟨n0, t0, o0⟩, ⟨n1, t1, o1⟩, n2, t2, o2⟩ := h2
  by_cases h0 : a = a'
  case neg => simp [go_sem, n0, t0, o0, beq_eq_false_iff_ne.2 h0]
  case pos =>
  subst h0
  by_cases h1 : b = b'
  case neg => simp [go_sem, n0, t0, o0, n1, t1, o1, beq_eq_false_iff_ne.2 h1]
  case pos =>
  subst h1
  by_cases h2 : c = c'
  case neg => simp [go_sem, n0, t0, o0, n1, t1, o1, n2, t2, o2, beq_eq_false_iff_ne.2 h2]
  case pos =>
  subst h2
  simp [go_sem, n0, t0, o0, n1, t1, o1, n2, t2, o2]
theorem neq (a b c a' b' c' : Int) (W : World) : (binOp .neq 27 (.agg #[.int .i64 a, .int .i64 b, .int .i64 c]) (.agg #[.int .i64 a', .int .i64 b', .int .i64 c'])).run Try.prog W = .ok (.bool (!(a == a' && b == b' && c == c'))) W := by
  rw [run_neq_struct, run_equalIn_agg W 9999 _ _ _ ht hp, fields]
  rfl
end Go.Proofs.Ythhjnffbafmkpaa.DesEq
