/- Nodes compared as structs. -/
import Derived.Test.YtkfgflmhefbinaaRows
import Derived.Test.YtkfgflmhefbinaaFracEq
import Derived.WalkKit
import Derived.Laws.StructEq
namespace Go.Proofs.Ytkfgflmhefbinaa.NodeEq
open Go.RowKit
theorem ht : Try.prog.underlying 50 = some (.struct (Try.prog.fieldsOf 50)) := by kernel_rfl
theorem hp : Try.prog.stoodInHeld 50 = false := by kernel_rfl
theorem hi : Try.prog.underlying 3 = some (.int .i64) := by kernel_rfl
theorem guard (op : BinOp) (x y : Operand) (xs ys : Array Value) (W : World) : (eqGuard op 50 x y (.agg xs) (.agg ys)).run Try.prog W = .ok () W := run_eqGuard_agg W op _ x y xs ys (by kernel_rfl)
theorem inFrac (d : Nat) (a b c e : Int) (W : World) : (Op.equalIn (d + 1 + 1) 44 (.agg #[.int .i64 a, .int .i64 b]) (.agg #[.int .i64 c, .int .i64 e])).run Try.prog W = .ok (a == c && b == e) W := by
  rw [run_equalIn_agg W (d + 1) _ _ _ FracEq.ht FracEq.hp, FracEq.fields]
theorem fields (d : Nat) (a b c e f g a' b' c' e' f' g' : Int) (W : World) : (Op.eqFields (d + 1 + 1) #[.int .i64 a, .int .i64 b, .int .i64 c, .int .i64 e, .int .i64 f, .int .i64 g] #[.int .i64 a', .int .i64 b', .int .i64 c', .int .i64 e', .int .i64 f', .int .i64 g'] (Try.prog.fieldsOf 50).toList).run Try.prog W = .ok (a == a' && b == b' && c == c' && e == e' && (f == f' && g == g')) W := by
  obtain ⟨fs, hfs⟩ : ∃ fs, (Try.prog.fieldsOf 50).toList = fs := ⟨_, rfl⟩
  have h2 : fs.map (fun f => (f.name, f.type, f.offset)) = [("Kind", 3, 0), ("A", 3, 1), ("B", 3, 2), ("C", 3, 3), ("Value", 44, 4)] := by rw [← hfs]; kernel_rfl
  rw [hfs]
  clear hfs
  have hl : fs.length = 5 := by simpa using congrArg List.length h2
  obtain ⟨f0, f1, f2, f3, f4, rfl⟩ : ∃ f0 f1 f2 f3 f4, fs = [f0, f1, f2, f3, f4] := by
    match fs, hl with
    | [f0, f1, f2, f3, f4], _ => exact ⟨f0, f1, f2, f3, f4, rfl⟩
  simp at h2
  obtain ⟨⟨n0, t0, o0⟩, ⟨n1, t1, o1⟩, ⟨n2, t2, o2⟩, ⟨n3, t3, o3⟩, n4, t4, o4⟩ := h2
  have hz := inFrac d f g f' g'
  by_cases h0 : a = a'
  case neg => simp [go_sem, n0, t0, o0, beq_eq_false_iff_ne.2 h0]
  case pos =>
  subst h0
  by_cases h1 : b = b'
  case neg => simp [go_sem, n0, t0, o0, n1, t1, o1, beq_eq_false_iff_ne.2 h1]
  case pos =>
  subst h1
  by_cases h2 : c = c'
  case neg => simp [go_sem, n0, t0, o0, n1, t1, o1, n2, t2, o2, beq_eq_false_iff_ne.2 h2]
  case pos =>
  subst h2
  by_cases h3 : e = e'
  case neg => simp [go_sem, n0, t0, o0, n1, t1, o1, n2, t2, o2, n3, t3, o3, beq_eq_false_iff_ne.2 h3]
  case pos =>
  subst h3
  obtain ⟨q, hq⟩ : ∃ q, (f == f' && g == g') = q := ⟨_, rfl⟩
  rw [hq]
  simp only [hq] at hz
  clear hq
  cases q <;> simp [go_sem, n0, t0, o0, n1, t1, o1, n2, t2, o2, n3, t3, o3, n4, t4, o4, hz]
theorem neq (a b c e f g a' b' c' e' f' g' : Int) (W : World) : (binOp .neq 50 (.agg #[.int .i64 a, .int .i64 b, .int .i64 c, .int .i64 e, .int .i64 f, .int .i64 g]) (.agg #[.int .i64 a', .int .i64 b', .int .i64 c', .int .i64 e', .int .i64 f', .int .i64 g'])).run Try.prog W = .ok (.bool (!(a == a' && b == b' && c == c' && e == e' && (f == f' && g == g')))) W := by
  rw [run_neq_struct, run_equalIn_agg W 9999 _ _ _ ht hp, fields]
  rfl
end Go.Proofs.Ytkfgflmhefbinaa.NodeEq
