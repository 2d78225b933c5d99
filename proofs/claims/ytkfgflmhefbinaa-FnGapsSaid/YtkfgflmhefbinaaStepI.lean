/- The program's steps: a node as one of four types behind an interface; their operands; tests of indexes. -/
import Derived.Test.YtkfgflmhefbinaaRows
import Derived.Test.YtkfgflmhefbinaaNodeMath
import Derived.Test.YtkfgflmhefbinaaKit
import Derived.WalkKit
import Derived.Below
import Derived.WalkSmall
import Derived.Lib.Hide
import Derived.BigQuiet
namespace Go.Proofs.Ytkfgflmhefbinaa.StepI
open Go.RowKit RowN TNode NodeMath FracMath
def IsV (v : Value) (w : World) (e : Ending) (w' : World) : Prop := e = .returned v ∧ Below w.heap.size w w'
abbrev vC (u d : Int) : Value := .iface 147 (.agg #[.int .i64 u, .int .i64 d])
abbrev vV (a : Int) : Value := .iface 149 (.agg #[.int .i64 a])
abbrev vP (k a b : Int) : Value := .iface 154 (.agg #[.int .i64 k, .int .i64 a, .int .i64 b])
abbrev vK (a b c : Int) : Value := .iface 157 (.agg #[.int .i64 a, .int .i64 b, .int .i64 c])
def stepV (n : El) : Value :=
  if n.Kind = 1 then vC n.Value_Num n.Value_Den else if n.Kind = 2 then vV n.A
  else if 3 ≤ n.Kind ∧ n.Kind ≤ 8 then vP n.Kind n.A n.B else if n.Kind = 9 then vK n.A n.B n.C else .nilIface
set_option maxHeartbeats 4000000 in
theorem step_i (w : World) (n : El) : Calls Try.prog 116 #[fv n] w (IsV (stepV n) w) := by
  obtain ⟨k, a, b, c, u, v⟩ := n
  show Calls Try.prog 116 #[.agg #[.int .i64 k, .int .i64 a, .int .i64 b, .int .i64 c, .int .i64 u, .int .i64 v]] w (IsV (stepV ⟨k, a, b, c, u, v⟩) w)
  by_cases h1 : k = 1
  · subst h1
    go_enter Try.func116, Try.ntmps116
    go_wp2
    go_ret
    exact ⟨rfl, by (repeat (first | exact Below.refl _ _ | apply BelowKit.bl_alloc | apply BelowKit.bl_drewN | apply BelowKit.bl_drew | (refine BelowKit.bl_set ?_ _ ?_; rotate_left; (first | omega | (simp; omega) | simp)) | (refine BelowKit.bl_trans ?_ (‹Hid (Below _ _ _)›).out)))⟩
  by_cases h2 : k = 2
  · subst h2
    go_enter Try.func116, Try.ntmps116
    go_wp2
    go_ret
    exact ⟨rfl, by (repeat (first | exact Below.refl _ _ | apply BelowKit.bl_alloc | apply BelowKit.bl_drewN | apply BelowKit.bl_drew | (refine BelowKit.bl_set ?_ _ ?_; rotate_left; (first | omega | (simp; omega) | simp)) | (refine BelowKit.bl_trans ?_ (‹Hid (Below _ _ _)›).out)))⟩
  by_cases h3 : k = 3
  · subst h3
    go_enter Try.func116, Try.ntmps116
    go_wp2
    go_ret
    exact ⟨rfl, by (repeat (first | exact Below.refl _ _ | apply BelowKit.bl_alloc | apply BelowKit.bl_drewN | apply BelowKit.bl_drew | (refine BelowKit.bl_set ?_ _ ?_; rotate_left; (first | omega | (simp; omega) | simp)) | (refine BelowKit.bl_trans ?_ (‹Hid (Below _ _ _)›).out)))⟩
  by_cases h4 : k = 4
  · subst h4
    go_enter Try.func116, Try.ntmps116
    go_wp2
    go_ret
    exact ⟨rfl, by (repeat (first | exact Below.refl _ _ | apply BelowKit.bl_alloc | apply BelowKit.bl_drewN | apply BelowKit.bl_drew | (refine BelowKit.bl_set ?_ _ ?_; rotate_left; (first | omega | (simp; omega) | simp)) | (refine BelowKit.bl_trans ?_ (‹Hid (Below _ _ _)›).out)))⟩
  by_cases h5 : k = 5
  · subst h5
    go_enter Try.func116, Try.ntmps116
    go_wp2
    go_ret
    exact ⟨rfl, by (repeat (first | exact Below.refl _ _ | apply BelowKit.bl_alloc | apply BelowKit.bl_drewN | apply BelowKit.bl_drew | (refine BelowKit.bl_set ?_ _ ?_; rotate_left; (first | omega | (simp; omega) | simp)) | (refine BelowKit.bl_trans ?_ (‹Hid (Below _ _ _)›).out)))⟩
  by_cases h6 : k = 6
  · subst h6
    go_enter Try.func116, Try.ntmps116
    go_wp2
    go_ret
    exact ⟨rfl, by (repeat (first | exact Below.refl _ _ | apply BelowKit.bl_alloc | apply BelowKit.bl_drewN | apply BelowKit.bl_drew | (refine BelowKit.bl_set ?_ _ ?_; rotate_left; (first | omega | (simp; omega) | simp)) | (refine BelowKit.bl_trans ?_ (‹Hid (Below _ _ _)›).out)))⟩
  by_cases h7 : k = 7
  · subst h7
    go_enter Try.func116, Try.ntmps116
    go_wp2
    go_ret
    exact ⟨rfl, by (repeat (first | exact Below.refl _ _ | apply BelowKit.bl_alloc | apply BelowKit.bl_drewN | apply BelowKit.bl_drew | (refine BelowKit.bl_set ?_ _ ?_; rotate_left; (first | omega | (simp; omega) | simp)) | (refine BelowKit.bl_trans ?_ (‹Hid (Below _ _ _)›).out)))⟩
  by_cases h8 : k = 8
  · subst h8
    go_enter Try.func116, Try.ntmps116
    go_wp2
    go_ret
    exact ⟨rfl, by (repeat (first | exact Below.refl _ _ | apply BelowKit.bl_alloc | apply BelowKit.bl_drewN | apply BelowKit.bl_drew | (refine BelowKit.bl_set ?_ _ ?_; rotate_left; (first | omega | (simp; omega) | simp)) | (refine BelowKit.bl_trans ?_ (‹Hid (Below _ _ _)›).out)))⟩
  by_cases h9 : k = 9
  · subst h9
    go_enter Try.func116, Try.ntmps116
    go_wp2
    go_ret
    exact ⟨rfl, by (repeat (first | exact Below.refl _ _ | apply BelowKit.bl_alloc | apply BelowKit.bl_drewN | apply BelowKit.bl_drew | (refine BelowKit.bl_set ?_ _ ?_; rotate_left; (first | omega | (simp; omega) | simp)) | (refine BelowKit.bl_trans ?_ (‹Hid (Below _ _ _)›).out)))⟩
  have E : stepV ⟨k, a, b, c, u, v⟩ = .nilIface := by unfold stepV; rw [if_neg h1, if_neg h2, if_neg (by simp only []; omega), if_neg h9]
  rw [E]
  have d1 : (k == 1) = false := beq_eq_false_iff_ne.2 h1
  have d2 : (k == 2) = false := beq_eq_false_iff_ne.2 h2
  have d3 : (k == 3) = false := beq_eq_false_iff_ne.2 h3
  have d4 : (k == 4) = false := beq_eq_false_iff_ne.2 h4
  have d5 : (k == 5) = false := beq_eq_false_iff_ne.2 h5
  have d6 : (k == 6) = false := beq_eq_false_iff_ne.2 h6
  have d7 : (k == 7) = false := beq_eq_false_iff_ne.2 h7
  have d8 : (k == 8) = false := beq_eq_false_iff_ne.2 h8
  have d9 : (k == 9) = false := beq_eq_false_iff_ne.2 h9
  clear h1 h2 h3 h4 h5 h6 h7 h8 h9 E
  go_enter Try.func116, Try.ntmps116
  go_wp2
  go_ret
  exact ⟨rfl, by (repeat (first | exact Below.refl _ _ | apply BelowKit.bl_alloc | apply BelowKit.bl_drewN | apply BelowKit.bl_drew | (refine BelowKit.bl_set ?_ _ ?_; rotate_left; (first | omega | (simp; omega) | simp)) | (refine BelowKit.bl_trans ?_ (‹Hid (Below _ _ _)›).out)))⟩
theorem node_c (w : World) (u v : Int) : Calls Try.prog 163 #[.agg #[.int .i64 u, .int .i64 v]] w (IsV (.agg #[.int .i64 1, .int .i64 0, .int .i64 0, .int .i64 0, .int .i64 u, .int .i64 v]) w) := by
  go_enter Try.func163, Try.ntmps163
  go_wp2
  refine bodyPost_ret (v := .agg #[.int .i64 1, .int .i64 0, .int .i64 0, .int .i64 0, .int .i64 u, .int .i64 v]) (by simp [results, Try.results163, go_sem]) rfl ⟨rfl, ?_⟩
  (repeat (first | exact Below.refl _ _ | apply BelowKit.bl_alloc | apply BelowKit.bl_drewN | apply BelowKit.bl_drew | (refine BelowKit.bl_set ?_ _ ?_; rotate_left; (first | omega | (simp; omega) | simp)) | (refine BelowKit.bl_trans ?_ (‹Hid (Below _ _ _)›).out)))
theorem node_v (w : World) (a : Int) : Calls Try.prog 164 #[.agg #[.int .i64 a]] w (IsV (.agg #[.int .i64 2, .int .i64 a, .int .i64 0, .int .i64 0, .int .i64 0, .int .i64 0]) w) := by
  go_enter Try.func164, Try.ntmps164
  go_wp2
  refine bodyPost_ret (v := .agg #[.int .i64 2, .int .i64 a, .int .i64 0, .int .i64 0, .int .i64 0, .int .i64 0]) (by simp [results, Try.results164, go_sem]) rfl ⟨rfl, ?_⟩
  (repeat (first | exact Below.refl _ _ | apply BelowKit.bl_alloc | apply BelowKit.bl_drewN | apply BelowKit.bl_drew | (refine BelowKit.bl_set ?_ _ ?_; rotate_left; (first | omega | (simp; omega) | simp)) | (refine BelowKit.bl_trans ?_ (‹Hid (Below _ _ _)›).out)))
theorem node_p (w : World) (k a b : Int) : Calls Try.prog 165 #[.agg #[.int .i64 k, .int .i64 a, .int .i64 b]] w (IsV (.agg #[.int .i64 k, .int .i64 a, .int .i64 b, .int .i64 0, .int .i64 0, .int .i64 0]) w) := by
  go_enter Try.func165, Try.ntmps165
  go_wp2
  refine bodyPost_ret (v := .agg #[.int .i64 k, .int .i64 a, .int .i64 b, .int .i64 0, .int .i64 0, .int .i64 0]) (by simp [results, Try.results165, go_sem]) rfl ⟨rfl, ?_⟩
  (repeat (first | exact Below.refl _ _ | apply BelowKit.bl_alloc | apply BelowKit.bl_drewN | apply BelowKit.bl_drew | (refine BelowKit.bl_set ?_ _ ?_; rotate_left; (first | omega | (simp; omega) | simp)) | (refine BelowKit.bl_trans ?_ (‹Hid (Below _ _ _)›).out)))
theorem node_k (w : World) (a b c : Int) : Calls Try.prog 166 #[.agg #[.int .i64 a, .int .i64 b, .int .i64 c]] w (IsV (.agg #[.int .i64 9, .int .i64 a, .int .i64 b, .int .i64 c, .int .i64 0, .int .i64 0]) w) := by
  go_enter Try.func166, Try.ntmps166
  go_wp2
  refine bodyPost_ret (v := .agg #[.int .i64 9, .int .i64 a, .int .i64 b, .int .i64 c, .int .i64 0, .int .i64 0]) (by simp [results, Try.results166, go_sem]) rfl ⟨rfl, ?_⟩
  (repeat (first | exact Below.refl _ _ | apply BelowKit.bl_alloc | apply BelowKit.bl_drewN | apply BelowKit.bl_drew | (refine BelowKit.bl_set ?_ _ ?_; rotate_left; (first | omega | (simp; omega) | simp)) | (refine BelowKit.bl_trans ?_ (‹Hid (Below _ _ _)›).out)))
/-! Type assertions: 'x, ok := s.(T)'. -/
theorem is_yes (t : TypeId) (v : Value) (h : t = 147 ∨ t = 149 ∨ t = 154 ∨ t = 157) (w : World) : (Instr.typeAssert (.iface t v) 139 t true).run Try.prog w = .ok (.tuple #[v, .bool true]) w := by
  rcases h with rfl | rfl | rfl | rfl <;> kernel_rfl
theorem zC (w : World) : (do pure (Value.tuple #[← zeroValue 147, .bool false]) : Sem Value).run Try.prog w = .ok (.tuple #[.agg #[.int .i64 0, .int .i64 0], .bool false]) w := by kernel_rfl
theorem zV (w : World) : (do pure (Value.tuple #[← zeroValue 149, .bool false]) : Sem Value).run Try.prog w = .ok (.tuple #[.agg #[.int .i64 0], .bool false]) w := by kernel_rfl
theorem zP (w : World) : (do pure (Value.tuple #[← zeroValue 154, .bool false]) : Sem Value).run Try.prog w = .ok (.tuple #[.agg #[.int .i64 0, .int .i64 0, .int .i64 0], .bool false]) w := by kernel_rfl
theorem zK (w : World) : (do pure (Value.tuple #[← zeroValue 157, .bool false]) : Sem Value).run Try.prog w = .ok (.tuple #[.agg #[.int .i64 0, .int .i64 0, .int .i64 0], .bool false]) w := by kernel_rfl
theorem noC (t : TypeId) (v : Value) (h : t ≠ 147) (w : World) : (Instr.typeAssert (.iface t v) 139 147 true).run Try.prog w = .ok (.tuple #[.agg #[.int .i64 0, .int .i64 0], .bool false]) w := by
  have e : (Instr.typeAssert (.iface t v) 139 147 true).run Try.prog w = (if t = 147 then (pure (Value.tuple #[v, .bool true]) : Sem Value) else (do pure (Value.tuple #[← zeroValue 147, .bool false]))).run Try.prog w := by kernel_rfl
  rw [e, if_neg h, zC]
theorem noV (t : TypeId) (v : Value) (h : t ≠ 149) (w : World) : (Instr.typeAssert (.iface t v) 139 149 true).run Try.prog w = .ok (.tuple #[.agg #[.int .i64 0], .bool false]) w := by
  have e : (Instr.typeAssert (.iface t v) 139 149 true).run Try.prog w = (if t = 149 then (pure (Value.tuple #[v, .bool true]) : Sem Value) else (do pure (Value.tuple #[← zeroValue 149, .bool false]))).run Try.prog w := by kernel_rfl
  rw [e, if_neg h, zV]
theorem noP (t : TypeId) (v : Value) (h : t ≠ 154) (w : World) : (Instr.typeAssert (.iface t v) 139 154 true).run Try.prog w = .ok (.tuple #[.agg #[.int .i64 0, .int .i64 0, .int .i64 0], .bool false]) w := by
  have e : (Instr.typeAssert (.iface t v) 139 154 true).run Try.prog w = (if t = 154 then (pure (Value.tuple #[v, .bool true]) : Sem Value) else (do pure (Value.tuple #[← zeroValue 154, .bool false]))).run Try.prog w := by kernel_rfl
  rw [e, if_neg h, zP]
theorem noK (t : TypeId) (v : Value) (h : t ≠ 157) (w : World) : (Instr.typeAssert (.iface t v) 139 157 true).run Try.prog w = .ok (.tuple #[.agg #[.int .i64 0, .int .i64 0, .int .i64 0], .bool false]) w := by
  have e : (Instr.typeAssert (.iface t v) 139 157 true).run Try.prog w = (if t = 157 then (pure (Value.tuple #[v, .bool true]) : Sem Value) else (do pure (Value.tuple #[← zeroValue 157, .bool false]))).run Try.prog w := by kernel_rfl
  rw [e, if_neg h, zK]
/-- A slice of ints that reads l, with room for its elements alone. -/
def fI (n : Int) : List Value := [.int .i64 n]
def IsOps (l : List Int) (w : World) (e : Ending) (w' : World) : Prop := ∃ p, e = .returned (.slice p l.length l.length) ∧ Reads fI 1 w' p l ∧ Below w.heap.size w w'
theorem ops_c (w : World) (u v : Int) : Calls Try.prog 128 #[vC u v] w (IsOps [] w) := by
  have e1 := noP 147 (.agg #[.int .i64 u, .int .i64 v]) (by decide)
  have e2 := noK 147 (.agg #[.int .i64 u, .int .i64 v]) (by decide)
  go_enter Try.func128, Try.ntmps128
  go_wp2
  go_ret
  exact ⟨none, rfl, Reads.nil _ _, by (repeat (first | exact Below.refl _ _ | apply BelowKit.bl_alloc | apply BelowKit.bl_drewN | apply BelowKit.bl_drew | (refine BelowKit.bl_set ?_ _ ?_; rotate_left; (first | omega | (simp; omega) | simp)) | (refine BelowKit.bl_trans ?_ (‹Hid (Below _ _ _)›).out)))⟩
theorem ops_v (w : World) (a : Int) : Calls Try.prog 128 #[vV a] w (IsOps [] w) := by
  have e1 := noP 149 (.agg #[.int .i64 a]) (by decide)
  have e2 := noK 149 (.agg #[.int .i64 a]) (by decide)
  go_enter Try.func128, Try.ntmps128
  go_wp2
  go_ret
  exact ⟨none, rfl, Reads.nil _ _, by (repeat (first | exact Below.refl _ _ | apply BelowKit.bl_alloc | apply BelowKit.bl_drewN | apply BelowKit.bl_drew | (refine BelowKit.bl_set ?_ _ ?_; rotate_left; (first | omega | (simp; omega) | simp)) | (refine BelowKit.bl_trans ?_ (‹Hid (Below _ _ _)›).out)))⟩
theorem ops_p (w : World) (k a b : Int) : Calls Try.prog 128 #[vP k a b] w (IsOps [a, b] w) := by
  have e1 := is_yes 154 (.agg #[.int .i64 k, .int .i64 a, .int .i64 b]) (by simp)
  go_enter Try.func128, Try.ntmps128
  go_wp2
  go_ret
  refine ⟨_, rfl, ?_, by (repeat (first | exact Below.refl _ _ | apply BelowKit.bl_alloc | apply BelowKit.bl_drewN | apply BelowKit.bl_drew | (refine BelowKit.bl_set ?_ _ ?_; rotate_left; (first | omega | (simp; omega) | simp)) | (refine BelowKit.bl_trans ?_ (‹Hid (Below _ _ _)›).out)))⟩
  intro j hj
  refine ⟨_, _, rfl, by simp, ?_⟩
  intro i hi
  obtain rfl : i = 0 := by omega
  match j, hj with
  | 0, _ => simp [go_sem, fI]
  | 1, _ => simp [go_sem, fI]
theorem ops_k (w : World) (a b c : Int) : Calls Try.prog 128 #[vK a b c] w (IsOps [a, b, c] w) := by
  have e1 := noP 157 (.agg #[.int .i64 a, .int .i64 b, .int .i64 c]) (by decide)
  have e2 := is_yes 157 (.agg #[.int .i64 a, .int .i64 b, .int .i64 c]) (by simp)
  go_enter Try.func128, Try.ntmps128
  go_wp2
  go_ret
  refine ⟨_, rfl, ?_, by (repeat (first | exact Below.refl _ _ | apply BelowKit.bl_alloc | apply BelowKit.bl_drewN | apply BelowKit.bl_drew | (refine BelowKit.bl_set ?_ _ ?_; rotate_left; (first | omega | (simp; omega) | simp)) | (refine BelowKit.bl_trans ?_ (‹Hid (Below _ _ _)›).out)))⟩
  intro j hj
  refine ⟨_, _, rfl, by simp, ?_⟩
  intro i hi
  obtain rfl : i = 0 := by omega
  match j, hj with
  | 0, _ => simp [go_sem, fI]
  | 1, _ => simp [go_sem, fI]
  | 2, _ => simp [go_sem, fI]
end Go.Proofs.Ytkfgflmhefbinaa.StepI
