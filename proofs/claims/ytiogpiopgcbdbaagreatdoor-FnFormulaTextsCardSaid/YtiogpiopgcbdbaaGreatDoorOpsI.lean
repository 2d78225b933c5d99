/- The operands of a step in memory of their own; growth beside a row. -/
import Derived.Test.YtiogpiopgcbdbaaGreatDoorRows
import Derived.Test.YtiogpiopgcbdbaaGreatDoorStepI
import Derived.Test.YtiogpiopgcbdbaaGreatDoorNine
namespace Go.Proofs.YtiogpiopgcbdbaaGreatDoor.OpsI
open Go.RowKit RowN TNode NodeMath FracMath StepI OpsM
/-- What has grown: no block but the row's has turned; the row lies where it lay, or in a new block. -/
structure Gr (W W' : World) (v v' : Value) : Prop where
  by_ : W.grownBy W' v.ownBlock
  row : At W v v'
theorem Gr.refl (W : World) (v : Value) : Gr W W v v := ⟨World.grownBy.refl _ _, fun _ h => .inl h⟩
theorem Gr.trans {A B C : World} {u v x : Value} (h : Gr A B u v) (k : Gr B C v x) : Gr A C u x :=
  ⟨⟨k.by_.os.trans h.by_.os, k.by_.tape.trans h.by_.tape, k.by_.output.trans h.by_.output, Nat.le_trans h.by_.size k.by_.size, fun i hi hne =>
    (k.by_.block i (Nat.lt_of_lt_of_le hi h.by_.size) (fun e => by rcases h.row i e.symm with h1 | h1; · exact hne h1.symm
                                                                   · omega)).trans (h.by_.block i hi hne)⟩,
   fun i hi => by
    rcases k.row i hi with h1 | h1
    · exact h.row i h1
    · exact .inr (Nat.le_trans h.by_.size h1)⟩
theorem Gr.of_below {A C : World} (v : Value) (h : Below A.heap.size A C) : Gr A C v v := ⟨⟨h.os, h.tape, h.output, h.size, fun i hi _ => h.block i hi⟩, fun _ h => .inl h⟩
theorem Gr.below {A C : World} {u v : Value} {B : Nat} (h : Gr A C u v) (hB : B ≤ A.heap.size) (hu : ∀ k, u.ownBlock = some k → B ≤ k) : Below B A C := (Below.refl B A).grown h.by_ hB hu
/-- What another block reads. -/
theorem Gr.reads {α : Type} {f : α → List Value} {c : Nat} {A C : World} {u v : Value} {p : Option Addr} {l : List α} (h : Gr A C u v) (hr : Reads f c A p l) (hne : ∀ g o, p = some ⟨g, o, none⟩ → u.ownBlock ≠ some g) : Reads f c C p l := by
  intro j hj
  obtain ⟨g, o, rfl, hg, q⟩ := hr j hj
  refine ⟨g, o, rfl, Nat.lt_of_lt_of_le hg h.by_.size, fun i hi => ?_⟩
  rw [World.cell?_of_block (h.by_.block g hg (fun e => hne g o rfl e.symm))]
  exact q i hi
/-- A slice of operands in a block of its own. -/
def IsOpsN (l : List Int) (w : World) (e : Ending) (w' : World) : Prop := ∃ p, e = .returned (.slice p l.length l.length) ∧ Reads StepI.fI 1 w' p l ∧ Below w.heap.size w w' ∧ ∀ g o, p = some ⟨g, o, none⟩ → w.heap.size ≤ g
theorem opsN_c (w : World) (u v : Int) : Calls Tryz.prog 16 #[vC u v] w (IsOpsN [] w) := by
  have e1 := noP 81 (.agg #[.int .i64 u, .int .i64 v]) (by decide)
  have e2 := noK 81 (.agg #[.int .i64 u, .int .i64 v]) (by decide)
  go_enter Tryz.func16, Tryz.ntmps16
  go_wp2
  go_ret
  exact ⟨none, rfl, Reads.nil _ _, by (repeat (first | exact Below.refl _ _ | apply BelowKit.bl_alloc | apply BelowKit.bl_drewN | apply BelowKit.bl_drew | (refine BelowKit.bl_set ?_ _ ?_; rotate_left; (first | omega | (simp; omega) | simp)) | (refine BelowKit.bl_trans ?_ (‹Hid (Below _ _ _)›).out))), fun g o h => by cases h⟩
theorem opsN_v (w : World) (a : Int) : Calls Tryz.prog 16 #[vV a] w (IsOpsN [] w) := by
  have e1 := noP 83 (.agg #[.int .i64 a]) (by decide)
  have e2 := noK 83 (.agg #[.int .i64 a]) (by decide)
  go_enter Tryz.func16, Tryz.ntmps16
  go_wp2
  go_ret
  exact ⟨none, rfl, Reads.nil _ _, by (repeat (first | exact Below.refl _ _ | apply BelowKit.bl_alloc | apply BelowKit.bl_drewN | apply BelowKit.bl_drew | (refine BelowKit.bl_set ?_ _ ?_; rotate_left; (first | omega | (simp; omega) | simp)) | (refine BelowKit.bl_trans ?_ (‹Hid (Below _ _ _)›).out))), fun g o h => by cases h⟩
theorem opsN_p (w : World) (k a b : Int) : Calls Tryz.prog 16 #[vP k a b] w (IsOpsN [a, b] w) := by
  have e1 := is_yes 77 (.agg #[.int .i64 k, .int .i64 a, .int .i64 b]) (by simp)
  go_enter Tryz.func16, Tryz.ntmps16
  go_wp2
  go_ret
  refine ⟨_, rfl, ?_, by (repeat (first | exact Below.refl _ _ | apply BelowKit.bl_alloc | apply BelowKit.bl_drewN | apply BelowKit.bl_drew | (refine BelowKit.bl_set ?_ _ ?_; rotate_left; (first | omega | (simp; omega) | simp)) | (refine BelowKit.bl_trans ?_ (‹Hid (Below _ _ _)›).out))), fun g o h => by cases h; omega⟩
  intro j hj
  refine ⟨_, _, rfl, by simp, ?_⟩
  intro i hi
  obtain rfl : i = 0 := by omega
  match j, hj with
  | 0, _ => simp [go_sem, fI]
  | 1, _ => simp [go_sem, fI]
theorem opsN_k (w : World) (a b c : Int) : Calls Tryz.prog 16 #[vK a b c] w (IsOpsN [a, b, c] w) := by
  have e1 := noP 79 (.agg #[.int .i64 a, .int .i64 b, .int .i64 c]) (by decide)
  have e2 := is_yes 79 (.agg #[.int .i64 a, .int .i64 b, .int .i64 c]) (by simp)
  go_enter Tryz.func16, Tryz.ntmps16
  go_wp2
  go_ret
  refine ⟨_, rfl, ?_, by (repeat (first | exact Below.refl _ _ | apply BelowKit.bl_alloc | apply BelowKit.bl_drewN | apply BelowKit.bl_drew | (refine BelowKit.bl_set ?_ _ ?_; rotate_left; (first | omega | (simp; omega) | simp)) | (refine BelowKit.bl_trans ?_ (‹Hid (Below _ _ _)›).out))), fun g o h => by cases h; omega⟩
  intro j hj
  refine ⟨_, _, rfl, by simp, ?_⟩
  intro i hi
  obtain rfl : i = 0 := by omega
  match j, hj with
  | 0, _ => simp [go_sem, fI]
  | 1, _ => simp [go_sem, fI]
  | 2, _ => simp [go_sem, fI]
theorem opsN_i (w : World) (x : El) (hk : 1 ≤ x.Kind ∧ x.Kind ≤ 9) : Calls Tryz.prog 16 #[stepV x] w (IsOpsN (opsL x) w) := by
  obtain ⟨k, a, b, c, u, v⟩ := x
  simp only [] at hk
  unfold stepV opsL
  simp only []
  by_cases h1 : k = 1
  · rw [if_pos h1, if_pos (by omega)]; exact opsN_c w u v
  by_cases h2 : k = 2
  · rw [if_neg h1, if_pos h2, if_pos (by omega)]; exact opsN_v w a
  rw [if_neg h1, if_neg h2, if_neg (show ¬ k ≤ 2 by omega)]
  by_cases h9 : k = 9
  · rw [if_neg (by omega), if_pos h9, if_pos h9]; exact opsN_k w a b c
  · rw [if_pos (by omega), if_neg h9]; exact opsN_p w k a b
theorem ops_at {w : World} {p : Option Addr} {l : List Int} (h : Reads StepI.fI 1 w p l) (j : Nat) (hj : j < l.length) : ∃ g o, p = some ⟨g, o, none⟩ ∧ g < w.heap.size ∧ w.cell? ⟨g, o + j, none⟩ = some (.int .i64 l[j]) := by
  obtain ⟨g, o, rfl, hg, q⟩ := h j hj
  have q0 := q 0 (by omega)
  simp only [StepI.fI, Nat.mul_one, Nat.add_zero, List.getElem?_cons_zero] at q0
  exact ⟨g, o, rfl, hg, q0⟩
end Go.Proofs.YtiogpiopgcbdbaaGreatDoor.OpsI
