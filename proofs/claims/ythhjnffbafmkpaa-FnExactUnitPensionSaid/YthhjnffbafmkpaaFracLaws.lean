/- Contracts of the laws' two helpers on fractions: the other package's struct, and equality. -/
import Derived.Test.YthhjnffbafmkpaaRows
import Derived.Test.YthhjnffbafmkpaaKit
import Derived.Test.YthhjnffbafmkpaaFracC
import Derived.WalkKit
import Derived.Below
import Derived.WalkSmall
import Derived.Lib.Hide
namespace Go.Proofs.Ythhjnffbafmkpaa.FracLaws
open Go.RowKit FracMath FracOps
/-- Behind a region: a new block g bears the result; what was there reads on. -/
structure Behind (W : World) (x y : Int) (g : Nat) (wx : World) : Prop where
  bel : Below W.heap.size W wx
  low : W.heap.size ≤ g
  lt : g < wx.heap.size
  c0 : wx.cell? ⟨g, 0, none⟩ = some (.int .i64 x)
  c1 : wx.cell? ⟨g, 1, none⟩ = some (.int .i64 y)
def Left (W : World) (x y : Int) (z : Bool) (s t : Value) (wx : World) : Prop := ∃ g : Nat, s = .pointer (some ⟨g, 0, none⟩) ∧ t = .bool z ∧ Behind W x y g wx
/-- Two boxes at n and n + 1. -/
structure Boxes (n : Nat) (a b c d : Int) (W : World) : Prop where
  lt : n + 1 < W.heap.size
  ca : W.cell? ⟨n, 0, none⟩ = some (.int .i64 a)
  cb : W.cell? ⟨n, 1, none⟩ = some (.int .i64 b)
  cc : W.cell? ⟨n + 1, 0, none⟩ = some (.int .i64 c)
  cd : W.cell? ⟨n + 1, 1, none⟩ = some (.int .i64 d)
theorem Boxes.all {n : Nat} {a b c d : Int} {W : World} (h : Boxes n a b c d W) :
    W.cell? ⟨n, 0, none⟩ = some (.int .i64 a) ∧ W.cell? ⟨n, 1, none⟩ = some (.int .i64 b) ∧ W.cell? ⟨n + 1, 0, none⟩ = some (.int .i64 c) ∧ W.cell? ⟨n + 1, 1, none⟩ = some (.int .i64 d) := ⟨h.ca, h.cb, h.cc, h.cd⟩
theorem Boxes.on {n : Nat} {a b c d : Int} {W W' : World} (h : Boxes n a b c d W) (hb : Below W.heap.size W W') : Boxes n a b c d W' := by
  have hc := (BelowKit.bcell hb).1
  have hl := h.lt
  exact ⟨Nat.lt_of_lt_of_le hl hb.size, (hc _ _ (by omega)).trans h.ca, (hc _ _ (by omega)).trans h.cb, (hc _ _ (by omega)).trans h.cc, (hc _ _ (by omega)).trans h.cd⟩
theorem boxes (w : World) (T : TypeId) (a b c d : Int) : Boxes w.heap.size a b c d ((w.alloc (.cells #[.int .i64 a, .int .i64 b] T)).alloc (.cells #[.int .i64 c, .int .i64 d] T)) :=
  ⟨by simp, by simp [go_sem], by simp [go_sem], by simp [go_sem], by simp [go_sem]⟩

set_option maxHeartbeats 1000000 in
theorem to_c (a b : Int) (w : World) :
    Calls Try.prog 22 #[.agg #[.int .i64 a, .int .i64 b]] w (IsPair a b w) := by
  go_enter Try.func22, Try.ntmps22
  go_wp2
  refine bodyPost_ret (v := .agg #[.int .i64 a, .int .i64 b]) (by simp [results, Try.results22, go_sem]) rfl ⟨rfl, ?_⟩
  (repeat (first | exact Below.refl _ _ | apply BelowKit.bl_alloc | apply BelowKit.bl_drewN | apply BelowKit.bl_drew | (refine BelowKit.bl_set ?_ _ ?_; rotate_left; (first | omega | (simp; omega) | simp)) | (refine BelowKit.bl_trans ?_ (‹Hid (Below _ _ _)›).out)))
set_option maxHeartbeats 1000000 in
theorem eq_yes (a b : Int) (w : World) :
    Calls Try.prog 23 #[.agg #[.int .i64 a, .int .i64 b], .agg #[.int .i64 a, .int .i64 b]] w fun e w' => e = .returned (.bool true) ∧ Below w.heap.size w w' := by
  go_enter Try.func23, Try.ntmps23
  go_wp2
  go_ret
  exact ⟨rfl, by (repeat (first | exact Below.refl _ _ | apply BelowKit.bl_alloc | apply BelowKit.bl_drewN | apply BelowKit.bl_drew | (refine BelowKit.bl_set ?_ _ ?_; rotate_left; (first | omega | (simp; omega) | simp)) | (refine BelowKit.bl_trans ?_ (‹Hid (Below _ _ _)›).out)))⟩
end Go.Proofs.Ythhjnffbafmkpaa.FracLaws
