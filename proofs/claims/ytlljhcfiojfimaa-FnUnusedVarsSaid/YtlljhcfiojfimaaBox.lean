/- Parameters of several cells lie in boxes: new blocks at the call's beginning, which later steps keep. Imports nothing of the dump. -/
import Derived.WalkKit
import Derived.Below
import Derived.Test.YtlljhcfiojfimaaBelowKit
namespace Go.Proofs.Ytlljhcfiojfimaa.Box
open Go.RowKit
variable {w wr : World} {v v0 v1 v2 v3 v4 : Value} {T : TypeId}
/-- One box of one cell. -/
abbrev boxed (w : World) (v : Value) (T : TypeId) : World := w.alloc (.cells #[v] T)
theorem boxed_size : (boxed w v T).heap.size = w.heap.size + 1 := by simp
theorem box_cell (hb : Below (boxed w v T).heap.size (boxed w v T) wr) : wr.cell? ⟨w.heap.size, 0, none⟩ = some v :=
  (hb.cell (p := ⟨w.heap.size, 0, none⟩) (by simp)).trans (by simp [go_sem])
theorem box_size (hb : Below (boxed w v T).heap.size (boxed w v T) wr) : w.heap.size < wr.heap.size := by
  have := hb.size
  simp at this
  omega
theorem box_below (hb : Below (boxed w v T).heap.size (boxed w v T) wr) : Below w.heap.size w wr :=
  BelowKit.bl_trans (BelowKit.bl_alloc (Below.refl _ _)) hb
end Go.Proofs.Ytlljhcfiojfimaa.Box
