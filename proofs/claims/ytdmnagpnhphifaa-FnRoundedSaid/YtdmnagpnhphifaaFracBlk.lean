/- A block of two integers in memory, and what keeps it. Imports nothing of the dump. -/
import Derived.WalkKit
import Derived.Below
import Derived.Test.YtdmnagpnhphifaaBelowKit
namespace Go.Proofs.Ytdmnagpnhphifaa.FracBlk
open Go.RowKit
structure FB (w : World) (n : Nat) (x y : Int) : Prop where
  lt : n < w.heap.size
  c0 : w.cell? ⟨n, 0, none⟩ = some (.int .i64 x)
  c1 : w.cell? ⟨n, 1, none⟩ = some (.int .i64 y)
variable {w w' : World} {n B : Nat} {x y : Int}
theorem FB.below (h : FB w n x y) (hb : Below B w w') (hn : n < B) : FB w' n x y :=
  ⟨Nat.lt_of_lt_of_le h.lt hb.size, (hb.cell (p := ⟨n, 0, none⟩) hn).trans h.c0, (hb.cell (p := ⟨n, 1, none⟩) hn).trans h.c1⟩
theorem FB.on (h : FB w n x y) (hb : Below w.heap.size w w') : FB w' n x y := h.below hb h.lt
theorem FB.alloc (h : FB w n x y) (o : Obj) : FB (w.alloc o) n x y := h.below ((Below.refl w.heap.size w).alloc (Nat.le_refl _) o) h.lt
theorem FB.drew (h : FB w n x y) : FB w.drew n x y := ⟨h.lt, h.c0, h.c1⟩
theorem FB.new (w : World) (T : TypeId) (x y : Int) : FB (w.alloc (.cells #[.int .i64 x, .int .i64 y] T)) w.heap.size x y := ⟨by simp, by simp [go_sem], by simp [go_sem]⟩
end Go.Proofs.Ytdmnagpnhphifaa.FracBlk
