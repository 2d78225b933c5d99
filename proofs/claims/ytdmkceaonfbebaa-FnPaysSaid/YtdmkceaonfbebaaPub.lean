/- A region that appends one point to a copy of a row and lays the series in a new block: what holds on the way, whatever the order. -/
import Derived.Test.YtdmkceaonfbebaaRows
import Derived.Test.YtdmkceaonfbebaaPointMath
import Derived.Test.YtdmkceaonfbebaaKit
namespace Go.Proofs.Ytdmkceaonfbebaa.Pub
open Go.RowKit RowN TPoint PointMath Box
/-- A block of a series differs from a row's. -/
theorem apart {w : World} {B g : Nat} {u v : Value} {l : List El} (h : Owns fc 3 w B T v l) (hg : w.heap[g]? = some (.cells #[u] 29 (0, 0))) : v.ownBlock ≠ some g := fun e => by
  rcases h.2 with ⟨rfl, _⟩ | ⟨g', cap, cur, rfl, hbg, hh, _⟩
  · cases e
  · have : g' = g := by simpa [Value.ownBlock] using e
    subst this
    rw [hg] at hh
    simp [T] at hh
def Row (w : World) (B : Nat) (x : El) (v : Value) : Prop := ∃ g, v = .slice (some ⟨g, 0, none⟩) 1 1 ∧ B ≤ g ∧ g < w.heap.size ∧ w.heap[g]? = some (.cells ([x].flatMap fc).toArray T (0, 0))
def Blk (w : World) (B : Nat) (u v : Value) : Prop := ∃ g, v = .pointer (some ⟨g, 0, none⟩) ∧ B ≤ g ∧ g < w.heap.size ∧ w.heap[g]? = some (.cells #[u] 29 (0, 0))
theorem Row.below {w w' : World} {B : Nat} {x : El} {v : Value} (h : Row w B x v) (hb : Below w.heap.size w w') : Row w' B x v := by
  obtain ⟨g, rfl, h1, h2, h3⟩ := h
  exact ⟨g, rfl, h1, Nat.lt_of_lt_of_le h2 hb.size, (hb.block g h2).trans h3⟩
theorem Blk.below {w w' : World} {B : Nat} {u v : Value} (h : Blk w B u v) (hb : Below w.heap.size w w') : Blk w' B u v := by
  obtain ⟨g, rfl, h1, h2, h3⟩ := h
  exact ⟨g, rfl, h1, Nat.lt_of_lt_of_le h2 hb.size, (hb.block g h2).trans h3⟩
theorem Blk.grown {w w' : World} {B B' : Nat} {u v v9 : Value} {l : List El} (h : Blk w B u v) (ho : Owns fc 3 w B' T v9 l) (hg : w.grownBy w' v9.ownBlock) : Blk w' B u v := by
  obtain ⟨g, rfl, h1, h2, h3⟩ := h
  exact ⟨g, rfl, h1, Nat.lt_of_lt_of_le h2 hg.size, (hg.block g h2 (fun e => apart ho h3 e.symm)).trans h3⟩
theorem Blk.set {w : World} {B g : Nat} {u v : Value} (h : Blk w B u (.pointer (some ⟨g, 0, none⟩))) : Blk (w.setCell ⟨g, 0, none⟩ v) B v (.pointer (some ⟨g, 0, none⟩)) := by
  obtain ⟨g', e, h1, h2, h3⟩ := h
  cases e
  exact ⟨g, rfl, h1, by simpa using h2, one_setCell h3⟩
theorem Row.new (w : World) (B : Nat) (x : El) (hB : B ≤ w.heap.size) : Row (w.alloc (.cells #[.int .i64 x.Month, .int .i64 x.Known, .int .i64 x.Value] 43)) B x (.slice (some ⟨w.heap.size, 0, none⟩) 1 1) :=
  ⟨_, rfl, hB, by simp, heap_alloc_new _ _⟩
theorem Blk.new (w : World) (B : Nat) (u : Value) (hB : B ≤ w.heap.size) : Blk (w.alloc (.cells #[u] 29)) B u (.pointer (some ⟨w.heap.size, 0, none⟩)) :=
  ⟨_, rfl, hB, by simp, heap_alloc_new _ _⟩
/-- What holds when the operations of L have come up: 2 made the copy, 3 read the point, 4 laid it, 5 appended it, 7 laid the series' block, 8 stored it there. -/
structure Inv (W : World) (l : List El) (x : El) (p : Option Addr) (m cap b : Nat) (L : Nat → Bool) (v6 v7 v8 v9 v10 v11 v12 v13 : Value) (w : World) : Prop where
  bel : Below W.heap.size W w
  h0 : L 0 = true → v7 = .pointer (some ⟨b, 0, none⟩)
  h1 : L 1 = true → v8 = .slice p m cap
  h2 : L 2 = true → L 5 = false → Owns fc 3 w W.heap.size T v9 l
  h3 : L 3 = true → v10 = fv x
  h4 : L 4 = true → L 5 = false → Row w W.heap.size x v11
  h5 : L 5 = true → Owns fc 3 w W.heap.size T v12 (l ++ [x])
  h6 : L 6 = true → v13 = .agg #[v12]
  h7 : L 7 = true → L 8 = false → Blk w W.heap.size (.slice none 0 0) v6
  h8 : L 8 = true → Blk w W.heap.size v12 v6
  c6 : L 6 = true → L 5 = true
  c8 : L 8 = true → L 6 = true ∧ L 7 = true
/-- The answer of Publish: a series in new memory, and whether the point was added. -/
def IsPub (r : List El) (b : Bool) (w : World) (e : Ending) (w' : World) : Prop := ∃ p c, e = .returned (.tuple #[.agg #[.slice p r.length c], .bool b]) ∧ Owns fc 3 w' w.heap.size T (.slice p r.length c) r ∧ Below w.heap.size w w'
end Go.Proofs.Ytdmkceaonfbebaa.Pub
