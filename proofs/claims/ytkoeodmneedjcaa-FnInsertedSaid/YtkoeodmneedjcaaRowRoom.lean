/- New rows with room: append(nil, make([]T, n)...), cut to length 0. Imports nothing of the dump. -/
import Derived.Test.YtkoeodmneedjcaaKit
import Derived.Lib.AppendZeros
namespace Go.Proofs.Ytkoeodmneedjcaa.RowRoom
open Go.RowKit RowN
section
variable {α : Type} {f : α → List Value} {c : Nat}
theorem own_cap {w : World} {B T n cap : Nat} {a : Option Addr} {l : List α} (h : Owns f c w B T (.slice a n cap) l) : n ≤ cap := by
  rcases h.2 with ⟨e, _⟩ | ⟨g, cap', cur, e, _, _, hnc, _⟩
  · cases e; exact Nat.le_refl _
  · cases e; exact hnc
theorem ow_cap {w : World} {T lo hi n cap : Nat} {a : Option Addr} {l : List α} (h : Own.Ow f c T w lo hi (.slice a n cap) l) : n ≤ cap := own_cap h.own
theorem reads_take {w : World} {a : Option Addr} {l : List α} (h : Reads f c w a l) (k : Nat) : Reads f c w a (l.take k) := fun j hj => by
  obtain ⟨blk, off, e, hlt, hc⟩ := h j (by simp at hj; omega)
  exact ⟨blk, off, e, hlt, fun i hi => by rw [List.getElem_take]; exact hc i hi⟩
/-- The part of a row behind its first k elements. -/
theorem reads_drop {w : World} {p q : Option Addr} {l : List α} {cap k : Nat} (h : Reads f c w p l) (hl : l.length ≤ cap) (hq : (if cap = k then p else Option.map (fun x : Addr => x.add (k * c)) p) = q) : Reads f c w q (l.drop k) := fun j hj => by
  have hj' : k + j < l.length := by simp at hj; omega
  obtain ⟨blk, off, e, hlt, hc⟩ := h (k + j) hj'
  subst e
  rw [if_neg (by omega)] at hq
  refine ⟨blk, off + k * c, by rw [← hq]; simp [Addr.add], hlt, fun i hi => ?_⟩
  rw [List.getElem_drop, ← hc i hi, Nat.add_mul, Nat.add_assoc off]
theorem zero_size (z : Array Value) (n : Nat) : (Builtin.zeroCells z n).size = n * z.size := by simp [Builtin.zeroCells]
/-- append(nil, make([]T, n)...): a new block of zeros. -/
theorem run_zerosN {P : Program} {t T tn : TypeId} {z : Value} {cb : Nat} (st : ElT P t T z c cb) (hc : 0 < c) (kn : IntKind) (htn : P.underlying tn = some (.int kn)) (w : World) (ty : TypeId) (n : Nat) (h0 : 0 < n) (hn : n ≤ 1099511627776) :
    (Builtin.append_ #[t, tn] ty #[.slice none 0 0, .int kn n]).run P w =
      .ok (.slice (some ⟨w.heap.size, 0, none⟩) n (grownCap w n 0 T)) (w.drew.alloc (.cells (Builtin.zeroCells z.cells n ++ Builtin.zeroCells z.cells (grownCap w n 0 T - n)) T)) := by
  obtain ⟨i0, hi, hz0, hz1, hz2⟩ := info_parts st.hi
  refine Lib.run_append_nil_zeros w t tn ty T i0 z kn kn st.ht htn hi hz0 n h0 (by rw [hz1]; exact hc) (by omega) ?_
  rw [hz2]
  exact Nat.le_trans (Nat.mul_le_mul hn st.hb) (by omega)
/-- Such a block, cut to length 0, is an empty row with room. -/
theorem owns_room {P : Program} {t T : TypeId} {z : Value} {cb : Nat} (st : ElT P t T z c cb) (w : World) (B n : Nat) (hB : B ≤ w.heap.size) (hn : n ≤ 1099511627776) :
    Owns f c (w.drew.alloc (.cells (Builtin.zeroCells z.cells n ++ Builtin.zeroCells z.cells (grownCap w n 0 T - n)) T)) B T (.slice (some ⟨w.heap.size, 0, none⟩) 0 (grownCap w n 0 T)) [] := by
  have h1 := grownCap_ge w n 0 T
  have h2 := grownCap_le_maxLen w n 0 T (by unfold maxLen; omega)
  refine ⟨by simp, .inr ⟨_, _, _, rfl, hB, heap_alloc_new w.drew _, Nat.zero_le _, h2, ?_, by simp⟩⟩
  rw [Array.size_append, zero_size, zero_size, st.hz, ← Nat.add_mul]
  congr 1
  omega
end
end Go.Proofs.Ytkoeodmneedjcaa.RowRoom
