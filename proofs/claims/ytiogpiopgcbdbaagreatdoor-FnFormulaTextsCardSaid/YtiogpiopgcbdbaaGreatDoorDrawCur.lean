/- Small lemmas on the cursor of the Draw functions. -/
import Derived.Test.YtiogpiopgcbdbaaGreatDoorRows
import Derived.Test.YtiogpiopgcbdbaaGreatDoorCur
import Derived.Test.YtiogpiopgcbdbaaGreatDoorKit
import Derived.Test.YtiogpiopgcbdbaaGreatDoorCurByte
namespace Go.Proofs.YtiogpiopgcbdbaaGreatDoor.DrawCur
open Go.RowKit CurKit CurByte Cur BelowKit
theorem goes_trans {w0 w w1 w2 : World} {b : Nat} {a : Option Addr} {len cap : Nat} (h : OnlyB b w w1) (k : Goes w0 w1 b a len cap w2) : Goes w0 w b a len cap w2 := ⟨k.1, h.trans k.2⟩
theorem goes_set {w0 w w' : World} {b : Nat} {a : Option Addr} {len cap g o : Nat} (h : Goes w0 w b a len cap w') (hg : w.heap.size ≤ g) (hb : b < w.heap.size) (h0 : w0.heap.size ≤ g) (v : Value) : Goes w0 w b a len cap (w'.setCell ⟨g, o, none⟩ v) := by
  obtain ⟨i, hh, hc, hi⟩ := h.1.cells
  refine ⟨⟨h.1.bel.setCell (p := ⟨g, o, none⟩) h0 v, h.1.low, h.1.code, h.1.small, i, hh, (Below.heap_setCell _ _ _ _ (show b ≠ g by omega)).trans hc, hi⟩, h.2.os, h.2.tape, h.2.output, by have := h.2.size; simpa using this, fun k hk hne => (Below.heap_setCell _ _ _ _ (show k ≠ g by omega)).trans (h.2.block k hk hne)⟩
theorem cur_drew {T : Nat} {w0 w : World} {b : Nat} {a : Option Addr} {len cap : Nat} (h : CurIn T w0 w b a len cap) : CurIn T w0 w.drew b a len cap := by
  obtain ⟨i, hh, hc, hi⟩ := h.cells
  exact h.next ((OnlyB.refl b w).drewN 1) i hh hi hc
theorem cur_far {w w' : World} {b g o : Nat} (h : OnlyB b w w') (hg : g < w.heap.size) (hne : g ≠ b) : w'.cell? ⟨g, o, none⟩ = w.cell? ⟨g, o, none⟩ ∧ w'.frozen? ⟨g, o, none⟩ = w.frozen? ⟨g, o, none⟩ :=
  ⟨h.cell_far ⟨g, o, none⟩ hg (fun e => hne (Option.some.inj e)), h.frozen_far ⟨g, o, none⟩ hg (fun e => hne (Option.some.inj e))⟩
end Go.Proofs.YtiogpiopgcbdbaaGreatDoor.DrawCur
