/- The cursor of the drawn inputs: what it looks like in memory, and small facts on masks. Imports nothing of the dump. -/
import Derived.WalkKit
import Derived.ProofKit
import Derived.Handy
import Derived.OpenShut
import Derived.Deep.QuietTactic
namespace Go.Proofs.Ytlljhcfiojfimaa.CurKit
open Go.RowKit

theorem and_mask (x : Int) (m : Nat) (hm : m < 4611686018427387904) : 0 ≤ bits .and .i64 x (m : Int) ∧ bits .and .i64 x (m : Int) ≤ m := by
  have e : ((BitVec.ofInt IntKind.i64.bits x) &&& (BitVec.ofInt IntKind.i64.bits (m : Int))).toNat ≤ m := by
    rw [BitVec.toNat_and]
    refine Nat.le_trans Nat.and_le_right ?_
    rw [BitVec.ofInt_natCast, BitVec.toNat_ofNat]
    exact Nat.mod_le _ _
  show 0 ≤ IntKind.i64.wrap (((BitVec.ofInt IntKind.i64.bits x) &&& (BitVec.ofInt IntKind.i64.bits (m : Int))).toNat : Int) ∧ IntKind.i64.wrap (((BitVec.ofInt IntKind.i64.bits x) &&& (BitVec.ofInt IntKind.i64.bits (m : Int))).toNat : Int) ≤ m
  generalize ((BitVec.ofInt IntKind.i64.bits x) &&& (BitVec.ofInt IntKind.i64.bits (m : Int))).toNat = n at *
  rw [IntWalk.i64_in _ (by omega)]
  omega
theorem and_255 (x : Int) : ∃ n : Nat, bits .and .i64 x 255 = (n : Int) ∧ n < 256 := by
  have h := and_mask x 255 (by omega)
  have e : ((255 : Nat) : Int) = 255 := rfl
  rw [e] at h
  exact ⟨(bits .and .i64 x 255).toNat, by omega, by omega⟩

/-- The bytes of the code can be read: cell j holds a byte. -/
def CodeAt (w : World) (a : Option Addr) (len : Nat) : Prop := ∀ j, j < len → ∃ blk off n, a = some ⟨blk, off, none⟩ ∧ blk < w.heap.size ∧ w.cell? ⟨blk, off + j, none⟩ = some (.int .u8 n) ∧ 0 ≤ n ∧ n < 256

/-- The cursor at block b (struct type T) over the code, in a world w behind w0. -/
structure CurIn (T : Nat) (w0 w : World) (b : Nat) (a : Option Addr) (len cap : Nat) : Prop where
  bel : Below w0.heap.size w0 w
  low : w0.heap.size ≤ b
  code : CodeAt w0 a len
  small : len ≤ maxLen
  cells : ∃ (i : Nat) (h : Int), w.heap[b]? = some (.cells #[.slice a len cap, .int .i64 i, .int .i64 h] T (0, 0)) ∧ i ≤ len

/-- Only block b has been written, besides new blocks. -/
def OnlyB (b : Nat) (w w' : World) : Prop := w.grownBy w' (some b)
theorem OnlyB.refl (b : Nat) (w : World) : OnlyB b w w := World.grownBy.refl w _
theorem OnlyB.trans {b : Nat} {w1 w2 w3 : World} (h : OnlyB b w1 w2) (k : OnlyB b w2 w3) : OnlyB b w1 w3 :=
  ⟨k.os.trans h.os, k.tape.trans h.tape, k.output.trans h.output, Nat.le_trans h.size k.size, fun i hi hne => (k.block i (Nat.lt_of_lt_of_le hi h.size) hne).trans (h.block i hi hne)⟩
theorem OnlyB.drewN {b : Nat} {w w' : World} (h : OnlyB b w w') (n : Nat) : OnlyB b w (w'.drewN n) := ⟨h.os, h.tape, h.output, h.size, h.block⟩
theorem OnlyB.setCell {b : Nat} {w w' : World} (h : OnlyB b w w') (o : Nat) (v : Value) : OnlyB b w (w'.setCell ⟨b, o, none⟩ v) :=
  h.trans ⟨rfl, rfl, rfl, by simp [World.setCell], fun i _ hne => Below.heap_setCell _ _ _ _ (fun e => hne (by simp [e]))⟩
theorem OnlyB.alloc {b : Nat} {w w' : World} (h : OnlyB b w w') (o : Obj) : OnlyB b w (w'.alloc o) :=
  h.trans (World.grownBy_alloc _ o _)
theorem OnlyB.below {b B : Nat} {w w' : World} (h : OnlyB b w w') (hb : B ≤ b) (hB : B ≤ w.heap.size) : Below B w w' :=
  (Below.refl B w).grown h hB (fun k hk => by cases hk; exact hb)
theorem CurIn.lt {T : Nat} {w0 w : World} {b : Nat} {a : Option Addr} {len cap : Nat} (h : CurIn T w0 w b a len cap) : b < w.heap.size := by
  obtain ⟨i, hh, hg, _⟩ := h.cells
  exact (Array.getElem?_eq_some_iff.1 hg).1
/-- The cursor goes on: its block holds new numbers. -/
theorem CurIn.next {T : Nat} {w0 w w' : World} {b : Nat} {a : Option Addr} {len cap : Nat} (h : CurIn T w0 w b a len cap) (ht : OnlyB b w w') (i : Nat) (hh : Int) (hi : i ≤ len)
    (hg : w'.heap[b]? = some (.cells #[.slice a len cap, .int .i64 i, .int .i64 hh] T (0, 0))) : CurIn T w0 w' b a len cap :=
  ⟨h.bel.trans (ht.below h.low h.bel.size), h.low, h.code, h.small, i, hh, hg, hi⟩
theorem CurIn.alloc {T : Nat} {w0 w : World} {b : Nat} {a : Option Addr} {len cap : Nat} (h : CurIn T w0 w b a len cap) (o : Obj) : CurIn T w0 (w.alloc o) b a len cap := by
  obtain ⟨i, hh, hg, hi⟩ := h.cells
  exact h.next ((OnlyB.refl b w).alloc o) i hh hi ((heap_alloc_old w o h.lt).trans hg)
/-- A step that leaves block b alone. -/
theorem CurIn.keep {T : Nat} {w0 w w' : World} {b : Nat} {a : Option Addr} {len cap : Nat} {row : Option Nat} (h : CurIn T w0 w b a len cap) (hg : w.grownBy w' row) (hne : some b ≠ row) (hr : ∀ k, row = some k → w0.heap.size ≤ k) : CurIn T w0 w' b a len cap := by
  obtain ⟨i, hh, hc, hi⟩ := h.cells
  exact ⟨h.bel.trans ((Below.refl _ _).grown hg h.bel.size hr), h.low, h.code, h.small, i, hh, (hg.block b h.lt hne).trans hc, hi⟩
/-- Below C only block b has been written. -/
structure BX (b C : Nat) (w w' : World) : Prop where
  os : w'.os = w.os
  tape : w'.tape = w.tape
  output : w'.output = w.output
  size : w.heap.size ≤ w'.heap.size
  block : ∀ k, k < C → k ≠ b → w'.heap[k]? = w.heap[k]?
theorem BX.refl (b C : Nat) (w : World) : BX b C w w := ⟨rfl, rfl, rfl, Nat.le_refl _, fun _ _ _ => rfl⟩
theorem BX.trans {b C : Nat} {w1 w2 w3 : World} (h : BX b C w1 w2) (k : BX b C w2 w3) : BX b C w1 w3 :=
  ⟨k.os.trans h.os, k.tape.trans h.tape, k.output.trans h.output, Nat.le_trans h.size k.size, fun i hi hne => (k.block i hi hne).trans (h.block i hi hne)⟩
theorem OnlyB.bx {b C : Nat} {w w' : World} (h : OnlyB b w w') (hC : C ≤ w.heap.size) : BX b C w w' := ⟨h.os, h.tape, h.output, h.size, fun k hk hne => h.block k (by omega) (by simpa using hne)⟩
theorem BX.below {b C : Nat} {w w' : World} (h : Below C w w') : BX b C w w' := ⟨h.os, h.tape, h.output, h.size, fun k hk _ => h.block k hk⟩
theorem BX.only {b : Nat} {w w' : World} (h : BX b w.heap.size w w') : OnlyB b w w' := ⟨h.os, h.tape, h.output, h.size, fun k hk hne => h.block k hk (fun e => hne (by rw [e]))⟩
theorem CurIn.below {T C : Nat} {w0 w w' : World} {b : Nat} {a : Option Addr} {len cap : Nat} (h : CurIn T w0 w b a len cap) (hb : Below C w w') (hC : b < C) : CurIn T w0 w' b a len cap := by
  obtain ⟨i, hh, hc, hi⟩ := h.cells
  exact ⟨h.bel.trans (hb.mono (by have := h.low; omega)), h.low, h.code, h.small, i, hh, (hb.block b hC).trans hc, hi⟩
/-- A slice of bytes that came in is a code. -/
theorem code_at {w : World} {a : Option Addr} {len cap : Nat} {zs : List Int}
    (h : (a = none ∧ len = 0 ∧ cap = 0 ∧ zs = []) ∨ ∃ x, a = some x ∧ len ≤ cap ∧ cap ≤ maxLen ∧ zs.length = cap ∧ (∀ i, i < zs.length → w.cell? (x.add i) = some (.int .u8 (zs.getD i 0))) ∧ ∀ n ∈ zs, (Lit.int .u8 n).wf = true) :
    CodeAt w a len ∧ len ≤ maxLen := by
  rcases h with ⟨rfl, rfl, _, _⟩ | ⟨⟨blk, off, spot⟩, rfl, hl, hm, hz, hcell, hwf⟩
  · exact ⟨fun j hj => by omega, Nat.zero_le _⟩
  · refine ⟨fun j hj => ?_, Nat.le_trans hl hm⟩
    have hj2 : j < zs.length := by omega
    have hc := hcell j hj2
    have hspot : spot = none := by simpa [Addr.add] using World.cell?_spot (hcell 0 (by omega))
    subst hspot
    have hadd : (⟨blk, off, none⟩ : Addr).add j = ⟨blk, off + j, none⟩ := by unfold Addr.add; split <;> simp_all
    rw [hadd] at hc
    have hw := hwf (zs.getD j 0) (by simp [List.getD, hj2])
    have hb := bounds_u8 hw
    exact ⟨blk, off, zs.getD j 0, rfl, World.block_lt_of_cell? w _ hc, hc, by omega, by omega⟩
end Go.Proofs.Ytlljhcfiojfimaa.CurKit
