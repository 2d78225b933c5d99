/- My kit: texts that lean on no dump, in one file. -/
import Derived.WalkKit
import Derived.Below
import Derived.WalkSmall
import Derived.Lib.Hide
import Derived.Deep.Draws
import Derived.Deep.QuietTactic
import Derived.ProofKit
import Derived.Handy
import Derived.OpenShut
import Derived.Laws.CopyOwn
import Derived.Deep.AppendLies
import Derived.ArgAppend
import Derived.Maps.AppendAt
import Derived.BigQuiet
import Derived.StillTail
import Derived.Deep.Quiet
import Derived.OwnWalk
import Derived.OwnWalkIn
import Derived.RangeFuncBox
import Derived.WideShapes
import Derived.Deep.Slices
import Derived.ShutString
import Derived.Laws.IdiomStrings
import Derived.Laws.BytesArg
import Derived.Laws.OwnMore
import Derived.Laws.AppendOwn
/- Small lemmas on 'Below': memory that only grew. Imports nothing of the dump. -/
namespace Go.Proofs.Ythhjnffbafmkpaa.BelowKit
open Go.RowKit
theorem bl_alloc {W w : World} {o : Obj} (h : Below W.heap.size W w) : Below W.heap.size W (w.alloc o) := h.alloc h.size o
theorem bl_drewN {W w : World} {n : Nat} (h : Below W.heap.size W w) : Below W.heap.size W (w.drewN n) := below_drewN h n
theorem bl_drew {W w : World} (h : Below W.heap.size W w) : Below W.heap.size W w.drew := below_drewN h 1
theorem bl_set {W w : World} {a : Addr} (h : Below W.heap.size W w) (v : Value) (hb : W.heap.size ≤ a.block) : Below W.heap.size W (w.setCell a v) := h.setCell hb v
theorem bl_trans {W w w' : World} (h : Below W.heap.size W w) (k : Below w.heap.size w w') : Below W.heap.size W w' := h.trans (k.mono h.size)
theorem bcell {W w1 : World} (hb : Below W.heap.size W w1) : (∀ b o, b < W.heap.size → w1.cell? ⟨b, o, none⟩ = W.cell? ⟨b, o, none⟩) ∧ (∀ b o, b < W.heap.size → w1.frozen? ⟨b, o, none⟩ = W.frozen? ⟨b, o, none⟩) :=
  ⟨fun b o h => hb.cell (p := ⟨b, o, none⟩) h, fun b o h => hb.frozen (p := ⟨b, o, none⟩) h⟩
end Go.Proofs.Ythhjnffbafmkpaa.BelowKit

/- Small lemmas: a quiet call inside a region that draws its order. Imports nothing of the dump. -/
namespace Go.Proofs.Ythhjnffbafmkpaa.Quiet
open Go.RowKit
theorem left {P : Program} {f : FuncId} {args : Array Value} {w : World} {n : Nat} {v : Value}
    (h : Calls P f args (w.drewN n) fun e w' => e = .returned v ∧ w.drewN n = w') : Calls P f args (w.drewN n) fun e w'' => e = .returned v ∧ ∃ m, w'' = w.drewN m :=
  h.mono fun _ _ ⟨he, hm⟩ => ⟨he, n, hm.symm⟩
theorem add_left {P : Program} {f : FuncId} {args : Array Value} {w : World} {a n : Nat} {v : Value}
    (h : Calls P f args (w.drewN (a + n)) fun e w' => e = .returned v ∧ w.drewN (a + n) = w') :
    Calls P f args (w.drewN (a + n)) fun e w'' => e = .returned v ∧ ∃ m, w'' = w.drewN (a + m) :=
  h.mono fun _ _ ⟨he, hm⟩ => ⟨he, n, hm.symm⟩
theorem num {P : Program} {f : FuncId} {args : Array Value} {w : World} {n : Nat} {v : Value}
    (h : Calls P f args (w.drewN n) fun e w' => e = .returned v ∧ ∃ m, w' = (w.drewN n).drewN m) : Calls P f args (w.drewN n) fun e w'' => e = .returned v ∧ ∃ m, w'' = w.drewN m :=
  h.mono fun _ _ ⟨he, m, hm⟩ => ⟨he, n + m, by rw [hm, World.drewN_drewN]⟩
end Go.Proofs.Ythhjnffbafmkpaa.Quiet

/- Parameters of several cells lie in boxes: new blocks at the call's beginning, which later steps keep. Imports nothing of the dump. -/
namespace Go.Proofs.Ythhjnffbafmkpaa.Box
open Go.RowKit
variable {w wr : World} {v v0 v1 v2 v3 v4 : Value} {T : TypeId}
/-- One box of one cell. -/
abbrev boxed (w : World) (v : Value) (T : TypeId) : World := w.alloc (.cells #[v] T)
theorem boxed_size : (boxed w v T).heap.size = w.heap.size + 1 := by simp
theorem box_cell (hb : Below (boxed w v T).heap.size (boxed w v T) wr) : wr.cell? ⟨w.heap.size, 0, none⟩ = some v :=
  (hb.cell (p := ⟨w.heap.size, 0, none⟩) (by simp)).trans (by simp [go_sem])
theorem box_size (hb : Below (boxed w v T).heap.size (boxed w v T) wr) : w.heap.size < wr.heap.size := by
  have := hb.size
  simp at this
  omega
theorem box_below (hb : Below (boxed w v T).heap.size (boxed w v T) wr) : Below w.heap.size w wr :=
  BelowKit.bl_trans (BelowKit.bl_alloc (Below.refl _ _)) hb
end Go.Proofs.Ythhjnffbafmkpaa.Box

/- The cursor of the drawn inputs: what it looks like in memory, and small facts on masks. Imports nothing of the dump. -/
namespace Go.Proofs.Ythhjnffbafmkpaa.CurKit
open Go.RowKit

theorem and_mask (x : Int) (m : Nat) (hm : m < 4611686018427387904) : 0 ≤ bits .and .i64 x (m : Int) ∧ bits .and .i64 x (m : Int) ≤ m := by
  have e : ((BitVec.ofInt IntKind.i64.bits x) &&& (BitVec.ofInt IntKind.i64.bits (m : Int))).toNat ≤ m := by
    rw [BitVec.toNat_and]
    refine Nat.le_trans Nat.and_le_right ?_
    rw [BitVec.ofInt_natCast, BitVec.toNat_ofNat]
    exact Nat.mod_le _ _
  show 0 ≤ IntKind.i64.wrap (((BitVec.ofInt IntKind.i64.bits x) &&& (BitVec.ofInt IntKind.i64.bits (m : Int))).toNat : Int) ∧ IntKind.i64.wrap (((BitVec.ofInt IntKind.i64.bits x) &&& (BitVec.ofInt IntKind.i64.bits (m : Int))).toNat : Int) ≤ m
  generalize ((BitVec.ofInt IntKind.i64.bits x) &&& (BitVec.ofInt IntKind.i64.bits (m : Int))).toNat = n at *
  rw [IntWalk.i64_in _ (by omega)]
  omega
theorem and_255 (x : Int) : ∃ n : Nat, bits .and .i64 x 255 = (n : Int) ∧ n < 256 := by
  have h := and_mask x 255 (by omega)
  have e : ((255 : Nat) : Int) = 255 := rfl
  rw [e] at h
  exact ⟨(bits .and .i64 x 255).toNat, by omega, by omega⟩

/-- The bytes of the code can be read: cell j holds a byte. -/
def CodeAt (w : World) (a : Option Addr) (len : Nat) : Prop := ∀ j, j < len → ∃ blk off n, a = some ⟨blk, off, none⟩ ∧ blk < w.heap.size ∧ w.cell? ⟨blk, off + j, none⟩ = some (.int .u8 n) ∧ 0 ≤ n ∧ n < 256

/-- The cursor at block b (struct type T) over the code, in a world w behind w0. -/
structure CurIn (T : Nat) (w0 w : World) (b : Nat) (a : Option Addr) (len cap : Nat) : Prop where
  bel : Below w0.heap.size w0 w
  low : w0.heap.size ≤ b
  code : CodeAt w0 a len
  small : len ≤ maxLen
  cells : ∃ (i : Nat) (h : Int), w.heap[b]? = some (.cells #[.slice a len cap, .int .i64 i, .int .i64 h] T (0, 0)) ∧ i ≤ len

/-- Only block b has been written, besides new blocks. -/
def OnlyB (b : Nat) (w w' : World) : Prop := w.grownBy w' (some b)
theorem OnlyB.refl (b : Nat) (w : World) : OnlyB b w w := World.grownBy.refl w _
theorem OnlyB.trans {b : Nat} {w1 w2 w3 : World} (h : OnlyB b w1 w2) (k : OnlyB b w2 w3) : OnlyB b w1 w3 :=
  ⟨k.os.trans h.os, k.tape.trans h.tape, k.output.trans h.output, Nat.le_trans h.size k.size, fun i hi hne => (k.block i (Nat.lt_of_lt_of_le hi h.size) hne).trans (h.block i hi hne)⟩
theorem OnlyB.drewN {b : Nat} {w w' : World} (h : OnlyB b w w') (n : Nat) : OnlyB b w (w'.drewN n) := ⟨h.os, h.tape, h.output, h.size, h.block⟩
theorem OnlyB.setCell {b : Nat} {w w' : World} (h : OnlyB b w w') (o : Nat) (v : Value) : OnlyB b w (w'.setCell ⟨b, o, none⟩ v) :=
  h.trans ⟨rfl, rfl, rfl, by simp [World.setCell], fun i _ hne => Below.heap_setCell _ _ _ _ (fun e => hne (by simp [e]))⟩
theorem OnlyB.alloc {b : Nat} {w w' : World} (h : OnlyB b w w') (o : Obj) : OnlyB b w (w'.alloc o) :=
  h.trans (World.grownBy_alloc _ o _)
theorem OnlyB.below {b B : Nat} {w w' : World} (h : OnlyB b w w') (hb : B ≤ b) (hB : B ≤ w.heap.size) : Below B w w' :=
  (Below.refl B w).grown h hB (fun k hk => by cases hk; exact hb)
theorem CurIn.lt {T : Nat} {w0 w : World} {b : Nat} {a : Option Addr} {len cap : Nat} (h : CurIn T w0 w b a len cap) : b < w.heap.size := by
  obtain ⟨i, hh, hg, _⟩ := h.cells
  exact (Array.getElem?_eq_some_iff.1 hg).1
/-- The cursor goes on: its block holds new numbers. -/
theorem CurIn.next {T : Nat} {w0 w w' : World} {b : Nat} {a : Option Addr} {len cap : Nat} (h : CurIn T w0 w b a len cap) (ht : OnlyB b w w') (i : Nat) (hh : Int) (hi : i ≤ len)
    (hg : w'.heap[b]? = some (.cells #[.slice a len cap, .int .i64 i, .int .i64 hh] T (0, 0))) : CurIn T w0 w' b a len cap :=
  ⟨h.bel.trans (ht.below h.low h.bel.size), h.low, h.code, h.small, i, hh, hg, hi⟩
theorem CurIn.alloc {T : Nat} {w0 w : World} {b : Nat} {a : Option Addr} {len cap : Nat} (h : CurIn T w0 w b a len cap) (o : Obj) : CurIn T w0 (w.alloc o) b a len cap := by
  obtain ⟨i, hh, hg, hi⟩ := h.cells
  exact h.next ((OnlyB.refl b w).alloc o) i hh hi ((heap_alloc_old w o h.lt).trans hg)
/-- A step that leaves block b alone. -/
theorem CurIn.keep {T : Nat} {w0 w w' : World} {b : Nat} {a : Option Addr} {len cap : Nat} {row : Option Nat} (h : CurIn T w0 w b a len cap) (hg : w.grownBy w' row) (hne : some b ≠ row) (hr : ∀ k, row = some k → w0.heap.size ≤ k) : CurIn T w0 w' b a len cap := by
  obtain ⟨i, hh, hc, hi⟩ := h.cells
  exact ⟨h.bel.trans ((Below.refl _ _).grown hg h.bel.size hr), h.low, h.code, h.small, i, hh, (hg.block b h.lt hne).trans hc, hi⟩
/-- Below C only block b has been written. -/
structure BX (b C : Nat) (w w' : World) : Prop where
  os : w'.os = w.os
  tape : w'.tape = w.tape
  output : w'.output = w.output
  size : w.heap.size ≤ w'.heap.size
  block : ∀ k, k < C → k ≠ b → w'.heap[k]? = w.heap[k]?
theorem BX.refl (b C : Nat) (w : World) : BX b C w w := ⟨rfl, rfl, rfl, Nat.le_refl _, fun _ _ _ => rfl⟩
theorem BX.trans {b C : Nat} {w1 w2 w3 : World} (h : BX b C w1 w2) (k : BX b C w2 w3) : BX b C w1 w3 :=
  ⟨k.os.trans h.os, k.tape.trans h.tape, k.output.trans h.output, Nat.le_trans h.size k.size, fun i hi hne => (k.block i hi hne).trans (h.block i hi hne)⟩
theorem OnlyB.bx {b C : Nat} {w w' : World} (h : OnlyB b w w') (hC : C ≤ w.heap.size) : BX b C w w' := ⟨h.os, h.tape, h.output, h.size, fun k hk hne => h.block k (by omega) (by simpa using hne)⟩
theorem BX.below {b C : Nat} {w w' : World} (h : Below C w w') : BX b C w w' := ⟨h.os, h.tape, h.output, h.size, fun k hk _ => h.block k hk⟩
theorem BX.only {b : Nat} {w w' : World} (h : BX b w.heap.size w w') : OnlyB b w w' := ⟨h.os, h.tape, h.output, h.size, fun k hk hne => h.block k hk (fun e => hne (by rw [e]))⟩
theorem CurIn.below {T C : Nat} {w0 w w' : World} {b : Nat} {a : Option Addr} {len cap : Nat} (h : CurIn T w0 w b a len cap) (hb : Below C w w') (hC : b < C) : CurIn T w0 w' b a len cap := by
  obtain ⟨i, hh, hc, hi⟩ := h.cells
  exact ⟨h.bel.trans (hb.mono (by have := h.low; omega)), h.low, h.code, h.small, i, hh, (hb.block b hC).trans hc, hi⟩
/-- A slice of bytes that came in is a code. -/
theorem code_at {w : World} {a : Option Addr} {len cap : Nat} {zs : List Int}
    (h : (a = none ∧ len = 0 ∧ cap = 0 ∧ zs = []) ∨ ∃ x, a = some x ∧ len ≤ cap ∧ cap ≤ maxLen ∧ zs.length = cap ∧ (∀ i, i < zs.length → w.cell? (x.add i) = some (.int .u8 (zs.getD i 0))) ∧ ∀ n ∈ zs, (Lit.int .u8 n).wf = true) :
    CodeAt w a len ∧ len ≤ maxLen := by
  rcases h with ⟨rfl, rfl, _, _⟩ | ⟨⟨blk, off, spot⟩, rfl, hl, hm, hz, hcell, hwf⟩
  · exact ⟨fun j hj => by omega, Nat.zero_le _⟩
  · refine ⟨fun j hj => ?_, Nat.le_trans hl hm⟩
    have hj2 : j < zs.length := by omega
    have hc := hcell j hj2
    have hspot : spot = none := by simpa [Addr.add] using World.cell?_spot (hcell 0 (by omega))
    subst hspot
    have hadd : (⟨blk, off, none⟩ : Addr).add j = ⟨blk, off + j, none⟩ := by unfold Addr.add; split <;> simp_all
    rw [hadd] at hc
    have hw := hwf (zs.getD j 0) (by simp [List.getD, hj2])
    have hb := bounds_u8 hw
    exact ⟨blk, off, zs.getD j 0, rfl, World.block_lt_of_cell? w _ hc, hc, by omega, by omega⟩
end Go.Proofs.Ythhjnffbafmkpaa.CurKit

/- Rows of elements of c one-cell fields each that the call owns, whatever the elements: made, appended to, copied into, stored into, read. Imports nothing of the dump. -/
namespace Go.Proofs.Ythhjnffbafmkpaa.RowN
open Go.RowKit
variable {α : Type} {f : α → List Value} {c : Nat}

/-- An element's cells: c of them, each one cell. -/
structure Wide (f : α → List Value) (c : Nat) : Prop where
  len : ∀ x, (f x).length = c
  one : ∀ x, ∀ v ∈ f x, v.oneCell' = true
  pos : 0 < c

theorem flat_len (wd : Wide f c) (l : List α) : (l.flatMap f).length = l.length * c := by
  induction l with
  | nil => simp
  | cons x xs ih => rw [List.flatMap_cons, List.length_append, ih, wd.len, List.length_cons, Nat.add_mul, Nat.one_mul, Nat.add_comm]
theorem flat_get (wd : Wide f c) : ∀ (l : List α) (j : Nat) (hj : j < l.length) (i : Nat), i < c → (l.flatMap f)[j * c + i]? = (f l[j])[i]?
  | x :: xs, 0, _, i, hi => by
    rw [List.flatMap_cons, Nat.zero_mul, Nat.zero_add, List.getElem?_append_left (by rw [wd.len]; exact hi)]
    rfl
  | x :: xs, j + 1, hj, i, hi => by
    have e : (j + 1) * c + i = (f x).length + (j * c + i) := by rw [wd.len, Nat.add_mul, Nat.one_mul]; omega
    rw [List.flatMap_cons, e, List.getElem?_append_right (Nat.le_add_right _ _), Nat.add_sub_cancel_left]
    exact flat_get wd xs j (by simpa using hj) i hi
theorem flat_set (wd : Wide f c) : ∀ (l : List α) (j : Nat) (hj : j < l.length) (i : Nat), i < c → ∀ (u : Value) (x' : α), f x' = (f l[j]).set i u → (l.flatMap f).set (j * c + i) u = (l.set j x').flatMap f
  | x :: xs, 0, _, i, hi, u, x', hx => by
    rw [List.flatMap_cons, Nat.zero_mul, Nat.zero_add, List.set_append_left _ _ (by rw [wd.len]; exact hi), List.set_cons_zero, List.flatMap_cons, hx]
    rfl
  | x :: xs, j + 1, hj, i, hi, u, x', hx => by
    have e : (j + 1) * c + i = (f x).length + (j * c + i) := by rw [wd.len, Nat.add_mul, Nat.one_mul]; omega
    rw [List.flatMap_cons, e, List.set_append_right _ _ (Nat.le_add_right _ _), Nat.add_sub_cancel_left, List.set_cons_succ, List.flatMap_cons]
    exact congrArg _ (flat_set wd xs j (by simpa using hj) i hi u x' hx)
theorem flat_one (wd : Wide f c) (l : List α) : ∀ u ∈ l.flatMap f, u.oneCell' = true := fun u hu => by
  obtain ⟨x, _, hx⟩ := List.mem_flatMap.1 hu
  exact wd.one x u hx

/-- The slice v owns the elements l (c cells each, by f; element type T), from block B on. -/
def Owns (f : α → List Value) (c : Nat) (w : World) (B T : Nat) (v : Value) (l : List α) : Prop := w.ownsRow B T c v l.length (l.flatMap f)
/-- The types of such slices: t is the slice type, T the element type, z its zero value, b its bytes. -/
structure ElT (P : Program) (t T : TypeId) (z : Value) (c b : Nat) : Prop where
  ht : P.underlying t = some (.slice T)
  hi : (P.info? T).map (fun i => (i.zero, i.size, i.bytes)) = some (some z, c, b)
  hb : b ≤ 128
  hz : z.cells.size = c

theorem Owns.nil (w : World) (B T : Nat) : Owns f c w B T (.slice none 0 0) [] := World.ownsRow_nil w B T c
theorem Owns.made (w : World) (B T : Nat) (hb : B ≤ w.heap.size) : Owns f c (w.alloc (.cells #[] T)) B T (.slice (some ⟨w.heap.size, 0, none⟩) 0 0) [] :=
  World.ownsRow_made w #[] 0 hb (Nat.zero_le _) (by simp)
theorem Owns.alloc {w : World} {B T : Nat} {v : Value} {l : List α} (h : Owns f c w B T v l) (o : Obj) : Owns f c (w.alloc o) B T v l := World.ownsRow.alloc h o
theorem Owns.drewN {w : World} {B T : Nat} {v : Value} {l : List α} (h : Owns f c w B T v l) (n : Nat) : Owns f c (w.drewN n) B T v l := h
theorem Owns.drew {w : World} {B T : Nat} {v : Value} {l : List α} (h : Owns f c w B T v l) : Owns f c w.drew B T v l := h
theorem Owns.lt {w : World} {B T : Nat} {v : Value} {l : List α} (h : Owns f c w B T v l) : ∀ k, v.ownBlock = some k → k < w.heap.size := fun k hk => (World.ownsRow.lt h k hk).2
theorem Owns.low {w : World} {B T : Nat} {v : Value} {l : List α} (h : Owns f c w B T v l) : ∀ k, v.ownBlock = some k → B ≤ k := fun k hk => (World.ownsRow.lt h k hk).1
theorem Owns.below {w w' : World} {B T C : Nat} {v : Value} {l : List α} (h : Owns f c w B T v l) (hb : Below C w w') (hv : ∀ k, v.ownBlock = some k → k < C) : Owns f c w' B T v l := by
  refine ⟨h.1, ?_⟩
  rcases h.2 with hn | ⟨g, cap, cur, rfl, hbg, hg, rest⟩
  · exact .inl hn
  · exact .inr ⟨g, cap, cur, rfl, hbg, (hb.block g (hv g rfl)).trans hg, rest⟩
theorem Owns.on {w w' : World} {B T : Nat} {v : Value} {l : List α} (h : Owns f c w B T v l) (hb : Below w.heap.size w w') : Owns f c w' B T v l := h.below hb h.lt
theorem Owns.base {w : World} {B B' T : Nat} {v : Value} {l : List α} (h : Owns f c w B T v l) (hb : B' ≤ B) : Owns f c w B' T v l := by
  refine ⟨h.1, ?_⟩
  rcases h.2 with hn | ⟨g, cap, cur, rfl, hbg, hg, rest⟩
  · exact .inl hn
  · exact .inr ⟨g, cap, cur, rfl, Nat.le_trans hb hbg, hg, rest⟩
/-- What such a value looks like. -/
theorem Owns.form (wd : Wide f c) {w : World} {B T : Nat} {v : Value} {l : List α} (h : Owns f c w B T v l) :
    ∃ a cap, v = .slice a l.length cap ∧ (∀ j (hj : j < l.length), ∃ g, a = some ⟨g, 0, none⟩ ∧ B ≤ g ∧ g < w.heap.size ∧ ∀ i, i < c → w.cell? ⟨g, j * c + i, none⟩ = (f l[j])[i]? ∧ w.frozen? ⟨g, j * c + i, none⟩ = false) := by
  rcases h.2 with ⟨rfl, h0⟩ | ⟨g, cap, cur, rfl, hbg, hg, hnc, hcm, hcs, htake⟩
  · exact ⟨none, 0, by rw [h0], fun j hj => by omega⟩
  · refine ⟨some ⟨g, 0, none⟩, cap, rfl, fun j hj => ⟨g, rfl, hbg, (Array.getElem?_eq_some_iff.1 hg).1, fun i hi => ⟨?_, frozen_of_row w g _ cur T hg⟩⟩⟩
    have hlt : j * c + i < l.length * c := Nat.lt_of_lt_of_le (Nat.add_lt_add_left hi _) (by rw [← Nat.succ_mul]; exact Nat.mul_le_mul_right _ hj)
    rw [World.ownsRow.cellAt h (j * c + i) hlt]
    exact flat_get wd l j hj i hi
theorem Owns.len (wd : Wide f c) {w : World} {B T n cap : Nat} {a : Option Addr} {l : List α} (h : Owns f c w B T (.slice a n cap) l) : n = l.length := by
  obtain ⟨_, _, e, _⟩ := h.form wd
  cases e
  rfl
theorem Owns.at (wd : Wide f c) {w : World} {B T n cap : Nat} {a : Option Addr} {l : List α} (h : Owns f c w B T (.slice a n cap) l) (j : Nat) (hj : j < l.length) :
    ∃ g, a = some ⟨g, 0, none⟩ ∧ B ≤ g ∧ g < w.heap.size ∧ ∀ i, i < c → w.cell? ⟨g, j * c + i, none⟩ = (f l[j])[i]? ∧ w.frozen? ⟨g, j * c + i, none⟩ = false := by
  obtain ⟨a', cap', hv, kk⟩ := h.form wd
  cases hv
  exact kk j hj
theorem Owns.cell (wd : Wide f c) {w : World} {B T g n cap : Nat} {l : List α} (h : Owns f c w B T (.slice (some ⟨g, 0, none⟩) n cap) l) (j : Nat) (hj : j < l.length) :
    ∀ i, i < c → w.cell? ⟨g, j * c + i, none⟩ = (f l[j])[i]? ∧ w.frozen? ⟨g, j * c + i, none⟩ = false := by
  obtain ⟨g', e, _, _, h1⟩ := h.at wd j hj
  cases e
  exact h1
/-- A store of one field into such a row. -/
theorem Owns.stored (wd : Wide f c) {w : World} {B T g cap n : Nat} {l : List α} (h : Owns f c w B T (.slice (some ⟨g, 0, none⟩) n cap) l) (j : Nat) (hj : j < l.length) (i : Nat) (hi : i < c) (u : Value) (x' : α) (hx : f x' = (f l[j]).set i u) :
    Owns f c (w.setCell ⟨g, j * c + i, none⟩ u) B T (.slice (some ⟨g, 0, none⟩) n cap) (l.set j x') := by
  obtain rfl := h.len wd
  have := (World.ownsRow.stored h (j * c + i) u).1
  unfold Owns
  rw [List.length_set, ← flat_set wd l j hj i hi u x' hx]
  exact this
/-- A store into another row. -/
theorem Owns.beside {w : World} {B T g o : Nat} {v : Value} {l : List α} (h : Owns f c w B T v l) (hne : v.ownBlock ≠ some g) (x : Value) :
    Owns f c (w.setCell ⟨g, o, none⟩ x) B T v l := by
  refine ⟨h.1, ?_⟩
  rcases h.2 with hn | ⟨g', cap, cur, rfl, hbg, hg, rest⟩
  · exact .inl hn
  · exact .inr ⟨g', cap, cur, rfl, hbg, (Below.heap_setCell _ _ _ _ (fun e => hne (by simp [Value.ownBlock, e]))).trans hg, rest⟩
theorem Owns.grown {w w' : World} {B T B0 : Nat} {v : Value} {l : List α} (h : Owns f c w B T v l) (hg : w.grownBy w' v.ownBlock) (h0 : B0 ≤ B) (h1 : B0 ≤ w.heap.size) : Below B0 w w' :=
  (Below.refl B0 w).grown hg h1 (fun k hk => Nat.le_trans h0 (h.low k hk))
/-- A row that another row's growth leaves alone. -/
theorem Owns.kept {w w' : World} {B T : Nat} {v : Value} {l : List α} {row : Option Nat} (h : Owns f c w B T v l) (hg : w.grownBy w' row) (hne : v.ownBlock = none ∨ v.ownBlock ≠ row) : Owns f c w' B T v l :=
  World.ownsRow.kept h hg hne

/-- Where the row lies behind an append: where it lay, or in a new block. -/
def At (w : World) (v v' : Value) : Prop := ∀ k, v'.ownBlock = some k → v.ownBlock = some k ∨ w.heap.size ≤ k
/-- append of the elements news, whose cells lie at ad. -/
theorem run_appendN {P : Program} {t T : TypeId} {z : Value} {cb : Nat} (st : ElT P t T z c cb) (wd : Wide f c) (w : World) (ty : TypeId) (B : Nat) (v : Value) (l : List α) (hown : Owns f c w B T v l)
    (ad : Addr) (k : Nat) (news : List α) (hg : ∀ j u, (news.flatMap f)[j]? = some u → w.cell? (ad.add j) = some u) (hlen : l.length + news.length ≤ 1099511627776) (hbase : B ≤ w.heap.size) :
    ∃ v' w', (Builtin.append_ #[t, t] ty #[v, .slice (some ad) news.length k]).run P w = .ok v' w' ∧ Owns f c w' B T v' (l ++ news) ∧ w.grownBy w' v.ownBlock ∧ At w v v' := by
  obtain ⟨i0, hi, hz0, hz1, hz2⟩ := info_parts st.hi
  have hmul : (l.length + news.length) * cb ≤ 140737488355328 := Nat.le_trans (Nat.mul_le_mul hlen st.hb) (by omega)
  obtain ⟨v', w', hr, h2, h3, _, h5⟩ := run_append_own_at (P := P) w B t ty T i0 _ c cb st.ht hi hz0 hz1 hz2 st.hz wd.pos v l.length (l.flatMap f) hown ad news.length k (news.flatMap f)
    (flat_len wd news) hg (flat_one wd news) (by unfold maxLen; omega) hmul hbase
  refine ⟨v', w', hr, ?_, h3, fun k hk => ?_⟩
  · unfold Owns
    rw [List.length_append, List.flatMap_append]
    exact h2
  · rcases h5 with h | h
    · exact .inl (h ▸ hk)
    · rw [h] at hk; exact .inr (by have := Option.some.inj hk; omega)
theorem wp_appendN {P : Program} {t T : TypeId} {z : Value} {cb : Nat} (st : ElT P t T z c cb) (wd : Wide f c) (w : World) {o : Oper} {a : Act} {K : Act → World → Prop} {Q : Exit → Act → World → Prop} (s x : Operand)
    (ho : o.op = .call { callee := .builtin .append, args := #[s, x], argTypes := #[t, t] })
    (B : Nat) (v : Value) (l : List α) (hs : a.eval s = v) (hown : Owns f c w B T v l) (ad : Addr) (k n : Nat) (news : List α) (hn : n = news.length) (hx : a.eval x = .slice (some ad) n k)
    (hg : ∀ j u, (news.flatMap f)[j]? = some u → w.cell? (ad.add j) = some u) (hlen : l.length + news.length ≤ 1099511627776) (hbase : B ≤ w.heap.size)
    (h : ∀ v' w', Owns f c w' B T v' (l ++ news) → w.grownBy w' v.ownBlock → At w v v' → K (a.put o.dst v') w') : o.wp P a w K Q := by
  subst hn
  obtain ⟨v', w', hr, h2, h3, h4⟩ := run_appendN st wd w o.type B v l hown ad k news hg hlen hbase
  unfold Oper.wp execOp
  simp only [ho, resolve, invoke, builtin, Sem.run_bind, Sem.run_pure, Result.andThen_ok, List.map_toArray, List.map_cons, List.map_nil, hs, hx, hr]
  exact h v' w' h2 h3 h4
theorem wpList_appendN {P : Program} {t T : TypeId} {z : Value} {cb : Nat} (st : ElT P t T z c cb) (wd : Wide f c) (w : World) {ops : Array Oper} {rest : List Oper} {o : Oper} {a : Act} {Q : Exit → Act → World → Prop} (hgd : o.guard = none) (s x : Operand)
    (ho : o.op = .call { callee := .builtin .append, args := #[s, x], argTypes := #[t, t] })
    (B : Nat) (v : Value) (l : List α) (hs : a.eval s = v) (hown : Owns f c w B T v l) (ad : Addr) (k n : Nat) (news : List α) (hn : n = news.length) (hx : a.eval x = .slice (some ad) n k)
    (hg : ∀ j u, (news.flatMap f)[j]? = some u → w.cell? (ad.add j) = some u) (hlen : l.length + news.length ≤ 1099511627776) (hbase : B ≤ w.heap.size)
    (h : ∀ v' w', Owns f c w' B T v' (l ++ news) → w.grownBy w' v.ownBlock → At w v v' → wpList P ops Q rest (a.put o.dst v') w') : wpList P ops Q (o :: rest) a w :=
  wpList_plain hgd fun _ hK => wp_appendN st wd w s x ho B v l hs hown ad k n news hn hx hg hlen hbase fun v' w' h2 h3 h4 => hK _ _ (h v' w' h2 h3 h4)
/-- The cells to be appended, where they are a block that is known whole. -/
theorem news_block {w : World} {g T : Nat} {news : List α} (hg : w.heap[g]? = some (.cells (news.flatMap f).toArray T (0, 0))) : ∀ j u, (news.flatMap f)[j]? = some u → w.cell? ((⟨g, 0, none⟩ : Addr).add j) = some u := by
  simpa using World.news_of_block hg
theorem step_appendN {P : Program} {t T : TypeId} {z : Value} {cb : Nat} (st : ElT P t T z c cb) (wd : Wide f c) (w : World) {ops : Array Oper} {o : Oper} {a : Act} {K : Act → World → Prop} {Q : Exit → Act → World → Prop} {E : Prop} (hgd : o.guard = none) (s x : Operand)
    (ho : o.op = .call { callee := .builtin .append, args := #[s, x], argTypes := #[t, t] })
    (B : Nat) (v : Value) (l : List α) (hs : a.eval s = v) (hown : Owns f c w B T v l) (ad : Addr) (k n : Nat) (news : List α) (hn : n = news.length) (hx : a.eval x = .slice (some ad) n k)
    (hg : ∀ j u, (news.flatMap f)[j]? = some u → w.cell? (ad.add j) = some u) (hlen : l.length + news.length ≤ 1099511627776) (hbase : B ≤ w.heap.size)
    (h : ∀ v' w', Owns f c w' B T v' (l ++ news) → w.grownBy w' v.ownBlock → At w v v' → K (a.put o.dst v') w') :
    if Region.wanted o (yielded ops a.tmps) = true then Oper.wp P o a w K Q else E := by
  have hw : Region.wanted o (yielded ops a.tmps) = true := by simp [Region.wanted, hgd]
  rw [if_pos hw]
  exact wp_appendN st wd w s x ho B v l hs hown ad k n news hn hx hg hlen hbase h

/-- make([]T, n): a row of n zeros (z0 is the zero element). -/
theorem wpList_makeN {P : Program} {t T : TypeId} {z : Value} {z0 : α} {cb : Nat} (st : ElT P t T z c cb) (wd : Wide f c) (hz0 : z.cells.toList = f z0) (w : World) {ops : Array Oper} {rest : List Oper} {o : Oper} {a : Act} {Q : Exit → Act → World → Prop}
    (hg : o.guard = none) (x y : Operand) (hop : o.op = Op.makeSlice t x y) (B : Nat) (kl kc : IntKind) (L C : Int) (n : Nat) (hl : a.eval x = .int kl L) (hc : a.eval y = .int kc C) (hL : L = (n : Int)) (hC : C = (n : Int)) (hn : n ≤ 1099511627776) (hB : B ≤ w.heap.size)
    (hK : ∀ w', Owns f c w' B T (.slice (some ⟨w.heap.size, 0, none⟩) n n) (List.replicate n z0) → w.grownBy w' none → wpList P ops Q rest (a.put o.dst (.slice (some ⟨w.heap.size, 0, none⟩) n n)) w') :
    wpList P ops Q (o :: rest) a w := by
  obtain ⟨i0, hi, hz, hz1, hz2⟩ := info_parts st.hi
  refine wpList_make_full w hg x y t hop B T i0 z c st.ht hi hz hz1 kl kc L C n hl hc hL hC ?_ (by unfold maxLen; omega) hB ?_
  · rw [hz2]; exact Nat.le_trans (Nat.mul_le_mul st.hb hn) (by omega)
  · intro w' hown hgr
    refine hK w' ?_ hgr
    have e : (madeCells z.cells (n * c)).toList = (List.replicate n z0).flatMap f := by
      have hlen : ((List.replicate n z0).flatMap f).length = n * c := by rw [flat_len wd, List.length_replicate]
      apply List.ext_getElem?
      intro p
      by_cases hp : p < n * c
      · have hc := wd.pos
        have hdm : p / c * c + p % c = p := by rw [Nat.mul_comm]; exact Nat.div_add_mod p c
        have hq : p / c < n := by rw [Nat.div_lt_iff_lt_mul hc]; exact hp
        have hm : p % c < c := Nat.mod_lt _ hc
        have h1 := flat_get wd (List.replicate n z0) (p / c) (by simpa using hq) (p % c) hm
        rw [hdm] at h1
        rw [h1, List.getElem_replicate, ← hz0]
        have hzs := st.hz
        simp [madeCells, hp, hzs, hm]
      · rw [List.getElem?_eq_none (by simp [size_madeCells]; omega), List.getElem?_eq_none (by omega)]
    unfold Owns
    rw [List.length_replicate, ← e]
    exact hown

/-- The first elements of a slice read as l. -/
def Reads (f : α → List Value) (c : Nat) (w : World) (a : Option Addr) (l : List α) : Prop := ∀ j (hj : j < l.length), ∃ blk off, a = some ⟨blk, off, none⟩ ∧ blk < w.heap.size ∧ ∀ i, i < c → w.cell? ⟨blk, off + j * c + i, none⟩ = (f l[j])[i]?
theorem Reads.below {w w' : World} {B : Nat} {a : Option Addr} {l : List α} (h : Reads f c w a l) (hb : Below B w w') (hB : ∀ b o, a = some ⟨b, o, none⟩ → b < B) : Reads f c w' a l := fun j hj => by
  obtain ⟨blk, off, e, hlt, hc⟩ := h j hj
  exact ⟨blk, off, e, Nat.lt_of_lt_of_le hlt hb.size, fun i hi => (hb.cell (p := ⟨blk, off + j * c + i, none⟩) (hB _ _ e)).trans (hc i hi)⟩
theorem Reads.on {w w' : World} {a : Option Addr} {l : List α} (h : Reads f c w a l) (hb : Below w.heap.size w w') : Reads f c w' a l := fun j hj => by
  obtain ⟨blk, off, e, hlt, hc⟩ := h j hj
  exact ⟨blk, off, e, Nat.lt_of_lt_of_le hlt hb.size, fun i hi => (hb.cell (p := ⟨blk, off + j * c + i, none⟩) hlt).trans (hc i hi)⟩
theorem Reads.drewN {w : World} {a : Option Addr} {l : List α} (h : Reads f c w a l) (n : Nat) : Reads f c (w.drewN n) a l := h
theorem Reads.nil (w : World) (a : Option Addr) : Reads f c w a [] := fun j hj => by simp at hj
theorem reads_own (wd : Wide f c) {w : World} {B T n cap : Nat} {a : Option Addr} {l : List α} (h : Owns f c w B T (.slice a n cap) l) : Reads f c w a l := fun j hj => by
  obtain ⟨g, e, _, hlt, hc⟩ := h.at wd j hj
  exact ⟨g, 0, e, hlt, fun i hi => by rw [Nat.zero_add]; exact (hc i hi).1⟩

/-- The cells of a slice that reads as l, one after another. -/
theorem Reads.cells (wd : Wide f c) {w : World} {blk off : Nat} {l : List α} (h : Reads f c w (some ⟨blk, off, none⟩) l) : ∀ p u, (l.flatMap f)[p]? = some u → w.cell? ((⟨blk, off, none⟩ : Addr).add p) = some u := by
  intro p u hu
  have hp : p < l.length * c := by rw [← flat_len wd]; exact (List.getElem?_eq_some_iff.1 hu).1
  have hc := wd.pos
  have hdm : p / c * c + p % c = p := by rw [Nat.mul_comm]; exact Nat.div_add_mod p c
  have hq : p / c < l.length := by rw [Nat.div_lt_iff_lt_mul hc]; exact hp
  have hm : p % c < c := Nat.mod_lt _ hc
  have h1 := flat_get wd l (p / c) hq (p % c) hm
  rw [hdm, hu] at h1
  obtain ⟨b', o', e, _, h2⟩ := h (p / c) hq
  cases e
  have h3 := h2 (p % c) hm
  rw [Nat.add_assoc, hdm, ← h1] at h3
  rw [Addr.add_lit]
  exact h3

theorem run_copyN {P : Program} (w : World) (dT sT ty elem : TypeId) (g o dLen dCap : Nat) (a : Addr) (sLen sCap : Nat) (cur : Array Value) (t : TypeId) (cs : List Value) (m : Nat)
    (hu : P.underlying dT = some (.slice elem)) (hs : (P.info? elem).map (·.size) = some c)
    (hg : w.heap[g]? = some (.cells cur t (0, 0))) (hm : Nat.min sLen dLen = m) (hn : cs.length = m * c)
    (hsrc : ∀ j v, cs[j]? = some v → w.cell? (a.add j) = some v) (hfit : o + cs.length ≤ cur.size) (h1 : ∀ v ∈ cs, v.oneCell' = true) :
    (Builtin.copy_ #[dT, sT] ty #[.slice (some ⟨g, o, none⟩) dLen dCap, .slice (some a) sLen sCap]).run P w =
      .ok (goInt (m : Nat)) (w.setRow g (cur.toList.take o ++ cs ++ cur.toList.drop (o + cs.length)).toArray) := by
  have hl := run_loadCells_list (P := P) w a cs hsrc
  have hst := run_storeCells_at P g o t cs 0 cur w hg (by simpa using hfit) h1
  cases hq : P.info? elem with
  | none => simp [hq] at hs
  | some i =>
    have hi : i.size = c := by simpa [hq] using hs
    simp [Builtin.copy_, run_underlying hu, Builtin.lenOf, Builtin.firstCells, sizeOf, typeInfo, hq, hi, hm, ← hn, hl, hst]
theorem run_copyN_none {P : Program} (w : World) (dT sT ty elem : TypeId) (d a : Option Addr) (dLen dCap sLen sCap : Nat) (hu : P.underlying dT = some (.slice elem)) (hs : (P.info? elem).map (·.size) = some c) (hn : Nat.min sLen dLen = 0) :
    (Builtin.copy_ #[dT, sT] ty #[.slice d dLen dCap, .slice a sLen sCap]).run P w = .ok (goInt 0) w := by
  cases hq : P.info? elem with
  | none => simp [hq] at hs
  | some i =>
    have hl : ∀ (x : Addr), (loadCells x 0).run P w = .ok #[] w := fun x => by simpa using run_loadCells_list (P := P) w x [] (by simp)
    cases d <;> cases a <;> simp [Builtin.copy_, run_underlying hu, Builtin.lenOf, Builtin.firstCells, sizeOf, typeInfo, hq, hn, storeCells, hl]
/-- copy over a whole row that the call owns, from a slice of as many elements. -/
theorem wpList_copyN {P : Program} {t T : TypeId} {z : Value} {cb : Nat} (st : ElT P t T z c cb) (wd : Wide f c) (w : World) {ops : Array Oper} {rest : List Oper} {o : Oper} {a : Act} {Q : Exit → Act → World → Prop} (hgd : o.guard = none) (d s : Operand) (sT : TypeId)
    (ho : o.op = .call { callee := .builtin .copy, args := #[d, s], argTypes := #[t, sT] }) (B g n dc sc : Nat) (sa : Option Addr) (l0 l : List α) (hd : a.eval d = .slice (some ⟨g, 0, none⟩) n dc) (hs : a.eval s = .slice sa n sc)
    (hown : Owns f c w B T (.slice (some ⟨g, 0, none⟩) n dc) l0) (hl : l.length = n) (hr : Reads f c w sa l)
    (h : ∀ w', Owns f c w' B T (.slice (some ⟨g, 0, none⟩) n dc) l → w.grownBy w' (some g) → wpList P ops Q rest (a.put o.dst (goInt n)) w') : wpList P ops Q (o :: rest) a w := by
  obtain ⟨i0, hi, hz0, hz1, hz2⟩ := info_parts st.hi
  have hsz : (P.info? T).map (·.size) = some c := by rw [hi]; simp [hz1]
  have h0 := hown.len wd
  refine wpList_plain hgd fun K hK => ?_
  by_cases hn : n = 0
  · have hl0 : l0 = l := by rw [List.eq_nil_of_length_eq_zero (show l0.length = 0 by omega), List.eq_nil_of_length_eq_zero (show l.length = 0 by omega)]
    subst hl0
    have hrun := run_copyN_none (P := P) w t sT o.type T (some ⟨g, 0, none⟩) sa n dc n sc st.ht hsz (by simp [hn])
    unfold Oper.wp
    simp [execOp, ho, resolve, invoke, builtin, hd, hs, hrun, Result.andThen]
    refine hK _ _ ?_
    have := h w hown ⟨rfl, rfl, rfl, Nat.le_refl _, fun _ _ _ => rfl⟩
    rw [hn] at this
    exact this
  · obtain ⟨blk, off, rfl, _, _⟩ := hr 0 (by omega)
    have hown' := hown
    rcases hown'.2 with ⟨h', _⟩ | ⟨g', cap', cur, h', hb, hg, hnc, hcm, hcs, htake⟩
    · simp at h'
    · simp only [Value.slice.injEq, Option.some.injEq, Addr.mk.injEq, and_true] at h'
      obtain ⟨rfl, rfl, rfl⟩ := h'
      have hlf : (l.flatMap f).length = l0.length * c := by rw [flat_len wd, hl, ← h0]
      have hfit : (l.flatMap f).length ≤ cur.size := by rw [hlf, hcs]; exact Nat.mul_le_mul_right _ hnc
      have hrun := run_copyN (P := P) w t sT o.type T g 0 _ dc ⟨blk, off, none⟩ _ sc cur T (l.flatMap f) l0.length st.ht hsz hg (Nat.min_self _) hlf (hr.cells wd) (by omega) (flat_one wd l)
      obtain ⟨F, hF⟩ : ∃ F, l.flatMap f = F := ⟨_, rfl⟩
      rw [hF] at hrun hfit hlf
      unfold Oper.wp
      simp [execOp, ho, resolve, invoke, builtin, hd, hs, hrun, Result.andThen]
      refine hK _ _ ?_
      refine h _ ⟨flat_len wd l, .inr ⟨g, dc, _, by rw [hl], hb, setRow_heap w g cur _ T _ hg, by omega, hcm, ?_, ?_⟩⟩ ⟨rfl, rfl, rfl, by simp, fun k _ hk => setRow_other w g k _ (fun e => hk (by simp [e]))⟩
      · simp only [List.size_toArray, List.length_append, List.length_drop, Array.length_toList]
        omega
      · simp only []
        rw [hF, show l.length * c = F.length by rw [hlf, hl]]
        simp
/-- append to a slice that is full: always a new row. -/
theorem run_append_fullN {P : Program} {t T : TypeId} {z : Value} {cb : Nat} (st : ElT P t T z c cb) (wd : Wide f c) (w : World) (ty : TypeId) (ao : Option Addr) (n : Nat) (l : List α) (hl : l.length = n) (hr : Reads f c w ao l) (hnone : ao = none → n = 0)
    (ad : Addr) (k : Nat) (news : List α) (hg : ∀ j u, (news.flatMap f)[j]? = some u → w.cell? (ad.add j) = some u) (hlen : n + news.length ≤ 1099511627776) (h1 : 0 < news.length) :
    ∃ v' w', (Builtin.append_ #[t, t] ty #[.slice ao n n, .slice (some ad) news.length k]).run P w = .ok v' w' ∧ Owns f c w' w.heap.size T v' (l ++ news) ∧ w.grownBy w' none := by
  cases ao with
  | none =>
    obtain rfl := hnone rfl
    obtain rfl : l = [] := List.eq_nil_of_length_eq_zero hl
    obtain ⟨v', w', hr, ho, hg', _⟩ := run_appendN st wd w ty w.heap.size (.slice none 0 0) [] (Owns.nil _ _ _) ad k news hg (by simpa using hlen) (Nat.le_refl _)
    exact ⟨v', w', hr, ho, hg'⟩
  | some b =>
    obtain ⟨i0, hi, hz0, hz1, hz2⟩ := info_parts st.hi
    have hmul : (n + news.length) * cb ≤ 140737488355328 := Nat.le_trans (Nat.mul_le_mul hlen st.hb) (by omega)
    have hcell : ∀ j u, (l.flatMap f)[j]? = some u → w.cell? (b.add j) = some u := by
      by_cases h0 : 0 < l.length
      · obtain ⟨blk, off, e, _, _⟩ := hr 0 h0
        cases e
        exact hr.cells wd
      · rw [List.eq_nil_of_length_eq_zero (show l.length = 0 by omega)]
        intro j u hu
        simp at hu
    obtain ⟨v', w', hrun, h2, h3⟩ := run_append_arg_grows (P := P) w t ty T i0 _ c cb st.ht hi hz0 hz1 hz2 st.hz wd.pos b n n (l.flatMap f) (by rw [flat_len wd, hl]) hcell ad news.length k (news.flatMap f)
      (flat_len wd news) hg (by omega) (by unfold maxLen; omega) hmul
    refine ⟨v', w', hrun, ?_, h3⟩
    unfold Owns
    rw [List.length_append, List.flatMap_append, hl]
    exact h2
theorem run_append_of_nil {P : Program} (w : World) (base : Nat) (t ty e : TypeId) (i : TypeInfo) (size : Nat) (ht : P.underlying t = some (.slice e)) (hi : P.info? e = some i)
    (v : Value) (n : Nat) (xs : List Value) (hown : w.ownsRow base e size v n xs) (k : Nat) :
    (Builtin.append_ #[t, t] ty #[v, .slice none 0 k]).run P w = .ok v w := by
  rcases hown.2 with ⟨rfl, rfl⟩ | ⟨b, cap, cur, rfl, hb, hg, hnc, hcm, hcs, htake⟩
  · simp [Builtin.append_, run_underlying ht, sizeOf, typeInfo, hi, Builtin.lenOf, Builtin.firstCells]
  · simp [Builtin.append_, run_underlying ht, sizeOf, typeInfo, hi, Builtin.lenOf, Builtin.firstCells, hnc, storeCells]
/-- append of a slice that reads as l, whatever its address. -/
theorem run_append_readsN {P : Program} {t T : TypeId} {z : Value} {cb : Nat} (st : ElT P t T z c cb) (wd : Wide f c) (w : World) (ty : TypeId) (B : Nat) (v : Value) (l0 : List α) (hown : Owns f c w B T v l0)
    (sa : Option Addr) (k : Nat) (l : List α) (hr : Reads f c w sa l) (hlen : l0.length + l.length ≤ 1099511627776) (hbase : B ≤ w.heap.size) :
    ∃ v' w', (Builtin.append_ #[t, t] ty #[v, .slice sa l.length k]).run P w = .ok v' w' ∧ Owns f c w' B T v' (l0 ++ l) ∧ w.grownBy w' v.ownBlock ∧ At w v v' := by
  by_cases h0 : l = []
  · subst h0
    cases sa with
    | none =>
      obtain ⟨i0, hi, _⟩ := info_parts st.hi
      exact ⟨v, w, run_append_of_nil w B t ty T i0 c st.ht hi v _ _ hown k, by simpa using hown, World.grownBy.refl w _, fun k hk => .inl hk⟩
    | some b => exact run_appendN st wd w ty B v l0 hown b k [] (by simp) hlen hbase
  · have hp : 0 < l.length := by cases l; exact absurd rfl h0; simp
    obtain ⟨blk, off, rfl, _, _⟩ := hr 0 hp
    exact run_appendN st wd w ty B v l0 hown ⟨blk, off, none⟩ k l (hr.cells wd) hlen hbase
theorem wpList_append_readsN {P : Program} {t T : TypeId} {z : Value} {cb : Nat} (st : ElT P t T z c cb) (wd : Wide f c) (w : World) {ops : Array Oper} {rest : List Oper} {o : Oper} {a : Act} {Q : Exit → Act → World → Prop} (hgd : o.guard = none) (s x : Operand)
    (ho : o.op = .call { callee := .builtin .append, args := #[s, x], argTypes := #[t, t] })
    (B : Nat) (v : Value) (l0 : List α) (hs : a.eval s = v) (hown : Owns f c w B T v l0) (sa : Option Addr) (k n : Nat) (l : List α) (hn : l.length = n) (hx : a.eval x = .slice sa n k)
    (hr : Reads f c w sa l) (hlen : l0.length + n ≤ 1099511627776) (hbase : B ≤ w.heap.size)
    (h : ∀ v' w', Owns f c w' B T v' (l0 ++ l) → w.grownBy w' v.ownBlock → At w v v' → wpList P ops Q rest (a.put o.dst v') w') : wpList P ops Q (o :: rest) a w := by
  subst hn
  refine wpList_plain hgd fun K hK => ?_
  obtain ⟨v', w', hrun, h2, h3, h4⟩ := run_append_readsN st wd w o.type B v l0 hown sa k l hr hlen hbase
  unfold Oper.wp execOp
  simp only [ho, resolve, invoke, builtin, Sem.run_bind, Sem.run_pure, Result.andThen_ok, List.map_toArray, List.map_cons, List.map_nil, hs, hx, hrun]
  exact hK _ _ (h v' w' h2 h3 h4)
end Go.Proofs.Ythhjnffbafmkpaa.RowN

/- Rows that lie in blocks of their own, between two block numbers; writes between two block numbers. Imports nothing of the dump. -/
namespace Go.Proofs.Ythhjnffbafmkpaa.Own
open Go.RowKit RowN
variable {α : Type} {f : α → List Value} {c : Nat}
/-- Nothing was changed below lo, nor from hi on. -/
structure Mid (lo hi : Nat) (w w' : World) : Prop where
  low : Below lo w w'
  heap : ∀ b, hi ≤ b → b < w.heap.size → w'.heap[b]? = w.heap[b]?
theorem Mid.of_grown {lo hi : Nat} {w w' : World} {row : Option Nat} (h : w.grownBy w' row) (h1 : ∀ k, row = some k → lo ≤ k ∧ k < hi) (hl : lo ≤ w.heap.size) : Mid lo hi w w' :=
  ⟨(Below.refl _ _).grown h hl (fun k hk => (h1 k hk).1), fun b hb hlt => h.block b hlt (fun e => by have := (h1 b e.symm).2; omega)⟩
theorem Mid.of_below {lo hi : Nat} {w w' : World} (h : Below w.heap.size w w') (hl : lo ≤ w.heap.size) : Mid lo hi w w' :=
  ⟨h.mono hl, fun b _ hlt => h.block b hlt⟩
theorem Mid.trans {lo hi : Nat} {w w' w'' : World} (h : Mid lo hi w w') (k : Mid lo hi w' w'') : Mid lo hi w w'' :=
  ⟨h.low.trans k.low, fun b hb hlt => (k.heap b hb (Nat.lt_of_lt_of_le hlt h.low.size)).trans (h.heap b hb hlt)⟩
theorem Mid.wide {lo hi lo' hi' : Nat} {w w' : World} (h : Mid lo hi w w') (h1 : lo' ≤ lo) (h2 : hi ≤ hi') : Mid lo' hi' w w' :=
  ⟨h.low.mono h1, fun b hb hlt => h.heap b (by omega) hlt⟩
/-- A cell outside. -/
theorem Mid.out {lo hi b : Nat} {w w' : World} (h : Mid lo hi w w') (hb : b < lo ∨ (hi ≤ b ∧ b < w.heap.size)) : ∀ o, w'.cell? ⟨b, o, none⟩ = w.cell? ⟨b, o, none⟩ := fun o => by
  rcases hb with hb | ⟨h1, h2⟩
  · exact h.low.cell (p := ⟨b, o, none⟩) hb
  · exact World.cell?_of_block (h.heap b h1 h2)

/-- The slice v owns the elements l, in blocks from lo up to hi. -/
structure Ow (f : α → List Value) (c : Nat) (T : Nat) (w : World) (lo hi : Nat) (v : Value) (l : List α) : Prop where
  own : Owns f c w lo T v l
  top : ∀ k, v.ownBlock = some k → k < hi
  lim : hi ≤ w.heap.size
variable {T lo hi : Nat} {w w' : World} {v : Value} {l : List α}
theorem ow_of (h : Owns f c w lo T v l) : Ow f c T w lo w.heap.size v l := ⟨h, h.lt, Nat.le_refl _⟩
theorem Ow.on (h : Ow f c T w lo hi v l) (hb : Below w.heap.size w w') : Ow f c T w' lo hi v l := ⟨h.own.on hb, h.top, Nat.le_trans h.lim hb.size⟩
theorem Ow.base {lo' : Nat} (h : Ow f c T w lo hi v l) (hb : lo' ≤ lo) : Ow f c T w lo' hi v l := ⟨h.own.base hb, h.top, h.lim⟩
theorem Ow.reads (wd : Wide f c) {a : Option Addr} {n cap : Nat} (h : Ow f c T w lo hi (.slice a n cap) l) : Reads f c w a l := reads_own wd h.own
/-- Writes elsewhere leave it alone. -/
theorem Ow.mid {lo' hi' : Nat} (h : Ow f c T w lo hi v l) (hm : Mid lo' hi' w w') (hd : hi ≤ lo' ∨ hi' ≤ lo) : Ow f c T w' lo hi v l := by
  refine ⟨⟨h.own.1, ?_⟩, h.top, Nat.le_trans h.lim hm.low.size⟩
  rcases h.own.2 with hn | ⟨g, cap, cur, rfl, hbg, hg, rest⟩
  · exact .inl hn
  · refine .inr ⟨g, cap, cur, rfl, hbg, ?_, rest⟩
    have h1 := h.top g rfl
    have h2 := h.lim
    rcases hd with hd | hd
    · exact (hm.low.block g (by omega)).trans hg
    · exact (hm.heap g (by omega) (by omega)).trans hg
theorem Ow.reads_mid (wd : Wide f c) {lo' hi' : Nat} {a : Option Addr} {n cap : Nat} (h : Ow f c T w lo hi (.slice a n cap) l) (hm : Mid lo' hi' w w') (hd : hi ≤ lo' ∨ hi' ≤ lo) : Reads f c w' a l := (h.mid hm hd).reads wd
theorem Ow.to_hi {hi' : Nat} (h : Ow f c T w lo hi v l) (e : hi = hi') : Ow f c T w lo hi' v l := e ▸ h
/-- A store into a box that lies outside. -/
theorem Ow.box {b o : Nat} (h : Ow f c T w lo hi v l) (hb : b < lo ∨ hi ≤ b) (x : Value) : Ow f c T (w.setCell ⟨b, o, none⟩ x) lo hi v l :=
  ⟨h.own.beside (fun e => by have h1 := h.own.low b e; have h2 := h.top b e; omega) x, h.top, by simpa using h.lim⟩
end Go.Proofs.Ythhjnffbafmkpaa.Own

/- Regions that draw their order and hold calls that make memory and write nothing that was there: walked once, in the order of the text (the library's theorem on quiet regions, at the class of the worlds that grew out of w). Imports nothing of the dump. -/
namespace Go.Proofs.Ythhjnffbafmkpaa.Grown
open Go.RowKit
/-- The worlds that grew out of w: new blocks alone. -/
def G (w : World) : Type := { W : World // Below w.heap.size w W }
def G.w {w : World} (X : G w) : World := X.1
theorem G.bel {w : World} (X : G w) : Below w.heap.size w X.w := X.2
theorem G.keep {w : World} {b o : Nat} {v : Value} (h : w.cell? ⟨b, o, none⟩ = some v) (hb : b < w.heap.size) : ∀ X : G w, X.w.cell? ⟨b, o, none⟩ = some v := fun X =>
  ((BelowKit.bcell X.bel).1 b o hb).trans h
instance {w : World} : Nonempty (G w) := ⟨⟨w, Below.refl _ _⟩⟩
variable {P : Program}
theorem wp_region_grown {id : Nat} {Q : Exit → Act → World → Prop} {a : Act} {w : World} {l : List Oper} (hm : P.follows .mixedOrders = true) (hB : Region.lexB .any l.toArray = true)
    (h : wpQuiet P l.toArray (fun w' => ∃ X : G w, w' = X.w) (fun a' => ∀ w', (∃ X : G w, w' = X.w) → Q .normal a' w') l a) : (Code.region id l.toArray true).wp P Q a w :=
  wp_region_quiet (C := fun w' => ∃ X : G w, w' = X.w) hm hB ⟨⟨_, below_drewN (Below.refl w.heap.size w) 1⟩, rfl⟩ (by simpa using h)
/-- A callee that makes memory alone, met in a world that grew out of w. -/
theorem grown_of {w : World} {X : G w} {f : FuncId} {args : Array Value} {v : Value} (h : Calls P f args X.w fun e w' => e = .returned v ∧ Below X.w.heap.size X.w w') :
    Calls P f args X.w fun e w'' => e = .returned v ∧ ∃ Y : G w, w'' = Y.w :=
  h.mono fun _ w' ⟨he, hb⟩ => ⟨he, ⟨w', BelowKit.bl_trans X.bel hb⟩, rfl⟩
/-- .. that leaves memory alone. -/
theorem grown_same {w : World} {X : G w} {f : FuncId} {args : Array Value} {v : Value} (h : Calls P f args X.w fun e w' => e = .returned v ∧ X.w = w') :
    Calls P f args X.w fun e w'' => e = .returned v ∧ ∃ Y : G w, w'' = Y.w :=
  h.mono fun _ _ ⟨he, hb⟩ => ⟨he, X, hb.symm⟩
end Go.Proofs.Ythhjnffbafmkpaa.Grown

/- Regions that draw their order: all operations but the last ones, which stand in one forced order, read or call what makes memory alone: walked once, in the order of the text; the last ones are met in whatever world grew out of w. The library's theorem on a tail (Derived/StillTail), at a class of worlds. Imports nothing of the dump. -/
namespace Go.Proofs.Ythhjnffbafmkpaa.GrownTail
open Go Go.RowKit
variable {P : Program} {ops : Array Oper} {md : Region.Mode} {C : World → Prop}

def wpAnyLQ (P : Program) (md : Region.Mode) (ops : Array Oper) (C : World → Prop) (n : Nat) (L : Array Bool → Act → Prop) : Nat → Array Bool → Act → Prop
  | 0, listed, a => L listed a
  | f + 1, listed, a =>
    Region.ready md ops listed ≠ [] ∧ ∀ i ∈ Region.ready md ops listed, i < n ∧ qOp P ops C i (wpAnyLQ P md ops C n L f (listed.setIfInBounds i true)) a

theorem wpAny_of_headQ {n g : Nat} {L : Array Bool → Act → Prop} {Q' : Exit → Act → World → Prop} (hL : ∀ listed a w, C w → L listed a → wpAny P md ops Q' g listed a w) :
    ∀ (f : Nat) (listed : Array Bool) (a : Act) (w : World), C w → wpAnyLQ P md ops C n L f listed a → wpAny P md ops Q' (f + g) listed a w
  | 0, listed, a, w, hw, h => by rw [Nat.zero_add]; exact hL _ _ _ hw h
  | f + 1, listed, a, w, hw, h => by
    rw [show f + 1 + g = (f + g) + 1 by omega]
    exact ⟨fun h0 => absurd h0 h.1, fun i hi => wpOp_of_qOp hw (fun a' w' hw' h' => wpAny_of_headQ hL f _ a' w' hw' h') (h.2 i hi).2⟩

theorem wpAnyLQ_first {n i : Nat} {oi : Oper} {v : Value} {L : Array Bool → Act → Prop} (hi : ops[i]? = some oi) (hsel : ∀ (j : Nat) (o : Oper) cs b, ops[j]? = some o → o.op ≠ .select cs b)
    (hs : Region.sinkB md ops n = true) (hc : Region.chainB md ops n = true) (hn : n < ops.size) (hin : i < n)
    (hdone : ∀ listed a, L listed a → ∀ j ∈ Region.ready md ops listed, n ≤ j) :
    ∀ (f : Nat) (listed : Array Bool) (a : Act), HeadInv md ops n listed →
      (∀ j oj, ops[j]? = some oj → j ≠ i → listed.getD j true = false → (∀ e ∈ oj.after, Region.binds md e = true → e.on ≠ i) → oi.apart ops oj = true) →
      i ∈ Region.ready md ops listed → YieldsIn P ops C oi v a →
      wpAnyLQ P md ops C n L f (listed.setIfInBounds i true) (a.put oi.dst v) → wpAnyLQ P md ops C n L (f + 1) listed a := by
  intro f
  induction f with
  | zero =>
    intro listed a inv _ hr hy H
    have hun := (mem_ready.1 hr).1
    refine ⟨fun h => (by rw [h] at hr; cases hr), fun j hj => ?_⟩
    have hjn : j < n := by
      rcases Nat.lt_or_ge j n with h | h
      · exact h
      · exact absurd hj (tail_waits hs hc hn inv _ i rfl hin hun j h)
    refine ⟨hjn, ?_⟩
    by_cases hji : j = i
    · subst hji; exact hy.qOp hi H
    · have := hdone _ _ H j (ready_mono hj hji)
      omega
  | succ f ih =>
    intro listed a inv hfree hr hy H
    have hun := (mem_ready.1 hr).1
    refine ⟨fun h => (by rw [h] at hr; cases hr), fun j hj => ?_⟩
    have hjn : j < n := by
      rcases Nat.lt_or_ge j n with h | h
      · exact h
      · exact absurd hj (tail_waits hs hc hn inv _ i rfl hin hun j h)
    refine ⟨hjn, ?_⟩
    by_cases hji : j = i
    · subst hji; exact hy.qOp hi H
    · have h1 := (H.2 j (ready_mono hj hji)).2
      obtain ⟨hjun, oj, hoj, hall⟩ := mem_ready.1 hj
      have hnot : ∀ e ∈ oj.after, Region.binds md e = true → e.on ≠ i := fun e he hb heq => by
        have h1 := hall e he hb
        rw [heq, getD_both hun] at h1
        cases h1
      have h2 := qOp_put hoj (hfree j oj hoj hji hjun hnot) (fun cs b => hsel i oi cs b hi) (fun cs b => hsel j oj cs b hoj) hy h1
      have hfree' : ∀ k ok, ops[k]? = some ok → k ≠ i → (listed.setIfInBounds j true).getD k true = false →
          (∀ e ∈ ok.after, Region.binds md e = true → e.on ≠ i) → oi.apart ops ok = true := fun k ok hk hki hun hno => by
        refine hfree k ok hk hki ?_ hno
        by_cases hjk : j = k
        · subst hjk; exact hjun
        · rw [getD_set_ne true hjk] at hun; exact hun
      refine qOp_mono (fun a' h3 => ih (listed.setIfInBounds j true) a' (inv.set hj hjn) hfree' (ready_mono hr (Ne.symm hji)) h3.1 ?_) h2
      rw [Array.setIfInBounds_comm _ _ hji]
      exact h3.2

theorem wpAnyLQ_lex {n g : Nat} {Lq : Act → Prop} (hsel : Region.noSelect ops = true) (hs : Region.sinkB md ops n = true) (hc : Region.chainB md ops n = true) (hn : n < ops.size) :
    ∀ (l : List Oper) (k : Nat) (listed : Array Bool) (a : Act), (∀ j, j < l.length → l[j]? = ops[k + j]?) → k + l.length = n → HeadInv md ops n listed →
    Region.lexHead md ops g l.length k listed = true → wpQuiet P ops C Lq l a →
    wpAnyLQ P md ops C n (fun listed' a' => Region.seqB md ops g n listed' = true ∧ Lq a') l.length listed a
  | [], k, listed, a, _, hk, _, hB, h => by
    have : k = n := by simpa using hk
    subst this
    exact ⟨by simpa [Region.lexHead] using hB, h⟩
  | o :: l, k, listed, a, hl, hk, inv, hB, h => by
    have h0 : ops[k]? = some o := by simpa using (hl 0 (by simp)).symm
    simp only [List.length_cons, Region.lexHead, Bool.and_eq_true] at hB
    obtain ⟨⟨hr, hf⟩, hB'⟩ := hB
    have hkn : k < n := by simp only [List.length_cons] at hk; omega
    have hr' : k ∈ Region.ready md ops listed := by simpa using hr
    have hst : qOp P ops C k (wpQuiet P ops C Lq l) a := by unfold qOp; simp only [h0]; exact h
    obtain ⟨v, hy, hK⟩ := yieldsIn_of_qOp h0 hst
    exact wpAnyLQ_first h0 (Region.noSelect_spec hsel) hs hc hn hkn (fun listed' a' hL => seqB_ready hL.1) l.length listed a inv (Region.free_spec h0 hf) hr' hy
      (wpAnyLQ_lex hsel hs hc hn l (k + 1) _ _ (fun j hj => by have := hl (j + 1) (by simp; omega); simpa [Nat.add_assoc, Nat.add_comm 1 j] using this) (by simp only [List.length_cons] at hk; omega) (inv.set hr' hkn) hB' hK)

/-- The first n operations in the text's order, each quiet in the class; the others, in the text's order, in every world of the class. -/
theorem wp_region_quiet_tail {id : Nat} {Q : Exit → Act → World → Prop} {a : Act} {w : World} {l : List Oper} (n : Nat) (hm : P.follows .mixedOrders = true) (hB : Region.lexTailB .any l.toArray n = true) (hC : C { w with drawn := w.drawn + 1 })
    (h : wpQuiet P l.toArray C (fun a' => ∀ w', C w' → wpList P l.toArray Q (l.drop n) a' w') (l.take n) a) : (Code.region id l.toArray true).wp P Q a w := by
  simp only [Region.lexTailB, Bool.and_eq_true, decide_eq_true_eq] at hB
  obtain ⟨⟨⟨⟨hsel, hn⟩, hs⟩, hc⟩, hlex⟩ := hB
  have hn' : n < l.length := by simpa using hn
  have htl : (l.take n).length = n := by simp; omega
  have hdl : (l.drop n).length = l.toArray.size - n := by simp
  have inv0 : HeadInv .any l.toArray n (Array.replicate l.toArray.size false) :=
    ⟨by simp, fun j oj _ hl => (by rw [getD_replicate_false] at hl; cases hl), fun t _ ht => getD_in (by simpa using ht) (getD_replicate_false _ _)⟩
  have H := wpAnyLQ_lex (md := .any) (g := l.toArray.size - n) hsel hs hc hn (l.take n) 0 _ a (fun j hj => by
    have hj' : j < n := by rw [htl] at hj; exact hj
    simp [hj']) (by simpa using htl) inv0 (by rw [htl]; exact hlex) h
  refine wp_region_any hm ?_
  have := wpAny_of_headQ (Q' := Q) (g := l.toArray.size - n) (fun listed a' w' hw' hL => by
    have := wpAny_of_seq (md := .any) (Q' := Q) (l.drop n) n listed a' w' (fun j => by simp [List.getElem?_drop]) (by rw [hdl]; exact hL.1) (hL.2 w' hw')
    rwa [hdl] at this) _ _ _ _ hC H
  rw [htl, show n + (l.toArray.size - n) = l.toArray.size by omega] at this
  exact this
/-- .. at the worlds that grew out of w. -/
theorem wp_region_grown_tail {id : Nat} {Q : Exit → Act → World → Prop} {a : Act} {w : World} {l : List Oper} (n : Nat) (hm : P.follows .mixedOrders = true) (hB : Region.lexTailB .any l.toArray n = true)
    (h : wpQuiet P l.toArray (fun w' => ∃ X : Grown.G w, w' = X.w) (fun a' => ∀ w', (∃ X : Grown.G w, w' = X.w) → wpList P l.toArray Q (l.drop n) a' w') (l.take n) a) : (Code.region id l.toArray true).wp P Q a w :=
  wp_region_quiet_tail (C := fun w' => ∃ X : Grown.G w, w' = X.w) n hm hB ⟨⟨_, below_drewN (Below.refl w.heap.size w) 1⟩, rfl⟩ h
end Go.Proofs.Ythhjnffbafmkpaa.GrownTail

/- Regions that draw their order, whose calls make memory: walked once, in the order of the text. What an operation yields may depend on the world in which it comes up (the address of a new block): it is spoken of by a property that later growth keeps. One store into new memory may close the region. Imports nothing of the dump. -/
namespace Go.Proofs.Ythhjnffbafmkpaa.Fresh
open Go Go.RowKit

/-- A walk stops here. -/
structure Pause (p : Prop) : Prop where
  out : p
theorem pause {p : Prop} (h : Pause p) : p := h.out

inductive Kd where
  | quiet
  | grow
  | write
  deriving DecidableEq

/-- Operations that hand a value on, or stop: no callee is entered. -/
def plain : Op → Bool
  | .move _ | .assign _ | .pick .. | .load .. | .binOp .. | .unOp .. | .convert .. | .slice .. | .fieldAddr .. | .field .. | .indexAddr .. | .index .. | .extract .. | .build .. => true
  | _ => false
theorem run_value {P : Program} {s : Sem Value} {w w' : World} {n : Next} (h : (do pure (.value (← s)) : Sem Next).run P w = .ok n w') : ∃ u, n = .value u := by
  simp only [Sem.run_bind] at h
  cases hr : s.run P w with
  | ok u w1 => rw [hr] at h; simp only [Result.andThen_ok, Sem.run_pure] at h; cases h; exact ⟨u, rfl⟩
  | halt x w1 => rw [hr] at h; cases h
theorem plain_run {P : Program} {ρ : Operand → Value} {o : Oper} {w w' : World} {n : Next} (hp : plain o.op = true) (h : (execOp ρ o).run P w = .ok n w') : ∃ u, n = .value u := by
  unfold execOp at h
  cases ho : o.op <;> rw [ho] at h hp <;> simp only [plain, Bool.false_eq_true] at hp
  all_goals first
    | exact run_value h
    | (cases h; exact ⟨_, rfl⟩)
    | skip
  case pick c a b =>
    simp only [Sem.run_bind] at h
    cases hr : (asBool (ρ c)).run P w with
    | ok u w1 => rw [hr] at h; simp only [Result.andThen_ok, Sem.run_pure] at h; cases h; exact ⟨_, rfl⟩
    | halt x w1 => rw [hr] at h; cases h

section
variable {P : Program} {ops : Array Oper} {md : Region.Mode} {C : World → Prop} {G : World → World → Prop} {Ψ : Nat → Value → Nat → Nat → World → Prop} {pu : Nat → Value → Prop} {kd : Nat → Kd}

def slotOf (ops : Array Oper) (a : Act) (j : Nat) : Value :=
  match (ops[j]?).bind (·.dst) with
  | some d => a.eval (.tmp d)
  | none => undef
/-- What the operations for which this one waits have left. -/
def Deps (ops : Array Oper) (md : Region.Mode) (Ψ : Nat → Value → Nat → Nat → World → Prop) (kd : Nat → Kd) (a : Act) (o : Oper) (w : World) : Prop :=
  ∀ e ∈ o.after, Region.binds md e = true → kd e.on = .grow → ∃ s t, Ψ e.on (slotOf ops a e.on) s t w
def Grows (P : Program) (G : World → World → Prop) (R : Value → World → Prop) (w : World) : Result Next → Prop
  | .ok (.value v) w' => G w w' ∧ R v w'
  | .ok .skip w' => G w w' ∧ R undef w'
  | .ok (.enter f args) w' => Calls P f args w' fun e w'' => ∃ v, e = .returned v ∧ G w w'' ∧ R v w''
  | _ => False
def Writes (C : World → Prop) : Result Next → Prop
  | .ok .skip w' => C w'
  | _ => False
def Up (P : Program) (C : World → Prop) (G : World → World → Prop) (Ψ : Nat → Value → Nat → Nat → World → Prop) (pu : Nat → Value → Prop) (kd : Nat → Kd) (j : Nat) (w : World) (r : Result Next) : Prop :=
  match kd j with
  | .quiet => False
  | .grow => Grows P G (fun v w' => pu j v ∧ Ψ j v w.heap.size w'.heap.size w') w r
  | .write => Writes C r ∧ pu j undef
def Ob (P : Program) (ops : Array Oper) (md : Region.Mode) (C : World → Prop) (G : World → World → Prop) (Ψ : Nat → Value → Nat → Nat → World → Prop) (pu : Nat → Value → Prop) (kd : Nat → Kd) (j : Nat) (o : Oper) (a : Act) : Prop :=
  Region.wanted o (yielded ops a.tmps) = true ∧ (∀ w, C w → Deps ops md Ψ kd a o w → Up P C G Ψ pu kd j w ((execOp a.eval o).run P w)) ∧ ∃ v, pu j v
def gOp (P : Program) (ops : Array Oper) (md : Region.Mode) (C : World → Prop) (G : World → World → Prop) (Ψ : Nat → Value → Nat → Nat → World → Prop) (pu : Nat → Value → Prop) (kd : Nat → Kd) (j : Nat) (K : Act → Prop) (a : Act) : Prop :=
  match ops[j]? with
  | none => K a
  | some o =>
    if kd j = .quiet then (if Region.wanted o (yielded ops a.tmps) then o.quiet P a C K else K (a.put o.dst undef))
    else Ob P ops md C G Ψ pu kd j o a ∧ ∀ v, pu j v → K (a.put o.dst v)


theorem gOp_mono {j : Nat} {K K' : Act → Prop} {a : Act} (h : ∀ a, K a → K' a) (hh : gOp P ops md C G Ψ pu kd j K a) : gOp P ops md C G Ψ pu kd j K' a := by
  unfold gOp at *
  split
  · exact h _ (by simpa [*] using hh)
  · rename_i o ho
    simp only [ho] at hh
    split
    · rename_i hk
      rw [if_pos hk] at hh
      split
      · rename_i hw; rw [if_pos hw] at hh; exact Oper.quiet_mono h hh
      · rename_i hw; rw [if_neg hw] at hh; exact h _ hh
    · rename_i hk
      rw [if_neg hk] at hh
      exact ⟨hh.1, fun v hv => h _ (hh.2 v hv)⟩

def wpAnyG (P : Program) (ops : Array Oper) (md : Region.Mode) (C : World → Prop) (G : World → World → Prop) (Ψ : Nat → Value → Nat → Nat → World → Prop) (pu : Nat → Value → Prop) (kd : Nat → Kd) (Q : Act → Prop) : Nat → Array Bool → Act → Prop
  | 0, listed, a => Region.ready md ops listed = [] ∧ Q a
  | fuel + 1, listed, a =>
    (Region.ready md ops listed = [] → Q a) ∧
    ∀ i ∈ Region.ready md ops listed, gOp P ops md C G Ψ pu kd i (wpAnyG P ops md C G Ψ pu kd Q fuel (listed.setIfInBounds i true)) a

/-- Operation i may be carried out in the state a, and may yield just the values S. -/
def Pend (P : Program) (ops : Array Oper) (md : Region.Mode) (C : World → Prop) (G : World → World → Prop) (Ψ : Nat → Value → Nat → Nat → World → Prop) (pu : Nat → Value → Prop) (kd : Nat → Kd) (i : Nat) (o : Oper) (S : Value → Prop) (a : Act) : Prop :=
  (kd i = .quiet ∧ ∃ v, YieldsIn P ops C o v a ∧ S = (· = v)) ∨ (kd i ≠ .quiet ∧ Ob P ops md C G Ψ pu kd i o a ∧ S = pu i)

theorem Pend.gOp {i : Nat} {o : Oper} {S : Value → Prop} {a : Act} (hi : ops[i]? = some o) (h : Pend P ops md C G Ψ pu kd i o S a) {K : Act → Prop} (hK : ∀ v, S v → K (a.put o.dst v)) : gOp P ops md C G Ψ pu kd i K a := by
  unfold Fresh.gOp
  simp only [hi]
  rcases h with ⟨hk, v, hy, rfl⟩ | ⟨hk, hob, rfl⟩
  · rw [if_pos hk]
    rcases hy with ⟨hw, hv⟩ | ⟨hw, rfl⟩
    · rw [if_pos hw]; exact ⟨v, hv, hK v rfl⟩
    · rw [if_neg (by rw [hw]; exact Bool.false_ne_true)]; exact hK _ rfl
  · rw [if_neg hk]
    exact ⟨hob, hK⟩
theorem pend_of_gOp {i : Nat} {o : Oper} {a : Act} {K : Act → Prop} (hi : ops[i]? = some o) (h : gOp P ops md C G Ψ pu kd i K a) : ∃ S, Pend P ops md C G Ψ pu kd i o S a ∧ (∃ v, S v) ∧ ∀ v, S v → K (a.put o.dst v) := by
  unfold gOp at h
  simp only [hi] at h
  by_cases hk : kd i = .quiet
  · rw [if_pos hk] at h
    by_cases hw : Region.wanted o (yielded ops a.tmps) = true
    · rw [if_pos hw] at h
      obtain ⟨v, h1, h2⟩ := h
      exact ⟨(· = v), .inl ⟨hk, v, .inl ⟨hw, h1⟩, rfl⟩, ⟨v, rfl⟩, fun u hu => by subst hu; exact h2⟩
    · rw [if_neg hw] at h
      exact ⟨(· = undef), .inl ⟨hk, undef, .inr ⟨by simpa using hw, rfl⟩, rfl⟩, ⟨undef, rfl⟩, fun u hu => by subst hu; exact h⟩
  · rw [if_neg hk] at h
    exact ⟨pu i, .inr ⟨hk, h.1, rfl⟩, h.1.2.2, h.2⟩

/-- The Bool: no two operations write one slot; edges lead backward; those that are quiet enter no callee. -/
def okB (md : Region.Mode) (ops : Array Oper) (kd : Nat → Kd) : Bool :=
  (List.range ops.size).all fun i => (List.range ops.size).all (fun j => i == j || match (ops[i]?).bind (·.dst), (ops[j]?).bind (·.dst) with
    | some d, some e => d != e
    | _, _ => true) &&
  match ops[i]? with
  | some o => (kd i != .quiet || plain o.op) && (o.after.all fun e => !Region.binds md e || decide (e.on < i))
  | none => true
structure OkR (md : Region.Mode) (ops : Array Oper) (kd : Nat → Kd) : Prop where
  dst : ∀ (i j : Nat) (oi oj : Oper) (d : Tmp), ops[i]? = some oi → ops[j]? = some oj → i ≠ j → oi.dst = some d → oj.dst ≠ some d
  plain : ∀ (i : Nat) (o : Oper), ops[i]? = some o → kd i = .quiet → plain o.op = true
  back : ∀ (i : Nat) (o : Oper), ops[i]? = some o → ∀ e ∈ o.after, Region.binds md e = true → e.on < i
theorem okB_spec {md : Region.Mode} {ops : Array Oper} {kd : Nat → Kd} (h : okB md ops kd = true) : OkR md ops kd := by
  unfold okB at h
  have key : ∀ (i : Nat) (o : Oper), ops[i]? = some o → i < ops.size := fun i o hi => (Array.getElem?_eq_some_iff.1 hi).1
  refine ⟨fun i j oi oj d hi hj hne hd he => ?_, fun i o hi hk => ?_, fun i o hi e he hb => ?_⟩
  · have h1 := List.all_eq_true.1 h i (List.mem_range.2 (key _ _ hi))
    rw [Bool.and_eq_true] at h1
    have h2 := List.all_eq_true.1 h1.1 j (List.mem_range.2 (key _ _ hj))
    simp [hi, hj, hd, he, hne] at h2
  · have h1 := List.all_eq_true.1 h i (List.mem_range.2 (key _ _ hi))
    rw [Bool.and_eq_true] at h1
    have h2 := h1.2
    simp only [hi, Bool.and_eq_true] at h2
    have h3 := h2.1
    simpa [hk] using h3
  · have h1 := List.all_eq_true.1 h i (List.mem_range.2 (key _ _ hi))
    rw [Bool.and_eq_true] at h1
    have h2 := h1.2
    simp only [hi, Bool.and_eq_true] at h2
    have h3 := Array.all_eq_true'.1 h2.2 e he
    simpa [hb] using h3

theorem slotOf_put (hok : OkR md ops kd) {i j : Nat} {oi : Oper} (hi : ops[i]? = some oi) (hne : i ≠ j) (a : Act) (v : Value) : slotOf ops (a.put oi.dst v) j = slotOf ops a j := by
  unfold slotOf
  cases hd : (ops[j]?).bind (·.dst) with
  | none => rfl
  | some d =>
    obtain ⟨oj, hj, hjd⟩ := Option.bind_eq_some_iff.1 hd
    exact Act.eval_put fun d' hd' e => hok.dst i j oi oj d' hi hj hne hd' (by cases e; exact hjd)
theorem deps_put (hok : OkR md ops kd) {i : Nat} {oi o : Oper} (hi : ops[i]? = some oi) (hno : ∀ e ∈ o.after, Region.binds md e = true → e.on ≠ i) (a : Act) (v : Value) (w : World) :
    Deps ops md Ψ kd (a.put oi.dst v) o w ↔ Deps ops md Ψ kd a o w := by
  unfold Deps
  constructor
  · intro h e he hb hk
    have := h e he hb hk
    rwa [slotOf_put hok hi (Ne.symm (hno e he hb))] at this
  · intro h e he hb hk
    rw [slotOf_put hok hi (Ne.symm (hno e he hb))]
    exact h e he hb hk

/-- One operation oj, apart from oi: it may come first. -/
theorem gOp_put (hok : OkR md ops kd) (hC : ∃ w, C w) {i j : Nat} {oi oj : Oper} {S : Value → Prop} (hi : ops[i]? = some oi) (hj : ops[j]? = some oj) (hap : oi.apart ops oj = true)
    (hsi : ∀ cs b, oi.op ≠ .select cs b) (hsj : ∀ cs b, oj.op ≠ .select cs b) (hnj : ∀ e ∈ oj.after, Region.binds md e = true → e.on ≠ i) (hni : ∀ e ∈ oi.after, Region.binds md e = true → e.on ≠ j)
    {K : Act → Prop} {a : Act} (hy : Pend P ops md C G Ψ pu kd i oi S a) (hS : ∃ v, S v) (h : ∀ v, S v → gOp P ops md C G Ψ pu kd j K (a.put oi.dst v)) :
    gOp P ops md C G Ψ pu kd j (fun a' => Pend P ops md C G Ψ pu kd i oi S a' ∧ ∀ v, S v → K (a'.put oi.dst v)) a := by
  obtain ⟨h1, h2, h3⟩ := Oper.apart_spec hap
  have keep : ∀ (a : Act), Pend P ops md C G Ψ pu kd i oi S a → ∀ u, Pend P ops md C G Ψ pu kd i oi S (a.put oj.dst u) := fun a hy u => by
    rcases hy with ⟨hk, v, hy1, rfl⟩ | ⟨hk, ⟨hw, hob, hv⟩, rfl⟩
    · exact .inl ⟨hk, v, hy1.of_same (execOp_put oi hsi a oj.dst u h3) (wanted_put oi a oj.dst u h3), rfl⟩
    · refine .inr ⟨hk, ⟨by rw [wanted_put oi a oj.dst u h3]; exact hw, fun w hc hd => ?_, hv⟩, rfl⟩
      rw [execOp_put oi hsi a oj.dst u h3]
      exact hob w hc ((deps_put hok hj hni a u w).1 hd)
  obtain ⟨v0, hv0⟩ := hS
  by_cases hk : kd j = .quiet
  · have hall : ∀ v, S v → if Region.wanted oj (yielded ops a.tmps) then oj.quiet P (a.put oi.dst v) C K else K ((a.put oi.dst v).put oj.dst undef) := fun v hv => by
      have := h v hv
      unfold gOp at this
      simp only [hj, if_pos hk] at this
      rwa [wanted_put oj a oi.dst v h1] at this
    unfold gOp
    simp only [hj, if_pos hk]
    by_cases hw : Region.wanted oj (yielded ops a.tmps) = true
    · rw [if_pos hw]
      obtain ⟨w1, hw1⟩ := hC
      have q0 := hall v0 hv0
      rw [if_pos hw] at q0
      obtain ⟨u, hu, _⟩ := q0
      have hu' : ∀ w, C w → oj.quietAt P a C w u := fun w hc => by
        have := hu w hc
        unfold Oper.quietAt at *
        rwa [execOp_put oj hsj a oi.dst v0 h1] at this
      refine ⟨u, hu', keep a hy u, fun v hv => ?_⟩
      have q1 := hall v hv
      rw [if_pos hw] at q1
      obtain ⟨u2, hu2, hk2⟩ := q1
      have e1 := hu' w1 hw1
      have e2 := hu2 w1 hw1
      unfold Oper.quietAt at e1 e2
      rw [execOp_put oj hsj a oi.dst v h1] at e2
      have hpl := hok.plain j oj hj hk
      have : u2 = u := by
        cases hr : (execOp a.eval oj).run P w1 with
        | halt x w' => rw [hr] at e1; exact absurd e1 (by simp [Oper.quietUpon])
        | ok n w' =>
          obtain ⟨x, rfl⟩ := plain_run hpl hr
          rw [hr] at e1 e2
          simp only [Oper.quietUpon] at e1 e2
          rw [← e1.2, ← e2.2]
      subst this
      rw [← Act.put_comm a v u2 h2]
      exact hk2
    · rw [if_neg hw]
      refine ⟨keep a hy undef, fun v hv => ?_⟩
      have := hall v hv
      rw [if_neg hw] at this
      rw [← Act.put_comm a v undef h2]
      exact this
  · have hall : ∀ v, S v → Ob P ops md C G Ψ pu kd j oj (a.put oi.dst v) ∧ ∀ u, pu j u → K ((a.put oi.dst v).put oj.dst u) := fun v hv => by
      have := h v hv
      unfold gOp at this
      simpa only [hj, if_neg hk] using this
    unfold gOp
    simp only [hj, if_neg hk]
    obtain ⟨⟨hw, hob, hex⟩, _⟩ := hall v0 hv0
    refine ⟨⟨by rwa [wanted_put oj a oi.dst v0 h1] at hw, fun w hc hd => ?_, hex⟩, fun u hu => ⟨keep a hy u, fun v hv => ?_⟩⟩
    · have := hob w hc ((deps_put hok hi hnj a v0 w).2 hd)
      rwa [execOp_put oj hsj a oi.dst v0 h1] at this
    · rw [← Act.put_comm a v u h2]
      exact (hall v hv).2 u hu

theorem wpAnyG_first (hok : OkR md ops kd) (hC : ∃ w, C w) {Q : Act → Prop} {i : Nat} {oi : Oper} {S : Value → Prop} (hi : ops[i]? = some oi) (hsel : ∀ (j : Nat) (o : Oper) cs b, ops[j]? = some o → o.op ≠ .select cs b) (hS : ∃ v, S v) :
    ∀ (fuel : Nat) (listed : Array Bool) (a : Act),
      (∀ j oj, ops[j]? = some oj → j ≠ i → listed.getD j true = false → (∀ e ∈ oj.after, Region.binds md e = true → e.on ≠ i) → oi.apart ops oj = true) →
      i ∈ Region.ready md ops listed → Pend P ops md C G Ψ pu kd i oi S a →
      (∀ v, S v → wpAnyG P ops md C G Ψ pu kd Q fuel (listed.setIfInBounds i true) (a.put oi.dst v)) → wpAnyG P ops md C G Ψ pu kd Q (fuel + 1) listed a := by
  intro fuel
  induction fuel with
  | zero =>
    intro listed a _ hr hy H
    refine ⟨fun h => (by rw [h] at hr; cases hr), fun j hj => ?_⟩
    by_cases hji : j = i
    · subst hji; exact hy.gOp hi H
    · have := ready_mono hj hji
      obtain ⟨v, hv⟩ := hS
      rw [(H v hv).1] at this
      cases this
  | succ fuel ih =>
    intro listed a hfree hr hy H
    refine ⟨fun h => (by rw [h] at hr; cases hr), fun j hj => ?_⟩
    by_cases hji : j = i
    · subst hji; exact hy.gOp hi H
    · obtain ⟨hjun, oj, hoj, hall⟩ := mem_ready.1 hj
      obtain ⟨hiun, oi', hoi', halli⟩ := mem_ready.1 hr
      have : oi' = oi := Option.some.inj (hoi'.symm.trans hi)
      subst this
      have hnot : ∀ e ∈ oj.after, Region.binds md e = true → e.on ≠ i := fun e he hb heq => by
        have h1 := hall e he hb
        rw [heq] at h1
        rw [getD_both hiun] at h1
        cases h1
      have hnoti : ∀ e ∈ oi'.after, Region.binds md e = true → e.on ≠ j := fun e he hb heq => by
        have h1 := halli e he hb
        rw [heq] at h1
        rw [getD_both hjun] at h1
        cases h1
      have h2 := gOp_put hok hC hi hoj (hfree j oj hoj hji hjun hnot) (fun cs b => hsel i oi' cs b hi) (fun cs b => hsel j oj cs b hoj) hnot hnoti hy hS fun v hv => (H v hv).2 j (ready_mono hj hji)
      have hfree' : ∀ k ok, ops[k]? = some ok → k ≠ i → (listed.setIfInBounds j true).getD k true = false →
          (∀ e ∈ ok.after, Region.binds md e = true → e.on ≠ i) → oi'.apart ops ok = true := fun k ok hk hki hun hno => by
        refine hfree k ok hk hki ?_ hno
        by_cases hjk : j = k
        · subst hjk; exact hjun
        · rw [getD_set_ne true hjk] at hun; exact hun
      refine gOp_mono (fun a' h3 => ih (listed.setIfInBounds j true) a' hfree' (ready_mono hr (Ne.symm hji)) h3.1 fun v hv => ?_) h2
      rw [Array.setIfInBounds_comm _ _ hji]
      exact h3.2 v hv

/-- The lexical walk. -/
def wpG (P : Program) (ops : Array Oper) (md : Region.Mode) (C : World → Prop) (G : World → World → Prop) (Ψ : Nat → Value → Nat → Nat → World → Prop) (pu : Nat → Value → Prop) (kd : Nat → Kd) (Q : Act → Prop) : Nat → List Oper → Act → Prop
  | _, [], a => Q a
  | k, o :: rest, a =>
    if kd k = .quiet then (if Region.wanted o (yielded ops a.tmps) then o.quiet P a C (wpG P ops md C G Ψ pu kd Q (k + 1) rest) else wpG P ops md C G Ψ pu kd Q (k + 1) rest (a.put o.dst undef))
    else Ob P ops md C G Ψ pu kd k o a ∧ ∀ v, pu k v → wpG P ops md C G Ψ pu kd Q (k + 1) rest (a.put o.dst v)

theorem wpAnyG_lex (hok : OkR md ops kd) (hC : ∃ w, C w) {Q : Act → Prop} (hs : Region.noSelect ops = true) : ∀ (l : List Oper) (k : Nat) (listed : Array Bool) (a : Act), (∀ j, l[j]? = ops[k + j]?) →
    Region.lexFrom md ops l.length k listed = true → wpG P ops md C G Ψ pu kd Q k l a → wpAnyG P ops md C G Ψ pu kd Q l.length listed a
  | [], _, _, _, _, hB, h => ⟨by simpa [Region.lexFrom] using hB, h⟩
  | o :: l, k, listed, a, hl, hB, h => by
    have h0 : ops[k]? = some o := by simpa using (hl 0).symm
    simp only [List.length_cons, Region.lexFrom, Bool.and_eq_true] at hB
    obtain ⟨⟨hr, hf⟩, hB'⟩ := hB
    have hst : gOp P ops md C G Ψ pu kd k (wpG P ops md C G Ψ pu kd Q (k + 1) l) a := by unfold gOp; simp only [h0]; exact h
    obtain ⟨S, hy, hS, hK⟩ := pend_of_gOp h0 hst
    exact wpAnyG_first hok hC h0 (Region.noSelect_spec hs) hS l.length listed a (Region.free_spec h0 hf) (by simpa using hr) hy fun v hv =>
      wpAnyG_lex hok hC hs l (k + 1) _ _ (fun j => by have := hl (j + 1); simpa [Nat.add_assoc, Nat.add_comm 1 j] using this) hB' (hK v hv)

/-! ### The worlds -/
/-- The Bool: what the store N waits for (L), and what the others do not touch; n: how many slots there are. -/
def ancOf (md : Region.Mode) (ops : Array Oper) (N : Nat) : List Nat := (List.range N).reverse.foldl (fun L j => if (N :: L).any (fun i => Region.waitsFor md ops i j) then j :: L else L) []
def tailB (md : Region.Mode) (ops : Array Oper) (kd : Nat → Kd) (n : Nat) (N : Nat) (L : List Nat) : Bool :=
  (List.range ops.size).all (fun j => match ops[j]? with
    | none => true
    | some o => match kd j with
      | .grow => (match o.dst with | some d => decide (d < n) | none => false) && (decide (ops.size ≤ N) || L.contains j)
      | .write => j == N && o.dst == none
      | .quiet => decide (ops.size ≤ N) || L.contains j || (match ops[N]?, o.dst with | some oN, some d => !(oN.looksAt ops).contains d | _, _ => true)) &&
  (L.all fun j => (N :: L).any fun i => decide (j < i) && Region.waitsFor md ops i j)
structure TailR (md : Region.Mode) (ops : Array Oper) (kd : Nat → Kd) (n : Nat) (N : Nat) (L : List Nat) : Prop where
  grow : ∀ (j : Nat) (o : Oper), ops[j]? = some o → kd j = .grow → (∃ d, o.dst = some d ∧ d < n) ∧ (N < ops.size → j ∈ L)
  write : ∀ (j : Nat) (o : Oper), ops[j]? = some o → kd j = .write → j = N ∧ o.dst = none
  quiet : ∀ (j : Nat) (o : Oper), ops[j]? = some o → kd j = .quiet → N < ops.size → j ∈ L ∨ ∀ oN, ops[N]? = some oN → ∀ d, o.dst = some d → d ∉ oN.looksAt ops
  anc : ∀ j ∈ L, ∃ i, (i = N ∨ i ∈ L) ∧ j < i ∧ Region.waitsFor md ops i j = true
theorem tailB_spec {md : Region.Mode} {ops : Array Oper} {kd : Nat → Kd} {n N : Nat} {L : List Nat} (h : tailB md ops kd n N L = true) : TailR md ops kd n N L := by
  unfold tailB at h
  rw [Bool.and_eq_true] at h
  have key : ∀ (i : Nat) (o : Oper), ops[i]? = some o → i < ops.size := fun i o hi => (Array.getElem?_eq_some_iff.1 hi).1
  refine ⟨fun j o hj hk => ?_, fun j o hj hk => ?_, fun j o hj hk hN => ?_, fun j hj => ?_⟩
  · have h1 := List.all_eq_true.1 h.1 j (List.mem_range.2 (key _ _ hj))
    simp only [hj, hk, Bool.and_eq_true, Bool.or_eq_true, decide_eq_true_eq, List.contains_iff_mem] at h1
    refine ⟨?_, fun hN => h1.2.resolve_left (by omega)⟩
    cases hd : o.dst with
    | none => rw [hd] at h1; simp at h1
    | some d => rw [hd] at h1; exact ⟨d, rfl, by simpa using h1.1⟩
  · have h1 := List.all_eq_true.1 h.1 j (List.mem_range.2 (key _ _ hj))
    simp only [hj, hk, Bool.and_eq_true, beq_iff_eq] at h1
    exact h1
  · have h1 := List.all_eq_true.1 h.1 j (List.mem_range.2 (key _ _ hj))
    simp only [hj, hk, Bool.or_eq_true, decide_eq_true_eq, List.contains_iff_mem] at h1
    rcases h1 with (h1 | h1) | h1
    · omega
    · exact .inl h1
    · refine .inr fun oN hoN d hd => ?_
      rw [hoN, hd] at h1
      simpa using h1
  · have h1 := List.all_eq_true.1 h.2 j hj
    obtain ⟨i, hi, hh⟩ := List.any_eq_true.1 h1
    simp only [Bool.and_eq_true, decide_eq_true_eq] at hh
    exact ⟨i, by simpa using hi, hh.1, hh.2⟩

def Closed (md : Region.Mode) (ops : Array Oper) (listed : Array Bool) : Prop :=
  ∀ (j : Nat) (oj : Oper), ops[j]? = some oj → listed.getD j false = true → ∀ e ∈ oj.after, Region.binds md e = true → listed.getD e.on false = true
theorem Closed.set {i : Nat} {listed : Array Bool} (h : Closed md ops listed) (hi : i ∈ Region.ready md ops listed) : Closed md ops (listed.setIfInBounds i true) := by
  obtain ⟨_, oi, hoi, hall⟩ := mem_ready.1 hi
  intro j oj hj hl e he hb
  by_cases hij : i = j
  · subst hij
    have : oj = oi := Option.some.inj (hj.symm.trans hoi)
    subst this
    exact getD_set_true (hall e he hb)
  · rw [getD_set_ne false hij] at hl
    exact getD_set_true (h j oj hj hl e he hb)
theorem anc_listed {n N : Nat} {L : List Nat} {listed : Array Bool} (ht : TailR md ops kd n N L) (hc : Closed md ops listed) (hN : ∀ oN, ops[N]? = some oN → ∀ e ∈ oN.after, Region.binds md e = true → listed.getD e.on false = true) :
    ∀ (d j : Nat), N - j ≤ d → j ∈ L → listed.getD j false = true := by
  intro d
  induction d with
  | zero =>
    intro j hd hj
    obtain ⟨i, hi, hlt, hw⟩ := ht.anc j hj
    obtain ⟨oi, hoi, e, he, hb, hon⟩ := Region.waitsFor_spec hw
    rcases hi with rfl | hi
    · omega
    · exfalso
      -- an element of L lies below N
      have key : ∀ (m j : Nat), (∀ x ∈ L, x < j + m) → j ∈ L → j < N := by
        intro m
        induction m with
        | zero => intro j hx hj; exact absurd (hx j hj) (by omega)
        | succ m ih =>
          intro j hx hj
          obtain ⟨i, hi, hlt, _⟩ := ht.anc j hj
          rcases hi with rfl | hi
          · exact hlt
          · exact Nat.lt_trans hlt (ih i (fun x hx' => by have := hx x hx'; omega) hi)
      have bound : ∃ m, ∀ x ∈ L, x < m := ⟨L.foldr max 0 + 1, fun x hx => Nat.lt_succ_of_le (by
        clear key ht hd hj hi hlt hw hoi he hb hon
        induction L with
        | nil => cases hx
        | cons y ys ih =>
          rcases List.mem_cons.1 hx with rfl | h
          · exact Nat.le_max_left ..
          · exact Nat.le_trans (ih h) (Nat.le_max_right ..))⟩
      obtain ⟨m, hm⟩ := bound
      have := key m j (fun x hx => by have := hm x hx; omega) hj
      omega
  | succ d ih =>
    intro j hd hj
    obtain ⟨i, hi, hlt, hw⟩ := ht.anc j hj
    obtain ⟨oi, hoi, e, he, hb, hon⟩ := Region.waitsFor_spec hw
    rw [← hon]
    rcases hi with rfl | hi
    · exact hN oi hoi e he hb
    · exact hc i oi hoi (ih i (by omega) hi) e he hb
theorem all_listed (hok : OkR md ops kd) {listed : Array Bool} (hs : listed.size = ops.size) (hr : Region.ready md ops listed = []) : ∀ j, j < ops.size → listed.getD j false = true := by
  intro j
  induction j using Nat.strongRecOn with
  | _ j ih =>
    intro hj
    cases hl : listed.getD j false with
    | true => rfl
    | false =>
      have : j ∈ Region.ready md ops listed := mem_ready.2 ⟨getD_in (by omega) hl, ops[j], by simp [hj], fun e he hb => by
        have := hok.back j ops[j] (by simp [hj]) e he hb
        exact ih e.on this (by omega)⟩
      rw [hr] at this
      cases this

/-- What the operations J have left, each in blocks of its own. -/
def Kept (ops : Array Oper) (Ψ : Nat → Value → Nat → Nat → World → Prop) (kd : Nat → Kd) (J : Nat → Prop) (a : Act) (w : World) (s t : Nat → Nat) : Prop :=
  (∀ j, J j → kd j = .grow → Ψ j (slotOf ops a j) (s j) (t j) w ∧ s j ≤ t j ∧ t j ≤ w.heap.size) ∧ ∀ j k, J j → J k → kd j = .grow → kd k = .grow → j ≠ k → t j ≤ s k ∨ t k ≤ s j
structure Inv (P : Program) (ops : Array Oper) (md : Region.Mode) (C : World → Prop) (Ψ : Nat → Value → Nat → Nat → World → Prop) (kd : Nat → Kd) (n N : Nat) (listed : Array Bool) (a : Act) (w : World) : Prop where
  size : listed.size = ops.size
  slots : a.tmps.size = n
  closed : Closed md ops listed
  cls : C w
  ahead : (listed.getD N false = false ∧ ∃ s t, Kept ops Ψ kd (fun j => listed.getD j false = true) a w s t) ∨
    (listed.getD N false = true ∧ ∃ oN w1 s t, ops[N]? = some oN ∧ C w1 ∧ Kept ops Ψ kd (fun j => j < ops.size) a w1 s t ∧ (execOp a.eval oN).run P w1 = .ok .skip w)
theorem put_size (a : Act) (d : Option Tmp) (v : Value) : (a.put d v).tmps.size = a.tmps.size := by cases d <;> simp [Act.put]

theorem wpAny_of_G (hok : OkR md ops kd) {n N : Nat} {L : List Nat} (ht : TailR md ops kd n N L) (hs : Region.noSelect ops = true) (hG : ∀ w w', C w → G w w' → C w') (hΨ : ∀ j v s t w w', Ψ j v s t w → G w w' → Ψ j v s t w') (hGs : ∀ w w', G w w' → w.heap.size ≤ w'.heap.size)
    (hkN : N < ops.size → kd N = .write) {Q : Act → Prop} {Q' : Exit → Act → World → Prop}
    (hQ1 : ops.size ≤ N → ∀ a w s t, Q a → C w → Kept ops Ψ kd (fun j => j < ops.size) a w s t → Q' .normal a w)
    (hQ2 : ∀ oN, ops[N]? = some oN → ∀ a w1 w s t, Q a → C w1 → Kept ops Ψ kd (fun j => j < ops.size) a w1 s t → (execOp a.eval oN).run P w1 = .ok .skip w → C w → Q' .normal a w) :
    ∀ (fuel : Nat) (listed : Array Bool) (a : Act) (w : World), Inv P ops md C Ψ kd n N listed a w → wpAnyG P ops md C G Ψ pu kd Q fuel listed a → wpAny P md ops Q' fuel listed a w := by
  have fin : ∀ (listed : Array Bool) (a : Act) (w : World), Inv P ops md C Ψ kd n N listed a w → Region.ready md ops listed = [] → Q a → Q' .normal a w := fun listed a w inv hr hq => by
    have hall := all_listed hok inv.size hr
    rcases inv.ahead with ⟨hn, s, t, hΨs⟩ | ⟨hn, oN, w1, s, t, hoN, hc1, hk1, hrun⟩
    · refine hQ1 ?_ a w s t hq inv.cls ⟨fun j hj hk => hΨs.1 j (hall j hj) hk, fun j k hj hk => hΨs.2 j k (hall j hj) (hall k hk)⟩
      rcases Nat.lt_or_ge N ops.size with h | h
      · rw [hall N h] at hn; cases hn
      · exact h
    · exact hQ2 oN hoN a w1 w s t hq hc1 hk1 hrun inv.cls
  intro fuel
  induction fuel with
  | zero => exact fun listed a w inv h => ⟨h.1, fin listed a w inv h.1 h.2⟩
  | succ fuel ih =>
    intro listed a w inv h
    refine ⟨fun hr => fin listed a w inv hr (h.1 hr), fun i hi => ?_⟩
    have hg := h.2 i hi
    obtain ⟨hiun, o, ho, hall⟩ := mem_ready.1 hi
    have hilt : i < ops.size := (Array.getElem?_eq_some_iff.1 ho).1
    have hsel := Region.noSelect_spec hs
    have hset : ∀ j, (listed.setIfInBounds i true).getD j false = true → j = i ∨ listed.getD j false = true := fun j hj => by
      by_cases e : i = j
      · exact .inl e.symm
      · rw [getD_set_ne false e] at hj; exact .inr hj
    have hsz : (listed.setIfInBounds i true).size = ops.size := by simp [inv.size]
    unfold gOp at hg
    unfold wpOp
    simp only [ho] at hg ⊢
    -- what a quiet operation leaves
    have quietInv : kd i = .quiet → ∀ u, Inv P ops md C Ψ kd n N (listed.setIfInBounds i true) (a.put o.dst u) w := fun hk u => by
      refine ⟨hsz, by rw [put_size, inv.slots], inv.closed.set hi, inv.cls, ?_⟩
      have hiN : i ≠ N := fun e => by have := hkN (e ▸ hilt); rw [← e, hk] at this; cases this
      rcases inv.ahead with ⟨hn, s, t, hΨs⟩ | ⟨hn, oN, w1, s, t, hoN, hc1, hk1, hrun⟩
      · have old : ∀ j, (listed.setIfInBounds i true).getD j false = true → kd j = .grow → listed.getD j false = true := fun j hj hkj => by
          rcases hset j hj with rfl | hj'
          · rw [hk] at hkj; cases hkj
          · exact hj'
        refine .inl ⟨by rw [getD_set_ne false hiN]; exact hn, s, t, fun j hj hkj => ?_, fun j k hj hk' hkj hkk => hΨs.2 j k (old j hj hkj) (old k hk' hkk) hkj hkk⟩
        have hne : i ≠ j := fun e => by subst e; rw [hk] at hkj; cases hkj
        rw [slotOf_put hok ho hne]
        exact hΨs.1 j (old j hj hkj) hkj
      · refine .inr ⟨by rw [getD_set_ne false hiN]; exact hn, oN, w1, s, t, hoN, hc1, ⟨fun j hj hkj => ?_, hk1.2⟩, ?_⟩
        · have hne : i ≠ j := fun e => by subst e; rw [hk] at hkj; cases hkj
          rw [slotOf_put hok ho hne]
          exact hk1.1 j hj hkj
        · rcases ht.quiet i o ho hk (Array.getElem?_eq_some_iff.1 hoN).1 with hL | hno
          · have := anc_listed ht inv.closed (fun oN' hoN' e he hb => inv.closed N oN' hoN' hn e he hb) N i (by omega) hL
            rw [getD_both hiun] at this
            cases this
          · rw [execOp_put oN (fun cs b => hsel N oN cs b hoN) a o.dst u (fun d hd => hno oN hoN d hd)]
            exact hrun
    by_cases hk : kd i = .quiet
    · rw [if_pos hk] at hg
      split
      · rename_i hw
        rw [if_pos hw] at hg
        refine .inl ?_
        obtain ⟨v, hv, hn⟩ := hg
        have h3 := hv w inv.cls
        unfold Oper.quietAt at h3
        unfold Oper.wp
        cases hr : (execOp a.eval o).run P w with
        | halt x w' => rw [hr] at h3; simp only [Oper.quietUpon] at h3
        | ok nx w' =>
          obtain ⟨x, rfl⟩ := plain_run (hok.plain i o ho hk) hr
          rw [hr] at h3
          simp only [Oper.quietUpon] at h3
          obtain ⟨rfl, rfl⟩ := h3
          simp only [Oper.upon]
          exact ih _ _ _ (quietInv hk x) hn
      · rename_i hw
        rw [if_neg hw] at hg
        exact ih _ _ _ (quietInv hk undef) hg
    · rw [if_neg hk] at hg
      obtain ⟨⟨hw, hob, _⟩, hnext⟩ := hg
      rw [if_pos hw]
      refine .inl ?_
      rcases inv.ahead with ⟨hn, s, t, hΨs⟩ | ⟨hn, oN, w1, s, t, hoN, hc1, hk1, hrun⟩
      case inr =>
        exfalso
        have hNlt := (Array.getElem?_eq_some_iff.1 hoN).1
        cases hkk : kd i with
        | quiet => exact hk hkk
        | grow =>
          have := anc_listed ht inv.closed (fun oN' hoN' e he hb => inv.closed N oN' hoN' hn e he hb) N i (by omega) ((ht.grow i o ho hkk).2 hNlt)
          rw [getD_both hiun] at this
          cases this
        | write =>
          rw [(ht.write i o ho hkk).1] at hiun
          rw [getD_both hiun] at hn
          cases hn
      case inl =>
        have hup := hob w inv.cls (fun e he hb hke => ⟨_, _, (hΨs.1 e.on (hall e he hb) hke).1⟩)
        unfold Up at hup
        cases hkk : kd i with
        | quiet => exact absurd hkk hk
        | grow =>
          rw [hkk] at hup
          simp only [] at hup
          have hiN : i ≠ N := fun e => by have := hkN (e ▸ hilt); rw [← e, hkk] at this; cases this
          obtain ⟨⟨d, hd, hdn⟩, _⟩ := ht.grow i o ho hkk
          have growInv : ∀ v w', G w w' → Ψ i v w.heap.size w'.heap.size w' → Inv P ops md C Ψ kd n N (listed.setIfInBounds i true) (a.put o.dst v) w' := fun v w' hg hv => by
            refine ⟨hsz, by rw [put_size, inv.slots], inv.closed.set hi, hG w w' inv.cls hg, .inl ⟨by rw [getD_set_ne false hiN]; exact hn, fun j => if j = i then w.heap.size else s j, fun j => if j = i then w'.heap.size else t j, fun j hj hkj => ?_, fun j k hj hk' hkj hkk hjk => ?_⟩⟩
            · by_cases hji : j = i
              · subst hji
                have : slotOf ops (a.put o.dst v) j = v := by
                  unfold slotOf
                  simp only [ho, Option.bind_some, hd]
                  simp [Act.put, Act.eval, inv.slots, hdn]
                dsimp only
                rw [this, if_pos rfl, if_pos rfl]
                exact ⟨hv, hGs w w' hg, Nat.le_refl _⟩
              · have hj' := (hset j hj).resolve_left hji
                dsimp only
                rw [slotOf_put hok ho (Ne.symm hji), if_neg hji, if_neg hji]
                exact ⟨hΨ j _ _ _ w w' (hΨs.1 j hj' hkj).1 hg, (hΨs.1 j hj' hkj).2.1, Nat.le_trans (hΨs.1 j hj' hkj).2.2 (hGs w w' hg)⟩
            · dsimp only
              by_cases hji : j = i
              · by_cases hki : k = i
                · exact absurd (hji.trans hki.symm) hjk
                · right
                  rw [if_pos hji, if_neg hki]
                  exact (hΨs.1 k ((hset k hk').resolve_left hki) hkk).2.2
              · by_cases hki : k = i
                · left
                  rw [if_pos hki, if_neg hji]
                  exact (hΨs.1 j ((hset j hj).resolve_left hji) hkj).2.2
                · rw [if_neg hji, if_neg hji, if_neg hki, if_neg hki]
                  exact hΨs.2 j k ((hset j hj).resolve_left hji) ((hset k hk').resolve_left hki) hkj hkk hjk
          unfold Oper.wp
          generalize (execOp a.eval o).run P w = r at hup ⊢
          cases r with
          | halt x w' => simp only [Grows] at hup
          | ok nx w' =>
            cases nx <;> simp only [Grows] at hup <;> simp only [Oper.upon]
            case value v => exact ih _ _ _ (growInv v w' hup.1 hup.2.2) (hnext v hup.2.1)
            case skip => exact ih _ _ _ (growInv undef w' hup.1 hup.2.2) (hnext undef hup.2.1)
            case enter f args => exact hup.mono fun e w'' ⟨v, he, h1, h2, h3⟩ => by subst he; exact ih _ _ _ (growInv v w'' h1 h3) (hnext v h2)
        | write =>
          rw [hkk] at hup
          simp only [] at hup
          obtain ⟨rfl, hdst⟩ := ht.write i o ho hkk
          unfold Oper.wp
          cases hr : (execOp a.eval o).run P w with
          | halt x w' => rw [hr] at hup; simp only [Writes, false_and] at hup
          | ok nx w' =>
            rw [hr] at hup
            cases nx <;> simp only [Writes, false_and] at hup
            simp only [Oper.upon]
            refine ih _ _ _ ?_ (hnext undef hup.2)
            have allL : ∀ j, j < ops.size → kd j = .grow → listed.getD j false = true := fun j hj hkj => by
              have hL := (ht.grow j _ (Array.getElem?_eq_getElem hj) hkj).2 hilt
              exact anc_listed ht inv.closed (fun oN' hoN' e he hb => by
                have : oN' = o := Option.some.inj (hoN'.symm.trans ho)
                subst this
                exact hall e he hb) i j (by omega) hL
            refine ⟨hsz, by rw [put_size, inv.slots], inv.closed.set hi, hup.1, .inr ⟨?_, o, w, s, t, ho, inv.cls, ⟨fun j hj hkj => ?_, fun j k hj hk' hkj hkk => hΨs.2 j k (allL j hj hkj) (allL k hk' hkk) hkj hkk⟩, ?_⟩⟩
            · simp [inv.size, hilt]
            · have hne : i ≠ j := fun e => by subst e; rw [hkk] at hkj; cases hkj
              rw [slotOf_put hok ho hne]
              exact hΨs.1 j (allL j hj hkj) hkj
            · rw [hdst]
              exact hr
end

/-! ### At the class of the worlds that grew out of w -/
section
variable {P : Program} {w : World} {R : Nat → Value → Nat → World → Prop} {pu : Nat → Value → Prop} {kd : Nat → Kd}
/-- The class, and growth. -/
def CC (w : World) (w' : World) : Prop := ∃ X : Grown.G w, w' = X.w
def GG (w w' : World) : Prop := Below w.heap.size w w'
/-- What an operation left, and what has grown since. -/
def Since (R : Nat → Value → Nat → World → Prop) (j : Nat) (v : Value) (s t : Nat) (w : World) : Prop := ∃ w1, R j v s w1 ∧ w1.heap.size = t ∧ Below w1.heap.size w1 w
theorem since_stays : ∀ j v s t w w', Since R j v s t w → GG w w' → Since R j v s t w' := fun _ _ _ _ _ _ ⟨w1, h1, hs, h2⟩ hg => ⟨w1, h1, hs, BelowKit.bl_trans h2 hg⟩
/-- What the operations of a region have left. -/
abbrev Left (R : Nat → Value → Nat → World → Prop) (kd : Nat → Kd) (ops : Array Oper) (a : Act) (w : World) (s t : Nat → Nat) : Prop := Kept ops (Since R) kd (fun j => j < ops.size) a w s t
theorem CC.grow {w1 w2 : World} (h : CC w w1) (hg : GG w1 w2) : CC w w2 := by
  obtain ⟨X, rfl⟩ := h
  exact ⟨⟨w2, BelowKit.bl_trans X.bel hg⟩, rfl⟩

theorem wp_region_grow {id : Nat} {Q : Exit → Act → World → Prop} {a : Act} {l : List Oper} (kd : Nat → Kd) (pu : Nat → Value → Prop) (R : Nat → Value → Nat → World → Prop) (hm : P.follows .mixedOrders = true) (hB : Region.lexB .any l.toArray = true) (hk : okB .any l.toArray kd = true)
    (ht : tailB .any l.toArray kd a.tmps.size l.toArray.size [] = true)
    (h : wpG P l.toArray .any (CC w) GG (Since R) pu kd (fun a' => ∀ (X : Grown.G w) (s t : Nat → Nat), Left R kd l.toArray a' X.w s t → Q .normal a' X.w) 0 l a) : (Code.region id l.toArray true).wp P Q a w := by
  have hB' := hB
  simp only [Region.lexB, Bool.and_eq_true] at hB'
  have hC0 : CC w { w with drawn := w.drawn + 1 } := ⟨⟨_, below_drewN (Below.refl w.heap.size w) 1⟩, rfl⟩
  refine wp_region_any hm (wpAny_of_G (C := CC w) (G := GG) (Ψ := Since R) (pu := pu) (Q := (fun a' => ∀ (X : Grown.G w) (s t : Nat → Nat), Left R kd l.toArray a' X.w s t → Q .normal a' X.w)) (okB_spec hk) (tailB_spec ht) hB'.1 (fun _ _ => CC.grow) since_stays (fun _ _ h => h.size) (fun hN => absurd hN (Nat.lt_irrefl _))
    (fun _ a' w' s t hq hc hkn => ?_) (fun oN hoN => absurd ((Array.getElem?_eq_some_iff.1 hoN).1) (Nat.lt_irrefl _)) _ _ _ _ ⟨by simp, rfl, fun j oj _ hl => ?_, hC0, .inl ⟨?_, fun _ => 0, fun _ => 0, fun j hl => ?_, fun j k hl => ?_⟩⟩ ?_)
  · obtain ⟨X, rfl⟩ := hc
    exact hq X s t hkn
  · rw [getD_replicate_false] at hl; cases hl
  · exact getD_replicate_false _ _
  · dsimp only at hl; rw [getD_replicate_false] at hl; cases hl
  · dsimp only at hl; rw [getD_replicate_false] at hl; cases hl
  · have := wpAnyG_lex (P := P) (md := .any) (C := CC w) (G := GG) (Ψ := Since R) (pu := pu) (kd := kd) (okB_spec hk) ⟨_, hC0⟩ hB'.1 l 0 (Array.replicate l.toArray.size false) a (by simp) (by simpa using hB'.2) h
    simpa using this

theorem wp_region_store {id : Nat} {Q : Exit → Act → World → Prop} {a : Act} {l : List Oper} (kd : Nat → Kd) (pu : Nat → Value → Prop) (R : Nat → Value → Nat → World → Prop) (N : Nat) (hm : P.follows .mixedOrders = true) (hB : Region.lexB .any l.toArray = true) (hk : okB .any l.toArray kd = true)
    (hkN : kd N = .write) (hN : N < l.toArray.size) (ht : tailB .any l.toArray kd a.tmps.size N (ancOf .any l.toArray N) = true)
    (h : wpG P l.toArray .any (CC w) GG (Since R) pu kd (fun a' => ∀ (X1 X : Grown.G w) (s t : Nat → Nat), Left R kd l.toArray a' X1.w s t → (execOp a'.eval l.toArray[N]).run P X1.w = .ok .skip X.w → Q .normal a' X.w) 0 l a) : (Code.region id l.toArray true).wp P Q a w := by
  have hB' := hB
  simp only [Region.lexB, Bool.and_eq_true] at hB'
  have hC0 : CC w { w with drawn := w.drawn + 1 } := ⟨⟨_, below_drewN (Below.refl w.heap.size w) 1⟩, rfl⟩
  refine wp_region_any hm (wpAny_of_G (C := CC w) (G := GG) (Ψ := Since R) (pu := pu) (Q := (fun a' => ∀ (X1 X : Grown.G w) (s t : Nat → Nat), Left R kd l.toArray a' X1.w s t → (execOp a'.eval l.toArray[N]).run P X1.w = .ok .skip X.w → Q .normal a' X.w)) (okB_spec hk) (tailB_spec ht) hB'.1 (fun _ _ => CC.grow) since_stays (fun _ _ h => h.size) (fun _ => hkN)
    (fun hNn => absurd hN (by omega)) (fun oN hoN a' w1 w' s t hq hc1 hkn hrun hc => ?_) _ _ _ _ ⟨by simp, rfl, fun j oj _ hl => ?_, hC0, .inl ⟨?_, fun _ => 0, fun _ => 0, fun j hl => ?_, fun j k hl => ?_⟩⟩ ?_)
  · obtain ⟨X1, rfl⟩ := hc1
    obtain ⟨X, rfl⟩ := hc
    refine hq X1 X s t hkn ?_
    have : oN = l.toArray[N] := by rw [Array.getElem?_eq_getElem hN] at hoN; exact (Option.some.inj hoN).symm
    rw [← this]
    exact hrun
  · rw [getD_replicate_false] at hl; cases hl
  · exact getD_replicate_false _ _
  · dsimp only at hl; rw [getD_replicate_false] at hl; cases hl
  · dsimp only at hl; rw [getD_replicate_false] at hl; cases hl
  · have := wpAnyG_lex (P := P) (md := .any) (C := CC w) (G := GG) (Ψ := Since R) (pu := pu) (kd := kd) (okB_spec hk) ⟨_, hC0⟩ hB'.1 l 0 (Array.replicate l.toArray.size false) a (by simp) (by simpa using hB'.2) h
    simpa using this

/-! ### The steps of the walk -/
variable {ops : Array Oper} {md : Region.Mode} {Q : Act → Prop} {a : Act} {k : Nat}
/-- The next operation is quiet: the library's step. -/
theorem wpG_q {o : Oper} {rest : List Oper} (hk : kd k = .quiet)
    (h : wpQuiet P ops (fun w' => ∃ X : Grown.G w, w' = X.w) (fun a' => wpG P ops md (CC w) GG (Since R) pu kd Q (k + 1) rest a') [o] a) : wpG P ops md (CC w) GG (Since R) pu kd Q k (o :: rest) a := by
  rw [wpG, if_pos hk]
  simp only [wpQuiet] at h
  exact h
theorem wpG_nil (h : Q a) : wpG P ops md (CC w) GG (Since R) pu kd Q k [] a := by rw [wpG]; exact h
theorem put_of {K : Act → Prop} {d : Option Tmp} {v : Value} {ty : TypeId} {pos : String} (hC : ∃ w', CC w w') (h : wpQuiet P ops (fun w' => ∃ X : Grown.G w, w' = X.w) K [⟨d, .assign (.const v), ty, pos, #[], none⟩] a) : K (a.put d v) := by
  rw [wpQuiet, if_pos (by simp [Region.wanted])] at h
  obtain ⟨u, hu, hk⟩ := h
  obtain ⟨w1, hw1⟩ := hC
  have := hu w1 hw1
  unfold Oper.quietAt at this
  rw [BigFrame.run_assign (.const v) rfl] at this
  obtain ⟨_, rfl⟩ := this
  exact hk
theorem cc_self : ∃ w', CC w w' := ⟨w, ⟨w, Below.refl _ _⟩, rfl⟩
/-- The call of a function of the text. -/
theorem run_call {o : Oper} {l : List Operand} {ts : Array TypeId} {f : FuncId} {fn : Func} (ρ : Operand → Value) (ho : o.op = .call { callee := .value (.func f), args := l.toArray, argTypes := ts }) (hf : P.funcs[f]? = some fn) (hn : (fn.name == "runtime.NumGoroutine") = false) (hb : fn.body.isNone = false) (hρ : ρ (.func f) = .func (.func f) #[] #[]) (w1 : World) :
    (execOp ρ o).run P w1 = .ok (.enter f (l.map ρ).toArray) w1 := by
  have hn' : fn.name ≠ "runtime.NumGoroutine" := by simpa using hn
  have hb' : fn.body ≠ none := by intro e; rw [e] at hb; cases hb
  unfold execOp
  simp only [ho]
  simp [resolve, hρ, Deferred.ofValue, invoke, callFunc, hf, hn', hb']
theorem wpG_call {d : Tmp} {l : List Operand} {ts : Array TypeId} {ty : TypeId} {pos : String} {af : Array Edge} {rest : List Oper} {f : FuncId} {fn : Func} (args : Array Value) (hk : kd k = .grow) (hf : P.funcs[f]? = some fn) (hn : (fn.name == "runtime.NumGoroutine") = false) (hb : fn.body.isNone = false)
    (hargs : (l.map a.eval).toArray = args) (hv : ∃ v, pu k v)
    (hc : ∀ X : Grown.G w, Deps ops md (Since R) kd a ⟨some d, .call { callee := .value (.func f), args := l.toArray, argTypes := ts }, ty, pos, af, none⟩ X.w → Calls P f args X.w fun e w' => ∃ v, e = .returned v ∧ Below X.w.heap.size X.w w' ∧ pu k v ∧ R k v X.w.heap.size w')
    (h : ∀ v, pu k v → wpQuiet P ops (fun w' => ∃ X : Grown.G w, w' = X.w) (fun a' => wpG P ops md (CC w) GG (Since R) pu kd Q (k + 1) rest a') [⟨some d, .assign (.const v), ty, pos, #[], none⟩] a) :
    wpG P ops md (CC w) GG (Since R) pu kd Q k (⟨some d, .call { callee := .value (.func f), args := l.toArray, argTypes := ts }, ty, pos, af, none⟩ :: rest) a := by
  rw [wpG, if_neg (by rw [hk]; decide)]
  refine ⟨⟨by simp [Region.wanted], fun w1 hw1 hd => ?_, hv⟩, fun v hpv => put_of cc_self (h v hpv)⟩
  obtain ⟨X, rfl⟩ := hw1
  unfold Up
  rw [hk, run_call a.eval rfl hf hn hb rfl, hargs]
  exact (hc X hd).mono fun e w' ⟨v, h1, h2, h3, h4⟩ => ⟨v, h1, h2, h3, w', h4, rfl, Below.refl _ _⟩
/-- An operation of the text's own that makes memory. -/
theorem wpG_own {d : Tmp} {op : Op} {ty : TypeId} {pos : String} {af : Array Edge} {rest : List Oper} (hk : kd k = .grow) (hv : ∃ v, pu k v)
    (hc : ∀ X : Grown.G w, Deps ops md (Since R) kd a ⟨some d, op, ty, pos, af, none⟩ X.w → ∃ v w', (execOp a.eval ⟨some d, op, ty, pos, af, none⟩).run P X.w = .ok (.value v) w' ∧ Below X.w.heap.size X.w w' ∧ pu k v ∧ R k v X.w.heap.size w')
    (h : ∀ v, pu k v → wpQuiet P ops (fun w' => ∃ X : Grown.G w, w' = X.w) (fun a' => wpG P ops md (CC w) GG (Since R) pu kd Q (k + 1) rest a') [⟨some d, .assign (.const v), ty, pos, #[], none⟩] a) :
    wpG P ops md (CC w) GG (Since R) pu kd Q k (⟨some d, op, ty, pos, af, none⟩ :: rest) a := by
  rw [wpG, if_neg (by rw [hk]; decide)]
  refine ⟨⟨by simp [Region.wanted], fun w1 hw1 hd => ?_, hv⟩, fun v hpv => put_of cc_self (h v hpv)⟩
  obtain ⟨X, rfl⟩ := hw1
  obtain ⟨v, w', hr, h1, h2, h3⟩ := hc X hd
  unfold Up
  rw [hk, hr]
  exact ⟨h1, h2, w', h3, rfl, Below.refl _ _⟩
/-- The store that closes the region. -/
theorem wpG_store {op : Op} {ty : TypeId} {pos : String} {af : Array Edge} {rest : List Oper} (hk : kd k = .write) (hv : pu k undef)
    (hc : ∀ X : Grown.G w, Deps ops md (Since R) kd a ⟨none, op, ty, pos, af, none⟩ X.w → ∃ Y : Grown.G w, (execOp a.eval ⟨none, op, ty, pos, af, none⟩).run P X.w = .ok .skip Y.w)
    (h : wpG P ops md (CC w) GG (Since R) pu kd Q (k + 1) rest a) : wpG P ops md (CC w) GG (Since R) pu kd Q k (⟨none, op, ty, pos, af, none⟩ :: rest) a := by
  rw [wpG, if_neg (by rw [hk]; decide)]
  refine ⟨⟨by simp [Region.wanted], fun w1 hw1 hd => ?_, undef, hv⟩, fun v hpv => h⟩
  obtain ⟨X, rfl⟩ := hw1
  obtain ⟨Y, hr⟩ := hc X hd
  unfold Up
  rw [hk, hr]
  exact ⟨⟨Y, rfl⟩, hv⟩
/-- The call of a function of the text, at a step of a walk through all orders. -/
theorem step_call {ops : Array Oper} {a : Act} {K : Act → World → Prop} {Q : Exit → Act → World → Prop} {E : Prop} {d : Tmp} {l : List Operand} {ts : Array TypeId} {ty : TypeId} {pos : String} {af : Array Edge} {f : FuncId} {fn : Func} {w : World} (args : Array Value)
    (hf : P.funcs[f]? = some fn) (hn : (fn.name == "runtime.NumGoroutine") = false) (hb : fn.body.isNone = false) (hargs : (l.map a.eval).toArray = args) (hc : Calls P f args w fun e w' => ∃ v, e = .returned v ∧ K (a.put (some d) v) w') :
    if Region.wanted (⟨some d, .call { callee := .value (.func f), args := l.toArray, argTypes := ts }, ty, pos, af, none⟩ : Oper) (yielded ops a.tmps) = true then Oper.wp P ⟨some d, .call { callee := .value (.func f), args := l.toArray, argTypes := ts }, ty, pos, af, none⟩ a w K Q else E := by
  rw [if_pos (by simp [Region.wanted])]
  unfold Oper.wp
  rw [run_call a.eval rfl hf hn hb rfl, hargs]
  exact hc.mono fun e w' ⟨v, he, hk⟩ => by subst he; exact hk
/-- append, of which the run is known. -/
theorem run_appended {o : Oper} {s x : Operand} {t : TypeId} (ρ : Operand → Value) {v v' : Value} {w w' : World} {vx : Value} (ho : o.op = .call { callee := .builtin .append, args := #[s, x], argTypes := #[t, t] }) (hs : ρ s = v) (hx : ρ x = vx)
    (hr : (Builtin.append_ #[t, t] o.type #[v, vx]).run P w = .ok v' w') : (execOp ρ o).run P w = .ok (.value v') w' := by
  simp [execOp, ho, resolve, invoke, builtin, hs, hx, hr, Result.andThen]
end
end Go.Proofs.Ythhjnffbafmkpaa.Fresh

/- Regions that draw their order, by an invariant: what holds of the frame and the world, given which operations have come up; each operation is met once, in whatever order. Imports nothing of the dump. -/
namespace Go.Proofs.Ythhjnffbafmkpaa.RegInv
open Go Go.RowKit
variable {P : Program} {ops : Array Oper} {md : Region.Mode}

/-- The next operation i has come up, too. -/
def set (L : Nat → Bool) (i : Nat) : Nat → Bool := fun j => if j = i then true else L j
def seen (listed : Array Bool) : Nat → Bool := fun j => listed.getD j false
theorem seen_set {listed : Array Bool} {i : Nat} (h : i < listed.size) : seen (listed.setIfInBounds i true) = set (seen listed) i := by
  funext j
  unfold seen set
  by_cases e : j = i
  · subst e
    rw [if_pos rfl]
    simp [Array.getD, h]
  · rw [if_neg e, getD_set_ne false (fun h => e h.symm)]
/-- How many have not come up. -/
def left (ops : Array Oper) (listed : Array Bool) : Nat := (List.range ops.size).countP fun j => !(listed.getD j false)
theorem left_set {listed : Array Bool} {i : Nat} (hi : i < ops.size) (h : listed.getD i false = false) (hs : listed.size = ops.size) : left ops (listed.setIfInBounds i true) + 1 ≤ left ops listed := by
  unfold left
  have e1 : (listed.setIfInBounds i true).getD i false = true := by
    simp [Array.getD, hs, hi]
  have hsub : ∀ (l : List Nat), l.Nodup → i ∈ l → (l.countP fun j => !((listed.setIfInBounds i true).getD j false)) + 1 ≤ l.countP fun j => !(listed.getD j false) := by
    intro l
    induction l with
    | nil => intro _ h; cases h
    | cons x t ih =>
      intro hn hx
      have hn' := List.nodup_cons.1 hn
      rw [List.countP_cons, List.countP_cons]
      by_cases e : x = i
      · subst e
        have h3 : (t.countP fun j => !((listed.setIfInBounds x true).getD j false)) = t.countP fun j => !(listed.getD j false) := by
          refine List.countP_congr fun y hy => ?_
          rw [getD_set_ne false (fun h => hn'.1 (by rw [h]; exact hy))]
        rw [h3, e1, h]
        simp
      · have h4 := ih hn'.2 (by rcases List.mem_cons.1 hx with h | h; exact absurd h.symm e; exact h)
        rw [getD_set_ne false (fun h => e h.symm)]
        omega
  exact hsub _ List.nodup_range (List.mem_range.2 hi)
theorem left_zero {listed : Array Bool} (h : left ops listed = 0) : Region.ready md ops listed = [] := by
  cases hr : Region.ready md ops listed with
  | nil => rfl
  | cons i t =>
    have hi : i ∈ Region.ready md ops listed := by rw [hr]; exact List.mem_cons_self
    obtain ⟨h1, o, ho, _⟩ := mem_ready.1 hi
    have hlt : i < ops.size := (Array.getElem?_eq_some_iff.1 ho).1
    unfold left at h
    rw [List.countP_eq_zero] at h
    have h2 := h i (List.mem_range.2 hlt)
    have h3 : listed.getD i false = false := by
      unfold Array.getD at h1 ⊢
      split at h1
      next hl => rw [dif_pos hl]; exact h1
      next hl => cases h1
    rw [h3] at h2
    exact absurd rfl h2

/-- A region that draws its order, by an invariant. -/
theorem wp_region_inv {id : Nat} {Q : Exit → Act → World → Prop} {a : Act} {w : World} {l : List Oper} (Inv : (Nat → Bool) → Act → World → Prop) (hm : P.follows .mixedOrders = true)
    (hback : (List.range l.toArray.size).all (fun i => match l.toArray[i]? with | some o => o.after.all fun e => !Region.binds .any e || decide (e.on < i) | none => true) = true)
    (h0 : Inv (fun _ => false) a { w with drawn := w.drawn + 1 })
    (hstep : ∀ (L : Nat → Bool) (i : Nat) (o : Oper) (a : Act) (w : World), l.toArray[i]? = some o → L i = false → (∀ e ∈ o.after, Region.binds .any e = true → L e.on = true) → Inv L a w → wpOp P l.toArray Q i (fun a' w' => Inv (set L i) a' w') a w)
    (hend : ∀ (L : Nat → Bool) (a : Act) (w : World), (∀ j, j < l.toArray.size → L j = true) → Inv L a w → Q .normal a w) : (Code.region id l.toArray true).wp P Q a w := by
  have back : ∀ (i : Nat) (o : Oper), l.toArray[i]? = some o → ∀ e ∈ o.after, Region.binds .any e = true → e.on < i := fun i o hi e he hb => by
    have h1 := List.all_eq_true.1 hback i (List.mem_range.2 (Array.getElem?_eq_some_iff.1 hi).1)
    simp only [hi] at h1
    have h2 := Array.all_eq_true'.1 h1 e he
    simpa [hb] using h2
  have fin : ∀ (listed : Array Bool), listed.size = l.toArray.size → Region.ready .any l.toArray listed = [] → ∀ j, j < l.toArray.size → seen listed j = true := by
    intro listed hs hr j
    induction j using Nat.strongRecOn with
    | _ j ih =>
      intro hj
      cases hl : seen listed j with
      | true => rfl
      | false =>
        have : j ∈ Region.ready .any l.toArray listed := mem_ready.2 ⟨getD_in (by omega) hl, l.toArray[j], Array.getElem?_eq_getElem hj, fun e he hb => by
          have := back j l.toArray[j] (Array.getElem?_eq_getElem hj) e he hb
          exact ih e.on this (by omega)⟩
        rw [hr] at this
        cases this
  refine wp_region_any hm ?_
  suffices H : ∀ (fuel : Nat) (listed : Array Bool) (a : Act) (w : World), listed.size = l.toArray.size → left l.toArray listed ≤ fuel → Inv (seen listed) a w → wpAny P .any l.toArray Q fuel listed a w by
    refine H _ _ _ _ (by simp) ?_ ?_
    · exact Nat.le_trans (List.countP_le_length) (by simp)
    · have : seen (Array.replicate l.toArray.size false) = fun _ => false := by funext j; exact getD_replicate_false _ _
      rw [this]
      exact h0
  intro fuel
  induction fuel with
  | zero =>
    intro listed a w hs hl hi
    have hr := left_zero (md := .any) (Nat.le_zero.1 hl)
    exact ⟨hr, hend _ a w (fin listed hs hr) hi⟩
  | succ fuel ih =>
    intro listed a w hs hl hi
    refine ⟨fun hr => hend _ a w (fin listed hs hr) hi, fun i hr => ?_⟩
    obtain ⟨h1, o, ho, hall⟩ := mem_ready.1 hr
    have hlt : i < l.toArray.size := (Array.getElem?_eq_some_iff.1 ho).1
    have h2 : listed.getD i false = false := by
      unfold Array.getD at h1 ⊢
      rw [dif_pos (by omega)] at h1 ⊢
      exact h1
    have h3 := hstep (seen listed) i o a w ho h2 hall hi
    refine wpOp_mono (fun a' w' hi' => ih _ a' w' (by simp [hs]) ?_ ?_) h3
    · have := left_set hlt h2 hs
      omega
    · rw [seen_set (by omega)]
      exact hi'
/-- .. and what has come up is closed: with an operation what it waits for. -/
theorem wp_region_inv2 {id : Nat} {Q : Exit → Act → World → Prop} {a : Act} {w : World} {l : List Oper} (Inv : (Nat → Bool) → Act → World → Prop) (hm : P.follows .mixedOrders = true)
    (hback : (List.range l.toArray.size).all (fun i => match l.toArray[i]? with | some o => o.after.all fun e => !Region.binds .any e || decide (e.on < i) | none => true) = true)
    (h0 : Inv (fun _ => false) a { w with drawn := w.drawn + 1 })
    (hstep : ∀ (L : Nat → Bool) (i : Nat) (o : Oper) (a : Act) (w : World), l.toArray[i]? = some o → L i = false → (∀ e ∈ o.after, Region.binds .any e = true → L e.on = true) → (∀ (j : Nat) (p : Oper), L j = true → l.toArray[j]? = some p → ∀ e ∈ p.after, Region.binds .any e = true → L e.on = true) → Inv L a w → wpOp P l.toArray Q i (fun a' w' => Inv (set L i) a' w') a w)
    (hend : ∀ (L : Nat → Bool) (a : Act) (w : World), (∀ j, j < l.toArray.size → L j = true) → Inv L a w → Q .normal a w) : (Code.region id l.toArray true).wp P Q a w := by
  have back : ∀ (i : Nat) (o : Oper), l.toArray[i]? = some o → ∀ e ∈ o.after, Region.binds .any e = true → e.on < i := fun i o hi e he hb => by
    have h1 := List.all_eq_true.1 hback i (List.mem_range.2 (Array.getElem?_eq_some_iff.1 hi).1)
    simp only [hi] at h1
    have h2 := Array.all_eq_true'.1 h1 e he
    simpa [hb] using h2
  have fin : ∀ (listed : Array Bool), listed.size = l.toArray.size → Region.ready .any l.toArray listed = [] → ∀ j, j < l.toArray.size → seen listed j = true := by
    intro listed hs hr j
    induction j using Nat.strongRecOn with
    | _ j ih =>
      intro hj
      cases hl : seen listed j with
      | true => rfl
      | false =>
        have : j ∈ Region.ready .any l.toArray listed := mem_ready.2 ⟨getD_in (by omega) hl, l.toArray[j], Array.getElem?_eq_getElem hj, fun e he hb => by
          have := back j l.toArray[j] (Array.getElem?_eq_getElem hj) e he hb
          exact ih e.on this (by omega)⟩
        rw [hr] at this
        cases this
  refine wp_region_any hm ?_
  suffices H : ∀ (fuel : Nat) (listed : Array Bool) (a : Act) (w : World), listed.size = l.toArray.size → left l.toArray listed ≤ fuel → (∀ (j : Nat) (p : Oper), seen listed j = true → l.toArray[j]? = some p → ∀ e ∈ p.after, Region.binds .any e = true → seen listed e.on = true) → Inv (seen listed) a w → wpAny P .any l.toArray Q fuel listed a w by
    refine H _ _ _ _ (by simp) ?_ ?_ ?_
    · exact Nat.le_trans (List.countP_le_length) (by simp)
    · intro j p hj
      exact absurd (hj.symm.trans (getD_replicate_false _ _)) (by decide)
    · have : seen (Array.replicate l.toArray.size false) = fun _ => false := by funext j; exact getD_replicate_false _ _
      rw [this]
      exact h0
  intro fuel
  induction fuel with
  | zero =>
    intro listed a w hs hl hcl hi
    have hr := left_zero (md := .any) (Nat.le_zero.1 hl)
    exact ⟨hr, hend _ a w (fin listed hs hr) hi⟩
  | succ fuel ih =>
    intro listed a w hs hl hcl hi
    refine ⟨fun hr => hend _ a w (fin listed hs hr) hi, fun i hr => ?_⟩
    obtain ⟨h1, o, ho, hall⟩ := mem_ready.1 hr
    have hlt : i < l.toArray.size := (Array.getElem?_eq_some_iff.1 ho).1
    have h2 : listed.getD i false = false := by
      unfold Array.getD at h1 ⊢
      rw [dif_pos (by omega)] at h1 ⊢
      exact h1
    have h3 := hstep (seen listed) i o a w ho h2 hall hcl hi
    refine wpOp_mono (fun a' w' hi' => ih _ a' w' (by simp [hs]) ?_ ?_ ?_) h3
    · have := left_set hlt h2 hs
      omega
    · intro j p hj hp e he hb
      rw [seen_set (by omega)] at hj ⊢
      unfold set at hj ⊢
      by_cases e1 : e.on = i
      · rw [if_pos e1]
      · rw [if_neg e1]
        by_cases e2 : j = i
        · subst e2
          obtain rfl := Option.some.inj (ho.symm.trans hp)
          exact hall e he hb
        · rw [if_neg e2] at hj
          exact hcl j p hj hp e he hb
    · rw [seen_set (by omega)]
      exact hi'
/-- An operation that yields a value. -/
theorem step_run {Q : Exit → Act → World → Prop} {i : Nat} {o : Oper} {a : Act} {w : World} {K : Act → World → Prop} (hi : ops[i]? = some o) (hg : o.guard = none)
    (h : ∃ v w', (execOp a.eval o).run P w = .ok (.value v) w' ∧ K (a.put o.dst v) w') : wpOp P ops Q i K a w := by
  obtain ⟨v, w', hr, hk⟩ := h
  unfold wpOp
  rw [hi]
  have hw : Region.wanted o (yielded ops a.tmps) = true := by simp [Region.wanted, hg]
  simp only [hw, if_true]
  left
  unfold Oper.wp
  rw [hr]
  exact hk
/-- A store. -/
theorem step_skip {Q : Exit → Act → World → Prop} {i : Nat} {o : Oper} {a : Act} {w : World} {K : Act → World → Prop} (hi : ops[i]? = some o) (hg : o.guard = none)
    (h : ∃ w', (execOp a.eval o).run P w = .ok .skip w' ∧ K (a.put o.dst undef) w') : wpOp P ops Q i K a w := by
  obtain ⟨w', hr, hk⟩ := h
  unfold wpOp
  rw [hi]
  have hw : Region.wanted o (yielded ops a.tmps) = true := by simp [Region.wanted, hg]
  simp only [hw, if_true]
  left
  unfold Oper.wp
  rw [hr]
  exact hk
/-- The call of a function of the text. -/
theorem step_fn {Q : Exit → Act → World → Prop} {i : Nat} {a : Act} {w : World} {K : Act → World → Prop} {d : Tmp} {l : List Operand} {ts : Array TypeId} {ty : TypeId} {pos : String} {af : Array Edge} {f : FuncId} {fn : Func} (args : Array Value)
    (hi : ops[i]? = some ⟨some d, .call { callee := .value (.func f), args := l.toArray, argTypes := ts }, ty, pos, af, none⟩)
    (hf : P.funcs[f]? = some fn) (hn : (fn.name == "runtime.NumGoroutine") = false) (hb : fn.body.isNone = false) (hargs : (l.map a.eval).toArray = args) (hc : Calls P f args w fun e w' => ∃ v, e = .returned v ∧ K (a.put (some d) v) w') : wpOp P ops Q i K a w := by
  unfold wpOp
  rw [hi]
  have hw : Region.wanted (⟨some d, .call { callee := .value (.func f), args := l.toArray, argTypes := ts }, ty, pos, af, none⟩ : Oper) (yielded ops a.tmps) = true := by simp [Region.wanted]
  simp only [hw, if_true]
  left
  unfold Oper.wp
  rw [Fresh.run_call a.eval rfl hf hn hb rfl, hargs]
  exact hc.mono fun e w' ⟨v, he, hk⟩ => by subst he; exact hk
end Go.Proofs.Ythhjnffbafmkpaa.RegInv

/- Rows of one-cell elements that the call owns, whatever the elements: made, appended to, stored into, read. Imports nothing of the dump. -/
namespace Go.Proofs.Ythhjnffbafmkpaa.Row1
open Go.RowKit
variable {α : Type} {f : α → Value}

/-- The slice v owns the elements l (one cell each, by f; element type T), from block B on. -/
def Owns (f : α → Value) (w : World) (B T : Nat) (v : Value) (l : List α) : Prop := w.ownsRow B T 1 v l.length (l.map f)
/-- The types of such slices: t is the slice type, T the element type, z its zero value, c its bytes. -/
structure ElT (P : Program) (t T : TypeId) (z : Value) (c : Nat) : Prop where
  ht : P.underlying t = some (.slice T)
  hi : (P.info? T).map (fun i => (i.zero, i.size, i.bytes)) = some (some z, 1, c)
  hc : c ≤ 128
  hz : z.cells = #[z]
def One (f : α → Value) : Prop := ∀ x, (f x).oneCell' = true
theorem one_int (k : IntKind) : One (Value.int k) := fun _ => rfl
theorem one_string : One Value.string := fun _ => rfl
theorem one_bool : One Value.bool := fun _ => rfl

theorem Owns.nil (w : World) (B T : Nat) : Owns f w B T (.slice none 0 0) [] := World.ownsRow_nil w B T 1
theorem Owns.made (w : World) (B T : Nat) (hb : B ≤ w.heap.size) : Owns f (w.alloc (.cells #[] T)) B T (.slice (some ⟨w.heap.size, 0, none⟩) 0 0) [] :=
  World.ownsRow_made w #[] 0 hb (Nat.zero_le _) rfl
theorem Owns.alloc {w : World} {B T : Nat} {v : Value} {l : List α} (h : Owns f w B T v l) (o : Obj) : Owns f (w.alloc o) B T v l := World.ownsRow.alloc h o
theorem Owns.drewN {w : World} {B T : Nat} {v : Value} {l : List α} (h : Owns f w B T v l) (n : Nat) : Owns f (w.drewN n) B T v l := h
theorem Owns.drew {w : World} {B T : Nat} {v : Value} {l : List α} (h : Owns f w B T v l) : Owns f w.drew B T v l := h
theorem Owns.lt {w : World} {B T : Nat} {v : Value} {l : List α} (h : Owns f w B T v l) : ∀ k, v.ownBlock = some k → k < w.heap.size := fun k hk => (World.ownsRow.lt h k hk).2
theorem Owns.low {w : World} {B T : Nat} {v : Value} {l : List α} (h : Owns f w B T v l) : ∀ k, v.ownBlock = some k → B ≤ k := fun k hk => (World.ownsRow.lt h k hk).1
/-- A step that writes nothing below C leaves a row below C. -/
theorem Owns.below {w w' : World} {B T C : Nat} {v : Value} {l : List α} (h : Owns f w B T v l) (hb : Below C w w') (hv : ∀ k, v.ownBlock = some k → k < C) : Owns f w' B T v l := by
  refine ⟨h.1, ?_⟩
  rcases h.2 with hn | ⟨g, cap, cur, rfl, hbg, hg, rest⟩
  · exact .inl hn
  · exact .inr ⟨g, cap, cur, rfl, hbg, (hb.block g (hv g rfl)).trans hg, rest⟩
theorem Owns.on {w w' : World} {B T : Nat} {v : Value} {l : List α} (h : Owns f w B T v l) (hb : Below w.heap.size w w') : Owns f w' B T v l := h.below hb h.lt
theorem Owns.base {w : World} {B B' T : Nat} {v : Value} {l : List α} (h : Owns f w B T v l) (hb : B' ≤ B) : Owns f w B' T v l := by
  refine ⟨h.1, ?_⟩
  rcases h.2 with hn | ⟨g, cap, cur, rfl, hbg, hg, rest⟩
  · exact .inl hn
  · exact .inr ⟨g, cap, cur, rfl, Nat.le_trans hb hbg, hg, rest⟩
/-- What such a value looks like. -/
theorem Owns.form {w : World} {B T : Nat} {v : Value} {l : List α} (h : Owns f w B T v l) :
    ∃ a cap, v = .slice a l.length cap ∧ (∀ j (hj : j < l.length), ∃ g, a = some ⟨g, 0, none⟩ ∧ B ≤ g ∧ g < w.heap.size ∧ w.cell? ⟨g, j, none⟩ = some (f l[j]) ∧ w.frozen? ⟨g, j, none⟩ = false) := by
  rcases h.2 with ⟨rfl, h0⟩ | ⟨g, cap, cur, rfl, hbg, hg, hnc, hcm, hcs, htake⟩
  · exact ⟨none, 0, by rw [h0], fun j hj => by omega⟩
  · refine ⟨some ⟨g, 0, none⟩, cap, rfl, fun j hj => ⟨g, rfl, hbg, (Array.getElem?_eq_some_iff.1 hg).1, ?_, frozen_of_row w g j cur T hg⟩⟩
    rw [cell_of_row w g j cur T (0, 0) hg]
    have := congrArg (fun x => x[j]?) htake
    simp only [Nat.mul_one] at this
    rw [List.getElem?_take, if_pos hj] at this
    rw [show cur[j]? = cur.toList[j]? by simp, this]
    simp [hj]
theorem Owns.at {w : World} {B T n cap : Nat} {a : Option Addr} {l : List α} (h : Owns f w B T (.slice a n cap) l) (j : Nat) (hj : j < l.length) :
    ∃ g, a = some ⟨g, 0, none⟩ ∧ B ≤ g ∧ g < w.heap.size ∧ w.cell? ⟨g, j, none⟩ = some (f l[j]) ∧ w.frozen? ⟨g, j, none⟩ = false := by
  obtain ⟨a', cap', hv, kk⟩ := h.form
  cases hv
  exact kk j hj
theorem Owns.cell {w : World} {B T g n cap : Nat} {l : List α} (h : Owns f w B T (.slice (some ⟨g, 0, none⟩) n cap) l) (j : Nat) (hj : j < l.length) :
    w.cell? ⟨g, j, none⟩ = some (f l[j]) ∧ w.frozen? ⟨g, j, none⟩ = false := by
  obtain ⟨g', e, _, _, h1, h2⟩ := h.at j hj
  cases e
  exact ⟨h1, h2⟩
/-- A store into such a row. -/
theorem Owns.stored {w : World} {B T g cap n : Nat} {l : List α} (h : Owns f w B T (.slice (some ⟨g, 0, none⟩) n cap) l) (hn : n = l.length) (j : Nat) (x : α) :
    Owns f (w.setCell ⟨g, j, none⟩ (f x)) B T (.slice (some ⟨g, 0, none⟩) n cap) (l.set j x) := by
  subst hn
  have := (World.ownsRow.stored h j (f x)).1
  unfold Owns
  rw [List.length_set, List.map_set]
  exact this
/-- A store into another row. -/
theorem Owns.beside {w : World} {B T g o : Nat} {v : Value} {l : List α} (h : Owns f w B T v l) (hne : v.ownBlock ≠ some g) (x : Value) :
    Owns f (w.setCell ⟨g, o, none⟩ x) B T v l := by
  refine ⟨h.1, ?_⟩
  rcases h.2 with hn | ⟨g', cap, cur, rfl, hbg, hg, rest⟩
  · exact .inl hn
  · exact .inr ⟨g', cap, cur, rfl, hbg, (Below.heap_setCell _ _ _ _ (fun e => hne (by simp [Value.ownBlock, e]))).trans hg, rest⟩
theorem Owns.zeros {w : World} {B T g n : Nat} {z : α} (h : w.ownsRow B T 1 (.slice (some ⟨g, 0, none⟩) n n) n (madeCells #[f z] (n * 1)).toList) :
    Owns f w B T (.slice (some ⟨g, 0, none⟩) n n) (List.replicate n z) := by
  unfold Owns
  rw [List.length_replicate]
  rw [toList_madeCells_one, Nat.mul_one] at h
  rw [List.map_replicate]
  exact h

theorem run_append1 {P : Program} {t T : TypeId} {z : Value} {cb : Nat} (st : ElT P t T z cb) (hf : One f) (w : World) (ty : TypeId) (B : Nat) (v : Value) (l : List α) (hown : Owns f w B T v l)
    (g c : Nat) (news : List α) (hg : w.heap[g]? = some (.cells (news.map f).toArray T (0, 0))) (hlen : l.length + news.length ≤ 1099511627776) (hbase : B ≤ w.heap.size) :
    ∃ v' w', (Builtin.append_ #[t, t] ty #[v, .slice (some ⟨g, 0, none⟩) news.length c]).run P w = .ok v' w' ∧ Owns f w' B T v' (l ++ news) ∧ w.grownBy w' v.ownBlock := by
  obtain ⟨i0, hi, hz0, hz1, hz2⟩ := info_parts st.hi
  have hmul : (l.length + news.length) * cb ≤ 140737488355328 := Nat.le_trans (Nat.mul_le_mul hlen st.hc) (by omega)
  obtain ⟨v', w', hr, h2, h3, _⟩ := run_append_own (P := P) w B t ty T i0 _ 1 cb st.ht hi hz0 hz1 hz2 (by rw [st.hz]; rfl) (by omega) v l.length (l.map f) hown ⟨g, 0, none⟩ news.length c (news.map f)
    (by simp) (by simpa using World.news_of_block hg) (fun u hu => by obtain ⟨b, _, rfl⟩ := List.mem_map.1 hu; exact hf b) (by unfold maxLen; omega) (by omega) hbase
  refine ⟨v', w', hr, ?_, h3⟩
  unfold Owns
  rw [List.length_append, List.map_append]
  exact h2

theorem wp_append1 {P : Program} {t T : TypeId} {z : Value} {cb : Nat} (st : ElT P t T z cb) (hf : One f) (w : World) {o : Oper} {a : Act} {K : Act → World → Prop} {Q : Exit → Act → World → Prop} (s x : Operand)
    (ho : o.op = .call { callee := .builtin .append, args := #[s, x], argTypes := #[t, t] })
    (B : Nat) (v : Value) (l : List α) (hs : a.eval s = v) (hown : Owns f w B T v l) (g c n : Nat) (news : List α) (hn : n = news.length) (hx : a.eval x = .slice (some ⟨g, 0, none⟩) n c)
    (hg : w.heap[g]? = some (.cells (news.map f).toArray T (0, 0))) (hlen : l.length + news.length ≤ 1099511627776) (hbase : B ≤ w.heap.size)
    (h : ∀ v' w', Owns f w' B T v' (l ++ news) → w.grownBy w' v.ownBlock → K (a.put o.dst v') w') : o.wp P a w K Q := by
  subst hn
  obtain ⟨v', w', hr, h2, h3⟩ := run_append1 st hf w o.type B v l hown g c news hg hlen hbase
  unfold Oper.wp execOp
  simp only [ho, resolve, invoke, builtin, Sem.run_bind, Sem.run_pure, Result.andThen_ok, List.map_toArray, List.map_cons, List.map_nil, hs, hx, hr]
  exact h v' w' h2 h3
/-- An append of new elements, at the list of a plain region's operations. -/
theorem wpList_append1 {P : Program} {t T : TypeId} {z : Value} {cb : Nat} (st : ElT P t T z cb) (hf : One f) (w : World) {ops : Array Oper} {rest : List Oper} {o : Oper} {a : Act} {Q : Exit → Act → World → Prop} (hgd : o.guard = none) (s x : Operand)
    (ho : o.op = .call { callee := .builtin .append, args := #[s, x], argTypes := #[t, t] })
    (B : Nat) (v : Value) (l : List α) (hs : a.eval s = v) (hown : Owns f w B T v l) (g c n : Nat) (news : List α) (hn : n = news.length) (hx : a.eval x = .slice (some ⟨g, 0, none⟩) n c)
    (hg : w.heap[g]? = some (.cells (news.map f).toArray T (0, 0))) (hlen : l.length + news.length ≤ 1099511627776) (hbase : B ≤ w.heap.size)
    (h : ∀ v' w', Owns f w' B T v' (l ++ news) → w.grownBy w' v.ownBlock → wpList P ops Q rest (a.put o.dst v') w') : wpList P ops Q (o :: rest) a w :=
  wpList_plain hgd fun _ hK => wp_append1 st hf w s x ho B v l hs hown g c n news hn hx hg hlen hbase fun v' w' h2 h3 => hK _ _ (h v' w' h2 h3)
/-- .. at a step of a region that draws its order. -/
theorem step_append1 {P : Program} {t T : TypeId} {z : Value} {cb : Nat} (st : ElT P t T z cb) (hf : One f) (w : World) {ops : Array Oper} {o : Oper} {a : Act} {K : Act → World → Prop} {Q : Exit → Act → World → Prop} {E : Prop} (hgd : o.guard = none) (s x : Operand)
    (ho : o.op = .call { callee := .builtin .append, args := #[s, x], argTypes := #[t, t] })
    (B : Nat) (v : Value) (l : List α) (hs : a.eval s = v) (hown : Owns f w B T v l) (g c n : Nat) (news : List α) (hn : n = news.length) (hx : a.eval x = .slice (some ⟨g, 0, none⟩) n c)
    (hg : w.heap[g]? = some (.cells (news.map f).toArray T (0, 0))) (hlen : l.length + news.length ≤ 1099511627776) (hbase : B ≤ w.heap.size)
    (h : ∀ v' w', Owns f w' B T v' (l ++ news) → w.grownBy w' v.ownBlock → K (a.put o.dst v') w') :
    if Region.wanted o (yielded ops a.tmps) = true then Oper.wp P o a w K Q else E := by
  have hw : Region.wanted o (yielded ops a.tmps) = true := by simp [Region.wanted, hgd]
  rw [if_pos hw]
  exact wp_append1 st hf w s x ho B v l hs hown g c n news hn hx hg hlen hbase h
theorem Owns.grown {w w' : World} {B T B0 : Nat} {v : Value} {l : List α} (h : Owns f w B T v l) (hg : w.grownBy w' v.ownBlock) (h0 : B0 ≤ B) (h1 : B0 ≤ w.heap.size) : Below B0 w w' :=
  (Below.refl B0 w).grown hg h1 (fun k hk => Nat.le_trans h0 (h.low k hk))
/-- A row that another row's growth leaves alone. -/
theorem Owns.kept {w w' : World} {B T : Nat} {v : Value} {l : List α} {row : Option Nat} (h : Owns f w B T v l) (hg : w.grownBy w' row) (hne : v.ownBlock = none ∨ v.ownBlock ≠ row) : Owns f w' B T v l :=
  World.ownsRow.kept h hg hne
/-- make([]T, n): a row of n zeros. -/
theorem wpList_make1 {P : Program} {t T : TypeId} {z : α} {cb : Nat} (st : ElT P t T (f z) cb) (w : World) {ops : Array Oper} {rest : List Oper} {o : Oper} {a : Act} {Q : Exit → Act → World → Prop}
    (hg : o.guard = none) (x y : Operand) (hop : o.op = Op.makeSlice t x y) (B : Nat) (kl kc : IntKind) (L C : Int) (n : Nat) (hl : a.eval x = .int kl L) (hc : a.eval y = .int kc C) (hL : L = (n : Int)) (hC : C = (n : Int)) (hn : n ≤ 1099511627776) (hB : B ≤ w.heap.size)
    (hK : ∀ w', Owns f w' B T (.slice (some ⟨w.heap.size, 0, none⟩) n n) (List.replicate n z) → w.grownBy w' none → wpList P ops Q rest (a.put o.dst (.slice (some ⟨w.heap.size, 0, none⟩) n n)) w') :
    wpList P ops Q (o :: rest) a w := by
  obtain ⟨i0, hi, hz0, hz1, hz2⟩ := info_parts st.hi
  refine wpList_make_full w hg x y t hop B T i0 (f z) 1 st.ht hi hz0 hz1 kl kc L C n hl hc hL hC ?_ (by unfold maxLen; omega) hB ?_
  · rw [hz2]; exact Nat.le_trans (Nat.mul_le_mul st.hc hn) (by omega)
  · intro w' hown hgr
    refine hK w' (Owns.zeros ?_) hgr
    rw [← st.hz]; exact hown
end Go.Proofs.Ythhjnffbafmkpaa.Row1

/- Two rows of one-cell elements that grow side by side: an append says which block its answer owns. Imports nothing of the dump. -/
namespace Go.Proofs.Ythhjnffbafmkpaa.Row2
open Go.RowKit Row1
variable {α : Type} {f : α → Value}

theorem run_append1_at {P : Program} {t T : TypeId} {z : Value} {cb : Nat} (st : ElT P t T z cb) (hf : One f) (w : World) (ty : TypeId) (B : Nat) (v : Value) (l : List α) (hown : Owns f w B T v l)
    (g c : Nat) (news : List α) (hg : w.heap[g]? = some (.cells (news.map f).toArray T (0, 0))) (hlen : l.length + news.length ≤ 1099511627776) (hbase : B ≤ w.heap.size) :
    ∃ v' w', (Builtin.append_ #[t, t] ty #[v, .slice (some ⟨g, 0, none⟩) news.length c]).run P w = .ok v' w' ∧ Owns f w' B T v' (l ++ news) ∧ w.grownBy w' v.ownBlock ∧ (v'.ownBlock = v.ownBlock ∨ v'.ownBlock = some w.heap.size) := by
  obtain ⟨i0, hi, hz0, hz1, hz2⟩ := info_parts st.hi
  have hmul : (l.length + news.length) * cb ≤ 140737488355328 := Nat.le_trans (Nat.mul_le_mul hlen st.hc) (by omega)
  obtain ⟨v', w', hr, h2, h3, _, h5⟩ := run_append_own_at (P := P) w B t ty T i0 _ 1 cb st.ht hi hz0 hz1 hz2 (by rw [st.hz]; rfl) (by omega) v l.length (l.map f) hown ⟨g, 0, none⟩ news.length c (news.map f)
    (by simp) (by simpa using World.news_of_block hg) (fun u hu => by obtain ⟨b, _, rfl⟩ := List.mem_map.1 hu; exact hf b) (by unfold maxLen; omega) (by omega) hbase
  refine ⟨v', w', hr, ?_, h3, h5⟩
  unfold Owns
  rw [List.length_append, List.map_append]
  exact h2
theorem wpList_append1_at {P : Program} {t T : TypeId} {z : Value} {cb : Nat} (st : ElT P t T z cb) (hf : One f) (w : World) {ops : Array Oper} {rest : List Oper} {o : Oper} {a : Act} {Q : Exit → Act → World → Prop} (hgd : o.guard = none) (s x : Operand)
    (ho : o.op = .call { callee := .builtin .append, args := #[s, x], argTypes := #[t, t] })
    (B : Nat) (v : Value) (l : List α) (hs : a.eval s = v) (hown : Owns f w B T v l) (g c n : Nat) (news : List α) (hn : n = news.length) (hx : a.eval x = .slice (some ⟨g, 0, none⟩) n c)
    (hg : w.heap[g]? = some (.cells (news.map f).toArray T (0, 0))) (hlen : l.length + news.length ≤ 1099511627776) (hbase : B ≤ w.heap.size)
    (h : ∀ v' w', Owns f w' B T v' (l ++ news) → w.grownBy w' v.ownBlock → (v'.ownBlock = v.ownBlock ∨ v'.ownBlock = some w.heap.size) → wpList P ops Q rest (a.put o.dst v') w') : wpList P ops Q (o :: rest) a w :=
  wpList_plain hgd fun _ hK => by
    subst hn
    obtain ⟨v', w', hr, h2, h3, h5⟩ := run_append1_at st hf w o.type B v l hown g c news hg hlen hbase
    unfold Oper.wp execOp
    simp only [ho, resolve, invoke, builtin, Sem.run_bind, Sem.run_pure, Result.andThen_ok, List.map_toArray, List.map_cons, List.map_nil, hs, hx, hr]
    exact hK _ _ (h v' w' h2 h3 h5)

/-- Two rows in blocks of their own. -/
structure Two (f : α → Value) (T B : Nat) (w : World) (v u : Value) (l m : List α) : Prop where
  a : Owns f w B T v l
  b : Owns f w B T u m
  ne : ∀ k, v.ownBlock = some k → ¬ u.ownBlock = some k
theorem Two.alloc {T B : Nat} {w : World} {v u : Value} {l m : List α} (h : Two f T B w v u l m) (o : Obj) : Two f T B (w.alloc o) v u l m := ⟨h.a.alloc o, h.b.alloc o, h.ne⟩
theorem Two.drewN {T B : Nat} {w : World} {v u : Value} {l m : List α} (h : Two f T B w v u l m) (n : Nat) : Two f T B (w.drewN n) v u l m := ⟨h.a.drewN n, h.b.drewN n, h.ne⟩
theorem Two.swap {T B : Nat} {w : World} {v u : Value} {l m : List α} (h : Two f T B w v u l m) : Two f T B w u v m l := ⟨h.b, h.a, fun k h1 h2 => h.ne k h2 h1⟩
theorem Two.growA {T B : Nat} {w w' : World} {v v' u : Value} {l l' m : List α} (h : Two f T B w v u l m) (ho : Owns f w' B T v' l') (hg : w.grownBy w' v.ownBlock) (hv : v'.ownBlock = v.ownBlock ∨ v'.ownBlock = some w.heap.size) : Two f T B w' v' u l' m := by
  refine ⟨ho, h.b.kept hg ?_, ?_⟩
  · cases hu : u.ownBlock with
    | none => exact .inl rfl
    | some k => exact .inr (fun e => h.ne k e.symm hu)
  · intro k h1 h2
    rcases hv with hv | hv
    · exact h.ne k (hv ▸ h1) h2
    · rw [hv] at h1
      have := h.b.lt k h2
      cases h1
      omega
theorem Two.growB {T B : Nat} {w w' : World} {v u u' : Value} {l m m' : List α} (h : Two f T B w v u l m) (ho : Owns f w' B T u' m') (hg : w.grownBy w' u.ownBlock) (hv : u'.ownBlock = u.ownBlock ∨ u'.ownBlock = some w.heap.size) : Two f T B w' v u' l m' := (h.swap.growA ho hg hv).swap
theorem Two.setA {T B : Nat} {w : World} {p n c : Nat} {u : Value} {l m : List α} (h : Two f T B w (.slice (some ⟨p, 0, none⟩) n c) u l m) (hn : n = l.length) (j : Nat) (x : α) : Two f T B (w.setCell ⟨p, j, none⟩ (f x)) (.slice (some ⟨p, 0, none⟩) n c) u (l.set j x) m :=
  ⟨h.a.stored hn j x, h.b.beside (h.ne p rfl) _, h.ne⟩
theorem Two.setB {T B : Nat} {w : World} {p n c : Nat} {v : Value} {l m : List α} (h : Two f T B w v (.slice (some ⟨p, 0, none⟩) n c) l m) (hn : n = m.length) (j : Nat) (x : α) : Two f T B (w.setCell ⟨p, j, none⟩ (f x)) v (.slice (some ⟨p, 0, none⟩) n c) l (m.set j x) :=
  (h.swap.setA hn j x).swap
end Go.Proofs.Ythhjnffbafmkpaa.Row2

/- make([]T, n) inside a fence: a row of n zeros; make([]T, 0, n): an empty row with room for n. Imports nothing of the dump. -/
namespace Go.Proofs.Ythhjnffbafmkpaa.RowMakeIn
open Go.RowKit RowN
variable {α : Type} {f : α → List Value} {c : Nat}
theorem made_flat (wd : Wide f c) {z : Value} {z0 : α} (hz0 : z.cells.toList = f z0) (hzs : z.cells.size = c) (n : Nat) : (madeCells z.cells (n * c)).toList = (List.replicate n z0).flatMap f := by
  have hlen : ((List.replicate n z0).flatMap f).length = n * c := by rw [flat_len wd, List.length_replicate]
  apply List.ext_getElem?
  intro p
  by_cases hp : p < n * c
  · have hc := wd.pos
    have hdm : p / c * c + p % c = p := by rw [Nat.mul_comm]; exact Nat.div_add_mod p c
    have hq : p / c < n := by rw [Nat.div_lt_iff_lt_mul hc]; exact hp
    have hm : p % c < c := Nat.mod_lt _ hc
    have h1 := flat_get wd (List.replicate n z0) (p / c) (by simpa using hq) (p % c) hm
    rw [hdm] at h1
    rw [h1, List.getElem_replicate, ← hz0]
    simp [madeCells, hp, hzs, hm]
  · rw [List.getElem?_eq_none (by simp [size_madeCells]; omega), List.getElem?_eq_none (by omega)]
theorem wpListIn_makeN {F : Fence} {N : Nat} {P : Program} {t T : TypeId} {z : Value} {z0 : α} {cb : Nat} (st : ElT P t T z c cb) (wd : Wide f c) (hz0 : z.cells.toList = f z0) (w : World) {ops : Array Oper} {rest : List Oper} {o : Oper} {a : Act} {Q : Exit → Act → World → Prop}
    (hg : o.guard = none) (x y : Operand) (hop : o.op = Op.makeSlice t x y) (B : Nat) (kl kc : IntKind) (L C : Int) (n : Nat) (hl : a.eval x = .int kl L) (hc : a.eval y = .int kc C) (hL : L = (n : Int)) (hC : C = (n : Int)) (hn : n ≤ 1099511627776) (hB : B ≤ w.heap.size)
    (hK : ∀ w', Owns f c w' B T (.slice (some ⟨w.heap.size, 0, none⟩) n n) (List.replicate n z0) → w.grownBy w' none → wpListIn F N P ops Q rest (a.put o.dst (.slice (some ⟨w.heap.size, 0, none⟩) n n)) w') :
    wpListIn F N P ops Q (o :: rest) a w := by
  obtain ⟨i0, hi, hz, hz1, hz2⟩ := info_parts st.hi
  refine wpListIn_plain hg fun K hK' => ?_
  obtain ⟨w', hrun, r1, r2⟩ := run_make_full (P := P) w B t T i0 z c st.ht hi hz hz1 kl kc n (by rw [hz2]; exact Nat.le_trans (Nat.mul_le_mul st.hb hn) (by omega)) (by unfold maxLen; omega) hB
  subst hL
  subst hC
  unfold Oper.wpIn
  refine ⟨?_, ?_⟩
  · simp [Oper.about, hop]
  · rw [Oper.semAt_plain F _ _ (by rw [hop]; intro c hc'; cases hc')]
    simp [execOp, hop, hl, hc, hrun, Result.andThen]
    refine hK' _ _ (hK w' ?_ r2)
    unfold Owns
    rw [List.length_replicate, ← made_flat wd hz0 st.hz n]
    exact r1
end Go.Proofs.Ythhjnffbafmkpaa.RowMakeIn
namespace Go.Proofs.Ythhjnffbafmkpaa.RowCap
open Go.RowKit RowN
variable {α : Type} {f : α → List Value} {c : Nat}
theorem wpList_roomN {P : Program} {t T : TypeId} {z : Value} {cb : Nat} (st : ElT P t T z c cb) (w : World) {ops : Array Oper} {rest : List Oper} {o : Oper} {a : Act} {Q : Exit → Act → World → Prop}
    (hg : o.guard = none) (x y : Operand) (hop : o.op = Op.makeSlice t x y) (B : Nat) (kl kc : IntKind) (C : Int) (n : Nat) (hl : a.eval x = .int kl 0) (hc : a.eval y = .int kc C) (hC : C = (n : Int)) (hn : n ≤ 1099511627776) (hB : B ≤ w.heap.size)
    (hK : ∀ w', Owns f c w' B T (.slice (some ⟨w.heap.size, 0, none⟩) 0 n) [] → w.grownBy w' none → wpList P ops Q rest (a.put o.dst (.slice (some ⟨w.heap.size, 0, none⟩) 0 n)) w') :
    wpList P ops Q (o :: rest) a w := by
  obtain ⟨i0, hi, hz, hz1, hz2⟩ := info_parts st.hi
  refine wpList_make_own w hg x y t hop B T i0 z c st.ht hi hz hz1 kl kc C n hl hc hC ?_ (by unfold maxLen; omega) hB fun w' hown hgr => hK w' hown hgr
  rw [hz2]
  exact Nat.le_trans (Nat.mul_le_mul st.hb hn) (by omega)
end Go.Proofs.Ythhjnffbafmkpaa.RowCap

/- append to a row of elements of c cells, inside a fence (a round of a loop over an iterator). Imports nothing of the dump. -/
namespace Go.Proofs.Ythhjnffbafmkpaa.RowNIn
open Go.RowKit RowN
variable {α : Type} {f : α → List Value} {c : Nat}
theorem wpListIn_appendN {F : Fence} {m : Nat} {P : Program} {t T : TypeId} {z : Value} {cb : Nat} (st : ElT P t T z c cb) (wd : Wide f c) (w : World) {ops : Array Oper} {rest : List Oper} {o : Oper} {a : Act} {Q : Exit → Act → World → Prop} (hgd : o.guard = none) (s x : Operand)
    (ho : o.op = .call { callee := .builtin .append, args := #[s, x], argTypes := #[t, t] })
    (B : Nat) (v : Value) (l : List α) (hs : a.eval s = v) (hown : Owns f c w B T v l) (ad : Addr) (k n : Nat) (news : List α) (hn : n = news.length) (hx : a.eval x = .slice (some ad) n k)
    (hg : ∀ j u, (news.flatMap f)[j]? = some u → w.cell? (ad.add j) = some u) (hlen : l.length + news.length ≤ 1099511627776) (hbase : B ≤ w.heap.size)
    (h : ∀ v' w', Owns f c w' B T v' (l ++ news) → w.grownBy w' v.ownBlock → At w v v' → wpListIn F m P ops Q rest (a.put o.dst v') w') : wpListIn F m P ops Q (o :: rest) a w := by
  subst hn
  refine wpListIn_plain hgd fun K hK => ?_
  obtain ⟨v', w', hrun, h2, h3, h4⟩ := run_appendN st wd w o.type B v l hown ad k news hg hlen hbase
  unfold Oper.wpIn
  refine ⟨?_, ?_⟩
  · simp [Oper.about, ho, resolve, Target.leads, Sem.run_pure]
  · rw [Oper.semAt_plain F _ _ (by rw [ho]; intro c hc'; cases hc')]
    simp [execOp, ho, resolve, invoke, builtin, hs, hx, hrun, Result.andThen]
    exact hK _ _ (h v' w' h2 h3 h4)
/-- Behind 'out = append(out, x)' where out lies in the box L, the row's blocks from B on: what the round owes. tmp: the block that holds x. -/
theorem collected {W w1 : World} {n0 B L : Nat} {tl T : TypeId} {v v' : Value} {l l' : List α} {tmp : Obj} (hv : Boxed W L tl v) (hte : tl ≠ T) (hrow : Owns f c W B T v l) (h0 : n0 ≤ L) (hLB : L < B) (hBW : B ≤ W.heap.size)
    (hown : Owns f c w1 B T v' l') (hg : (W.alloc tmp).grownBy w1 v.ownBlock) :
    Boxed w1 L tl v ∧ Boxed (w1.setCell ⟨L, 0, none⟩ v') L tl v' ∧ Owns f c (w1.setCell ⟨L, 0, none⟩ v') B T v' l' ∧ KeepsOthers W (w1.setCell ⟨L, 0, none⟩ v') ∧ Below n0 W (w1.setCell ⟨L, 0, none⟩ v') ∧
      (∀ k, k < B → k ≠ L → (w1.setCell ⟨L, 0, none⟩ v').heap[k]? = W.heap[k]?) := by
  have hr0 : W.ownsRow n0 T c v l.length (l.flatMap f) := hrow.base (B' := n0) (by omega)
  have ho0 : w1.ownsRow n0 T c v' l'.length (l'.flatMap f) := hown.base (B' := n0) (by omega)
  obtain ⟨a1, a2, _, a4, a5⟩ := Boxed.appended hv hte hr0 (by omega) h0 ho0 hg
  refine ⟨a1, a2, hown.beside (fun e => by have := hown.low L e; omega) v', a4, a5, fun k hk hkL => ?_⟩
  rw [Below.heap_setCell _ _ _ _ hkL, hg.block k (by simp; omega) (fun e => by have := hrow.low k e.symm; omega)]
  exact Below.heap_alloc _ _ _ (by omega)
end Go.Proofs.Ythhjnffbafmkpaa.RowNIn

/- What an argument looks like in memory, read off its type: integers, bools, strings, structs of such, slices of such, as deep as they go. Imports nothing of the dump. -/
namespace Go.Proofs.Ythhjnffbafmkpaa.Shape
open Go.RowKit Go.ChangeShapes Go.WideShapes Go.Deep RowN

inductive Sh where
  | int (k : IntKind)
  | bool
  | str
  | sl (e : List Sh)
mutual
/-- The value v has the shape s in the world w. -/
def FitC (w : World) : Sh → Value → Prop
  | .int k, v => ∃ n, v = .int k n ∧ (Lit.int k n).wf = true
  | .bool, v => ∃ b, v = .bool b
  | .str, v => ∃ s : ByteArray, v = .string s ∧ s.size ≤ maxLen
  | .sl e, v => ∃ a len cap, v = .slice a len cap ∧ len ≤ cap ∧ cap ≤ maxLen ∧ ∀ i, i < len → ∃ blk off cs, a = some ⟨blk, off, none⟩ ∧ blk < w.heap.size ∧
      (∀ j, j < e.length → w.cell? ⟨blk, off + i * e.length + j, none⟩ = cs[j]?) ∧ FitL w e cs
def FitL (w : World) : List Sh → List Value → Prop
  | [], vs => vs = []
  | s :: ss, vs => ∃ v rest, vs = v :: rest ∧ FitC w s v ∧ FitL w ss rest
end
theorem FitL.len {w : World} : ∀ {ss : List Sh} {vs : List Value}, FitL w ss vs → vs.length = ss.length
  | [], vs, h => by rw [FitL] at h; subst h; rfl
  | s :: ss, vs, h => by
    rw [FitL] at h
    obtain ⟨v, rest, rfl, _, hr⟩ := h
    simp [hr.len]
theorem FitL.append {w : World} : ∀ {a b : List Sh} {x y : List Value}, FitL w a x → FitL w b y → FitL w (a ++ b) (x ++ y)
  | [], b, x, y, h, k => by rw [FitL] at h; subst h; exact k
  | s :: ss, b, x, y, h, k => by
    rw [FitL] at h
    obtain ⟨v, rest, rfl, hv, hr⟩ := h
    rw [List.cons_append, List.cons_append, FitL]
    exact ⟨v, _, rfl, hv, hr.append k⟩

def joinSh (P : Program) (g : TypeId → Option (List Sh)) : List Field → Nat → Option (List Sh)
  | [], _ => some []
  | f :: fs, o => if f.offset = o then (g f.type).bind fun s => if s.length = P.cellsOf f.type then (joinSh P g fs (o + s.length)).map (s ++ ·) else none else none
def shapeOf (P : Program) : Nat → TypeId → Option (List Sh)
  | 0, _ => none
  | n + 1, t =>
    match P.underlying t with
    | some .bool => some [.bool]
    | some (.int k) => some [.int k]
    | some .string => some [.str]
    | some (.slice e) => (shapeOf P n e).bind fun s => if s.length = P.cellsOf e ∧ 0 < s.length then some [.sl s] else none
    | some (.struct fs) => (joinSh P (shapeOf P n) fs.toList 0).bind fun s => if s.length = P.cellsOf t then some s else none
    | _ => none

section
variable {H : Type} {enc : TypeId × Value → H} {P : Program} {w : World}
theorem join_fit {g : TypeId → Option (List Sh)} (hg : ∀ t s, g t = some s → ∀ fuel cs x, DataW.trod enc P w 0 (fun _ => true) true fuel t cs = some x → FitL w s cs) (cs : List Value) :
    ∀ (fl : List Field) (o : Nat) (shs : List Sh), joinSh P g fl o = some shs → (∀ f ∈ fl, ∃ fuel y, DataW.trod enc P w 0 (fun _ => true) true fuel f.type ((cs.drop f.offset).take (P.cellsOf f.type)) = some y) →
      FitL w shs ((cs.drop o).take shs.length)
  | [], o, shs, h, _ => by
    simp only [joinSh, Option.some.injEq] at h
    subst h
    simp [FitL]
  | f :: fs, o, shs, h, ht => by
    rw [joinSh] at h
    split at h
    · rename_i ho
      obtain ⟨s, hs, h⟩ := Option.bind_eq_some_iff.1 h
      split at h
      · rename_i hl
        obtain ⟨r, hr, h⟩ := Option.map_eq_some_iff.1 h
        subst h
        obtain ⟨fuel, y, hy⟩ := ht f (by simp)
        have h1 := hg _ _ hs _ _ _ hy
        have h2 := join_fit hg cs fs (o + s.length) r hr fun f' hf' => ht f' (by simp [hf'])
        rw [ho, ← hl] at h1
        have e : (cs.drop o).take (s ++ r).length = (cs.drop o).take s.length ++ (cs.drop (o + s.length)).take r.length := by
          rw [List.length_append, List.take_add, List.drop_drop]
        rw [e]
        exact h1.append h2
      · simp at h
    · simp at h
theorem trod_fit : ∀ (n : Nat) (t : TypeId) (shs : List Sh), shapeOf P n t = some shs → ∀ (fuel : Nat) (cs : List Value) (x : DataW H × List MemPlace),
    DataW.trod enc P w 0 (fun _ => true) true fuel t cs = some x → FitL w shs cs
  | 0, _, _, h, _, _, _, _ => by simp [shapeOf] at h
  | n + 1, t, shs, h, fuel, cs, x, ht => by
    rw [shapeOf] at h
    split at h
    · rename_i hu
      cases h
      obtain ⟨b, rfl, _⟩ := DataW.trod_bool hu ht
      exact ⟨_, _, rfl, ⟨b, rfl⟩, rfl⟩
    · rename_i k hu
      cases h
      obtain ⟨m, rfl, _, hw⟩ := DataW.trod_int hu ht
      exact ⟨_, _, rfl, ⟨m, rfl, hw⟩, rfl⟩
    · rename_i hu
      cases h
      obtain ⟨s, rfl, _, hs⟩ := DataW.trod_string hu ht
      exact ⟨_, _, rfl, ⟨s, rfl, hs⟩, rfl⟩
    · rename_i e hu
      obtain ⟨s, hs, h⟩ := Option.bind_eq_some_iff.1 h
      split at h
      · rename_i hl
        cases h
        refine ⟨cs.headD (.bool false), [], ?_, ?_, rfl⟩
        · rcases open_slice hu ht with ⟨rfl, _⟩ | ⟨a, len, cap, m, n', D, Pl, rfl, _⟩ <;> rfl
        · rw [FitC]
          rcases open_slice hu ht with ⟨rfl, _⟩ | ⟨⟨blk, off, spot⟩, len, cap, m, n', D, Pl, rfl, _, hlc, hcm, hm, _, hi⟩
          · exact ⟨none, 0, 0, rfl, Nat.le_refl _, Nat.zero_le _, fun i hi => by omega⟩
          · have hpos : 0 < len → spot = none ∧ blk < w.heap.size := fun hp => by
              obtain ⟨cs', hc, htr⟩ := hi 0 (by rw [hm]; simp; omega)
              obtain ⟨_, hlen, hat⟩ := World.cells?_some hc
              have hcell := hat 0 (by omega)
              have hh : cs'[0]? = some (cs'[0]'(by omega)) := List.getElem?_eq_getElem (by omega)
              rw [hh] at hcell
              have e0 : ((⟨blk, off, spot⟩ : Addr).add (0 * P.cellsOf e)).add 0 = ⟨blk, off, spot⟩ := by simp [Addr.add]
              rw [e0] at hcell
              exact ⟨World.cell?_spot hcell, World.block_lt_of_cell? w _ hcell⟩
            refine ⟨_, len, cap, rfl, hlc, hcm, fun i hil => ?_⟩
            obtain ⟨rfl, hlt⟩ := hpos (by omega)
            obtain ⟨cs', hc, htr⟩ := hi i (by rw [hm]; simp; omega)
            have hf := trod_fit n e s hs _ _ _ htr
            obtain ⟨_, hlen, hat⟩ := World.cells?_some hc
            refine ⟨blk, off, cs', rfl, hlt, fun j hj => ?_, hf⟩
            have := hat j (by omega)
            rw [add_add, ← hl.1] at this
            rw [← this]
            congr 1
            unfold Addr.add
            split
            · rename_i h0
              have h1 : i * s.length = 0 := by omega
              have h2 : j = 0 := by omega
              rw [h1, h2]
              rfl
            · simp [Nat.add_assoc]
      · simp at h
    · rename_i fs hu
      obtain ⟨s, hs, h⟩ := Option.bind_eq_some_iff.1 h
      split at h
      · rename_i hl
        cases h
        obtain ⟨xs, n', _, _, hcl, hxl, hf⟩ := DataW.trod_struct hu ht
        have := join_fit (fun t s hs fuel cs x => trod_fit n t s hs fuel cs x) cs fs.toList 0 shs hs fun f hfm => by
          obtain ⟨j, hj⟩ := List.getElem?_of_mem hfm
          have h1 := hf j f (by simpa using hj)
          have hjl : j < fs.size := by simpa using (List.getElem?_eq_some_iff.1 hj).1
          exact ⟨n', _, h1.trans (List.getElem?_eq_getElem (by omega))⟩
        rw [List.drop_zero, List.take_of_length_le (by omega)] at this
        exact this
      · simp at h
    · simp at h
end
theorem fit_int {w : World} {k : IntKind} {ss : List Sh} {vs : List Value} (h : FitL w (.int k :: ss) vs) : ∃ n rest, vs = .int k n :: rest ∧ (Lit.int k n).wf = true ∧ FitL w ss rest := by
  rw [FitL] at h
  obtain ⟨v, rest, rfl, hc, hr⟩ := h
  rw [FitC] at hc
  obtain ⟨n, rfl, hw⟩ := hc
  exact ⟨n, rest, rfl, hw, hr⟩
theorem fit_bool {w : World} {ss : List Sh} {vs : List Value} (h : FitL w (.bool :: ss) vs) : ∃ b rest, vs = .bool b :: rest ∧ FitL w ss rest := by
  rw [FitL] at h
  obtain ⟨v, rest, rfl, hc, hr⟩ := h
  rw [FitC] at hc
  obtain ⟨n, rfl⟩ := hc
  exact ⟨n, rest, rfl, hr⟩
theorem fit_str {w : World} {ss : List Sh} {vs : List Value} (h : FitL w (.str :: ss) vs) : ∃ (s : ByteArray) (rest : List Value), vs = .string s :: rest ∧ s.size ≤ maxLen ∧ FitL w ss rest := by
  rw [FitL] at h
  obtain ⟨v, rest, rfl, hc, hr⟩ := h
  rw [FitC] at hc
  obtain ⟨n, rfl, hw⟩ := hc
  exact ⟨n, rest, rfl, hw, hr⟩
theorem fit_sl {w : World} {e ss : List Sh} {vs : List Value} (h : FitL w (.sl e :: ss) vs) : ∃ a len cap rest, vs = .slice a len cap :: rest ∧ FitC w (.sl e) (.slice a len cap) ∧ FitL w ss rest := by
  rw [FitL] at h
  obtain ⟨v, rest, rfl, hc, hr⟩ := h
  have h2 := hc
  rw [FitC] at h2
  obtain ⟨a, len, cap, rfl, _⟩ := h2
  exact ⟨a, len, cap, rest, rfl, hc, hr⟩
theorem fit_nil {w : World} {vs : List Value} (h : FitL w [] vs) : vs = [] := by
  rw [FitL] at h
  exact h
/-- A slice that came in, its elements read as l. -/
theorem reads_of {α : Type} {f : α → List Value} {c : Nat} {good : α → Prop} {w : World} {e : List Sh} {a : Option Addr} {len cap : Nat} (hc : e.length = c) (cov : ∀ cs, FitL w e cs → ∃ x, cs = f x ∧ good x) (h : FitC w (.sl e) (.slice a len cap)) :
    ∃ l : List α, l.length = len ∧ Reads f c w a l ∧ len ≤ 9223372036854775807 ∧ ∀ x ∈ l, good x := by
  rw [FitC] at h
  obtain ⟨a', len', cap', hv, h1, h2, h3⟩ := h
  cases hv
  subst hc
  obtain ⟨g, hg⟩ : ∃ g : Nat → Option α, ∀ i, i < len → ∃ x, g i = some x ∧ good x ∧ ∃ blk off, a = some ⟨blk, off, none⟩ ∧ blk < w.heap.size ∧ ∀ j, j < e.length → w.cell? ⟨blk, off + i * e.length + j, none⟩ = (f x)[j]? := by
    have key : ∀ i, ∃ o : Option α, i < len → ∃ x, o = some x ∧ good x ∧ ∃ blk off, a = some ⟨blk, off, none⟩ ∧ blk < w.heap.size ∧ ∀ j, j < e.length → w.cell? ⟨blk, off + i * e.length + j, none⟩ = (f x)[j]? := fun i => by
      by_cases hi : i < len
      · obtain ⟨blk, off, cs, ha, hb, hcell, hf⟩ := h3 i hi
        obtain ⟨x, rfl, hx⟩ := cov cs hf
        exact ⟨some x, fun _ => ⟨x, rfl, hx, blk, off, ha, hb, hcell⟩⟩
      · exact ⟨none, fun h => absurd h hi⟩
    exact ⟨fun i => (key i).choose, fun i => (key i).choose_spec⟩
  have hl : ∀ n, n ≤ len → ∃ l : List α, l.length = n ∧ (∀ i (h : i < l.length), g i = some l[i]) ∧ ∀ x ∈ l, good x := by
    intro n
    induction n with
    | zero => exact fun _ => ⟨[], rfl, fun i h => by simp at h, by simp⟩
    | succ n ih =>
      intro hn
      obtain ⟨l, hl, hq, hgd⟩ := ih (by omega)
      obtain ⟨x, hx, hgx, _⟩ := hg n (by omega)
      refine ⟨l ++ [x], by simp [hl], fun i hi => ?_, fun y hy => ?_⟩
      · by_cases h : i < l.length
        · rw [List.getElem_append_left h]; exact hq i h
        · have : i = n := by simp at hi; omega
          subst this
          rw [List.getElem_concat_length (by omega), hx]
      · rcases List.mem_append.1 hy with h | h
        · exact hgd y h
        · have := List.mem_singleton.1 h; rw [this]; exact hgx
  obtain ⟨l, hl, hq, hgd⟩ := hl len (Nat.le_refl _)
  refine ⟨l, hl, fun j hj => ?_, by unfold maxLen at h2; omega, hgd⟩
  obtain ⟨x, hx, _, blk, off, ha, hb, hcell⟩ := hg j (by omega)
  have : x = l[j] := by have := hq j hj; rw [hx] at this; exact Option.some.inj this
  subst this
  exact ⟨blk, off, ha, hb, hcell⟩
end Go.Proofs.Ythhjnffbafmkpaa.Shape

/- Plain facts on byte rows: a row of bytes that the call owns reads back as a string; the hexadecimal digits. Imports nothing of the dump. -/
namespace Go.Proofs.Ythhjnffbafmkpaa.BytesKit
open Go.RowKit

/-- The cells of a list of bytes. -/
def cellsB (l : List UInt8) : List Value := l.map fun b => Value.int .u8 (b.toNat : Int)
theorem cellsB_app (a b : List UInt8) : cellsB (a ++ b) = cellsB a ++ cellsB b := by simp [cellsB]
theorem cellsB_len (a : List UInt8) : (cellsB a).length = a.length := by simp [cellsB]

/-- The slice v owns the bytes l (element type T), from block B on. -/
def OwnsB (w : World) (B T : Nat) (v : Value) (l : List UInt8) : Prop := w.ownsRow B T 1 v l.length (cellsB l)

theorem OwnsB.str {P : Program} {w : World} {B T : Nat} {v : Value} {l : List UInt8} (h : OwnsB w B T v l) (src dst : TypeId)
    (hs : P.underlying src = some (.slice T)) (he : P.underlying T = some (.int .u8)) (hd : P.underlying dst = some .string) :
    (convert src dst v).run P w = .ok (.string ⟨l.toArray⟩) w := by
  rcases h.2 with ⟨rfl, h0⟩ | ⟨g, cap, cur, rfl, _, hg, _, _, _, htake⟩
  · have : l = [] := List.eq_nil_of_length_eq_zero h0
    subst this
    exact (run_convert_bytes_nil w src T hs he 0 0 dst hd).trans rfl
  · refine run_convert_bytes_back w src dst T ⟨g, 0, none⟩ cap l hs he hd fun j hj => ?_
    have hadd : (⟨g, 0, none⟩ : Addr).add j = ⟨g, j, none⟩ := by unfold Addr.add; split <;> simp_all
    rw [hadd, cell_of_row w g j cur T (0, 0) hg]
    have := congrArg (fun x => x[j]?) htake
    simp only [Nat.mul_one] at this
    rw [List.getElem?_take, if_pos hj] at this
    rw [show cur[j]? = cur.toList[j]? by simp, this]
    simp [cellsB, hj]

theorem OwnsB.nil (w : World) (B T : Nat) : OwnsB w B T (.slice none 0 0) [] := World.ownsRow_nil w B T 1
theorem OwnsB.made (w : World) (B T : Nat) (cur : Array Value) (cap : Nat) (hb : B ≤ w.heap.size) (hm : cap ≤ maxLen) (hs : cur.size = cap) :
    OwnsB (w.alloc (.cells cur T)) B T (.slice (some ⟨w.heap.size, 0, none⟩) 0 cap) [] := World.ownsRow_made w cur cap hb hm (by omega)

/-- The types of a program's byte slices: t is []uint8, T is uint8, r is string. -/
structure ByteTypes (P : Program) (t T r : TypeId) : Prop where
  ht : P.underlying t = some (.slice T)
  hT : P.underlying T = some (.int .u8)
  hr : P.underlying r = some .string
  hi : (P.info? T).map (fun i => (i.zero, i.size, i.bytes)) = some (some (.int .u8 0), 1, 1)

theorem cellsB_one (l : List UInt8) : ∀ u ∈ cellsB l, u.oneCell' = true := by
  intro u hu
  simp only [cellsB, List.mem_map] at hu
  obtain ⟨b, _, rfl⟩ := hu
  rfl

/-- An append of the bytes of a new block, in whatever world. -/
theorem run_append_bytes {P : Program} {t T r : TypeId} (bt : ByteTypes P t T r) (w : World) (ty : TypeId) (B : Nat) (v : Value) (l : List UInt8) (hown : OwnsB w B T v l)
    (g c : Nat) (news : List UInt8) (hg : w.heap[g]? = some (.cells (cellsB news).toArray T (0, 0))) (hlen : l.length + news.length ≤ 1099511627776) (hbase : B ≤ w.heap.size) :
    ∃ v' w', (Builtin.append_ #[t, t] ty #[v, .slice (some ⟨g, 0, none⟩) news.length c]).run P w = .ok v' w' ∧ OwnsB w' B T v' (l ++ news) ∧ Below B w w' := by
  obtain ⟨i0, hi, hz0, hz1, hz2⟩ := info_parts bt.hi
  obtain ⟨v', w', hr, h2, h3, _⟩ := run_append_own (P := P) w B t ty T i0 _ 1 1 bt.ht hi hz0 hz1 hz2 rfl (by omega) v l.length (cellsB l) hown ⟨g, 0, none⟩ news.length c (cellsB news)
    (by simp [cellsB_len]) (by simpa using World.news_of_block hg) (cellsB_one news) (by unfold maxLen; omega) (by omega) hbase
  refine ⟨v', w', hr, ?_, (Below.refl B w).grown h3 hbase (fun k hk => (hown.lt k hk).1)⟩
  unfold OwnsB
  rw [List.length_append, cellsB_app]
  exact h2

theorem wp_append_bytes {P : Program} {t T r : TypeId} (bt : ByteTypes P t T r) (w : World) {o : Oper} {a : Act} {K : Act → World → Prop} {Q : Exit → Act → World → Prop} (s x : Operand)
    (ho : o.op = .call { callee := .builtin .append, args := #[s, x], argTypes := #[t, t] })
    (B : Nat) (v : Value) (l : List UInt8) (hs : a.eval s = v) (hown : OwnsB w B T v l) (g c n : Nat) (news : List UInt8) (hn : n = news.length) (hx : a.eval x = .slice (some ⟨g, 0, none⟩) n c)
    (hg : w.heap[g]? = some (.cells (cellsB news).toArray T (0, 0))) (hlen : l.length + news.length ≤ 1099511627776) (hbase : B ≤ w.heap.size)
    (h : ∀ v' w', OwnsB w' B T v' (l ++ news) → Below B w w' → K (a.put o.dst v') w') : o.wp P a w K Q := by
  subst hn
  obtain ⟨v', w', hr, h2, h3⟩ := run_append_bytes bt w o.type B v l hown g c news hg hlen hbase
  unfold Oper.wp execOp
  simp only [ho, resolve, invoke, builtin, Sem.run_bind, Sem.run_pure, Result.andThen_ok, List.map_toArray, List.map_cons, List.map_nil, hs, hx, hr]
  exact h v' w' h2 h3

/-- .. at the list of a plain region's operations. -/
theorem wpList_append_bytes {P : Program} {t T r : TypeId} (bt : ByteTypes P t T r) (w : World) {ops : Array Oper} {rest : List Oper} {o : Oper} {a : Act} {Q : Exit → Act → World → Prop} (hgd : o.guard = none) (s x : Operand)
    (ho : o.op = .call { callee := .builtin .append, args := #[s, x], argTypes := #[t, t] })
    (B : Nat) (v : Value) (l : List UInt8) (hs : a.eval s = v) (hown : OwnsB w B T v l) (g c n : Nat) (news : List UInt8) (hn : n = news.length) (hx : a.eval x = .slice (some ⟨g, 0, none⟩) n c)
    (hg : w.heap[g]? = some (.cells (cellsB news).toArray T (0, 0))) (hlen : l.length + news.length ≤ 1099511627776) (hbase : B ≤ w.heap.size)
    (h : ∀ v' w', OwnsB w' B T v' (l ++ news) → Below B w w' → wpList P ops Q rest (a.put o.dst v') w') : wpList P ops Q (o :: rest) a w :=
  wpList_plain hgd fun _ hK => wp_append_bytes bt w s x ho B v l hs hown g c n news hn hx hg hlen hbase fun v' w' h2 h3 => hK _ _ (h v' w' h2 h3)

/-- .. at a step of a region that draws its order. -/
theorem step_append_bytes {P : Program} {t T r : TypeId} (bt : ByteTypes P t T r) (w : World) {ops : Array Oper} {o : Oper} {a : Act} {K : Act → World → Prop} {Q : Exit → Act → World → Prop} {E : Prop} (hgd : o.guard = none) (s x : Operand)
    (ho : o.op = .call { callee := .builtin .append, args := #[s, x], argTypes := #[t, t] })
    (B : Nat) (v : Value) (l : List UInt8) (hs : a.eval s = v) (hown : OwnsB w B T v l) (g c n : Nat) (news : List UInt8) (hn : n = news.length) (hx : a.eval x = .slice (some ⟨g, 0, none⟩) n c)
    (hg : w.heap[g]? = some (.cells (cellsB news).toArray T (0, 0))) (hlen : l.length + news.length ≤ 1099511627776) (hbase : B ≤ w.heap.size)
    (h : ∀ v' w', OwnsB w' B T v' (l ++ news) → Below B w w' → K (a.put o.dst v') w') :
    if Region.wanted o (yielded ops a.tmps) = true then Oper.wp P o a w K Q else E := by
  have hw : Region.wanted o (yielded ops a.tmps) = true := by simp [Region.wanted, hgd]
  rw [if_pos hw]
  exact wp_append_bytes bt w s x ho B v l hs hown g c n news hn hx hg hlen hbase h

theorem OwnsB.alloc {w : World} {B T : Nat} {v : Value} {l : List UInt8} (h : OwnsB w B T v l) (o : Obj) : OwnsB (w.alloc o) B T v l := World.ownsRow.alloc h o
theorem OwnsB.drew {w : World} {B T : Nat} {v : Value} {l : List UInt8} (h : OwnsB w B T v l) : OwnsB w.drew B T v l := World.ownsRow.drew h

/-- A step that keeps the row's block. -/
theorem OwnsB.keep {w w' : World} {B T : Nat} {v : Value} {l : List UInt8} (h : OwnsB w B T v l) (hk : ∀ k, B ≤ k → k < w.heap.size → w'.heap[k]? = w.heap[k]?) : OwnsB w' B T v l := by
  refine ⟨h.1, ?_⟩
  rcases h.2 with hn | ⟨g, cap, cur, rfl, hbg, hg, rest⟩
  · exact .inl hn
  · exact .inr ⟨g, cap, cur, rfl, hbg, (hk g hbg (Array.getElem?_eq_some_iff.1 hg).1).trans hg, rest⟩
theorem OwnsB.stored {w : World} {B T g cap n : Nat} {l : List UInt8} (h : OwnsB w B T (.slice (some ⟨g, 0, none⟩) n cap) l) (hn : n = l.length) (j : Nat) (b : UInt8) :
    OwnsB (w.setCell ⟨g, j, none⟩ (.int .u8 (b.toNat : Int))) B T (.slice (some ⟨g, 0, none⟩) n cap) (l.set j b) := by
  subst hn
  have := (World.ownsRow.stored h j (.int .u8 (b.toNat : Int))).1
  unfold OwnsB
  rw [List.length_set, show cellsB (l.set j b) = (cellsB l).set j (.int .u8 (b.toNat : Int)) by simp [cellsB, List.map_set]]
  exact this
theorem OwnsB.at {w : World} {B T g cap n : Nat} {l : List UInt8} (h : OwnsB w B T (.slice (some ⟨g, 0, none⟩) n cap) l) (hn : n = l.length) (j : Nat) (hj : j < n) :
    w.cell? ⟨g, j, none⟩ = some (.int .u8 ((l[j]'(hn ▸ hj)).toNat : Int)) ∧ w.frozen? ⟨g, j, none⟩ = false := by
  subst hn
  refine ⟨?_, World.ownsRow.frozenAt h j⟩
  have := World.ownsRow.cellAt h j (by omega)
  rw [this]
  simp [cellsB, hj]
theorem OwnsB.zeros {w : World} {B T g n : Nat} (h : w.ownsRow B T 1 (.slice (some ⟨g, 0, none⟩) n n) n (madeCells #[Value.int .u8 0] (n * 1)).toList) :
    OwnsB w B T (.slice (some ⟨g, 0, none⟩) n n) (List.replicate n 0) := by
  unfold OwnsB
  rw [List.length_replicate]
  rw [toList_madeCells_one, Nat.mul_one] at h
  rw [show cellsB (List.replicate n 0) = List.replicate n (Value.int .u8 0) by simp [cellsB]]
  exact h

theorem ret_int {k : IntKind} {a b : Int} (h : a = b) : Ending.returned (.int k a) = .returned (.int k b) := by rw [h]

/-- Any bytes' list as the datum of a string. -/
theorem mk_data (s : ByteArray) : (⟨s.data.toList.toArray⟩ : ByteArray) = s := by simp
end Go.Proofs.Ythhjnffbafmkpaa.BytesKit

/- Plain facts on rows of strings that the call owns. Imports nothing of the dump. -/
namespace Go.Proofs.Ythhjnffbafmkpaa.StrKit
open Go.RowKit

def cellsS (l : List ByteArray) : List Value := l.map Value.string
/-- The slice v owns the strings l (element type T), from block B on. -/
def OwnsS (w : World) (B T : Nat) (v : Value) (l : List ByteArray) : Prop := w.ownsRow B T 1 v l.length (cellsS l)
structure StrTypes (P : Program) (t T : TypeId) : Prop where
  ht : P.underlying t = some (.slice T)
  hT : P.underlying T = some .string
  hi : (P.info? T).map (fun i => (i.zero, i.size, i.bytes)) = some (some (.string ⟨#[]⟩), 1, 16)

theorem cellsS_app (a b : List ByteArray) : cellsS (a ++ b) = cellsS a ++ cellsS b := by simp [cellsS]
theorem cellsS_len (a : List ByteArray) : (cellsS a).length = a.length := by simp [cellsS]
theorem cellsS_one (l : List ByteArray) : ∀ u ∈ cellsS l, u.oneCell' = true := by
  intro u hu
  simp only [cellsS, List.mem_map] at hu
  obtain ⟨b, _, rfl⟩ := hu
  rfl
theorem OwnsS.nil (w : World) (B T : Nat) : OwnsS w B T (.slice none 0 0) [] := World.ownsRow_nil w B T 1
theorem OwnsS.made (w : World) (B T : Nat) (hb : B ≤ w.heap.size) : OwnsS (w.alloc (.cells #[] T)) B T (.slice (some ⟨w.heap.size, 0, none⟩) 0 0) [] :=
  World.ownsRow_made w #[] 0 hb (Nat.zero_le _) rfl
theorem OwnsS.alloc {w : World} {B T : Nat} {v : Value} {l : List ByteArray} (h : OwnsS w B T v l) (o : Obj) : OwnsS (w.alloc o) B T v l := World.ownsRow.alloc h o
theorem OwnsS.drewN {w : World} {B T : Nat} {v : Value} {l : List ByteArray} (h : OwnsS w B T v l) (n : Nat) : OwnsS (w.drewN n) B T v l := h
/-- A step that writes nothing below C leaves a row below C. -/
theorem OwnsS.below {w w' : World} {B T C : Nat} {v : Value} {l : List ByteArray} (h : OwnsS w B T v l) (hb : Below C w w') (hv : ∀ k, v.ownBlock = some k → k < C) : OwnsS w' B T v l := by
  refine ⟨h.1, ?_⟩
  rcases h.2 with hn | ⟨g, cap, cur, rfl, hbg, hg, rest⟩
  · exact .inl hn
  · exact .inr ⟨g, cap, cur, rfl, hbg, (hb.block g (hv g rfl)).trans hg, rest⟩
theorem OwnsS.lt {w : World} {B T : Nat} {v : Value} {l : List ByteArray} (h : OwnsS w B T v l) : ∀ k, v.ownBlock = some k → k < w.heap.size := fun k hk => (World.ownsRow.lt h k hk).2
/-- What such a value looks like. -/
theorem OwnsS.form {w : World} {B T : Nat} {v : Value} {l : List ByteArray} (h : OwnsS w B T v l) :
    ∃ a cap, v = .slice a l.length cap ∧ (∀ j (hj : j < l.length), ∃ g, a = some ⟨g, 0, none⟩ ∧ B ≤ g ∧ g < w.heap.size ∧ w.cell? ⟨g, j, none⟩ = some (.string l[j]) ∧ w.frozen? ⟨g, j, none⟩ = false) := by
  rcases h.2 with ⟨rfl, h0⟩ | ⟨g, cap, cur, rfl, hbg, hg, hnc, hcm, hcs, htake⟩
  · exact ⟨none, 0, by rw [h0], fun j hj => by omega⟩
  · refine ⟨some ⟨g, 0, none⟩, cap, rfl, fun j hj => ⟨g, rfl, hbg, (Array.getElem?_eq_some_iff.1 hg).1, ?_, frozen_of_row w g j cur T hg⟩⟩
    rw [cell_of_row w g j cur T (0, 0) hg]
    have := congrArg (fun x => x[j]?) htake
    simp only [Nat.mul_one] at this
    rw [List.getElem?_take, if_pos hj] at this
    rw [show cur[j]? = cur.toList[j]? by simp, this]
    simp [cellsS, hj]
theorem OwnsS.at {w : World} {B T n cap : Nat} {a : Option Addr} {l : List ByteArray} (h : OwnsS w B T (.slice a n cap) l) (j : Nat) (hj : j < l.length) :
    ∃ g, a = some ⟨g, 0, none⟩ ∧ B ≤ g ∧ g < w.heap.size ∧ w.cell? ⟨g, j, none⟩ = some (.string l[j]) ∧ w.frozen? ⟨g, j, none⟩ = false := by
  obtain ⟨a', cap', hv, kk⟩ := h.form
  cases hv
  exact kk j hj
/-- A store into such a row. -/
theorem OwnsS.stored {w : World} {B T g cap n : Nat} {l : List ByteArray} (h : OwnsS w B T (.slice (some ⟨g, 0, none⟩) n cap) l) (hn : n = l.length) (j : Nat) (b : ByteArray) :
    OwnsS (w.setCell ⟨g, j, none⟩ (.string b)) B T (.slice (some ⟨g, 0, none⟩) n cap) (l.set j b) := by
  subst hn
  have := (World.ownsRow.stored h j (.string b)).1
  unfold OwnsS
  rw [List.length_set, show cellsS (l.set j b) = (cellsS l).set j (.string b) by simp [cellsS, List.map_set]]
  exact this

theorem run_append_str {P : Program} {t T : TypeId} (st : StrTypes P t T) (w : World) (ty : TypeId) (B : Nat) (v : Value) (l : List ByteArray) (hown : OwnsS w B T v l)
    (g c : Nat) (b : ByteArray) (hg : w.heap[g]? = some (.cells #[.string b] T (0, 0))) (hlen : l.length + 1 ≤ 1099511627776) (hbase : B ≤ w.heap.size) :
    ∃ v' w', (Builtin.append_ #[t, t] ty #[v, .slice (some ⟨g, 0, none⟩) 1 c]).run P w = .ok v' w' ∧ OwnsS w' B T v' (l ++ [b]) ∧ w.grownBy w' v.ownBlock := by
  obtain ⟨i0, hi, hz0, hz1, hz2⟩ := info_parts st.hi
  obtain ⟨v', w', hr, h2, h3, _⟩ := run_append_own (P := P) w B t ty T i0 _ 1 16 st.ht hi hz0 hz1 hz2 rfl (by omega) v l.length (cellsS l) hown ⟨g, 0, none⟩ 1 c (cellsS [b])
    rfl (World.news_of_block hg) (cellsS_one [b]) (by unfold maxLen; omega) (by omega) hbase
  refine ⟨v', w', hr, ?_, h3⟩
  unfold OwnsS
  rw [List.length_append, cellsS_app]
  exact h2

/-- An append of one string, at the list of a plain region's operations. -/
theorem wpList_append_str {P : Program} {t T : TypeId} (st : StrTypes P t T) (w : World) {ops : Array Oper} {rest : List Oper} {o : Oper} {a : Act} {Q : Exit → Act → World → Prop} (hgd : o.guard = none) (s x : Operand)
    (ho : o.op = .call { callee := .builtin .append, args := #[s, x], argTypes := #[t, t] })
    (B : Nat) (v : Value) (l : List ByteArray) (hs : a.eval s = v) (hown : OwnsS w B T v l) (g c : Nat) (b : ByteArray) (hx : a.eval x = .slice (some ⟨g, 0, none⟩) 1 c)
    (hg : w.heap[g]? = some (.cells #[.string b] T (0, 0))) (hlen : l.length + 1 ≤ 1099511627776) (hbase : B ≤ w.heap.size)
    (h : ∀ v' w', OwnsS w' B T v' (l ++ [b]) → Below B w w' → wpList P ops Q rest (a.put o.dst v') w') : wpList P ops Q (o :: rest) a w := by
  refine wpList_plain hgd fun K hK => ?_
  obtain ⟨v', w', hr, h2, h3⟩ := run_append_str st w o.type B v l hown g c b hg hlen hbase
  unfold Oper.wp execOp
  simp only [ho, resolve, invoke, builtin, Sem.run_bind, Sem.run_pure, Result.andThen_ok, List.map_toArray, List.map_cons, List.map_nil, hs, hx, hr]
  exact hK _ _ (h v' w' h2 ((Below.refl B w).grown h3 hbase (fun k hk => (World.ownsRow.lt hown k hk).1)))
end Go.Proofs.Ythhjnffbafmkpaa.StrKit

/- An append of a code that came in (nil or not) onto bytes that the call owns: the result is a code again. Imports nothing of the dump. -/
namespace Go.Proofs.Ythhjnffbafmkpaa.AppendCode
open Go.RowKit BytesKit CurKit

theorem codes {w : World} {a : Option Addr} {len : Nat} (h : CodeAt w a len) : ∃ news : List UInt8, news.length = len ∧ ∀ j, (hj : j < len) → ∀ x : Addr, a = some x → w.cell? (x.add j) = some (.int .u8 ((news.getD j 0).toNat : Int)) := by
  induction len with
  | zero => exact ⟨[], rfl, fun j hj => by omega⟩
  | succ m ih =>
    obtain ⟨ns, hl, hc⟩ := ih (fun j hj => h j (by omega))
    obtain ⟨blk, off, n, ha, hb, hcell, h0, h1⟩ := h m (by omega)
    refine ⟨ns ++ [UInt8.ofNat n.toNat], by simp [hl], fun j hj x hx => ?_⟩
    by_cases hjm : j < m
    · have := hc j hjm x hx
      rw [this]
      congr 4
      simp [List.getD, List.getElem?_append_left (show j < ns.length by omega)]
    · obtain rfl : j = m := by omega
      rw [ha] at hx
      obtain rfl := Option.some.inj hx
      have e : (⟨blk, off, none⟩ : Addr).add j = ⟨blk, off + j, none⟩ := by unfold Addr.add; split <;> simp_all
      rw [e, hcell]
      have e2 : (ns ++ [UInt8.ofNat n.toNat]).getD j 0 = UInt8.ofNat n.toNat := by
        subst hl
        simp [List.getD]
      rw [e2]
      congr 2
      have : (UInt8.ofNat n.toNat).toNat = n.toNat := by
        rw [UInt8.toNat_ofNat']; omega
      omega

theorem run_append_code {P : Program} {t T r : TypeId} (bt : ByteTypes P t T r) (w : World) (ty : TypeId) (B : Nat) (v : Value) (l : List UInt8) (hown : OwnsB w B T v l)
    (a : Option Addr) (len cap : Nat) (hcode : CodeAt w a len) (hnil : a = none → len = 0 ∧ cap = 0) (hlen : l.length + len ≤ 1099511627776) (hbase : B ≤ w.heap.size) :
    ∃ v' w' news, (Builtin.append_ #[t, t] ty #[v, .slice a len cap]).run P w = .ok v' w' ∧ news.length = len ∧ OwnsB w' B T v' (l ++ news) ∧ Below B w w' := by
  obtain ⟨i0, hi, hz0, hz1, hz2⟩ := info_parts bt.hi
  cases a with
  | none =>
    obtain ⟨rfl, rfl⟩ := hnil rfl
    exact ⟨v, w, [], run_append_owned_none (P := P) (w := w) B t ty T i0 1 bt.ht hi v l.length (cellsB l) hown, rfl, by simpa using hown, Below.refl _ _⟩
  | some x =>
    obtain ⟨news, hl, hc⟩ := codes hcode
    obtain ⟨v', w', hr, h2, h3, _⟩ := run_append_own (P := P) w B t ty T i0 _ 1 1 bt.ht hi hz0 hz1 hz2 rfl (by omega) v l.length (cellsB l) hown x len cap (cellsB news)
      (by simp [cellsB_len, hl]) (fun j u hu => by
        have hj : j < news.length := by
          rcases Nat.lt_or_ge j news.length with h | h
          · exact h
          · rw [List.getElem?_eq_none (by simpa [cellsB_len] using h)] at hu; cases hu
        rw [hc j (by omega) x rfl, ← hu]
        simp [cellsB, List.getD, hj]) (cellsB_one news) (by unfold maxLen; omega) (by omega) hbase
    refine ⟨v', w', news, hr, hl, ?_, (Below.refl B w).grown h3 hbase (fun k hk => (hown.lt k hk).1)⟩
    unfold OwnsB
    rw [List.length_append, cellsB_app, hl]
    exact h2

theorem wpList_append_code {P : Program} {t T r : TypeId} (bt : ByteTypes P t T r) (w : World) {ops : Array Oper} {rest : List Oper} {o : Oper} {a : Act} {Q : Exit → Act → World → Prop} (hgd : o.guard = none) (s x : Operand)
    (ho : o.op = .call { callee := .builtin .append, args := #[s, x], argTypes := #[t, t] })
    (B : Nat) (v : Value) (l : List UInt8) (hs : a.eval s = v) (hown : OwnsB w B T v l) (ad : Option Addr) (len cap : Nat) (hx : a.eval x = .slice ad len cap)
    (hcode : CodeAt w ad len) (hnil : ad = none → len = 0 ∧ cap = 0) (hlen : l.length + len ≤ 1099511627776) (hbase : B ≤ w.heap.size)
    (h : ∀ v' w' news, news.length = len → OwnsB w' B T v' (l ++ news) → Below B w w' → wpList P ops Q rest (a.put o.dst v') w') : wpList P ops Q (o :: rest) a w := by
  refine wpList_plain hgd fun K hK => ?_
  obtain ⟨v', w', news, hr, h1, h2, h3⟩ := run_append_code bt w o.type B v l hown ad len cap hcode hnil hlen hbase
  unfold Oper.wp execOp
  simp only [ho, resolve, invoke, builtin, Sem.run_bind, Sem.run_pure, Result.andThen_ok, List.map_toArray, List.map_cons, List.map_nil, hs, hx, hr]
  exact hK _ _ (h v' w' news h1 h2 h3)

/-- The bytes of a slice literal that the call has just laid. -/
theorem lit_own (w : World) (T : TypeId) (l : List UInt8) (h : l.length ≤ 1048576) : OwnsB (w.alloc (.cells (cellsB l).toArray T)) w.heap.size T (.slice (some ⟨w.heap.size, 0, none⟩) l.length l.length) l := by
  refine ⟨by simp [cellsB_len], .inr ⟨w.heap.size, l.length, (cellsB l).toArray, rfl, Nat.le_refl _, heap_alloc_new w _, Nat.le_refl _, by unfold maxLen; omega, by simp [cellsB_len], ?_⟩⟩
  rw [Nat.mul_one, ← cellsB_len l, List.take_length]
/-- Owned bytes are a code, with a form. -/
theorem own_code {w : World} {B T : Nat} {v : Value} {l : List UInt8} (h : OwnsB w B T v l) (hl : 0 < l.length) : ∃ g cap, v = .slice (some ⟨g, 0, none⟩) l.length cap ∧ B ≤ g ∧ CodeAt w (some ⟨g, 0, none⟩) l.length := by
  rcases h.2 with ⟨_, h0⟩ | ⟨g, cap, cur, rfl, hb, hg, hcap, _, hs, _⟩
  · omega
  · refine ⟨g, cap, rfl, hb, fun j hj => ⟨g, 0, ((l[j]'hj).toNat : Int), rfl, (Array.getElem?_eq_some_iff.1 hg).1, ?_, by omega, by have := UInt8.toNat_lt (l[j]'hj); omega⟩⟩
    rw [Nat.zero_add]
    exact (h.at rfl j hj).1
theorem code_below {w w' : World} {a : Option Addr} {len : Nat} (h : CodeAt w a len) (hb : Below w.heap.size w w') : CodeAt w' a len := fun j hj => by
  obtain ⟨blk, off, n, h1, h2, h3, h4⟩ := h j hj
  exact ⟨blk, off, n, h1, Nat.lt_of_lt_of_le h2 hb.size, by rw [hb.cell (p := ⟨blk, off + j, none⟩) h2]; exact h3, h4⟩
/-- A struct's block and a literal's bytes are laid: the bytes are owned, the code reads on. -/
theorem lit_code {a : Option Addr} {len : Nat} {l : List UInt8} (w : World) (o : Obj) (T : TypeId) (h : CodeAt w a len) (hl : l.length ≤ 1048576) :
    OwnsB ((w.alloc o).alloc (.cells (cellsB l).toArray T)) (w.heap.size + 1) T (.slice (some ⟨w.heap.size + 1, 0, none⟩) l.length l.length) l ∧ CodeAt ((w.alloc o).alloc (.cells (cellsB l).toArray T)) a len := by
  have e : (w.alloc o).heap.size = w.heap.size + 1 := by simp
  refine ⟨?_, code_below h (((Below.refl _ _).alloc (Nat.le_refl _) _).alloc (by simp) _)⟩
  have := lit_own (w.alloc o) T l hl
  rw [e] at this
  exact this
end Go.Proofs.Ythhjnffbafmkpaa.AppendCode

/- Plain mathematics of fractions: validity, lowest terms, the valid fraction of a quotient; numbers alone. Imports nothing of the dump. -/
namespace Go.Proofs.Ythhjnffbafmkpaa.FracMath

/-- lo ≤ x ≤ hi, as a Bool. -/
def inB (x lo hi : Int) : Bool := decide (lo ≤ x ∧ x ≤ hi)
theorem inB_yes {x lo hi : Int} (h1 : lo ≤ x) (h2 : x ≤ hi) : inB x lo hi = true := by simp [inB, h1, h2]
theorem inB_no1 {x lo hi : Int} (h1 : ¬ lo ≤ x) : inB x lo hi = false := by simp [inB, h1]
theorem inB_no2 {x lo hi : Int} (h1 : ¬ x ≤ hi) : inB x lo hi = false := by simp [inB, h1]
/-- Is n/d a valid fraction? -/
def okB (n d : Int) : Bool := decide ((1 ≤ d ∧ d ≤ 1000000) ∧ (-1000000000000 ≤ n ∧ n ≤ 1000000000000) ∧ (Int.gcd n d : Int) = 1)
theorem okB_iff {n d : Int} : okB n d = true ↔ (1 ≤ d ∧ d ≤ 1000000) ∧ (-1000000000000 ≤ n ∧ n ≤ 1000000000000) ∧ (Int.gcd n d : Int) = 1 := by simp [okB]
theorem okB_yes {n d : Int} (h1 : 1 ≤ d) (h2 : d ≤ 1000000) (h3 : -1000000000000 ≤ n) (h4 : n ≤ 1000000000000) (h5 : (Int.gcd n d : Int) = 1) : okB n d = true := okB_iff.2 ⟨⟨h1, h2⟩, ⟨h3, h4⟩, h5⟩
theorem okB_no {n d : Int} (h : ¬ ((1 ≤ d ∧ d ≤ 1000000) ∧ (-1000000000000 ≤ n ∧ n ≤ 1000000000000) ∧ (Int.gcd n d : Int) = 1)) : okB n d = false := by simp only [okB, decide_eq_false_iff_not]; exact h
/-- n with the sign of d. -/
def sg (d n : Int) : Int := if d < 0 then -n else n
def lowN (n d : Int) : Int := sg d n / (Int.gcd n d : Int)
def lowD (n d : Int) : Int := sg d d / (Int.gcd n d : Int)
def fitB (n d : Int) : Bool := decide (lowD n d ≤ 1000000 ∧ (-1000000000000 ≤ lowN n d ∧ lowN n d ≤ 1000000000000))
/-- The valid fraction with the value n/d, and true; or zeros and false. -/
def red (n d : Int) : Int × Int × Bool := if d ≠ 0 ∧ fitB n d = true then (lowN n d, lowD n d, true) else (0, 0, false)
def none3 : Int × Int × Bool := (0, 0, false)

theorem gcd_step (a b : Int) : Int.gcd b (a.tmod b) = Int.gcd a b := by
  have e : a.tmod b = a - a.tdiv b * b := by have := Int.tdiv_mul_add_tmod a b; omega
  rw [e, Int.gcd_comm a b, Int.gcd_sub_mul_right_right]
theorem gcd_pos {n d : Int} (h : d ≠ 0) : 0 < (Int.gcd n d : Int) := by
  have : Int.gcd n d ≠ 0 := fun e => h (Int.gcd_eq_zero_iff.1 e).2
  omega
theorem gcd_le {n d : Int} (h : d ≠ 0) (B : Int) (h1 : -B ≤ d) (h2 : d ≤ B) : (Int.gcd n d : Int) ≤ B := by
  have := Int.gcd_le_natAbs_right n h
  omega
theorem sg_pos {d : Int} (h : 0 < d) (n : Int) : sg d n = n := by simp [sg]; omega
theorem sg_neg {d : Int} (h : d < 0) (n : Int) : sg d n = -n := by simp [sg, h]
theorem dvd_sgN (n d : Int) : (Int.gcd n d : Int) ∣ sg d n := by
  unfold sg; split
  · exact (Int.dvd_neg).2 (Int.gcd_dvd_left n d)
  · exact Int.gcd_dvd_left n d
theorem dvd_sgD (n d : Int) : (Int.gcd n d : Int) ∣ sg d d := by
  unfold sg; split
  · exact (Int.dvd_neg).2 (Int.gcd_dvd_right n d)
  · exact Int.gcd_dvd_right n d
theorem sgD_pos {d : Int} (h : d ≠ 0) : 0 < sg d d := by unfold sg; split <;> omega
theorem lowD_pos {n d : Int} (h : d ≠ 0) : 1 ≤ lowD n d := by
  have h1 := gcd_pos (n := n) h
  have h2 := Int.le_of_dvd (sgD_pos h) (dvd_sgD n d)
  unfold lowD
  exact Int.le_ediv_of_mul_le h1 (by omega)
theorem gcd_sg (n d : Int) : Int.gcd (sg d n) (sg d d) = Int.gcd n d := by unfold sg; split <;> simp
theorem low_gcd {n d : Int} (h : d ≠ 0) : Int.gcd (lowN n d) (lowD n d) = 1 := by
  have h1 : 0 < Int.gcd n d := by have := gcd_pos (n := n) h; omega
  unfold lowN lowD
  have := Int.gcd_ediv_gcd_ediv_gcd (i := sg d n) (j := sg d d) (by rw [gcd_sg]; exact h1)
  rwa [gcd_sg] at this
/-- The two tests after the division agree with 'valid'. -/
theorem fit_ok {n d : Int} (h : d ≠ 0) : okB (lowN n d) (lowD n d) = fitB n d := by
  have h1 := lowD_pos (n := n) h
  have h2 := low_gcd (n := n) h
  unfold okB fitB
  rw [h2]
  simp [h1]
theorem red_yes {n d : Int} (h : d ≠ 0) (hf : fitB n d = true) : red n d = (lowN n d, lowD n d, true) := by simp [red, h, hf]
theorem red_no {n d : Int} (hf : fitB n d = false) : red n d = (0, 0, false) := by simp [red, hf]
theorem red_zero (n : Int) : red n 0 = (0, 0, false) := by simp [red]
theorem tdiv_exact {a b : Int} (h : b ∣ a) : a.tdiv b = a / b := by
  obtain ⟨c, rfl⟩ := h
  by_cases hb : b = 0
  · subst hb; simp
  · rw [Int.mul_tdiv_cancel_left _ hb, Int.mul_ediv_cancel_left _ hb]
/-- What the two programs divide. -/
theorem lowN_pos {n d : Int} (h : 0 < d) : n.tdiv (Int.gcd n d : Int) = lowN n d := by
  rw [tdiv_exact (Int.gcd_dvd_left n d)]; unfold lowN; rw [sg_pos h]
theorem lowD_pos' {n d : Int} (h : 0 < d) : d.tdiv (Int.gcd n d : Int) = lowD n d := by
  rw [tdiv_exact (Int.gcd_dvd_right n d)]; unfold lowD; rw [sg_pos h]
theorem lowN_neg {n d : Int} (h : d < 0) : n.tdiv (-(Int.gcd n d : Int)) = lowN n d := by
  rw [Int.tdiv_neg, ← Int.neg_tdiv, tdiv_exact ((Int.dvd_neg).2 (Int.gcd_dvd_left n d))]; unfold lowN; rw [sg_neg h]
theorem lowD_neg {n d : Int} (h : d < 0) : d.tdiv (-(Int.gcd n d : Int)) = lowD n d := by
  rw [Int.tdiv_neg, ← Int.neg_tdiv, tdiv_exact ((Int.dvd_neg).2 (Int.gcd_dvd_right n d))]; unfold lowD; rw [sg_neg h]
/-- A common factor changes nothing. -/
theorem low_mul {k n d : Int} (hk : 0 < k) : lowN (k * n) (k * d) = lowN n d ∧ lowD (k * n) (k * d) = lowD n d := by
  have hs : ∀ x, sg (k * d) (k * x) = k * sg d x := fun x => by
    unfold sg
    by_cases h : d < 0
    · rw [if_pos h, if_pos (Int.mul_neg_of_pos_of_neg hk h), Int.mul_neg]
    · rw [if_neg h, if_neg (by have := Int.mul_nonneg (Int.le_of_lt hk) (show 0 ≤ d by omega); omega)]
  have hg : ((Int.gcd (k * n) (k * d) : Nat) : Int) = k * (Int.gcd n d : Int) := by
    rw [Int.gcd_mul_left, Int.natCast_mul]; congr 1; omega
  unfold lowN lowD
  rw [hs, hs, hg, Int.mul_ediv_mul_of_pos _ _ hk, Int.mul_ediv_mul_of_pos _ _ hk]
  exact ⟨rfl, rfl⟩
theorem red_mul {k n d : Int} (hk : 0 < k) : red (k * n) (k * d) = red n d := by
  obtain ⟨h1, h2⟩ := low_mul (n := n) (d := d) hk
  have h3 : k * d ≠ 0 ↔ d ≠ 0 := by
    refine ⟨fun h e => h (by rw [e, Int.mul_zero]), fun h e => ?_⟩
    rcases Int.mul_eq_zero.1 e with e | e
    · omega
    · exact h e
  unfold red fitB
  rw [h1, h2]
  simp only [h3]
theorem red_neg (n d : Int) : red (-n) (-d) = red n d := by
  have hs : ∀ x, d ≠ 0 → sg (-d) (-x) = sg d x := fun x h0 => by
    unfold sg
    by_cases h : d < 0
    · rw [if_pos h, if_neg (by omega)]
    · rw [if_neg h, if_pos (by omega)]; omega
  by_cases h0 : d = 0
  · subst h0; simp [red]
  · have h1 : lowN (-n) (-d) = lowN n d := by unfold lowN; rw [hs _ h0]; simp
    have h2 : lowD (-n) (-d) = lowD n d := by unfold lowD; rw [hs _ h0]; simp
    unfold red fitB
    rw [h1, h2]
    simp [h0]
/-- A valid fraction is its own. -/
theorem red_ok {n d : Int} (h : okB n d = true) : red n d = (n, d, true) := by
  obtain ⟨⟨h1, h2⟩, ⟨h3, h4⟩, h5⟩ := okB_iff.1 h
  have e1 : lowN n d = n := by unfold lowN; rw [sg_pos (by omega), h5]; simp
  have e2 : lowD n d = d := by unfold lowD; rw [sg_pos (by omega), h5]; simp
  have hf : fitB n d = true := by unfold fitB; rw [e1, e2]; simp [h2, h3, h4]
  rw [red_yes (by omega) hf, e1, e2]
/-- What comes out is valid or nothing. -/
theorem red_okB {n d : Int} (h : (red n d).2.2 = true) : okB (red n d).1 (red n d).2.1 = true := by
  unfold red at h ⊢
  split at h
  · rename_i hh
    rw [if_pos hh]
    show okB (lowN n d) (lowD n d) = true
    rw [fit_ok hh.1]; exact hh.2
  · simp at h
/-- The cross product tells the value. -/
theorem red_cross {n d : Int} (h : (red n d).2.2 = true) : (red n d).1 * d = n * (red n d).2.1 := by
  unfold red at h ⊢
  split at h
  · rename_i hh
    rw [if_pos hh]
    show lowN n d * d = n * lowD n d
    have hg := gcd_pos (n := n) hh.1
    obtain ⟨x, hx⟩ := dvd_sgN n d
    obtain ⟨y, hy⟩ := dvd_sgD n d
    have e1 : lowN n d = x := by unfold lowN; rw [hx, Int.mul_ediv_cancel_left _ (by omega)]
    have e2 : lowD n d = y := by unfold lowD; rw [hy, Int.mul_ediv_cancel_left _ (by omega)]
    rw [e1, e2]
    unfold sg at hx hy
    split at hx
    · rw [if_pos (by assumption)] at hy
      have a1 : n = -((Int.gcd n d : Int) * x) := by omega
      have a2 : d = -((Int.gcd n d : Int) * y) := by omega
      have : x * -((Int.gcd n d : Int) * y) = -((Int.gcd n d : Int) * x) * y := by
        rw [Int.mul_neg, Int.neg_mul, ← Int.mul_assoc, Int.mul_comm x]
      rw [← a1, ← a2] at this
      exact this
    · rw [if_neg (by assumption)] at hy
      have : x * ((Int.gcd n d : Int) * y) = ((Int.gcd n d : Int) * x) * y := by
        rw [← Int.mul_assoc, Int.mul_comm x]
      rw [← hx, ← hy] at this
      exact this
  · simp at h
theorem red_parts {n d N D : Int} (h : d ≠ 0) (hN : lowN n d = N) (hD : lowD n d = D) :
    (D ≤ 1000000 → -1000000000000 ≤ N → N ≤ 1000000000000 → red n d = (N, D, true)) ∧ (¬ (D ≤ 1000000 ∧ (-1000000000000 ≤ N ∧ N ≤ 1000000000000)) → red n d = (0, 0, false)) := by
  subst hN hD
  refine ⟨fun a b c => red_yes h (by simp [fitB, a, b, c]), fun k => red_no ?_⟩
  unfold fitB; exact decide_eq_false k
theorem tdiv_bd (n g B : Int) (h1 : -B ≤ n) (h2 : n ≤ B) : -B ≤ n.tdiv g ∧ n.tdiv g ≤ B := by
  have e : (n.tdiv g).natAbs ≤ n.natAbs := by rw [Int.natAbs_tdiv]; exact Nat.div_le_self _ _
  omega
theorem mul_bd {x y A B : Int} (h1 : -A ≤ x) (h2 : x ≤ A) (h3 : 0 ≤ y) (h4 : y ≤ B) (hA : 0 ≤ A) : -(A * B) ≤ x * y ∧ x * y ≤ A * B := by
  have k1 : x * y ≤ A * y := Int.mul_le_mul_of_nonneg_right h2 h3
  have k2 : (-A) * y ≤ x * y := Int.mul_le_mul_of_nonneg_right h1 h3
  have k3 : A * y ≤ A * B := Int.mul_le_mul_of_nonneg_left h4 hA
  rw [Int.neg_mul] at k2
  omega
theorem mul_bd' {x y A B : Int} (h1 : -A ≤ x) (h2 : x ≤ A) (h3 : -B ≤ y) (h4 : y ≤ B) (hA : 0 ≤ A) : -(A * B) ≤ x * y ∧ x * y ≤ A * B := by
  by_cases h : 0 ≤ y
  · exact mul_bd h1 h2 h h4 hA
  · have k := mul_bd (y := -y) h1 h2 (by omega) (by omega : -y ≤ B) hA
    rw [Int.mul_neg] at k
    omega
/-- The two are fractions fit for a product. -/
def facB (n d : Int) : Bool := okB n d && inB n (-1000000) 1000000
theorem fac_bd {n d : Int} (h : facB n d = true) : 1 ≤ d ∧ d ≤ 1000000 ∧ -1000000 ≤ n ∧ n ≤ 1000000 := by
  simp only [facB, inB, Bool.and_eq_true, decide_eq_true_eq] at h
  have := okB_iff.1 h.1; omega
def sumR (a b c d : Int) : Int × Int × Bool := if okB a b = true ∧ okB c d = true then red (a * d + c * b) (b * d) else (0, 0, false)
def subR (a b c d : Int) : Int × Int × Bool := if okB a b = true ∧ okB c d = true then red (a * d + -c * b) (b * d) else (0, 0, false)
def mulR (a b c d : Int) : Int × Int × Bool := if facB a b = true ∧ facB c d = true then red (a * c) (b * d) else (0, 0, false)
def divR (a b c d : Int) : Int × Int × Bool := if facB a b = true ∧ facB c d = true then red (a * d) (b * c) else (0, 0, false)
def newR (n d : Int) : Int × Int × Bool := if (-1000000000000 ≤ n ∧ n ≤ 1000000000000) ∧ (-1000000000000 ≤ d ∧ d ≤ 1000000000000) then red n d else (0, 0, false)
def sgnI (x : Int) : Int := if x < 0 then -1 else if 0 < x then 1 else 0
def cmpI (a b c d : Int) : Int := if okB a b = true ∧ okB c d = true then sgnI (a * d + -c * b) else 2
theorem ok_bd {n d : Int} (h : okB n d = true) : 1 ≤ d ∧ d ≤ 1000000 ∧ -1000000000000 ≤ n ∧ n ≤ 1000000000000 := by
  have := okB_iff.1 h; omega
/-- The terms of a sum of two valid fractions fit. -/
theorem sum_bd {a b c d : Int} (h : okB a b = true) (k : okB c d = true) :
    (-1000000000000000000 ≤ a * d ∧ a * d ≤ 1000000000000000000) ∧ (-1000000000000000000 ≤ c * b ∧ c * b ≤ 1000000000000000000) ∧ (1 ≤ b * d ∧ b * d ≤ 1000000000000) := by
  obtain ⟨h1, h2, h3, h4⟩ := ok_bd h
  obtain ⟨k1, k2, k3, k4⟩ := ok_bd k
  have e1 := mul_bd h3 h4 (by omega : 0 ≤ d) k2 (by omega)
  have e2 := mul_bd k3 k4 (by omega : 0 ≤ b) h2 (by omega)
  have e3 := mul_bd (x := b) (y := d) (A := 1000000) (by omega) h2 (by omega : 0 ≤ d) k2 (by omega)
  have e4 : 0 < b * d := Int.mul_pos (by omega) (by omega)
  omega
theorem sum_spec {a b c d : Int} (hb : 0 < b) (hd : 0 < d) :
    red (a * (d / (Int.gcd b d : Int)) + c * (b / (Int.gcd b d : Int))) (b / (Int.gcd b d : Int) * d) = red (a * d + c * b) (b * d) := by
  have hg := gcd_pos (n := b) (d := d) (by omega)
  obtain ⟨x, hx⟩ := Int.gcd_dvd_left b d
  obtain ⟨y, hy⟩ := Int.gcd_dvd_right b d
  obtain ⟨g, hG⟩ : ∃ g : Int, (Int.gcd b d : Int) = g := ⟨_, rfl⟩
  rw [hG] at hx hy hg ⊢
  rw [← red_mul (k := g) hg]
  clear hG
  subst hx hy
  rw [Int.mul_ediv_cancel_left _ (by omega), Int.mul_ediv_cancel_left _ (by omega)]
  have e1 : g * (a * y + c * x) = a * (g * y) + c * (g * x) := by
    rw [Int.mul_add, ← Int.mul_assoc g, ← Int.mul_assoc g, Int.mul_comm g a, Int.mul_comm g c, Int.mul_assoc, Int.mul_assoc]
  have e2 : g * (x * (g * y)) = g * x * (g * y) := by rw [Int.mul_assoc]
  rw [e1, e2]
/-- A fraction as it is drawn. -/
structure SmallF (n d : Int) : Prop where
  ok : okB n d = true
  n1 : -1000 ≤ n
  n2 : n ≤ 1000
  d1 : 1 ≤ d
  d2 : d ≤ 60
theorem low_le {n d : Int} (h : 0 < d) (N : Int) (h1 : -N ≤ n) (h2 : n ≤ N) : (-N ≤ lowN n d ∧ lowN n d ≤ N) ∧ lowD n d ≤ d := by
  have e1 := lowN_pos (n := n) h
  have e2 := lowD_pos' (n := n) h
  have b1 := tdiv_bd n (Int.gcd n d : Int) N h1 h2
  have b2 := tdiv_bd d (Int.gcd n d : Int) d (by omega) (by omega)
  rw [e1] at b1
  rw [e2] at b2
  exact ⟨b1, b2.2⟩
theorem new_small {n d : Int} (h1 : -1000 ≤ n) (h2 : n ≤ 1000) (h3 : 1 ≤ d) (h4 : d ≤ 60) : ∃ x y, newR n d = (x, y, true) ∧ SmallF x y := by
  obtain ⟨b1, b2⟩ := low_le (n := n) (d := d) (by omega) 1000 h1 h2
  have hf : fitB n d = true := by unfold fitB; simp; omega
  refine ⟨lowN n d, lowD n d, ?_, ?_, b1.1, b1.2, lowD_pos (by omega), by omega⟩
  · unfold newR
    rw [if_pos (by omega), red_yes (by omega) hf]
  · rw [fit_ok (by omega), hf]
end Go.Proofs.Ythhjnffbafmkpaa.FracMath

/- A block of two integers in memory, and what keeps it. Imports nothing of the dump. -/
namespace Go.Proofs.Ythhjnffbafmkpaa.FracBlk
open Go.RowKit
structure FB (w : World) (n : Nat) (x y : Int) : Prop where
  lt : n < w.heap.size
  c0 : w.cell? ⟨n, 0, none⟩ = some (.int .i64 x)
  c1 : w.cell? ⟨n, 1, none⟩ = some (.int .i64 y)
variable {w w' : World} {n B : Nat} {x y : Int}
theorem FB.below (h : FB w n x y) (hb : Below B w w') (hn : n < B) : FB w' n x y :=
  ⟨Nat.lt_of_lt_of_le h.lt hb.size, (hb.cell (p := ⟨n, 0, none⟩) hn).trans h.c0, (hb.cell (p := ⟨n, 1, none⟩) hn).trans h.c1⟩
theorem FB.on (h : FB w n x y) (hb : Below w.heap.size w w') : FB w' n x y := h.below hb h.lt
theorem FB.alloc (h : FB w n x y) (o : Obj) : FB (w.alloc o) n x y := h.below ((Below.refl w.heap.size w).alloc (Nat.le_refl _) o) h.lt
theorem FB.drew (h : FB w n x y) : FB w.drew n x y := ⟨h.lt, h.c0, h.c1⟩
theorem FB.new (w : World) (T : TypeId) (x y : Int) : FB (w.alloc (.cells #[.int .i64 x, .int .i64 y] T)) w.heap.size x y := ⟨by simp, by simp [go_sem], by simp [go_sem]⟩
end Go.Proofs.Ythhjnffbafmkpaa.FracBlk

/- Plain mathematics of small fractions: sums and differences undo each other, so do products and quotients; the order is that of the differences. Imports nothing of the dump. -/
namespace Go.Proofs.Ythhjnffbafmkpaa.FracOrder
open FracMath

theorem red_eq {N D a b : Int} (hD : 0 < D) (hb : 0 < b) (h : N * b = a * D) : red N D = red a b := by
  rw [← red_mul (k := b) hb, Int.mul_comm b N, h, Int.mul_comm a D, Int.mul_comm b D, red_mul hD]
/-- What comes out of small terms fits. -/
theorem red_fit {n d : Int} (hd : 0 < d) (N : Int) (hN : N ≤ 1000000000000) (h1 : -N ≤ n) (h2 : n ≤ N) (h3 : d ≤ 1000000) :
    ∃ x y, red n d = (x, y, true) ∧ okB x y = true ∧ x * d = n * y ∧ 1 ≤ y ∧ y ≤ d ∧ -N ≤ x ∧ x ≤ N := by
  obtain ⟨⟨b1, b2⟩, b3⟩ := low_le (n := n) (d := d) hd N h1 h2
  have hf : fitB n d = true := by unfold fitB; simp; omega
  have hr := red_yes (n := n) (d := d) (by omega) hf
  have hc := red_cross (n := n) (d := d) (by rw [hr])
  have ho := red_okB (n := n) (d := d) (by rw [hr])
  rw [hr] at hc ho
  exact ⟨_, _, hr, ho, hc, lowD_pos (by omega), b3, b1, b2⟩

theorem ok_small {n d : Int} (h : SmallF n d) : okB n d = true := h.ok
theorem prod_bd {a d : Int} (h1 : -1000 ≤ a) (h2 : a ≤ 1000) (h3 : 1 ≤ d) (h4 : d ≤ 60) : -60000 ≤ a * d ∧ a * d ≤ 60000 := by
  have := mul_bd (x := a) (y := d) (A := 1000) (B := 60) h1 h2 (by omega) h4 (by omega)
  omega
theorem den_bd {b d : Int} (h1 : 1 ≤ b) (h2 : b ≤ 60) (h3 : 1 ≤ d) (h4 : d ≤ 60) : 0 < b * d ∧ b * d ≤ 3600 := by
  have := mul_bd (x := b) (y := d) (A := 60) (B := 60) (by omega) h2 (by omega) h4 (by omega)
  exact ⟨Int.mul_pos (by omega) (by omega), by omega⟩

theorem sum_small {a b c d : Int} (h : SmallF a b) (k : SmallF c d) : ∃ x y, sumR a b c d = (x, y, true) ∧ okB x y = true ∧ subR x y c d = (a, b, true) := by
  obtain ⟨m1, m2⟩ := prod_bd h.n1 h.n2 k.d1 k.d2
  obtain ⟨m3, m4⟩ := prod_bd k.n1 k.n2 h.d1 h.d2
  obtain ⟨m5, m6⟩ := den_bd h.d1 h.d2 k.d1 k.d2
  obtain ⟨x, y, hr, ho, hx, hy, _⟩ := red_fit (n := a * d + c * b) (d := b * d) m5 120000 (by omega) (by omega) (by omega) (by omega)
  have hd := k.d1
  have hb := h.d1
  refine ⟨x, y, by simp only [sumR, h.ok, k.ok, and_self, if_true, hr], ho, ?_⟩
  simp only [subR, ho, k.ok, and_self, if_true]
  rw [red_eq (a := a) (b := b) (Int.mul_pos (by omega) (by omega)) (by omega), red_ok h.ok]
  have e : x * (b * d) = (a * d + c * b) * y := hx
  have e1 : (x * d + -c * y) * b = x * (b * d) + -(c * b * y) := by
    rw [Int.add_mul, Int.neg_mul, Int.neg_mul, Int.mul_assoc x d b, Int.mul_comm d b, Int.mul_assoc c y b, Int.mul_comm y b, Int.mul_assoc c b y]
  rw [e1, e, Int.add_mul, Int.mul_assoc a d y, Int.mul_comm d y]
  omega

theorem mul_small {a b c d : Int} (h : SmallF a b) (k : SmallF c d) :
    ∃ x y, mulR a b c d = (x, y, true) ∧ (c = 0 → x = 0) ∧ (c ≠ 0 → divR x y c d = (a, b, true)) := by
  have hd := k.d1
  have hb := h.d1
  have m1 := mul_bd' (x := a) (y := c) (A := 1000) (B := 1000) h.n1 h.n2 k.n1 k.n2 (by omega)
  obtain ⟨m5, m6⟩ := den_bd h.d1 h.d2 k.d1 k.d2
  obtain ⟨x, y, hr, ho, hx, hy1, hy2, hx1, hx2⟩ := red_fit (n := a * c) (d := b * d) m5 1000000 (by omega) (by omega) (by omega) (by omega)
  have f1 : facB a b = true := by simp only [facB, h.ok, Bool.true_and]; exact inB_yes (by have := h.n1; omega) (by have := h.n2; omega)
  have f2 : facB c d = true := by simp only [facB, k.ok, Bool.true_and]; exact inB_yes (by have := k.n1; omega) (by have := k.n2; omega)
  have f3 : facB x y = true := by simp only [facB, ho, Bool.true_and]; exact inB_yes (by omega) (by omega)
  refine ⟨x, y, by simp only [mulR, f1, f2, and_self, if_true, hr], fun h0 => ?_, fun h0 => ?_⟩
  · subst h0
    rw [Int.mul_zero, Int.zero_mul] at hx
    rcases Int.mul_eq_zero.1 hx with e | e
    · exact e
    · omega
  · simp only [divR, f3, f2, and_self, if_true]
    have e : x * d * b = a * (y * c) := by
      rw [Int.mul_assoc, Int.mul_comm d b, hx, Int.mul_assoc, Int.mul_comm c y]
    by_cases hc : 0 < c
    · rw [red_eq (a := a) (b := b) (Int.mul_pos (by omega) hc) (by omega) e, red_ok h.ok]
    · rw [← red_neg, red_eq (a := a) (b := b) (D := -(y * c)) (by have := Int.mul_pos (show 0 < y by omega) (show 0 < -c by omega); rw [Int.mul_neg] at this; omega) (by omega) (by rw [Int.neg_mul, e, Int.mul_neg]), red_ok h.ok]

theorem div_zero (a b d : Int) : divR a b 0 d = (0, 0, false) := by
  unfold divR
  rw [Int.mul_zero, red_zero]
  split <;> rfl
theorem cmp_same {a b : Int} (h : okB a b = true) : cmpI a b a b = 0 := by
  simp only [cmpI, h, and_self, if_true]
  have : a * b + -a * b = 0 := by rw [Int.neg_mul]; omega
  rw [this]; rfl

theorem new_three {a b : Int} (h : SmallF a b) : newR (-3 * a) (-3 * b) = (a, b, true) := by
  have h1 := h.n1
  have h2 := h.n2
  have h3 := h.d1
  have h4 := h.d2
  have e1 : -3 * a = -(3 * a) := by omega
  have e2 : -3 * b = -(3 * b) := by omega
  simp only [newR]
  rw [if_pos (by omega), e1, e2, red_neg, red_mul (by omega), red_ok h.ok]

/-- The order of two fractions, and the sign of their difference. -/
theorem order_small {a b c d : Int} (h : SmallF a b) (k : SmallF c d) : ∃ x y, subR a b c d = (x, y, true) ∧
    ((cmpI a b c d = -1 ∧ cmpI c d a b = 1 ∧ x < 0) ∨ (cmpI a b c d = 0 ∧ cmpI c d a b = 0 ∧ x = 0) ∨ (cmpI a b c d = 1 ∧ cmpI c d a b = -1 ∧ 0 < x)) := by
  obtain ⟨m1, m2⟩ := prod_bd h.n1 h.n2 k.d1 k.d2
  obtain ⟨m3, m4⟩ := prod_bd k.n1 k.n2 h.d1 h.d2
  obtain ⟨m5, m6⟩ := den_bd h.d1 h.d2 k.d1 k.d2
  have en : -c * b = -(c * b) := Int.neg_mul c b
  have en2 : -a * d = -(a * d) := Int.neg_mul a d
  obtain ⟨x, y, hr, ho, hx, hy, _⟩ := red_fit (n := a * d + -c * b) (d := b * d) m5 120000 (by omega) (by omega) (by omega) (by omega)
  refine ⟨x, y, by simp only [subR, h.ok, k.ok, and_self, if_true, hr], ?_⟩
  simp only [cmpI, h.ok, k.ok, and_self, if_true]
  rw [en, en2] at *
  unfold sgnI
  rcases Int.lt_trichotomy (a * d) (c * b) with g | g | g
  · left
    refine ⟨by rw [if_pos (by omega)], by rw [if_neg (by omega), if_pos (by omega)], ?_⟩
    have : (a * d + -(c * b)) * y < 0 := Int.mul_neg_of_neg_of_pos (by omega) (by omega)
    rcases Int.lt_trichotomy x 0 with q | q | q
    · exact q
    · subst q; rw [Int.zero_mul] at hx; omega
    · have := Int.mul_pos q m5; omega
  · right; left
    refine ⟨by rw [if_neg (by omega), if_neg (by omega)], by rw [if_neg (by omega), if_neg (by omega)], ?_⟩
    have e : a * d + -(c * b) = 0 := by omega
    rw [e, Int.zero_mul] at hx
    rcases Int.mul_eq_zero.1 hx with q | q
    · exact q
    · omega
  · right; right
    refine ⟨by rw [if_neg (by omega), if_pos (by omega)], by rw [if_pos (by omega)], ?_⟩
    have : 0 < (a * d + -(c * b)) * y := Int.mul_pos (by omega) (by omega)
    rcases Int.lt_trichotomy x 0 with q | q | q
    · have := Int.mul_neg_of_neg_of_pos q m5; omega
    · subst q; rw [Int.zero_mul] at hx; omega
    · exact q
end Go.Proofs.Ythhjnffbafmkpaa.FracOrder

/- Hexadecimal digits as plain functions on bytes. Imports nothing of the dump. -/
namespace Go.Proofs.Ythhjnffbafmkpaa.HexMath

/-- The digit of n (below 16). -/
def fig (n : Nat) : UInt8 := if n < 10 then UInt8.ofNat (48 + n) else UInt8.ofNat (87 + n)
/-- The encoding of a list of bytes. -/
def enc (l : List UInt8) : List UInt8 := l.flatMap fun b => [fig (b.toNat / 16), fig (b.toNat % 16)]
theorem enc_len (l : List UInt8) : (enc l).length = 2 * l.length := by
  induction l with
  | nil => rfl
  | cons a l ih => simp only [enc, List.flatMap_cons, List.length_append, List.length_cons, List.length_nil] at *; omega
theorem enc_snoc (l : List UInt8) (b : UInt8) : enc (l ++ [b]) = enc l ++ [fig (b.toNat / 16), fig (b.toNat % 16)] := by simp [enc]
theorem take_snoc (s : ByteArray) (k : Nat) (h : k < s.size) : s.data.toList.take (k + 1) = s.data.toList.take k ++ [s[k]] := by
  rw [List.take_succ_eq_append_getElem (by simpa using h)]; rfl
theorem figI (n : Nat) (h : n < 16) : ((fig n).toNat : Int) = if n < 10 then 48 + (n : Int) else 87 + n := by
  unfold fig
  split
  · simp [UInt8.toNat_ofNat']; omega
  · simp [UInt8.toNat_ofNat']; omega
theorem tdiv_byte (c : Nat) (h : c < 256) : IntKind.i64.wrap ((c : Int).tdiv 16) = ((c / 16 : Nat) : Int) := by
  rw [Int.tdiv_eq_ediv_of_nonneg (by omega)]
  exact IntWalk.i64_in _ (by omega)
theorem tmod_byte (c : Nat) (h : c < 256) : IntKind.i64.wrap ((c : Int).tmod 16) = ((c % 16 : Nat) : Int) := by
  rw [Int.tmod_eq_emod_of_nonneg (by omega)]
  exact IntWalk.i64_in _ (by omega)
theorem enc_step (s : ByteArray) (k c : Nat) (h : k < s.size) (hc : s[k].toNat = c) : enc (s.data.toList.take (k + 1)) = enc (s.data.toList.take k) ++ [fig ((c : Int) / 16).toNat, fig ((c : Int) % 16).toNat] := by
  rw [take_snoc s k h, enc_snoc, hc]
  have h1 : ((c : Int) / 16).toNat = c / 16 := by omega
  have h2 : ((c : Int) % 16).toNat = c % 16 := by omega
  rw [h1, h2]
theorem take_all (s : ByteArray) (k : Nat) (h : s.size ≤ k) : s.data.toList.take k = s.data.toList := List.take_of_length_le (by simpa using h)
/-- The program's table of digits, as a string. -/
abbrev digits : ByteArray := ⟨#[48, 49, 50, 51, 52, 53, 54, 55, 56, 57, 97, 98, 99, 100, 101, 102]⟩
theorem digits_size : digits.size = 16 := rfl
theorem digits_at (x : Int) (h0 : 0 ≤ x) (h1 : x < 16) (p : x.toNat < digits.size) : digits[x.toNat]'p = fig x.toNat := by
  have H : ∀ n : Fin 16, digits[n.val]'(by rw [digits_size]; exact n.isLt) = fig n.val := by decide
  exact H ⟨x.toNat, by omega⟩
theorem and15 (c : Nat) (h : c < 256) : bits BinOp.and .u8 (c : Int) 15 = (c : Int) % 16 := by
  have H : ∀ n : Fin 256, bits BinOp.and .u8 ((n.val : Nat) : Int) 15 = ((n.val : Nat) : Int) % 16 := by decide +kernel
  exact H ⟨c, h⟩
end Go.Proofs.Ythhjnffbafmkpaa.HexMath

/- Decoding hexadecimal text as a plain function on bytes. Imports nothing of the dump. -/
namespace Go.Proofs.Ythhjnffbafmkpaa.HexDecMath
open HexMath

/-- The value of a digit, or -1. -/
def valI (n : Int) : Int := if 48 ≤ n ∧ n ≤ 57 then n - 48 else if 97 ≤ n ∧ n ≤ 102 then n - 87 else -1
theorem valI_lt (n : Int) : valI n < 16 ∧ -1 ≤ valI n := by unfold valI; split <;> (try split) <;> omega
def val (b : UInt8) : Int := valI (b.toNat : Int)
/-- An integer as a byte. -/
def b8 (x : Int) : UInt8 := UInt8.ofNat x.toNat
/-- The decoding of a list of digits, two at a time (a last single one is left out), or none. -/
def dec : List UInt8 → Option (List UInt8)
  | a :: b :: r => if 0 ≤ val a ∧ 0 ≤ val b then (dec r).map (b8 (16 * val a + val b) :: ·) else none
  | _ => some []
theorem dec_app : ∀ (l1 l2 : List UInt8), l1.length % 2 = 0 → dec (l1 ++ l2) = (dec l1).bind fun o => (dec l2).map (o ++ ·)
  | [], l2, _ => by simp [dec]
  | [a], l2, h => by simp at h
  | a :: b :: r, l2, h => by
    have ih := dec_app r l2 (by simp at h; omega)
    simp only [List.cons_append, dec]
    by_cases hv : 0 ≤ val a ∧ 0 ≤ val b
    · rw [if_pos hv, if_pos hv, ih]
      cases dec r <;> cases dec l2 <;> simp
    · rw [if_neg hv, if_neg hv]
      simp
/-- What the function answers. -/
def res (r : Option (List UInt8)) : Value := match r with | some l => .tuple #[.string ⟨l.toArray⟩, .bool true] | none => .tuple #[.string ⟨#[]⟩, .bool false]
def decS (s : ByteArray) : Option (List UInt8) := if 40000 < s.size ∨ s.size % 2 ≠ 0 then none else dec s.data.toList

theorem split2 (s : ByteArray) (k : Nat) (h : k + 1 < s.size) : s.data.toList = s.data.toList.take k ++ (s[k] :: s[k + 1] :: s.data.toList.drop (k + 2)) := by
  have h1 := List.take_append_drop k s.data.toList
  have h2 : s.data.toList.drop k = s[k] :: s.data.toList.drop (k + 1) := by rw [List.drop_eq_getElem_cons (by simp; omega)]; rfl
  have h3 : s.data.toList.drop (k + 1) = s[k + 1] :: s.data.toList.drop (k + 2) := by rw [List.drop_eq_getElem_cons (by simp; omega)]; rfl
  rw [h2, h3] at h1
  exact h1.symm
theorem dec_fail (s : ByteArray) (k c d : Nat) (h : k + 1 < s.size) (hk : k % 2 = 0) (hc : s[k].toNat = c) (hd : s[k + 1].toNat = d) (hv : valI (c : Int) < 0 ∨ valI (d : Int) < 0) : dec s.data.toList = none := by
  rw [split2 s k h, dec_app _ _ (by simp; omega)]
  have : dec (s[k] :: s[k + 1] :: s.data.toList.drop (k + 2)) = none := by
    simp only [dec]
    rw [if_neg (by unfold val; rw [hc, hd]; omega)]
  rw [this]
  cases dec (s.data.toList.take k) <;> simp
theorem dec_step (s : ByteArray) (k c d : Nat) (o : List UInt8) (h : k + 1 < s.size) (hk : k % 2 = 0) (hc : s[k].toNat = c) (hd : s[k + 1].toNat = d) (h1 : 0 ≤ valI (c : Int)) (h2 : 0 ≤ valI (d : Int))
    (ho : dec (s.data.toList.take k) = some o) : dec (s.data.toList.take (k + 2)) = some (o ++ [b8 (16 * valI (c : Int) + valI (d : Int))]) := by
  have e : s.data.toList.take (k + 2) = s.data.toList.take k ++ [s[k], s[k + 1]] := by
    rw [take_snoc s (k + 1) h, take_snoc s k (by omega), List.append_assoc]; rfl
  rw [e, dec_app _ _ (by simp; omega), ho]
  have : dec [s[k], s[k + 1]] = some [b8 (16 * valI (c : Int) + valI (d : Int))] := by
    simp only [dec]
    rw [if_pos (by unfold val; rw [hc, hd]; omega)]
    simp [val, hc, hd]
  rw [this]
  simp
theorem byte_val (x : Int) (h0 : 0 ≤ x) (h1 : x < 256) : ((b8 x).toNat : Int) = x := by simp [b8, UInt8.toNat_ofNat']; omega
theorem or_low (c d : Int) (h0 : 0 ≤ c) (h1 : c < 16) (h2 : 0 ≤ d) (h3 : d < 16) : bits BinOp.or .u8 (c * 16) d = 16 * c + d := by
  have H : ∀ a : Fin 16, ∀ b : Fin 16, bits BinOp.or .u8 (((a.val : Nat) : Int) * 16) ((b.val : Nat) : Int) = 16 * ((a.val : Nat) : Int) + ((b.val : Nat) : Int) := by decide +kernel
  have := H ⟨c.toNat, by omega⟩ ⟨d.toNat, by omega⟩
  simp only [Int.toNat_of_nonneg h0, Int.toNat_of_nonneg h2] at this
  exact this
end Go.Proofs.Ythhjnffbafmkpaa.HexDecMath

/- Decimal digits as plain functions on numbers and bytes. Imports nothing of the dump. -/
namespace Go.Proofs.Ythhjnffbafmkpaa.NumMath
open HexMath

/-- The decimal digits of a number, none for 0. -/
def dg (n : Nat) : List UInt8 := if n = 0 then [] else dg (n / 10) ++ [fig (n % 10)]
termination_by n
decreasing_by omega
theorem dg_zero : dg 0 = [] := by rw [dg, if_pos rfl]
theorem dg_pos (n : Nat) (h : 0 < n) : dg n = dg (n / 10) ++ [fig (n % 10)] := by rw [dg, if_neg (by omega)]
/-- The decimal text of an integer. -/
def fmt (n : Int) : List UInt8 := if n = 0 then [48] else if n < 0 then 45 :: dg n.natAbs else dg n.natAbs
/-- One more round: the digit is laid in front. -/
theorem dg_round (a : Nat) (acc : List UInt8) (h : 0 < a) : dg (a / 10) ++ (fig (a % 10) :: acc) = dg a ++ acc := by
  rw [dg_pos a h, List.append_assoc]; rfl
theorem dg_len : ∀ (k n : Nat), n < 10 ^ k → (dg n).length ≤ k := by
  intro k
  induction k with
  | zero => intro n h; have : n = 0 := by simpa using h
            subst this; simp [dg_zero]
  | succ k ih =>
    intro n h
    by_cases h0 : n = 0
    · subst h0; simp [dg_zero]
    · rw [dg_pos n (by omega), List.length_append]
      have := ih (n / 10) (by rw [Nat.pow_succ] at h; omega)
      simp; omega
theorem app_cons (b : UInt8) (acc : ByteArray) : ((⟨#[b]⟩ : ByteArray) ++ acc).data.toList = b :: acc.data.toList := by simp
theorem round_acc (N a : Nat) (acc : ByteArray) (h : 0 < a) (e : dg a ++ acc.data.toList = dg N) : dg (a / 10) ++ ((⟨#[fig (a % 10)]⟩ : ByteArray) ++ acc).data.toList = dg N := by
  rw [app_cons, dg_round a _ h, e]
theorem acc_small (N a : Nat) (acc : ByteArray) (e : dg a ++ acc.data.toList = dg N) (hN : N ≤ 9223372036854775808) : acc.size ≤ 19 := by
  have h1 := dg_len 19 N (by omega)
  rw [← e, List.length_append] at h1
  have h2 : acc.data.toList.length = acc.size := by simp
  omega
theorem acc_done (N : Nat) (acc : ByteArray) (e : dg 0 ++ acc.data.toList = dg N) : acc = ⟨(dg N).toArray⟩ := by
  rw [← e, dg_zero]; simp
theorem neg_tmod (a : Nat) : (-(a : Int)).tmod 10 = -((a % 10 : Nat) : Int) := by
  rw [Int.neg_tmod, Int.tmod_eq_emod_of_nonneg (by omega)]; omega
theorem neg_tdiv (a : Nat) : (-(a : Int)).tdiv 10 = -((a / 10 : Nat) : Int) := by
  rw [Int.neg_tdiv, Int.tdiv_eq_ediv_of_nonneg (by omega)]; omega
end Go.Proofs.Ythhjnffbafmkpaa.NumMath

/- Parsing of decimal text as a plain function on bytes, and how it goes with the decimal digits. Imports nothing of the dump. -/
namespace Go.Proofs.Ythhjnffbafmkpaa.NumParse
open HexMath NumMath

def isD (b : UInt8) : Bool := decide (48 ≤ b.toNat ∧ b.toNat ≤ 57)
def vd (l : List UInt8) : Nat := l.foldl (fun x b => 10 * x + (b.toNat - 48)) 0
theorem vd_snoc (l : List UInt8) (b : UInt8) : vd (l ++ [b]) = 10 * vd l + (b.toNat - 48) := by simp [vd]
/-- Not empty, and no zero ahead of further digits. -/
def canon (l : List UInt8) : Bool := match l with | [] => false | [_] => true | a :: _ :: _ => a != 48
def pU (l : List UInt8) : Option Nat := if canon l = true ∧ l.all isD = true ∧ vd l ≤ 1000000000 then some (vd l) else none
def resN (r : Option Nat) : Value := match r with | some n => .tuple #[.int .i64 n, .bool true] | none => .tuple #[.int .i64 0, .bool false]

theorem vd_mono (l m : List UInt8) : vd l ≤ vd (l ++ m) := by
  induction m generalizing l with
  | nil => simp
  | cons b m ih =>
    have h1 := ih (l ++ [b])
    rw [vd_snoc, List.append_assoc] at h1
    have : [b] ++ m = b :: m := rfl
    rw [this] at h1
    omega
theorem fig_dig (b : UInt8) (h : isD b = true) : fig (b.toNat - 48) = b := by
  simp only [isD, decide_eq_true_eq] at h
  have hb : b = UInt8.ofNat b.toNat := by simp
  unfold fig
  rw [if_pos (by omega), show 48 + (b.toNat - 48) = b.toNat by omega]
  exact hb.symm
theorem dg_step (x d : Nat) (h : d < 10) (hx : 0 < x ∨ 0 < d) : dg (10 * x + d) = dg x ++ [fig d] := by
  rw [dg_pos _ (by omega), show (10 * x + d) / 10 = x by omega, show (10 * x + d) % 10 = d by omega]
/-- The first digit of a number is not 0. -/
theorem dg_head : ∀ (n k : Nat), n ≤ k → 0 < n → ∃ a r, dg n = a :: r ∧ a ≠ 48 := by
  intro n k
  induction k generalizing n with
  | zero => intro h1 h2; omega
  | succ k ih =>
    intro h1 h2
    rw [dg_pos n h2]
    by_cases h : n / 10 = 0
    · rw [h, dg_zero]
      refine ⟨fig (n % 10), [], rfl, ?_⟩
      have H : ∀ m : Fin 10, m.val ≠ 0 → fig m.val ≠ 48 := by decide
      exact H ⟨n % 10, by omega⟩ (by show n % 10 ≠ 0; omega)
    · obtain ⟨a, r, e, ha⟩ := ih (n / 10) (by omega) (by omega)
      rw [e]
      exact ⟨a, r ++ [fig (n % 10)], rfl, ha⟩
theorem vd_pos_snoc (l : List UInt8) (b : UInt8) (h : 0 < vd l ∨ 0 < b.toNat - 48) : 0 < vd (l ++ [b]) := by rw [vd_snoc]; omega
/-- A list of digits that begins with no zero is the digits of its value. -/
theorem dg_vd (a : UInt8) (ha : isD a = true) (h48 : a ≠ 48) : ∀ (m : List UInt8), m.all isD = true → dg (vd (a :: m)) = a :: m ∧ 10 ^ m.length ≤ vd (a :: m) := by
  have ha' := ha
  simp only [isD, decide_eq_true_eq] at ha'
  have hne : a.toNat ≠ 48 := fun e => h48 (UInt8.toNat_inj.1 e)
  have key : ∀ (k : Nat) (m : List UInt8), m.length = k → m.all isD = true → dg (vd (a :: m)) = a :: m ∧ 10 ^ m.length ≤ vd (a :: m) := by
    intro k
    induction k with
    | zero =>
      intro m hm _
      have : m = [] := List.eq_nil_of_length_eq_zero hm
      subst this
      have e : vd [a] = a.toNat - 48 := by simp [vd]
      rw [e]
      refine ⟨?_, by simp; omega⟩
      have := dg_step 0 (a.toNat - 48) (by omega) (.inr (by omega))
      simp only [Nat.mul_zero, Nat.zero_add, dg_zero, List.nil_append] at this
      rw [this, fig_dig a ha]
    | succ k ih =>
      intro m hm hd
      have hne0 : m ≠ [] := by intro e; subst e; simp at hm
      obtain ⟨m', b, rfl⟩ : ∃ m' b, m = m' ++ [b] := ⟨m.dropLast, m.getLast hne0, (List.dropLast_concat_getLast hne0).symm⟩
      simp only [List.all_append, List.all_cons, List.all_nil, Bool.and_true, Bool.and_eq_true] at hd
      obtain ⟨i1, i2⟩ := ih m' (by simpa using hm) hd.1
      have hb := hd.2
      have hb' := hb
      simp only [isD, decide_eq_true_eq] at hb'
      have hp : 0 < 10 ^ m'.length := Nat.pos_of_ne_zero (by simp)
      rw [← List.cons_append, vd_snoc]
      refine ⟨?_, ?_⟩
      · rw [dg_step _ _ (by omega) (.inl (by omega)), i1, fig_dig b hb]
      · rw [List.length_append, List.length_singleton, Nat.pow_succ]; omega
  intro m hm
  exact key m.length m rfl hm
theorem fmt_vd (l : List UInt8) (hc : canon l = true) (hd : l.all isD = true) : fmt (vd l : Int) = l := by
  match l, hc, hd with
  | [a], _, hd =>
    simp only [List.all_cons, List.all_nil, Bool.and_true] at hd
    by_cases h48 : a = 48
    · subst h48; rfl
    · have hv := dg_vd a hd h48 [] rfl
      have h0 : 0 < vd [a] := by have := hv.2; simp at this; omega
      unfold fmt
      rw [if_neg (by omega), if_neg (by omega), Int.natAbs_natCast, hv.1]
  | a :: b :: m, hc, hd =>
    simp only [canon, bne_iff_ne] at hc
    rw [List.all_cons, Bool.and_eq_true] at hd
    have hv := dg_vd a hd.1 hc (b :: m) hd.2
    have hp : 0 < 10 ^ (b :: m).length := Nat.pos_of_ne_zero (by simp)
    unfold fmt
    rw [if_neg (by omega), if_neg (by omega), Int.natAbs_natCast, hv.1]
theorem canon_fmt (n : Nat) : canon (fmt (n : Int)) = true := by
  unfold fmt
  by_cases h : n = 0
  · subst h; rfl
  · rw [if_neg (by omega), if_neg (by omega), Int.natAbs_natCast]
    obtain ⟨a, r, e, ha⟩ := dg_head n n (Nat.le_refl _) (by omega)
    rw [e]
    cases r with
    | nil => rfl
    | cons b r => simp [canon, ha]
theorem big_none (l : List UInt8) (h : 10 < l.length) : pU l = none := by
  unfold pU
  rw [if_neg]
  rintro ⟨hc, hd, hv⟩
  match l, h, hc, hd, hv with
  | a :: b :: m, h, hc, hd, hv =>
    simp only [canon, bne_iff_ne] at hc
    rw [List.all_cons, Bool.and_eq_true] at hd
    have h2 := (dg_vd a hd.1 hc (b :: m) hd.2).2
    have : 10 ^ 10 ≤ 10 ^ (b :: m).length := Nat.pow_le_pow_right (by omega) (by simp at h ⊢; omega)
    omega
  | [], h, _, _, _ => simp at h
  | [_], h, _, _, _ => simp at h
theorem bad_none (s : ByteArray) (k c : Nat) (h : k < s.size) (hc : s[k].toNat = c) (hb : c < 48 ∨ 57 < c) : pU s.data.toList = none := by
  unfold pU
  rw [if_neg]
  rintro ⟨_, hd, _⟩
  rw [List.all_eq_true] at hd
  have := hd s[k] (by rw [List.mem_iff_getElem]; exact ⟨k, by simpa using h, rfl⟩)
  simp only [isD, decide_eq_true_eq] at this
  omega
theorem uncanon_none (l : List UInt8) (h : canon l = false) : pU l = none := by
  unfold pU
  rw [if_neg]
  rintro ⟨hc, _⟩
  rw [h] at hc; cases hc
theorem over_none (s : ByteArray) (k : Nat) (h : 1000000000 < vd (s.data.toList.take k)) : pU s.data.toList = none := by
  unfold pU
  rw [if_neg]
  rintro ⟨_, _, hv⟩
  have := vd_mono (s.data.toList.take k) (s.data.toList.drop k)
  rw [List.take_append_drop] at this
  omega
theorem vd_next (s : ByteArray) (k c : Nat) (h : k < s.size) (hc : s[k].toNat = c) : vd (s.data.toList.take (k + 1)) = 10 * vd (s.data.toList.take k) + (c - 48) := by
  rw [take_snoc s k h, vd_snoc, hc]
theorem all_next (s : ByteArray) (k c : Nat) (h : k < s.size) (hc : s[k].toNat = c) (h1 : 48 ≤ c) (h2 : c ≤ 57) (ha : (s.data.toList.take k).all isD = true) : (s.data.toList.take (k + 1)).all isD = true := by
  rw [take_snoc s k h, List.all_append, ha]
  simp [isD, hc, h1, h2]
theorem vd_lt (l : List UInt8) (h : l.all isD = true) : vd l < 10 ^ l.length := by
  have key : ∀ (k : Nat) (m : List UInt8), m.length = k → m.all isD = true → vd m < 10 ^ m.length := by
    intro k
    induction k with
    | zero => intro m hm _; have : m = [] := List.eq_nil_of_length_eq_zero hm
              subst this; simp [vd]
    | succ k ih =>
      intro m hm hd
      have hne0 : m ≠ [] := by intro e; subst e; simp at hm
      obtain ⟨m', b, rfl⟩ : ∃ m' b, m = m' ++ [b] := ⟨m.dropLast, m.getLast hne0, (List.dropLast_concat_getLast hne0).symm⟩
      simp only [List.all_append, List.all_cons, List.all_nil, Bool.and_true, Bool.and_eq_true] at hd
      have i1 := ih m' (by simpa using hm) hd.1
      have hb := hd.2
      simp only [isD, decide_eq_true_eq] at hb
      rw [vd_snoc, List.length_append, List.length_singleton, Nat.pow_succ]; omega
  exact key l.length l rfl h
end Go.Proofs.Ythhjnffbafmkpaa.NumParse

/- A number's decimal text is parsed back as the number just where it lies from 0 to the greatest that is read. Imports nothing of the dump. -/
namespace Go.Proofs.Ythhjnffbafmkpaa.NumBack
open HexMath NumMath NumParse

theorem fig_small (r : Nat) (h : r < 10) : (fig r).toNat = 48 + r := by
  have := figI r (by omega)
  rw [if_pos h] at this
  omega
theorem dg_back : ∀ (k n : Nat), n ≤ k → vd (dg n) = n ∧ (dg n).all isD = true := by
  intro k
  induction k with
  | zero => intro n h; have : n = 0 := by omega
            subst this; rw [dg_zero]; exact ⟨rfl, rfl⟩
  | succ k ih =>
    intro n h
    by_cases h0 : n = 0
    · subst h0; rw [dg_zero]; exact ⟨rfl, rfl⟩
    · obtain ⟨i1, i2⟩ := ih (n / 10) (by omega)
      have hf := fig_small (n % 10) (by omega)
      rw [dg_pos n (by omega), vd_snoc, i1, hf, List.all_append, i2]
      refine ⟨by omega, ?_⟩
      simp only [List.all_cons, List.all_nil, Bool.and_true, Bool.true_and, isD, decide_eq_true_eq]
      omega
theorem pU_fmt (n : Int) : pU (fmt n) = if 0 ≤ n ∧ n ≤ 1000000000 then some n.toNat else none := by
  by_cases hneg : n < 0
  · rw [if_neg (by omega)]
    unfold pU
    rw [if_neg]
    rintro ⟨_, h, _⟩
    unfold fmt at h
    rw [if_neg (by omega), if_pos hneg, List.all_cons] at h
    have : isD 45 = false := by decide
    rw [this] at h
    cases h
  · obtain ⟨m, rfl⟩ := Int.eq_ofNat_of_zero_le (show 0 ≤ n by omega)
    have hb : vd (fmt (m : Int)) = m ∧ (fmt (m : Int)).all isD = true := by
      unfold fmt
      by_cases h0 : m = 0
      · subst h0; exact ⟨rfl, rfl⟩
      · rw [if_neg (by omega), if_neg (by omega), Int.natAbs_natCast]
        exact dg_back m m (Nat.le_refl _)
    unfold pU
    rw [hb.1]
    by_cases h : m ≤ 1000000000
    · rw [if_pos ⟨canon_fmt m, hb.2, h⟩, if_pos (by omega)]
      simp
    · rw [if_neg (by rintro ⟨_, _, h2⟩; omega), if_neg (by omega)]
theorem fmt_len (n : Int) (h1 : -9223372036854775808 ≤ n) (h2 : n ≤ 9223372036854775807) : (fmt n).length ≤ 20 ∧ 0 < (fmt n).length := by
  unfold fmt
  by_cases h0 : n = 0
  · rw [if_pos h0]; simp
  · have hd := dg_len 19 n.natAbs (by omega)
    have hp : 0 < (dg n.natAbs).length := by rw [dg_pos _ (by omega), List.length_append]; simp
    rw [if_neg h0]
    split
    · rw [List.length_cons]; omega
    · omega
end Go.Proofs.Ythhjnffbafmkpaa.NumBack
