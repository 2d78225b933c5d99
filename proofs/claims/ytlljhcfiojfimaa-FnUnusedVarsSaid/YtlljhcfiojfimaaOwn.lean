/- Rows that lie in blocks of their own, between two block numbers; writes between two block numbers. Imports nothing of the dump. -/
import Derived.Test.YtlljhcfiojfimaaRowN
import Derived.Test.YtlljhcfiojfimaaBelowKit
namespace Go.Proofs.Ytlljhcfiojfimaa.Own
open Go.RowKit RowN
variable {α : Type} {f : α → List Value} {c : Nat}
/-- Nothing was changed below lo, nor from hi on. -/
structure Mid (lo hi : Nat) (w w' : World) : Prop where
  low : Below lo w w'
  heap : ∀ b, hi ≤ b → b < w.heap.size → w'.heap[b]? = w.heap[b]?
theorem Mid.of_grown {lo hi : Nat} {w w' : World} {row : Option Nat} (h : w.grownBy w' row) (h1 : ∀ k, row = some k → lo ≤ k ∧ k < hi) (hl : lo ≤ w.heap.size) : Mid lo hi w w' :=
  ⟨(Below.refl _ _).grown h hl (fun k hk => (h1 k hk).1), fun b hb hlt => h.block b hlt (fun e => by have := (h1 b e.symm).2; omega)⟩
theorem Mid.of_below {lo hi : Nat} {w w' : World} (h : Below w.heap.size w w') (hl : lo ≤ w.heap.size) : Mid lo hi w w' :=
  ⟨h.mono hl, fun b _ hlt => h.block b hlt⟩
theorem Mid.trans {lo hi : Nat} {w w' w'' : World} (h : Mid lo hi w w') (k : Mid lo hi w' w'') : Mid lo hi w w'' :=
  ⟨h.low.trans k.low, fun b hb hlt => (k.heap b hb (Nat.lt_of_lt_of_le hlt h.low.size)).trans (h.heap b hb hlt)⟩
theorem Mid.wide {lo hi lo' hi' : Nat} {w w' : World} (h : Mid lo hi w w') (h1 : lo' ≤ lo) (h2 : hi ≤ hi') : Mid lo' hi' w w' :=
  ⟨h.low.mono h1, fun b hb hlt => h.heap b (by omega) hlt⟩
/-- A cell outside. -/
theorem Mid.out {lo hi b : Nat} {w w' : World} (h : Mid lo hi w w') (hb : b < lo ∨ (hi ≤ b ∧ b < w.heap.size)) : ∀ o, w'.cell? ⟨b, o, none⟩ = w.cell? ⟨b, o, none⟩ := fun o => by
  rcases hb with hb | ⟨h1, h2⟩
  · exact h.low.cell (p := ⟨b, o, none⟩) hb
  · exact World.cell?_of_block (h.heap b h1 h2)

/-- The slice v owns the elements l, in blocks from lo up to hi. -/
structure Ow (f : α → List Value) (c : Nat) (T : Nat) (w : World) (lo hi : Nat) (v : Value) (l : List α) : Prop where
  own : Owns f c w lo T v l
  top : ∀ k, v.ownBlock = some k → k < hi
  lim : hi ≤ w.heap.size
variable {T lo hi : Nat} {w w' : World} {v : Value} {l : List α}
theorem ow_of (h : Owns f c w lo T v l) : Ow f c T w lo w.heap.size v l := ⟨h, h.lt, Nat.le_refl _⟩
theorem Ow.on (h : Ow f c T w lo hi v l) (hb : Below w.heap.size w w') : Ow f c T w' lo hi v l := ⟨h.own.on hb, h.top, Nat.le_trans h.lim hb.size⟩
theorem Ow.base {lo' : Nat} (h : Ow f c T w lo hi v l) (hb : lo' ≤ lo) : Ow f c T w lo' hi v l := ⟨h.own.base hb, h.top, h.lim⟩
theorem Ow.reads (wd : Wide f c) {a : Option Addr} {n cap : Nat} (h : Ow f c T w lo hi (.slice a n cap) l) : Reads f c w a l := reads_own wd h.own
/-- Writes elsewhere leave it alone. -/
theorem Ow.mid {lo' hi' : Nat} (h : Ow f c T w lo hi v l) (hm : Mid lo' hi' w w') (hd : hi ≤ lo' ∨ hi' ≤ lo) : Ow f c T w' lo hi v l := by
  refine ⟨⟨h.own.1, ?_⟩, h.top, Nat.le_trans h.lim hm.low.size⟩
  rcases h.own.2 with hn | ⟨g, cap, cur, rfl, hbg, hg, rest⟩
  · exact .inl hn
  · refine .inr ⟨g, cap, cur, rfl, hbg, ?_, rest⟩
    have h1 := h.top g rfl
    have h2 := h.lim
    rcases hd with hd | hd
    · exact (hm.low.block g (by omega)).trans hg
    · exact (hm.heap g (by omega) (by omega)).trans hg
theorem Ow.reads_mid (wd : Wide f c) {lo' hi' : Nat} {a : Option Addr} {n cap : Nat} (h : Ow f c T w lo hi (.slice a n cap) l) (hm : Mid lo' hi' w w') (hd : hi ≤ lo' ∨ hi' ≤ lo) : Reads f c w' a l := (h.mid hm hd).reads wd
theorem Ow.to_hi {hi' : Nat} (h : Ow f c T w lo hi v l) (e : hi = hi') : Ow f c T w lo hi' v l := e ▸ h
/-- A store into a box that lies outside. -/
theorem Ow.box {b o : Nat} (h : Ow f c T w lo hi v l) (hb : b < lo ∨ hi ≤ b) (x : Value) : Ow f c T (w.setCell ⟨b, o, none⟩ x) lo hi v l :=
  ⟨h.own.beside (fun e => by have h1 := h.own.low b e; have h2 := h.top b e; omega) x, h.top, by simpa using h.lim⟩
end Go.Proofs.Ytlljhcfiojfimaa.Own
