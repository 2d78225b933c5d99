/- The world of a sort in place: block g holds the row, all else that was there is as it was. Imports nothing of the dump. -/
import Derived.WalkKit
import Derived.Below
import Derived.Lib.Hide
import Derived.Test.YtdmnagpnhphifaaRow1
import Derived.Test.YtdmnagpnhphifaaCurKit
import Derived.Test.YtdmnagpnhphifaaStab
namespace Go.Proofs.Ytdmnagpnhphifaa.StabKit
open Go.RowKit Row1 CurKit Stab

/-- Block g, a row of n integers, holds l; all other blocks of w0 are as they were. -/
structure SW (T : Nat) (w0 : World) (g n : Nat) (l : List Int) (w : World) : Prop where
  len : l.length = n
  own : Owns (Value.int .i64) w 0 T (.slice (some ⟨g, 0, none⟩) n n) l
  only : OnlyB g w0 w
variable {T : Nat} {w0 w : World} {g n : Nat} {l : List Int}
theorem SW.lt (h : SW T w0 g n l w) : g < w.heap.size := h.own.lt g rfl
theorem SW.c (h : SW T w0 g n l w) (j : Nat) (hj : j < n) : w.cell? ⟨g, j, none⟩ = some (.int .i64 (l.getD j 0)) := by
  have hl := h.len
  rw [(h.own.cell j (by omega)).1]
  simp only [List.getD]
  rw [List.getElem?_eq_getElem (by omega)]
  rfl
theorem SW.f (h : SW T w0 g n l w) (j : Nat) (hj : j < n) : w.frozen? ⟨g, j, none⟩ = false := by
  have hl := h.len
  exact (h.own.cell j (by omega)).2
theorem SW.c2 (h : SW T w0 g n l w) (i j : Nat) (hj : j < n) (v : Value) : ∃ u, (w.setCell ⟨g, i, none⟩ v).cell? ⟨g, j, none⟩ = some u := by
  by_cases e : i = j
  · subst e; exact ⟨v, World.cell?_setCell_same _ _ _ (h.c i hj)⟩
  · exact ⟨_, (World.cell?_setCell_other _ _ _ _ (by intro e'; simp only [Addr.mk.injEq] at e'; omega)).trans (h.c j hj)⟩
theorem SW.drewN (h : SW T w0 g n l w) (k : Nat) : SW T w0 g n l (w.drewN k) := ⟨h.len, h.own.drewN k, h.only.drewN k⟩
theorem SW.drew (h : SW T w0 g n l w) : SW T w0 g n l w.drew := h.drewN 1
theorem SW.swapped (h : SW T w0 g n l w) (i j : Nat) (x y : Int) (hx : l.getD i 0 = x) (hy : l.getD j 0 = y) :
    SW T w0 g n (swp l i j) ((w.setCell ⟨g, i, none⟩ (.int .i64 y)).setCell ⟨g, j, none⟩ (.int .i64 x)) := by
  subst hx hy
  refine ⟨by rw [swp_len]; exact h.len, ?_, (h.only.setCell i _).setCell j _⟩
  have a := h.own.stored h.len.symm i (l.getD j 0)
  have b := a.stored (by rw [List.length_set]; exact h.len.symm) j (l.getD i 0)
  exact b
theorem SW.cast (h : SW T w0 g n l w) {l' : List Int} (e : l = l') : SW T w0 g n l' w := e ▸ h

/-- What is asked of the comparison: in every world of the sort it answers cf on the elements that count; it may draw. -/
def CmpAt (P : Program) (w0 : World) (g : Nat) (fn : FuncId) (cb : Array Value) (ok : Int → Prop) (cf : Int → Int → Int) : Prop :=
  ∀ w, OnlyB g w0 w → ∀ x y, ok x → ok y → Calls P fn (#[.int .i64 x, .int .i64 y] ++ cb) w fun e w' => e = .returned (.int .i64 (cf x y)) ∧ ∃ q, w' = w.drewN q
theorem CmpAt.on {P : Program} {fn : FuncId} {cb : Array Value} {ok : Int → Prop} {cf : Int → Int → Int} (h : CmpAt P w0 g fn cb ok cf) (hs : SW T w0 g n l w) (x y : Int) (hx : ok x) (hy : ok y) (m : Nat) :
    Calls P fn (#[.int .i64 x, .int .i64 y] ++ cb) (w.drewN m) fun e w' => e = .returned (.int .i64 (cf x y)) ∧ ∃ q, w' = w.drewN q :=
  (h _ (hs.only.drewN m) x y hx hy).mono fun _ _ ⟨he, q, hq⟩ => ⟨he, m + q, by rw [hq, World.drewN_drewN]⟩
def Sorts (T : Nat) (w0 : World) (g n : Nat) (l : List Int) (e : Ending) (w' : World) : Prop := e = .returned (.tuple #[]) ∧ SW T w0 g n l w'
end Go.Proofs.Ytdmnagpnhphifaa.StabKit
