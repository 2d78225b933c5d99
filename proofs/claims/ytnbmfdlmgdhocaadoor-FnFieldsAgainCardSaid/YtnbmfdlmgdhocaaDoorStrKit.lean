/- Plain facts on rows of strings that the call owns. Imports nothing of the dump. -/
import Derived.WalkKit
import Derived.ProofKit
import Derived.Handy
import Derived.Deep.AppendLies
import Derived.Deep.QuietTactic
namespace Go.Proofs.YtnbmfdlmgdhocaaDoor.StrKit
open Go.RowKit

def cellsS (l : List ByteArray) : List Value := l.map Value.string
/-- The slice v owns the strings l (element type T), from block B on. -/
def OwnsS (w : World) (B T : Nat) (v : Value) (l : List ByteArray) : Prop := w.ownsRow B T 1 v l.length (cellsS l)
structure StrTypes (P : Program) (t T : TypeId) : Prop where
  ht : P.underlying t = some (.slice T)
  hT : P.underlying T = some .string
  hi : (P.info? T).map (fun i => (i.zero, i.size, i.bytes)) = some (some (.string ⟨#[]⟩), 1, 16)

theorem cellsS_app (a b : List ByteArray) : cellsS (a ++ b) = cellsS a ++ cellsS b := by simp [cellsS]
theorem cellsS_len (a : List ByteArray) : (cellsS a).length = a.length := by simp [cellsS]
theorem cellsS_one (l : List ByteArray) : ∀ u ∈ cellsS l, u.oneCell' = true := by
  intro u hu
  simp only [cellsS, List.mem_map] at hu
  obtain ⟨b, _, rfl⟩ := hu
  rfl
theorem OwnsS.nil (w : World) (B T : Nat) : OwnsS w B T (.slice none 0 0) [] := World.ownsRow_nil w B T 1
theorem OwnsS.made (w : World) (B T : Nat) (hb : B ≤ w.heap.size) : OwnsS (w.alloc (.cells #[] T)) B T (.slice (some ⟨w.heap.size, 0, none⟩) 0 0) [] :=
  World.ownsRow_made w #[] 0 hb (Nat.zero_le _) rfl
theorem OwnsS.alloc {w : World} {B T : Nat} {v : Value} {l : List ByteArray} (h : OwnsS w B T v l) (o : Obj) : OwnsS (w.alloc o) B T v l := World.ownsRow.alloc h o
theorem OwnsS.drewN {w : World} {B T : Nat} {v : Value} {l : List ByteArray} (h : OwnsS w B T v l) (n : Nat) : OwnsS (w.drewN n) B T v l := h
/-- A step that writes nothing below C leaves a row below C. -/
theorem OwnsS.below {w w' : World} {B T C : Nat} {v : Value} {l : List ByteArray} (h : OwnsS w B T v l) (hb : Below C w w') (hv : ∀ k, v.ownBlock = some k → k < C) : OwnsS w' B T v l := by
  refine ⟨h.1, ?_⟩
  rcases h.2 with hn | ⟨g, cap, cur, rfl, hbg, hg, rest⟩
  · exact .inl hn
  · exact .inr ⟨g, cap, cur, rfl, hbg, (hb.block g (hv g rfl)).trans hg, rest⟩
theorem OwnsS.lt {w : World} {B T : Nat} {v : Value} {l : List ByteArray} (h : OwnsS w B T v l) : ∀ k, v.ownBlock = some k → k < w.heap.size := fun k hk => (World.ownsRow.lt h k hk).2
/-- What such a value looks like. -/
theorem OwnsS.form {w : World} {B T : Nat} {v : Value} {l : List ByteArray} (h : OwnsS w B T v l) :
    ∃ a cap, v = .slice a l.length cap ∧ (∀ j (hj : j < l.length), ∃ g, a = some ⟨g, 0, none⟩ ∧ B ≤ g ∧ g < w.heap.size ∧ w.cell? ⟨g, j, none⟩ = some (.string l[j]) ∧ w.frozen? ⟨g, j, none⟩ = false) := by
  rcases h.2 with ⟨rfl, h0⟩ | ⟨g, cap, cur, rfl, hbg, hg, hnc, hcm, hcs, htake⟩
  · exact ⟨none, 0, by rw [h0], fun j hj => by omega⟩
  · refine ⟨some ⟨g, 0, none⟩, cap, rfl, fun j hj => ⟨g, rfl, hbg, (Array.getElem?_eq_some_iff.1 hg).1, ?_, frozen_of_row w g j cur T hg⟩⟩
    rw [cell_of_row w g j cur T (0, 0) hg]
    have := congrArg (fun x => x[j]?) htake
    simp only [Nat.mul_one] at this
    rw [List.getElem?_take, if_pos hj] at this
    rw [show cur[j]? = cur.toList[j]? by simp, this]
    simp [cellsS, hj]
theorem OwnsS.at {w : World} {B T n cap : Nat} {a : Option Addr} {l : List ByteArray} (h : OwnsS w B T (.slice a n cap) l) (j : Nat) (hj : j < l.length) :
    ∃ g, a = some ⟨g, 0, none⟩ ∧ B ≤ g ∧ g < w.heap.size ∧ w.cell? ⟨g, j, none⟩ = some (.string l[j]) ∧ w.frozen? ⟨g, j, none⟩ = false := by
  obtain ⟨a', cap', hv, kk⟩ := h.form
  cases hv
  exact kk j hj
/-- A store into such a row. -/
theorem OwnsS.stored {w : World} {B T g cap n : Nat} {l : List ByteArray} (h : OwnsS w B T (.slice (some ⟨g, 0, none⟩) n cap) l) (hn : n = l.length) (j : Nat) (b : ByteArray) :
    OwnsS (w.setCell ⟨g, j, none⟩ (.string b)) B T (.slice (some ⟨g, 0, none⟩) n cap) (l.set j b) := by
  subst hn
  have := (World.ownsRow.stored h j (.string b)).1
  unfold OwnsS
  rw [List.length_set, show cellsS (l.set j b) = (cellsS l).set j (.string b) by simp [cellsS, List.map_set]]
  exact this

theorem run_append_str {P : Program} {t T : TypeId} (st : StrTypes P t T) (w : World) (ty : TypeId) (B : Nat) (v : Value) (l : List ByteArray) (hown : OwnsS w B T v l)
    (g c : Nat) (b : ByteArray) (hg : w.heap[g]? = some (.cells #[.string b] T (0, 0))) (hlen : l.length + 1 ≤ 1099511627776) (hbase : B ≤ w.heap.size) :
    ∃ v' w', (Builtin.append_ #[t, t] ty #[v, .slice (some ⟨g, 0, none⟩) 1 c]).run P w = .ok v' w' ∧ OwnsS w' B T v' (l ++ [b]) ∧ w.grownBy w' v.ownBlock := by
  obtain ⟨i0, hi, hz0, hz1, hz2⟩ := info_parts st.hi
  obtain ⟨v', w', hr, h2, h3, _⟩ := run_append_own (P := P) w B t ty T i0 _ 1 16 st.ht hi hz0 hz1 hz2 rfl (by omega) v l.length (cellsS l) hown ⟨g, 0, none⟩ 1 c (cellsS [b])
    rfl (World.news_of_block hg) (cellsS_one [b]) (by unfold maxLen; omega) (by omega) hbase
  refine ⟨v', w', hr, ?_, h3⟩
  unfold OwnsS
  rw [List.length_append, cellsS_app]
  exact h2

/-- An append of one string, at the list of a plain region's operations. -/
theorem wpList_append_str {P : Program} {t T : TypeId} (st : StrTypes P t T) (w : World) {ops : Array Oper} {rest : List Oper} {o : Oper} {a : Act} {Q : Exit → Act → World → Prop} (hgd : o.guard = none) (s x : Operand)
    (ho : o.op = .call { callee := .builtin .append, args := #[s, x], argTypes := #[t, t] })
    (B : Nat) (v : Value) (l : List ByteArray) (hs : a.eval s = v) (hown : OwnsS w B T v l) (g c : Nat) (b : ByteArray) (hx : a.eval x = .slice (some ⟨g, 0, none⟩) 1 c)
    (hg : w.heap[g]? = some (.cells #[.string b] T (0, 0))) (hlen : l.length + 1 ≤ 1099511627776) (hbase : B ≤ w.heap.size)
    (h : ∀ v' w', OwnsS w' B T v' (l ++ [b]) → Below B w w' → wpList P ops Q rest (a.put o.dst v') w') : wpList P ops Q (o :: rest) a w := by
  refine wpList_plain hgd fun K hK => ?_
  obtain ⟨v', w', hr, h2, h3⟩ := run_append_str st w o.type B v l hown g c b hg hlen hbase
  unfold Oper.wp execOp
  simp only [ho, resolve, invoke, builtin, Sem.run_bind, Sem.run_pure, Result.andThen_ok, List.map_toArray, List.map_cons, List.map_nil, hs, hx, hr]
  exact hK _ _ (h v' w' h2 ((Below.refl B w).grown h3 hbase (fun k hk => (World.ownsRow.lt hown k hk).1)))
end Go.Proofs.YtnbmfdlmgdhocaaDoor.StrKit
