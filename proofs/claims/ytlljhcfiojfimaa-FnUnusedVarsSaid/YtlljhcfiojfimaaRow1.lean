/- Rows of one-cell elements that the call owns, whatever the elements: made, appended to, stored into, read. Imports nothing of the dump. -/
import Derived.WalkKit
import Derived.ProofKit
import Derived.Handy
import Derived.Deep.AppendLies
import Derived.Deep.QuietTactic
namespace Go.Proofs.Ytlljhcfiojfimaa.Row1
open Go.RowKit
variable {α : Type} {f : α → Value}

/-- The slice v owns the elements l (one cell each, by f; element type T), from block B on. -/
def Owns (f : α → Value) (w : World) (B T : Nat) (v : Value) (l : List α) : Prop := w.ownsRow B T 1 v l.length (l.map f)
/-- The types of such slices: t is the slice type, T the element type, z its zero value, c its bytes. -/
structure ElT (P : Program) (t T : TypeId) (z : Value) (c : Nat) : Prop where
  ht : P.underlying t = some (.slice T)
  hi : (P.info? T).map (fun i => (i.zero, i.size, i.bytes)) = some (some z, 1, c)
  hc : c ≤ 128
  hz : z.cells = #[z]
def One (f : α → Value) : Prop := ∀ x, (f x).oneCell' = true
theorem one_int (k : IntKind) : One (Value.int k) := fun _ => rfl
theorem one_string : One Value.string := fun _ => rfl
theorem one_bool : One Value.bool := fun _ => rfl

theorem Owns.nil (w : World) (B T : Nat) : Owns f w B T (.slice none 0 0) [] := World.ownsRow_nil w B T 1
theorem Owns.made (w : World) (B T : Nat) (hb : B ≤ w.heap.size) : Owns f (w.alloc (.cells #[] T)) B T (.slice (some ⟨w.heap.size, 0, none⟩) 0 0) [] :=
  World.ownsRow_made w #[] 0 hb (Nat.zero_le _) rfl
theorem Owns.alloc {w : World} {B T : Nat} {v : Value} {l : List α} (h : Owns f w B T v l) (o : Obj) : Owns f (w.alloc o) B T v l := World.ownsRow.alloc h o
theorem Owns.drewN {w : World} {B T : Nat} {v : Value} {l : List α} (h : Owns f w B T v l) (n : Nat) : Owns f (w.drewN n) B T v l := h
theorem Owns.drew {w : World} {B T : Nat} {v : Value} {l : List α} (h : Owns f w B T v l) : Owns f w.drew B T v l := h
theorem Owns.lt {w : World} {B T : Nat} {v : Value} {l : List α} (h : Owns f w B T v l) : ∀ k, v.ownBlock = some k → k < w.heap.size := fun k hk => (World.ownsRow.lt h k hk).2
theorem Owns.low {w : World} {B T : Nat} {v : Value} {l : List α} (h : Owns f w B T v l) : ∀ k, v.ownBlock = some k → B ≤ k := fun k hk => (World.ownsRow.lt h k hk).1
/-- A step that writes nothing below C leaves a row below C. -/
theorem Owns.below {w w' : World} {B T C : Nat} {v : Value} {l : List α} (h : Owns f w B T v l) (hb : Below C w w') (hv : ∀ k, v.ownBlock = some k → k < C) : Owns f w' B T v l := by
  refine ⟨h.1, ?_⟩
  rcases h.2 with hn | ⟨g, cap, cur, rfl, hbg, hg, rest⟩
  · exact .inl hn
  · exact .inr ⟨g, cap, cur, rfl, hbg, (hb.block g (hv g rfl)).trans hg, rest⟩
theorem Owns.on {w w' : World} {B T : Nat} {v : Value} {l : List α} (h : Owns f w B T v l) (hb : Below w.heap.size w w') : Owns f w' B T v l := h.below hb h.lt
theorem Owns.base {w : World} {B B' T : Nat} {v : Value} {l : List α} (h : Owns f w B T v l) (hb : B' ≤ B) : Owns f w B' T v l := by
  refine ⟨h.1, ?_⟩
  rcases h.2 with hn | ⟨g, cap, cur, rfl, hbg, hg, rest⟩
  · exact .inl hn
  · exact .inr ⟨g, cap, cur, rfl, Nat.le_trans hb hbg, hg, rest⟩
/-- What such a value looks like. -/
theorem Owns.form {w : World} {B T : Nat} {v : Value} {l : List α} (h : Owns f w B T v l) :
    ∃ a cap, v = .slice a l.length cap ∧ (∀ j (hj : j < l.length), ∃ g, a = some ⟨g, 0, none⟩ ∧ B ≤ g ∧ g < w.heap.size ∧ w.cell? ⟨g, j, none⟩ = some (f l[j]) ∧ w.frozen? ⟨g, j, none⟩ = false) := by
  rcases h.2 with ⟨rfl, h0⟩ | ⟨g, cap, cur, rfl, hbg, hg, hnc, hcm, hcs, htake⟩
  · exact ⟨none, 0, by rw [h0], fun j hj => by omega⟩
  · refine ⟨some ⟨g, 0, none⟩, cap, rfl, fun j hj => ⟨g, rfl, hbg, (Array.getElem?_eq_some_iff.1 hg).1, ?_, frozen_of_row w g j cur T hg⟩⟩
    rw [cell_of_row w g j cur T (0, 0) hg]
    have := congrArg (fun x => x[j]?) htake
    simp only [Nat.mul_one] at this
    rw [List.getElem?_take, if_pos hj] at this
    rw [show cur[j]? = cur.toList[j]? by simp, this]
    simp [hj]
theorem Owns.at {w : World} {B T n cap : Nat} {a : Option Addr} {l : List α} (h : Owns f w B T (.slice a n cap) l) (j : Nat) (hj : j < l.length) :
    ∃ g, a = some ⟨g, 0, none⟩ ∧ B ≤ g ∧ g < w.heap.size ∧ w.cell? ⟨g, j, none⟩ = some (f l[j]) ∧ w.frozen? ⟨g, j, none⟩ = false := by
  obtain ⟨a', cap', hv, kk⟩ := h.form
  cases hv
  exact kk j hj
theorem Owns.cell {w : World} {B T g n cap : Nat} {l : List α} (h : Owns f w B T (.slice (some ⟨g, 0, none⟩) n cap) l) (j : Nat) (hj : j < l.length) :
    w.cell? ⟨g, j, none⟩ = some (f l[j]) ∧ w.frozen? ⟨g, j, none⟩ = false := by
  obtain ⟨g', e, _, _, h1, h2⟩ := h.at j hj
  cases e
  exact ⟨h1, h2⟩
/-- A store into such a row. -/
theorem Owns.stored {w : World} {B T g cap n : Nat} {l : List α} (h : Owns f w B T (.slice (some ⟨g, 0, none⟩) n cap) l) (hn : n = l.length) (j : Nat) (x : α) :
    Owns f (w.setCell ⟨g, j, none⟩ (f x)) B T (.slice (some ⟨g, 0, none⟩) n cap) (l.set j x) := by
  subst hn
  have := (World.ownsRow.stored h j (f x)).1
  unfold Owns
  rw [List.length_set, List.map_set]
  exact this
/-- A store into another row. -/
theorem Owns.beside {w : World} {B T g o : Nat} {v : Value} {l : List α} (h : Owns f w B T v l) (hne : v.ownBlock ≠ some g) (x : Value) :
    Owns f (w.setCell ⟨g, o, none⟩ x) B T v l := by
  refine ⟨h.1, ?_⟩
  rcases h.2 with hn | ⟨g', cap, cur, rfl, hbg, hg, rest⟩
  · exact .inl hn
  · exact .inr ⟨g', cap, cur, rfl, hbg, (Below.heap_setCell _ _ _ _ (fun e => hne (by simp [Value.ownBlock, e]))).trans hg, rest⟩
theorem Owns.zeros {w : World} {B T g n : Nat} {z : α} (h : w.ownsRow B T 1 (.slice (some ⟨g, 0, none⟩) n n) n (madeCells #[f z] (n * 1)).toList) :
    Owns f w B T (.slice (some ⟨g, 0, none⟩) n n) (List.replicate n z) := by
  unfold Owns
  rw [List.length_replicate]
  rw [toList_madeCells_one, Nat.mul_one] at h
  rw [List.map_replicate]
  exact h

theorem run_append1 {P : Program} {t T : TypeId} {z : Value} {cb : Nat} (st : ElT P t T z cb) (hf : One f) (w : World) (ty : TypeId) (B : Nat) (v : Value) (l : List α) (hown : Owns f w B T v l)
    (g c : Nat) (news : List α) (hg : w.heap[g]? = some (.cells (news.map f).toArray T (0, 0))) (hlen : l.length + news.length ≤ 1099511627776) (hbase : B ≤ w.heap.size) :
    ∃ v' w', (Builtin.append_ #[t, t] ty #[v, .slice (some ⟨g, 0, none⟩) news.length c]).run P w = .ok v' w' ∧ Owns f w' B T v' (l ++ news) ∧ w.grownBy w' v.ownBlock := by
  obtain ⟨i0, hi, hz0, hz1, hz2⟩ := info_parts st.hi
  have hmul : (l.length + news.length) * cb ≤ 140737488355328 := Nat.le_trans (Nat.mul_le_mul hlen st.hc) (by omega)
  obtain ⟨v', w', hr, h2, h3, _⟩ := run_append_own (P := P) w B t ty T i0 _ 1 cb st.ht hi hz0 hz1 hz2 (by rw [st.hz]; rfl) (by omega) v l.length (l.map f) hown ⟨g, 0, none⟩ news.length c (news.map f)
    (by simp) (by simpa using World.news_of_block hg) (fun u hu => by obtain ⟨b, _, rfl⟩ := List.mem_map.1 hu; exact hf b) (by unfold maxLen; omega) (by omega) hbase
  refine ⟨v', w', hr, ?_, h3⟩
  unfold Owns
  rw [List.length_append, List.map_append]
  exact h2

theorem wp_append1 {P : Program} {t T : TypeId} {z : Value} {cb : Nat} (st : ElT P t T z cb) (hf : One f) (w : World) {o : Oper} {a : Act} {K : Act → World → Prop} {Q : Exit → Act → World → Prop} (s x : Operand)
    (ho : o.op = .call { callee := .builtin .append, args := #[s, x], argTypes := #[t, t] })
    (B : Nat) (v : Value) (l : List α) (hs : a.eval s = v) (hown : Owns f w B T v l) (g c n : Nat) (news : List α) (hn : n = news.length) (hx : a.eval x = .slice (some ⟨g, 0, none⟩) n c)
    (hg : w.heap[g]? = some (.cells (news.map f).toArray T (0, 0))) (hlen : l.length + news.length ≤ 1099511627776) (hbase : B ≤ w.heap.size)
    (h : ∀ v' w', Owns f w' B T v' (l ++ news) → w.grownBy w' v.ownBlock → K (a.put o.dst v') w') : o.wp P a w K Q := by
  subst hn
  obtain ⟨v', w', hr, h2, h3⟩ := run_append1 st hf w o.type B v l hown g c news hg hlen hbase
  unfold Oper.wp execOp
  simp only [ho, resolve, invoke, builtin, Sem.run_bind, Sem.run_pure, Result.andThen_ok, List.map_toArray, List.map_cons, List.map_nil, hs, hx, hr]
  exact h v' w' h2 h3
/-- An append of new elements, at the list of a plain region's operations. -/
theorem wpList_append1 {P : Program} {t T : TypeId} {z : Value} {cb : Nat} (st : ElT P t T z cb) (hf : One f) (w : World) {ops : Array Oper} {rest : List Oper} {o : Oper} {a : Act} {Q : Exit → Act → World → Prop} (hgd : o.guard = none) (s x : Operand)
    (ho : o.op = .call { callee := .builtin .append, args := #[s, x], argTypes := #[t, t] })
    (B : Nat) (v : Value) (l : List α) (hs : a.eval s = v) (hown : Owns f w B T v l) (g c n : Nat) (news : List α) (hn : n = news.length) (hx : a.eval x = .slice (some ⟨g, 0, none⟩) n c)
    (hg : w.heap[g]? = some (.cells (news.map f).toArray T (0, 0))) (hlen : l.length + news.length ≤ 1099511627776) (hbase : B ≤ w.heap.size)
    (h : ∀ v' w', Owns f w' B T v' (l ++ news) → w.grownBy w' v.ownBlock → wpList P ops Q rest (a.put o.dst v') w') : wpList P ops Q (o :: rest) a w :=
  wpList_plain hgd fun _ hK => wp_append1 st hf w s x ho B v l hs hown g c n news hn hx hg hlen hbase fun v' w' h2 h3 => hK _ _ (h v' w' h2 h3)
/-- .. at a step of a region that draws its order. -/
theorem step_append1 {P : Program} {t T : TypeId} {z : Value} {cb : Nat} (st : ElT P t T z cb) (hf : One f) (w : World) {ops : Array Oper} {o : Oper} {a : Act} {K : Act → World → Prop} {Q : Exit → Act → World → Prop} {E : Prop} (hgd : o.guard = none) (s x : Operand)
    (ho : o.op = .call { callee := .builtin .append, args := #[s, x], argTypes := #[t, t] })
    (B : Nat) (v : Value) (l : List α) (hs : a.eval s = v) (hown : Owns f w B T v l) (g c n : Nat) (news : List α) (hn : n = news.length) (hx : a.eval x = .slice (some ⟨g, 0, none⟩) n c)
    (hg : w.heap[g]? = some (.cells (news.map f).toArray T (0, 0))) (hlen : l.length + news.length ≤ 1099511627776) (hbase : B ≤ w.heap.size)
    (h : ∀ v' w', Owns f w' B T v' (l ++ news) → w.grownBy w' v.ownBlock → K (a.put o.dst v') w') :
    if Region.wanted o (yielded ops a.tmps) = true then Oper.wp P o a w K Q else E := by
  have hw : Region.wanted o (yielded ops a.tmps) = true := by simp [Region.wanted, hgd]
  rw [if_pos hw]
  exact wp_append1 st hf w s x ho B v l hs hown g c n news hn hx hg hlen hbase h
theorem Owns.grown {w w' : World} {B T B0 : Nat} {v : Value} {l : List α} (h : Owns f w B T v l) (hg : w.grownBy w' v.ownBlock) (h0 : B0 ≤ B) (h1 : B0 ≤ w.heap.size) : Below B0 w w' :=
  (Below.refl B0 w).grown hg h1 (fun k hk => Nat.le_trans h0 (h.low k hk))
/-- A row that another row's growth leaves alone. -/
theorem Owns.kept {w w' : World} {B T : Nat} {v : Value} {l : List α} {row : Option Nat} (h : Owns f w B T v l) (hg : w.grownBy w' row) (hne : v.ownBlock = none ∨ v.ownBlock ≠ row) : Owns f w' B T v l :=
  World.ownsRow.kept h hg hne
/-- make([]T, n): a row of n zeros. -/
theorem wpList_make1 {P : Program} {t T : TypeId} {z : α} {cb : Nat} (st : ElT P t T (f z) cb) (w : World) {ops : Array Oper} {rest : List Oper} {o : Oper} {a : Act} {Q : Exit → Act → World → Prop}
    (hg : o.guard = none) (x y : Operand) (hop : o.op = Op.makeSlice t x y) (B : Nat) (kl kc : IntKind) (L C : Int) (n : Nat) (hl : a.eval x = .int kl L) (hc : a.eval y = .int kc C) (hL : L = (n : Int)) (hC : C = (n : Int)) (hn : n ≤ 1099511627776) (hB : B ≤ w.heap.size)
    (hK : ∀ w', Owns f w' B T (.slice (some ⟨w.heap.size, 0, none⟩) n n) (List.replicate n z) → w.grownBy w' none → wpList P ops Q rest (a.put o.dst (.slice (some ⟨w.heap.size, 0, none⟩) n n)) w') :
    wpList P ops Q (o :: rest) a w := by
  obtain ⟨i0, hi, hz0, hz1, hz2⟩ := info_parts st.hi
  refine wpList_make_full w hg x y t hop B T i0 (f z) 1 st.ht hi hz0 hz1 kl kc L C n hl hc hL hC ?_ (by unfold maxLen; omega) hB ?_
  · rw [hz2]; exact Nat.le_trans (Nat.mul_le_mul st.hc hn) (by omega)
  · intro w' hown hgr
    refine hK w' (Owns.zeros ?_) hgr
    rw [← st.hz]; exact hown
end Go.Proofs.Ytlljhcfiojfimaa.Row1
