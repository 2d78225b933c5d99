/- Rows of rules that grow by append, or whose nodes are copied one by one; a new row that has room. -/
import Derived.Test.YtkfgflmhefbinaaRows
import Derived.Test.YtkfgflmhefbinaaTBook
import Derived.Test.YtkfgflmhefbinaaKit
import Derived.Lib.AppendZeros
namespace Go.Proofs.Ytkfgflmhefbinaa.RuleRow
open Go.RowKit RowN TRule TBook
theorem own_cap {α : Type} {f : α → List Value} {c : Nat} {w : World} {B T n cap : Nat} {a : Option Addr} {l : List α} (h : Owns f c w B T (.slice a n cap) l) : n ≤ cap := by
  rcases h.2 with ⟨e, _⟩ | ⟨g, cap', cur, e, _, _, hnc, _⟩
  · cases e; exact Nat.le_refl _
  · cases e; exact hnc
theorem OwD.cap {w : World} {lo hi n cap : Nat} {a : Option Addr} {rs : List Ru} (h : OwD w lo hi (.slice a n cap) rs) : n ≤ cap := by
  obtain ⟨xs, _, h⟩ := h
  exact own_cap h.out.own
/-- The row is the call's own, and so are the nodes behind its first j elements. -/
structure Part (w : World) (lo hi : Nat) (v : Value) (j : Nat) (ys : List El) : Prop where
  out : Own.Ow fc 7 T w lo hi v ys
  inn : ∀ k (h : k < ys.length), k < j → Own.Ow TNode.fc 6 TNode.T w lo hi (sl ys[k]) ys[k].r.Nodes
  apart : ∀ i (h : i < ys.length) k, i < j → (sl ys[i]).ownBlock = some k → v.ownBlock ≠ some k
  sep : ∀ i i' (hi : i < ys.length) (hi' : i' < ys.length) k, i < j → i' < j → i ≠ i' → (sl ys[i]).ownBlock = some k → (sl ys[i']).ownBlock ≠ some k
theorem Part.on {w w' : World} {lo hi j : Nat} {v : Value} {ys : List El} (h : Part w lo hi v j ys) (hb : Below w.heap.size w w') : Part w' lo hi v j ys :=
  ⟨h.out.on hb, fun k hk hj => (h.inn k hk hj).on hb, h.apart, h.sep⟩
theorem Part.up {w : World} {lo hi hi' j : Nat} {v : Value} {ys : List El} (h : Part w lo hi v j ys) (h1 : hi ≤ hi') (h2 : hi' ≤ w.heap.size) : Part w lo hi' v j ys :=
  ⟨⟨h.out.own, fun k hk => Nat.lt_of_lt_of_le (h.out.top k hk) h1, h2⟩, fun k hk hj => ⟨(h.inn k hk hj).own, fun q hq => Nat.lt_of_lt_of_le ((h.inn k hk hj).top q hq) h1, h2⟩, h.apart, h.sep⟩
theorem Part.start {w : World} {lo hi : Nat} {v : Value} {ys : List El} (h : Own.Ow fc 7 T w lo hi v ys) : Part w lo hi v 0 ys :=
  ⟨h, fun _ _ e => by omega, fun _ _ _ e => by omega, fun _ _ _ _ _ e => by omega⟩
theorem Part.nest {w : World} {lo hi j : Nat} {v : Value} {ys : List El} (h : Part w lo hi v j ys) (hj : ys.length ≤ j) : Nest w lo hi v ys :=
  ⟨h.out, fun k hk => h.inn k hk (by omega), fun i hi k hk => h.apart i hi k (by omega) hk, fun i i' hi hi' k hne hk => h.sep i i' hi hi' k (by omega) (by omega) hne hk⟩
/-- The next element's nodes are copied: its slice is stored. -/
theorem Part.put {w : World} {lo hi g cap n j : Nat} {ys : List El} (h : Part w lo hi (.slice (some ⟨g, 0, none⟩) n cap) j ys) (hj : j < ys.length) (p : Option Addr) (c : Nat) (hx : Own.Ow TNode.fc 6 TNode.T w lo hi (.slice p ys[j].r.Nodes.length c) ys[j].r.Nodes)
    (hg : ∀ k, (Value.slice p ys[j].r.Nodes.length c).ownBlock = some k → k ≠ g) (hs : ∀ k, (Value.slice p ys[j].r.Nodes.length c).ownBlock = some k → ∀ i (hi : i < ys.length), i < j → (sl ys[i]).ownBlock ≠ some k) :
    Part (w.setCell ⟨g, j * 7 + 6, none⟩ (.slice p ys[j].r.Nodes.length c)) lo hi (.slice (some ⟨g, 0, none⟩) n cap) (j + 1) (ys.set j ⟨ys[j].r, p, c⟩) := by
  have hsz : (w.setCell ⟨g, j * 7 + 6, none⟩ (.slice p ys[j].r.Nodes.length c)).heap.size = w.heap.size := by simp
  refine ⟨⟨h.out.own.stored fw j hj 6 (by omega) (.slice p ys[j].r.Nodes.length c) ⟨ys[j].r, p, c⟩ rfl, h.out.top, by rw [hsz]; exact h.out.lim⟩, fun i hi hij => ?_, fun i hi k hij hk => ?_, fun i i' hi hi' k hij hij' hne hk => ?_⟩
  · rw [List.length_set] at hi
    by_cases e : j = i
    · subst e
      rw [List.getElem_set_self]
      exact ⟨hx.own.beside (fun e => hg g e rfl) _, hx.top, by rw [hsz]; exact hx.lim⟩
    · rw [List.getElem_set_ne e]
      have q := h.inn i hi (by omega)
      exact ⟨q.own.beside (fun e2 => h.apart i hi g (by omega) e2 rfl) _, q.top, by rw [hsz]; exact q.lim⟩
  · rw [List.length_set] at hi
    by_cases e : j = i
    · subst e
      rw [List.getElem_set_self] at hk
      intro e2
      exact hg k hk (Option.some.inj e2).symm
    · rw [List.getElem_set_ne e] at hk
      exact h.apart i hi k (by omega) hk
  · rw [List.length_set] at hi hi'
    by_cases e : j = i
    · subst e
      rw [List.getElem_set_self] at hk
      rw [List.getElem_set_ne hne]
      exact hs k hk i' hi' (by omega)
    · rw [List.getElem_set_ne e] at hk
      by_cases e' : j = i'
      · subst e'
        rw [List.getElem_set_self]
        intro e2
        exact hs k e2 i hi (by omega) hk
      · rw [List.getElem_set_ne e']
        exact h.sep i i' hi hi' k (by omega) (by omega) hne hk
/-- An element is appended, its nodes in a block that nothing else has. -/
theorem Nest.snoc {w w' : World} {lo hi : Nat} {v v' : Value} {xs : List El} {x : El} (h : Nest w lo hi v xs) (hx : Own.Ow TNode.fc 6 TNode.T w lo hi (sl x) x.r.Nodes)
    (hv : ∀ k, (sl x).ownBlock = some k → v.ownBlock ≠ some k) (hs : ∀ k, (sl x).ownBlock = some k → ∀ i (hi : i < xs.length), (sl xs[i]).ownBlock ≠ some k)
    (ho : Owns fc 7 w' lo T v' (xs ++ [x])) (hg : w.grownBy w' v.ownBlock) (ha : At w v v') : Nest w' lo w'.heap.size v' (xs ++ [x]) := by
  have at_ : ∀ i (hi : i < (xs ++ [x]).length), (∃ h : i < xs.length, (xs ++ [x])[i] = xs[i]) ∨ (i = xs.length ∧ (xs ++ [x])[i] = x) := fun i hi => by
    by_cases e : i < xs.length
    · exact .inl ⟨e, List.getElem_append_left e⟩
    · have : i = xs.length := by simp at hi; omega
      subst this
      exact .inr ⟨rfl, by simp⟩
  have ow : ∀ (y : El), Own.Ow TNode.fc 6 TNode.T w lo hi (sl y) y.r.Nodes → (∀ k, (sl y).ownBlock = some k → v.ownBlock ≠ some k) → Own.Ow TNode.fc 6 TNode.T w' lo w'.heap.size (sl y) y.r.Nodes := fun y hy hne =>
    Own.ow_of (hy.own.kept hg (by
      cases e : (sl y).ownBlock with
      | none => exact .inl rfl
      | some k => exact .inr (fun e2 => hne k e e2.symm)))
  have ap : ∀ (y : El), Own.Ow TNode.fc 6 TNode.T w lo hi (sl y) y.r.Nodes → (∀ k, (sl y).ownBlock = some k → v.ownBlock ≠ some k) → ∀ k, (sl y).ownBlock = some k → v'.ownBlock ≠ some k := fun y hy hne k hk e => by
    rcases ha k e with q | q
    · exact hne k hk q
    · have := hy.top k hk
      have := hy.lim
      omega
  refine ⟨Own.ow_of ho, fun i hi => ?_, fun i hi k hk => ?_, fun i i' hi hi' k hne hk => ?_⟩
  · rcases at_ i hi with ⟨q, e⟩ | ⟨_, e⟩
    · rw [e]; exact ow _ (h.inn i q) (fun k hk => h.apart i q k hk)
    · rw [e]; exact ow _ hx hv
  · rcases at_ i hi with ⟨q, e⟩ | ⟨_, e⟩
    · rw [e] at hk; exact ap _ (h.inn i q) (fun k hk => h.apart i q k hk) k hk
    · rw [e] at hk; exact ap _ hx hv k hk
  · rcases at_ i hi with ⟨q, e⟩ | ⟨q, e⟩
    · rw [e] at hk
      rcases at_ i' hi' with ⟨q', e'⟩ | ⟨_, e'⟩
      · rw [e']; exact h.sep i i' q q' k hne hk
      · rw [e']; intro e2; exact hs k e2 i q hk
    · rw [e] at hk
      rcases at_ i' hi' with ⟨q', e'⟩ | ⟨q', e'⟩
      · rw [e']; exact hs k hk i' q'
      · omega
/-- A store into a block that none of the rows has. -/
theorem Nest.beside {w : World} {lo hi b o : Nat} {v : Value} {xs : List El} (h : Nest w lo hi v xs) (h1 : v.ownBlock ≠ some b) (h2 : ∀ i (hi : i < xs.length), (sl xs[i]).ownBlock ≠ some b) (u : Value) : Nest (w.setCell ⟨b, o, none⟩ u) lo hi v xs :=
  ⟨⟨h.out.own.beside h1 u, h.out.top, by simpa using h.out.lim⟩, fun j hj => ⟨(h.inn j hj).own.beside (h2 j hj) u, (h.inn j hj).top, by simpa using (h.inn j hj).lim⟩, h.apart, h.sep⟩
theorem grow_step {w4 w5 : World} {lo hi : Nat} {s v' : Value} {ys : List El} {x : El} (h : Nest w4 lo hi s ys) (hlo : lo ≤ hi) (hx : Own.Ow TNode.fc 6 TNode.T w4 hi w4.heap.size (sl x) x.r.Nodes)
    (ho : Owns fc 7 w5 lo T v' (ys ++ [x])) (o : Obj) (hg : (w4.alloc o).grownBy w5 s.ownBlock) (ha : At (w4.alloc o) s v') : Nest w5 lo w5.heap.size v' (ys ++ [x]) ∧ Below lo w4 w5 := by
  have hb : Below w4.heap.size w4 (w4.alloc o) := BelowKit.bl_alloc (Below.refl _ _)
  have hl := h.out.lim
  have hz : w4.heap.size ≤ (w4.alloc o).heap.size := hb.size
  refine ⟨Nest.snoc ((h.on hb).up (hi' := w4.heap.size) hl hz) ((hx.on hb).base hlo) (fun k hk e => ?_) (fun k hk i hi e => ?_) ho hg ha, ?_⟩
  · have h1 := hx.own.low k hk
    have h2 := h.out.top k e
    omega
  · have h1 := hx.own.low k hk
    have h2 := (h.inn i hi).top k e
    omega
  · exact ((Below.refl lo w4).alloc (by omega) o).grown hg (by omega) (fun k hk => h.out.own.low k hk)
/-- The answer is AddRule's, in new memory. -/
def IsAdd (rs : List Ru) (b : Bool) (w : World) (e : Ending) (w' : World) : Prop := ∃ p c, e = .returned (.tuple #[.agg #[.slice p rs.length c], .bool b]) ∧ OwD w' w.heap.size w'.heap.size (.slice p rs.length c) rs ∧ Below w.heap.size w w'
theorem reads_snoc {w : World} {lo : Nat} {n cap : Nat} {p : Option Addr} {xs : List El} {y : El} (ho : Owns fc 7 w lo T (.slice p n cap) (xs ++ [y])) (h : ∀ j (h : j < xs.length), Reads TNode.fc 6 w xs[j].p xs[j].r.Nodes) (hy : Reads TNode.fc 6 w y.p y.r.Nodes) : ReadsD w p (xs ++ [y]) := by
  refine ⟨reads_own fw ho, fun j hj => ?_⟩
  by_cases e : j < xs.length
  · rw [List.getElem_append_left e]; exact h j e
  · obtain rfl : j = xs.length := by simp at hj; omega
    simpa using hy
theorem few_snoc {rs : List Ru} {r : Ru} (h : Few rs) (hr : r.Nodes.length ≤ 1099511627776) : Few (rs ++ [r]) := fun j hj => by
  by_cases e : j < rs.length
  · rw [List.getElem_append_left e]; exact h j e
  · obtain rfl : j = rs.length := by simp at hj; omega
    simpa using hr
theorem newR (w : World) (x : El) (g : Nat) (hg : w.heap.size = g) : ∀ j u, ([x].flatMap fc)[j]? = some u →
    (w.alloc (.cells #[.int .i64 x.r.Name, .int .i64 x.r.From, .int .i64 x.r.To, .int .i64 x.r.Joined, .int .i64 x.r.Rank, .int .i64 x.r.Mode, .slice x.p x.r.Nodes.length x.c] 34)).cell? ((⟨g, 0, none⟩ : Addr).add j) = some u := by
  subst hg
  exact news_block (T := 34) (heap_alloc_new w _)
theorem newL (w : World) (x0 x1 x2 x3 x4 x5 : Int) (p : Option Addr) (n c : Nat) (l : List TNode.El) (hn : l.length = n) (g : Nat) (hg : w.heap.size = g) : ∀ j u, ([(⟨⟨x0, x1, x2, x3, x4, x5, l⟩, p, c⟩ : El)].flatMap fc)[j]? = some u →
    (w.alloc (.cells #[.int .i64 x0, .int .i64 x1, .int .i64 x2, .int .i64 x3, .int .i64 x4, .int .i64 x5, .slice p n c] 34)).cell? ((⟨g, 0, none⟩ : Addr).add j) = some u := by
  subst hn
  exact newR w ⟨⟨x0, x1, x2, x3, x4, x5, l⟩, p, c⟩ g hg
theorem newD (w : World) (x : El) (g : Nat) (hg : w.heap.size = g) : Reads fc 7 (w.alloc (.cells #[.int .i64 x.r.Name, .int .i64 x.r.From, .int .i64 x.r.To, .int .i64 x.r.Joined, .int .i64 x.r.Rank, .int .i64 x.r.Mode, .slice x.p x.r.Nodes.length x.c] 34)) (some ⟨g, 0, none⟩) [x] := fun j hj => by
  obtain rfl : j = 0 := by simpa using hj
  refine ⟨g, 0, rfl, by subst hg; simp, fun i hi => ?_⟩
  have e : (fc x)[i]? = some ((fc x)[i]'(by simpa [fc] using hi)) := List.getElem?_eq_getElem _
  have := newR w x g hg i _ (by rw [show ([x].flatMap fc) = fc x by simp]; exact e)
  simp only [Addr.add] at this
  simp only [List.getElem_cons_zero, Nat.zero_mul, Nat.zero_add]
  rw [e]
  by_cases h0 : i = 0
  · subst h0; simpa using this
  · simpa [h0] using this
section
variable {α : Type} {f : α → List Value} {c : Nat}
theorem zero_size (z : Array Value) (n : Nat) : (Builtin.zeroCells z n).size = n * z.size := by simp [Builtin.zeroCells]
/-- append(nil, make([]T, n)...): a new block of zeros. -/
theorem run_zerosN {P : Program} {t T tn : TypeId} {z : Value} {cb : Nat} (st : ElT P t T z c cb) (hc : 0 < c) (kn : IntKind) (htn : P.underlying tn = some (.int kn)) (w : World) (ty : TypeId) (n : Nat) (h0 : 0 < n) (hn : n ≤ 1099511627776) :
    (Builtin.append_ #[t, tn] ty #[.slice none 0 0, .int kn n]).run P w =
      .ok (.slice (some ⟨w.heap.size, 0, none⟩) n (grownCap w n 0 T)) (w.drew.alloc (.cells (Builtin.zeroCells z.cells n ++ Builtin.zeroCells z.cells (grownCap w n 0 T - n)) T)) := by
  obtain ⟨i0, hi, hz0, hz1, hz2⟩ := info_parts st.hi
  refine Lib.run_append_nil_zeros w t tn ty T i0 z kn kn st.ht htn hi hz0 n h0 (by rw [hz1]; exact hc) (by omega) ?_
  rw [hz2]
  exact Nat.le_trans (Nat.mul_le_mul hn st.hb) (by omega)
/-- Such a block, cut to length 0, is an empty row with room. -/
theorem owns_room {P : Program} {t T : TypeId} {z : Value} {cb : Nat} (st : ElT P t T z c cb) (w : World) (B n : Nat) (hB : B ≤ w.heap.size) (hn : n ≤ 1099511627776) :
    Owns f c (w.drew.alloc (.cells (Builtin.zeroCells z.cells n ++ Builtin.zeroCells z.cells (grownCap w n 0 T - n)) T)) B T (.slice (some ⟨w.heap.size, 0, none⟩) 0 (grownCap w n 0 T)) [] := by
  have h1 := grownCap_ge w n 0 T
  have h2 := grownCap_le_maxLen w n 0 T (by unfold maxLen; omega)
  refine ⟨by simp, .inr ⟨_, _, _, rfl, hB, heap_alloc_new w.drew _, Nat.zero_le _, h2, ?_, by simp⟩⟩
  rw [Array.size_append, zero_size, zero_size, st.hz, ← Nat.add_mul]
  congr 1
  omega
end
end Go.Proofs.Ytkfgflmhefbinaa.RuleRow
