/- Rows of elements of c one-cell fields each that the call owns, whatever the elements: made, appended to, copied into, stored into, read. Imports nothing of the dump. -/
import Derived.WalkKit
import Derived.ProofKit
import Derived.Handy
import Derived.Laws.CopyOwn
import Derived.Deep.AppendLies
import Derived.ArgAppend
import Derived.Maps.AppendAt
import Derived.Deep.QuietTactic
namespace Go.Proofs.Ytlljhcfiojfimaa.RowN
open Go.RowKit
variable {α : Type} {f : α → List Value} {c : Nat}

/-- An element's cells: c of them, each one cell. -/
structure Wide (f : α → List Value) (c : Nat) : Prop where
  len : ∀ x, (f x).length = c
  one : ∀ x, ∀ v ∈ f x, v.oneCell' = true
  pos : 0 < c

theorem flat_len (wd : Wide f c) (l : List α) : (l.flatMap f).length = l.length * c := by
  induction l with
  | nil => simp
  | cons x xs ih => rw [List.flatMap_cons, List.length_append, ih, wd.len, List.length_cons, Nat.add_mul, Nat.one_mul, Nat.add_comm]
theorem flat_get (wd : Wide f c) : ∀ (l : List α) (j : Nat) (hj : j < l.length) (i : Nat), i < c → (l.flatMap f)[j * c + i]? = (f l[j])[i]?
  | x :: xs, 0, _, i, hi => by
    rw [List.flatMap_cons, Nat.zero_mul, Nat.zero_add, List.getElem?_append_left (by rw [wd.len]; exact hi)]
    rfl
  | x :: xs, j + 1, hj, i, hi => by
    have e : (j + 1) * c + i = (f x).length + (j * c + i) := by rw [wd.len, Nat.add_mul, Nat.one_mul]; omega
    rw [List.flatMap_cons, e, List.getElem?_append_right (Nat.le_add_right _ _), Nat.add_sub_cancel_left]
    exact flat_get wd xs j (by simpa using hj) i hi
theorem flat_set (wd : Wide f c) : ∀ (l : List α) (j : Nat) (hj : j < l.length) (i : Nat), i < c → ∀ (u : Value) (x' : α), f x' = (f l[j]).set i u → (l.flatMap f).set (j * c + i) u = (l.set j x').flatMap f
  | x :: xs, 0, _, i, hi, u, x', hx => by
    rw [List.flatMap_cons, Nat.zero_mul, Nat.zero_add, List.set_append_left _ _ (by rw [wd.len]; exact hi), List.set_cons_zero, List.flatMap_cons, hx]
    rfl
  | x :: xs, j + 1, hj, i, hi, u, x', hx => by
    have e : (j + 1) * c + i = (f x).length + (j * c + i) := by rw [wd.len, Nat.add_mul, Nat.one_mul]; omega
    rw [List.flatMap_cons, e, List.set_append_right _ _ (Nat.le_add_right _ _), Nat.add_sub_cancel_left, List.set_cons_succ, List.flatMap_cons]
    exact congrArg _ (flat_set wd xs j (by simpa using hj) i hi u x' hx)
theorem flat_one (wd : Wide f c) (l : List α) : ∀ u ∈ l.flatMap f, u.oneCell' = true := fun u hu => by
  obtain ⟨x, _, hx⟩ := List.mem_flatMap.1 hu
  exact wd.one x u hx

/-- The slice v owns the elements l (c cells each, by f; element type T), from block B on. -/
def Owns (f : α → List Value) (c : Nat) (w : World) (B T : Nat) (v : Value) (l : List α) : Prop := w.ownsRow B T c v l.length (l.flatMap f)
/-- The types of such slices: t is the slice type, T the element type, z its zero value, b its bytes. -/
structure ElT (P : Program) (t T : TypeId) (z : Value) (c b : Nat) : Prop where
  ht : P.underlying t = some (.slice T)
  hi : (P.info? T).map (fun i => (i.zero, i.size, i.bytes)) = some (some z, c, b)
  hb : b ≤ 128
  hz : z.cells.size = c

theorem Owns.nil (w : World) (B T : Nat) : Owns f c w B T (.slice none 0 0) [] := World.ownsRow_nil w B T c
theorem Owns.made (w : World) (B T : Nat) (hb : B ≤ w.heap.size) : Owns f c (w.alloc (.cells #[] T)) B T (.slice (some ⟨w.heap.size, 0, none⟩) 0 0) [] :=
  World.ownsRow_made w #[] 0 hb (Nat.zero_le _) (by simp)
theorem Owns.alloc {w : World} {B T : Nat} {v : Value} {l : List α} (h : Owns f c w B T v l) (o : Obj) : Owns f c (w.alloc o) B T v l := World.ownsRow.alloc h o
theorem Owns.drewN {w : World} {B T : Nat} {v : Value} {l : List α} (h : Owns f c w B T v l) (n : Nat) : Owns f c (w.drewN n) B T v l := h
theorem Owns.drew {w : World} {B T : Nat} {v : Value} {l : List α} (h : Owns f c w B T v l) : Owns f c w.drew B T v l := h
theorem Owns.lt {w : World} {B T : Nat} {v : Value} {l : List α} (h : Owns f c w B T v l) : ∀ k, v.ownBlock = some k → k < w.heap.size := fun k hk => (World.ownsRow.lt h k hk).2
theorem Owns.low {w : World} {B T : Nat} {v : Value} {l : List α} (h : Owns f c w B T v l) : ∀ k, v.ownBlock = some k → B ≤ k := fun k hk => (World.ownsRow.lt h k hk).1
theorem Owns.below {w w' : World} {B T C : Nat} {v : Value} {l : List α} (h : Owns f c w B T v l) (hb : Below C w w') (hv : ∀ k, v.ownBlock = some k → k < C) : Owns f c w' B T v l := by
  refine ⟨h.1, ?_⟩
  rcases h.2 with hn | ⟨g, cap, cur, rfl, hbg, hg, rest⟩
  · exact .inl hn
  · exact .inr ⟨g, cap, cur, rfl, hbg, (hb.block g (hv g rfl)).trans hg, rest⟩
theorem Owns.on {w w' : World} {B T : Nat} {v : Value} {l : List α} (h : Owns f c w B T v l) (hb : Below w.heap.size w w') : Owns f c w' B T v l := h.below hb h.lt
theorem Owns.base {w : World} {B B' T : Nat} {v : Value} {l : List α} (h : Owns f c w B T v l) (hb : B' ≤ B) : Owns f c w B' T v l := by
  refine ⟨h.1, ?_⟩
  rcases h.2 with hn | ⟨g, cap, cur, rfl, hbg, hg, rest⟩
  · exact .inl hn
  · exact .inr ⟨g, cap, cur, rfl, Nat.le_trans hb hbg, hg, rest⟩
/-- What such a value looks like. -/
theorem Owns.form (wd : Wide f c) {w : World} {B T : Nat} {v : Value} {l : List α} (h : Owns f c w B T v l) :
    ∃ a cap, v = .slice a l.length cap ∧ (∀ j (hj : j < l.length), ∃ g, a = some ⟨g, 0, none⟩ ∧ B ≤ g ∧ g < w.heap.size ∧ ∀ i, i < c → w.cell? ⟨g, j * c + i, none⟩ = (f l[j])[i]? ∧ w.frozen? ⟨g, j * c + i, none⟩ = false) := by
  rcases h.2 with ⟨rfl, h0⟩ | ⟨g, cap, cur, rfl, hbg, hg, hnc, hcm, hcs, htake⟩
  · exact ⟨none, 0, by rw [h0], fun j hj => by omega⟩
  · refine ⟨some ⟨g, 0, none⟩, cap, rfl, fun j hj => ⟨g, rfl, hbg, (Array.getElem?_eq_some_iff.1 hg).1, fun i hi => ⟨?_, frozen_of_row w g _ cur T hg⟩⟩⟩
    have hlt : j * c + i < l.length * c := Nat.lt_of_lt_of_le (Nat.add_lt_add_left hi _) (by rw [← Nat.succ_mul]; exact Nat.mul_le_mul_right _ hj)
    rw [World.ownsRow.cellAt h (j * c + i) hlt]
    exact flat_get wd l j hj i hi
theorem Owns.len (wd : Wide f c) {w : World} {B T n cap : Nat} {a : Option Addr} {l : List α} (h : Owns f c w B T (.slice a n cap) l) : n = l.length := by
  obtain ⟨_, _, e, _⟩ := h.form wd
  cases e
  rfl
theorem Owns.at (wd : Wide f c) {w : World} {B T n cap : Nat} {a : Option Addr} {l : List α} (h : Owns f c w B T (.slice a n cap) l) (j : Nat) (hj : j < l.length) :
    ∃ g, a = some ⟨g, 0, none⟩ ∧ B ≤ g ∧ g < w.heap.size ∧ ∀ i, i < c → w.cell? ⟨g, j * c + i, none⟩ = (f l[j])[i]? ∧ w.frozen? ⟨g, j * c + i, none⟩ = false := by
  obtain ⟨a', cap', hv, kk⟩ := h.form wd
  cases hv
  exact kk j hj
theorem Owns.cell (wd : Wide f c) {w : World} {B T g n cap : Nat} {l : List α} (h : Owns f c w B T (.slice (some ⟨g, 0, none⟩) n cap) l) (j : Nat) (hj : j < l.length) :
    ∀ i, i < c → w.cell? ⟨g, j * c + i, none⟩ = (f l[j])[i]? ∧ w.frozen? ⟨g, j * c + i, none⟩ = false := by
  obtain ⟨g', e, _, _, h1⟩ := h.at wd j hj
  cases e
  exact h1
/-- A store of one field into such a row. -/
theorem Owns.stored (wd : Wide f c) {w : World} {B T g cap n : Nat} {l : List α} (h : Owns f c w B T (.slice (some ⟨g, 0, none⟩) n cap) l) (j : Nat) (hj : j < l.length) (i : Nat) (hi : i < c) (u : Value) (x' : α) (hx : f x' = (f l[j]).set i u) :
    Owns f c (w.setCell ⟨g, j * c + i, none⟩ u) B T (.slice (some ⟨g, 0, none⟩) n cap) (l.set j x') := by
  obtain rfl := h.len wd
  have := (World.ownsRow.stored h (j * c + i) u).1
  unfold Owns
  rw [List.length_set, ← flat_set wd l j hj i hi u x' hx]
  exact this
/-- A store into another row. -/
theorem Owns.beside {w : World} {B T g o : Nat} {v : Value} {l : List α} (h : Owns f c w B T v l) (hne : v.ownBlock ≠ some g) (x : Value) :
    Owns f c (w.setCell ⟨g, o, none⟩ x) B T v l := by
  refine ⟨h.1, ?_⟩
  rcases h.2 with hn | ⟨g', cap, cur, rfl, hbg, hg, rest⟩
  · exact .inl hn
  · exact .inr ⟨g', cap, cur, rfl, hbg, (Below.heap_setCell _ _ _ _ (fun e => hne (by simp [Value.ownBlock, e]))).trans hg, rest⟩
theorem Owns.grown {w w' : World} {B T B0 : Nat} {v : Value} {l : List α} (h : Owns f c w B T v l) (hg : w.grownBy w' v.ownBlock) (h0 : B0 ≤ B) (h1 : B0 ≤ w.heap.size) : Below B0 w w' :=
  (Below.refl B0 w).grown hg h1 (fun k hk => Nat.le_trans h0 (h.low k hk))
/-- A row that another row's growth leaves alone. -/
theorem Owns.kept {w w' : World} {B T : Nat} {v : Value} {l : List α} {row : Option Nat} (h : Owns f c w B T v l) (hg : w.grownBy w' row) (hne : v.ownBlock = none ∨ v.ownBlock ≠ row) : Owns f c w' B T v l :=
  World.ownsRow.kept h hg hne

/-- Where the row lies behind an append: where it lay, or in a new block. -/
def At (w : World) (v v' : Value) : Prop := ∀ k, v'.ownBlock = some k → v.ownBlock = some k ∨ w.heap.size ≤ k
/-- append of the elements news, whose cells lie at ad. -/
theorem run_appendN {P : Program} {t T : TypeId} {z : Value} {cb : Nat} (st : ElT P t T z c cb) (wd : Wide f c) (w : World) (ty : TypeId) (B : Nat) (v : Value) (l : List α) (hown : Owns f c w B T v l)
    (ad : Addr) (k : Nat) (news : List α) (hg : ∀ j u, (news.flatMap f)[j]? = some u → w.cell? (ad.add j) = some u) (hlen : l.length + news.length ≤ 1099511627776) (hbase : B ≤ w.heap.size) :
    ∃ v' w', (Builtin.append_ #[t, t] ty #[v, .slice (some ad) news.length k]).run P w = .ok v' w' ∧ Owns f c w' B T v' (l ++ news) ∧ w.grownBy w' v.ownBlock ∧ At w v v' := by
  obtain ⟨i0, hi, hz0, hz1, hz2⟩ := info_parts st.hi
  have hmul : (l.length + news.length) * cb ≤ 140737488355328 := Nat.le_trans (Nat.mul_le_mul hlen st.hb) (by omega)
  obtain ⟨v', w', hr, h2, h3, _, h5⟩ := run_append_own_at (P := P) w B t ty T i0 _ c cb st.ht hi hz0 hz1 hz2 st.hz wd.pos v l.length (l.flatMap f) hown ad news.length k (news.flatMap f)
    (flat_len wd news) hg (flat_one wd news) (by unfold maxLen; omega) hmul hbase
  refine ⟨v', w', hr, ?_, h3, fun k hk => ?_⟩
  · unfold Owns
    rw [List.length_append, List.flatMap_append]
    exact h2
  · rcases h5 with h | h
    · exact .inl (h ▸ hk)
    · rw [h] at hk; exact .inr (by have := Option.some.inj hk; omega)
theorem wp_appendN {P : Program} {t T : TypeId} {z : Value} {cb : Nat} (st : ElT P t T z c cb) (wd : Wide f c) (w : World) {o : Oper} {a : Act} {K : Act → World → Prop} {Q : Exit → Act → World → Prop} (s x : Operand)
    (ho : o.op = .call { callee := .builtin .append, args := #[s, x], argTypes := #[t, t] })
    (B : Nat) (v : Value) (l : List α) (hs : a.eval s = v) (hown : Owns f c w B T v l) (ad : Addr) (k n : Nat) (news : List α) (hn : n = news.length) (hx : a.eval x = .slice (some ad) n k)
    (hg : ∀ j u, (news.flatMap f)[j]? = some u → w.cell? (ad.add j) = some u) (hlen : l.length + news.length ≤ 1099511627776) (hbase : B ≤ w.heap.size)
    (h : ∀ v' w', Owns f c w' B T v' (l ++ news) → w.grownBy w' v.ownBlock → At w v v' → K (a.put o.dst v') w') : o.wp P a w K Q := by
  subst hn
  obtain ⟨v', w', hr, h2, h3, h4⟩ := run_appendN st wd w o.type B v l hown ad k news hg hlen hbase
  unfold Oper.wp execOp
  simp only [ho, resolve, invoke, builtin, Sem.run_bind, Sem.run_pure, Result.andThen_ok, List.map_toArray, List.map_cons, List.map_nil, hs, hx, hr]
  exact h v' w' h2 h3 h4
theorem wpList_appendN {P : Program} {t T : TypeId} {z : Value} {cb : Nat} (st : ElT P t T z c cb) (wd : Wide f c) (w : World) {ops : Array Oper} {rest : List Oper} {o : Oper} {a : Act} {Q : Exit → Act → World → Prop} (hgd : o.guard = none) (s x : Operand)
    (ho : o.op = .call { callee := .builtin .append, args := #[s, x], argTypes := #[t, t] })
    (B : Nat) (v : Value) (l : List α) (hs : a.eval s = v) (hown : Owns f c w B T v l) (ad : Addr) (k n : Nat) (news : List α) (hn : n = news.length) (hx : a.eval x = .slice (some ad) n k)
    (hg : ∀ j u, (news.flatMap f)[j]? = some u → w.cell? (ad.add j) = some u) (hlen : l.length + news.length ≤ 1099511627776) (hbase : B ≤ w.heap.size)
    (h : ∀ v' w', Owns f c w' B T v' (l ++ news) → w.grownBy w' v.ownBlock → At w v v' → wpList P ops Q rest (a.put o.dst v') w') : wpList P ops Q (o :: rest) a w :=
  wpList_plain hgd fun _ hK => wp_appendN st wd w s x ho B v l hs hown ad k n news hn hx hg hlen hbase fun v' w' h2 h3 h4 => hK _ _ (h v' w' h2 h3 h4)
/-- The cells to be appended, where they are a block that is known whole. -/
theorem news_block {w : World} {g T : Nat} {news : List α} (hg : w.heap[g]? = some (.cells (news.flatMap f).toArray T (0, 0))) : ∀ j u, (news.flatMap f)[j]? = some u → w.cell? ((⟨g, 0, none⟩ : Addr).add j) = some u := by
  simpa using World.news_of_block hg
theorem step_appendN {P : Program} {t T : TypeId} {z : Value} {cb : Nat} (st : ElT P t T z c cb) (wd : Wide f c) (w : World) {ops : Array Oper} {o : Oper} {a : Act} {K : Act → World → Prop} {Q : Exit → Act → World → Prop} {E : Prop} (hgd : o.guard = none) (s x : Operand)
    (ho : o.op = .call { callee := .builtin .append, args := #[s, x], argTypes := #[t, t] })
    (B : Nat) (v : Value) (l : List α) (hs : a.eval s = v) (hown : Owns f c w B T v l) (ad : Addr) (k n : Nat) (news : List α) (hn : n = news.length) (hx : a.eval x = .slice (some ad) n k)
    (hg : ∀ j u, (news.flatMap f)[j]? = some u → w.cell? (ad.add j) = some u) (hlen : l.length + news.length ≤ 1099511627776) (hbase : B ≤ w.heap.size)
    (h : ∀ v' w', Owns f c w' B T v' (l ++ news) → w.grownBy w' v.ownBlock → At w v v' → K (a.put o.dst v') w') :
    if Region.wanted o (yielded ops a.tmps) = true then Oper.wp P o a w K Q else E := by
  have hw : Region.wanted o (yielded ops a.tmps) = true := by simp [Region.wanted, hgd]
  rw [if_pos hw]
  exact wp_appendN st wd w s x ho B v l hs hown ad k n news hn hx hg hlen hbase h

/-- make([]T, n): a row of n zeros (z0 is the zero element). -/
theorem wpList_makeN {P : Program} {t T : TypeId} {z : Value} {z0 : α} {cb : Nat} (st : ElT P t T z c cb) (wd : Wide f c) (hz0 : z.cells.toList = f z0) (w : World) {ops : Array Oper} {rest : List Oper} {o : Oper} {a : Act} {Q : Exit → Act → World → Prop}
    (hg : o.guard = none) (x y : Operand) (hop : o.op = Op.makeSlice t x y) (B : Nat) (kl kc : IntKind) (L C : Int) (n : Nat) (hl : a.eval x = .int kl L) (hc : a.eval y = .int kc C) (hL : L = (n : Int)) (hC : C = (n : Int)) (hn : n ≤ 1099511627776) (hB : B ≤ w.heap.size)
    (hK : ∀ w', Owns f c w' B T (.slice (some ⟨w.heap.size, 0, none⟩) n n) (List.replicate n z0) → w.grownBy w' none → wpList P ops Q rest (a.put o.dst (.slice (some ⟨w.heap.size, 0, none⟩) n n)) w') :
    wpList P ops Q (o :: rest) a w := by
  obtain ⟨i0, hi, hz, hz1, hz2⟩ := info_parts st.hi
  refine wpList_make_full w hg x y t hop B T i0 z c st.ht hi hz hz1 kl kc L C n hl hc hL hC ?_ (by unfold maxLen; omega) hB ?_
  · rw [hz2]; exact Nat.le_trans (Nat.mul_le_mul st.hb hn) (by omega)
  · intro w' hown hgr
    refine hK w' ?_ hgr
    have e : (madeCells z.cells (n * c)).toList = (List.replicate n z0).flatMap f := by
      have hlen : ((List.replicate n z0).flatMap f).length = n * c := by rw [flat_len wd, List.length_replicate]
      apply List.ext_getElem?
      intro p
      by_cases hp : p < n * c
      · have hc := wd.pos
        have hdm : p / c * c + p % c = p := by rw [Nat.mul_comm]; exact Nat.div_add_mod p c
        have hq : p / c < n := by rw [Nat.div_lt_iff_lt_mul hc]; exact hp
        have hm : p % c < c := Nat.mod_lt _ hc
        have h1 := flat_get wd (List.replicate n z0) (p / c) (by simpa using hq) (p % c) hm
        rw [hdm] at h1
        rw [h1, List.getElem_replicate, ← hz0]
        have hzs := st.hz
        simp [madeCells, hp, hzs, hm]
      · rw [List.getElem?_eq_none (by simp [size_madeCells]; omega), List.getElem?_eq_none (by omega)]
    unfold Owns
    rw [List.length_replicate, ← e]
    exact hown

/-- The first elements of a slice read as l. -/
def Reads (f : α → List Value) (c : Nat) (w : World) (a : Option Addr) (l : List α) : Prop := ∀ j (hj : j < l.length), ∃ blk off, a = some ⟨blk, off, none⟩ ∧ blk < w.heap.size ∧ ∀ i, i < c → w.cell? ⟨blk, off + j * c + i, none⟩ = (f l[j])[i]?
theorem Reads.below {w w' : World} {B : Nat} {a : Option Addr} {l : List α} (h : Reads f c w a l) (hb : Below B w w') (hB : ∀ b o, a = some ⟨b, o, none⟩ → b < B) : Reads f c w' a l := fun j hj => by
  obtain ⟨blk, off, e, hlt, hc⟩ := h j hj
  exact ⟨blk, off, e, Nat.lt_of_lt_of_le hlt hb.size, fun i hi => (hb.cell (p := ⟨blk, off + j * c + i, none⟩) (hB _ _ e)).trans (hc i hi)⟩
theorem Reads.on {w w' : World} {a : Option Addr} {l : List α} (h : Reads f c w a l) (hb : Below w.heap.size w w') : Reads f c w' a l := fun j hj => by
  obtain ⟨blk, off, e, hlt, hc⟩ := h j hj
  exact ⟨blk, off, e, Nat.lt_of_lt_of_le hlt hb.size, fun i hi => (hb.cell (p := ⟨blk, off + j * c + i, none⟩) hlt).trans (hc i hi)⟩
theorem Reads.drewN {w : World} {a : Option Addr} {l : List α} (h : Reads f c w a l) (n : Nat) : Reads f c (w.drewN n) a l := h
theorem Reads.nil (w : World) (a : Option Addr) : Reads f c w a [] := fun j hj => by simp at hj
theorem reads_own (wd : Wide f c) {w : World} {B T n cap : Nat} {a : Option Addr} {l : List α} (h : Owns f c w B T (.slice a n cap) l) : Reads f c w a l := fun j hj => by
  obtain ⟨g, e, _, hlt, hc⟩ := h.at wd j hj
  exact ⟨g, 0, e, hlt, fun i hi => by rw [Nat.zero_add]; exact (hc i hi).1⟩

/-- The cells of a slice that reads as l, one after another. -/
theorem Reads.cells (wd : Wide f c) {w : World} {blk off : Nat} {l : List α} (h : Reads f c w (some ⟨blk, off, none⟩) l) : ∀ p u, (l.flatMap f)[p]? = some u → w.cell? ((⟨blk, off, none⟩ : Addr).add p) = some u := by
  intro p u hu
  have hp : p < l.length * c := by rw [← flat_len wd]; exact (List.getElem?_eq_some_iff.1 hu).1
  have hc := wd.pos
  have hdm : p / c * c + p % c = p := by rw [Nat.mul_comm]; exact Nat.div_add_mod p c
  have hq : p / c < l.length := by rw [Nat.div_lt_iff_lt_mul hc]; exact hp
  have hm : p % c < c := Nat.mod_lt _ hc
  have h1 := flat_get wd l (p / c) hq (p % c) hm
  rw [hdm, hu] at h1
  obtain ⟨b', o', e, _, h2⟩ := h (p / c) hq
  cases e
  have h3 := h2 (p % c) hm
  rw [Nat.add_assoc, hdm, ← h1] at h3
  rw [Addr.add_lit]
  exact h3

theorem run_copyN {P : Program} (w : World) (dT sT ty elem : TypeId) (g o dLen dCap : Nat) (a : Addr) (sLen sCap : Nat) (cur : Array Value) (t : TypeId) (cs : List Value) (m : Nat)
    (hu : P.underlying dT = some (.slice elem)) (hs : (P.info? elem).map (·.size) = some c)
    (hg : w.heap[g]? = some (.cells cur t (0, 0))) (hm : Nat.min sLen dLen = m) (hn : cs.length = m * c)
    (hsrc : ∀ j v, cs[j]? = some v → w.cell? (a.add j) = some v) (hfit : o + cs.length ≤ cur.size) (h1 : ∀ v ∈ cs, v.oneCell' = true) :
    (Builtin.copy_ #[dT, sT] ty #[.slice (some ⟨g, o, none⟩) dLen dCap, .slice (some a) sLen sCap]).run P w =
      .ok (goInt (m : Nat)) (w.setRow g (cur.toList.take o ++ cs ++ cur.toList.drop (o + cs.length)).toArray) := by
  have hl := run_loadCells_list (P := P) w a cs hsrc
  have hst := run_storeCells_at P g o t cs 0 cur w hg (by simpa using hfit) h1
  cases hq : P.info? elem with
  | none => simp [hq] at hs
  | some i =>
    have hi : i.size = c := by simpa [hq] using hs
    simp [Builtin.copy_, run_underlying hu, Builtin.lenOf, Builtin.firstCells, sizeOf, typeInfo, hq, hi, hm, ← hn, hl, hst]
theorem run_copyN_none {P : Program} (w : World) (dT sT ty elem : TypeId) (d a : Option Addr) (dLen dCap sLen sCap : Nat) (hu : P.underlying dT = some (.slice elem)) (hs : (P.info? elem).map (·.size) = some c) (hn : Nat.min sLen dLen = 0) :
    (Builtin.copy_ #[dT, sT] ty #[.slice d dLen dCap, .slice a sLen sCap]).run P w = .ok (goInt 0) w := by
  cases hq : P.info? elem with
  | none => simp [hq] at hs
  | some i =>
    have hl : ∀ (x : Addr), (loadCells x 0).run P w = .ok #[] w := fun x => by simpa using run_loadCells_list (P := P) w x [] (by simp)
    cases d <;> cases a <;> simp [Builtin.copy_, run_underlying hu, Builtin.lenOf, Builtin.firstCells, sizeOf, typeInfo, hq, hn, storeCells, hl]
/-- copy over a whole row that the call owns, from a slice of as many elements. -/
theorem wpList_copyN {P : Program} {t T : TypeId} {z : Value} {cb : Nat} (st : ElT P t T z c cb) (wd : Wide f c) (w : World) {ops : Array Oper} {rest : List Oper} {o : Oper} {a : Act} {Q : Exit → Act → World → Prop} (hgd : o.guard = none) (d s : Operand) (sT : TypeId)
    (ho : o.op = .call { callee := .builtin .copy, args := #[d, s], argTypes := #[t, sT] }) (B g n dc sc : Nat) (sa : Option Addr) (l0 l : List α) (hd : a.eval d = .slice (some ⟨g, 0, none⟩) n dc) (hs : a.eval s = .slice sa n sc)
    (hown : Owns f c w B T (.slice (some ⟨g, 0, none⟩) n dc) l0) (hl : l.length = n) (hr : Reads f c w sa l)
    (h : ∀ w', Owns f c w' B T (.slice (some ⟨g, 0, none⟩) n dc) l → w.grownBy w' (some g) → wpList P ops Q rest (a.put o.dst (goInt n)) w') : wpList P ops Q (o :: rest) a w := by
  obtain ⟨i0, hi, hz0, hz1, hz2⟩ := info_parts st.hi
  have hsz : (P.info? T).map (·.size) = some c := by rw [hi]; simp [hz1]
  have h0 := hown.len wd
  refine wpList_plain hgd fun K hK => ?_
  by_cases hn : n = 0
  · have hl0 : l0 = l := by rw [List.eq_nil_of_length_eq_zero (show l0.length = 0 by omega), List.eq_nil_of_length_eq_zero (show l.length = 0 by omega)]
    subst hl0
    have hrun := run_copyN_none (P := P) w t sT o.type T (some ⟨g, 0, none⟩) sa n dc n sc st.ht hsz (by simp [hn])
    unfold Oper.wp
    simp [execOp, ho, resolve, invoke, builtin, hd, hs, hrun, Result.andThen]
    refine hK _ _ ?_
    have := h w hown ⟨rfl, rfl, rfl, Nat.le_refl _, fun _ _ _ => rfl⟩
    rw [hn] at this
    exact this
  · obtain ⟨blk, off, rfl, _, _⟩ := hr 0 (by omega)
    have hown' := hown
    rcases hown'.2 with ⟨h', _⟩ | ⟨g', cap', cur, h', hb, hg, hnc, hcm, hcs, htake⟩
    · simp at h'
    · simp only [Value.slice.injEq, Option.some.injEq, Addr.mk.injEq, and_true] at h'
      obtain ⟨rfl, rfl, rfl⟩ := h'
      have hlf : (l.flatMap f).length = l0.length * c := by rw [flat_len wd, hl, ← h0]
      have hfit : (l.flatMap f).length ≤ cur.size := by rw [hlf, hcs]; exact Nat.mul_le_mul_right _ hnc
      have hrun := run_copyN (P := P) w t sT o.type T g 0 _ dc ⟨blk, off, none⟩ _ sc cur T (l.flatMap f) l0.length st.ht hsz hg (Nat.min_self _) hlf (hr.cells wd) (by omega) (flat_one wd l)
      obtain ⟨F, hF⟩ : ∃ F, l.flatMap f = F := ⟨_, rfl⟩
      rw [hF] at hrun hfit hlf
      unfold Oper.wp
      simp [execOp, ho, resolve, invoke, builtin, hd, hs, hrun, Result.andThen]
      refine hK _ _ ?_
      refine h _ ⟨flat_len wd l, .inr ⟨g, dc, _, by rw [hl], hb, setRow_heap w g cur _ T _ hg, by omega, hcm, ?_, ?_⟩⟩ ⟨rfl, rfl, rfl, by simp, fun k _ hk => setRow_other w g k _ (fun e => hk (by simp [e]))⟩
      · simp only [List.size_toArray, List.length_append, List.length_drop, Array.length_toList]
        omega
      · simp only []
        rw [hF, show l.length * c = F.length by rw [hlf, hl]]
        simp
/-- append to a slice that is full: always a new row. -/
theorem run_append_fullN {P : Program} {t T : TypeId} {z : Value} {cb : Nat} (st : ElT P t T z c cb) (wd : Wide f c) (w : World) (ty : TypeId) (ao : Option Addr) (n : Nat) (l : List α) (hl : l.length = n) (hr : Reads f c w ao l) (hnone : ao = none → n = 0)
    (ad : Addr) (k : Nat) (news : List α) (hg : ∀ j u, (news.flatMap f)[j]? = some u → w.cell? (ad.add j) = some u) (hlen : n + news.length ≤ 1099511627776) (h1 : 0 < news.length) :
    ∃ v' w', (Builtin.append_ #[t, t] ty #[.slice ao n n, .slice (some ad) news.length k]).run P w = .ok v' w' ∧ Owns f c w' w.heap.size T v' (l ++ news) ∧ w.grownBy w' none := by
  cases ao with
  | none =>
    obtain rfl := hnone rfl
    obtain rfl : l = [] := List.eq_nil_of_length_eq_zero hl
    obtain ⟨v', w', hr, ho, hg', _⟩ := run_appendN st wd w ty w.heap.size (.slice none 0 0) [] (Owns.nil _ _ _) ad k news hg (by simpa using hlen) (Nat.le_refl _)
    exact ⟨v', w', hr, ho, hg'⟩
  | some b =>
    obtain ⟨i0, hi, hz0, hz1, hz2⟩ := info_parts st.hi
    have hmul : (n + news.length) * cb ≤ 140737488355328 := Nat.le_trans (Nat.mul_le_mul hlen st.hb) (by omega)
    have hcell : ∀ j u, (l.flatMap f)[j]? = some u → w.cell? (b.add j) = some u := by
      by_cases h0 : 0 < l.length
      · obtain ⟨blk, off, e, _, _⟩ := hr 0 h0
        cases e
        exact hr.cells wd
      · rw [List.eq_nil_of_length_eq_zero (show l.length = 0 by omega)]
        intro j u hu
        simp at hu
    obtain ⟨v', w', hrun, h2, h3⟩ := run_append_arg_grows (P := P) w t ty T i0 _ c cb st.ht hi hz0 hz1 hz2 st.hz wd.pos b n n (l.flatMap f) (by rw [flat_len wd, hl]) hcell ad news.length k (news.flatMap f)
      (flat_len wd news) hg (by omega) (by unfold maxLen; omega) hmul
    refine ⟨v', w', hrun, ?_, h3⟩
    unfold Owns
    rw [List.length_append, List.flatMap_append, hl]
    exact h2
theorem run_append_of_nil {P : Program} (w : World) (base : Nat) (t ty e : TypeId) (i : TypeInfo) (size : Nat) (ht : P.underlying t = some (.slice e)) (hi : P.info? e = some i)
    (v : Value) (n : Nat) (xs : List Value) (hown : w.ownsRow base e size v n xs) (k : Nat) :
    (Builtin.append_ #[t, t] ty #[v, .slice none 0 k]).run P w = .ok v w := by
  rcases hown.2 with ⟨rfl, rfl⟩ | ⟨b, cap, cur, rfl, hb, hg, hnc, hcm, hcs, htake⟩
  · simp [Builtin.append_, run_underlying ht, sizeOf, typeInfo, hi, Builtin.lenOf, Builtin.firstCells]
  · simp [Builtin.append_, run_underlying ht, sizeOf, typeInfo, hi, Builtin.lenOf, Builtin.firstCells, hnc, storeCells]
/-- append of a slice that reads as l, whatever its address. -/
theorem run_append_readsN {P : Program} {t T : TypeId} {z : Value} {cb : Nat} (st : ElT P t T z c cb) (wd : Wide f c) (w : World) (ty : TypeId) (B : Nat) (v : Value) (l0 : List α) (hown : Owns f c w B T v l0)
    (sa : Option Addr) (k : Nat) (l : List α) (hr : Reads f c w sa l) (hlen : l0.length + l.length ≤ 1099511627776) (hbase : B ≤ w.heap.size) :
    ∃ v' w', (Builtin.append_ #[t, t] ty #[v, .slice sa l.length k]).run P w = .ok v' w' ∧ Owns f c w' B T v' (l0 ++ l) ∧ w.grownBy w' v.ownBlock ∧ At w v v' := by
  by_cases h0 : l = []
  · subst h0
    cases sa with
    | none =>
      obtain ⟨i0, hi, _⟩ := info_parts st.hi
      exact ⟨v, w, run_append_of_nil w B t ty T i0 c st.ht hi v _ _ hown k, by simpa using hown, World.grownBy.refl w _, fun k hk => .inl hk⟩
    | some b => exact run_appendN st wd w ty B v l0 hown b k [] (by simp) hlen hbase
  · have hp : 0 < l.length := by cases l; exact absurd rfl h0; simp
    obtain ⟨blk, off, rfl, _, _⟩ := hr 0 hp
    exact run_appendN st wd w ty B v l0 hown ⟨blk, off, none⟩ k l (hr.cells wd) hlen hbase
theorem wpList_append_readsN {P : Program} {t T : TypeId} {z : Value} {cb : Nat} (st : ElT P t T z c cb) (wd : Wide f c) (w : World) {ops : Array Oper} {rest : List Oper} {o : Oper} {a : Act} {Q : Exit → Act → World → Prop} (hgd : o.guard = none) (s x : Operand)
    (ho : o.op = .call { callee := .builtin .append, args := #[s, x], argTypes := #[t, t] })
    (B : Nat) (v : Value) (l0 : List α) (hs : a.eval s = v) (hown : Owns f c w B T v l0) (sa : Option Addr) (k n : Nat) (l : List α) (hn : l.length = n) (hx : a.eval x = .slice sa n k)
    (hr : Reads f c w sa l) (hlen : l0.length + n ≤ 1099511627776) (hbase : B ≤ w.heap.size)
    (h : ∀ v' w', Owns f c w' B T v' (l0 ++ l) → w.grownBy w' v.ownBlock → At w v v' → wpList P ops Q rest (a.put o.dst v') w') : wpList P ops Q (o :: rest) a w := by
  subst hn
  refine wpList_plain hgd fun K hK => ?_
  obtain ⟨v', w', hrun, h2, h3, h4⟩ := run_append_readsN st wd w o.type B v l0 hown sa k l hr hlen hbase
  unfold Oper.wp execOp
  simp only [ho, resolve, invoke, builtin, Sem.run_bind, Sem.run_pure, Result.andThen_ok, List.map_toArray, List.map_cons, List.map_nil, hs, hx, hrun]
  exact hK _ _ (h v' w' h2 h3 h4)
end Go.Proofs.Ytlljhcfiojfimaa.RowN
