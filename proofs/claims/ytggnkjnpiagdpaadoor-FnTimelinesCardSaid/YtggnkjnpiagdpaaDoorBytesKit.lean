/- Plain facts on byte rows: a row of bytes that the call owns reads back as a string; the hexadecimal digits. Imports nothing of the dump. -/
import Derived.WalkKit
import Derived.ProofKit
import Derived.ShutString
import Derived.Handy
import Derived.Deep.AppendLies
import Derived.Laws.IdiomStrings
import Derived.Laws.BytesArg
namespace Go.Proofs.YtggnkjnpiagdpaaDoor.BytesKit
open Go.RowKit

/-- The cells of a list of bytes. -/
def cellsB (l : List UInt8) : List Value := l.map fun b => Value.int .u8 (b.toNat : Int)
theorem cellsB_app (a b : List UInt8) : cellsB (a ++ b) = cellsB a ++ cellsB b := by simp [cellsB]
theorem cellsB_len (a : List UInt8) : (cellsB a).length = a.length := by simp [cellsB]

/-- The slice v owns the bytes l (element type T), from block B on. -/
def OwnsB (w : World) (B T : Nat) (v : Value) (l : List UInt8) : Prop := w.ownsRow B T 1 v l.length (cellsB l)

theorem OwnsB.str {P : Program} {w : World} {B T : Nat} {v : Value} {l : List UInt8} (h : OwnsB w B T v l) (src dst : TypeId)
    (hs : P.underlying src = some (.slice T)) (he : P.underlying T = some (.int .u8)) (hd : P.underlying dst = some .string) :
    (convert src dst v).run P w = .ok (.string ⟨l.toArray⟩) w := by
  rcases h.2 with ⟨rfl, h0⟩ | ⟨g, cap, cur, rfl, _, hg, _, _, _, htake⟩
  · have : l = [] := List.eq_nil_of_length_eq_zero h0
    subst this
    exact (run_convert_bytes_nil w src T hs he 0 0 dst hd).trans rfl
  · refine run_convert_bytes_back w src dst T ⟨g, 0, none⟩ cap l hs he hd fun j hj => ?_
    have hadd : (⟨g, 0, none⟩ : Addr).add j = ⟨g, j, none⟩ := by unfold Addr.add; split <;> simp_all
    rw [hadd, cell_of_row w g j cur T (0, 0) hg]
    have := congrArg (fun x => x[j]?) htake
    simp only [Nat.mul_one] at this
    rw [List.getElem?_take, if_pos hj] at this
    rw [show cur[j]? = cur.toList[j]? by simp, this]
    simp [cellsB, hj]

theorem OwnsB.nil (w : World) (B T : Nat) : OwnsB w B T (.slice none 0 0) [] := World.ownsRow_nil w B T 1
theorem OwnsB.made (w : World) (B T : Nat) (cur : Array Value) (cap : Nat) (hb : B ≤ w.heap.size) (hm : cap ≤ maxLen) (hs : cur.size = cap) :
    OwnsB (w.alloc (.cells cur T)) B T (.slice (some ⟨w.heap.size, 0, none⟩) 0 cap) [] := World.ownsRow_made w cur cap hb hm (by omega)

/-- The types of a program's byte slices: t is []uint8, T is uint8, r is string. -/
structure ByteTypes (P : Program) (t T r : TypeId) : Prop where
  ht : P.underlying t = some (.slice T)
  hT : P.underlying T = some (.int .u8)
  hr : P.underlying r = some .string
  hi : (P.info? T).map (fun i => (i.zero, i.size, i.bytes)) = some (some (.int .u8 0), 1, 1)

theorem cellsB_one (l : List UInt8) : ∀ u ∈ cellsB l, u.oneCell' = true := by
  intro u hu
  simp only [cellsB, List.mem_map] at hu
  obtain ⟨b, _, rfl⟩ := hu
  rfl

/-- An append of the bytes of a new block, in whatever world. -/
theorem run_append_bytes {P : Program} {t T r : TypeId} (bt : ByteTypes P t T r) (w : World) (ty : TypeId) (B : Nat) (v : Value) (l : List UInt8) (hown : OwnsB w B T v l)
    (g c : Nat) (news : List UInt8) (hg : w.heap[g]? = some (.cells (cellsB news).toArray T (0, 0))) (hlen : l.length + news.length ≤ 1099511627776) (hbase : B ≤ w.heap.size) :
    ∃ v' w', (Builtin.append_ #[t, t] ty #[v, .slice (some ⟨g, 0, none⟩) news.length c]).run P w = .ok v' w' ∧ OwnsB w' B T v' (l ++ news) ∧ Below B w w' := by
  obtain ⟨i0, hi, hz0, hz1, hz2⟩ := info_parts bt.hi
  obtain ⟨v', w', hr, h2, h3, _⟩ := run_append_own (P := P) w B t ty T i0 _ 1 1 bt.ht hi hz0 hz1 hz2 rfl (by omega) v l.length (cellsB l) hown ⟨g, 0, none⟩ news.length c (cellsB news)
    (by simp [cellsB_len]) (by simpa using World.news_of_block hg) (cellsB_one news) (by unfold maxLen; omega) (by omega) hbase
  refine ⟨v', w', hr, ?_, (Below.refl B w).grown h3 hbase (fun k hk => (hown.lt k hk).1)⟩
  unfold OwnsB
  rw [List.length_append, cellsB_app]
  exact h2

theorem wp_append_bytes {P : Program} {t T r : TypeId} (bt : ByteTypes P t T r) (w : World) {o : Oper} {a : Act} {K : Act → World → Prop} {Q : Exit → Act → World → Prop} (s x : Operand)
    (ho : o.op = .call { callee := .builtin .append, args := #[s, x], argTypes := #[t, t] })
    (B : Nat) (v : Value) (l : List UInt8) (hs : a.eval s = v) (hown : OwnsB w B T v l) (g c n : Nat) (news : List UInt8) (hn : n = news.length) (hx : a.eval x = .slice (some ⟨g, 0, none⟩) n c)
    (hg : w.heap[g]? = some (.cells (cellsB news).toArray T (0, 0))) (hlen : l.length + news.length ≤ 1099511627776) (hbase : B ≤ w.heap.size)
    (h : ∀ v' w', OwnsB w' B T v' (l ++ news) → Below B w w' → K (a.put o.dst v') w') : o.wp P a w K Q := by
  subst hn
  obtain ⟨v', w', hr, h2, h3⟩ := run_append_bytes bt w o.type B v l hown g c news hg hlen hbase
  unfold Oper.wp execOp
  simp only [ho, resolve, invoke, builtin, Sem.run_bind, Sem.run_pure, Result.andThen_ok, List.map_toArray, List.map_cons, List.map_nil, hs, hx, hr]
  exact h v' w' h2 h3

/-- .. at the list of a plain region's operations. -/
theorem wpList_append_bytes {P : Program} {t T r : TypeId} (bt : ByteTypes P t T r) (w : World) {ops : Array Oper} {rest : List Oper} {o : Oper} {a : Act} {Q : Exit → Act → World → Prop} (hgd : o.guard = none) (s x : Operand)
    (ho : o.op = .call { callee := .builtin .append, args := #[s, x], argTypes := #[t, t] })
    (B : Nat) (v : Value) (l : List UInt8) (hs : a.eval s = v) (hown : OwnsB w B T v l) (g c n : Nat) (news : List UInt8) (hn : n = news.length) (hx : a.eval x = .slice (some ⟨g, 0, none⟩) n c)
    (hg : w.heap[g]? = some (.cells (cellsB news).toArray T (0, 0))) (hlen : l.length + news.length ≤ 1099511627776) (hbase : B ≤ w.heap.size)
    (h : ∀ v' w', OwnsB w' B T v' (l ++ news) → Below B w w' → wpList P ops Q rest (a.put o.dst v') w') : wpList P ops Q (o :: rest) a w :=
  wpList_plain hgd fun _ hK => wp_append_bytes bt w s x ho B v l hs hown g c n news hn hx hg hlen hbase fun v' w' h2 h3 => hK _ _ (h v' w' h2 h3)

/-- .. at a step of a region that draws its order. -/
theorem step_append_bytes {P : Program} {t T r : TypeId} (bt : ByteTypes P t T r) (w : World) {ops : Array Oper} {o : Oper} {a : Act} {K : Act → World → Prop} {Q : Exit → Act → World → Prop} {E : Prop} (hgd : o.guard = none) (s x : Operand)
    (ho : o.op = .call { callee := .builtin .append, args := #[s, x], argTypes := #[t, t] })
    (B : Nat) (v : Value) (l : List UInt8) (hs : a.eval s = v) (hown : OwnsB w B T v l) (g c n : Nat) (news : List UInt8) (hn : n = news.length) (hx : a.eval x = .slice (some ⟨g, 0, none⟩) n c)
    (hg : w.heap[g]? = some (.cells (cellsB news).toArray T (0, 0))) (hlen : l.length + news.length ≤ 1099511627776) (hbase : B ≤ w.heap.size)
    (h : ∀ v' w', OwnsB w' B T v' (l ++ news) → Below B w w' → K (a.put o.dst v') w') :
    if Region.wanted o (yielded ops a.tmps) = true then Oper.wp P o a w K Q else E := by
  have hw : Region.wanted o (yielded ops a.tmps) = true := by simp [Region.wanted, hgd]
  rw [if_pos hw]
  exact wp_append_bytes bt w s x ho B v l hs hown g c n news hn hx hg hlen hbase h

theorem OwnsB.alloc {w : World} {B T : Nat} {v : Value} {l : List UInt8} (h : OwnsB w B T v l) (o : Obj) : OwnsB (w.alloc o) B T v l := World.ownsRow.alloc h o
theorem OwnsB.drew {w : World} {B T : Nat} {v : Value} {l : List UInt8} (h : OwnsB w B T v l) : OwnsB w.drew B T v l := World.ownsRow.drew h

/-- A step that keeps the row's block. -/
theorem OwnsB.keep {w w' : World} {B T : Nat} {v : Value} {l : List UInt8} (h : OwnsB w B T v l) (hk : ∀ k, B ≤ k → k < w.heap.size → w'.heap[k]? = w.heap[k]?) : OwnsB w' B T v l := by
  refine ⟨h.1, ?_⟩
  rcases h.2 with hn | ⟨g, cap, cur, rfl, hbg, hg, rest⟩
  · exact .inl hn
  · exact .inr ⟨g, cap, cur, rfl, hbg, (hk g hbg (Array.getElem?_eq_some_iff.1 hg).1).trans hg, rest⟩
theorem OwnsB.stored {w : World} {B T g cap n : Nat} {l : List UInt8} (h : OwnsB w B T (.slice (some ⟨g, 0, none⟩) n cap) l) (hn : n = l.length) (j : Nat) (b : UInt8) :
    OwnsB (w.setCell ⟨g, j, none⟩ (.int .u8 (b.toNat : Int))) B T (.slice (some ⟨g, 0, none⟩) n cap) (l.set j b) := by
  subst hn
  have := (World.ownsRow.stored h j (.int .u8 (b.toNat : Int))).1
  unfold OwnsB
  rw [List.length_set, show cellsB (l.set j b) = (cellsB l).set j (.int .u8 (b.toNat : Int)) by simp [cellsB, List.map_set]]
  exact this
theorem OwnsB.at {w : World} {B T g cap n : Nat} {l : List UInt8} (h : OwnsB w B T (.slice (some ⟨g, 0, none⟩) n cap) l) (hn : n = l.length) (j : Nat) (hj : j < n) :
    w.cell? ⟨g, j, none⟩ = some (.int .u8 ((l[j]'(hn ▸ hj)).toNat : Int)) ∧ w.frozen? ⟨g, j, none⟩ = false := by
  subst hn
  refine ⟨?_, World.ownsRow.frozenAt h j⟩
  have := World.ownsRow.cellAt h j (by omega)
  rw [this]
  simp [cellsB, hj]
theorem OwnsB.zeros {w : World} {B T g n : Nat} (h : w.ownsRow B T 1 (.slice (some ⟨g, 0, none⟩) n n) n (madeCells #[Value.int .u8 0] (n * 1)).toList) :
    OwnsB w B T (.slice (some ⟨g, 0, none⟩) n n) (List.replicate n 0) := by
  unfold OwnsB
  rw [List.length_replicate]
  rw [toList_madeCells_one, Nat.mul_one] at h
  rw [show cellsB (List.replicate n 0) = List.replicate n (Value.int .u8 0) by simp [cellsB]]
  exact h

theorem ret_int {k : IntKind} {a b : Int} (h : a = b) : Ending.returned (.int k a) = .returned (.int k b) := by rw [h]

/-- Any bytes' list as the datum of a string. -/
theorem mk_data (s : ByteArray) : (⟨s.data.toList.toArray⟩ : ByteArray) = s := by simp
end Go.Proofs.YtggnkjnpiagdpaaDoor.BytesKit
