/- An append of a code that came in (nil or not) onto bytes that the call owns: the result is a code again. Imports nothing of the dump. -/
import Derived.WalkKit
import Derived.Below
import Derived.Laws.OwnMore
import Derived.Laws.AppendOwn
import Derived.Test.YtkcebdoodadmeaaBytesKit
import Derived.Test.YtkcebdoodadmeaaCurKit
namespace Go.Proofs.Ytkcebdoodadmeaa.AppendCode
open Go.RowKit BytesKit CurKit

theorem codes {w : World} {a : Option Addr} {len : Nat} (h : CodeAt w a len) : ∃ news : List UInt8, news.length = len ∧ ∀ j, (hj : j < len) → ∀ x : Addr, a = some x → w.cell? (x.add j) = some (.int .u8 ((news.getD j 0).toNat : Int)) := by
  induction len with
  | zero => exact ⟨[], rfl, fun j hj => by omega⟩
  | succ m ih =>
    obtain ⟨ns, hl, hc⟩ := ih (fun j hj => h j (by omega))
    obtain ⟨blk, off, n, ha, hb, hcell, h0, h1⟩ := h m (by omega)
    refine ⟨ns ++ [UInt8.ofNat n.toNat], by simp [hl], fun j hj x hx => ?_⟩
    by_cases hjm : j < m
    · have := hc j hjm x hx
      rw [this]
      congr 4
      simp [List.getD, List.getElem?_append_left (show j < ns.length by omega)]
    · obtain rfl : j = m := by omega
      rw [ha] at hx
      obtain rfl := Option.some.inj hx
      have e : (⟨blk, off, none⟩ : Addr).add j = ⟨blk, off + j, none⟩ := by unfold Addr.add; split <;> simp_all
      rw [e, hcell]
      have e2 : (ns ++ [UInt8.ofNat n.toNat]).getD j 0 = UInt8.ofNat n.toNat := by
        subst hl
        simp [List.getD]
      rw [e2]
      congr 2
      have : (UInt8.ofNat n.toNat).toNat = n.toNat := by
        rw [UInt8.toNat_ofNat']; omega
      omega

theorem run_append_code {P : Program} {t T r : TypeId} (bt : ByteTypes P t T r) (w : World) (ty : TypeId) (B : Nat) (v : Value) (l : List UInt8) (hown : OwnsB w B T v l)
    (a : Option Addr) (len cap : Nat) (hcode : CodeAt w a len) (hnil : a = none → len = 0 ∧ cap = 0) (hlen : l.length + len ≤ 1099511627776) (hbase : B ≤ w.heap.size) :
    ∃ v' w' news, (Builtin.append_ #[t, t] ty #[v, .slice a len cap]).run P w = .ok v' w' ∧ news.length = len ∧ OwnsB w' B T v' (l ++ news) ∧ Below B w w' := by
  obtain ⟨i0, hi, hz0, hz1, hz2⟩ := info_parts bt.hi
  cases a with
  | none =>
    obtain ⟨rfl, rfl⟩ := hnil rfl
    exact ⟨v, w, [], run_append_owned_none (P := P) (w := w) B t ty T i0 1 bt.ht hi v l.length (cellsB l) hown, rfl, by simpa using hown, Below.refl _ _⟩
  | some x =>
    obtain ⟨news, hl, hc⟩ := codes hcode
    obtain ⟨v', w', hr, h2, h3, _⟩ := run_append_own (P := P) w B t ty T i0 _ 1 1 bt.ht hi hz0 hz1 hz2 rfl (by omega) v l.length (cellsB l) hown x len cap (cellsB news)
      (by simp [cellsB_len, hl]) (fun j u hu => by
        have hj : j < news.length := by
          rcases Nat.lt_or_ge j news.length with h | h
          · exact h
          · rw [List.getElem?_eq_none (by simpa [cellsB_len] using h)] at hu; cases hu
        rw [hc j (by omega) x rfl, ← hu]
        simp [cellsB, List.getD, hj]) (cellsB_one news) (by unfold maxLen; omega) (by omega) hbase
    refine ⟨v', w', news, hr, hl, ?_, (Below.refl B w).grown h3 hbase (fun k hk => (hown.lt k hk).1)⟩
    unfold OwnsB
    rw [List.length_append, cellsB_app, hl]
    exact h2

theorem wpList_append_code {P : Program} {t T r : TypeId} (bt : ByteTypes P t T r) (w : World) {ops : Array Oper} {rest : List Oper} {o : Oper} {a : Act} {Q : Exit → Act → World → Prop} (hgd : o.guard = none) (s x : Operand)
    (ho : o.op = .call { callee := .builtin .append, args := #[s, x], argTypes := #[t, t] })
    (B : Nat) (v : Value) (l : List UInt8) (hs : a.eval s = v) (hown : OwnsB w B T v l) (ad : Option Addr) (len cap : Nat) (hx : a.eval x = .slice ad len cap)
    (hcode : CodeAt w ad len) (hnil : ad = none → len = 0 ∧ cap = 0) (hlen : l.length + len ≤ 1099511627776) (hbase : B ≤ w.heap.size)
    (h : ∀ v' w' news, news.length = len → OwnsB w' B T v' (l ++ news) → Below B w w' → wpList P ops Q rest (a.put o.dst v') w') : wpList P ops Q (o :: rest) a w := by
  refine wpList_plain hgd fun K hK => ?_
  obtain ⟨v', w', news, hr, h1, h2, h3⟩ := run_append_code bt w o.type B v l hown ad len cap hcode hnil hlen hbase
  unfold Oper.wp execOp
  simp only [ho, resolve, invoke, builtin, Sem.run_bind, Sem.run_pure, Result.andThen_ok, List.map_toArray, List.map_cons, List.map_nil, hs, hx, hr]
  exact hK _ _ (h v' w' news h1 h2 h3)

/-- The bytes of a slice literal that the call has just laid. -/
theorem lit_own (w : World) (T : TypeId) (l : List UInt8) (h : l.length ≤ 1048576) : OwnsB (w.alloc (.cells (cellsB l).toArray T)) w.heap.size T (.slice (some ⟨w.heap.size, 0, none⟩) l.length l.length) l := by
  refine ⟨by simp [cellsB_len], .inr ⟨w.heap.size, l.length, (cellsB l).toArray, rfl, Nat.le_refl _, heap_alloc_new w _, Nat.le_refl _, by unfold maxLen; omega, by simp [cellsB_len], ?_⟩⟩
  rw [Nat.mul_one, ← cellsB_len l, List.take_length]
/-- Owned bytes are a code, with a form. -/
theorem own_code {w : World} {B T : Nat} {v : Value} {l : List UInt8} (h : OwnsB w B T v l) (hl : 0 < l.length) : ∃ g cap, v = .slice (some ⟨g, 0, none⟩) l.length cap ∧ B ≤ g ∧ CodeAt w (some ⟨g, 0, none⟩) l.length := by
  rcases h.2 with ⟨_, h0⟩ | ⟨g, cap, cur, rfl, hb, hg, hcap, _, hs, _⟩
  · omega
  · refine ⟨g, cap, rfl, hb, fun j hj => ⟨g, 0, ((l[j]'hj).toNat : Int), rfl, (Array.getElem?_eq_some_iff.1 hg).1, ?_, by omega, by have := UInt8.toNat_lt (l[j]'hj); omega⟩⟩
    rw [Nat.zero_add]
    exact (h.at rfl j hj).1
theorem code_below {w w' : World} {a : Option Addr} {len : Nat} (h : CodeAt w a len) (hb : Below w.heap.size w w') : CodeAt w' a len := fun j hj => by
  obtain ⟨blk, off, n, h1, h2, h3, h4⟩ := h j hj
  exact ⟨blk, off, n, h1, Nat.lt_of_lt_of_le h2 hb.size, by rw [hb.cell (p := ⟨blk, off + j, none⟩) h2]; exact h3, h4⟩
/-- A struct's block and a literal's bytes are laid: the bytes are owned, the code reads on. -/
theorem lit_code {a : Option Addr} {len : Nat} {l : List UInt8} (w : World) (o : Obj) (T : TypeId) (h : CodeAt w a len) (hl : l.length ≤ 1048576) :
    OwnsB ((w.alloc o).alloc (.cells (cellsB l).toArray T)) (w.heap.size + 1) T (.slice (some ⟨w.heap.size + 1, 0, none⟩) l.length l.length) l ∧ CodeAt ((w.alloc o).alloc (.cells (cellsB l).toArray T)) a len := by
  have e : (w.alloc o).heap.size = w.heap.size + 1 := by simp
  refine ⟨?_, code_below h (((Below.refl _ _).alloc (Nat.le_refl _) _).alloc (by simp) _)⟩
  have := lit_own (w.alloc o) T l hl
  rw [e] at this
  exact this
end Go.Proofs.Ytkcebdoodadmeaa.AppendCode
