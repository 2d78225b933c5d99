/- Rules and books that came in; the exact laws' helpers on Rule in the shape that gen_exact.py wants. -/
import Derived.Test.YtkfgflmhefbinaaRows
import Derived.Test.YtkfgflmhefbinaaRuleRow
import Derived.Test.YtkfgflmhefbinaaBookMath
import Derived.Test.YtkfgflmhefbinaaKit
namespace Go.Proofs.Ytkfgflmhefbinaa.RuleX
open Go.RowKit RowN TRule TBook BookMath Shape
theorem cov {w : World} {cs : List Value} (h : FitL w [.int .i64, .int .i64, .int .i64, .int .i64, .int .i64, .int .i64, .sl [.int .i64, .int .i64, .int .i64, .int .i64, .int .i64, .int .i64]] cs) : ∃ x : El, cs = fc x ∧ (Reads TNode.fc 6 w x.p x.r.Nodes ∧ x.r.Nodes.length ≤ 9223372036854775807) := by
  obtain ⟨x0, r0, rfl, _, h⟩ := fit_int h
  obtain ⟨x1, r1, rfl, _, h⟩ := fit_int h
  obtain ⟨x2, r2, rfl, _, h⟩ := fit_int h
  obtain ⟨x3, r3, rfl, _, h⟩ := fit_int h
  obtain ⟨x4, r4, rfl, _, h⟩ := fit_int h
  obtain ⟨x5, r5, rfl, _, h⟩ := fit_int h
  obtain ⟨a, len, cap, r6, rfl, s, h⟩ := fit_sl h
  obtain rfl := fit_nil h
  obtain ⟨z, rfl, hr, hl, _⟩ := Shape.reads_of (f := TNode.fc) (c := 6) (good := TNode.Wf) rfl (fun _ h => TNode.cov h) s
  exact ⟨⟨⟨x0, x1, x2, x3, x4, x5, z⟩, a, cap⟩, rfl, hr, hl⟩
/-- A slice of rules that came in. -/
theorem rd_of {w : World} {a : Option Addr} {len cap : Nat} (h : FitC w (.sl [.int .i64, .int .i64, .int .i64, .int .i64, .int .i64, .int .i64, .sl [.int .i64, .int .i64, .int .i64, .int .i64, .int .i64, .int .i64]]) (.slice a len cap)) :
    ∃ z : List Ru, z.length = len ∧ RdD w a z ∧ len ≤ 9223372036854775807 ∧ ∀ j (h : j < z.length), z[j].Nodes.length ≤ 9223372036854775807 := by
  obtain ⟨l, hl, hr, hb, hg⟩ := Shape.reads_of (f := fc) (c := 7) (good := fun x => Reads TNode.fc 6 w x.p x.r.Nodes ∧ x.r.Nodes.length ≤ 9223372036854775807) rfl (fun _ h => cov h) h
  refine ⟨l.map (·.r), by rw [List.length_map, hl], ⟨l, rfl, hr, fun j hj => (hg _ (List.getElem_mem hj)).1⟩, hb, fun j hj => ?_⟩
  rw [List.length_map] at hj
  rw [List.getElem_map]
  exact (hg _ (List.getElem_mem hj)).2
theorem sz_facts {L : List Ru} {n : Nat} {Z : Int} (hn : L.length = n) (hz : szT L = Z) (h : Z ≤ 1048576) : n ≤ 1048576 ∧ Few L ∧ (∀ j (h : j < L.length), L[j].Nodes.length ≤ 1048576) ∧ tot L = 6 * Z ∧ 0 ≤ Z := by
  have h1 := hz
  unfold szT at h1
  have h2 : ∀ j (h : j < L.length), L[j].Nodes.length ≤ 1048576 := fun j hj => by have := nds_at L j hj; omega
  exact ⟨by omega, fun j hj => by have := h2 j hj; omega, h2, by rw [tot_nds, hz], by omega⟩
theorem few_marks : ∀ (rs : List Ru) (k : Int), Few rs → Few (marks k rs)
  | [], _, _ => fun j hj => by simp [marks] at hj
  | r :: rs, k, h => fun j hj => by
    cases j with
    | zero =>
      have := h 0 (by simp)
      simpa [marks, mkR, TNode.marks_len] using this
    | succ j =>
      have := few_marks rs (k + wid r) (fun j hj => by have := h (j + 1) (by simpa using hj); simpa using this) j (by simpa [marks] using hj)
      simpa [marks] using this
theorem few_added {rs : List Ru} {r : Ru} (h : Few rs) (hr : r.Nodes.length ≤ 1099511627776) : Few (added rs r).1 := by
  unfold added
  split
  · exact RuleRow.few_snoc h hr
  · exact h
theorem tot_added (rs : List Ru) (r : Ru) : 0 ≤ tot (added rs r).1 ∧ tot (added rs r).1 ≤ tot rs + 6 + 6 * (r.Nodes.length : Int) := by
  unfold added
  have h1 := tot_pos rs
  have h2 := tot_snoc rs r
  unfold wid at h2
  split
  · simp only []; omega
  · simp only []; omega
theorem len_added (rs : List Ru) (r : Ru) : (added rs r).1.length ≤ rs.length + 1 := by
  unfold added
  split
  · simp
  · simp
theorem gaps_len (rs : List Ru) (nm jo f t : Int) : (gaps rs nm jo f t).length ≤ 3600 := by
  unfold gaps
  split
  next h => exact Nat.le_trans (gapsTo_len _ _ _ _ _) (by have h1 := Mon.inB_of h.2.1; have h2 := Mon.inB_of h.2.2; omega)
  next => simp
theorem lim {w : World} {lo hi : Nat} {v : Value} {rs : List Ru} (h : OwD w lo hi v rs) : hi ≤ w.heap.size := by obtain ⟨_, _, h⟩ := h; exact h.out.lim
theorem to_hi {w : World} {lo hi hi' : Nat} {v : Value} {rs : List Ru} (h : OwD w lo hi v rs) (e : hi = hi') : OwD w lo hi' v rs := e ▸ h
def IsRl (x0 x1 x2 x3 x4 x5 : Int) (l : List TNode.El) (w : World) (e : Ending) (w' : World) : Prop := ∃ p c, e = .returned (.agg #[.int .i64 x0, .int .i64 x1, .int .i64 x2, .int .i64 x3, .int .i64 x4, .int .i64 x5, .slice p l.length c]) ∧ Owns TNode.fc 6 w' w.heap.size TNode.T (.slice p l.length c) l ∧ Below w.heap.size w w'
theorem to_l (w : World) (x0 x1 x2 x3 x4 x5 : Int) (p : Option Addr) (n c : Nat) (l : List TNode.El) (hm : l.length = n) (hs : n ≤ 1099511627776) (h : Reads TNode.fc 6 w p l) :
    Calls Try.prog 30 #[.agg #[.int .i64 x0, .int .i64 x1, .int .i64 x2, .int .i64 x3, .int .i64 x4, .int .i64 x5, .slice p n c]] w (IsRl x0 x1 x2 x3 x4 x5 l w) := by
  subst hm
  exact (to1 ⟨⟨x0, x1, x2, x3, x4, x5, l⟩, p, c⟩ w hs h).mono (fun _ _ ⟨p', c', e, ho, hb⟩ => ⟨p', c', e, ho.own, hb⟩)
theorem eq_l (w : World) (x0 x1 x2 x3 x4 x5 : Int) (n c1 c2 : Nat) (a1 a2 : Option Addr) (l : List TNode.El) (hm : l.length = n) (hs : n ≤ 1099511627776) (h1 : Reads TNode.fc 6 w a1 l) (h2 : Reads TNode.fc 6 w a2 l) :
    Calls Try.prog 32 #[.agg #[.int .i64 x0, .int .i64 x1, .int .i64 x2, .int .i64 x3, .int .i64 x4, .int .i64 x5, .slice a1 n c1], .agg #[.int .i64 x0, .int .i64 x1, .int .i64 x2, .int .i64 x3, .int .i64 x4, .int .i64 x5, .slice a2 n c2]] w (IsBo true w) := by
  subst hm
  exact eq1 ⟨⟨x0, x1, x2, x3, x4, x5, l⟩, a1, c1⟩ ⟨⟨x0, x1, x2, x3, x4, x5, l⟩, a2, c2⟩ w rfl hs h1 h2
theorem mark_l (w : World) (x0 x1 x2 x3 x4 x5 : Int) (lo hi : Nat) (a : Option Addr) (n cap : Nat) (l : List TNode.El) (k : Int) (hm : l.length = n) (hs : n ≤ 1099511627776) (hk0 : 0 ≤ k) (hk1 : k ≤ 1099511627776) (h : Own.Ow TNode.fc 6 TNode.T w lo hi (.slice a n cap) l) (hlo : lo ≤ w.heap.size) :
    Calls Try.prog 39 #[.agg #[.int .i64 x0, .int .i64 x1, .int .i64 x2, .int .i64 x3, .int .i64 x4, .int .i64 x5, .slice a n cap], .int .i64 k] w (TNode.Marked lo hi (.slice a n cap) (TNode.marks k n) (k + 6 * (n : Int)) w) := by
  subst hm
  exact mark1 ⟨⟨x0, x1, x2, x3, x4, x5, l⟩, a, cap⟩ w lo hi k hs hk0 hk1 h hlo
theorem sz_l (w : World) (x0 x1 x2 x3 x4 x5 : Int) (a : Option Addr) (n cap : Nat) (l : List TNode.El) (k : Int) (hm : l.length = n) (hs : n ≤ 9223372036854775807) (hk0 : 0 ≤ k) (hk1 : k ≤ 1099511627776) :
    Calls Try.prog 28 #[.agg #[.int .i64 x0, .int .i64 x1, .int .i64 x2, .int .i64 x3, .int .i64 x4, .int .i64 x5, .slice a n cap], .int .i64 k] w (fun e w' => e = .returned (.int .i64 (if k < (n : Int) then -1 else k - (n : Int))) ∧ Below w.heap.size w w') := by
  subst hm
  exact sz1 ⟨⟨x0, x1, x2, x3, x4, x5, l⟩, a, cap⟩ w k hs hk0 hk1
end Go.Proofs.Ytkfgflmhefbinaa.RuleX
