/- append to a row of elements of c cells, inside a fence (a round of a loop over an iterator). Imports nothing of the dump. -/
import Derived.Test.YtggnkjnpiagdpaaDoorRowN
import Derived.OwnWalkIn
import Derived.RangeFuncBox
namespace Go.Proofs.YtggnkjnpiagdpaaDoor.RowNIn
open Go.RowKit RowN
variable {α : Type} {f : α → List Value} {c : Nat}
theorem wpListIn_appendN {F : Fence} {m : Nat} {P : Program} {t T : TypeId} {z : Value} {cb : Nat} (st : ElT P t T z c cb) (wd : Wide f c) (w : World) {ops : Array Oper} {rest : List Oper} {o : Oper} {a : Act} {Q : Exit → Act → World → Prop} (hgd : o.guard = none) (s x : Operand)
    (ho : o.op = .call { callee := .builtin .append, args := #[s, x], argTypes := #[t, t] })
    (B : Nat) (v : Value) (l : List α) (hs : a.eval s = v) (hown : Owns f c w B T v l) (ad : Addr) (k n : Nat) (news : List α) (hn : n = news.length) (hx : a.eval x = .slice (some ad) n k)
    (hg : ∀ j u, (news.flatMap f)[j]? = some u → w.cell? (ad.add j) = some u) (hlen : l.length + news.length ≤ 1099511627776) (hbase : B ≤ w.heap.size)
    (h : ∀ v' w', Owns f c w' B T v' (l ++ news) → w.grownBy w' v.ownBlock → At w v v' → wpListIn F m P ops Q rest (a.put o.dst v') w') : wpListIn F m P ops Q (o :: rest) a w := by
  subst hn
  refine wpListIn_plain hgd fun K hK => ?_
  obtain ⟨v', w', hrun, h2, h3, h4⟩ := run_appendN st wd w o.type B v l hown ad k news hg hlen hbase
  unfold Oper.wpIn
  refine ⟨?_, ?_⟩
  · simp [Oper.about, ho, resolve, Target.leads, Sem.run_pure]
  · rw [Oper.semAt_plain F _ _ (by rw [ho]; intro c hc'; cases hc')]
    simp [execOp, ho, resolve, invoke, builtin, hs, hx, hrun, Result.andThen]
    exact hK _ _ (h v' w' h2 h3 h4)
/-- Behind 'out = append(out, x)' where out lies in the box L, the row's blocks from B on: what the round owes. tmp: the block that holds x. -/
theorem collected {W w1 : World} {n0 B L : Nat} {tl T : TypeId} {v v' : Value} {l l' : List α} {tmp : Obj} (hv : Boxed W L tl v) (hte : tl ≠ T) (hrow : Owns f c W B T v l) (h0 : n0 ≤ L) (hLB : L < B) (hBW : B ≤ W.heap.size)
    (hown : Owns f c w1 B T v' l') (hg : (W.alloc tmp).grownBy w1 v.ownBlock) :
    Boxed w1 L tl v ∧ Boxed (w1.setCell ⟨L, 0, none⟩ v') L tl v' ∧ Owns f c (w1.setCell ⟨L, 0, none⟩ v') B T v' l' ∧ KeepsOthers W (w1.setCell ⟨L, 0, none⟩ v') ∧ Below n0 W (w1.setCell ⟨L, 0, none⟩ v') ∧
      (∀ k, k < B → k ≠ L → (w1.setCell ⟨L, 0, none⟩ v').heap[k]? = W.heap[k]?) := by
  have hr0 : W.ownsRow n0 T c v l.length (l.flatMap f) := hrow.base (B' := n0) (by omega)
  have ho0 : w1.ownsRow n0 T c v' l'.length (l'.flatMap f) := hown.base (B' := n0) (by omega)
  obtain ⟨a1, a2, _, a4, a5⟩ := Boxed.appended hv hte hr0 (by omega) h0 ho0 hg
  refine ⟨a1, a2, hown.beside (fun e => by have := hown.low L e; omega) v', a4, a5, fun k hk hkL => ?_⟩
  rw [Below.heap_setCell _ _ _ _ hkL, hg.block k (by simp; omega) (fun e => by have := hrow.low k e.symm; omega)]
  exact Below.heap_alloc _ _ _ (by omega)
end Go.Proofs.YtggnkjnpiagdpaaDoor.RowNIn
