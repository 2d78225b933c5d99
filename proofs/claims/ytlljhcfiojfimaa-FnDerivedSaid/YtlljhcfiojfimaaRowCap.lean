/- make([]T, 0, n): an empty row of the call's own with room for n elements. Imports nothing of the dump. -/
import Derived.Test.YtlljhcfiojfimaaRowN
import Derived.OwnWalk
namespace Go.Proofs.Ytlljhcfiojfimaa.RowCap
open Go.RowKit RowN
variable {α : Type} {f : α → List Value} {c : Nat}
theorem wpList_roomN {P : Program} {t T : TypeId} {z : Value} {cb : Nat} (st : ElT P t T z c cb) (w : World) {ops : Array Oper} {rest : List Oper} {o : Oper} {a : Act} {Q : Exit → Act → World → Prop}
    (hg : o.guard = none) (x y : Operand) (hop : o.op = Op.makeSlice t x y) (B : Nat) (kl kc : IntKind) (C : Int) (n : Nat) (hl : a.eval x = .int kl 0) (hc : a.eval y = .int kc C) (hC : C = (n : Int)) (hn : n ≤ 1099511627776) (hB : B ≤ w.heap.size)
    (hK : ∀ w', Owns f c w' B T (.slice (some ⟨w.heap.size, 0, none⟩) 0 n) [] → w.grownBy w' none → wpList P ops Q rest (a.put o.dst (.slice (some ⟨w.heap.size, 0, none⟩) 0 n)) w') :
    wpList P ops Q (o :: rest) a w := by
  obtain ⟨i0, hi, hz, hz1, hz2⟩ := info_parts st.hi
  refine wpList_make_own w hg x y t hop B T i0 z c st.ht hi hz hz1 kl kc C n hl hc hC ?_ (by unfold maxLen; omega) hB fun w' hown hgr => hK w' hown hgr
  rw [hz2]
  exact Nat.le_trans (Nat.mul_le_mul st.hb hn) (by omega)
end Go.Proofs.Ytlljhcfiojfimaa.RowCap
