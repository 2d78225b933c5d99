/- make([]T, n) inside a fence: a row of n zeros; make([]T, 0, n): an empty row with room for n. Imports nothing of the dump. -/
import Derived.Test.YtlljhcfiojfimaaRowN
import Derived.OwnWalk
import Derived.OwnWalkIn
namespace Go.Proofs.Ytlljhcfiojfimaa.RowMakeIn
open Go.RowKit RowN
variable {α : Type} {f : α → List Value} {c : Nat}
theorem made_flat (wd : Wide f c) {z : Value} {z0 : α} (hz0 : z.cells.toList = f z0) (hzs : z.cells.size = c) (n : Nat) : (madeCells z.cells (n * c)).toList = (List.replicate n z0).flatMap f := by
  have hlen : ((List.replicate n z0).flatMap f).length = n * c := by rw [flat_len wd, List.length_replicate]
  apply List.ext_getElem?
  intro p
  by_cases hp : p < n * c
  · have hc := wd.pos
    have hdm : p / c * c + p % c = p := by rw [Nat.mul_comm]; exact Nat.div_add_mod p c
    have hq : p / c < n := by rw [Nat.div_lt_iff_lt_mul hc]; exact hp
    have hm : p % c < c := Nat.mod_lt _ hc
    have h1 := flat_get wd (List.replicate n z0) (p / c) (by simpa using hq) (p % c) hm
    rw [hdm] at h1
    rw [h1, List.getElem_replicate, ← hz0]
    simp [madeCells, hp, hzs, hm]
  · rw [List.getElem?_eq_none (by simp [size_madeCells]; omega), List.getElem?_eq_none (by omega)]
theorem wpListIn_makeN {F : Fence} {N : Nat} {P : Program} {t T : TypeId} {z : Value} {z0 : α} {cb : Nat} (st : ElT P t T z c cb) (wd : Wide f c) (hz0 : z.cells.toList = f z0) (w : World) {ops : Array Oper} {rest : List Oper} {o : Oper} {a : Act} {Q : Exit → Act → World → Prop}
    (hg : o.guard = none) (x y : Operand) (hop : o.op = Op.makeSlice t x y) (B : Nat) (kl kc : IntKind) (L C : Int) (n : Nat) (hl : a.eval x = .int kl L) (hc : a.eval y = .int kc C) (hL : L = (n : Int)) (hC : C = (n : Int)) (hn : n ≤ 1099511627776) (hB : B ≤ w.heap.size)
    (hK : ∀ w', Owns f c w' B T (.slice (some ⟨w.heap.size, 0, none⟩) n n) (List.replicate n z0) → w.grownBy w' none → wpListIn F N P ops Q rest (a.put o.dst (.slice (some ⟨w.heap.size, 0, none⟩) n n)) w') :
    wpListIn F N P ops Q (o :: rest) a w := by
  obtain ⟨i0, hi, hz, hz1, hz2⟩ := info_parts st.hi
  refine wpListIn_plain hg fun K hK' => ?_
  obtain ⟨w', hrun, r1, r2⟩ := run_make_full (P := P) w B t T i0 z c st.ht hi hz hz1 kl kc n (by rw [hz2]; exact Nat.le_trans (Nat.mul_le_mul st.hb hn) (by omega)) (by unfold maxLen; omega) hB
  subst hL
  subst hC
  unfold Oper.wpIn
  refine ⟨?_, ?_⟩
  · simp [Oper.about, hop]
  · rw [Oper.semAt_plain F _ _ (by rw [hop]; intro c hc'; cases hc')]
    simp [execOp, hop, hl, hc, hrun, Result.andThen]
    refine hK' _ _ (hK w' ?_ r2)
    unfold Owns
    rw [List.length_replicate, ← made_flat wd hz0 st.hz n]
    exact r1
end Go.Proofs.Ytlljhcfiojfimaa.RowMakeIn
namespace Go.Proofs.Ytlljhcfiojfimaa.RowCap
open Go.RowKit RowN
variable {α : Type} {f : α → List Value} {c : Nat}
theorem wpList_roomN {P : Program} {t T : TypeId} {z : Value} {cb : Nat} (st : ElT P t T z c cb) (w : World) {ops : Array Oper} {rest : List Oper} {o : Oper} {a : Act} {Q : Exit → Act → World → Prop}
    (hg : o.guard = none) (x y : Operand) (hop : o.op = Op.makeSlice t x y) (B : Nat) (kl kc : IntKind) (C : Int) (n : Nat) (hl : a.eval x = .int kl 0) (hc : a.eval y = .int kc C) (hC : C = (n : Int)) (hn : n ≤ 1099511627776) (hB : B ≤ w.heap.size)
    (hK : ∀ w', Owns f c w' B T (.slice (some ⟨w.heap.size, 0, none⟩) 0 n) [] → w.grownBy w' none → wpList P ops Q rest (a.put o.dst (.slice (some ⟨w.heap.size, 0, none⟩) 0 n)) w') :
    wpList P ops Q (o :: rest) a w := by
  obtain ⟨i0, hi, hz, hz1, hz2⟩ := info_parts st.hi
  refine wpList_make_own w hg x y t hop B T i0 z c st.ht hi hz hz1 kl kc C n hl hc hC ?_ (by unfold maxLen; omega) hB fun w' hown hgr => hK w' hown hgr
  rw [hz2]
  exact Nat.le_trans (Nat.mul_le_mul st.hb hn) (by omega)
end Go.Proofs.Ytlljhcfiojfimaa.RowCap
