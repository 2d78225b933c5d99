/- Contracts of the model's l09Sizes and FormulaSize. -/
import Derived.Test.YtiogpiopgcbdbaaGreatDoorRows
import Derived.Test.YtiogpiopgcbdbaaGreatDoorNine
import Derived.Test.YtiogpiopgcbdbaaGreatDoorFormS
import Derived.Test.YtiogpiopgcbdbaaGreatDoorKit
import Derived.BigQuiet
namespace Go.Proofs.YtiogpiopgcbdbaaGreatDoor.SizeS
open Go.RowKit RowN TNode NodeMath SizeM
def fI (n : Int) : List Value := [.int .i64 n]
theorem fwI : Wide fI 1 := ⟨fun _ => rfl, by rintro x v hv; simp only [fI, List.mem_cons, List.not_mem_nil, or_false] at hv; subst hv; rfl, by omega⟩
theorem ftI : ElT Tryz.prog 44 3 (.int .i64 0) 1 8 := ⟨Tryz.underlying44, by kernel_rfl, by omega, rfl⟩
theorem own_i {w : World} {B T n cap : Nat} {a : Option Addr} {l : List Int} (h : Owns fI 1 w B T (.slice a n cap) l) (j : Nat) (hj : j < l.length) : ∃ g, a = some ⟨g, 0, none⟩ ∧ B ≤ g ∧ g < w.heap.size ∧ w.cell? ⟨g, j, none⟩ = some (.int .i64 l[j]) := by
  obtain ⟨g, e, hb, hlt, hc⟩ := h.at fwI j hj
  refine ⟨g, e, hb, hlt, ?_⟩
  have := (hc 0 (by omega)).1
  rw [Nat.mul_one, Nat.add_zero] at this
  exact this
theorem newI (w : World) (x : Int) (g : Nat) (hg : w.heap.size = g) : ∀ j u, ([x].flatMap fI)[j]? = some u → (w.alloc (.cells #[.int .i64 x] 3)).cell? ((⟨g, 0, none⟩ : Addr).add j) = some u := by
  subst hg
  exact news_block (T := 3) (heap_alloc_new w _)
end Go.Proofs.YtiogpiopgcbdbaaGreatDoor.SizeS
