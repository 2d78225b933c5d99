/- Contracts of the laws' helpers on stores. -/
import Derived.Test.YtpgcdelmfbegpaaRows
import Derived.Test.YtpgcdelmfbegpaaFactRow
import Derived.Test.YtpgcdelmfbegpaaOwn
namespace Go.Proofs.Ytpgcdelmfbegpaa.Store
open Go.RowKit RowN Fact FactRow

/-- The answer is a store with the facts l in new memory. -/
def IsSto (l : List Fa) (w : World) (e : Ending) (w' : World) : Prop := ∃ p c, e = .returned (.agg #[.slice p l.length c]) ∧ OwnsF w' w.heap.size (.slice p l.length c) l ∧ Below w.heap.size w w'

/-- One new fact, laid in the newest block. -/
theorem new1 (w : World) (x : Fa) (g : Nat) (hg : w.heap.size = g) : ∀ j u, ([x].flatMap fc)[j]? = some u →
    (w.alloc (.cells #[.int .i64 x.k, .int .i64 x.f, .int .i64 x.t, .int .i64 x.n, .int .i64 x.v] 75)).cell? ((⟨g, 0, none⟩ : Addr).add j) = some u := by
  subst hg
  exact news_block (T := 75) (heap_alloc_new w _)

end Go.Proofs.Ytpgcdelmfbegpaa.Store
