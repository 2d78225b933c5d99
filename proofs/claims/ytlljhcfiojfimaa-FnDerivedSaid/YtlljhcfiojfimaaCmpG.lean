/- The model's FracCmp, met in a world that grew. -/
import Derived.Test.YtlljhcfiojfimaaRows
import Derived.Test.YtlljhcfiojfimaaFracSCmp
import Derived.Test.YtlljhcfiojfimaaGrown
namespace Go.Proofs.Ytlljhcfiojfimaa.CmpG
open FracMath
theorem cmpG {w0 : World} {X : Grown.G w0} {a b c d r : Int} (h : cmpI a b c d = r) : Calls Try.prog 15 #[.agg #[.int .i64 a, .int .i64 b], .agg #[.int .i64 c, .int .i64 d]] X.w (fun e w'' => e = .returned (.int .i64 r) ∧ ∃ Y : Grown.G w0, w'' = Y.w) :=
  Grown.grown_of (by rw [← h]; exact FracSCmp.cmp_s a b c d X.w)
end Go.Proofs.Ytlljhcfiojfimaa.CmpG
