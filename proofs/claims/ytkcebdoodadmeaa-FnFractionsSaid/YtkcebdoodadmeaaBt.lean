/- The types of the byte slices of the program at hand. -/
import Derived.Test.YtkcebdoodadmeaaRows
import Derived.Test.YtkcebdoodadmeaaBytesKit
namespace Go.Proofs.Ytkcebdoodadmeaa.Bt
open BytesKit
theorem bt : ByteTypes Try.prog 22 5 9 := ⟨Try.underlying22, Try.underlying5, Try.underlying9, by kernel_rfl⟩
end Go.Proofs.Ytkcebdoodadmeaa.Bt
