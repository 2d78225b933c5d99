/- Contracts of the two encoders of bytes as hexadecimal text: both return the same text and the same answer, at every string. -/
import Derived.Test.YtiogpiopgcbdbaaGreatDoorRows
import Derived.Test.YtiogpiopgcbdbaaGreatDoorKit
import Derived.StillTailTactics
import Derived.Lib.Hide
import Derived.Deep.RegionHeld3
namespace Go.Proofs.YtiogpiopgcbdbaaGreatDoor.HexEnc
open Go.RowKit BytesKit HexMath

theorem bt : ByteTypes Tryz.prog 22 5 9 := ⟨Tryz.underlying22, Tryz.underlying5, Tryz.underlying9, by kernel_rfl⟩


end Go.Proofs.YtiogpiopgcbdbaaGreatDoor.HexEnc
