/- Contracts of the model's FormatFrac, l09Digits and ParseFrac. -/
import Derived.Test.YtiogpiopgcbdbaaGreatDoorRows
import Derived.Test.YtiogpiopgcbdbaaGreatDoorNine
import Derived.Test.YtiogpiopgcbdbaaGreatDoorFracValid
import Derived.Test.YtiogpiopgcbdbaaGreatDoorFracMake
import Derived.Test.YtiogpiopgcbdbaaGreatDoorNumFmt
import Derived.Test.YtiogpiopgcbdbaaGreatDoorKit
import Derived.WalkKit
import Derived.Below
import Derived.BigQuiet
import Derived.Lib.Hide
namespace Go.Proofs.YtiogpiopgcbdbaaGreatDoor.FracTxS
open Go.RowKit FracMath HexMath NumMath NumParse NumBack FracTxM
def str (l : List UInt8) : ByteArray := ⟨l.toArray⟩
def IsStr (l : List UInt8) (w : World) (e : Ending) (w' : World) : Prop := e = .returned (.string (str l)) ∧ Below w.heap.size w w'
theorem str_size (l : List UInt8) : (str l).size = l.length := by simp [str, ByteArray.size]
theorem str_app (a b : List UInt8) : str a ++ str b = str (a ++ b) := by apply ByteArray.ext; simp [str]
theorem str_eq {a b : ByteArray} (h : a = b) : Ending.returned (.string a) = .returned (.string b) := by rw [h]
end Go.Proofs.YtiogpiopgcbdbaaGreatDoor.FracTxS
