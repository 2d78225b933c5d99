/- The program's ParseFormula at a text that stands for a formula. -/
import Derived.Test.YtiogpiopgcbdbaaGreatDoorFormPI
namespace Go.Proofs.YtiogpiopgcbdbaaGreatDoor.FormBI
open Go.RowKit RowN TNode NodeMath ParseM
theorem parse_yes (s : ByteArray) (w : World) (hm : s.size ≤ 1048576) (hv : ParseFI.Vars w) (U : List El) (k : Nat) (h : parseF s = (U, true)) (hk : U.length = k) : Calls Tryz.prog 8 #[.string s] w (fun e w' => ∃ p c, e = .returned (.tuple #[.slice p k c, .bool true]) ∧ Owns fc 6 w' w.heap.size T (.slice p k c) U ∧ Below w.heap.size w w') := by
  have P := FormPI.parse_fi s w hm hv
  rw [h] at P
  subst hk
  exact P
end Go.Proofs.YtiogpiopgcbdbaaGreatDoor.FormBI
