/- From a row's list to the library's two errors. -/
import Derived.Test.YtiogpiopgcbdbaaGreatDoorRows
import Derived.Test.YtiogpiopgcbdbaaGreatDoorParseFI
import Derived.Stop.LaidErr
namespace Go.Proofs.YtiogpiopgcbdbaaGreatDoor.ErrsLaid
open Go.RowKit
theorem star : "*" ++ "errors.errorString" = "*errors.errorString" := by decide
theorem rowE (u : TypeId) (h : Tryz.prog.typeName? 3 u = some "*errors.errorString") : u = 154 :=
  typeName_ptr_named (nm := "errors.errorString") (by rw [star]; kernel_rfl) (by kernel_rfl) (by decide) u (by rw [star]; exact h)
theorem cellsE : Tryz.prog.cellsOf 156 = 1 := by kernel_rfl
theorem cellsS : Tryz.prog.cellsOf 9 = 1 := by kernel_rfl
theorem tSyn : (Tryz.prog.globals[1]?).map (·.type) = some 70 := by kernel_rfl
theorem tRng : (Tryz.prog.globals[2]?).map (·.type) = some 70 := by kernel_rfl
theorem syn_of {text : List UInt8} {r : List (String × DataW Unit)} {W : World} (h : laidMet Tryz.prog (("strconv.ErrSyntax", .iface "*errors.errorString" (.ptr (.agg [.lit (.string text)]))) :: r) W) : ∃ tp p, W.var? Tryz.prog "strconv.ErrSyntax" = some #[.iface tp p] := by
  obtain ⟨a, s, h1, _⟩ := laid_sentinel h ParseFI.gSyn tSyn Tryz.underlying70 rowE Tryz.underlying154 Tryz.underlying156 rfl rfl Tryz.underlying9 cellsE cellsS
  exact ⟨_, _, h1⟩
theorem rng_of {text : List UInt8} {r : List (String × DataW Unit)} {W : World} (h : laidMet Tryz.prog (("strconv.ErrRange", .iface "*errors.errorString" (.ptr (.agg [.lit (.string text)]))) :: r) W) : ∃ tp p, W.var? Tryz.prog "strconv.ErrRange" = some #[.iface tp p] := by
  obtain ⟨a, s, h1, _⟩ := laid_sentinel h ParseFI.gRng tRng Tryz.underlying70 rowE Tryz.underlying154 Tryz.underlying156 rfl rfl Tryz.underlying9 cellsE cellsS
  exact ⟨_, _, h1⟩
end Go.Proofs.YtiogpiopgcbdbaaGreatDoor.ErrsLaid
