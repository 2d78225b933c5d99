/- From a row's list to the library's two errors. -/
import Derived.Test.YtiogpiopgcbdbaaDoorRows
import Derived.Test.YtiogpiopgcbdbaaDoorParseFI
import Derived.Stop.LaidErr
namespace Go.Proofs.YtiogpiopgcbdbaaDoor.ErrsLaid
open Go.RowKit
theorem star : "*" ++ "errors.errorString" = "*errors.errorString" := by decide
theorem rowE (u : TypeId) (h : Tryd.prog.typeName? 3 u = some "*errors.errorString") : u = 155 :=
  typeName_ptr_named (nm := "errors.errorString") (by rw [star]; kernel_rfl) (by kernel_rfl) (by decide) u (by rw [star]; exact h)
theorem cellsE : Tryd.prog.cellsOf 157 = 1 := by kernel_rfl
theorem cellsS : Tryd.prog.cellsOf 9 = 1 := by kernel_rfl
theorem tSyn : (Tryd.prog.globals[1]?).map (·.type) = some 53 := by kernel_rfl
theorem tRng : (Tryd.prog.globals[2]?).map (·.type) = some 53 := by kernel_rfl
theorem syn_of {text : List UInt8} {r : List (String × DataW Unit)} {W : World} (h : laidMet Tryd.prog (("strconv.ErrSyntax", .iface "*errors.errorString" (.ptr (.agg [.lit (.string text)]))) :: r) W) : ∃ tp p, W.var? Tryd.prog "strconv.ErrSyntax" = some #[.iface tp p] := by
  obtain ⟨a, s, h1, _⟩ := laid_sentinel h ParseFI.gSyn tSyn Tryd.underlying53 rowE Tryd.underlying155 Tryd.underlying157 rfl rfl Tryd.underlying9 cellsE cellsS
  exact ⟨_, _, h1⟩
theorem rng_of {text : List UInt8} {r : List (String × DataW Unit)} {W : World} (h : laidMet Tryd.prog (("strconv.ErrRange", .iface "*errors.errorString" (.ptr (.agg [.lit (.string text)]))) :: r) W) : ∃ tp p, W.var? Tryd.prog "strconv.ErrRange" = some #[.iface tp p] := by
  obtain ⟨a, s, h1, _⟩ := laid_sentinel h ParseFI.gRng tRng Tryd.underlying53 rowE Tryd.underlying155 Tryd.underlying157 rfl rfl Tryd.underlying9 cellsE cellsS
  exact ⟨_, _, h1⟩
end Go.Proofs.YtiogpiopgcbdbaaDoor.ErrsLaid
