/- From the row's list to the walk's fact: a package-level array of strings that reads as the listed texts holds them, cell for cell; here the program's names of months. -/
import Derived.Test.YtggnkjnpiagdpaaDoorRows
import Derived.Test.YtggnkjnpiagdpaaDoorMonText
import Derived.Lib.LaidTab
import Derived.Stop.LaidErr
namespace Go.Proofs.YtggnkjnpiagdpaaDoor.NamesLaid
open Go.Lib MonMath

/-- An array of strings that reads as these texts holds them. -/
theorem cells_of_strs {H : Type} {enc : TypeId × Value → H} {P : Program} {w : World} {base : Nat} {sp : Nat → Bool} {held : Bool} {fuel : Nat} {t e : TypeId} {n : Nat} {cs : List Value} {zs : List (List UInt8)} {p : List MemPlace}
    (ht : P.underlying t = some (.array n e)) (he : P.underlying e = some .string) (hce : P.cellsOf e = 1) (hct : P.cellsOf t = n)
    (h : DataW.trod enc P w base sp held fuel t cs = some (.agg (zs.map fun z => .lit (.string z)), p)) : cs = zs.map fun z => Value.string ⟨z.toArray⟩ := by
  cases fuel with
  | zero => simp [DataW.trod] at h
  | succ fuel =>
    simp only [DataW.trod, ht, hce, hct, Nat.mul_one] at h
    split at h
    · rename_i hl
      obtain ⟨xs, hm, hx⟩ := Option.map_eq_some_iff.1 h
      have hxs : xs.map (·.1) = zs.map fun z => (DataW.lit (.string z) : DataW H) := by
        have := congrArg Prod.fst hx
        simpa using this
      have hxl : xs.length = n := by simpa using Lib.mapM_length hm
      have hzl : zs.length = n := by
        have := congrArg List.length hxs
        simp at this
        omega
      apply List.ext_getElem?
      intro i
      by_cases hi : i < n
      · obtain ⟨b, hb, hf⟩ := Lib.mapM_at hm i i (by simp [hi])
        obtain ⟨s, hc, rfl, _⟩ := DataW.trod_string he hf
        have h1 : cs[i]? = some (.string s) := by
          have := congrArg (·[0]?) hc
          simpa [List.getElem?_take, List.getElem?_drop] using this
        have h2 : (xs.map (·.1))[i]? = some (DataW.lit (.string s.data.toList) : DataW H) := by simp [hb]
        rw [hxs] at h2
        simp only [List.getElem?_map, Option.map_eq_some_iff, DataW.lit.injEq, Lit.string.injEq] at h2
        obtain ⟨z', hz', rfl⟩ := h2
        simp [h1, hz']
      · rw [List.getElem?_eq_none (by omega), List.getElem?_eq_none (by simp; omega)]
    · cases h

def texts : List (List UInt8) := (List.range 12).map fun k => two (k + 1)
theorem laid_texts : (Rows.laid_loop_example_g00980_impl_monthNames : DataW Unit) = .agg (texts.map fun z => .lit (.string z)) := by kernel_rfl
theorem cells_texts : (texts.map fun z => Value.string ⟨z.toArray⟩).toArray = MonText.nmCells := by kernel_rfl
theorem tNames : (Tryd.prog.globals[0]?).map (fun x => x.type) = some 82 := by kernel_rfl
/-- The names of months stand first on the list. -/
theorem names_of {rest : List (String × DataW Unit)} {W : World} (h : laidMet Tryd.prog (("loop.example/g00980/impl.monthNames", Rows.laid_loop_example_g00980_impl_monthNames) :: rest) W) : MonText.Names W := by
  obtain ⟨ps, ⟨g', t', cs, fuel, p, q, hg', ht', hvar, hd, _, _⟩, _⟩ := h
  obtain rfl := Option.some.inj (MonText.gNames.symm.trans hg')
  obtain rfl := Option.some.inj (tNames.symm.trans ht')
  rw [laid_texts] at hd
  have e := cells_of_strs Tryd.underlying82 Tryd.underlying9 (by kernel_rfl) (by kernel_rfl) hd
  show W.var? Tryd.prog "loop.example/g00980/impl.monthNames" = some MonText.nmCells
  rw [hvar, ← cells_texts, ← e]
end Go.Proofs.YtggnkjnpiagdpaaDoor.NamesLaid
