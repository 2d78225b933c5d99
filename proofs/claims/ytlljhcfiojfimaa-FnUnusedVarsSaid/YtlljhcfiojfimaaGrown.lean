/- Regions that draw their order and hold calls that make memory and write nothing that was there: walked once, in the order of the text (the library's theorem on quiet regions, at the class of the worlds that grew out of w). Imports nothing of the dump. -/
import Derived.WalkKit
import Derived.Below
import Derived.BigQuiet
import Derived.Test.YtlljhcfiojfimaaBelowKit
namespace Go.Proofs.Ytlljhcfiojfimaa.Grown
open Go.RowKit
/-- The worlds that grew out of w: new blocks alone. -/
def G (w : World) : Type := { W : World // Below w.heap.size w W }
def G.w {w : World} (X : G w) : World := X.1
theorem G.bel {w : World} (X : G w) : Below w.heap.size w X.w := X.2
theorem G.keep {w : World} {b o : Nat} {v : Value} (h : w.cell? ⟨b, o, none⟩ = some v) (hb : b < w.heap.size) : ∀ X : G w, X.w.cell? ⟨b, o, none⟩ = some v := fun X =>
  ((BelowKit.bcell X.bel).1 b o hb).trans h
instance {w : World} : Nonempty (G w) := ⟨⟨w, Below.refl _ _⟩⟩
variable {P : Program}
theorem wp_region_grown {id : Nat} {Q : Exit → Act → World → Prop} {a : Act} {w : World} {l : List Oper} (hm : P.follows .mixedOrders = true) (hB : Region.lexB .any l.toArray = true)
    (h : wpQuiet P l.toArray (fun w' => ∃ X : G w, w' = X.w) (fun a' => ∀ w', (∃ X : G w, w' = X.w) → Q .normal a' w') l a) : (Code.region id l.toArray true).wp P Q a w :=
  wp_region_quiet (C := fun w' => ∃ X : G w, w' = X.w) hm hB ⟨⟨_, below_drewN (Below.refl w.heap.size w) 1⟩, rfl⟩ (by simpa using h)
/-- A callee that makes memory alone, met in a world that grew out of w. -/
theorem grown_of {w : World} {X : G w} {f : FuncId} {args : Array Value} {v : Value} (h : Calls P f args X.w fun e w' => e = .returned v ∧ Below X.w.heap.size X.w w') :
    Calls P f args X.w fun e w'' => e = .returned v ∧ ∃ Y : G w, w'' = Y.w :=
  h.mono fun _ w' ⟨he, hb⟩ => ⟨he, ⟨w', BelowKit.bl_trans X.bel hb⟩, rfl⟩
/-- .. that leaves memory alone. -/
theorem grown_same {w : World} {X : G w} {f : FuncId} {args : Array Value} {v : Value} (h : Calls P f args X.w fun e w' => e = .returned v ∧ X.w = w') :
    Calls P f args X.w fun e w'' => e = .returned v ∧ ∃ Y : G w, w'' = Y.w :=
  h.mono fun _ _ ⟨he, hb⟩ => ⟨he, X, hb.symm⟩
end Go.Proofs.Ytlljhcfiojfimaa.Grown
