/- Twelve drawn places by one function: what their block reads as, carried from world to world in one step. -/
import Derived.Test.YthhjnffbafmkpaaRows
import Derived.Test.YthhjnffbafmkpaaDrawRow
import Derived.Test.YthhjnffbafmkpaaKit
import Derived.Lib.Hide
namespace Go.Proofs.Ythhjnffbafmkpaa.Places
open Go.RowKit CurKit DrawRow
/-- The twelve places lie in block g. -/
structure Pl (W : World) (g : Nat) (t : Nat → Int) : Prop where
  c : ∀ i, i < 12 → W.cell? ⟨g, i, none⟩ = some (.int .i64 (t i))
  lt : g < W.heap.size
theorem Pl.on {W w' : World} {g : Nat} {t : Nat → Int} (h : Pl W g t) (hb : Below W.heap.size W w') : Pl w' g t :=
  ⟨fun i hi => ((BelowKit.bcell hb).1 _ i h.lt).trans (h.c i hi), Nat.lt_of_lt_of_le h.lt hb.size⟩
def Drawn (w : World) (e : Ending) (w' : World) : Prop :=
  ∃ (t : Nat → Int) (g cap : Nat), (∀ i, 0 ≤ t i ∧ t i ≤ 9999) ∧ e = .returned (.slice (some ⟨g, 0, none⟩) 12 cap) ∧ Pl w' g t ∧ Below w.heap.size w w'
theorem places_t (w : World) (a : Option Addr) (len cap : Nat) (hcode : CodeAt w a len) (hs : len ≤ maxLen) :
    Calls Try.prog 12 #[.slice a len cap] w (Drawn w) := by
  refine (places_c w a len cap hcode hs).mono ?_
  rintro e w2 ⟨l, a2, cap2, hl, hin, rfl, ho, hb⟩
  obtain ⟨g, rfl, _, hg, _, _⟩ := ho.at 0 (by omega)
  refine ⟨fun i => l.getD i 0, g, cap2, fun i => ?_, rfl, ⟨fun i hi => ?_, hg⟩, hb⟩
  · by_cases h : i < l.length
    · have := hin.get i h
      simpa [List.getD, h] using this
    · simp [List.getD, h]
  · have := (ho.cell i (by omega)).1
    rw [this]
    simp [List.getD, show i < l.length by omega]
/-- The first nine, each by its name. -/
structure P9 (W : World) (g : Nat) (a b c d e f h i j : Int) : Prop where
  c0 : W.cell? ⟨g, 0, none⟩ = some (.int .i64 a)
  c1 : W.cell? ⟨g, 1, none⟩ = some (.int .i64 b)
  c2 : W.cell? ⟨g, 2, none⟩ = some (.int .i64 c)
  c3 : W.cell? ⟨g, 3, none⟩ = some (.int .i64 d)
  c4 : W.cell? ⟨g, 4, none⟩ = some (.int .i64 e)
  c5 : W.cell? ⟨g, 5, none⟩ = some (.int .i64 f)
  c6 : W.cell? ⟨g, 6, none⟩ = some (.int .i64 h)
  c7 : W.cell? ⟨g, 7, none⟩ = some (.int .i64 i)
  c8 : W.cell? ⟨g, 8, none⟩ = some (.int .i64 j)
  lt : g < W.heap.size
theorem P9.on {W w' : World} {g : Nat} {a b c d e f h i j : Int} (H : P9 W g a b c d e f h i j) (hb : Below W.heap.size W w') : P9 w' g a b c d e f h i j := by
  have h1 := H.lt
  obtain ⟨kc, _⟩ := BelowKit.bcell hb
  exact ⟨(kc _ 0 h1).trans H.c0, (kc _ 1 h1).trans H.c1, (kc _ 2 h1).trans H.c2, (kc _ 3 h1).trans H.c3, (kc _ 4 h1).trans H.c4, (kc _ 5 h1).trans H.c5, (kc _ 6 h1).trans H.c6, (kc _ 7 h1).trans H.c7, (kc _ 8 h1).trans H.c8, Nat.lt_of_lt_of_le h1 hb.size⟩
theorem Pl.nine {W : World} {g : Nat} {t : Nat → Int} (h : Pl W g t) : P9 W g (t 0) (t 1) (t 2) (t 3) (t 4) (t 5) (t 6) (t 7) (t 8) :=
  ⟨h.c 0 (by omega), h.c 1 (by omega), h.c 2 (by omega), h.c 3 (by omega), h.c 4 (by omega), h.c 5 (by omega), h.c 6 (by omega), h.c 7 (by omega), h.c 8 (by omega), h.lt⟩
end Go.Proofs.Ythhjnffbafmkpaa.Places
