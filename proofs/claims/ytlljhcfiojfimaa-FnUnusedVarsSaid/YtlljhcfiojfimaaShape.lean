/- What an argument looks like in memory, read off its type: integers, bools, strings, structs of such, slices of such, as deep as they go. Imports nothing of the dump. -/
import Derived.WalkKit
import Derived.ProofKit
import Derived.Below
import Derived.OpenShut
import Derived.WideShapes
import Derived.Deep.Slices
import Derived.Test.YtlljhcfiojfimaaRowN
namespace Go.Proofs.Ytlljhcfiojfimaa.Shape
open Go.RowKit Go.ChangeShapes Go.WideShapes Go.Deep RowN

inductive Sh where
  | int (k : IntKind)
  | bool
  | str
  | sl (e : List Sh)
mutual
/-- The value v has the shape s in the world w. -/
def FitC (w : World) : Sh → Value → Prop
  | .int k, v => ∃ n, v = .int k n ∧ (Lit.int k n).wf = true
  | .bool, v => ∃ b, v = .bool b
  | .str, v => ∃ s : ByteArray, v = .string s ∧ s.size ≤ maxLen
  | .sl e, v => ∃ a len cap, v = .slice a len cap ∧ len ≤ cap ∧ cap ≤ maxLen ∧ ∀ i, i < len → ∃ blk off cs, a = some ⟨blk, off, none⟩ ∧ blk < w.heap.size ∧
      (∀ j, j < e.length → w.cell? ⟨blk, off + i * e.length + j, none⟩ = cs[j]?) ∧ FitL w e cs
def FitL (w : World) : List Sh → List Value → Prop
  | [], vs => vs = []
  | s :: ss, vs => ∃ v rest, vs = v :: rest ∧ FitC w s v ∧ FitL w ss rest
end
theorem FitL.len {w : World} : ∀ {ss : List Sh} {vs : List Value}, FitL w ss vs → vs.length = ss.length
  | [], vs, h => by rw [FitL] at h; subst h; rfl
  | s :: ss, vs, h => by
    rw [FitL] at h
    obtain ⟨v, rest, rfl, _, hr⟩ := h
    simp [hr.len]
theorem FitL.append {w : World} : ∀ {a b : List Sh} {x y : List Value}, FitL w a x → FitL w b y → FitL w (a ++ b) (x ++ y)
  | [], b, x, y, h, k => by rw [FitL] at h; subst h; exact k
  | s :: ss, b, x, y, h, k => by
    rw [FitL] at h
    obtain ⟨v, rest, rfl, hv, hr⟩ := h
    rw [List.cons_append, List.cons_append, FitL]
    exact ⟨v, _, rfl, hv, hr.append k⟩

def joinSh (P : Program) (g : TypeId → Option (List Sh)) : List Field → Nat → Option (List Sh)
  | [], _ => some []
  | f :: fs, o => if f.offset = o then (g f.type).bind fun s => if s.length = P.cellsOf f.type then (joinSh P g fs (o + s.length)).map (s ++ ·) else none else none
def shapeOf (P : Program) : Nat → TypeId → Option (List Sh)
  | 0, _ => none
  | n + 1, t =>
    match P.underlying t with
    | some .bool => some [.bool]
    | some (.int k) => some [.int k]
    | some .string => some [.str]
    | some (.slice e) => (shapeOf P n e).bind fun s => if s.length = P.cellsOf e ∧ 0 < s.length then some [.sl s] else none
    | some (.struct fs) => (joinSh P (shapeOf P n) fs.toList 0).bind fun s => if s.length = P.cellsOf t then some s else none
    | _ => none

section
variable {H : Type} {enc : TypeId × Value → H} {P : Program} {w : World}
theorem join_fit {g : TypeId → Option (List Sh)} (hg : ∀ t s, g t = some s → ∀ fuel cs x, DataW.trod enc P w 0 (fun _ => true) true fuel t cs = some x → FitL w s cs) (cs : List Value) :
    ∀ (fl : List Field) (o : Nat) (shs : List Sh), joinSh P g fl o = some shs → (∀ f ∈ fl, ∃ fuel y, DataW.trod enc P w 0 (fun _ => true) true fuel f.type ((cs.drop f.offset).take (P.cellsOf f.type)) = some y) →
      FitL w shs ((cs.drop o).take shs.length)
  | [], o, shs, h, _ => by
    simp only [joinSh, Option.some.injEq] at h
    subst h
    simp [FitL]
  | f :: fs, o, shs, h, ht => by
    rw [joinSh] at h
    split at h
    · rename_i ho
      obtain ⟨s, hs, h⟩ := Option.bind_eq_some_iff.1 h
      split at h
      · rename_i hl
        obtain ⟨r, hr, h⟩ := Option.map_eq_some_iff.1 h
        subst h
        obtain ⟨fuel, y, hy⟩ := ht f (by simp)
        have h1 := hg _ _ hs _ _ _ hy
        have h2 := join_fit hg cs fs (o + s.length) r hr fun f' hf' => ht f' (by simp [hf'])
        rw [ho, ← hl] at h1
        have e : (cs.drop o).take (s ++ r).length = (cs.drop o).take s.length ++ (cs.drop (o + s.length)).take r.length := by
          rw [List.length_append, List.take_add, List.drop_drop]
        rw [e]
        exact h1.append h2
      · simp at h
    · simp at h
theorem trod_fit : ∀ (n : Nat) (t : TypeId) (shs : List Sh), shapeOf P n t = some shs → ∀ (fuel : Nat) (cs : List Value) (x : DataW H × List MemPlace),
    DataW.trod enc P w 0 (fun _ => true) true fuel t cs = some x → FitL w shs cs
  | 0, _, _, h, _, _, _, _ => by simp [shapeOf] at h
  | n + 1, t, shs, h, fuel, cs, x, ht => by
    rw [shapeOf] at h
    split at h
    · rename_i hu
      cases h
      obtain ⟨b, rfl, _⟩ := DataW.trod_bool hu ht
      exact ⟨_, _, rfl, ⟨b, rfl⟩, rfl⟩
    · rename_i k hu
      cases h
      obtain ⟨m, rfl, _, hw⟩ := DataW.trod_int hu ht
      exact ⟨_, _, rfl, ⟨m, rfl, hw⟩, rfl⟩
    · rename_i hu
      cases h
      obtain ⟨s, rfl, _, hs⟩ := DataW.trod_string hu ht
      exact ⟨_, _, rfl, ⟨s, rfl, hs⟩, rfl⟩
    · rename_i e hu
      obtain ⟨s, hs, h⟩ := Option.bind_eq_some_iff.1 h
      split at h
      · rename_i hl
        cases h
        refine ⟨cs.headD (.bool false), [], ?_, ?_, rfl⟩
        · rcases open_slice hu ht with ⟨rfl, _⟩ | ⟨a, len, cap, m, n', D, Pl, rfl, _⟩ <;> rfl
        · rw [FitC]
          rcases open_slice hu ht with ⟨rfl, _⟩ | ⟨⟨blk, off, spot⟩, len, cap, m, n', D, Pl, rfl, _, hlc, hcm, hm, _, hi⟩
          · exact ⟨none, 0, 0, rfl, Nat.le_refl _, Nat.zero_le _, fun i hi => by omega⟩
          · have hpos : 0 < len → spot = none ∧ blk < w.heap.size := fun hp => by
              obtain ⟨cs', hc, htr⟩ := hi 0 (by rw [hm]; simp; omega)
              obtain ⟨_, hlen, hat⟩ := World.cells?_some hc
              have hcell := hat 0 (by omega)
              have hh : cs'[0]? = some (cs'[0]'(by omega)) := List.getElem?_eq_getElem (by omega)
              rw [hh] at hcell
              have e0 : ((⟨blk, off, spot⟩ : Addr).add (0 * P.cellsOf e)).add 0 = ⟨blk, off, spot⟩ := by simp [Addr.add]
              rw [e0] at hcell
              exact ⟨World.cell?_spot hcell, World.block_lt_of_cell? w _ hcell⟩
            refine ⟨_, len, cap, rfl, hlc, hcm, fun i hil => ?_⟩
            obtain ⟨rfl, hlt⟩ := hpos (by omega)
            obtain ⟨cs', hc, htr⟩ := hi i (by rw [hm]; simp; omega)
            have hf := trod_fit n e s hs _ _ _ htr
            obtain ⟨_, hlen, hat⟩ := World.cells?_some hc
            refine ⟨blk, off, cs', rfl, hlt, fun j hj => ?_, hf⟩
            have := hat j (by omega)
            rw [add_add, ← hl.1] at this
            rw [← this]
            congr 1
            unfold Addr.add
            split
            · rename_i h0
              have h1 : i * s.length = 0 := by omega
              have h2 : j = 0 := by omega
              rw [h1, h2]
              rfl
            · simp [Nat.add_assoc]
      · simp at h
    · rename_i fs hu
      obtain ⟨s, hs, h⟩ := Option.bind_eq_some_iff.1 h
      split at h
      · rename_i hl
        cases h
        obtain ⟨xs, n', _, _, hcl, hxl, hf⟩ := DataW.trod_struct hu ht
        have := join_fit (fun t s hs fuel cs x => trod_fit n t s hs fuel cs x) cs fs.toList 0 shs hs fun f hfm => by
          obtain ⟨j, hj⟩ := List.getElem?_of_mem hfm
          have h1 := hf j f (by simpa using hj)
          have hjl : j < fs.size := by simpa using (List.getElem?_eq_some_iff.1 hj).1
          exact ⟨n', _, h1.trans (List.getElem?_eq_getElem (by omega))⟩
        rw [List.drop_zero, List.take_of_length_le (by omega)] at this
        exact this
      · simp at h
    · simp at h
end
theorem fit_int {w : World} {k : IntKind} {ss : List Sh} {vs : List Value} (h : FitL w (.int k :: ss) vs) : ∃ n rest, vs = .int k n :: rest ∧ (Lit.int k n).wf = true ∧ FitL w ss rest := by
  rw [FitL] at h
  obtain ⟨v, rest, rfl, hc, hr⟩ := h
  rw [FitC] at hc
  obtain ⟨n, rfl, hw⟩ := hc
  exact ⟨n, rest, rfl, hw, hr⟩
theorem fit_bool {w : World} {ss : List Sh} {vs : List Value} (h : FitL w (.bool :: ss) vs) : ∃ b rest, vs = .bool b :: rest ∧ FitL w ss rest := by
  rw [FitL] at h
  obtain ⟨v, rest, rfl, hc, hr⟩ := h
  rw [FitC] at hc
  obtain ⟨n, rfl⟩ := hc
  exact ⟨n, rest, rfl, hr⟩
theorem fit_str {w : World} {ss : List Sh} {vs : List Value} (h : FitL w (.str :: ss) vs) : ∃ (s : ByteArray) (rest : List Value), vs = .string s :: rest ∧ s.size ≤ maxLen ∧ FitL w ss rest := by
  rw [FitL] at h
  obtain ⟨v, rest, rfl, hc, hr⟩ := h
  rw [FitC] at hc
  obtain ⟨n, rfl, hw⟩ := hc
  exact ⟨n, rest, rfl, hw, hr⟩
theorem fit_sl {w : World} {e ss : List Sh} {vs : List Value} (h : FitL w (.sl e :: ss) vs) : ∃ a len cap rest, vs = .slice a len cap :: rest ∧ FitC w (.sl e) (.slice a len cap) ∧ FitL w ss rest := by
  rw [FitL] at h
  obtain ⟨v, rest, rfl, hc, hr⟩ := h
  have h2 := hc
  rw [FitC] at h2
  obtain ⟨a, len, cap, rfl, _⟩ := h2
  exact ⟨a, len, cap, rest, rfl, hc, hr⟩
theorem fit_nil {w : World} {vs : List Value} (h : FitL w [] vs) : vs = [] := by
  rw [FitL] at h
  exact h
/-- A slice that came in, its elements read as l. -/
theorem reads_of {α : Type} {f : α → List Value} {c : Nat} {good : α → Prop} {w : World} {e : List Sh} {a : Option Addr} {len cap : Nat} (hc : e.length = c) (cov : ∀ cs, FitL w e cs → ∃ x, cs = f x ∧ good x) (h : FitC w (.sl e) (.slice a len cap)) :
    ∃ l : List α, l.length = len ∧ Reads f c w a l ∧ len ≤ 9223372036854775807 ∧ ∀ x ∈ l, good x := by
  rw [FitC] at h
  obtain ⟨a', len', cap', hv, h1, h2, h3⟩ := h
  cases hv
  subst hc
  obtain ⟨g, hg⟩ : ∃ g : Nat → Option α, ∀ i, i < len → ∃ x, g i = some x ∧ good x ∧ ∃ blk off, a = some ⟨blk, off, none⟩ ∧ blk < w.heap.size ∧ ∀ j, j < e.length → w.cell? ⟨blk, off + i * e.length + j, none⟩ = (f x)[j]? := by
    have key : ∀ i, ∃ o : Option α, i < len → ∃ x, o = some x ∧ good x ∧ ∃ blk off, a = some ⟨blk, off, none⟩ ∧ blk < w.heap.size ∧ ∀ j, j < e.length → w.cell? ⟨blk, off + i * e.length + j, none⟩ = (f x)[j]? := fun i => by
      by_cases hi : i < len
      · obtain ⟨blk, off, cs, ha, hb, hcell, hf⟩ := h3 i hi
        obtain ⟨x, rfl, hx⟩ := cov cs hf
        exact ⟨some x, fun _ => ⟨x, rfl, hx, blk, off, ha, hb, hcell⟩⟩
      · exact ⟨none, fun h => absurd h hi⟩
    exact ⟨fun i => (key i).choose, fun i => (key i).choose_spec⟩
  have hl : ∀ n, n ≤ len → ∃ l : List α, l.length = n ∧ (∀ i (h : i < l.length), g i = some l[i]) ∧ ∀ x ∈ l, good x := by
    intro n
    induction n with
    | zero => exact fun _ => ⟨[], rfl, fun i h => by simp at h, by simp⟩
    | succ n ih =>
      intro hn
      obtain ⟨l, hl, hq, hgd⟩ := ih (by omega)
      obtain ⟨x, hx, hgx, _⟩ := hg n (by omega)
      refine ⟨l ++ [x], by simp [hl], fun i hi => ?_, fun y hy => ?_⟩
      · by_cases h : i < l.length
        · rw [List.getElem_append_left h]; exact hq i h
        · have : i = n := by simp at hi; omega
          subst this
          rw [List.getElem_concat_length (by omega), hx]
      · rcases List.mem_append.1 hy with h | h
        · exact hgd y h
        · have := List.mem_singleton.1 h; rw [this]; exact hgx
  obtain ⟨l, hl, hq, hgd⟩ := hl len (Nat.le_refl _)
  refine ⟨l, hl, fun j hj => ?_, by unfold maxLen at h2; omega, hgd⟩
  obtain ⟨x, hx, _, blk, off, ha, hb, hcell⟩ := hg j (by omega)
  have : x = l[j] := by have := hq j hj; rw [hx] at this; exact Option.some.inj this
  subst this
  exact ⟨blk, off, ha, hb, hcell⟩
end Go.Proofs.Ytlljhcfiojfimaa.Shape
