/- Rows of Rule: six numbers and a slice of Node in an element; what came in, what the call owns, the nodes with them; the laws' helpers on them. Written by gen_trule.py. -/
import Derived.Test.YtkfgflmhefbinaaRows
import Derived.Test.YtkfgflmhefbinaaKit
import Derived.Test.YtkfgflmhefbinaaTNode
import Derived.WalkKit
import Derived.Below
import Derived.WalkSmall
import Derived.Lib.Hide
import Derived.BigQuiet
import Derived.Deep.QuietTactic
import Derived.OpenShut
namespace Go.Proofs.Ytkfgflmhefbinaa.TRule
open Go.RowKit RowN
set_option linter.unusedVariables false

structure Ru where
  Name : Int
  From : Int
  To : Int
  Joined : Int
  Rank : Int
  Mode : Int
  Nodes : List TNode.El
structure El where
  r : Ru
  p : Option Addr
  c : Nat
def sl (x : El) : Value := .slice x.p x.r.Nodes.length x.c
def fc (x : El) : List Value := [.int .i64 x.r.Name, .int .i64 x.r.From, .int .i64 x.r.To, .int .i64 x.r.Joined, .int .i64 x.r.Rank, .int .i64 x.r.Mode, .slice x.p x.r.Nodes.length x.c]
def fv (x : El) : Value := .agg #[.int .i64 x.r.Name, .int .i64 x.r.From, .int .i64 x.r.To, .int .i64 x.r.Joined, .int .i64 x.r.Rank, .int .i64 x.r.Mode, .slice x.p x.r.Nodes.length x.c]
def e0 : El := ⟨⟨0, 0, 0, 0, 0, 0, []⟩, none, 0⟩
theorem fw : Wide fc 7 := ⟨fun _ => rfl, by rintro x v hv; simp only [fc, List.mem_cons, List.not_mem_nil, or_false] at hv; rcases hv with rfl | rfl | rfl | rfl | rfl | rfl | rfl <;> rfl, by omega⟩
abbrev T : Nat := 34
theorem ft : ElT Try.prog 24 34 (fv e0) 7 72 := ⟨Try.underlying24, by kernel_rfl, by omega, rfl⟩
theorem read {w : World} {a : Option Addr} {l : List El} (h : Reads fc 7 w a l) (j : Nat) (hj : j < l.length) : ∃ blk off, a = some ⟨blk, off, none⟩ ∧ blk < w.heap.size ∧ w.cell? ⟨blk, off + j * 7, none⟩ = some (.int .i64 l[j].r.Name) ∧ w.cell? ⟨blk, off + j * 7 + 1, none⟩ = some (.int .i64 l[j].r.From) ∧ w.cell? ⟨blk, off + j * 7 + 2, none⟩ = some (.int .i64 l[j].r.To) ∧ w.cell? ⟨blk, off + j * 7 + 3, none⟩ = some (.int .i64 l[j].r.Joined) ∧ w.cell? ⟨blk, off + j * 7 + 4, none⟩ = some (.int .i64 l[j].r.Rank) ∧ w.cell? ⟨blk, off + j * 7 + 5, none⟩ = some (.int .i64 l[j].r.Mode) ∧ w.cell? ⟨blk, off + j * 7 + 6, none⟩ = some (.slice l[j].p l[j].r.Nodes.length l[j].c) := by
  obtain ⟨blk, off, e, hlt, hc⟩ := h j hj
  exact ⟨blk, off, e, hlt, hc 0 (by omega), hc 1 (by omega), hc 2 (by omega), hc 3 (by omega), hc 4 (by omega), hc 5 (by omega), hc 6 (by omega)⟩
theorem own {w : World} {B n cap : Nat} {a : Option Addr} {l : List El} (h : Owns fc 7 w B T (.slice a n cap) l) (j : Nat) (hj : j < l.length) : ∃ g, a = some ⟨g, 0, none⟩ ∧ B ≤ g ∧ g < w.heap.size ∧ w.cell? ⟨g, j * 7, none⟩ = some (.int .i64 l[j].r.Name) ∧ w.cell? ⟨g, j * 7 + 1, none⟩ = some (.int .i64 l[j].r.From) ∧ w.cell? ⟨g, j * 7 + 2, none⟩ = some (.int .i64 l[j].r.To) ∧ w.cell? ⟨g, j * 7 + 3, none⟩ = some (.int .i64 l[j].r.Joined) ∧ w.cell? ⟨g, j * 7 + 4, none⟩ = some (.int .i64 l[j].r.Rank) ∧ w.cell? ⟨g, j * 7 + 5, none⟩ = some (.int .i64 l[j].r.Mode) ∧ w.cell? ⟨g, j * 7 + 6, none⟩ = some (.slice l[j].p l[j].r.Nodes.length l[j].c) ∧ w.frozen? ⟨g, j * 7, none⟩ = false ∧ w.frozen? ⟨g, j * 7 + 1, none⟩ = false ∧ w.frozen? ⟨g, j * 7 + 2, none⟩ = false ∧ w.frozen? ⟨g, j * 7 + 3, none⟩ = false ∧ w.frozen? ⟨g, j * 7 + 4, none⟩ = false ∧ w.frozen? ⟨g, j * 7 + 5, none⟩ = false ∧ w.frozen? ⟨g, j * 7 + 6, none⟩ = false := by
  obtain ⟨g, e, hb, hlt, hc⟩ := h.at fw j hj
  exact ⟨g, e, hb, hlt, (hc 0 (by omega)).1, (hc 1 (by omega)).1, (hc 2 (by omega)).1, (hc 3 (by omega)).1, (hc 4 (by omega)).1, (hc 5 (by omega)).1, (hc 6 (by omega)).1, (hc 0 (by omega)).2, (hc 1 (by omega)).2, (hc 2 (by omega)).2, (hc 3 (by omega)).2, (hc 4 (by omega)).2, (hc 5 (by omega)).2, (hc 6 (by omega)).2⟩
theorem stored {w : World} {B g cap n : Nat} {l : List El} (h : Owns fc 7 w B T (.slice (some ⟨g, 0, none⟩) n cap) l) (j : Nat) (hj : j < l.length) (x : El) :
    Owns fc 7 (((((((w.setCell ⟨g, j * 7, none⟩ (.int .i64 x.r.Name)).setCell ⟨g, j * 7 + 1, none⟩ (.int .i64 x.r.From)).setCell ⟨g, j * 7 + 2, none⟩ (.int .i64 x.r.To)).setCell ⟨g, j * 7 + 3, none⟩ (.int .i64 x.r.Joined)).setCell ⟨g, j * 7 + 4, none⟩ (.int .i64 x.r.Rank)).setCell ⟨g, j * 7 + 5, none⟩ (.int .i64 x.r.Mode)).setCell ⟨g, j * 7 + 6, none⟩ (.slice x.p x.r.Nodes.length x.c)) B T (.slice (some ⟨g, 0, none⟩) n cap) (l.set j x) := by
  have s0 := h.stored fw j hj 0 (by omega) (.int .i64 x.r.Name) ⟨⟨x.r.Name, l[j].r.From, l[j].r.To, l[j].r.Joined, l[j].r.Rank, l[j].r.Mode, l[j].r.Nodes⟩, l[j].p, l[j].c⟩ rfl
  have s1 := s0.stored fw j (by simpa using hj) 1 (by omega) (.int .i64 x.r.From) ⟨⟨x.r.Name, x.r.From, l[j].r.To, l[j].r.Joined, l[j].r.Rank, l[j].r.Mode, l[j].r.Nodes⟩, l[j].p, l[j].c⟩ (by rw [List.getElem_set_self]; rfl)
  have s2 := s1.stored fw j (by simpa using hj) 2 (by omega) (.int .i64 x.r.To) ⟨⟨x.r.Name, x.r.From, x.r.To, l[j].r.Joined, l[j].r.Rank, l[j].r.Mode, l[j].r.Nodes⟩, l[j].p, l[j].c⟩ (by rw [List.getElem_set_self]; rfl)
  have s3 := s2.stored fw j (by simpa using hj) 3 (by omega) (.int .i64 x.r.Joined) ⟨⟨x.r.Name, x.r.From, x.r.To, x.r.Joined, l[j].r.Rank, l[j].r.Mode, l[j].r.Nodes⟩, l[j].p, l[j].c⟩ (by rw [List.getElem_set_self]; rfl)
  have s4 := s3.stored fw j (by simpa using hj) 4 (by omega) (.int .i64 x.r.Rank) ⟨⟨x.r.Name, x.r.From, x.r.To, x.r.Joined, x.r.Rank, l[j].r.Mode, l[j].r.Nodes⟩, l[j].p, l[j].c⟩ (by rw [List.getElem_set_self]; rfl)
  have s5 := s4.stored fw j (by simpa using hj) 5 (by omega) (.int .i64 x.r.Mode) ⟨⟨x.r.Name, x.r.From, x.r.To, x.r.Joined, x.r.Rank, x.r.Mode, l[j].r.Nodes⟩, l[j].p, l[j].c⟩ (by rw [List.getElem_set_self]; rfl)
  have s6 := s5.stored fw j (by simpa using hj) 6 (by omega) (.slice x.p x.r.Nodes.length x.c) x (by rw [List.getElem_set_self]; rfl)
  simpa only [List.set_set, Nat.add_zero] using s6
/-- Stores of the six numbers. -/
theorem stored6 {w : World} {B g cap n : Nat} {l : List El} (h : Owns fc 7 w B T (.slice (some ⟨g, 0, none⟩) n cap) l) (j : Nat) (hj : j < l.length) (x0 x1 x2 x3 x4 x5 : Int) :
    Owns fc 7 ((((((w.setCell ⟨g, j * 7, none⟩ (.int .i64 x0)).setCell ⟨g, j * 7 + 1, none⟩ (.int .i64 x1)).setCell ⟨g, j * 7 + 2, none⟩ (.int .i64 x2)).setCell ⟨g, j * 7 + 3, none⟩ (.int .i64 x3)).setCell ⟨g, j * 7 + 4, none⟩ (.int .i64 x4)).setCell ⟨g, j * 7 + 5, none⟩ (.int .i64 x5)) B T (.slice (some ⟨g, 0, none⟩) n cap) (l.set j ⟨⟨x0, x1, x2, x3, x4, x5, l[j].r.Nodes⟩, l[j].p, l[j].c⟩) := by
  have s0 := h.stored fw j hj 0 (by omega) (.int .i64 x0) ⟨⟨x0, l[j].r.From, l[j].r.To, l[j].r.Joined, l[j].r.Rank, l[j].r.Mode, l[j].r.Nodes⟩, l[j].p, l[j].c⟩ rfl
  have s1 := s0.stored fw j (by simpa using hj) 1 (by omega) (.int .i64 x1) ⟨⟨x0, x1, l[j].r.To, l[j].r.Joined, l[j].r.Rank, l[j].r.Mode, l[j].r.Nodes⟩, l[j].p, l[j].c⟩ (by rw [List.getElem_set_self]; rfl)
  have s2 := s1.stored fw j (by simpa using hj) 2 (by omega) (.int .i64 x2) ⟨⟨x0, x1, x2, l[j].r.Joined, l[j].r.Rank, l[j].r.Mode, l[j].r.Nodes⟩, l[j].p, l[j].c⟩ (by rw [List.getElem_set_self]; rfl)
  have s3 := s2.stored fw j (by simpa using hj) 3 (by omega) (.int .i64 x3) ⟨⟨x0, x1, x2, x3, l[j].r.Rank, l[j].r.Mode, l[j].r.Nodes⟩, l[j].p, l[j].c⟩ (by rw [List.getElem_set_self]; rfl)
  have s4 := s3.stored fw j (by simpa using hj) 4 (by omega) (.int .i64 x4) ⟨⟨x0, x1, x2, x3, x4, l[j].r.Mode, l[j].r.Nodes⟩, l[j].p, l[j].c⟩ (by rw [List.getElem_set_self]; rfl)
  have s5 := s4.stored fw j (by simpa using hj) 5 (by omega) (.int .i64 x5) ⟨⟨x0, x1, x2, x3, x4, x5, l[j].r.Nodes⟩, l[j].p, l[j].c⟩ (by rw [List.getElem_set_self]; rfl)
  simpa only [List.set_set, Nat.add_zero] using s5
theorem below {w0 w : World} {B g o : Nat} {y0 y1 y2 y3 y4 y5 y6 : Value} (h : Below B w0 w) (hB : B ≤ g) : Below B w0 (((((((w.setCell ⟨g, o, none⟩ y0).setCell ⟨g, o + 1, none⟩ y1).setCell ⟨g, o + 2, none⟩ y2).setCell ⟨g, o + 3, none⟩ y3).setCell ⟨g, o + 4, none⟩ y4).setCell ⟨g, o + 5, none⟩ y5).setCell ⟨g, o + 6, none⟩ y6) :=
  (((((((h.setCell (p := ⟨g, o, none⟩) hB _).setCell (p := ⟨g, o + 1, none⟩) hB _).setCell (p := ⟨g, o + 2, none⟩) hB _).setCell (p := ⟨g, o + 3, none⟩) hB _).setCell (p := ⟨g, o + 4, none⟩) hB _).setCell (p := ⟨g, o + 5, none⟩) hB _).setCell (p := ⟨g, o + 6, none⟩) hB _)
theorem beside7 {α : Type} {f : α → List Value} {c B U g o : Nat} {v : Value} {l : List α} {w : World} {y0 y1 y2 y3 y4 y5 y6 : Value} (h : Owns f c w B U v l) (hne : v.ownBlock ≠ some g) : Owns f c (((((((w.setCell ⟨g, o, none⟩ y0).setCell ⟨g, o + 1, none⟩ y1).setCell ⟨g, o + 2, none⟩ y2).setCell ⟨g, o + 3, none⟩ y3).setCell ⟨g, o + 4, none⟩ y4).setCell ⟨g, o + 5, none⟩ y5).setCell ⟨g, o + 6, none⟩ y6) B U v l :=
  (((((((h.beside hne _).beside hne _).beside hne _).beside hne _).beside hne _).beside hne _).beside hne _)
theorem beside6 {α : Type} {f : α → List Value} {c B U g o : Nat} {v : Value} {l : List α} {w : World} {y0 y1 y2 y3 y4 y5 : Value} (h : Owns f c w B U v l) (hne : v.ownBlock ≠ some g) : Owns f c ((((((w.setCell ⟨g, o, none⟩ y0).setCell ⟨g, o + 1, none⟩ y1).setCell ⟨g, o + 2, none⟩ y2).setCell ⟨g, o + 3, none⟩ y3).setCell ⟨g, o + 4, none⟩ y4).setCell ⟨g, o + 5, none⟩ y5) B U v l :=
  ((((((h.beside hne _).beside hne _).beside hne _).beside hne _).beside hne _).beside hne _)

/-- What came in: the row and the nodes behind each element. -/
structure ReadsD (w : World) (a : Option Addr) (xs : List El) : Prop where
  out : Reads fc 7 w a xs
  inn : ∀ j (h : j < xs.length), Reads TNode.fc 6 w xs[j].p xs[j].r.Nodes
theorem ReadsD.on {w w' : World} {a : Option Addr} {xs : List El} (h : ReadsD w a xs) (hb : Below w.heap.size w w') : ReadsD w' a xs := ⟨h.out.on hb, fun j hj => (h.inn j hj).on hb⟩
/-- What the call owns, in blocks from lo up to hi: the row and the nodes behind each element, each in a block of its own. -/
structure Nest (w : World) (lo hi : Nat) (v : Value) (xs : List El) : Prop where
  out : Own.Ow fc 7 T w lo hi v xs
  inn : ∀ j (h : j < xs.length), Own.Ow TNode.fc 6 TNode.T w lo hi (sl xs[j]) xs[j].r.Nodes
  apart : ∀ j (h : j < xs.length) k, (sl xs[j]).ownBlock = some k → v.ownBlock ≠ some k
  sep : ∀ i j (hi : i < xs.length) (hj : j < xs.length) k, i ≠ j → (sl xs[i]).ownBlock = some k → (sl xs[j]).ownBlock ≠ some k
theorem Nest.on {w w' : World} {lo hi : Nat} {v : Value} {xs : List El} (h : Nest w lo hi v xs) (hb : Below w.heap.size w w') : Nest w' lo hi v xs :=
  ⟨h.out.on hb, fun j hj => (h.inn j hj).on hb, h.apart, h.sep⟩
theorem Nest.up {w : World} {lo hi hi' : Nat} {v : Value} {xs : List El} (h : Nest w lo hi v xs) (h1 : hi ≤ hi') (h2 : hi' ≤ w.heap.size) : Nest w lo hi' v xs :=
  ⟨⟨h.out.own, fun k hk => Nat.lt_of_lt_of_le (h.out.top k hk) h1, h2⟩, fun j hj => ⟨(h.inn j hj).own, fun k hk => Nat.lt_of_lt_of_le ((h.inn j hj).top k hk) h1, h2⟩, h.apart, h.sep⟩
theorem Nest.mid {w w' : World} {lo hi lo' hi' : Nat} {v : Value} {xs : List El} (h : Nest w lo hi v xs) (hm : Own.Mid lo' hi' w w') (hd : hi ≤ lo' ∨ hi' ≤ lo) : Nest w' lo hi v xs :=
  ⟨h.out.mid hm hd, fun j hj => (h.inn j hj).mid hm hd, h.apart, h.sep⟩
theorem Nest.base {w : World} {lo lo' hi : Nat} {v : Value} {xs : List El} (h : Nest w lo hi v xs) (hb : lo' ≤ lo) : Nest w lo' hi v xs :=
  ⟨h.out.base hb, fun j hj => (h.inn j hj).base hb, h.apart, h.sep⟩
theorem Nest.reads {w : World} {lo hi n cap : Nat} {a : Option Addr} {xs : List El} (h : Nest w lo hi (.slice a n cap) xs) : ReadsD w a xs :=
  ⟨h.out.reads fw, fun j hj => Own.Ow.reads (T := TNode.T) (lo := lo) (hi := hi) TNode.fw (h.inn j hj)⟩
theorem Nest.box {w : World} {lo hi b o : Nat} {v : Value} {xs : List El} (h : Nest w lo hi v xs) (hb : b < lo ∨ hi ≤ b) (x : Value) : Nest (w.setCell ⟨b, o, none⟩ x) lo hi v xs :=
  ⟨h.out.box hb x, fun j hj => (h.inn j hj).box hb x, h.apart, h.sep⟩

/-- An element is stored whole, its nodes in a block that no other element has. -/
theorem Nest.put {w : World} {lo hi g cap n : Nat} {xs : List El} (h : Nest w lo hi (.slice (some ⟨g, 0, none⟩) n cap) xs) (j : Nat) (hj : j < xs.length) (x : El) (hx : Own.Ow TNode.fc 6 TNode.T w lo hi (sl x) x.r.Nodes)
    (hg : ∀ k, (sl x).ownBlock = some k → k ≠ g) (hs : ∀ k, (sl x).ownBlock = some k → ∀ i (hi : i < xs.length), (sl xs[i]).ownBlock ≠ some k) :
    Nest (((((((w.setCell ⟨g, j * 7, none⟩ (.int .i64 x.r.Name)).setCell ⟨g, j * 7 + 1, none⟩ (.int .i64 x.r.From)).setCell ⟨g, j * 7 + 2, none⟩ (.int .i64 x.r.To)).setCell ⟨g, j * 7 + 3, none⟩ (.int .i64 x.r.Joined)).setCell ⟨g, j * 7 + 4, none⟩ (.int .i64 x.r.Rank)).setCell ⟨g, j * 7 + 5, none⟩ (.int .i64 x.r.Mode)).setCell ⟨g, j * 7 + 6, none⟩ (.slice x.p x.r.Nodes.length x.c)) lo hi (.slice (some ⟨g, 0, none⟩) n cap) (xs.set j x) := by
  have hsz : ((((((((w.setCell ⟨g, j * 7, none⟩ (.int .i64 x.r.Name)).setCell ⟨g, j * 7 + 1, none⟩ (.int .i64 x.r.From)).setCell ⟨g, j * 7 + 2, none⟩ (.int .i64 x.r.To)).setCell ⟨g, j * 7 + 3, none⟩ (.int .i64 x.r.Joined)).setCell ⟨g, j * 7 + 4, none⟩ (.int .i64 x.r.Rank)).setCell ⟨g, j * 7 + 5, none⟩ (.int .i64 x.r.Mode)).setCell ⟨g, j * 7 + 6, none⟩ (.slice x.p x.r.Nodes.length x.c))).heap.size = w.heap.size := by simp
  refine ⟨⟨stored h.out.own j hj x, h.out.top, by rw [hsz]; exact h.out.lim⟩, fun i hi => ?_, fun i hi k hk => ?_, fun i i' hi hi' k hne hk => ?_⟩
  · rw [List.length_set] at hi
    by_cases e : j = i
    · subst e
      rw [List.getElem_set_self]
      exact ⟨beside7 hx.own (fun e => hg g e rfl), hx.top, by rw [hsz]; exact hx.lim⟩
    · rw [List.getElem_set_ne e]
      have q := h.inn i hi
      exact ⟨beside7 q.own (fun e => h.apart i hi g e rfl), q.top, by rw [hsz]; exact q.lim⟩
  · rw [List.length_set] at hi
    by_cases e : j = i
    · subst e
      rw [List.getElem_set_self] at hk
      intro e2
      exact hg k hk (Option.some.inj e2).symm
    · rw [List.getElem_set_ne e] at hk
      exact h.apart i hi k hk
  · rw [List.length_set] at hi hi'
    by_cases e : j = i
    · subst e
      rw [List.getElem_set_self] at hk
      rw [List.getElem_set_ne hne]
      exact hs k hk i' hi'
    · rw [List.getElem_set_ne e] at hk
      by_cases e' : j = i'
      · subst e'
        rw [List.getElem_set_self]
        intro e2
        exact hs k e2 i hi hk
      · rw [List.getElem_set_ne e']
        exact h.sep i i' hi hi' k hne hk
/-- The six numbers of an element are stored. -/
theorem Nest.put6 {w : World} {lo hi g cap n : Nat} {xs : List El} (h : Nest w lo hi (.slice (some ⟨g, 0, none⟩) n cap) xs) (j : Nat) (hj : j < xs.length) (x0 x1 x2 x3 x4 x5 : Int) :
    Nest ((((((w.setCell ⟨g, j * 7, none⟩ (.int .i64 x0)).setCell ⟨g, j * 7 + 1, none⟩ (.int .i64 x1)).setCell ⟨g, j * 7 + 2, none⟩ (.int .i64 x2)).setCell ⟨g, j * 7 + 3, none⟩ (.int .i64 x3)).setCell ⟨g, j * 7 + 4, none⟩ (.int .i64 x4)).setCell ⟨g, j * 7 + 5, none⟩ (.int .i64 x5)) lo hi (.slice (some ⟨g, 0, none⟩) n cap) (xs.set j ⟨⟨x0, x1, x2, x3, x4, x5, xs[j].r.Nodes⟩, xs[j].p, xs[j].c⟩) := by
  have hsz : (((((((w.setCell ⟨g, j * 7, none⟩ (.int .i64 x0)).setCell ⟨g, j * 7 + 1, none⟩ (.int .i64 x1)).setCell ⟨g, j * 7 + 2, none⟩ (.int .i64 x2)).setCell ⟨g, j * 7 + 3, none⟩ (.int .i64 x3)).setCell ⟨g, j * 7 + 4, none⟩ (.int .i64 x4)).setCell ⟨g, j * 7 + 5, none⟩ (.int .i64 x5))).heap.size = w.heap.size := by simp
  have he : ∀ i (hi : i < (xs.set j ⟨⟨x0, x1, x2, x3, x4, x5, xs[j].r.Nodes⟩, xs[j].p, xs[j].c⟩).length), sl (xs.set j ⟨⟨x0, x1, x2, x3, x4, x5, xs[j].r.Nodes⟩, xs[j].p, xs[j].c⟩)[i] = sl (xs[i]'(by simpa using hi)) ∧ (xs.set j ⟨⟨x0, x1, x2, x3, x4, x5, xs[j].r.Nodes⟩, xs[j].p, xs[j].c⟩)[i].r.Nodes = (xs[i]'(by simpa using hi)).r.Nodes := fun i hi => by
    by_cases e : j = i
    · subst e
      rw [List.getElem_set_self]
      exact ⟨rfl, rfl⟩
    · rw [List.getElem_set_ne e]
      exact ⟨rfl, rfl⟩
  refine ⟨⟨stored6 h.out.own j hj x0 x1 x2 x3 x4 x5, h.out.top, by rw [hsz]; exact h.out.lim⟩, fun i hi => ?_, fun i hi k hk => ?_, fun i i' hi hi' k hne hk => ?_⟩
  · rw [(he i hi).1, (he i hi).2]
    have hi2 : i < xs.length := by simpa using hi
    have q := h.inn i hi2
    exact ⟨beside6 q.own (fun e => h.apart i hi2 g e rfl), q.top, by rw [hsz]; exact q.lim⟩
  · rw [(he i hi).1] at hk
    exact h.apart i (by simpa using hi) k hk
  · rw [(he i hi).1] at hk
    rw [(he i' hi').1]
    exact h.sep i i' (by simpa using hi) (by simpa using hi') k hne hk

/-- Rules that came in, by their values. -/
def RdD (w : World) (a : Option Addr) (rs : List Ru) : Prop := ∃ xs, xs.map (·.r) = rs ∧ ReadsD w a xs
/-- Rules that the call owns, by their values. -/
def OwD (w : World) (lo hi : Nat) (v : Value) (rs : List Ru) : Prop := ∃ xs, xs.map (·.r) = rs ∧ Nest w lo hi v xs
theorem RdD.on {w w' : World} {a : Option Addr} {rs : List Ru} (h : RdD w a rs) (hb : Below w.heap.size w w') : RdD w' a rs := by obtain ⟨xs, e, h⟩ := h; exact ⟨xs, e, h.on hb⟩
theorem OwD.on {w w' : World} {lo hi : Nat} {v : Value} {rs : List Ru} (h : OwD w lo hi v rs) (hb : Below w.heap.size w w') : OwD w' lo hi v rs := by obtain ⟨xs, e, h⟩ := h; exact ⟨xs, e, h.on hb⟩
theorem OwD.mid {w w' : World} {lo hi lo' hi' : Nat} {v : Value} {rs : List Ru} (h : OwD w lo hi v rs) (hm : Own.Mid lo' hi' w w') (hd : hi ≤ lo' ∨ hi' ≤ lo) : OwD w' lo hi v rs := by obtain ⟨xs, e, h⟩ := h; exact ⟨xs, e, h.mid hm hd⟩
theorem OwD.base {w : World} {lo lo' hi : Nat} {v : Value} {rs : List Ru} (h : OwD w lo hi v rs) (hb : lo' ≤ lo) : OwD w lo' hi v rs := by obtain ⟨xs, e, h⟩ := h; exact ⟨xs, e, h.base hb⟩
theorem OwD.up {w : World} {lo hi hi' : Nat} {v : Value} {rs : List Ru} (h : OwD w lo hi v rs) (h1 : hi ≤ hi') (h2 : hi' ≤ w.heap.size) : OwD w lo hi' v rs := by obtain ⟨xs, e, h⟩ := h; exact ⟨xs, e, h.up h1 h2⟩
theorem OwD.box {w : World} {lo hi b o : Nat} {v : Value} {rs : List Ru} (h : OwD w lo hi v rs) (hb : b < lo ∨ hi ≤ b) (x : Value) : OwD (w.setCell ⟨b, o, none⟩ x) lo hi v rs := by obtain ⟨xs, e, h⟩ := h; exact ⟨xs, e, h.box hb x⟩
theorem OwD.reads {w : World} {lo hi n cap : Nat} {a : Option Addr} {rs : List Ru} (h : OwD w lo hi (.slice a n cap) rs) : RdD w a rs := by obtain ⟨xs, e, h⟩ := h; exact ⟨xs, e, h.reads⟩
theorem OwD.form {w : World} {lo hi : Nat} {v : Value} {rs : List Ru} (h : OwD w lo hi v rs) : ∃ p c, v = .slice p rs.length c := by
  obtain ⟨xs, e, h⟩ := h
  obtain ⟨a, cap, hv, _⟩ := h.out.own.form fw
  exact ⟨a, cap, by rw [hv, ← e, List.length_map]⟩

def IsRule (r : Ru) (w : World) (e : Ending) (w' : World) : Prop := ∃ p c, e = .returned (fv ⟨r, p, c⟩) ∧ Own.Ow TNode.fc 6 TNode.T w' w.heap.size w'.heap.size (.slice p r.Nodes.length c) r.Nodes ∧ Below w.heap.size w w'
def IsBo (b : Bool) (w : World) (e : Ending) (w' : World) : Prop := e = .returned (.bool b) ∧ Below w.heap.size w w'
set_option maxHeartbeats 8000000 in
theorem to1 (x : El) (w : World) (hs : x.r.Nodes.length ≤ 1099511627776) (h : Reads TNode.fc 6 w x.p x.r.Nodes) : Calls Try.prog 30 #[fv x] w (IsRule x.r w) := by
  obtain ⟨⟨x0, x1, x2, x3, x4, x5, l⟩, p, c⟩ := x
  have h1 : Reads TNode.fc 6 w p l := h
  have KK := Lib.hid h1
  clear h h1
  obtain ⟨m, hm⟩ : ∃ m, l.length = m := ⟨_, rfl⟩
  have HM := Lib.hid hm
  have hs' : m ≤ 1099511627776 := by rw [← hm]; exact hs
  show Calls Try.prog 30 #[.agg #[.int .i64 x0, .int .i64 x1, .int .i64 x2, .int .i64 x3, .int .i64 x4, .int .i64 x5, .slice p l.length c]] w (IsRule ⟨x0, x1, x2, x3, x4, x5, l⟩ w)
  rw [hm]
  clear hs hm
  go_enter Try.func30, Try.ntmps30
  go_wp2_with fail
  refine (TNode.to_c _ p m c l HM.out hs' (KK.out.on (by (repeat (first | exact Below.refl _ _ | apply BelowKit.bl_alloc | apply BelowKit.bl_drewN | apply BelowKit.bl_drew | (refine BelowKit.bl_set ?_ _ ?_; rotate_left; (first | omega | (simp; omega) | simp)) | (refine BelowKit.bl_trans ?_ (‹Hid (Below _ _ _)›).out)))))).mono ?_
  rintro e w1 ⟨p', c', rfl, ho, hb⟩
  rw [HM.out] at ho ⊢
  have hz := hb.size
  simp at hz
  have q0 : w1.cell? ⟨w.heap.size + 1 + 1, 0, none⟩ = some (.int .i64 x0) := ((BelowKit.bcell hb).1 _ _ (by simp)).trans (by simp [go_sem])
  have r0 : w1.frozen? ⟨w.heap.size + 1 + 1, 0, none⟩ = false := ((BelowKit.bcell hb).2 _ _ (by simp)).trans (by simp [go_sem])
  have s0 : w1.cell? ⟨w.heap.size + 1, 0, none⟩ = some (.int .i64 0) := ((BelowKit.bcell hb).1 _ _ (by simp)).trans (by simp [go_sem])
  have f0 : w1.frozen? ⟨w.heap.size + 1, 0, none⟩ = false := ((BelowKit.bcell hb).2 _ _ (by simp)).trans (by simp [go_sem])
  have q1 : w1.cell? ⟨w.heap.size + 1 + 1, 1, none⟩ = some (.int .i64 x1) := ((BelowKit.bcell hb).1 _ _ (by simp)).trans (by simp [go_sem])
  have r1 : w1.frozen? ⟨w.heap.size + 1 + 1, 1, none⟩ = false := ((BelowKit.bcell hb).2 _ _ (by simp)).trans (by simp [go_sem])
  have s1 : w1.cell? ⟨w.heap.size + 1, 1, none⟩ = some (.int .i64 0) := ((BelowKit.bcell hb).1 _ _ (by simp)).trans (by simp [go_sem])
  have f1 : w1.frozen? ⟨w.heap.size + 1, 1, none⟩ = false := ((BelowKit.bcell hb).2 _ _ (by simp)).trans (by simp [go_sem])
  have q2 : w1.cell? ⟨w.heap.size + 1 + 1, 2, none⟩ = some (.int .i64 x2) := ((BelowKit.bcell hb).1 _ _ (by simp)).trans (by simp [go_sem])
  have r2 : w1.frozen? ⟨w.heap.size + 1 + 1, 2, none⟩ = false := ((BelowKit.bcell hb).2 _ _ (by simp)).trans (by simp [go_sem])
  have s2 : w1.cell? ⟨w.heap.size + 1, 2, none⟩ = some (.int .i64 0) := ((BelowKit.bcell hb).1 _ _ (by simp)).trans (by simp [go_sem])
  have f2 : w1.frozen? ⟨w.heap.size + 1, 2, none⟩ = false := ((BelowKit.bcell hb).2 _ _ (by simp)).trans (by simp [go_sem])
  have q3 : w1.cell? ⟨w.heap.size + 1 + 1, 3, none⟩ = some (.int .i64 x3) := ((BelowKit.bcell hb).1 _ _ (by simp)).trans (by simp [go_sem])
  have r3 : w1.frozen? ⟨w.heap.size + 1 + 1, 3, none⟩ = false := ((BelowKit.bcell hb).2 _ _ (by simp)).trans (by simp [go_sem])
  have s3 : w1.cell? ⟨w.heap.size + 1, 3, none⟩ = some (.int .i64 0) := ((BelowKit.bcell hb).1 _ _ (by simp)).trans (by simp [go_sem])
  have f3 : w1.frozen? ⟨w.heap.size + 1, 3, none⟩ = false := ((BelowKit.bcell hb).2 _ _ (by simp)).trans (by simp [go_sem])
  have q4 : w1.cell? ⟨w.heap.size + 1 + 1, 4, none⟩ = some (.int .i64 x4) := ((BelowKit.bcell hb).1 _ _ (by simp)).trans (by simp [go_sem])
  have r4 : w1.frozen? ⟨w.heap.size + 1 + 1, 4, none⟩ = false := ((BelowKit.bcell hb).2 _ _ (by simp)).trans (by simp [go_sem])
  have s4 : w1.cell? ⟨w.heap.size + 1, 4, none⟩ = some (.int .i64 0) := ((BelowKit.bcell hb).1 _ _ (by simp)).trans (by simp [go_sem])
  have f4 : w1.frozen? ⟨w.heap.size + 1, 4, none⟩ = false := ((BelowKit.bcell hb).2 _ _ (by simp)).trans (by simp [go_sem])
  have q5 : w1.cell? ⟨w.heap.size + 1 + 1, 5, none⟩ = some (.int .i64 x5) := ((BelowKit.bcell hb).1 _ _ (by simp)).trans (by simp [go_sem])
  have r5 : w1.frozen? ⟨w.heap.size + 1 + 1, 5, none⟩ = false := ((BelowKit.bcell hb).2 _ _ (by simp)).trans (by simp [go_sem])
  have s5 : w1.cell? ⟨w.heap.size + 1, 5, none⟩ = some (.int .i64 0) := ((BelowKit.bcell hb).1 _ _ (by simp)).trans (by simp [go_sem])
  have f5 : w1.frozen? ⟨w.heap.size + 1, 5, none⟩ = false := ((BelowKit.bcell hb).2 _ _ (by simp)).trans (by simp [go_sem])
  have q6 : w1.cell? ⟨w.heap.size + 1 + 1, 6, none⟩ = some (.slice none 0 0) := ((BelowKit.bcell hb).1 _ _ (by simp)).trans (by simp [go_sem])
  have r6 : w1.frozen? ⟨w.heap.size + 1 + 1, 6, none⟩ = false := ((BelowKit.bcell hb).2 _ _ (by simp)).trans (by simp [go_sem])
  have s6 : w1.cell? ⟨w.heap.size + 1, 6, none⟩ = some (.slice none 0 0) := ((BelowKit.bcell hb).1 _ _ (by simp)).trans (by simp [go_sem])
  have f6 : w1.frozen? ⟨w.heap.size + 1, 6, none⟩ = false := ((BelowKit.bcell hb).2 _ _ (by simp)).trans (by simp [go_sem])
  have z1 : w.heap.size + 1 + 1 < w1.heap.size := by omega
  have z2 : w.heap.size + 1 < w1.heap.size := by omega
  have HB := Lib.hid (show Below w.heap.size w w1 from BelowKit.bl_trans (by (repeat (first | exact Below.refl _ _ | apply BelowKit.bl_alloc | apply BelowKit.bl_drewN | apply BelowKit.bl_drew | (refine BelowKit.bl_set ?_ _ ?_; rotate_left; (first | omega | (simp; omega) | simp)) | (refine BelowKit.bl_trans ?_ (‹Hid (Below _ _ _)›).out)))) hb)
  have HN1 := Lib.hid (show w.heap.size ≤ w.heap.size + 1 by omega)
  have HN2 := Lib.hid (show w.heap.size ≤ w.heap.size + 1 + 1 by omega)
  have HO := Lib.hid (ho.base (B' := w.heap.size) (by simp; omega))
  have HO1 := Lib.hid (show (Value.slice p' m c').ownBlock ≠ some (w.heap.size + 1) from fun e => by have := ho.low _ e; simp at this; omega)
  have HO2 := Lib.hid (show (Value.slice p' m c').ownBlock ≠ some (w.heap.size + 1 + 1) from fun e => by have := ho.low _ e; simp at this; omega)
  have n1 : w.heap.size + 1 ≠ w.heap.size + 1 + 1 := by omega
  clear hb hz ho
  obtain ⟨B2, hB2⟩ : ∃ B, w.heap.size + 1 + 1 = B := ⟨_, rfl⟩
  rw [hB2] at q0 r0 q1 r1 q2 r2 q3 r3 q4 r4 q5 r5 q6 r6 z1 HN2 n1 HO2 ⊢
  obtain ⟨B1, hB1⟩ : ∃ B, w.heap.size + 1 = B := ⟨_, rfl⟩
  rw [hB1] at s0 f0 s1 f1 s2 f2 s3 f3 s4 f4 s5 f5 s6 f6 z2 HN1 n1 HO1 ⊢
  have n2 := n1.symm
  clear hB1 hB2
  go_wp2
  refine bodyPost_ret (v := .agg #[.int .i64 x0, .int .i64 x1, .int .i64 x2, .int .i64 x3, .int .i64 x4, .int .i64 x5, .slice p' m c']) (by simp [results, Try.results30, go_sem, s0, s1, s2, s3, s4, s5, s6]) rfl ⟨p', c', ?_, ?_, ?_⟩
  · rw [← HM.out]; rfl
  · refine Own.ow_of ?_
    show Owns TNode.fc 6 _ _ _ (.slice p' l.length c') l
    rw [HM.out]
    exact (((((((HO.out.beside HO2.out _).beside HO1.out _).beside HO1.out _).beside HO1.out _).beside HO1.out _).beside HO1.out _).beside HO1.out _).beside HO1.out _
  · exact BelowKit.bl_set (BelowKit.bl_set (BelowKit.bl_set (BelowKit.bl_set (BelowKit.bl_set (BelowKit.bl_set (BelowKit.bl_set (BelowKit.bl_set (HB.out) (a := ⟨B2, 6, none⟩) _ HN2.out) (a := ⟨B1, 0, none⟩) _ HN1.out) (a := ⟨B1, 1, none⟩) _ HN1.out) (a := ⟨B1, 2, none⟩) _ HN1.out) (a := ⟨B1, 3, none⟩) _ HN1.out) (a := ⟨B1, 4, none⟩) _ HN1.out) (a := ⟨B1, 5, none⟩) _ HN1.out) (a := ⟨B1, 6, none⟩) _ HN1.out
def IsRow (rs : List Ru) (w : World) (e : Ending) (w' : World) : Prop := ∃ p c, e = .returned (.slice p rs.length c) ∧ OwD w' w.heap.size w'.heap.size (.slice p rs.length c) rs ∧ Below w.heap.size w w'
def r0 : Ru := ⟨0, 0, 0, 0, 0, 0, []⟩
theorem copy_set (rs : List Ru) (j : Nat) (h : j < rs.length) : (rs.take j ++ List.replicate (rs.length - j) r0).set j rs[j] = rs.take (j + 1) ++ List.replicate (rs.length - (j + 1)) r0 := by
  have e : (rs.take j).length = j := by simp; omega
  rw [List.set_append_right _ _ (by omega), e, Nat.sub_self, show rs.length - j = (rs.length - (j + 1)) + 1 by omega, List.replicate_succ, List.set_cons_zero, List.take_succ_eq_append_getElem h, List.append_assoc]
  rfl
theorem nest_new {w : World} {lo : Nat} {g n : Nat} (h : Owns fc 7 w lo T (.slice (some ⟨g, 0, none⟩) n n) (List.replicate n e0)) : Nest w lo w.heap.size (.slice (some ⟨g, 0, none⟩) n n) (List.replicate n e0) := by
  have hs : ∀ j (hj : j < (List.replicate n e0).length), (List.replicate n e0)[j] = e0 := fun j hj => by simp
  have hn : (sl e0).ownBlock = none := rfl
  refine ⟨Own.ow_of h, fun j hj => ?_, fun j hj k hk => ?_, fun i j hi hj k _ hk => ?_⟩
  · rw [hs j hj]
    exact ⟨Owns.nil _ _ _, fun k hk => (by rw [hn] at hk; cases hk), Nat.le_refl _⟩
  · rw [hs j hj, hn] at hk; cases hk
  · rw [hs i hi, hn] at hk; cases hk
set_option maxHeartbeats 4000000 in
theorem to_c (w : World) (a : Option Addr) (m cap : Nat) (xs : List El) (hm : xs.length = m) (hs : m ≤ 1099511627776) (hn : ∀ j (h : j < xs.length), xs[j].r.Nodes.length ≤ 1099511627776) (h : ReadsD w a xs) :
    Calls Try.prog 75 #[.slice a m cap] w (IsRow (xs.map (·.r)) w) := by
  have KK := Lib.hid h
  have HM := Lib.hid hm
  have HN := Lib.hid hn
  clear h hm hn
  go_enter Try.func75, Try.ntmps75
  go_wp2_with (at_make; refine wpList_makeN ft fw (z0 := e0) rfl _ rfl _ _ rfl w.heap.size .i64 .i64 _ _ m rfl rfl rfl rfl hs (Nat.le_refl _) ?_; intro w1 hown1 hg1)
  have HO1 := Lib.hid (nest_new hown1)
  have hb1 : Below w.heap.size w w1 := (Below.refl _ _).grown hg1 (Nat.le_refl _) (by simp)
  have HB1 := Lib.hid hb1
  clear hown1 hg1 hb1
  go_loopw [4] (fun i wr => ∃ j : Nat, j ≤ m ∧ i = .int .i64 j ∧ (∃ ys : List El, Hid (ys.map (·.r) = (xs.map (·.r)).take j ++ List.replicate (m - j) r0) ∧ Hid (Nest wr w.heap.size wr.heap.size (.slice (some ⟨w.heap.size, 0, none⟩) m m) ys)) ∧ Hid (Below w.heap.size w wr)) (fun i _ => m - (intOf i).toNat)
  case atStart => exact ⟨0, Nat.zero_le _, rfl, ⟨_, Lib.hid (by simp [e0, r0]), HO1⟩, HB1⟩
  case round =>
    obtain ⟨j, hj, rfl, ⟨ys, HY, hown⟩, hbel⟩ := hrel
    have hyl : ys.length = m := by have := congrArg List.length HY.out; simp [HM.out] at this; omega
    by_cases hlt : j < m
    · have hr := KK.out.on hbel.out
      have hjx : j < xs.length := by rw [HM.out]; exact hlt
      obtain ⟨g, o, rfl, hgl, q0, q1, q2, q3, q4, q5, q6⟩ := read hr.out j hjx
      have hri := Lib.hid (hr.inn j hjx)
      have hni := Lib.hid (HN.out j hjx)
      have HXR := Lib.hid (show (xs.map (·.r))[j]'(by simpa using hjx) = xs[j].r by simp)
      obtain ⟨x, hx⟩ : ∃ x, xs[j]'hjx = x := ⟨_, rfl⟩
      rw [hx] at q0 q1 q2 q3 q4 q5 q6 hri hni HXR
      have b1 : (0 : Int) ≤ (j : Int) := by omega
      have b2 : (j : Int) < (m : Int) := by omega
      have HYL := Lib.hid hyl
      clear hr hx hyl
      go_wp2_with fail
      refine (to1 x _ hni.out hri.out).mono ?_
      rintro e w2 ⟨p', c', rfl, ho, hb2⟩
      have hown2 := (hown.out.on hb2).up hb2.size (Nat.le_refl _)
      have HB2 := Lib.hid (BelowKit.bl_trans hbel.out hb2)
      have hx2 : Own.Ow TNode.fc 6 TNode.T w2 w.heap.size w2.heap.size (sl ⟨x.r, p', c'⟩) x.r.Nodes := ho.base hbel.out.size
      have hlow := ho.own.low
      obtain ⟨g', e', _, hlt', p0, p1, p2, p3, p4, p5, p6, z0, z1, z2, z3, z4, z5, z6⟩ := own hown2.out.own j (by rw [HYL.out]; exact hlt)
      cases e'
      generalize (ys[j]'(by rw [HYL.out]; exact hlt)) = y at p0 p1 p2 p3 p4 p5 p6
      have R := Lib.hid (Nest.put hown2 j (by rw [HYL.out]; exact hlt) ⟨x.r, p', c'⟩ hx2
        (fun k hk e => by have := hlow k hk; have := hown.out.out.top w.heap.size rfl; omega)
        (fun k hk i hi e => by have := hlow k hk; have := (hown.out.inn i hi).top k e; omega))
      clear hown hown2 hb2 hbel hx2 hlow ho hri hni q0 q1 q2 q3 q4 q5 q6
      unfold fv
      go_wp2
      go_roundw
      case rel =>
        refine ⟨j + 1, by omega, by go_num, ⟨ys.set j ⟨x.r, p', c'⟩, Lib.hid ?_, ?_⟩, Lib.hid (below HB2.out (Nat.le_refl _))⟩
        · rw [List.map_set, HY.out]
          have E := copy_set (xs.map (·.r)) j (by simpa [HM.out] using hlt)
          rw [HXR.out, List.length_map, HM.out] at E
          exact E
        · have hsz : ∀ (W : World) (a : Addr) (u : Value), (W.setCell a u).heap.size = W.heap.size := fun W a u => by simp
          simp only [hsz]
          exact R
      case measure => simp [intOf]; omega
    · obtain rfl : j = m := by omega
      go_wp2
      go_ret
      have E := HY.out
      rw [Nat.sub_self, List.replicate_zero, List.append_nil, List.take_of_length_le (by rw [List.length_map, HM.out]; exact Nat.le_refl _)] at E
      refine ⟨some ⟨w.heap.size, 0, none⟩, j, ?_, ⟨ys, E, ?_⟩, hbel.out⟩
      · rw [List.length_map, HM.out]; rfl
      · rw [List.length_map, HM.out]; exact hown.out
set_option maxHeartbeats 2000000 in
theorem eq1 (x y : El) (w : World) (he : x.r = y.r) (hs : x.r.Nodes.length ≤ 1099511627776) (h1 : Reads TNode.fc 6 w x.p x.r.Nodes) (h2 : Reads TNode.fc 6 w y.p y.r.Nodes) : Calls Try.prog 32 #[fv x, fv y] w (IsBo true w) := by
  obtain ⟨⟨x0, x1, x2, x3, x4, x5, l⟩, p, c⟩ := x
  obtain ⟨r, p2, c2⟩ := y
  change (⟨x0, x1, x2, x3, x4, x5, l⟩ : Ru) = r at he
  subst he
  have K1 := Lib.hid (show Reads TNode.fc 6 w p l from h1)
  have K2 := Lib.hid (show Reads TNode.fc 6 w p2 l from h2)
  clear h1 h2
  obtain ⟨m, hm⟩ : ∃ m, l.length = m := ⟨_, rfl⟩
  have HM := Lib.hid hm
  have hs' : m ≤ 1099511627776 := by rw [← hm]; exact hs
  show Calls Try.prog 32 #[.agg #[.int .i64 x0, .int .i64 x1, .int .i64 x2, .int .i64 x3, .int .i64 x4, .int .i64 x5, .slice p l.length c], .agg #[.int .i64 x0, .int .i64 x1, .int .i64 x2, .int .i64 x3, .int .i64 x4, .int .i64 x5, .slice p2 l.length c2]] w (IsBo true w)
  rw [hm]
  clear hs hm
  go_enter Try.func32, Try.ntmps32
  go_wp2_with fail
  refine (TNode.eq_c _ m c c2 p p2 l HM.out hs' (K1.out.on (by (repeat (first | exact Below.refl _ _ | apply BelowKit.bl_alloc | apply BelowKit.bl_drewN | apply BelowKit.bl_drew | (refine BelowKit.bl_set ?_ _ ?_; rotate_left; (first | omega | (simp; omega) | simp)) | (refine BelowKit.bl_trans ?_ (‹Hid (Below _ _ _)›).out))))) (K2.out.on (by (repeat (first | exact Below.refl _ _ | apply BelowKit.bl_alloc | apply BelowKit.bl_drewN | apply BelowKit.bl_drew | (refine BelowKit.bl_set ?_ _ ?_; rotate_left; (first | omega | (simp; omega) | simp)) | (refine BelowKit.bl_trans ?_ (‹Hid (Below _ _ _)›).out)))))).mono ?_
  rintro e w1 ⟨rfl, hb⟩
  have HB := Lib.hid (show Below w.heap.size w w1 from BelowKit.bl_trans (by (repeat (first | exact Below.refl _ _ | apply BelowKit.bl_alloc | apply BelowKit.bl_drewN | apply BelowKit.bl_drew | (refine BelowKit.bl_set ?_ _ ?_; rotate_left; (first | omega | (simp; omega) | simp)) | (refine BelowKit.bl_trans ?_ (‹Hid (Below _ _ _)›).out)))) hb)
  clear hb
  go_wp2
  go_ret
  exact ⟨rfl, by (repeat (first | exact Below.refl _ _ | apply BelowKit.bl_alloc | apply BelowKit.bl_drewN | apply BelowKit.bl_drew | (refine BelowKit.bl_set ?_ _ ?_; rotate_left; (first | omega | (simp; omega) | simp)) | (refine BelowKit.bl_trans ?_ (‹Hid (Below _ _ _)›).out)))⟩
set_option maxHeartbeats 2000000 in
theorem eq_c (w : World) (m c1 c2 : Nat) (a1 a2 : Option Addr) (rs : List Ru) (hm : rs.length = m) (hs : m ≤ 1099511627776) (hn : ∀ j (h : j < rs.length), rs[j].Nodes.length ≤ 1099511627776) (h1 : RdD w a1 rs) (h2 : RdD w a2 rs) :
    Calls Try.prog 76 #[.slice a1 m c1, .slice a2 m c2] w (IsBo true w) := by
  obtain ⟨xs, ex, h1⟩ := h1
  obtain ⟨ys, ey, h2⟩ := h2
  have K1 := Lib.hid h1
  have K2 := Lib.hid h2
  have HX := Lib.hid ex
  have HY := Lib.hid ey
  have HN := Lib.hid hn
  have lx := Lib.hid (show xs.length = m by rw [← hm, ← ex, List.length_map])
  have ly := Lib.hid (show ys.length = m by rw [← hm, ← ey, List.length_map])
  have HM := Lib.hid hm
  clear h1 h2 hm ex ey hn
  go_enter Try.func76, Try.ntmps76
  go_wp2
  go_loopw [5] (fun i wr => ∃ k : Nat, k ≤ m ∧ i = .int .i64 k ∧ Hid (Below w.heap.size w wr)) (fun i _ => m - (intOf i).toNat)
  case atStart => exact ⟨0, Nat.zero_le _, rfl, Lib.hid (Below.refl _ _)⟩
  case round =>
    obtain ⟨k, hk, rfl, hbel⟩ := hrel
    by_cases hlt : k < m
    · have R1 := K1.out.on hbel.out
      have R2 := K2.out.on hbel.out
      have hkx : k < xs.length := by rw [lx.out]; exact hlt
      have hky : k < ys.length := by rw [ly.out]; exact hlt
      have hkr : k < rs.length := by rw [HM.out]; exact hlt
      obtain ⟨g1, o1, rfl, hg1, q0, q1, q2, q3, q4, q5, q6⟩ := read R1.out k hkx
      obtain ⟨g2, o2, rfl, hg2, p0, p1, p2, p3, p4, p5, p6⟩ := read R2.out k hky
      have e1 : xs[k].r = rs[k] := by have := HX.out; subst this; simp
      have e2 : ys[k].r = rs[k] := by have := HY.out; subst this; simp
      have I1 := Lib.hid (R1.inn k hkx)
      have I2 := Lib.hid (R2.inn k hky)
      have HE := Lib.hid (e1.trans e2.symm)
      have HL := Lib.hid (show xs[k].r.Nodes.length ≤ 1099511627776 by rw [e1]; exact HN.out k hkr)
      obtain ⟨x, hx⟩ : ∃ x, xs[k]'hkx = x := ⟨_, rfl⟩
      obtain ⟨y, hy⟩ : ∃ y, ys[k]'hky = y := ⟨_, rfl⟩
      rw [hx] at q0 q1 q2 q3 q4 q5 q6 I1 HE HL
      rw [hy] at p0 p1 p2 p3 p4 p5 p6 I2 HE
      have b0 : (0 : Int) ≤ (k : Int) := by omega
      have b1 : (k : Int) < (m : Int) := by omega
      clear R1 R2 hx hy e1 e2 hkx hky hkr
      have HEQ := Lib.hid (eq1 x y wr.drew HE.out HL.out I1.out I2.out)
      clear I1 I2 HE HL
      unfold fv at HEQ
      go_wp2_with fail
      go_region_with (go_at_call 32; (with_reducible refine HEQ.out.mono ?_); rintro e w4 ⟨rfl, hb4⟩; have HB4 := Lib.hid hb4; clear hb4)
      all_goals
        go_wp2
        go_roundw
        · exact ⟨k + 1, by omega, by go_num, Lib.hid (hbel.out.trans (((below_drewN (Below.refl wr.heap.size wr) 1).trans HB4.out).mono hbel.out.size))⟩
        · simp [intOf]; omega
    · go_wp2
      go_ret
      exact ⟨rfl, hbel.out⟩

def mkR (k : Int) (r : Ru) : Ru := ⟨k, k + 1, k + 2, k + 3, k + 4, k + 5, TNode.marks (k + 6) r.Nodes.length⟩
def wid (r : Ru) : Int := 6 + 6 * (r.Nodes.length : Int)
def tot (rs : List Ru) : Int := (rs.map wid).sum
def marks : Int → List Ru → List Ru
  | _, [] => []
  | k, r :: rs => mkR k r :: marks (k + wid r) rs
theorem marks_len : ∀ (k : Int) (rs : List Ru), (marks k rs).length = rs.length
  | _, [] => rfl
  | k, r :: rs => by rw [marks, List.length_cons, marks_len, List.length_cons]
theorem tot_cons (r : Ru) (rs : List Ru) : tot (r :: rs) = wid r + tot rs := by simp [tot]
theorem tot_snoc (rs : List Ru) (r : Ru) : tot (rs ++ [r]) = tot rs + wid r := by simp [tot]
theorem tot_app (a b : List Ru) : tot (a ++ b) = tot a + tot b := by simp [tot]
theorem wid_pos (r : Ru) : 6 ≤ wid r := by unfold wid; omega
theorem tot_pos : ∀ rs : List Ru, 0 ≤ tot rs
  | [] => by simp [tot]
  | r :: rs => by rw [tot_cons]; have := wid_pos r; have := tot_pos rs; omega
theorem marks_snoc : ∀ (rs : List Ru) (k : Int) (r : Ru), marks k (rs ++ [r]) = marks k rs ++ [mkR (k + tot rs) r]
  | [], k, r => by simp [marks, tot]
  | x :: rs, k, r => by
    rw [List.cons_append, marks, marks, List.cons_append, marks_snoc rs, tot_cons, show k + wid x + tot rs = k + (wid x + tot rs) by omega]
theorem marks_app : ∀ (a b : List Ru) (k : Int), marks k (a ++ b) = marks k a ++ marks (k + tot a) b
  | [], b, k => by simp [marks, tot]
  | x :: a, b, k => by rw [List.cons_append, marks, marks, List.cons_append, marks_app a, tot_cons, show k + wid x + tot a = k + (wid x + tot a) by omega]
def markTo (rs : List Ru) (k : Int) (j : Nat) : List Ru := marks k (rs.take j) ++ rs.drop j
theorem markTo_zero (rs : List Ru) (k : Int) : markTo rs k 0 = rs := by simp [markTo, marks]
theorem markTo_all (rs : List Ru) (k : Int) : markTo rs k rs.length = marks k rs := by simp [markTo]
theorem markTo_len (rs : List Ru) (k : Int) (j : Nat) (h : j ≤ rs.length) : (markTo rs k j).length = rs.length := by simp [markTo, marks_len]; omega
theorem markTo_get (rs : List Ru) (k : Int) (j : Nat) (h : j < rs.length) : (markTo rs k j)[j]? = some rs[j] := by
  unfold markTo
  have e : (marks k (rs.take j)).length = j := by rw [marks_len]; simp; omega
  rw [List.getElem?_append_right (by omega), e, Nat.sub_self]
  simp [h]
theorem markTo_set (rs : List Ru) (k : Int) (j : Nat) (h : j < rs.length) : (markTo rs k j).set j (mkR (k + tot (rs.take j)) rs[j]) = markTo rs k (j + 1) := by
  unfold markTo
  have e : (marks k (rs.take j)).length = j := by rw [marks_len]; simp; omega
  rw [List.set_append_right _ _ (by omega), e, Nat.sub_self, List.drop_eq_getElem_cons h, List.set_cons_zero, List.take_succ_eq_append_getElem h, marks_snoc, List.append_assoc]
  rfl
theorem tot_take (rs : List Ru) (j : Nat) (h : j < rs.length) : tot (rs.take (j + 1)) = tot (rs.take j) + wid rs[j] := by rw [List.take_succ_eq_append_getElem h, tot_snoc]
theorem tot_le (rs : List Ru) (j : Nat) : tot (rs.take j) ≤ tot rs := by
  have := tot_app (rs.take j) (rs.drop j)
  rw [List.take_append_drop] at this
  have := tot_pos (rs.drop j)
  omega
theorem flat_same {α : Type} {f : α → List Value} (l : List α) (j : Nat) (h : j < l.length) (x : α) (e : f x = f l[j]) : (l.set j x).flatMap f = l.flatMap f := by
  rw [List.flatMap_def, List.flatMap_def, List.map_set, e]
  have : (l.map f).set j (f l[j]) = l.map f := by
    apply List.ext_getElem (by simp)
    intro i h1 h2
    by_cases q : j = i
    · subst q; simp
    · rw [List.getElem_set_ne q]
  rw [this]
/-- The nodes of an element are written over. -/
theorem Nest.inner {w w' : World} {lo hi : Nat} {v : Value} {xs : List El} (h : Nest w lo hi v xs) (j : Nat) (hj : j < xs.length) (ns : List TNode.El) (hn : ns.length = xs[j].r.Nodes.length)
    (ho : Owns TNode.fc 6 w' lo TNode.T (sl xs[j]) ns) (hg : w.grownBy w' (sl xs[j]).ownBlock) :
    Nest w' lo hi v (xs.set j ⟨⟨xs[j].r.Name, xs[j].r.From, xs[j].r.To, xs[j].r.Joined, xs[j].r.Rank, xs[j].r.Mode, ns⟩, xs[j].p, xs[j].c⟩) := by
  have ne : ∀ {u : Value}, (∀ k, (sl xs[j]).ownBlock = some k → u.ownBlock ≠ some k) → u.ownBlock = none ∨ u.ownBlock ≠ (sl xs[j]).ownBlock := fun {u} hu => by
    cases e : u.ownBlock with
    | none => exact .inl rfl
    | some q => exact .inr fun e2 => hu q e2.symm e
  have he : ∀ i (hi : i < (xs.set j ⟨⟨xs[j].r.Name, xs[j].r.From, xs[j].r.To, xs[j].r.Joined, xs[j].r.Rank, xs[j].r.Mode, ns⟩, xs[j].p, xs[j].c⟩).length), sl (xs.set j ⟨⟨xs[j].r.Name, xs[j].r.From, xs[j].r.To, xs[j].r.Joined, xs[j].r.Rank, xs[j].r.Mode, ns⟩, xs[j].p, xs[j].c⟩)[i] = sl (xs[i]'(by simpa using hi)) := fun i hi => by
    by_cases e : j = i
    · subst e
      rw [List.getElem_set_self]
      unfold sl
      rw [hn]
    · rw [List.getElem_set_ne e]
  have hsz := hg.size
  refine ⟨⟨?_, h.out.top, Nat.le_trans h.out.lim hsz⟩, fun i hi => ?_, fun i hi k hk => ?_, fun i i' hi hi' k hne hk => ?_⟩
  · have q := h.out.own.kept hg (ne fun k hk => h.apart j hj k hk)
    unfold Owns at q ⊢
    rw [List.length_set, flat_same xs j hj _ (by simp only [fc]; rw [hn])]
    exact q
  · rw [he i hi]
    have hi2 : i < xs.length := by simpa using hi
    by_cases e : j = i
    · subst e
      rw [List.getElem_set_self]
      exact ⟨ho, (h.inn j hj).top, Nat.le_trans (h.inn j hj).lim hsz⟩
    · rw [List.getElem_set_ne e]
      have q := h.inn i hi2
      exact ⟨q.own.kept hg (ne fun k hk => h.sep j i hj hi2 k e hk), q.top, Nat.le_trans q.lim hsz⟩
  · rw [he i hi] at hk
    exact h.apart i (by simpa using hi) k hk
  · rw [he i hi] at hk
    rw [he i' hi']
    exact h.sep i i' (by simpa using hi) (by simpa using hi') k hne hk

def Marked (lo hi : Nat) (v : Value) (rs : List Ru) (x : Int) (w : World) (e : Ending) (w' : World) : Prop := e = .returned (.int .i64 x) ∧ OwD w' lo hi v rs ∧ Own.Mid lo hi w w'
theorem mid_set {lo hi g o : Nat} {w w' : World} {v : Value} (h : Own.Mid lo hi w w') (h1 : lo ≤ g) (h2 : g < hi) : Own.Mid lo hi w (w'.setCell ⟨g, o, none⟩ v) :=
  ⟨h.low.setCell (p := ⟨g, o, none⟩) h1 v, fun b hb hlt => (Below.heap_setCell _ _ _ _ (fun e => by have e2 : b = g := e; omega)).trans (h.heap b hb hlt)⟩
set_option maxHeartbeats 4000000 in
theorem mark_c (w : World) (lo hi : Nat) (a : Option Addr) (m cap : Nat) (rs : List Ru) (k : Int) (hm : rs.length = m) (hs : m ≤ 1099511627776) (hn : ∀ j (h : j < rs.length), rs[j].Nodes.length ≤ 1099511627776) (hk0 : 0 ≤ k) (hk1 : k + tot rs ≤ 1099511627776) (h : OwD w lo hi (.slice a m cap) rs) (hlo : lo ≤ w.heap.size) :
    Calls Try.prog 79 #[.slice a m cap, .int .i64 k] w (Marked lo hi (.slice a m cap) (marks k rs) (k + tot rs) w) := by
  obtain ⟨xs, ex, h0⟩ := h
  have H0 := Lib.hid h0
  have HX0 := Lib.hid ex
  have HM := Lib.hid hm
  have HK1 := Lib.hid hk1
  have HLO := Lib.hid hlo
  have HN := Lib.hid hn
  clear hm h0 ex hk1 hlo hn
  go_enter Try.func79, Try.ntmps79
  go_wp2
  go_loopw [1, 5] (fun q i wr => ∃ j : Nat, j ≤ m ∧ i = .int .i64 j ∧ q = .int .i64 (k + tot (rs.take j)) ∧ (∃ ys : List El, Hid (ys.map (·.r) = markTo rs k j) ∧ Hid (Nest wr lo hi (.slice a m cap) ys)) ∧ Hid (Own.Mid lo hi w wr)) (fun _ i _ => m - (intOf i).toNat)
  case atStart => exact ⟨0, Nat.zero_le _, rfl, by simp [tot], ⟨xs, Lib.hid (by rw [markTo_zero]; exact HX0.out), H0⟩, Lib.hid (Own.Mid.of_below (Below.refl _ _) HLO.out)⟩
  case round =>
    obtain ⟨j, hj, rfl, rfl, ⟨ys, HY, hown⟩, hmid⟩ := hrel
    by_cases hlt : j < m
    · have hjr : j < rs.length := by rw [HM.out]; exact hlt
      have hjy : j < ys.length := by have := congrArg List.length HY.out; rw [List.length_map, markTo_len _ _ _ (by omega)] at this; omega
      have hyr : ys[j].r = rs[j] := by
        have e := markTo_get rs k j hjr
        rw [← HY.out, List.getElem?_map, List.getElem?_eq_getElem hjy] at e
        exact Option.some.inj e
      obtain ⟨g, rfl, hBg, hgl, q0, q1, q2, q3, q4, q5, q6, z0, z1, z2, z3, z4, z5, z6⟩ := own hown.out.out.own j hjy
      have hgt : g < hi := hown.out.out.top g rfl
      have htk := tot_take rs j hjr
      have htl := tot_le rs (j + 1)
      have htp := tot_pos (rs.take j)
      have HSET := Lib.hid (markTo_set rs k j hjr)
      rw [← hyr] at htk HSET
      have HNL := Lib.hid (show ys[j].r.Nodes.length ≤ 1099511627776 by rw [hyr]; exact HN.out j hjr)
      have HP := Lib.hid (fun (y0 y1 y2 y3 y4 y5 : Int) => Nest.put6 hown.out j hjy y0 y1 y2 y3 y4 y5)
      obtain ⟨n, hn⟩ : ∃ n, ys[j].r.Nodes.length = n := ⟨_, rfl⟩
      have HNN := Lib.hid hn
      obtain ⟨p, hp⟩ : ∃ p, ys[j].p = p := ⟨_, rfl⟩
      have HPP := Lib.hid hp
      obtain ⟨c, hc⟩ : ∃ c, ys[j].c = c := ⟨_, rfl⟩
      have HCC := Lib.hid hc
      rw [hn, hp, hc] at q6
      rw [hn] at HNL
      generalize ys[j].r.Name = o0 at q0
      generalize ys[j].r.From = o1 at q1
      generalize ys[j].r.To = o2 at q2
      generalize ys[j].r.Joined = o3 at q3
      generalize ys[j].r.Rank = o4 at q4
      generalize ys[j].r.Mode = o5 at q5
      have b1 : (0 : Int) ≤ (j : Int) := by omega
      have b2 : (j : Int) < (m : Int) := by omega
      have HG := Lib.hid (And.intro hBg hgt)
      have hk1 := HK1.out
      obtain ⟨k0, hk0'⟩ : ∃ k0, k + tot (rs.take j) = k0 := ⟨_, rfl⟩
      have K0 : 0 ≤ k0 ∧ k0 ≤ 1099511627770 := by unfold wid at htk; omega
      rw [hk0'] at HSET ⊢
      have HK := Lib.hid hk0'
      have HTK := Lib.hid htk
      clear hk0' hn hp hc htk htl htp hyr hk1
      go_wp2_with fail
      have P6 := HP.out (k0) (k0 + 1) (k0 + 1 + 1) (k0 + 1 + 1 + 1) (k0 + 1 + 1 + 1 + 1) (k0 + 1 + 1 + 1 + 1 + 1)
      have M6 : Own.Mid lo hi w ((((((wr.setCell ⟨g, j * 7, none⟩ (.int .i64 (k0))).setCell ⟨g, j * 7 + 1, none⟩ (.int .i64 (k0 + 1))).setCell ⟨g, j * 7 + 2, none⟩ (.int .i64 (k0 + 1 + 1))).setCell ⟨g, j * 7 + 3, none⟩ (.int .i64 (k0 + 1 + 1 + 1))).setCell ⟨g, j * 7 + 4, none⟩ (.int .i64 (k0 + 1 + 1 + 1 + 1))).setCell ⟨g, j * 7 + 5, none⟩ (.int .i64 (k0 + 1 + 1 + 1 + 1 + 1))) := mid_set (mid_set (mid_set (mid_set (mid_set (mid_set (hmid.out) HG.out.1 HG.out.2) HG.out.1 HG.out.2) HG.out.1 HG.out.2) HG.out.1 HG.out.2) HG.out.1 HG.out.2) HG.out.1 HG.out.2
      obtain ⟨W6, hW6⟩ : ∃ W, ((((((wr.setCell ⟨g, j * 7, none⟩ (.int .i64 (k0))).setCell ⟨g, j * 7 + 1, none⟩ (.int .i64 (k0 + 1))).setCell ⟨g, j * 7 + 2, none⟩ (.int .i64 (k0 + 1 + 1))).setCell ⟨g, j * 7 + 3, none⟩ (.int .i64 (k0 + 1 + 1 + 1))).setCell ⟨g, j * 7 + 4, none⟩ (.int .i64 (k0 + 1 + 1 + 1 + 1))).setCell ⟨g, j * 7 + 5, none⟩ (.int .i64 (k0 + 1 + 1 + 1 + 1 + 1))) = W := ⟨_, rfl⟩
      rw [hW6] at P6 M6 ⊢
      obtain ⟨X, hX⟩ : ∃ X : El, (⟨⟨k0, k0 + 1, k0 + 1 + 1, k0 + 1 + 1 + 1, k0 + 1 + 1 + 1 + 1, k0 + 1 + 1 + 1 + 1 + 1, ys[j].r.Nodes⟩, ys[j].p, ys[j].c⟩ : El) = X := ⟨_, rfl⟩
      rw [hX] at P6
      have hj6 : j < (ys.set j X).length := by simpa using hjy
      have hXj : (ys.set j X)[j]'hj6 = X := List.getElem_set_self hj6
      have eX : sl X = .slice p n c := by
        rw [← hX]
        show Value.slice ys[j].p ys[j].r.Nodes.length ys[j].c = _
        rw [HNN.out, HPP.out, HCC.out]
      have lX : X.r.Nodes.length = n := by rw [← hX]; exact HNN.out
      have I6 : Owns TNode.fc 6 W6 lo TNode.T (.slice p n c) X.r.Nodes := by
        have := (P6.inn j hj6).own
        rw [hXj, eX] at this
        exact this
      have HP6 := Lib.hid P6
      have HM6 := Lib.hid M6
      have HXJ := Lib.hid hXj
      have HXX := Lib.hid hX
      clear hW6 P6 M6 HP hX hXj q0 q1 q2 q3 q4 q5 q6 z0 z1 z2 z3 z4 z5 z6 hgl
      refine (TNode.mark_o W6 lo p n c X.r.Nodes (k0 + 1 + 1 + 1 + 1 + 1 + 1) lX HNL.out (by omega) (by omega) I6).mono ?_
      rintro e w7 ⟨rfl, ho, hg⟩
      have P7 := HP6.out.inner j hj6 (TNode.marks (k0 + 1 + 1 + 1 + 1 + 1 + 1) n) (by rw [TNode.marks_len, HXJ.out, lX]) (by rw [HXJ.out, eX]; exact ho) (by rw [HXJ.out, eX]; exact hg)
      have M7 := Lib.hid (HM6.out.trans (Own.Mid.of_grown hg (fun q hq => by have h1 := HP6.out.inn j hj6; rw [HXJ.out, eX] at h1; exact ⟨h1.own.low q hq, h1.top q hq⟩) (Nat.le_trans HLO.out HM6.out.low.size)))
      rw [HXJ.out, List.set_set] at P7
      have hmk : (⟨X.r.Name, X.r.From, X.r.To, X.r.Joined, X.r.Rank, X.r.Mode, TNode.marks (k0 + 1 + 1 + 1 + 1 + 1 + 1) n⟩ : Ru) = mkR k0 ys[j].r := by
        rw [← HXX.out]
        unfold mkR
        rw [HNN.out, show k0 + 1 + 1 = k0 + 2 by omega, show k0 + 2 + 1 = k0 + 3 by omega, show k0 + 3 + 1 = k0 + 4 by omega, show k0 + 4 + 1 = k0 + 5 by omega, show k0 + 5 + 1 = k0 + 6 by omega]
      rw [hmk] at P7
      have HP7 := Lib.hid P7
      have HYS := Lib.hid (show (ys.set j ⟨mkR k0 ys[j].r, X.p, X.c⟩).map (·.r) = markTo rs k (j + 1) by rw [List.map_set, HY.out]; exact HSET.out)
      have HKK := Lib.hid (show k0 + 1 + 1 + 1 + 1 + 1 + 1 + 6 * (n : Int) = k + tot (rs.take (j + 1)) by have := HTK.out; have := HK.out; unfold wid at *; have := HNN.out; omega)
      clear P7 ho hg hmk I6 HP6 HM6 eX lX
      go_wp2
      go_roundw
      case rel => exact ⟨j + 1, by omega, by go_num, congrArg (Value.int .i64) HKK.out, ⟨_, HYS, HP7⟩, M7⟩
      case measure => simp [intOf]; omega
    · obtain rfl : j = m := by omega
      go_wp2
      go_ret
      have e := markTo_all rs k
      rw [HM.out] at e
      have e2 : rs.take j = rs := List.take_of_length_le (by rw [HM.out]; exact Nat.le_refl _)
      refine ⟨?_, ⟨ys, HY.out.trans e, hown.out⟩, hmid.out⟩
      rw [e2]
      rfl

set_option maxHeartbeats 2000000 in
theorem mark1 (x : El) (w : World) (lo hi : Nat) (k : Int) (hs : x.r.Nodes.length ≤ 1099511627776) (hk0 : 0 ≤ k) (hk1 : k ≤ 1099511627776) (h : Own.Ow TNode.fc 6 TNode.T w lo hi (sl x) x.r.Nodes) (hlo : lo ≤ w.heap.size) :
    Calls Try.prog 39 #[fv x, .int .i64 k] w (TNode.Marked lo hi (sl x) (TNode.marks k x.r.Nodes.length) (k + 6 * (x.r.Nodes.length : Int)) w) := by
  obtain ⟨⟨x0, x1, x2, x3, x4, x5, l⟩, p, c⟩ := x
  obtain ⟨m, hm⟩ : ∃ m, l.length = m := ⟨_, rfl⟩
  have HM := Lib.hid hm
  have hs' : m ≤ 1099511627776 := by rw [← hm]; exact hs
  have H0 := Lib.hid (show Own.Ow TNode.fc 6 TNode.T w lo hi (.slice p m c) l by rw [← hm]; exact h)
  have HLO := Lib.hid hlo
  show Calls Try.prog 39 #[.agg #[.int .i64 x0, .int .i64 x1, .int .i64 x2, .int .i64 x3, .int .i64 x4, .int .i64 x5, .slice p l.length c], .int .i64 k] w (TNode.Marked lo hi (.slice p l.length c) (TNode.marks k l.length) (k + 6 * (l.length : Int)) w)
  rw [hm]
  clear hs hm h hlo
  go_enter Try.func39, Try.ntmps39
  go_wp2_with fail
  refine (TNode.mark_c _ lo hi p m c l k HM.out hs' hk0 hk1 (H0.out.on (by (repeat (first | exact Below.refl _ _ | apply BelowKit.bl_alloc | apply BelowKit.bl_drewN | apply BelowKit.bl_drew | (refine BelowKit.bl_set ?_ _ ?_; rotate_left; (first | omega | (simp; omega) | simp)) | (refine BelowKit.bl_trans ?_ (‹Hid (Below _ _ _)›).out))))) (Nat.le_trans HLO.out (by simp))).mono ?_
  rintro e w1 ⟨rfl, ho, hmid⟩
  have HO := Lib.hid ho
  have HMID := Lib.hid hmid
  clear ho hmid
  go_wp2
  go_ret
  exact ⟨rfl, HO.out, (Own.Mid.of_below (by (repeat (first | exact Below.refl _ _ | apply BelowKit.bl_alloc | apply BelowKit.bl_drewN | apply BelowKit.bl_drew | (refine BelowKit.bl_set ?_ _ ?_; rotate_left; (first | omega | (simp; omega) | simp)) | (refine BelowKit.bl_trans ?_ (‹Hid (Below _ _ _)›).out)))) HLO.out).trans HMID.out⟩
set_option maxHeartbeats 4000000 in
theorem held_c (w : World) (a : Option Addr) (m cap : Nat) (rs : List Ru) (k : Int) (hm : rs.length = m) (hs : m ≤ 1099511627776) (hn : ∀ j (h : j < rs.length), rs[j].Nodes.length ≤ 1099511627776) (hk0 : 0 ≤ k) (hk1 : k + tot rs ≤ 1099511627776) (h : RdD w a (marks k rs)) :
    Calls Try.prog 81 #[.slice a m cap, .int .i64 k] w (fun e w' => e = .returned (.int .i64 (k + tot rs)) ∧ Below w.heap.size w w') := by
  obtain ⟨xs, ex, h0⟩ := h
  have KK := Lib.hid h0
  have HX := Lib.hid ex
  have HM := Lib.hid hm
  have HN := Lib.hid hn
  have HK1 := Lib.hid hk1
  clear h0 ex hm hn hk1
  go_enter Try.func81, Try.ntmps81
  go_wp2
  go_loopw [1, 5] (fun q i wr => ∃ j : Nat, j ≤ m ∧ i = .int .i64 j ∧ q = .int .i64 (k + tot (rs.take j)) ∧ Hid (Below w.heap.size w wr)) (fun _ i _ => m - (intOf i).toNat)
  case atStart => exact ⟨0, Nat.zero_le _, rfl, by simp [tot], Lib.hid (Below.refl _ _)⟩
  case round =>
    obtain ⟨j, hj, rfl, rfl, hbel⟩ := hrel
    by_cases hlt : j < m
    · have hjr : j < rs.length := by rw [HM.out]; exact hlt
      have hjx : j < xs.length := by have := congrArg List.length HX.out; rw [List.length_map, marks_len] at this; omega
      have hxr : xs[j].r = mkR (k + tot (rs.take j)) rs[j] := by
        have e := congrArg (fun l => l[j]?) HX.out
        simp only [List.getElem?_map, List.getElem?_eq_getElem hjx, Option.map_some] at e
        have e2 : (marks k rs)[j]? = some (mkR (k + tot (rs.take j)) rs[j]) := by
          have e3 : rs = rs.take j ++ (rs[j] :: rs.drop (j + 1)) := by rw [← List.drop_eq_getElem_cons hjr, List.take_append_drop]
          have e4 := markTo_set rs k j hjr
          have e5 : (markTo rs k (j + 1))[j]? = some (mkR (k + tot (rs.take j)) rs[j]) := by
            rw [← e4, List.getElem?_set_self (by rw [markTo_len _ _ _ (by omega)]; exact hjr)]
          have e6 : (marks k rs)[j]? = (markTo rs k (j + 1))[j]? := by
            unfold markTo
            rw [List.getElem?_append_left (by rw [marks_len]; simp; omega)]
            have e7 : marks k rs = marks k (rs.take (j + 1)) ++ marks (k + tot (rs.take (j + 1))) (rs.drop (j + 1)) := by
              rw [← marks_app, List.take_append_drop]
            rw [e7, List.getElem?_append_left (by rw [marks_len]; simp; omega)]
          rw [e6, e5]
        rw [e2] at e
        exact Option.some.inj e
      have R1 := KK.out.on hbel.out
      obtain ⟨g, o, rfl, hgl, q0, q1, q2, q3, q4, q5, q6⟩ := read R1.out j hjx
      have I1 := R1.inn j hjx
      have htk := tot_take rs j hjr
      have htl := tot_le rs (j + 1)
      have htp := tot_pos (rs.take j)
      have hl : xs[j].r.Nodes.length = rs[j].Nodes.length := by rw [hxr]; simp [mkR, TNode.marks_len]
      have hnl := HN.out j hjr
      obtain ⟨n, hn⟩ : ∃ n, rs[j].Nodes.length = n := ⟨_, rfl⟩
      rw [hl, hn] at q6
      rw [hn] at hnl
      obtain ⟨p, hp⟩ : ∃ p, xs[j].p = p := ⟨_, rfl⟩
      obtain ⟨c, hc⟩ : ∃ c, xs[j].c = c := ⟨_, rfl⟩
      rw [hp, hc] at q6
      rw [hp] at I1
      rw [hxr] at q0 q1 q2 q3 q4 q5 I1
      unfold mkR at q0 q1 q2 q3 q4 q5 I1
      rw [hn] at I1
      simp only [] at q0 q1 q2 q3 q4 q5 I1
      obtain ⟨k0, hk0'⟩ : ∃ k0, k + tot (rs.take j) = k0 := ⟨_, rfl⟩
      have K0 : 0 ≤ k0 ∧ k0 ≤ 1099511627770 := by have := HK1.out; unfold wid at htk; omega
      rw [hk0'] at q0 q1 q2 q3 q4 q5 I1 ⊢
      rw [show k0 + 2 = k0 + 1 + 1 by omega] at q2
      rw [show k0 + 3 = k0 + 1 + 1 + 1 by omega] at q3
      rw [show k0 + 4 = k0 + 1 + 1 + 1 + 1 by omega] at q4
      rw [show k0 + 5 = k0 + 1 + 1 + 1 + 1 + 1 by omega] at q5
      rw [show k0 + 6 = k0 + 1 + 1 + 1 + 1 + 1 + 1 by omega] at I1
      have b0 : (0 : Int) ≤ (j : Int) := by omega
      have b1 : (j : Int) < (m : Int) := by omega
      have HI := Lib.hid I1
      have HNL := Lib.hid hnl
      have HKK := Lib.hid (show k0 + 1 + 1 + 1 + 1 + 1 + 1 + 6 * (n : Int) = k + tot (rs.take (j + 1)) by unfold wid at htk; omega)
      clear R1 I1 hxr hl hn hp hc hk0' htk htl htp hnl hjx hjr
      go_wp2_with fail
      refine (TNode.held_c _ p n c (k0 + 1 + 1 + 1 + 1 + 1 + 1) HNL.out (by omega) (by omega) (HI.out.on (by (repeat (first | exact Below.refl _ _ | apply BelowKit.bl_alloc | apply BelowKit.bl_drewN | apply BelowKit.bl_drew | (refine BelowKit.bl_set ?_ _ ?_; rotate_left; (first | omega | (simp; omega) | simp)) | (refine BelowKit.bl_trans ?_ (‹Hid (Below _ _ _)›).out)))))).mono ?_
      rintro e w1 ⟨rfl, hb⟩
      have HB := Lib.hid (show Below w.heap.size w w1 from BelowKit.bl_trans (BelowKit.bl_trans hbel.out (by (repeat (first | exact Below.refl _ _ | apply BelowKit.bl_alloc | apply BelowKit.bl_drewN | apply BelowKit.bl_drew | (refine BelowKit.bl_set ?_ _ ?_; rotate_left; (first | omega | (simp; omega) | simp)) | (refine BelowKit.bl_trans ?_ (‹Hid (Below _ _ _)›).out))))) hb)
      clear hb
      go_wp2
      go_roundw
      case rel => exact ⟨j + 1, by omega, by go_num, congrArg (Value.int .i64) HKK.out, HB⟩
      case measure => simp [intOf]; omega
    · obtain rfl : j = m := by omega
      go_wp2
      go_ret
      have e2 : rs.take j = rs := List.take_of_length_le (by rw [HM.out]; exact Nat.le_refl _)
      rw [e2]
      exact ⟨rfl, hbel.out⟩
theorem sz1 (x : El) (w : World) (k : Int) (hs : x.r.Nodes.length ≤ 9223372036854775807) (hk0 : 0 ≤ k) (hk1 : k ≤ 1099511627776) :
    Calls Try.prog 28 #[fv x, .int .i64 k] w (fun e w' => e = .returned (.int .i64 (if k < (x.r.Nodes.length : Int) then -1 else k - (x.r.Nodes.length : Int))) ∧ Below w.heap.size w w') := by
  obtain ⟨⟨x0, x1, x2, x3, x4, x5, l⟩, p, c⟩ := x
  obtain ⟨m, hm⟩ : ∃ m, l.length = m := ⟨_, rfl⟩
  have hs' : m ≤ 9223372036854775807 := by rw [← hm]; exact hs
  show Calls Try.prog 28 #[.agg #[.int .i64 x0, .int .i64 x1, .int .i64 x2, .int .i64 x3, .int .i64 x4, .int .i64 x5, .slice p l.length c], .int .i64 k] w (fun e w' => e = .returned (.int .i64 (if k < (l.length : Int) then -1 else k - (l.length : Int))) ∧ Below w.heap.size w w')
  rw [hm]
  clear hs hm
  by_cases hb : k < (m : Int)
  · rw [if_pos hb]
    have HB := Lib.hid hb
    go_enter Try.func28, Try.ntmps28
    go_wp2_with fail
    refine (TNode.sz_c _ p m c k hs' hk0 hk1).mono ?_
    rintro e w1 ⟨rfl, hb1⟩
    have HB1 := Lib.hid hb1
    clear hb1
    rw [if_pos HB.out]
    go_wp2
    go_ret
    exact ⟨rfl, by (repeat (first | exact Below.refl _ _ | apply BelowKit.bl_alloc | apply BelowKit.bl_drewN | apply BelowKit.bl_drew | (refine BelowKit.bl_set ?_ _ ?_; rotate_left; (first | omega | (simp; omega) | simp)) | (refine BelowKit.bl_trans ?_ (‹Hid (Below _ _ _)›).out)))⟩
  · rw [if_neg hb]
    have HB := Lib.hid hb
    go_enter Try.func28, Try.ntmps28
    go_wp2_with fail
    refine (TNode.sz_c _ p m c k hs' hk0 hk1).mono ?_
    rintro e w1 ⟨rfl, hb1⟩
    have HB1 := Lib.hid hb1
    clear hb1
    rw [if_neg (by have := HB.out; omega)]
    go_wp2
    go_ret
    exact ⟨rfl, by (repeat (first | exact Below.refl _ _ | apply BelowKit.bl_alloc | apply BelowKit.bl_drewN | apply BelowKit.bl_drew | (refine BelowKit.bl_set ?_ _ ?_; rotate_left; (first | omega | (simp; omega) | simp)) | (refine BelowKit.bl_trans ?_ (‹Hid (Below _ _ _)›).out)))⟩

def nds (rs : List Ru) : Nat := (rs.map fun r => r.Nodes.length).sum
def szT (rs : List Ru) : Int := (rs.length : Int) + (nds rs : Int)
theorem nds_snoc (rs : List Ru) (r : Ru) : nds (rs ++ [r]) = nds rs + r.Nodes.length := by simp [nds]
theorem nds_app (a b : List Ru) : nds (a ++ b) = nds a + nds b := by simp [nds]
theorem nds_take (rs : List Ru) (j : Nat) (h : j < rs.length) : nds (rs.take (j + 1)) = nds (rs.take j) + rs[j].Nodes.length := by rw [List.take_succ_eq_append_getElem h, nds_snoc]
theorem nds_le (rs : List Ru) (j : Nat) : nds (rs.take j) ≤ nds rs := by
  have := nds_app (rs.take j) (rs.drop j)
  rw [List.take_append_drop] at this
  omega
theorem nds_at (rs : List Ru) (j : Nat) (h : j < rs.length) : rs[j].Nodes.length ≤ nds rs := by
  have := nds_take rs j h
  have := nds_le rs (j + 1)
  omega
theorem tot_nds (rs : List Ru) : tot rs = 6 * szT rs := by
  induction rs with
  | nil => rfl
  | cons r rs ih =>
    rw [tot_cons, ih]
    unfold szT nds wid
    simp only [List.map_cons, List.sum_cons, List.length_cons]
    omega
set_option maxHeartbeats 2000000 in
theorem sz_c (w : World) (a : Option Addr) (m cap : Nat) (k : Int) (rs : List Ru) (hm : rs.length = m) (hs : m ≤ 9223372036854775807) (hn : ∀ j (h : j < rs.length), rs[j].Nodes.length ≤ 9223372036854775807) (hk0 : 0 ≤ k) (hk1 : k ≤ 1099511627776) (h : RdD w a rs) :
    Calls Try.prog 73 #[.slice a m cap, .int .i64 k] w (fun e w' => e = .returned (.int .i64 (if k < szT rs then -1 else k - szT rs)) ∧ Below w.heap.size w w') := by
  obtain ⟨xs, ex, h0⟩ := h
  obtain ⟨z, hz⟩ : ∃ z, szT rs = z := ⟨_, rfl⟩
  rw [hz]
  have HZ := Lib.hid hz
  have KK := Lib.hid h0.out
  have HX := Lib.hid ex
  have HM := Lib.hid hm
  have HN := Lib.hid hn
  clear h0 ex hm hn hz
  obtain ⟨R, hR⟩ : ∃ R, (if k < z then (-1 : Int) else k - z) = R := ⟨_, rfl⟩
  rw [hR]
  have HR := Lib.hid hR
  clear hR
  by_cases hb : k < (m : Int)
  · have hz : k < z := by have := HZ.out; unfold szT at this; have := HM.out; omega
    have E := Lib.hid (show R = -1 by rw [← HR.out, if_pos hz])
    clear hz
    go_enter Try.func73, Try.ntmps73
    go_wp2
    go_ret
    rw [E.out]
    exact ⟨rfl, Below.refl _ _⟩
  go_enter Try.func73, Try.ntmps73
  go_wp2
  go_loopw [1, 5] (fun q i wr => ∃ j : Nat, j ≤ m ∧ i = .int .i64 j ∧ (∃ v0 : Int, q = .int .i64 v0 ∧ 0 ≤ v0 ∧ v0 ≤ k ∧ Hid (v0 = k - (m : Int) - (nds (rs.take j) : Int))) ∧ Hid (Below w.heap.size w wr)) (fun _ i _ => m - (intOf i).toNat)
  case atStart => exact ⟨0, Nat.zero_le _, rfl, ⟨k - (m : Int), rfl, by omega, by omega, Lib.hid (by simp [nds])⟩, Lib.hid (Below.refl _ _)⟩
  case round =>
    obtain ⟨j, hj, rfl, ⟨v0, rfl, hq0, hqk, HQ⟩, hbel⟩ := hrel
    by_cases hlt : j < m
    · have hjr : j < rs.length := by rw [HM.out]; exact hlt
      have hjx : j < xs.length := by have := congrArg List.length HX.out; rw [List.length_map] at this; omega
      have hxr : xs[j].r = rs[j] := by have := HX.out; subst this; simp
      obtain ⟨g, o, rfl, hgl, q0, q1, q2, q3, q4, q5, q6⟩ := read (KK.out.on hbel.out) j hjx
      have hnt := nds_take rs j hjr
      have hnl := nds_le rs (j + 1)
      have HN1 := Lib.hid (show xs[j].r.Nodes.length ≤ 9223372036854775807 by rw [hxr]; exact HN.out j hjr)
      rw [← hxr] at hnt
      obtain ⟨x, hx⟩ : ∃ x, xs[j]'hjx = x := ⟨_, rfl⟩
      rw [hx] at q0 q1 q2 q3 q4 q5 q6 HN1 hnt
      have HNT := Lib.hid hnt
      have HNLE := Lib.hid hnl
      have b0 : (0 : Int) ≤ (j : Int) := by omega
      have b1 : (j : Int) < (m : Int) := by omega
      clear hx hxr hnt hnl hjx
      obtain ⟨n, hn⟩ : ∃ n, x.r.Nodes.length = n := ⟨_, rfl⟩
      have HNN := Lib.hid hn
      clear hn
      by_cases hq : v0 < (n : Int)
      · have hz : k < z := by
          have a1 := HZ.out; have a2 := HM.out; have a3 := HQ.out; have a4 := HNT.out; have a5 := HNLE.out; have a6 := HNN.out
          unfold szT at a1
          omega
        have E := Lib.hid (show R = -1 by rw [← HR.out, if_pos hz])
        have HQL := Lib.hid hq
        clear hz hq
        go_wp2_with fail
        refine (sz1 x _ v0 HN1.out hq0 (by omega)).mono ?_
        rintro e w1 ⟨rfl, hb1⟩
        rw [if_pos (by rw [HNN.out]; exact HQL.out)]
        have HB1 := Lib.hid (show Below w.heap.size w w1 from BelowKit.bl_trans (BelowKit.bl_trans hbel.out (by (repeat (first | exact Below.refl _ _ | apply BelowKit.bl_alloc | apply BelowKit.bl_drewN | apply BelowKit.bl_drew | (refine BelowKit.bl_set ?_ _ ?_; rotate_left; (first | omega | (simp; omega) | simp)) | (refine BelowKit.bl_trans ?_ (‹Hid (Below _ _ _)›).out))))) hb1)
        clear hb1
        go_wp2
        go_ret
        rw [E.out]
        exact ⟨rfl, HB1.out⟩
      · have HQL := Lib.hid hq
        clear hq
        go_wp2_with fail
        refine (sz1 x _ v0 HN1.out hq0 (by omega)).mono ?_
        rintro e w1 ⟨rfl, hb1⟩
        rw [if_neg (by rw [HNN.out]; have := HQL.out; omega), HNN.out]
        have HB1 := Lib.hid (show Below w.heap.size w w1 from BelowKit.bl_trans (BelowKit.bl_trans hbel.out (by (repeat (first | exact Below.refl _ _ | apply BelowKit.bl_alloc | apply BelowKit.bl_drewN | apply BelowKit.bl_drew | (refine BelowKit.bl_set ?_ _ ?_; rotate_left; (first | omega | (simp; omega) | simp)) | (refine BelowKit.bl_trans ?_ (‹Hid (Below _ _ _)›).out))))) hb1)
        obtain ⟨v1, hq1⟩ : ∃ v1, v0 - (n : Int) = v1 := ⟨_, rfl⟩
        have q10 : 0 ≤ v1 := by have := HQL.out; omega
        have q1k : v1 ≤ k := by omega
        have HQ1 := Lib.hid (show v1 = k - (m : Int) - (nds (rs.take (j + 1)) : Int) by have := HQ.out; have := HNT.out; have := HNN.out; omega)
        rw [hq1]
        clear hb1 hq1
        go_wp2
        go_roundw
        case rel => exact ⟨j + 1, by omega, by go_num, ⟨v1, rfl, q10, q1k, HQ1⟩, HB1⟩
        case measure => simp [intOf]; omega
    · obtain rfl : j = m := by omega
      have a3 := HQ.out
      rw [List.take_of_length_le (by rw [HM.out]; exact Nat.le_refl _)] at a3
      have a1 := HZ.out
      unfold szT at a1
      rw [HM.out] at a1
      have E := Lib.hid (show R = v0 by rw [← HR.out, if_neg (by omega)]; omega)
      clear a1 a3
      go_wp2
      go_ret
      rw [E.out]
      exact ⟨rfl, hbel.out⟩

end Go.Proofs.Ytkfgflmhefbinaa.TRule
