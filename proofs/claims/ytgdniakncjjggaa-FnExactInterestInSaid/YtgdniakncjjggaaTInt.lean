/- Slices of int in the form of rows of cells: what the exact laws' holes ask. -/
import Derived.Test.YtgdniakncjjggaaRows
import Derived.Test.YtgdniakncjjggaaIntRow
import Derived.Test.YtgdniakncjjggaaRowMark
import Derived.Test.YtgdniakncjjggaaKit
namespace Go.Proofs.Ytgdniakncjjggaa.TInt
open Go.RowKit
def fc (n : Int) : List Value := [.int .i64 n]
def Wf (n : Int) : Prop := (Lit.int .i64 n).wf = true
theorem fw : RowN.Wide fc 1 := ⟨fun _ => rfl, by rintro x v hv; simp only [fc, List.mem_cons, List.not_mem_nil, or_false] at hv; subst hv; rfl, by omega⟩
theorem ft : RowN.ElT Try.prog 24 3 (.int .i64 0) 1 8 := ⟨Try.underlying24, by kernel_rfl, by omega, rfl⟩
open Shape in
theorem cov {w : World} {cs : List Value} (h : FitL w [.int .i64] cs) : ∃ x, cs = fc x ∧ Wf x := by
  obtain ⟨k, _, rfl, w0, h⟩ := fit_int h
  obtain rfl := fit_nil h
  exact ⟨k, rfl, w0⟩
theorem flat (l : List Int) : l.flatMap fc = l.map IntRow.fI := by induction l with | nil => rfl | cons x xs ih => rw [List.flatMap_cons, ih]; rfl
theorem own_to {w : World} {B T : Nat} {v : Value} {l : List Int} (h : Row1.Owns IntRow.fI w B T v l) : RowN.Owns fc 1 w B T v l := by
  unfold RowN.Owns
  rw [flat]
  exact h
theorem own_of {w : World} {B T : Nat} {v : Value} {l : List Int} (h : RowN.Owns fc 1 w B T v l) : Row1.Owns IntRow.fI w B T v l := by
  unfold RowN.Owns at h
  rw [flat] at h
  exact h
theorem reads_of {w : World} {a : Option Addr} {l : List Int} (h : RowN.Reads fc 1 w a l) : IntRow.Reads w a l := fun j hj => by
  obtain ⟨blk, off, e, hlt, hc⟩ := h j hj
  refine ⟨blk, off, e, hlt, ?_⟩
  have := hc 0 (by omega)
  rw [Nat.mul_one, Nat.add_zero] at this
  exact this
def IsRow (l : List Int) (w : World) (e : Ending) (w' : World) : Prop := ∃ p c, e = .returned (.slice p l.length c) ∧ RowN.Owns fc 1 w' w.heap.size 3 (.slice p l.length c) l ∧ Below w.heap.size w w'
theorem row_of {l : List Int} {w w' : World} {e : Ending} (h : IntRow.IsList l w e w') : IsRow l w e w' := by
  obtain ⟨p, c, he, ho, hb⟩ := h
  exact ⟨p, c, he, own_to ho, hb⟩
theorem to_c (w : World) (a : Option Addr) (m cap : Nat) (l : List Int) (hm : l.length = m) (hs : m ≤ 1099511627776) (h : RowN.Reads fc 1 w a l) : Calls Try.prog 20 #[.slice a m cap] w (IsRow l w) :=
  (IntRow.copy_c w a m cap l hm hs (reads_of h)).mono fun _ _ ⟨g, he, _, ho, hb⟩ => ⟨some ⟨g, 0, none⟩, l.length, he, own_to ho, hb⟩
theorem eq_c (w : World) (m c1 c2 : Nat) (a1 a2 : Option Addr) (l : List Int) (hm : l.length = m) (hs : m ≤ 1099511627776) (h1 : RowN.Reads fc 1 w a1 l) (h2 : RowN.Reads fc 1 w a2 l) :
    Calls Try.prog 21 #[.slice a1 m c1, .slice a2 m c2] w (fun e w' => e = .returned (.bool true) ∧ Below w.heap.size w w') :=
  (IntRow.eq_c w m c1 c2 a1 a2 l hm hs (reads_of h1) (reads_of h2)).mono fun _ _ ⟨he, n, hw⟩ => ⟨he, by rw [hw]; exact below_drewN (Below.refl _ _) n⟩
def marks (k : Int) (n : Nat) : List Int := IntRow.marks k n
theorem marks_len (k : Int) (n : Nat) : (marks k n).length = n := IntRow.marks_len k n
def Marked (lo hi : Nat) (v : Value) (l : List Int) (x : Int) (w : World) (e : Ending) (w' : World) : Prop := e = .returned (.int .i64 x) ∧ Own.Ow fc 1 3 w' lo hi v l ∧ Own.Mid lo hi w w'
theorem mark_c (w : World) (lo hi : Nat) (a : Option Addr) (m cap : Nat) (l : List Int) (k : Int) (hm : l.length = m) (hs : m ≤ 1099511627776) (hk0 : 0 ≤ k) (hk1 : k ≤ 1099511627776) (h : Own.Ow fc 1 3 w lo hi (.slice a m cap) l) (hlo : lo ≤ w.heap.size) :
    Calls Try.prog 22 #[.slice a m cap, .int .i64 k] w (Marked lo hi (.slice a m cap) (marks k m) (k + (m : Int)) w) := by
  have hown := h.own
  rcases hown.2 with ⟨h', h0⟩ | ⟨g, cap', cur, h', hb, hg, rest⟩
  · simp only [Value.slice.injEq] at h'
    obtain ⟨rfl, rfl, rfl⟩ := h'
    have hl : l = [] := List.eq_nil_of_length_eq_zero hm
    subst hl
    refine (IntRow.mark_c w w.heap.size none 0 0 [] k rfl hs hk0 hk1 (Row1.Owns.nil _ _ _)).mono fun e w' ⟨he, ho, hbl⟩ => ⟨he, ⟨RowN.Owns.nil _ _ _, h.top, Nat.le_trans h.lim hbl.size⟩, Own.Mid.of_below hbl hlo⟩
  · simp only [Value.slice.injEq] at h'
    obtain ⟨rfl, rfl, rfl⟩ := h'
    refine (RowMark.mark_o w lo g _ _ l k hm hs hk0 hk1 (own_of h.own)).mono fun e w' ⟨he, ho, hbl⟩ => ⟨he, ⟨own_to ho, h.top, Nat.le_trans h.lim hbl.size⟩, Own.Mid.of_grown hbl (fun k hk => by cases hk; exact ⟨hb, h.top _ rfl⟩) hlo⟩
theorem held_c (w : World) (a : Option Addr) (m cap : Nat) (k : Int) (hs : m ≤ 1099511627776) (hk0 : 0 ≤ k) (hk1 : k ≤ 1099511627776) (h : RowN.Reads fc 1 w a (marks k m)) :
    Calls Try.prog 23 #[.slice a m cap, .int .i64 k] w (fun e w' => e = .returned (.int .i64 (k + (m : Int))) ∧ Below w.heap.size w w') :=
  (IntRow.held_c w a m cap k hs hk0 hk1 (reads_of h)).mono fun e w' ⟨he, n, hw⟩ => ⟨he, by rw [hw]; exact below_drewN (Below.refl _ _) n⟩
end Go.Proofs.Ytgdniakncjjggaa.TInt
