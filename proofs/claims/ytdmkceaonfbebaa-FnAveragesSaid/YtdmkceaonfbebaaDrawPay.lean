/- Contract of the drawn pay: a store of pay facts and a series whose first point is that of the first month. -/
import Derived.Test.YtdmkceaonfbebaaRows
import Derived.Test.YtdmkceaonfbebaaPointLaws
import Derived.Test.YtdmkceaonfbebaaPayLaws
import Derived.Test.YtdmkceaonfbebaaCurC
import Derived.Test.YtdmkceaonfbebaaAddFact
import Derived.Test.YtdmkceaonfbebaaPubS
import Derived.Test.YtdmkceaonfbebaaKit
import Derived.Deep.RegionHeld3
import Derived.Lib.Hide
namespace Go.Proofs.Ytdmkceaonfbebaa.DrawPay
open Go.RowKit CurKit CurByte Cur RowN BelowKit DrawCur
open Fact (Fa)
open FactRow (OwnsF FT)
open TPoint (El)
theorem row_ne {α : Type} {f : α → List Value} {c g B T T' : Nat} {w : World} {v : Value} {l : List α} {cs : Array Value} {fr : Nat × Nat} (h : Owns f c w B T v l) (hg : w.heap[g]? = some (.cells cs T' fr)) (hT : T ≠ T') : v.ownBlock ≠ some g := fun e => by
  rcases h.2 with ⟨rfl, _⟩ | ⟨g', cap, cur, rfl, hbg, hh, _⟩
  · cases e
  · have : g' = g := by simpa [Value.ownBlock] using e
    subst this
    rw [hg] at hh
    simp at hh
    exact hT hh.2.1.symm
theorem len_f (l : List Fa) (x : Fa) : (FactMath.added l x).1.length ≤ l.length + 1 := by
  unfold FactMath.added
  split <;> simp
theorem len_s (l : List El) (x : El) : (PointMath.added l x).1.length ≤ l.length + 1 := by
  unfold PointMath.added
  split <;> simp
/-- The drawn store and series on the way: their blocks and rows, and the cursor. -/
structure Pay (w : World) (b g5 g7 : Nat) (a : Option Addr) (len cap : Nat) (v5 v7 : Value) (lf : List Fa) (ls : List El) (wr : World) : Prop where
  cur : CurIn 95 w wr b a len cap
  lo : w.heap.size + 1 < b
  e5 : b < g5
  e7 : g5 < g7
  c2 : wr.heap[w.heap.size]? = some (.cells #[.slice none 0 0] 26 (0, 0))
  c3 : wr.heap[w.heap.size + 1]? = some (.cells #[.slice none 0 0] 29 (0, 0))
  c5 : wr.heap[g5]? = some (.cells #[v5] 26 (0, 0))
  c7 : wr.heap[g7]? = some (.cells #[v7] 29 (0, 0))
  o5 : OwnsF wr (b + 1) v5 lf
  o7 : Owns TPoint.fc 3 wr (b + 1) TPoint.T v7 ls
section
variable {w wr w' : World} {b g5 g7 len cap : Nat} {a : Option Addr} {v5 v7 : Value} {lf : List Fa} {ls : List El}
theorem Pay.only (h : Pay w b g5 g7 a len cap v5 v7 lf ls wr) (g : Goes w wr b a len cap w') : Pay w b g5 g7 a len cap v5 v7 lf ls w' := by
  have k : ∀ (i : Nat) (o : Obj), wr.heap[i]? = some o → i ≠ b → w'.heap[i]? = some o := fun i o hi hne => (g.2.block i (lt_of_block hi) (fun e => hne (Option.some.inj e))).trans hi
  have h1 := h.lo
  have h2 := h.e5
  have h3 := h.e7
  exact ⟨g.1, h1, h2, h3, k _ _ h.c2 (by omega), k _ _ h.c3 (by omega), k _ _ h.c5 (by omega), k _ _ h.c7 (by omega), h.o5.kept g.2 (.inr (fun e => by have := h.o5.low b e; omega)), h.o7.kept g.2 (.inr (fun e => by have := h.o7.low b e; omega))⟩
theorem Pay.on (h : Pay w b g5 g7 a len cap v5 v7 lf ls wr) (hb : Below wr.heap.size wr w') : Pay w b g5 g7 a len cap v5 v7 lf ls w' := by
  have k : ∀ (i : Nat) (o : Obj), wr.heap[i]? = some o → w'.heap[i]? = some o := fun i o hi => (hb.block i (lt_of_block hi)).trans hi
  exact ⟨h.cur.below hb h.cur.lt, h.lo, h.e5, h.e7, k _ _ h.c2, k _ _ h.c3, k _ _ h.c5, k _ _ h.c7, h.o5.on hb, h.o7.on hb⟩
theorem cur_set {T g o : Nat} (h : CurIn T w wr b a len cap) (hg : b ≠ g) (h0 : w.heap.size ≤ g) (v : Value) : CurIn T w (wr.setCell ⟨g, o, none⟩ v) b a len cap := by
  obtain ⟨i, hh, hc, hi⟩ := h.cells
  exact ⟨h.bel.setCell (p := ⟨g, o, none⟩) h0 v, h.low, h.code, h.small, i, hh, (Below.heap_setCell _ _ _ _ (show b ≠ g by omega)).trans hc, hi⟩
theorem Pay.set5 {v : Value} {l : List Fa} (h : Pay w b g5 g7 a len cap v5 v7 lf ls wr) (ho : OwnsF wr (b + 1) v l) : Pay w b g5 g7 a len cap v v7 l ls (wr.setCell ⟨g5, 0, none⟩ v) := by
  have k : ∀ (i : Nat) (o : Obj), wr.heap[i]? = some o → i ≠ g5 → (wr.setCell ⟨g5, 0, none⟩ v).heap[i]? = some o := fun i o hi hne => (Below.heap_setCell _ _ _ _ hne).trans hi
  have h1 := h.lo
  have h2 := h.e5
  have h3 := h.e7
  exact ⟨cur_set h.cur (by omega) (by omega) _, h1, h2, h3, k _ _ h.c2 (by omega), k _ _ h.c3 (by omega), one_setCell h.c5, k _ _ h.c7 (by omega), ho.beside (row_ne ho h.c5 (by decide)) _, h.o7.beside (row_ne h.o7 h.c5 (by decide)) _⟩
theorem Pay.set7 {v : Value} {l : List El} (h : Pay w b g5 g7 a len cap v5 v7 lf ls wr) (ho : Owns TPoint.fc 3 wr (b + 1) TPoint.T v l) : Pay w b g5 g7 a len cap v5 v lf l (wr.setCell ⟨g7, 0, none⟩ v) := by
  have k : ∀ (i : Nat) (o : Obj), wr.heap[i]? = some o → i ≠ g7 → (wr.setCell ⟨g7, 0, none⟩ v).heap[i]? = some o := fun i o hi hne => (Below.heap_setCell _ _ _ _ hne).trans hi
  have h1 := h.lo
  have h2 := h.e5
  have h3 := h.e7
  exact ⟨cur_set h.cur (by omega) (by omega) _, h1, h2, h3, k _ _ h.c2 (by omega), k _ _ h.c3 (by omega), k _ _ h.c5 (by omega), one_setCell h.c7, h.o5.beside (row_ne h.o5 h.c7 (by decide)) _, ho.beside (row_ne ho h.c7 (by decide)) _⟩
theorem Pay.drew (h : Pay w b g5 g7 a len cap v5 v7 lf ls wr) : Pay w b g5 g7 a len cap v5 v7 lf ls wr.drew := h.on (below_drewN (Below.refl _ _) 1)
/-- The cells that the walk reads and writes. -/
theorem Pay.cells (h : Pay w b g5 g7 a len cap v5 v7 lf ls wr) : (wr.cell? ⟨g5, 0, none⟩ = some v5 ∧ wr.frozen? ⟨g5, 0, none⟩ = false ∧ g5 < wr.heap.size) ∧ (wr.cell? ⟨g7, 0, none⟩ = some v7 ∧ wr.frozen? ⟨g7, 0, none⟩ = false ∧ g7 < wr.heap.size) :=
  ⟨⟨cell_of_one h.c5, free_of_one h.c5, lt_of_block h.c5⟩, cell_of_one h.c7, free_of_one h.c7, lt_of_block h.c7⟩
end
theorem lt_of_max {y n : Int} (h : y < max n 1) (h0 : 1 ≤ n) : y < n := by
  rw [Int.max_eq_left (by omega)] at h
  exact h
/-- A store that AddFact handed back, its row in new memory. -/
def GotF (b n : Nat) (v : Value) (W : World) : Prop := ∃ (l : List Fa) (p : Option Addr) (k : Nat) (bb : Bool), v = .tuple #[.agg #[.slice p l.length k], .bool bb] ∧ OwnsF W (b + 1) (.slice p l.length k) l ∧ l.length ≤ n ∧ PayLaws.Paid l
def GotA (b n : Nat) (v : Value) (W : World) : Prop := ∃ (l : List Fa) (p : Option Addr) (k : Nat), v = .agg #[.slice p l.length k] ∧ OwnsF W (b + 1) (.slice p l.length k) l ∧ l.length ≤ n ∧ PayLaws.Paid l
def GotS (b n : Nat) (v : Value) (W : World) : Prop := ∃ (l : List El) (p : Option Addr) (k : Nat) (bb : Bool), v = .tuple #[.agg #[.slice p l.length k], .bool bb] ∧ Owns TPoint.fc 3 W (b + 1) TPoint.T (.slice p l.length k) l ∧ l.length ≤ n ∧ PointLaws.Full l
def GotB (b n : Nat) (v : Value) (W : World) : Prop := ∃ (l : List El) (p : Option Addr) (k : Nat), v = .agg #[.slice p l.length k] ∧ Owns TPoint.fc 3 W (b + 1) TPoint.T (.slice p l.length k) l ∧ l.length ≤ n ∧ PointLaws.Full l
theorem own_cur {α : Type} {f : α → List Value} {c b T len cap : Nat} {w W W2 : World} {a : Option Addr} {v : Value} {l : List α} (h : Owns f c W (b + 1) T v l) (g : Goes w W b a len cap W2) : Owns f c W2 (b + 1) T v l := h.kept g.2 (.inr (fun e => by have := h.low b e; omega))
section
variable {b n len cap : Nat} {w W W2 : World} {a : Option Addr} {v : Value}
theorem GotF.cur (h : GotF b n v W) (g : Goes w W b a len cap W2) : GotF b n v W2 := by obtain ⟨l, p, k, bb, e, ho, hl⟩ := h; exact ⟨l, p, k, bb, e, own_cur ho g, hl⟩
theorem GotA.cur (h : GotA b n v W) (g : Goes w W b a len cap W2) : GotA b n v W2 := by obtain ⟨l, p, k, e, ho, hl⟩ := h; exact ⟨l, p, k, e, own_cur ho g, hl⟩
theorem GotS.cur (h : GotS b n v W) (g : Goes w W b a len cap W2) : GotS b n v W2 := by obtain ⟨l, p, k, bb, e, ho, hl⟩ := h; exact ⟨l, p, k, bb, e, own_cur ho g, hl⟩
theorem GotB.cur (h : GotB b n v W) (g : Goes w W b a len cap W2) : GotB b n v W2 := by obtain ⟨l, p, k, e, ho, hl⟩ := h; exact ⟨l, p, k, e, own_cur ho g, hl⟩
theorem GotF.on (h : GotF b n v W) (g : Below W.heap.size W W2) : GotF b n v W2 := by obtain ⟨l, p, k, bb, e, ho, hl⟩ := h; exact ⟨l, p, k, bb, e, ho.on g, hl⟩
theorem GotA.on (h : GotA b n v W) (g : Below W.heap.size W W2) : GotA b n v W2 := by obtain ⟨l, p, k, e, ho, hl⟩ := h; exact ⟨l, p, k, e, ho.on g, hl⟩
theorem GotS.on (h : GotS b n v W) (g : Below W.heap.size W W2) : GotS b n v W2 := by obtain ⟨l, p, k, bb, e, ho, hl⟩ := h; exact ⟨l, p, k, bb, e, ho.on g, hl⟩
theorem GotB.on (h : GotB b n v W) (g : Below W.heap.size W W2) : GotB b n v W2 := by obtain ⟨l, p, k, e, ho, hl⟩ := h; exact ⟨l, p, k, e, ho.on g, hl⟩
end
structure Inv8 (w : World) (b g5 g7 : Nat) (a : Option Addr) (len cap : Nat) (p5 : Option Addr) (m5 k5 : Nat) (p7 : Option Addr) (m7 k7 : Nat) (lf : List Fa) (ls : List El) (j : Nat) (x4 : Nat) (L : Nat → Bool) (v41 v42 v43 v44 v45 v46 v47 v48 v49 v50 v51 v52 v53 v54 v55 v40 v56 v57 : Value) (W : World) : Prop where
  h0 : (L 0 = true → v41 = .agg #[.slice p5 m5 k5])
  h1 : (L 1 = true → v42 = .int .i64 (x4 : Int))
  h2 : (L 2 = true → v43 = .int .i64 (x4 : Int))
  h3 : (L 3 = true → ∃ z3 : Int, ((x4 : Int) < z3 ∧ z3 ≤ 50) ∧ v44 = .int .i64 z3)
  h4 : (L 4 = true → v45 = .pointer (some ⟨b, 0, none⟩))
  h5 : (L 5 = true → ∃ z5 : Nat, (z5 : Int) < 10 ∧ v46 = .int .i64 (z5 : Int))
  h6 : (L 6 = true → ∃ z6 : Int, ((x4 : Int) < z6 ∧ z6 ≤ 60) ∧ v47 = .int .i64 z6)
  h7 : (L 7 = true → v48 = .int .i64 (j : Int))
  h8 : (L 8 = true → ∃ z8 : Int, (0 ≤ z8 ∧ z8 ≤ 50) ∧ v49 = .int .i64 z8)
  h9 : (L 9 = true → v50 = .pointer (some ⟨b, 0, none⟩))
  h10 : (L 10 = true → ∃ z10 : Nat, (z10 : Int) < 1000 ∧ v51 = .int .i64 (z10 : Int))
  h11 : (L 11 = true → ∃ z11 : Int, (0 ≤ z11 ∧ z11 ≤ 99900) ∧ v52 = .int .i64 z11)
  h12 : (L 12 = true → ∃ z12 : Int, (100000 ≤ z12 ∧ z12 ≤ 199900) ∧ v53 = .int .i64 z12)
  h13 : (L 13 = true → ∃ y1 y2 y3 y4 y5 : Int, PayLaws.Good ⟨y1, y2, y3, y4, y5⟩ ∧ v54 = .agg #[.int .i64 y1, .int .i64 y2, .int .i64 y3, .int .i64 y4, .int .i64 y5])
  h14 : (L 14 = true → L 18 = false → GotF b (m5 + 1) v55 W)
  h15 : (L 15 = true → L 18 = false → GotF b (m5 + 1) v40 W)
  h16 : (L 16 = true → L 18 = false → GotA b (m5 + 1) v56 W)
  h17 : (L 17 = true → ∃ z17 : Bool, v57 = .bool z17)
  hP : (L 18 = false → Pay w b g5 g7 a len cap (.slice p5 m5 k5) (.slice p7 m7 k7) lf ls W)
  hQ : (L 18 = true → ∃ (l' : List Fa) (p : Option Addr) (k : Nat), Pay w b g5 g7 a len cap (.slice p l'.length k) (.slice p7 m7 k7) l' ls W ∧ l'.length ≤ m5 + 1 ∧ PayLaws.Paid l')
  s14 : (L 14 = true → ∃ (p : Option Addr) (n k : Nat) (bb : Bool), v55 = .tuple #[.agg #[.slice p n k], .bool bb])
  s15 : (L 15 = true → ∃ (p : Option Addr) (n k : Nat) (bb : Bool), v40 = .tuple #[.agg #[.slice p n k], .bool bb])
structure Inv9 (w : World) (b g5 g7 : Nat) (a : Option Addr) (len cap : Nat) (p7 : Option Addr) (m7 k7 : Nat) (ls : List El) (j : Nat) (p8 : Option Addr) (k8 : Nat) (l8 : List Fa) (L : Nat → Bool) (v59 v60 v61 v62 v63 v64 v65 v66 v67 v68 v58 v69 v70 : Value) (W : World) : Prop where
  h0 : (L 0 = true → v59 = .agg #[.slice p7 m7 k7])
  h1 : (L 1 = true → v60 = .int .i64 (j : Int))
  h2 : (L 2 = true → ∃ z2 : Int, v61 = .int .i64 z2)
  h3 : (L 3 = true → v62 = .int .i64 (j : Int))
  h4 : (L 4 = true → ∃ z4 : Int, v63 = .int .i64 z4)
  h5 : (L 5 = true → v64 = .pointer (some ⟨b, 0, none⟩))
  h6 : (L 6 = true → ∃ z6 : Nat, (z6 : Int) < 4000 ∧ v65 = .int .i64 (z6 : Int))
  h7 : (L 7 = true → ∃ z7 : Int, (9000 ≤ z7 ∧ z7 ≤ 12999) ∧ v66 = .int .i64 z7)
  h8 : (L 8 = true → ∃ y1 y2 y3 : Int, (9000 ≤ y3 ∧ y3 ≤ 12999) ∧ v67 = .agg #[.int .i64 y1, .int .i64 y2, .int .i64 y3])
  h9 : (L 9 = true → L 13 = false → GotS b (m7 + 1) v68 W)
  h10 : (L 10 = true → L 13 = false → GotS b (m7 + 1) v58 W)
  h11 : (L 11 = true → L 13 = false → GotB b (m7 + 1) v69 W)
  h12 : (L 12 = true → ∃ z12 : Bool, v70 = .bool z12)
  hP : (L 13 = false → Pay w b g5 g7 a len cap (.slice p8 l8.length k8) (.slice p7 m7 k7) l8 ls W)
  hQ : (L 13 = true → ∃ (l' : List El) (p : Option Addr) (k : Nat), Pay w b g5 g7 a len cap (.slice p8 l8.length k8) (.slice p l'.length k) l8 l' W ∧ l'.length ≤ m7 + 1 ∧ PointLaws.Full l')
  s9 : (L 9 = true → ∃ (p : Option Addr) (n k : Nat) (bb : Bool), v68 = .tuple #[.agg #[.slice p n k], .bool bb])
  s10 : (L 10 = true → ∃ (p : Option Addr) (n k : Nat) (bb : Bool), v58 = .tuple #[.agg #[.slice p n k], .bool bb])
def SomePay (w : World) (e : Ending) (w' : World) : Prop := ∃ (lf : List Fa) (pf : Option Addr) (cf : Nat) (ls : List El) (p : Option Addr) (c : Nat), (PayLaws.Paid lf ∧ lf.length ≤ 10 ∧ OwnsF w' w.heap.size (.slice pf lf.length cf) lf) ∧ PointLaws.Full ls ∧ ls.length ≤ 10 ∧ e = .returned (.tuple #[.agg #[.slice pf lf.length cf], .agg #[.slice p ls.length c]]) ∧ Owns TPoint.fc 3 w' w.heap.size TPoint.T (.slice p ls.length c) ls ∧ Below w.heap.size w w'
set_option maxHeartbeats 8000000 in
set_option maxRecDepth 10000 in
theorem pay_c (w : World) (a : Option Addr) (len cap : Nat) (hcode : CodeAt w a len) (hs : len ≤ maxLen) :
    Calls Try.prog 12 #[.slice a len cap] w (SomePay w) := by
  have HK := Lib.hid hcode
  have HS := Lib.hid hs
  clear hcode hs
  go_enter Try.func12, Try.ntmps12
  go_wp2_with fail
  obtain ⟨W, hW⟩ : ∃ W, W = (w.alloc (.cells #[.slice none 0 0] 26)).alloc (.cells #[.slice none 0 0] 29) := ⟨_, rfl⟩
  rw [← hW]
  have hbW : Below w.heap.size w W := by rw [hW]; (repeat (first | exact Below.refl _ _ | apply BelowKit.bl_alloc | apply BelowKit.bl_drewN | apply BelowKit.bl_drew | (refine BelowKit.bl_set ?_ _ ?_; rotate_left; (first | omega | (simp; omega) | simp)) | (refine BelowKit.bl_trans ?_ (‹Hid (Below _ _ _)›).out)))
  have hzW : W.heap.size = w.heap.size + 2 := by rw [hW]; simp
  have c2 : W.heap[w.heap.size]? = some (.cells #[.slice none 0 0] 26 (0, 0)) := by rw [hW]; exact (Below.heap_alloc _ _ _ (by simp)).trans (heap_alloc_new _ _)
  have c3 : W.heap[w.heap.size + 1]? = some (.cells #[.slice none 0 0] 29 (0, 0)) := by rw [hW]; have := heap_alloc_new (w.alloc (.cells #[.slice none 0 0] 26)) (.cells #[.slice none 0 0] 29); simpa using this
  clear hW
  refine (new_c _ a len cap (fun j hj => by obtain ⟨blk, off, n, e, h1, h2, h3⟩ := HK.out j hj; exact ⟨blk, off, n, e, Nat.lt_of_lt_of_le h1 hbW.size, ((bcell hbW).1 _ _ h1).trans h2, h3⟩) HS.out).mono ?_
  rintro e w1 ⟨rfl, h1⟩
  have C2 := (h1.bel.block _ (lt_of_block c2)).trans c2
  have C3 := (h1.bel.block _ (lt_of_block c3)).trans c3
  have HC := Lib.hid (show CurIn 95 w w1 W.heap.size a len cap from ⟨bl_trans hbW h1.bel, by omega, HK.out, HS.out, h1.cells⟩)
  obtain ⟨b, hb⟩ : ∃ b, W.heap.size = b := ⟨_, rfl⟩
  rw [hb] at HC ⊢
  have hlo : w.heap.size + 1 < b := by omega
  have H2 := Lib.hid C2
  have H3 := Lib.hid C3
  clear h1 c2 c3 C2 C3 hzW hbW hb
  go_wp2_with fail
  refine (below_c w _ b a len cap 1000 HC.out (by omega)).mono ?_
  rintro e w2 ⟨x1, hx1, rfl, h2⟩
  have i1 := lt_of_max hx1 (by decide)
  have k : ∀ (i : Nat) (o : Obj), w1.heap[i]? = some o → i ≠ b → w2.heap[i]? = some o := fun i o hi hne => (h2.2.block i (lt_of_block hi) (fun e => hne (Option.some.inj e))).trans hi
  have HC2 := Lib.hid h2.1
  have H22 := Lib.hid (k _ _ H2.out (by omega))
  have H23 := Lib.hid (k _ _ H3.out (by omega))
  clear h2 hx1 k HC H2 H3
  go_wp2_with fail
  refine (AddFact.add_s _ none 0 0 [] ⟨1, 0, 60, 0, 100000 + (x1 : Int) * 100⟩ rfl (by omega) (Reads.nil _ _)).mono ?_
  rintro e w3 ⟨pA, cA, rfl, ho, hb⟩
  obtain ⟨lf0, hlf⟩ : ∃ l, (FactMath.added [] ⟨1, 0, 60, 0, 100000 + (x1 : Int) * 100⟩).1 = l := ⟨_, rfl⟩
  obtain ⟨bf, hbf⟩ : ∃ l, (FactMath.added [] ⟨1, 0, 60, 0, 100000 + (x1 : Int) * 100⟩).2 = l := ⟨_, rfl⟩
  have hlen : lf0.length ≤ 1 := by rw [← hlf]; exact len_f _ _
  have HPL0 := Lib.hid (show PayLaws.Paid lf0 by rw [← hlf, PayLaws.first_added (by omega) (by omega)]; exact PayLaws.Paid.one (by omega) (by omega))
  rw [hlf] at ho ⊢
  rw [hbf]
  have hb3 := bl_trans hb (bl_alloc (o := .cells #[.slice pA lf0.length cA] 26) (Below.refl w3.heap.size w3))
  have k : ∀ (i : Nat) (o : Obj), w2.heap[i]? = some o → (w3.alloc (.cells #[.slice pA lf0.length cA] 26)).heap[i]? = some o := fun i o hi => (hb3.block i (lt_of_block hi)).trans hi
  have HC3 := Lib.hid (HC2.out.below hb3 HC2.out.lt)
  have H32 := Lib.hid (k _ _ H22.out)
  have H33 := Lib.hid (k _ _ H23.out)
  have H35 := Lib.hid (heap_alloc_new w3 (.cells #[.slice pA lf0.length cA] 26))
  have hz5 : b < w3.heap.size := Nat.lt_of_lt_of_le HC2.out.lt hb.size
  have HO5 := Lib.hid (show OwnsF (w3.alloc (.cells #[.slice pA lf0.length cA] 26)) (b + 1) (.slice pA lf0.length cA) lf0 from (ho.alloc _).base (by have := HC2.out.lt; omega))
  clear ho hb hb3 k hlf hbf HC2 H22 H23
  go_wp2_with fail
  refine (below_c w _ b a len cap 2000 HC3.out (by omega)).mono ?_
  rintro e w4 ⟨x2, hx2, rfl, h4⟩
  have i2 := lt_of_max hx2 (by decide)
  have k : ∀ (i : Nat) (o : Obj), (w3.alloc (.cells #[.slice pA lf0.length cA] 26)).heap[i]? = some o → i ≠ b → w4.heap[i]? = some o := fun i o hi hne => (h4.2.block i (lt_of_block hi) (fun e => hne (Option.some.inj e))).trans hi
  have HC4 := Lib.hid h4.1
  have H42 := Lib.hid (k _ _ H32.out (by omega))
  have H43 := Lib.hid (k _ _ H33.out (by omega))
  have H45 := Lib.hid (k _ _ H35.out (by omega))
  have HO45 := Lib.hid (HO5.out.kept h4.2 (.inr (fun e => by have := HO5.out.low b e; omega)))
  clear h4 hx2 k HC3 H32 H33 H35 HO5
  go_wp2_with fail
  refine (PubS.pub_s _ none 0 0 [] ⟨0, 0, 9000 + (x2 : Int)⟩ rfl (by omega) (Reads.nil _ _)).mono ?_
  rintro e w5 ⟨pB, cB, rfl, ho, hb⟩
  have hadd : PointMath.added [] ⟨0, 0, 9000 + (x2 : Int)⟩ = ([⟨0, 0, 9000 + (x2 : Int)⟩], true) :=
    PointMath.added_yes (PointMath.okS_yes ⟨by simp, fun i hi => by
      obtain rfl : i = 0 := by simp at hi; omega
      exact PointMath.okP_yes ⟨by simp, by simp, by simp, by simp; omega, by simp; omega⟩, fun i hi => by simp at hi⟩)
  rw [hadd] at ho ⊢
  have HF0 := Lib.hid (PointLaws.Full.one (v := 9000 + (x2 : Int)) (by omega) (by omega))
  simp only [List.length_singleton] at ho ⊢
  have hb5 := bl_trans hb (bl_alloc (o := .cells #[.slice pB 1 cB] 29) (Below.refl w5.heap.size w5))
  have k : ∀ (i : Nat) (o : Obj), w4.heap[i]? = some o → (w5.alloc (.cells #[.slice pB 1 cB] 29)).heap[i]? = some o := fun i o hi => (hb5.block i (lt_of_block hi)).trans hi
  have z5 : w3.heap.size < w5.heap.size := Nat.lt_of_lt_of_le (lt_of_block H45.out) hb.size
  have HP := Lib.hid (show Pay w b w3.heap.size w5.heap.size a len cap (.slice pA lf0.length cA) (.slice pB 1 cB) lf0 [⟨0, 0, 9000 + (x2 : Int)⟩] (w5.alloc (.cells #[.slice pB 1 cB] 29)) from
    ⟨HC4.out.below hb5 HC4.out.lt, hlo, hz5, z5, k _ _ H42.out, k _ _ H43.out, k _ _ H45.out, heap_alloc_new _ _, HO45.out.on hb5, (ho.alloc _).base (by have := HC4.out.lt; omega)⟩)
  clear ho hb hb5 k hadd HC4 H42 H43 H45 HO45 hlo hz5 z5
  go_wp2
  obtain ⟨g5, hg5⟩ : ∃ g, w3.heap.size = g := ⟨_, rfl⟩
  obtain ⟨g7, hg7⟩ : ∃ g, w5.heap.size = g := ⟨_, rfl⟩
  rw [hg5, hg7] at HP
  rw [hg5, hg7]
  have HFL : Hid (PointLaws.Full [⟨0, 0, 9000 + (x2 : Int)⟩] ∧ lf0.length ≤ 1) := Lib.hid ⟨HF0.out, hlen⟩
  clear hg5 hg7 HF0 hlen
  go_loopw [9] (fun i wr => ∃ (j : Nat) (lf : List Fa) (ls : List El) (v5 v7 : Value), j ≤ 5 ∧ i = .int .i64 (j : Int) ∧ Hid (PointLaws.Full ls ∧ lf.length ≤ 1 + j ∧ ls.length ≤ 1 + j) ∧ Hid (PayLaws.Paid lf) ∧ Hid (Pay w b g5 g7 a len cap v5 v7 lf ls wr)) (fun i _ => 5 - (intOf i).toNat)
  case atStart => exact ⟨0, lf0, _, _, _, by omega, rfl, Lib.hid ⟨HFL.out.1, by have := HFL.out.2; omega, by simp⟩, HPL0, HP⟩
  case round =>
    clear HFL HP HPL0
    obtain ⟨j, lf, ls, v5, v7, hj, rfl, HFL, HPL, HP⟩ := hrel
    go_wp2_with fail
    refine (below_c w _ b a len cap 6 HP.out.cur (by omega)).mono ?_
    rintro e w2 ⟨x3, hx3, rfl, h2⟩
    have i3 := lt_of_max hx3 (by decide)
    have HP2 := Lib.hid (HP.out.only h2)
    clear h2 hx3 HP
    by_cases hlt : (j : Int) < (x3 : Int)
    · have dK : decide ((j : Int) < (x3 : Int)) = true := decide_eq_true hlt
      go_wp2_with fail
      refine (below_c w _ b a len cap 50 HP2.out.cur (by omega)).mono ?_
      rintro e w3 ⟨x4, hx4, rfl, h3⟩
      have i4 := lt_of_max hx4 (by decide)
      have HP3 := Lib.hid (HP2.out.only h3)
      clear h3 hx4 HP2
      go_wp2_with fail
      obtain ⟨m5, hm5⟩ : ∃ m, lf.length = m := ⟨_, rfl⟩
      obtain ⟨p5, k5, rfl, _⟩ := HP3.out.o5.form Fact.fw
      obtain ⟨m7, hm7⟩ : ∃ m, ls.length = m := ⟨_, rfl⟩
      obtain ⟨p7, k7, rfl, _⟩ := HP3.out.o7.form TPoint.fw
      rw [hm5, hm7] at HP3
      have HM5 := Lib.hid hm5
      have HM7 := Lib.hid hm7
      have HFL := Lib.hid (show PointLaws.Full ls ∧ m5 ≤ 1 + j ∧ m7 ≤ 1 + j from ⟨HFL.out.1, by rw [← hm5]; exact HFL.out.2.1, by rw [← hm7]; exact HFL.out.2.2⟩)
      have hm5' : m5 ≤ 1048576 := by have := HFL.out.2.1; omega
      have hm7' : m7 ≤ 1048576 := by have := HFL.out.2.2; omega
      clear hm5 hm7
      obtain ⟨⟨y1, y2, y3⟩, y4, y5, y6⟩ := HP3.out.cells
      have HPD := Lib.hid HP3.out.drew
      have hj4 : j < 5 := by omega
      clear y1 y2 y3 y4 y5 y6 i3
      refine RegInv.wp_region_inv2 (fun L A W => ∃ v41 v42 v43 v44 v45 v46 v47 v48 v49 v50 v51 v52 v53 v54 v55 v40 v56 v57, A = ⟨#[.slice a len cap, undef, .pointer (some ⟨w.heap.size, 0, none⟩), .pointer (some ⟨w.heap.size + 1, 0, none⟩), .pointer (some ⟨b, 0, none⟩), .pointer (some ⟨g5, 0, none⟩), .bool bf, .pointer (some ⟨g7, 0, none⟩), .bool true, .int .i64 (j : Int), .int .i64 (x4 : Int), .slice a len cap, .pointer (some ⟨b, 0, none⟩), .tuple #[.agg #[.slice pA lf0.length cA], .bool bf], .agg #[.slice none 0 0], .pointer (some ⟨b, 0, none⟩), .int .i64 (x1 : Int), .int .i64 ((x1 : Int) * 100), .int .i64 (100000 + (x1 : Int) * 100), .agg #[.int .i64 1, .int .i64 0, .int .i64 60, .int .i64 0, .int .i64 (100000 + (x1 : Int) * 100)], .tuple #[.agg #[.slice pA lf0.length cA], .bool bf], .agg #[.slice pA lf0.length cA], .bool bf, .tuple #[.agg #[.slice pB 1 cB], .bool true], .agg #[.slice none 0 0], .pointer (some ⟨b, 0, none⟩), .int .i64 (x2 : Int), .int .i64 (9000 + (x2 : Int)), .agg #[.int .i64 0, .int .i64 0, .int .i64 (9000 + (x2 : Int))], .tuple #[.agg #[.slice pB 1 cB], .bool true], .agg #[.slice pB 1 cB], .bool true, .int .i64 (j : Int), .pointer (some ⟨b, 0, none⟩), .int .i64 (x3 : Int), .bool true, u36, u37, .pointer (some ⟨b, 0, none⟩), .int .i64 (x4 : Int), v40, v41, v42, v43, v44, v45, v46, v47, v48, v49, v50, v51, v52, v53, v54, v55, v56, v57, u58, u59, u60, u61, u62, u63, u64, u65, u66, u67, u68, u69, u70, undef, undef], []⟩ ∧ Inv8 w b g5 g7 a len cap p5 m5 k5 p7 m7 k7 lf ls j x4 L v41 v42 v43 v44 v45 v46 v47 v48 v49 v50 v51 v52 v53 v54 v55 v40 v56 v57 W) (by kernel_rfl) (by kernel_rfl) ?_ ?_ ?_
      · exact ⟨_, _, _, _, _, _, _, _, _, _, _, _, _, _, _, _, _, _, rfl, ⟨nofun, nofun, nofun, nofun, nofun, nofun, nofun, nofun, nofun, nofun, nofun, nofun, nofun, nofun, nofun, nofun, nofun, nofun, fun _ => HPD.out, nofun, nofun, nofun⟩⟩
      · rintro L i o A W hi hL hd hcl ⟨v41, v42, v43, v44, v45, v46, v47, v48, v49, v50, v51, v52, v53, v54, v55, v40, v56, v57, rfl, ⟨h0, h1, h2, h3, h4, h5, h6, h7, h8, h9, h10, h11, h12, h13, h14, h15, h16, h17, hP, hQ, s14, s15⟩⟩
        have hi9 : i < 19 := (Array.getElem?_eq_some_iff.1 hi).1
        rcases (show i = 0 ∨ i = 1 ∨ i = 2 ∨ i = 3 ∨ i = 4 ∨ i = 5 ∨ i = 6 ∨ i = 7 ∨ i = 8 ∨ i = 9 ∨ i = 10 ∨ i = 11 ∨ i = 12 ∨ i = 13 ∨ i = 14 ∨ i = 15 ∨ i = 16 ∨ i = 17 ∨ i = 18 from by omega) with rfl | rfl | rfl | rfl | rfl | rfl | rfl | rfl | rfl | rfl | rfl | rfl | rfl | rfl | rfl | rfl | rfl | rfl | rfl
        · obtain rfl := Option.some.inj hi
          have n18 : L 18 = false := by
            cases e18 : L 18 with
            | false => rfl
            | true =>
              have q16 := hcl 18 _ e18 rfl ⟨16, .data⟩ (by simp) rfl
              have q15 := hcl 16 _ q16 rfl ⟨15, .data⟩ (by simp) rfl
              have q14 := hcl 15 _ q15 rfl ⟨14, .data⟩ (by simp) rfl
              have q0 := hcl 14 _ q14 rfl ⟨0, .data⟩ (by simp) rfl
              have q : L 0 = true := q0
              rw [hL] at q
              cases q
          obtain ⟨⟨q1, q2, q3⟩, _⟩ := (hP n18).cells
          refine RegInv.step_run rfl rfl ?_
          go_simp
          exact ⟨_, _, ⟨rfl, rfl⟩, _, _, _, _, _, _, _, _, _, _, _, _, _, _, _, _, _, _, ⟨rfl, rfl, rfl, rfl, rfl, rfl, rfl, rfl, rfl, rfl, rfl, rfl, rfl, rfl, rfl, rfl, rfl, rfl⟩, ⟨fun _ => rfl, h1, h2, h3, h4, h5, h6, h7, h8, h9, h10, h11, h12, h13, h14, h15, h16, h17, hP, hQ, s14, s15⟩⟩
        · obtain rfl := Option.some.inj hi
          refine RegInv.step_run rfl rfl ?_
          go_simp
          exact ⟨_, _, ⟨rfl, rfl⟩, _, _, _, _, _, _, _, _, _, _, _, _, _, _, _, _, _, _, ⟨rfl, rfl, rfl, rfl, rfl, rfl, rfl, rfl, rfl, rfl, rfl, rfl, rfl, rfl, rfl, rfl, rfl, rfl⟩, ⟨h0, fun _ => rfl, h2, h3, h4, h5, h6, h7, h8, h9, h10, h11, h12, h13, h14, h15, h16, h17, hP, hQ, s14, s15⟩⟩
        · obtain rfl := Option.some.inj hi
          refine RegInv.step_run rfl rfl ?_
          go_simp
          exact ⟨_, _, ⟨rfl, rfl⟩, _, _, _, _, _, _, _, _, _, _, _, _, _, _, _, _, _, _, ⟨rfl, rfl, rfl, rfl, rfl, rfl, rfl, rfl, rfl, rfl, rfl, rfl, rfl, rfl, rfl, rfl, rfl, rfl⟩, ⟨h0, h1, fun _ => rfl, h3, h4, h5, h6, h7, h8, h9, h10, h11, h12, h13, h14, h15, h16, h17, hP, hQ, s14, s15⟩⟩
        · obtain rfl := Option.some.inj hi
          have e2 := (h2 (hd ⟨2, .data⟩ (by simp) rfl))
          subst e2
          have hw : IntKind.i64.wrap ((x4 : Int) + 1) = (x4 : Int) + 1 := IntWalk.i64_in _ (by omega)
          refine RegInv.step_run rfl rfl ?_
          go_simp
          exact ⟨_, _, ⟨rfl, rfl⟩, _, _, _, _, _, _, _, _, _, _, _, _, _, _, _, _, _, _, ⟨rfl, rfl, rfl, rfl, rfl, rfl, rfl, rfl, rfl, rfl, rfl, rfl, rfl, rfl, rfl, rfl, rfl, rfl⟩, ⟨h0, h1, h2, fun _ => ⟨_, ⟨by omega, by omega⟩, rfl⟩, h4, h5, h6, h7, h8, h9, h10, h11, h12, h13, h14, h15, h16, h17, hP, hQ, s14, s15⟩⟩
        · obtain rfl := Option.some.inj hi
          refine RegInv.step_run rfl rfl ?_
          go_simp
          exact ⟨_, _, ⟨rfl, rfl⟩, _, _, _, _, _, _, _, _, _, _, _, _, _, _, _, _, _, _, ⟨rfl, rfl, rfl, rfl, rfl, rfl, rfl, rfl, rfl, rfl, rfl, rfl, rfl, rfl, rfl, rfl, rfl, rfl⟩, ⟨h0, h1, h2, h3, fun _ => rfl, h5, h6, h7, h8, h9, h10, h11, h12, h13, h14, h15, h16, h17, hP, hQ, s14, s15⟩⟩
        · obtain rfl := Option.some.inj hi
          have e4 := (h4 (hd ⟨4, .data⟩ (by simp) rfl))
          subst e4
          have n18 : L 18 = false := by
            cases e18 : L 18 with
            | false => rfl
            | true =>
              have q16 := hcl 18 _ e18 rfl ⟨16, .data⟩ (by simp) rfl
              have q15 := hcl 16 _ q16 rfl ⟨15, .data⟩ (by simp) rfl
              have q14 := hcl 15 _ q15 rfl ⟨14, .data⟩ (by simp) rfl
              have q13 := hcl 14 _ q14 rfl ⟨13, .data⟩ (by simp) rfl
              have q6 := hcl 13 _ q13 rfl ⟨6, .data⟩ (by simp) rfl
              have q5 := hcl 6 _ q6 rfl ⟨5, .data⟩ (by simp) rfl
              have q : L 5 = true := q5
              rw [hL] at q
              cases q
          refine RegInv.step_fn #[.pointer (some ⟨b, 0, none⟩), .int .i64 10] rfl Try.func34 (by kernel_rfl) (by kernel_rfl) rfl ((below_c w W b a len cap 10 (hP n18).cur (by omega)).mono ?_)
          rintro e W2 ⟨u, hu, rfl, hg2⟩
          exact ⟨_, rfl, _, _, _, _, _, _, _, _, _, _, _, _, _, _, _, _, _, _, rfl, ⟨h0, h1, h2, h3, h4, fun _ => ⟨u, lt_of_max hu (by decide), rfl⟩, h6, h7, h8, h9, h10, h11, h12, h13, fun a b => GotF.cur (h14 a b) hg2, fun a b => GotF.cur (h15 a b) hg2, fun a b => GotA.cur (h16 a b) hg2, h17, fun g0 => ((hP g0)).only hg2, fun g0 => by obtain ⟨l', p, k, h, hl⟩ := (hQ g0); exact ⟨l', p, k, h.only hg2, hl⟩, s14, s15⟩⟩
        · obtain rfl := Option.some.inj hi
          obtain ⟨z3, hx3, e3⟩ := (h3 (hd ⟨3, .data⟩ (by simp) rfl))
          subst e3
          obtain ⟨z5, hx5, e5⟩ := (h5 (hd ⟨5, .data⟩ (by simp) rfl))
          subst e5
          have hw : IntKind.i64.wrap (z3 + (z5 : Int)) = z3 + (z5 : Int) := IntWalk.i64_in _ (by omega)
          refine RegInv.step_run rfl rfl ?_
          go_simp
          exact ⟨_, _, ⟨rfl, rfl⟩, _, _, _, _, _, _, _, _, _, _, _, _, _, _, _, _, _, _, ⟨rfl, rfl, rfl, rfl, rfl, rfl, rfl, rfl, rfl, rfl, rfl, rfl, rfl, rfl, rfl, rfl, rfl, rfl⟩, ⟨h0, h1, h2, h3, h4, h5, fun _ => ⟨_, ⟨by omega, by omega⟩, rfl⟩, h7, h8, h9, h10, h11, h12, h13, h14, h15, h16, h17, hP, hQ, s14, s15⟩⟩
        · obtain rfl := Option.some.inj hi
          refine RegInv.step_run rfl rfl ?_
          go_simp
          exact ⟨_, _, ⟨rfl, rfl⟩, _, _, _, _, _, _, _, _, _, _, _, _, _, _, _, _, _, _, ⟨rfl, rfl, rfl, rfl, rfl, rfl, rfl, rfl, rfl, rfl, rfl, rfl, rfl, rfl, rfl, rfl, rfl, rfl⟩, ⟨h0, h1, h2, h3, h4, h5, h6, fun _ => rfl, h8, h9, h10, h11, h12, h13, h14, h15, h16, h17, hP, hQ, s14, s15⟩⟩
        · obtain rfl := Option.some.inj hi
          have e7 := (h7 (hd ⟨7, .data⟩ (by simp) rfl))
          subst e7
          have hw : IntKind.i64.wrap (10 * (j : Int)) = 10 * (j : Int) := IntWalk.i64_in _ (by omega)
          refine RegInv.step_run rfl rfl ?_
          go_simp
          exact ⟨_, _, ⟨rfl, rfl⟩, _, _, _, _, _, _, _, _, _, _, _, _, _, _, _, _, _, _, ⟨rfl, rfl, rfl, rfl, rfl, rfl, rfl, rfl, rfl, rfl, rfl, rfl, rfl, rfl, rfl, rfl, rfl, rfl⟩, ⟨h0, h1, h2, h3, h4, h5, h6, h7, fun _ => ⟨_, ⟨by omega, by omega⟩, rfl⟩, h9, h10, h11, h12, h13, h14, h15, h16, h17, hP, hQ, s14, s15⟩⟩
        · obtain rfl := Option.some.inj hi
          refine RegInv.step_run rfl rfl ?_
          go_simp
          exact ⟨_, _, ⟨rfl, rfl⟩, _, _, _, _, _, _, _, _, _, _, _, _, _, _, _, _, _, _, ⟨rfl, rfl, rfl, rfl, rfl, rfl, rfl, rfl, rfl, rfl, rfl, rfl, rfl, rfl, rfl, rfl, rfl, rfl⟩, ⟨h0, h1, h2, h3, h4, h5, h6, h7, h8, fun _ => rfl, h10, h11, h12, h13, h14, h15, h16, h17, hP, hQ, s14, s15⟩⟩
        · obtain rfl := Option.some.inj hi
          have e9 := (h9 (hd ⟨9, .data⟩ (by simp) rfl))
          subst e9
          have n18 : L 18 = false := by
            cases e18 : L 18 with
            | false => rfl
            | true =>
              have q16 := hcl 18 _ e18 rfl ⟨16, .data⟩ (by simp) rfl
              have q15 := hcl 16 _ q16 rfl ⟨15, .data⟩ (by simp) rfl
              have q14 := hcl 15 _ q15 rfl ⟨14, .data⟩ (by simp) rfl
              have q13 := hcl 14 _ q14 rfl ⟨13, .data⟩ (by simp) rfl
              have q12 := hcl 13 _ q13 rfl ⟨12, .data⟩ (by simp) rfl
              have q11 := hcl 12 _ q12 rfl ⟨11, .data⟩ (by simp) rfl
              have q10 := hcl 11 _ q11 rfl ⟨10, .data⟩ (by simp) rfl
              have q : L 10 = true := q10
              rw [hL] at q
              cases q
          refine RegInv.step_fn #[.pointer (some ⟨b, 0, none⟩), .int .i64 1000] rfl Try.func34 (by kernel_rfl) (by kernel_rfl) rfl ((below_c w W b a len cap 1000 (hP n18).cur (by omega)).mono ?_)
          rintro e W2 ⟨u, hu, rfl, hg2⟩
          exact ⟨_, rfl, _, _, _, _, _, _, _, _, _, _, _, _, _, _, _, _, _, _, rfl, ⟨h0, h1, h2, h3, h4, h5, h6, h7, h8, h9, fun _ => ⟨u, lt_of_max hu (by decide), rfl⟩, h11, h12, h13, fun a b => GotF.cur (h14 a b) hg2, fun a b => GotF.cur (h15 a b) hg2, fun a b => GotA.cur (h16 a b) hg2, h17, fun g0 => ((hP g0)).only hg2, fun g0 => by obtain ⟨l', p, k, h, hl⟩ := (hQ g0); exact ⟨l', p, k, h.only hg2, hl⟩, s14, s15⟩⟩
        · obtain rfl := Option.some.inj hi
          obtain ⟨z10, hx10, e10⟩ := (h10 (hd ⟨10, .data⟩ (by simp) rfl))
          subst e10
          have hw : IntKind.i64.wrap ((z10 : Int) * 100) = (z10 : Int) * 100 := IntWalk.i64_in _ (by omega)
          refine RegInv.step_run rfl rfl ?_
          go_simp
          exact ⟨_, _, ⟨rfl, rfl⟩, _, _, _, _, _, _, _, _, _, _, _, _, _, _, _, _, _, _, ⟨rfl, rfl, rfl, rfl, rfl, rfl, rfl, rfl, rfl, rfl, rfl, rfl, rfl, rfl, rfl, rfl, rfl, rfl⟩, ⟨h0, h1, h2, h3, h4, h5, h6, h7, h8, h9, h10, fun _ => ⟨_, ⟨by omega, by omega⟩, rfl⟩, h12, h13, h14, h15, h16, h17, hP, hQ, s14, s15⟩⟩
        · obtain rfl := Option.some.inj hi
          obtain ⟨z11, hx11, e11⟩ := (h11 (hd ⟨11, .data⟩ (by simp) rfl))
          subst e11
          have hw : IntKind.i64.wrap (100000 + z11) = 100000 + z11 := IntWalk.i64_in _ (by omega)
          refine RegInv.step_run rfl rfl ?_
          go_simp
          exact ⟨_, _, ⟨rfl, rfl⟩, _, _, _, _, _, _, _, _, _, _, _, _, _, _, _, _, _, _, ⟨rfl, rfl, rfl, rfl, rfl, rfl, rfl, rfl, rfl, rfl, rfl, rfl, rfl, rfl, rfl, rfl, rfl, rfl⟩, ⟨h0, h1, h2, h3, h4, h5, h6, h7, h8, h9, h10, h11, fun _ => ⟨_, ⟨by omega, by omega⟩, rfl⟩, h13, h14, h15, h16, h17, hP, hQ, s14, s15⟩⟩
        · obtain rfl := Option.some.inj hi
          have e1 := (h1 (hd ⟨1, .data⟩ (by simp) rfl))
          subst e1
          obtain ⟨z6, hx6, e6⟩ := (h6 (hd ⟨6, .data⟩ (by simp) rfl))
          subst e6
          obtain ⟨z8, hx8, e8⟩ := (h8 (hd ⟨8, .data⟩ (by simp) rfl))
          subst e8
          obtain ⟨z12, hx12, e12⟩ := (h12 (hd ⟨12, .data⟩ (by simp) rfl))
          subst e12
          refine RegInv.step_run rfl rfl ?_
          go_simp
          exact ⟨_, _, ⟨rfl, rfl⟩, _, _, _, _, _, _, _, _, _, _, _, _, _, _, _, _, _, _, ⟨rfl, rfl, rfl, rfl, rfl, rfl, rfl, rfl, rfl, rfl, rfl, rfl, rfl, rfl, rfl, rfl, rfl, rfl⟩, ⟨h0, h1, h2, h3, h4, h5, h6, h7, h8, h9, h10, h11, h12, fun _ => ⟨_, _, _, _, _, ⟨rfl, by simp only []; omega, by simp only []; omega, by simp only []; omega, by simp only []; omega, by simp only []; omega, hx12.1, hx12.2⟩, rfl⟩, h14, h15, h16, h17, hP, hQ, s14, s15⟩⟩
        · obtain rfl := Option.some.inj hi
          have e0 := (h0 (hd ⟨0, .data⟩ (by simp) rfl))
          subst e0
          obtain ⟨y1, y2, y3, y4, y5, hx13, e13⟩ := (h13 (hd ⟨13, .data⟩ (by simp) rfl))
          subst e13
          have n18 : L 18 = false := by
            cases e18 : L 18 with
            | false => rfl
            | true =>
              have q16 := hcl 18 _ e18 rfl ⟨16, .data⟩ (by simp) rfl
              have q15 := hcl 16 _ q16 rfl ⟨15, .data⟩ (by simp) rfl
              have q14 := hcl 15 _ q15 rfl ⟨14, .data⟩ (by simp) rfl
              have q : L 14 = true := q14
              rw [hL] at q
              cases q
          refine RegInv.step_fn #[.agg #[.slice p5 m5 k5], .agg #[.int .i64 y1, .int .i64 y2, .int .i64 y3, .int .i64 y4, .int .i64 y5]] rfl Try.func33 (by kernel_rfl) (by kernel_rfl) rfl ((AddFact.add_s W p5 m5 k5 lf ⟨y1, y2, y3, y4, y5⟩ HM5.out hm5' (reads_own Fact.fw (hP n18).o5)).mono ?_)
          rintro e W2 ⟨p6, k6, rfl, ho, hb⟩
          have hlen := len_f lf ⟨y1, y2, y3, y4, y5⟩
          rw [HM5.out] at hlen
          have hpaid := HPL.out.added hx13
          have hlt := (hP n18).cur.lt
          exact ⟨_, rfl, _, _, _, _, _, _, _, _, _, _, _, _, _, _, _, _, _, _, rfl, ⟨h0, h1, h2, h3, h4, h5, h6, h7, h8, h9, h10, h11, h12, h13, fun _ _ => ⟨_, p6, k6, _, rfl, ho.base (by omega), hlen, hpaid⟩, fun a b => GotF.on (h15 a b) hb, fun a b => GotA.on (h16 a b) hb, h17, fun g0 => ((hP g0)).on hb, fun g0 => by obtain ⟨l', p, k, h, hl⟩ := (hQ g0); exact ⟨l', p, k, h.on hb, hl⟩, fun _ => ⟨_, _, _, _, rfl⟩, s15⟩⟩
        · obtain rfl := Option.some.inj hi
          refine RegInv.step_run rfl rfl ?_
          go_simp
          exact ⟨_, _, ⟨rfl, rfl⟩, _, _, _, _, _, _, _, _, _, _, _, _, _, _, _, _, _, _, ⟨rfl, rfl, rfl, rfl, rfl, rfl, rfl, rfl, rfl, rfl, rfl, rfl, rfl, rfl, rfl, rfl, rfl, rfl⟩, ⟨h0, h1, h2, h3, h4, h5, h6, h7, h8, h9, h10, h11, h12, h13, h14, fun _ b => h14 (hd ⟨14, .data⟩ (by simp) rfl) b, h16, h17, hP, hQ, s14, fun _ => s14 (hd ⟨14, .data⟩ (by simp) rfl)⟩⟩
        · obtain rfl := Option.some.inj hi
          have n18 : L 18 = false := by
            cases e18 : L 18 with
            | false => rfl
            | true =>
              have q16 := hcl 18 _ e18 rfl ⟨16, .data⟩ (by simp) rfl
              have q : L 16 = true := q16
              rw [hL] at q
              cases q
          obtain ⟨l', p, k, bb, e15, ho, hl⟩ := h15 (hd ⟨15, .data⟩ (by simp) rfl) n18
          subst e15
          refine RegInv.step_run rfl rfl ?_
          go_simp
          exact ⟨_, _, ⟨rfl, rfl⟩, _, _, _, _, _, _, _, _, _, _, _, _, _, _, _, _, _, _, ⟨rfl, rfl, rfl, rfl, rfl, rfl, rfl, rfl, rfl, rfl, rfl, rfl, rfl, rfl, rfl, rfl, rfl, rfl⟩, ⟨h0, h1, h2, h3, h4, h5, h6, h7, h8, h9, h10, h11, h12, h13, h14, h15, fun _ _ => ⟨l', p, k, rfl, ho, hl⟩, h17, hP, hQ, s14, s15⟩⟩
        · obtain rfl := Option.some.inj hi
          obtain ⟨p, n, k, bb, e15⟩ := s15 (hd ⟨15, .data⟩ (by simp) rfl)
          subst e15
          refine RegInv.step_run rfl rfl ?_
          go_simp
          exact ⟨_, _, ⟨rfl, rfl⟩, _, _, _, _, _, _, _, _, _, _, _, _, _, _, _, _, _, _, ⟨rfl, rfl, rfl, rfl, rfl, rfl, rfl, rfl, rfl, rfl, rfl, rfl, rfl, rfl, rfl, rfl, rfl, rfl⟩, ⟨h0, h1, h2, h3, h4, h5, h6, h7, h8, h9, h10, h11, h12, h13, h14, h15, h16, fun _ => ⟨_, rfl⟩, hP, hQ, s14, s15⟩⟩
        · obtain rfl := Option.some.inj hi
          obtain ⟨l', p, k, e16, ho, hl⟩ := h16 (hd ⟨16, .data⟩ (by simp) rfl) hL
          subst e16
          have hP' := hP hL
          obtain ⟨⟨q1, q2, q3⟩, _⟩ := hP'.cells
          refine RegInv.step_skip rfl rfl ?_
          go_simp
          exact ⟨_, _, _, _, _, _, _, _, _, _, _, _, _, _, _, _, _, _, ⟨rfl, rfl, rfl, rfl, rfl, rfl, rfl, rfl, rfl, rfl, rfl, rfl, rfl, rfl, rfl, rfl, rfl, rfl⟩, ⟨h0, h1, h2, h3, h4, h5, h6, h7, h8, h9, h10, h11, h12, h13, fun _ b => absurd (show true = false from b) (by decide), fun _ b => absurd (show true = false from b) (by decide), fun _ b => absurd (show true = false from b) (by decide), h17, fun b => absurd (show true = false from b) (by decide), fun _ => ⟨l', p, k, hP'.set5 ho, hl⟩, s14, s15⟩⟩
      · rintro L A W hL ⟨v41, v42, v43, v44, v45, v46, v47, v48, v49, v50, v51, v52, v53, v54, v55, v40, v56, v57, rfl, ⟨h0, h1, h2, h3, h4, h5, h6, h7, h8, h9, h10, h11, h12, h13, h14, h15, h16, h17, hP, hQ, s14, s15⟩⟩
        obtain ⟨l8, p8, k8, hP8, hl8⟩ := hQ (hL 18 (by decide))
        clear hL h0 h1 h2 h3 h4 h5 h6 h7 h8 h9 h10 h11 h12 h13 h14 h15 h16 h17 hP hQ s14 s15 HPD HP3
        have HP9 := Lib.hid hP8
        have HPD9 := Lib.hid hP8.drew
        have HL8 := Lib.hid hl8
        clear hP8 hl8
        go_wp2_with fail
        refine RegInv.wp_region_inv2 (fun L A W => ∃ v59 v60 v61 v62 v63 v64 v65 v66 v67 v68 v58 v69 v70, A = ⟨#[.slice a len cap, undef, .pointer (some ⟨w.heap.size, 0, none⟩), .pointer (some ⟨w.heap.size + 1, 0, none⟩), .pointer (some ⟨b, 0, none⟩), .pointer (some ⟨g5, 0, none⟩), .bool bf, .pointer (some ⟨g7, 0, none⟩), .bool true, .int .i64 (j : Int), .int .i64 (x4 : Int), .slice a len cap, .pointer (some ⟨b, 0, none⟩), .tuple #[.agg #[.slice pA lf0.length cA], .bool bf], .agg #[.slice none 0 0], .pointer (some ⟨b, 0, none⟩), .int .i64 (x1 : Int), .int .i64 ((x1 : Int) * 100), .int .i64 (100000 + (x1 : Int) * 100), .agg #[.int .i64 1, .int .i64 0, .int .i64 60, .int .i64 0, .int .i64 (100000 + (x1 : Int) * 100)], .tuple #[.agg #[.slice pA lf0.length cA], .bool bf], .agg #[.slice pA lf0.length cA], .bool bf, .tuple #[.agg #[.slice pB 1 cB], .bool true], .agg #[.slice none 0 0], .pointer (some ⟨b, 0, none⟩), .int .i64 (x2 : Int), .int .i64 (9000 + (x2 : Int)), .agg #[.int .i64 0, .int .i64 0, .int .i64 (9000 + (x2 : Int))], .tuple #[.agg #[.slice pB 1 cB], .bool true], .agg #[.slice pB 1 cB], .bool true, .int .i64 (j : Int), .pointer (some ⟨b, 0, none⟩), .int .i64 (x3 : Int), .bool true, u36, u37, .pointer (some ⟨b, 0, none⟩), .int .i64 (x4 : Int), v40, v41, v42, v43, v44, v45, v46, v47, v48, v49, v50, v51, v52, v53, v54, v55, v56, v57, v58, v59, v60, v61, v62, v63, v64, v65, v66, v67, v68, v69, v70, undef, undef], []⟩ ∧ Inv9 w b g5 g7 a len cap p7 m7 k7 ls j p8 k8 l8 L v59 v60 v61 v62 v63 v64 v65 v66 v67 v68 v58 v69 v70 W) (by kernel_rfl) (by kernel_rfl) ?_ ?_ ?_
        · exact ⟨_, _, _, _, _, _, _, _, _, _, _, _, _, rfl, ⟨nofun, nofun, nofun, nofun, nofun, nofun, nofun, nofun, nofun, nofun, nofun, nofun, nofun, fun _ => HPD9.out, nofun, nofun, nofun⟩⟩
        · rintro L i o A W hi hL hd hcl ⟨v59, v60, v61, v62, v63, v64, v65, v66, v67, v68, v58, v69, v70, rfl, ⟨h0, h1, h2, h3, h4, h5, h6, h7, h8, h9, h10, h11, h12, hP, hQ, s9, s10⟩⟩
          have hi9 : i < 14 := (Array.getElem?_eq_some_iff.1 hi).1
          rcases (show i = 0 ∨ i = 1 ∨ i = 2 ∨ i = 3 ∨ i = 4 ∨ i = 5 ∨ i = 6 ∨ i = 7 ∨ i = 8 ∨ i = 9 ∨ i = 10 ∨ i = 11 ∨ i = 12 ∨ i = 13 from by omega) with rfl | rfl | rfl | rfl | rfl | rfl | rfl | rfl | rfl | rfl | rfl | rfl | rfl | rfl
          · obtain rfl := Option.some.inj hi
            have n13 : L 13 = false := by
              cases e13 : L 13 with
              | false => rfl
              | true =>
                have q11 := hcl 13 _ e13 rfl ⟨11, .data⟩ (by simp) rfl
                have q10 := hcl 11 _ q11 rfl ⟨10, .data⟩ (by simp) rfl
                have q9 := hcl 10 _ q10 rfl ⟨9, .data⟩ (by simp) rfl
                have q0 := hcl 9 _ q9 rfl ⟨0, .data⟩ (by simp) rfl
                have q : L 0 = true := q0
                rw [hL] at q
                cases q
            obtain ⟨_, q1, q2, q3⟩ := (hP n13).cells
            refine RegInv.step_run rfl rfl ?_
            go_simp
            exact ⟨_, _, ⟨rfl, rfl⟩, _, _, _, _, _, _, _, _, _, _, _, _, _, ⟨rfl, rfl, rfl, rfl, rfl, rfl, rfl, rfl, rfl, rfl, rfl, rfl, rfl⟩, ⟨fun _ => rfl, h1, h2, h3, h4, h5, h6, h7, h8, h9, h10, h11, h12, hP, hQ, s9, s10⟩⟩
          · obtain rfl := Option.some.inj hi
            refine RegInv.step_run rfl rfl ?_
            go_simp
            exact ⟨_, _, ⟨rfl, rfl⟩, _, _, _, _, _, _, _, _, _, _, _, _, _, ⟨rfl, rfl, rfl, rfl, rfl, rfl, rfl, rfl, rfl, rfl, rfl, rfl, rfl⟩, ⟨h0, fun _ => rfl, h2, h3, h4, h5, h6, h7, h8, h9, h10, h11, h12, hP, hQ, s9, s10⟩⟩
          · obtain rfl := Option.some.inj hi
            have e1 := (h1 (hd ⟨1, .data⟩ (by simp) rfl))
            subst e1
            refine RegInv.step_run rfl rfl ?_
            go_simp
            exact ⟨_, _, ⟨rfl, rfl⟩, _, _, _, _, _, _, _, _, _, _, _, _, _, ⟨rfl, rfl, rfl, rfl, rfl, rfl, rfl, rfl, rfl, rfl, rfl, rfl, rfl⟩, ⟨h0, h1, fun _ => ⟨_, rfl⟩, h3, h4, h5, h6, h7, h8, h9, h10, h11, h12, hP, hQ, s9, s10⟩⟩
          · obtain rfl := Option.some.inj hi
            refine RegInv.step_run rfl rfl ?_
            go_simp
            exact ⟨_, _, ⟨rfl, rfl⟩, _, _, _, _, _, _, _, _, _, _, _, _, _, ⟨rfl, rfl, rfl, rfl, rfl, rfl, rfl, rfl, rfl, rfl, rfl, rfl, rfl⟩, ⟨h0, h1, h2, fun _ => rfl, h4, h5, h6, h7, h8, h9, h10, h11, h12, hP, hQ, s9, s10⟩⟩
          · obtain rfl := Option.some.inj hi
            have e3 := (h3 (hd ⟨3, .data⟩ (by simp) rfl))
            subst e3
            refine RegInv.step_run rfl rfl ?_
            go_simp
            exact ⟨_, _, ⟨rfl, rfl⟩, _, _, _, _, _, _, _, _, _, _, _, _, _, ⟨rfl, rfl, rfl, rfl, rfl, rfl, rfl, rfl, rfl, rfl, rfl, rfl, rfl⟩, ⟨h0, h1, h2, h3, fun _ => ⟨_, rfl⟩, h5, h6, h7, h8, h9, h10, h11, h12, hP, hQ, s9, s10⟩⟩
          · obtain rfl := Option.some.inj hi
            refine RegInv.step_run rfl rfl ?_
            go_simp
            exact ⟨_, _, ⟨rfl, rfl⟩, _, _, _, _, _, _, _, _, _, _, _, _, _, ⟨rfl, rfl, rfl, rfl, rfl, rfl, rfl, rfl, rfl, rfl, rfl, rfl, rfl⟩, ⟨h0, h1, h2, h3, h4, fun _ => rfl, h6, h7, h8, h9, h10, h11, h12, hP, hQ, s9, s10⟩⟩
          · obtain rfl := Option.some.inj hi
            have e5 := (h5 (hd ⟨5, .data⟩ (by simp) rfl))
            subst e5
            have n13 : L 13 = false := by
              cases e13 : L 13 with
              | false => rfl
              | true =>
                have q11 := hcl 13 _ e13 rfl ⟨11, .data⟩ (by simp) rfl
                have q10 := hcl 11 _ q11 rfl ⟨10, .data⟩ (by simp) rfl
                have q9 := hcl 10 _ q10 rfl ⟨9, .data⟩ (by simp) rfl
                have q8 := hcl 9 _ q9 rfl ⟨8, .data⟩ (by simp) rfl
                have q7 := hcl 8 _ q8 rfl ⟨7, .data⟩ (by simp) rfl
                have q6 := hcl 7 _ q7 rfl ⟨6, .data⟩ (by simp) rfl
                have q : L 6 = true := q6
                rw [hL] at q
                cases q
            refine RegInv.step_fn #[.pointer (some ⟨b, 0, none⟩), .int .i64 4000] rfl Try.func34 (by kernel_rfl) (by kernel_rfl) rfl ((below_c w W b a len cap 4000 (hP n13).cur (by omega)).mono ?_)
            rintro e W2 ⟨u, hu, rfl, hg2⟩
            exact ⟨_, rfl, _, _, _, _, _, _, _, _, _, _, _, _, _, rfl, ⟨h0, h1, h2, h3, h4, h5, fun _ => ⟨u, lt_of_max hu (by decide), rfl⟩, h7, h8, fun a b => GotS.cur (h9 a b) hg2, fun a b => GotS.cur (h10 a b) hg2, fun a b => GotB.cur (h11 a b) hg2, h12, fun g0 => ((hP g0)).only hg2, fun g0 => by obtain ⟨l', p, k, h, hl⟩ := (hQ g0); exact ⟨l', p, k, h.only hg2, hl⟩, s9, s10⟩⟩
          · obtain rfl := Option.some.inj hi
            obtain ⟨z6, hx6, e6⟩ := (h6 (hd ⟨6, .data⟩ (by simp) rfl))
            subst e6
            have hw : IntKind.i64.wrap (9000 + (z6 : Int)) = 9000 + (z6 : Int) := IntWalk.i64_in _ (by omega)
            refine RegInv.step_run rfl rfl ?_
            go_simp
            exact ⟨_, _, ⟨rfl, rfl⟩, _, _, _, _, _, _, _, _, _, _, _, _, _, ⟨rfl, rfl, rfl, rfl, rfl, rfl, rfl, rfl, rfl, rfl, rfl, rfl, rfl⟩, ⟨h0, h1, h2, h3, h4, h5, h6, fun _ => ⟨_, ⟨by omega, by omega⟩, rfl⟩, h8, h9, h10, h11, h12, hP, hQ, s9, s10⟩⟩
          · obtain rfl := Option.some.inj hi
            obtain ⟨z2, e2⟩ := (h2 (hd ⟨2, .data⟩ (by simp) rfl))
            subst e2
            obtain ⟨z4, e4⟩ := (h4 (hd ⟨4, .data⟩ (by simp) rfl))
            subst e4
            obtain ⟨z7, hx7, e7⟩ := (h7 (hd ⟨7, .data⟩ (by simp) rfl))
            subst e7
            refine RegInv.step_run rfl rfl ?_
            go_simp
            exact ⟨_, _, ⟨rfl, rfl⟩, _, _, _, _, _, _, _, _, _, _, _, _, _, ⟨rfl, rfl, rfl, rfl, rfl, rfl, rfl, rfl, rfl, rfl, rfl, rfl, rfl⟩, ⟨h0, h1, h2, h3, h4, h5, h6, h7, fun _ => ⟨_, _, _, hx7, rfl⟩, h9, h10, h11, h12, hP, hQ, s9, s10⟩⟩
          · obtain rfl := Option.some.inj hi
            have e0 := (h0 (hd ⟨0, .data⟩ (by simp) rfl))
            subst e0
            obtain ⟨y1, y2, y3, hx8, e8⟩ := (h8 (hd ⟨8, .data⟩ (by simp) rfl))
            subst e8
            have n13 : L 13 = false := by
              cases e13 : L 13 with
              | false => rfl
              | true =>
                have q11 := hcl 13 _ e13 rfl ⟨11, .data⟩ (by simp) rfl
                have q10 := hcl 11 _ q11 rfl ⟨10, .data⟩ (by simp) rfl
                have q9 := hcl 10 _ q10 rfl ⟨9, .data⟩ (by simp) rfl
                have q : L 9 = true := q9
                rw [hL] at q
                cases q
            refine RegInv.step_fn #[.agg #[.slice p7 m7 k7], .agg #[.int .i64 y1, .int .i64 y2, .int .i64 y3]] rfl Try.func35 (by kernel_rfl) (by kernel_rfl) rfl ((PubS.pub_s W p7 m7 k7 ls ⟨y1, y2, y3⟩ HM7.out hm7' (reads_own TPoint.fw (hP n13).o7)).mono ?_)
            rintro e W2 ⟨p6, k6, rfl, ho, hb⟩
            have hlen := len_s ls ⟨y1, y2, y3⟩
            rw [HM7.out] at hlen
            have hfull := HFL.out.1.added (x := ⟨y1, y2, y3⟩) hx8.1 hx8.2
            have hlt := (hP n13).cur.lt
            exact ⟨_, rfl, _, _, _, _, _, _, _, _, _, _, _, _, _, rfl, ⟨h0, h1, h2, h3, h4, h5, h6, h7, h8, fun _ _ => ⟨_, p6, k6, _, rfl, ho.base (by omega), hlen, hfull⟩, fun a b => GotS.on (h10 a b) hb, fun a b => GotB.on (h11 a b) hb, h12, fun g0 => ((hP g0)).on hb, fun g0 => by obtain ⟨l', p, k, h, hl⟩ := (hQ g0); exact ⟨l', p, k, h.on hb, hl⟩, fun _ => ⟨_, _, _, _, rfl⟩, s10⟩⟩
          · obtain rfl := Option.some.inj hi
            refine RegInv.step_run rfl rfl ?_
            go_simp
            exact ⟨_, _, ⟨rfl, rfl⟩, _, _, _, _, _, _, _, _, _, _, _, _, _, ⟨rfl, rfl, rfl, rfl, rfl, rfl, rfl, rfl, rfl, rfl, rfl, rfl, rfl⟩, ⟨h0, h1, h2, h3, h4, h5, h6, h7, h8, h9, fun _ b => h9 (hd ⟨9, .data⟩ (by simp) rfl) b, h11, h12, hP, hQ, s9, fun _ => s9 (hd ⟨9, .data⟩ (by simp) rfl)⟩⟩
          · obtain rfl := Option.some.inj hi
            have n13 : L 13 = false := by
              cases e13 : L 13 with
              | false => rfl
              | true =>
                have q11 := hcl 13 _ e13 rfl ⟨11, .data⟩ (by simp) rfl
                have q : L 11 = true := q11
                rw [hL] at q
                cases q
            obtain ⟨l', p, k, bb, e10, ho, hl⟩ := h10 (hd ⟨10, .data⟩ (by simp) rfl) n13
            subst e10
            refine RegInv.step_run rfl rfl ?_
            go_simp
            exact ⟨_, _, ⟨rfl, rfl⟩, _, _, _, _, _, _, _, _, _, _, _, _, _, ⟨rfl, rfl, rfl, rfl, rfl, rfl, rfl, rfl, rfl, rfl, rfl, rfl, rfl⟩, ⟨h0, h1, h2, h3, h4, h5, h6, h7, h8, h9, h10, fun _ _ => ⟨l', p, k, rfl, ho, hl⟩, h12, hP, hQ, s9, s10⟩⟩
          · obtain rfl := Option.some.inj hi
            obtain ⟨p, n, k, bb, e10⟩ := s10 (hd ⟨10, .data⟩ (by simp) rfl)
            subst e10
            refine RegInv.step_run rfl rfl ?_
            go_simp
            exact ⟨_, _, ⟨rfl, rfl⟩, _, _, _, _, _, _, _, _, _, _, _, _, _, ⟨rfl, rfl, rfl, rfl, rfl, rfl, rfl, rfl, rfl, rfl, rfl, rfl, rfl⟩, ⟨h0, h1, h2, h3, h4, h5, h6, h7, h8, h9, h10, h11, fun _ => ⟨_, rfl⟩, hP, hQ, s9, s10⟩⟩
          · obtain rfl := Option.some.inj hi
            obtain ⟨l', p, k, e11, ho, hl⟩ := h11 (hd ⟨11, .data⟩ (by simp) rfl) hL
            subst e11
            have hP' := hP hL
            obtain ⟨_, q1, q2, q3⟩ := hP'.cells
            refine RegInv.step_skip rfl rfl ?_
            go_simp
            exact ⟨_, _, _, _, _, _, _, _, _, _, _, _, _, ⟨rfl, rfl, rfl, rfl, rfl, rfl, rfl, rfl, rfl, rfl, rfl, rfl, rfl⟩, ⟨h0, h1, h2, h3, h4, h5, h6, h7, h8, fun _ b => absurd (show true = false from b) (by decide), fun _ b => absurd (show true = false from b) (by decide), fun _ b => absurd (show true = false from b) (by decide), h12, fun b => absurd (show true = false from b) (by decide), fun _ => ⟨l', p, k, hP'.set7 ho, hl⟩, s9, s10⟩⟩
        · rintro L A W hL ⟨v59, v60, v61, v62, v63, v64, v65, v66, v67, v68, v58, v69, v70, rfl, ⟨h0, h1, h2, h3, h4, h5, h6, h7, h8, h9, h10, h11, h12, hP, hQ, s9, s10⟩⟩
          obtain ⟨l9, p9, k9, hP9, hl9, hf9⟩ := hQ (hL 13 (by decide))
          clear hL h0 h1 h2 h3 h4 h5 h6 h7 h8 h9 h10 h11 h12 hP hQ s9 s10 HPD9 HP9
          have HPE := Lib.hid hP9
          have HFE := Lib.hid (show PointLaws.Full l9 ∧ l8.length ≤ 1 + (j + 1) ∧ l9.length ≤ 1 + (j + 1) from ⟨hf9, by have := HL8.out.1; have := HFL.out.2.1; omega, by have := HFL.out.2.2; omega⟩)
          clear hP9 hl9 hf9
          go_wp2
          go_roundw
          case rel => exact ⟨j + 1, l8, l9, _, _, by omega, by go_num, HFE, Lib.hid HL8.out.2, HPE⟩
          case measure => simp [intOf]; omega
    · have dK : decide ((j : Int) < (x3 : Int)) = false := decide_eq_false hlt
      go_wp2_with fail
      obtain ⟨p5, k5, rfl, _⟩ := HP2.out.o5.form Fact.fw
      obtain ⟨p7, k7, rfl, _⟩ := HP2.out.o7.form TPoint.fw
      obtain ⟨⟨y1, y2, y3⟩, y4, y5, y6⟩ := HP2.out.cells
      have z2 := cell_of_one HP2.out.c2
      have z3 := cell_of_one HP2.out.c3
      have f2 := free_of_one HP2.out.c2
      have f3 := free_of_one HP2.out.c3
      have l2 := lt_of_block HP2.out.c2
      have l3 := lt_of_block HP2.out.c3
      have n1 : g5 ≠ w.heap.size := by have := HP2.out.e5; have := HP2.out.lo; omega
      have n2 : g7 ≠ w.heap.size := by have := HP2.out.e5; have := HP2.out.e7; have := HP2.out.lo; omega
      have n3 : g7 ≠ w.heap.size + 1 := by have := HP2.out.e5; have := HP2.out.e7; have := HP2.out.lo; omega
      have n4 : g5 ≠ w.heap.size + 1 := by have := HP2.out.e5; have := HP2.out.lo; omega
      have n1' := n1.symm
      have n2' := n2.symm
      have n3' := n3.symm
      have n4' := n4.symm
      go_region_held3 (fun W => W.cell? ⟨g5, 0, none⟩ = some (.slice p5 lf.length k5) ∧ W.cell? ⟨g7, 0, none⟩ = some (.slice p7 ls.length k7)) (go_keep) (fail)
      all_goals (try go_wp2)
      all_goals
        refine bodyPost_ret (v := .tuple #[.agg #[.slice p5 lf.length k5], .agg #[.slice p7 ls.length k7]]) (by simp [results, Try.results12, go_sem, *]) rfl
          ⟨lf, p5, k5, ls, p7, k7, ⟨HPL.out, by have := HFL.out.2.1; omega, ?_⟩, HFL.out.1, by have := HFL.out.2.2; omega, rfl, ?_, ?_⟩
        · first
            | exact ((HP2.out.o5.beside (row_ne HP2.out.o5 HP2.out.c2 (by decide)) _).beside (row_ne HP2.out.o5 HP2.out.c3 (by decide)) _).base (by have := HP2.out.lo; omega)
            | exact ((HP2.out.o5.beside (row_ne HP2.out.o5 HP2.out.c3 (by decide)) _).beside (row_ne HP2.out.o5 HP2.out.c2 (by decide)) _).base (by have := HP2.out.lo; omega)
        · first
            | exact ((HP2.out.o7.beside (row_ne HP2.out.o7 HP2.out.c2 (by decide)) _).beside (row_ne HP2.out.o7 HP2.out.c3 (by decide)) _).base (by have := HP2.out.lo; omega)
            | exact ((HP2.out.o7.beside (row_ne HP2.out.o7 HP2.out.c3 (by decide)) _).beside (row_ne HP2.out.o7 HP2.out.c2 (by decide)) _).base (by have := HP2.out.lo; omega)
        · exact (Below.setCell (Below.setCell HP2.out.cur.bel (by simp) _) (by simp) _).drew
end Go.Proofs.Ytdmkceaonfbebaa.DrawPay
