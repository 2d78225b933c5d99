/- Contracts of the drawn fraction: a small valid one; nothing that was there is written. -/
import Derived.Test.YtiogpiopgcbdbaaDoorRows
import Derived.Test.YtiogpiopgcbdbaaDoorKit
import Derived.Test.YtiogpiopgcbdbaaDoorFracMake
import Derived.Test.YtiogpiopgcbdbaaDoorFracS
import Derived.Test.YtiogpiopgcbdbaaDoorCur
import Derived.Lib.Hide
namespace Go.Proofs.YtiogpiopgcbdbaaDoor.DrawFrac
open Go.RowKit CurKit CurByte Cur FracMath FracMake BelowKit

def SomeSmall (R : World → Prop) (e : Ending) (w' : World) : Prop := ∃ n d : Int, SmallF n d ∧ e = .returned (.agg #[.int .i64 n, .int .i64 d]) ∧ R w'

theorem OnlyB.below' {b : Nat} {w w' : World} (h : Below w.heap.size w w') : OnlyB b w w' := (BX.below h).only

set_option maxRecDepth 100000 in
set_option maxHeartbeats 1000000 in
theorem frac_c (w0 w : World) (b : Nat) (a : Option Addr) (len cap : Nat) (hc : CurIn 81 w0 w b a len cap) :
    Calls Tryd.prog 25 #[.pointer (some ⟨b, 0, none⟩)] w (SomeSmall (Goes w0 w b a len cap)) := by
  have HC := Lib.hid (hc.alloc (.cells #[.int .i64 0, .int .i64 0] 25))
  have hlt := hc.lt
  clear hc
  go_enter Tryd.func25, Tryd.ntmps25
  go_wp2_with fail
  refine (below_c w0 _ b a len cap 2001 HC.out (by omega)).mono ?_
  rintro e w1 ⟨n, hn, rfl, h1⟩
  have H1 := Lib.hid h1
  have hz1 := h1.2.size
  simp at hz1
  have hn2 : (n : Int) < 2001 := by omega
  clear h1 hn
  go_wp2_with fail
  refine (below_c w0 _ b a len cap 60 H1.out.1 (by omega)).mono ?_
  rintro e w2 ⟨d, hd, rfl, h2⟩
  have H2 := Lib.hid h2
  have hz2 := h2.2.size
  have hd2 : (d : Int) < 60 := by omega
  obtain ⟨x, y, hr, hs⟩ := new_small (n := (n : Int) - 1000) (d := 1 + (d : Int)) (by omega) (by omega) (by omega) (by omega)
  have HR := Lib.hid hr
  have HS := Lib.hid hs
  clear h2 hd hr hs
  go_wp2_with fail
  refine (FracS.new_s _ _ _).mono ?_
  rintro e w3 ⟨rfl, hb3⟩
  rw [HR.out]
  have hz3 := hb3.size
  have hlt3 : w.heap.size < w3.heap.size := by omega
  have hblk : w3.heap[w.heap.size]? = some (.cells #[.int .i64 0, .int .i64 0] 25 (0, 0)) := by
    rw [hb3.block _ (by omega), H2.out.2.block _ (by omega) (by simp; omega), H1.out.2.block _ (by simp) (by simp; omega)]
    exact heap_alloc_new w _
  have c0 : w3.cell? ⟨w.heap.size, 0, none⟩ = some (.int .i64 0) := by rw [cell_of_row w3 _ 0 _ _ _ hblk]; rfl
  have c1 : w3.cell? ⟨w.heap.size, 1, none⟩ = some (.int .i64 0) := by rw [cell_of_row w3 _ 1 _ _ _ hblk]; rfl
  have f0 : w3.frozen? ⟨w.heap.size, 0, none⟩ = false := frozen_of_row w3 _ 0 _ _ hblk
  have f1 : w3.frozen? ⟨w.heap.size, 1, none⟩ = false := frozen_of_row w3 _ 1 _ _ hblk
  have HB3 := Lib.hid hb3
  clear hb3 hblk
  go_wp2
  refine bodyPost_ret (v := .agg #[.int .i64 x, .int .i64 y]) (by simp [results, Tryd.results25, c0, c1, hlt3, go_sem]) rfl ⟨x, y, HS.out, rfl, ?_⟩
  have G2 : CurIn 81 w0 w3 b a len cap := H2.out.1.below HB3.out H2.out.1.lt
  have O2 : OnlyB b (w.alloc (.cells #[.int .i64 0, .int .i64 0] 25)) w3 := (H1.out.2.trans H2.out.2).trans (OnlyB.below' HB3.out)
  have bx : BX b w.heap.size w w3 := ((OnlyB.refl b w).alloc _).trans O2 |>.bx (Nat.le_refl _)
  have b1 : Below w.heap.size w3 (w3.setCell ⟨w.heap.size, 0, none⟩ (.int .i64 x)) := Below.setCell (Below.refl w.heap.size w3) (by exact Nat.le_refl _) _
  have b2 : Below w.heap.size w3 ((w3.setCell ⟨w.heap.size, 0, none⟩ (.int .i64 x)).setCell ⟨w.heap.size, 1, none⟩ (.int .i64 y)) := b1.setCell (by exact Nat.le_refl _) _
  have bl : Below w.heap.size w3 (((w3.setCell ⟨w.heap.size, 0, none⟩ (.int .i64 x)).setCell ⟨w.heap.size, 1, none⟩ (.int .i64 y)).alloc (.cells #[.int .i64 x, .int .i64 y] 25)) :=
    b2.alloc (by have := b2.size; omega) _
  exact ⟨G2.below bl hlt, (bx.trans (BX.below bl)).only⟩

def Small (w : World) (e : Ending) (w' : World) : Prop := ∃ n d : Int, SmallF n d ∧ e = .returned (.agg #[.int .i64 n, .int .i64 d]) ∧ Below w.heap.size w w'

set_option maxHeartbeats 1000000 in
theorem draw_c (w : World) (a : Option Addr) (len cap : Nat) (hcode : CodeAt w a len) (hs : len ≤ maxLen) :
    Calls Tryd.prog 9 #[.slice a len cap] w (Small w) := by
  have HK := Lib.hid (show CodeAt (w.alloc (.cells #[.int .i64 0, .int .i64 0] 25)) a len from fun j hj => by
    obtain ⟨blk, off, n, h1, h2, h3, h4⟩ := hcode j hj
    exact ⟨blk, off, n, h1, by simp; omega, by rw [Below.cell ((Below.refl w.heap.size w).alloc (Nat.le_refl _) _) h2]; exact h3, h4⟩)
  have HS := Lib.hid hs
  clear hcode hs
  go_enter Tryd.func9, Tryd.ntmps9
  go_wp2_with fail
  refine (new_c _ a len cap HK.out HS.out).mono ?_
  rintro e w1 ⟨rfl, h1⟩
  rw [show (w.alloc (.cells #[.int .i64 0, .int .i64 0] 25)).heap.size = w.heap.size + 1 by simp] at h1 ⊢
  have H1 := Lib.hid h1
  clear h1
  go_wp2_with fail
  refine (frac_c _ w1 (w.heap.size + 1) a len cap H1.out).mono ?_
  rintro e w2 ⟨x, y, hs, rfl, h2⟩
  have hb2 := h2.1.bel
  have HS2 := Lib.hid hs
  obtain ⟨hc2, hf2⟩ := bcell hb2
  have hz2 := hb2.size
  simp at hz2
  have q0 : w2.cell? ⟨w.heap.size, 0, none⟩ = some (.int .i64 0) := by rw [hc2 _ _ (by first | omega | (simp; done) | (simp; omega))]; simp [go_sem]
  have q1 : w2.cell? ⟨w.heap.size, 1, none⟩ = some (.int .i64 0) := by rw [hc2 _ _ (by first | omega | (simp; done) | (simp; omega))]; simp [go_sem]
  have HB2 := Lib.hid hb2
  clear hb2 h2 hs H1
  go_wp2
  refine bodyPost_ret (v := .agg #[.int .i64 x, .int .i64 y]) (by simp [results, Tryd.results9, q0, q1, go_sem]) rfl ⟨x, y, HS2.out, rfl, ?_⟩
  (repeat (first | exact Below.refl _ _ | apply BelowKit.bl_alloc | apply BelowKit.bl_drewN | apply BelowKit.bl_drew | (refine BelowKit.bl_set ?_ _ ?_; rotate_left; (first | omega | (simp; omega) | simp)) | (refine BelowKit.bl_trans ?_ (‹Hid (Below _ _ _)›).out)))
end Go.Proofs.YtiogpiopgcbdbaaDoor.DrawFrac
