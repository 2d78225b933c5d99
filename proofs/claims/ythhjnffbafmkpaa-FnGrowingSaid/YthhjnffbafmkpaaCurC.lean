/- My kit: texts that lean on no dump, in one file. -/
import Derived.Test.YthhjnffbafmkpaaRows
import Derived.Test.YthhjnffbafmkpaaKit
import Derived.Deep.QuietTactic
import Derived.BigQuiet
import Derived.Lib.Hide
/- The contract of the byte that the cursor draws: some number from 0 to 255; the cursor goes on. -/
namespace Go.Proofs.Ythhjnffbafmkpaa.CurByte
open Go.RowKit CurKit

/-- Some number below n. -/
def SomeBelow (n : Nat) (R : World → Prop) (e : Ending) (w' : World) : Prop := ∃ x : Nat, x < n ∧ e = .returned (.int .i64 x) ∧ R w'

set_option maxHeartbeats 1000000 in
theorem byte_c (w0 w : World) (b : Nat) (a : Option Addr) (len cap : Nat) (hc : CurIn 73 w0 w b a len cap) :
    Calls Try.prog 43 #[.pointer (some ⟨b, 0, none⟩)] w (SomeBelow 256 fun w' => CurIn 73 w0 w' b a len cap ∧ OnlyB b w w') := by
  have HC := Lib.hid hc
  obtain ⟨hbel, hlow, hcode, hsmall, i, h, hg, hi⟩ := hc
  unfold maxLen at hsmall
  have c0 : w.cell? ⟨b, 0, none⟩ = some (.slice a len cap) := by rw [cell_of_row w b 0 _ _ _ hg]; rfl
  have c1 : w.cell? ⟨b, 1, none⟩ = some (.int .i64 i) := by rw [cell_of_row w b 1 _ _ _ hg]; rfl
  have c2 : w.cell? ⟨b, 2, none⟩ = some (.int .i64 h) := by rw [cell_of_row w b 2 _ _ _ hg]; rfl
  have f1 : w.frozen? ⟨b, 1, none⟩ = false := frozen_of_row w b 1 _ _ hg
  have f2 : w.frozen? ⟨b, 2, none⟩ = false := frozen_of_row w b 2 _ _ hg
  have HG := Lib.hid hg
  have HK := Lib.hid hcode
  have HB := Lib.hid hbel
  clear hg hcode hbel
  by_cases hlt : i < len
  · obtain ⟨blk, off, n, rfl, hblk, hn, hn0, hn1⟩ := HK.out i hlt
    have cc : w.cell? ⟨blk, off + i, none⟩ = some (.int .u8 n) := by rw [HB.out.cell (p := ⟨blk, off + i, none⟩) hblk]; exact hn
    clear hn
    have hne : ¬ blk = b := by omega
    have cc2 : ∀ v : Value, (w.setCell ⟨b, 2, none⟩ v).cell? ⟨blk, off + i, none⟩ = some (.int .u8 n) := fun v => by
      rw [World.cell?_of_block (w := w) (Below.heap_setCell _ _ _ _ hne)]; exact cc
    go_enter Try.func43, Try.ntmps43
    go_wp2_with fail
    go_quiet (fail)
    go_wp2_with fail
    go_quiet (fail)
    go_wp2_with fail
    go_quiet (fail)
    go_wp2_with fail
    go_ret
    have H2 := heap_setCell_same w b 2 _ _ (.int .i64 (wrap64 (wrap64 (h * 6364136223846793005) + 1442695040888963407))) HG.out
    refine Exists.elim (and_255 _) fun x hx => ⟨x, hx.2, congrArg (fun z => Ending.returned (.int .i64 z)) hx.1, ?_⟩
    have ht := ((OnlyB.refl b w).setCell 2 (.int .i64 (wrap64 (wrap64 (h * 6364136223846793005) + 1442695040888963407))))
    exact ⟨HC.out.next ((ht.drewN _).setCell 1 _) (i + 1) (wrap64 (wrap64 (h * 6364136223846793005) + 1442695040888963407)) (by omega) (heap_setCell_same (World.drewN (w.setCell ⟨b, 2, none⟩ (.int .i64 (wrap64 (wrap64 (h * 6364136223846793005) + 1442695040888963407)))) _) b 1 _ _ (.int .i64 ((i : Int) + 1)) H2), (ht.drewN _).setCell 1 _⟩
  · have hge : len ≤ i := by omega
    go_enter Try.func43, Try.ntmps43
    go_wp2_with fail
    go_quiet (fail)
    go_wp2_with fail
    go_quiet (fail)
    go_wp2_with fail
    go_ret
    have H2 := heap_setCell_same w b 2 _ _ (.int .i64 (wrap64 (wrap64 (h * 6364136223846793005) + 1442695040888963407))) HG.out
    refine Exists.elim (and_255 _) fun x hx => ⟨x, hx.2, congrArg (fun z => Ending.returned (.int .i64 z)) hx.1, ?_⟩
    have ht : OnlyB b w ((w.setCell ⟨b, 2, none⟩ (.int .i64 (wrap64 (wrap64 (h * 6364136223846793005) + 1442695040888963407))))) := (OnlyB.refl b w).setCell 2 _
    exact ⟨HC.out.next ((ht.drewN _).drewN _) i (wrap64 (wrap64 (h * 6364136223846793005) + 1442695040888963407)) (by omega) H2, (ht.drewN _).drewN _⟩
end Go.Proofs.Ythhjnffbafmkpaa.CurByte

/- Contracts of the cursor's other functions: it is made over a code; a number below n; yes or no. -/
namespace Go.Proofs.Ythhjnffbafmkpaa.Cur
open Go.RowKit CurKit CurByte

/-- The cursor stands at block b, and besides new blocks only b was written since w. -/
def Goes (w0 w : World) (b : Nat) (a : Option Addr) (len cap : Nat) (w' : World) : Prop := CurIn 73 w0 w' b a len cap ∧ OnlyB b w w'
def LessN (n : Int) (R : World → Prop) (e : Ending) (w' : World) : Prop := ∃ x : Nat, (x : Int) < max n 1 ∧ e = .returned (.int .i64 x) ∧ R w'
def SomeBool (R : World → Prop) (e : Ending) (w' : World) : Prop := ∃ x : Bool, e = .returned (.bool x) ∧ R w'
def Made (w : World) (a : Option Addr) (len cap : Nat) (e : Ending) (w' : World) : Prop := e = .returned (.pointer (some ⟨w.heap.size, 0, none⟩)) ∧ CurIn 73 w w' w.heap.size a len cap

theorem boxed (T : Nat) (w : World) (a : Option Addr) (len cap : Nat) (h : Int) (hcode : CodeAt w a len) (hs : len ≤ maxLen) :
    CurIn T w (w.alloc (.cells #[.slice a len cap, .int .i64 0, .int .i64 h] T)) w.heap.size a len cap :=
  ⟨(Below.refl _ _).alloc (Nat.le_refl _) _, Nat.le_refl _, hcode, hs, 0, h, heap_alloc_new w _, Nat.zero_le _⟩

set_option maxRecDepth 100000 in
set_option maxHeartbeats 1000000 in
theorem new_c (w : World) (a : Option Addr) (len cap : Nat) (hcode : CodeAt w a len) (hs : len ≤ maxLen) :
    Calls Try.prog 27 #[.slice a len cap] w (Made w a len cap) := by
  have HK := Lib.hid hcode
  have HS := Lib.hid hs
  clear hcode
  unfold maxLen at hs
  go_enter Try.func27, Try.ntmps27
  go_wp2
  go_loop [3, 4] (fun h i => ∃ (k : Nat) (hh : Int), k ≤ len ∧ i = .int .i64 k ∧ h = .int .i64 hh) (fun _ i => len - (intOf i).toNat)
  case atStart => exact ⟨0, _, Nat.zero_le _, rfl, rfl⟩
  case round =>
    obtain ⟨k, hh, hk, rfl, rfl⟩ := hrel
    by_cases hlt : k < len
    · by_cases h4 : k < 4000
      · obtain ⟨blk, off, n, rfl, hblk, hn, hn0, hn1⟩ := HK.out k hlt
        go_wp2
        go_round
        case rel => exact ⟨k + 1, _, by omega, by go_num, rfl⟩
        case measure => simp [intOf]; omega
      · go_wp2
        go_ret
        refine ⟨rfl, ?_⟩
        exact boxed 73 w a len cap hh HK.out HS.out
    · go_wp2
      go_ret
      refine ⟨rfl, ?_⟩
      exact boxed 73 w a len cap hh HK.out HS.out

set_option maxHeartbeats 1000000 in
theorem below_c (w0 w : World) (b : Nat) (a : Option Addr) (len cap : Nat) (n : Int) (hc : CurIn 73 w0 w b a len cap) (hn : n ≤ 2000000000) :
    Calls Try.prog 28 #[.pointer (some ⟨b, 0, none⟩), .int .i64 n] w (LessN n (Goes w0 w b a len cap)) := by
  have HC := Lib.hid hc
  clear hc
  by_cases h0 : n ≤ 0
  · go_enter Try.func28, Try.ntmps28
    go_wp2
    go_ret
    exact ⟨0, by omega, rfl, HC.out, OnlyB.refl _ _⟩
  · by_cases h1 : n ≤ 256
    · go_enter Try.func28, Try.ntmps28
      go_wp2_with fail
      refine (byte_c w0 _ b a len cap HC.out).mono ?_
      rintro e w1 ⟨x, hx, rfl, hc1, ht1⟩
      have h2 : 1 ≤ n := by omega
      have e1 : ((x : Int) % n) < n := Int.emod_lt_of_pos _ (by omega)
      have e2 : 0 ≤ ((x : Int) % n) := Int.emod_nonneg _ (by omega)
      have HR := Lib.hid (And.intro hc1 ht1)
      clear hc1 ht1
      go_wp2
      go_ret
      exact ⟨((x : Int) % n).toNat, by omega, congrArg (fun z => Ending.returned (.int .i64 z)) (show (x : Int) % n = (((x : Int) % n).toNat : Int) by omega), HR.out⟩
    · go_enter Try.func28, Try.ntmps28
      go_wp2_with fail
      refine (byte_c w0 _ b a len cap HC.out).mono ?_
      rintro e w1 ⟨x, hx, rfl, hc1, ht1⟩
      have H1 := Lib.hid (And.intro hc1 ht1)
      clear hc1 ht1
      go_wp2_with fail
      refine (byte_c w0 _ b a len cap H1.out.1).mono ?_
      rintro e w2 ⟨y, hy, rfl, hc2, ht2⟩
      have H2 := Lib.hid (And.intro hc2 (H1.out.2.trans ht2))
      clear hc2 ht2 H1
      go_wp2_with fail
      refine (byte_c w0 _ b a len cap H2.out.1).mono ?_
      rintro e w3 ⟨z, hz, rfl, hc3, ht3⟩
      have H3 := Lib.hid (And.intro hc3 (H2.out.2.trans ht3))
      clear hc3 ht3 H2
      go_wp2_with fail
      refine (byte_c w0 _ b a len cap H3.out.1).mono ?_
      rintro e w4 ⟨v, hv, rfl, hc4, ht4⟩
      have H4 := Lib.hid (And.intro hc4 (H3.out.2.trans ht4))
      clear hc4 ht4 H3
      have h2 : 1 ≤ n := by omega
      have e0 : (0 : Int) ≤ (x : Int) * 16777216 + (y : Int) * 65536 + (z : Int) * 256 + (v : Int) := by omega
      have e1 : (((x : Int) * 16777216 + (y : Int) * 65536 + (z : Int) * 256 + (v : Int)) % n) < n := Int.emod_lt_of_pos _ (by omega)
      have e2 : 0 ≤ (((x : Int) * 16777216 + (y : Int) * 65536 + (z : Int) * 256 + (v : Int)) % n) := Int.emod_nonneg _ (by omega)
      go_wp2
      go_ret
      exact ⟨(((x : Int) * 16777216 + (y : Int) * 65536 + (z : Int) * 256 + (v : Int)) % n).toNat, by omega, congrArg (fun z => Ending.returned (.int .i64 z)) (Int.toNat_of_nonneg e2).symm, H4.out⟩

end Go.Proofs.Ythhjnffbafmkpaa.Cur

/- Small lemmas on the cursor of the Draw functions. -/
namespace Go.Proofs.Ythhjnffbafmkpaa.DrawCur
open Go.RowKit CurKit CurByte Cur BelowKit
theorem goes_trans {w0 w w1 w2 : World} {b : Nat} {a : Option Addr} {len cap : Nat} (h : OnlyB b w w1) (k : Goes w0 w1 b a len cap w2) : Goes w0 w b a len cap w2 := ⟨k.1, h.trans k.2⟩
theorem goes_set {w0 w w' : World} {b : Nat} {a : Option Addr} {len cap g o : Nat} (h : Goes w0 w b a len cap w') (hg : w.heap.size ≤ g) (hb : b < w.heap.size) (h0 : w0.heap.size ≤ g) (v : Value) : Goes w0 w b a len cap (w'.setCell ⟨g, o, none⟩ v) := by
  obtain ⟨i, hh, hc, hi⟩ := h.1.cells
  refine ⟨⟨h.1.bel.setCell (p := ⟨g, o, none⟩) h0 v, h.1.low, h.1.code, h.1.small, i, hh, (Below.heap_setCell _ _ _ _ (show b ≠ g by omega)).trans hc, hi⟩, h.2.os, h.2.tape, h.2.output, by have := h.2.size; simpa using this, fun k hk hne => (Below.heap_setCell _ _ _ _ (show k ≠ g by omega)).trans (h.2.block k hk hne)⟩
theorem cur_drew {T : Nat} {w0 w : World} {b : Nat} {a : Option Addr} {len cap : Nat} (h : CurIn T w0 w b a len cap) : CurIn T w0 w.drew b a len cap := by
  obtain ⟨i, hh, hc, hi⟩ := h.cells
  exact h.next ((OnlyB.refl b w).drewN 1) i hh hi hc
theorem cur_far {w w' : World} {b g o : Nat} (h : OnlyB b w w') (hg : g < w.heap.size) (hne : g ≠ b) : w'.cell? ⟨g, o, none⟩ = w.cell? ⟨g, o, none⟩ ∧ w'.frozen? ⟨g, o, none⟩ = w.frozen? ⟨g, o, none⟩ :=
  ⟨h.cell_far ⟨g, o, none⟩ hg (fun e => hne (Option.some.inj e)), h.frozen_far ⟨g, o, none⟩ hg (fun e => hne (Option.some.inj e))⟩
end Go.Proofs.Ythhjnffbafmkpaa.DrawCur
