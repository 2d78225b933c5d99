/- Contracts of the drawn texts: some string of at most 5000 bytes; a string of n equal bytes. -/
import Derived.Test.YtnbmfdlmgdhocaaDoorRows
import Derived.Test.YtnbmfdlmgdhocaaDoorBytesKit
import Derived.Test.YtnbmfdlmgdhocaaDoorHexMath
import Derived.Test.YtnbmfdlmgdhocaaDoorHexDecMath
import Derived.Test.YtnbmfdlmgdhocaaDoorHexEnc
import Derived.Test.YtnbmfdlmgdhocaaDoorCur
import Derived.Lib.Hide
namespace Go.Proofs.YtnbmfdlmgdhocaaDoor.DrawText
open Go.RowKit BytesKit HexMath HexDecMath HexEnc CurKit CurByte Cur

def SomeStr (m : Nat) (R : World → Prop) (e : Ending) (w' : World) : Prop := ∃ s : ByteArray, s.size ≤ m ∧ e = .returned (.string s) ∧ R w'

theorem byte_wrap (x : Nat) (h : x < 256) : IntKind.u8.wrap (x : Int) = ((b8 (x : Int)).toNat : Int) := by
  rw [byte_val _ (by omega) (by omega)]; exact IntWalk.u8_in _ (by omega)

set_option maxRecDepth 100000 in
set_option maxHeartbeats 1000000 in
theorem text_c (w0 w : World) (b : Nat) (a : Option Addr) (len cap : Nat) (n : Int) (hc : CurIn 50 w0 w b a len cap) (h0 : 0 ≤ n) (hn : n ≤ 5000) :
    Calls Tryd.prog 23 #[.pointer (some ⟨b, 0, none⟩), .int .i64 n] w (SomeStr 5000 (Goes w0 w b a len cap)) := by
  have hbl := hc.lt
  have HC := Lib.hid hc
  clear hc
  obtain ⟨N, rfl⟩ := Int.eq_ofNat_of_zero_le h0
  go_enter Tryd.func23, Tryd.ntmps23
  go_wp2
  go_loopw [5, 6] (fun v i wr => ∃ (k : Nat) (l : List UInt8), k ≤ N ∧ l.length = k ∧ i = .int .i64 k ∧ OwnsB wr w.heap.size 5 v l ∧ Hid (CurIn 50 w0 wr b a len cap ∧ BX b w.heap.size w wr))
    (fun _ i _ => N - (intOf i).toNat)
  case atStart =>
    refine ⟨0, [], Nat.zero_le _, rfl, rfl, OwnsB.made w w.heap.size _ #[] 0 (Nat.le_refl _) (by simp [maxLen]) rfl, HC.out.alloc _, ?_⟩
    exact OnlyB.bx ((OnlyB.refl b w).alloc _) (Nat.le_refl _)
  case round =>
    obtain ⟨k, l, hk, hl, rfl, hown, hh⟩ := hrel
    have HL := Lib.hid hl
    clear hl
    by_cases hlt : k < N
    · go_wp2_with fail
      refine (byte_c w0 _ b a len cap hh.out.1).mono ?_
      rintro e w1 ⟨x, hx, rfl, hc1, ht1⟩
      have hs1 : w.heap.size ≤ w1.heap.size := Nat.le_trans hh.out.2.size ht1.size
      have hown1 : OwnsB w1 w.heap.size 5 u5 l := hown.keep (fun q hq hq2 => ht1.block q hq2 (fun e => by have := Option.some.inj e; omega))
      have H1 := Lib.hid (And.intro hc1 (hh.out.2.trans (ht1.bx hh.out.2.size)))
      clear hc1 ht1 hown hh
      have eb := byte_wrap x hx
      have HS := Lib.hid hs1
      clear hs1
      go_wp2_with (at_builtin; refine wpList_append_bytes bt _ rfl _ _ rfl w.heap.size u5 _ rfl (hown1.alloc _) w1.heap.size 1 1 [b8 (x : Int)] rfl rfl (heap_alloc_new w1 _) ?_ ?_ ?_; (have := HL.out; simp; omega); (have := HS.out; simp; omega); intro v' w2 hown2 hbel2)
      have H2 := Lib.hid (show CurIn 50 w0 w2 b a len cap ∧ BX b w.heap.size w w2 from ⟨(H1.out.1.alloc _).below hbel2 hbl, (H1.out.2.trans (BX.below ((Below.refl _ _).alloc HS.out _))).trans (BX.below hbel2)⟩)
      clear hbel2 H1 hown1
      go_roundw
      case rel => exact ⟨k + 1, _, by omega, by rw [List.length_append, HL.out]; rfl, by go_num, hown2, H2⟩
      case measure => simp [intOf]; omega
    · have hcv := hown.str 22 9 bt.ht bt.hT bt.hr
      clear hown
      go_wp2
      go_ret
      refine ⟨_, ?_, rfl, hh.out.1, hh.out.2.only⟩
      show l.length ≤ 5000
      have := HL.out
      omega

theorem zero_byte : (Tryd.prog.info? 5).map (fun i => (i.zero, i.size, i.bytes)) = some (some (.int .u8 0), 1, 1) := by kernel_rfl

set_option maxRecDepth 100000 in
set_option maxHeartbeats 1000000 in
theorem long_c (w : World) (n x : Int) (h0 : 0 ≤ n) (hn : n ≤ 1048576) (hx0 : 0 ≤ x) (hx : x < 256) :
    Calls Tryd.prog 21 #[.int .i64 n, .int .u8 x] w (SomeStr n.toNat (fun w' => Below w.heap.size w w')) := by
  obtain ⟨N, rfl⟩ := Int.eq_ofNat_of_zero_le h0
  rw [Int.toNat_natCast]
  obtain ⟨c, hc⟩ : ∃ c, b8 x = c := ⟨_, rfl⟩
  have hcx : x = (c.toNat : Int) := by rw [← hc]; exact (byte_val x hx0 hx).symm
  subst hcx
  clear hc
  obtain ⟨i0, hi, hz0, hz1, hz2⟩ := info_parts bt.hi
  go_enter Tryd.func21, Tryd.ntmps21
  go_wp2_with (at_make; refine wpList_make_full _ rfl _ _ 22 rfl w.heap.size 5 i0 (.int .u8 0) 1 Tryd.underlying22 hi hz0 hz1 .i64 .i64 _ _ N rfl rfl rfl rfl (by rw [hz2]; omega) (by unfold maxLen; omega) (Nat.le_refl _) ?_; intro w1 hown1 hg1)
  have hown2 : OwnsB w1 w.heap.size 5 (.slice (some ⟨w.heap.size, 0, none⟩) N N) (List.replicate N 0) := OwnsB.zeros hown1
  have hb1 : Below w.heap.size w w1 := (Below.refl _ _).grown hg1 (Nat.le_refl _) (by simp)
  obtain ⟨g, hg⟩ : ∃ g, w.heap.size = g := ⟨_, rfl⟩
  clear hown1 hg1 hi hz0 hz1 hz2
  rw [hg] at hown2 hb1 ⊢
  have HG := Lib.hid hg
  clear hg
  go_loopw [6] (fun i wr => ∃ (k : Nat) (l : List UInt8), k ≤ N ∧ i = .int .i64 k ∧ Hid (l.length = N ∧ OwnsB wr g 5 (.slice (some ⟨g, 0, none⟩) N N) l) ∧ Below g w wr)
    (fun i _ => N - (intOf i).toNat)
  case atStart => exact ⟨0, _, Nat.zero_le _, rfl, ⟨by simp, hown2⟩, hb1⟩
  case round =>
    obtain ⟨k, l, hk, rfl, hh, hbel⟩ := hrel
    by_cases hlt : k < N
    · obtain ⟨q1, q2⟩ := hh.out.2.at hh.out.1.symm k hlt
      have b0 : (0 : Int) ≤ (k : Int) := by omega
      have b1 : (k : Int) < (N : Int) := by omega
      have R := Lib.hid (hh.out.2.stored hh.out.1.symm k c)
      go_wp2
      go_roundw
      case rel => exact ⟨k + 1, l.set k c, by omega, by go_num, ⟨by rw [List.length_set]; exact hh.out.1, R.out⟩, hbel.setCell (p := ⟨g, k, none⟩) (Nat.le_refl _) _⟩
      case measure => simp [intOf]; omega
    · have hcv := hh.out.2.str 22 9 bt.ht bt.hT bt.hr
      have HL := Lib.hid hh.out.1
      go_wp2
      go_ret
      refine ⟨_, ?_, rfl, by show Below w.heap.size w wr; rw [HG.out]; exact hbel⟩
      show l.length ≤ N
      have := HL.out
      omega
end Go.Proofs.YtnbmfdlmgdhocaaDoor.DrawText
