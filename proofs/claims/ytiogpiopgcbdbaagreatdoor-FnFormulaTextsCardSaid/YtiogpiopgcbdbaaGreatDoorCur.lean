/- Contracts of the cursor's other functions: it is made over a code; a number below n; yes or no. -/
import Derived.Test.YtiogpiopgcbdbaaGreatDoorRows
import Derived.Test.YtiogpiopgcbdbaaGreatDoorKit
import Derived.Test.YtiogpiopgcbdbaaGreatDoorCurByte
import Derived.Lib.Hide
namespace Go.Proofs.YtiogpiopgcbdbaaGreatDoor.Cur
open Go.RowKit CurKit CurByte

/-- The cursor stands at block b, and besides new blocks only b was written since w. -/
def Goes (w0 w : World) (b : Nat) (a : Option Addr) (len cap : Nat) (w' : World) : Prop := CurIn 61 w0 w' b a len cap ∧ OnlyB b w w'
def LessN (n : Int) (R : World → Prop) (e : Ending) (w' : World) : Prop := ∃ x : Nat, (x : Int) < max n 1 ∧ e = .returned (.int .i64 x) ∧ R w'
def SomeBool (R : World → Prop) (e : Ending) (w' : World) : Prop := ∃ x : Bool, e = .returned (.bool x) ∧ R w'
def Made (w : World) (a : Option Addr) (len cap : Nat) (e : Ending) (w' : World) : Prop := e = .returned (.pointer (some ⟨w.heap.size, 0, none⟩)) ∧ CurIn 61 w w' w.heap.size a len cap

theorem boxed (T : Nat) (w : World) (a : Option Addr) (len cap : Nat) (h : Int) (hcode : CodeAt w a len) (hs : len ≤ maxLen) :
    CurIn T w (w.alloc (.cells #[.slice a len cap, .int .i64 0, .int .i64 h] T)) w.heap.size a len cap :=
  ⟨(Below.refl _ _).alloc (Nat.le_refl _) _, Nat.le_refl _, hcode, hs, 0, h, heap_alloc_new w _, Nat.zero_le _⟩

set_option maxRecDepth 100000 in
set_option maxHeartbeats 1000000 in
theorem new_c (w : World) (a : Option Addr) (len cap : Nat) (hcode : CodeAt w a len) (hs : len ≤ maxLen) :
    Calls Tryz.prog 10 #[.slice a len cap] w (Made w a len cap) := by
  have HK := Lib.hid hcode
  have HS := Lib.hid hs
  clear hcode
  unfold maxLen at hs
  go_enter Tryz.func10, Tryz.ntmps10
  go_wp2
  go_loop [3, 4] (fun h i => ∃ (k : Nat) (hh : Int), k ≤ len ∧ i = .int .i64 k ∧ h = .int .i64 hh) (fun _ i => len - (intOf i).toNat)
  case atStart => exact ⟨0, _, Nat.zero_le _, rfl, rfl⟩
  case round =>
    obtain ⟨k, hh, hk, rfl, rfl⟩ := hrel
    by_cases hlt : k < len
    · by_cases h4 : k < 4000
      · obtain ⟨blk, off, n, rfl, hblk, hn, hn0, hn1⟩ := HK.out k hlt
        go_wp2
        go_round
        case rel => exact ⟨k + 1, _, by omega, by go_num, rfl⟩
        case measure => simp [intOf]; omega
      · go_wp2
        go_ret
        refine ⟨rfl, ?_⟩
        exact boxed 61 w a len cap hh HK.out HS.out
    · go_wp2
      go_ret
      refine ⟨rfl, ?_⟩
      exact boxed 61 w a len cap hh HK.out HS.out

set_option maxHeartbeats 1000000 in
theorem below_c (w0 w : World) (b : Nat) (a : Option Addr) (len cap : Nat) (n : Int) (hc : CurIn 61 w0 w b a len cap) (hn : n ≤ 2000000000) :
    Calls Tryz.prog 22 #[.pointer (some ⟨b, 0, none⟩), .int .i64 n] w (LessN n (Goes w0 w b a len cap)) := by
  have HC := Lib.hid hc
  clear hc
  by_cases h0 : n ≤ 0
  · go_enter Tryz.func22, Tryz.ntmps22
    go_wp2
    go_ret
    exact ⟨0, by omega, rfl, HC.out, OnlyB.refl _ _⟩
  · by_cases h1 : n ≤ 256
    · go_enter Tryz.func22, Tryz.ntmps22
      go_wp2_with fail
      refine (byte_c w0 _ b a len cap HC.out).mono ?_
      rintro e w1 ⟨x, hx, rfl, hc1, ht1⟩
      have h2 : 1 ≤ n := by omega
      have e1 : ((x : Int) % n) < n := Int.emod_lt_of_pos _ (by omega)
      have e2 : 0 ≤ ((x : Int) % n) := Int.emod_nonneg _ (by omega)
      have HR := Lib.hid (And.intro hc1 ht1)
      clear hc1 ht1
      go_wp2
      go_ret
      exact ⟨((x : Int) % n).toNat, by omega, congrArg (fun z => Ending.returned (.int .i64 z)) (show (x : Int) % n = (((x : Int) % n).toNat : Int) by omega), HR.out⟩
    · go_enter Tryz.func22, Tryz.ntmps22
      go_wp2_with fail
      refine (byte_c w0 _ b a len cap HC.out).mono ?_
      rintro e w1 ⟨x, hx, rfl, hc1, ht1⟩
      have H1 := Lib.hid (And.intro hc1 ht1)
      clear hc1 ht1
      go_wp2_with fail
      refine (byte_c w0 _ b a len cap H1.out.1).mono ?_
      rintro e w2 ⟨y, hy, rfl, hc2, ht2⟩
      have H2 := Lib.hid (And.intro hc2 (H1.out.2.trans ht2))
      clear hc2 ht2 H1
      go_wp2_with fail
      refine (byte_c w0 _ b a len cap H2.out.1).mono ?_
      rintro e w3 ⟨z, hz, rfl, hc3, ht3⟩
      have H3 := Lib.hid (And.intro hc3 (H2.out.2.trans ht3))
      clear hc3 ht3 H2
      go_wp2_with fail
      refine (byte_c w0 _ b a len cap H3.out.1).mono ?_
      rintro e w4 ⟨v, hv, rfl, hc4, ht4⟩
      have H4 := Lib.hid (And.intro hc4 (H3.out.2.trans ht4))
      clear hc4 ht4 H3
      have h2 : 1 ≤ n := by omega
      have e0 : (0 : Int) ≤ (x : Int) * 16777216 + (y : Int) * 65536 + (z : Int) * 256 + (v : Int) := by omega
      have e1 : (((x : Int) * 16777216 + (y : Int) * 65536 + (z : Int) * 256 + (v : Int)) % n) < n := Int.emod_lt_of_pos _ (by omega)
      have e2 : 0 ≤ (((x : Int) * 16777216 + (y : Int) * 65536 + (z : Int) * 256 + (v : Int)) % n) := Int.emod_nonneg _ (by omega)
      go_wp2
      go_ret
      exact ⟨(((x : Int) * 16777216 + (y : Int) * 65536 + (z : Int) * 256 + (v : Int)) % n).toNat, by omega, congrArg (fun z => Ending.returned (.int .i64 z)) (Int.toNat_of_nonneg e2).symm, H4.out⟩

end Go.Proofs.YtiogpiopgcbdbaaGreatDoor.Cur
