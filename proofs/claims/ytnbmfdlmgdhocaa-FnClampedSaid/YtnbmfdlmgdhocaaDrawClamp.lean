/- The contract of the drawn input of Clamp: three integers of 64 bits; nothing that was there is written. -/
import Derived.Test.YtnbmfdlmgdhocaaRows
import Derived.Test.YtnbmfdlmgdhocaaCurNum
namespace Go.Proofs.Ytnbmfdlmgdhocaa.DrawClamp
open Go.RowKit CurKit CurByte Cur CurNum

def Three (w : World) (e : Ending) (w' : World) : Prop := ∃ n lo hi : Int, e = .returned (.tuple #[.int .i64 n, .int .i64 lo, .int .i64 hi]) ∧ Below w.heap.size w w'

set_option maxHeartbeats 1000000 in
theorem draw_c (w : World) (a : Option Addr) (len cap : Nat) (hcode : CodeAt w a len) (hs : len ≤ maxLen) :
    Calls Try.prog 10 #[.slice a len cap] w (Three w) := by
  have HK := Lib.hid hcode
  have HS := Lib.hid hs
  clear hcode hs
  go_enter Try.func10, Try.ntmps10
  go_wp2_with fail
  refine (new_c _ a len cap HK.out HS.out).mono ?_
  rintro e w1 ⟨rfl, h1⟩
  have H1 := Lib.hid h1
  clear h1
  obtain ⟨b, hb⟩ : ∃ b, w.heap.size = b := ⟨_, rfl⟩
  rw [hb] at H1 ⊢
  have HB := Lib.hid hb
  clear hb
  go_wp2_with fail
  refine (once_c w _ b a len cap 4 H1.out (by omega)).mono ?_
  rintro e w2 ⟨x, rfl, h2⟩
  have H2 := Lib.hid h2.1
  clear h2 H1
  cases x with
  | true =>
    go_wp2_with fail
    refine (number_c w _ b a len cap H2.out).mono ?_
    rintro e w3 ⟨n, _, _, rfl, h3⟩
    have H3 := Lib.hid h3.1
    clear h3 H2
    go_wp2_with fail
    refine (number_c w _ b a len cap H3.out).mono ?_
    rintro e w4 ⟨lo, _, _, rfl, h4⟩
    have H4 := Lib.hid h4.1
    clear h4 H3
    go_wp2_with fail
    refine (number_c w _ b a len cap H4.out).mono ?_
    rintro e w5 ⟨hi, _, _, rfl, h5⟩
    have H5 := Lib.hid h5.1
    clear h5 H4
    go_wp2
    go_ret3
    exact ⟨n, lo, hi, rfl, H5.out.bel⟩
  | false =>
    go_wp2_with fail
    refine (below_c w _ b a len cap 40 H2.out (by omega)).mono ?_
    rintro e w3 ⟨x1, k1, rfl, h3⟩
    have H3 := Lib.hid h3.1
    clear h3 H2
    go_wp2_with fail
    refine (below_c w _ b a len cap 80 H3.out (by omega)).mono ?_
    rintro e w4 ⟨x2, k2, rfl, h4⟩
    have H4 := Lib.hid h4.1
    clear h4 H3
    go_wp2_with fail
    refine (below_c w _ b a len cap 30 H4.out (by omega)).mono ?_
    rintro e w5 ⟨x3, k3, rfl, h5⟩
    have H5 := Lib.hid h5.1
    clear h5 H4
    go_wp2
    go_ret3
    exact ⟨_, _, _, rfl, H5.out.bel⟩
end Go.Proofs.Ytnbmfdlmgdhocaa.DrawClamp
