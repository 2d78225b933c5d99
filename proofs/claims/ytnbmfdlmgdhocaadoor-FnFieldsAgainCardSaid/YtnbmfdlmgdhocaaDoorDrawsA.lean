/- Contracts of the drawn inputs of FormatInt and EncodeHex: an integer of 64 bits; a string of at most 20001 bytes; nothing that was there is written. -/
import Derived.Test.YtnbmfdlmgdhocaaDoorRows
import Derived.Test.YtnbmfdlmgdhocaaDoorCurNum
import Derived.Test.YtnbmfdlmgdhocaaDoorDrawText
namespace Go.Proofs.YtnbmfdlmgdhocaaDoor.DrawsA
open Go.RowKit CurKit CurByte Cur CurNum DrawText

def OneInt (w : World) (e : Ending) (w' : World) : Prop := ∃ n : Int, -9223372036854775808 ≤ n ∧ n ≤ 9223372036854775807 ∧ e = .returned (.int .i64 n) ∧ Below w.heap.size w w'
def OneStr (m : Nat) (w : World) (e : Ending) (w' : World) : Prop := ∃ s : ByteArray, s.size ≤ m ∧ e = .returned (.string s) ∧ Below w.heap.size w w'

set_option maxHeartbeats 1000000 in
theorem int_c (w : World) (a : Option Addr) (len cap : Nat) (hcode : CodeAt w a len) (hs : len ≤ maxLen) :
    Calls Tryd.prog 12 #[.slice a len cap] w (OneInt w) := by
  have HK := Lib.hid hcode
  have HS := Lib.hid hs
  clear hcode hs
  go_enter Tryd.func12, Tryd.ntmps12
  go_wp2_with fail
  refine (new_c _ a len cap HK.out HS.out).mono ?_
  rintro e w1 ⟨rfl, h1⟩
  have H1 := Lib.hid h1
  clear h1
  obtain ⟨b, hb⟩ : ∃ b, w.heap.size = b := ⟨_, rfl⟩
  rw [hb] at H1 ⊢
  have HB := Lib.hid hb
  clear hb
  go_wp2_with fail
  refine (once_c w _ b a len cap 3 H1.out (by omega)).mono ?_
  rintro e w2 ⟨x, rfl, h2⟩
  have H2 := Lib.hid h2.1
  clear h2 H1
  cases x with
  | true =>
    go_wp2_with fail
    refine (below_c w _ b a len cap 1000000 H2.out (by omega)).mono ?_
    rintro e w3 ⟨x1, k1, rfl, h3⟩
    have H3 := Lib.hid h3.1
    clear h3 H2
    go_wp2_with fail
    refine (below_c w _ b a len cap 2000000 H3.out (by omega)).mono ?_
    rintro e w4 ⟨x2, k2, rfl, h4⟩
    have H4 := Lib.hid h4.1
    clear h4 H3
    have p1 : (0 : Int) ≤ (x1 : Int) := by omega
    have p2 : (x1 : Int) < 1000000 := by omega
    have q1 : -1000000 ≤ (x2 : Int) - 1000000 := by omega
    have q2 : (x2 : Int) - 1000000 < 1000000 := by omega
    have r1 : (x1 : Int) * ((x2 : Int) - 1000000) ≤ 1000000000000 := by
      have : (x1 : Int) * ((x2 : Int) - 1000000) ≤ (x1 : Int) * 1000000 := Int.mul_le_mul_of_nonneg_left (by omega) p1
      omega
    have r2 : -1000000000000 ≤ (x1 : Int) * ((x2 : Int) - 1000000) := by
      have : (x1 : Int) * (-1000000) ≤ (x1 : Int) * ((x2 : Int) - 1000000) := Int.mul_le_mul_of_nonneg_left q1 p1
      omega
    have ew : IntKind.i64.wrap ((x1 : Int) * ((x2 : Int) - 1000000)) = (x1 : Int) * ((x2 : Int) - 1000000) := IntWalk.i64_in _ (by omega)
    go_wp2
    go_ret
    exact ⟨(x1 : Int) * ((x2 : Int) - 1000000), by omega, by omega, (by first | rfl | (unfold wrap64; exact congrArg (fun z => Ending.returned (.int .i64 z)) ew)), by rw [HB.out]; exact HB.out ▸ H4.out.bel⟩
  | false =>
    go_wp2_with fail
    refine (number_c w _ b a len cap H2.out).mono ?_
    rintro e w3 ⟨n, n1, n2, rfl, h3⟩
    have H3 := Lib.hid h3.1
    clear h3 H2
    have HN := Lib.hid (And.intro n1 n2)
    clear n1 n2
    go_wp2
    go_ret
    exact ⟨n, HN.out.1, HN.out.2, rfl, by rw [HB.out]; exact HB.out ▸ H3.out.bel⟩

set_option maxHeartbeats 1000000 in
theorem str_c (w : World) (a : Option Addr) (len cap : Nat) (hcode : CodeAt w a len) (hs : len ≤ maxLen) :
    Calls Tryd.prog 8 #[.slice a len cap] w (OneStr 20001 w) := by
  have HK := Lib.hid hcode
  have HS := Lib.hid hs
  clear hcode hs
  go_enter Tryd.func8, Tryd.ntmps8
  go_wp2_with fail
  refine (new_c _ a len cap HK.out HS.out).mono ?_
  rintro e w1 ⟨rfl, h1⟩
  have H1 := Lib.hid h1
  clear h1
  obtain ⟨b, hb⟩ : ∃ b, w.heap.size = b := ⟨_, rfl⟩
  rw [hb] at H1 ⊢
  have HB := Lib.hid hb
  clear hb
  go_wp2_with fail
  refine (once_c w _ b a len cap 60 H1.out (by omega)).mono ?_
  rintro e w2 ⟨x, rfl, h2⟩
  have H2 := Lib.hid h2.1
  clear h2 H1
  cases x with
  | true =>
    go_wp2_with fail
    refine (below_c w _ b a len cap 2 H2.out (by omega)).mono ?_
    rintro e w3 ⟨x1, k1, rfl, h3⟩
    have H3 := Lib.hid h3.1
    clear h3 H2
    go_wp2_with fail
    refine (long_c _ _ 200 (by omega) (by omega) (by omega) (by omega)).mono ?_
    rintro e w4 ⟨s, hs, rfl, hb4⟩
    have hs2 : s.size ≤ 20001 := by omega
    have HR := Lib.hid (show Below w.heap.size w w4 from H3.out.bel.trans (hb4.mono H3.out.bel.size))
    have HS2 := Lib.hid hs2
    clear hb4 H3 hs hs2
    go_wp2
    go_ret
    exact ⟨s, HS2.out, rfl, HR.out⟩
  | false =>
    go_wp2_with fail
    refine (below_c w _ b a len cap 30 H2.out (by omega)).mono ?_
    rintro e w3 ⟨x1, k1, rfl, h3⟩
    have H3 := Lib.hid h3.1
    clear h3 H2
    go_wp2_with fail
    refine (text_c w _ b a len cap x1 H3.out (by omega) (by omega)).mono ?_
    rintro e w4 ⟨s, hs, rfl, h4⟩
    have H4 := Lib.hid h4.1
    have HS2 := Lib.hid hs
    clear h4 H3 hs
    go_wp2
    go_ret
    exact ⟨s, Nat.le_trans HS2.out (by omega), rfl, H4.out.bel⟩
end Go.Proofs.YtnbmfdlmgdhocaaDoor.DrawsA
