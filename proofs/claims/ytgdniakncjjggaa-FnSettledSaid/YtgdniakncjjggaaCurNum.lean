/- Contracts of the cursor's picks among integers: one of the list; some integer of 64 bits. -/
import Derived.Test.YtgdniakncjjggaaRows
import Derived.Test.YtgdniakncjjggaaKit
import Derived.Test.YtgdniakncjjggaaCurC
import Derived.Lib.Hide
namespace Go.Proofs.Ytgdniakncjjggaa.CurNum
open Go.RowKit CurKit CurByte Cur

def OneOf (xs : List Int) (R : World → Prop) (e : Ending) (w' : World) : Prop := ∃ x : Int, x ∈ xs ∧ e = .returned (.int .i64 x) ∧ R w'
def SomeI64 (R : World → Prop) (e : Ending) (w' : World) : Prop := ∃ x : Int, -9223372036854775808 ≤ x ∧ x ≤ 9223372036854775807 ∧ e = .returned (.int .i64 x) ∧ R w'

set_option maxRecDepth 100000 in
set_option maxHeartbeats 1000000 in
theorem pick_c (w0 w : World) (b : Nat) (a : Option Addr) (len cap : Nat) (hc : CurIn 51 w0 w b a len cap)
    (g n : Nat) (T : TypeId) (xs : List Int) (hl : xs.length = n) (hn : 0 < n) (hn2 : n ≤ 1000) (hg : w.heap[g]? = some (.cells (xs.map (Value.int .i64)).toArray T (0, 0))) (hgb : g ≠ b) :
    Calls Try.prog 42 #[.pointer (some ⟨b, 0, none⟩), .slice (some ⟨g, 0, none⟩) n n] w (OneOf xs (Goes w0 w b a len cap)) := by
  have HC := Lib.hid hc
  have HG := Lib.hid hg
  have HL := Lib.hid hl
  clear hc hg hl
  go_enter Try.func42, Try.ntmps42
  go_wp2_with fail
  refine (below_c w0 _ b a len cap n HC.out (by omega)).mono ?_
  rintro e w1 ⟨x, hx, rfl, hr⟩
  have HR := Lib.hid hr
  have hx2 : x < n := by omega
  have hc1 : w1.cell? ⟨g, x, none⟩ = some (.int .i64 (xs.getD x 0)) := by
    have h1 := hr.2.block g (Array.getElem?_eq_some_iff.1 HG.out).1 (fun e => hgb (by simpa using e))
    rw [cell_of_row w1 g x _ _ _ (h1.trans HG.out)]
    have : x < xs.length := by rw [HL.out]; exact hx2
    simp [this]
  clear hr hx
  obtain ⟨v, hv⟩ : ∃ v, xs.getD x 0 = v := ⟨_, rfl⟩
  rw [hv] at hc1
  have HV := Lib.hid hv
  clear hv
  go_wp2
  go_ret
  refine ⟨v, ?_, rfl, HR.out⟩
  have hx3 : x < xs.length := by rw [HL.out]; exact hx2
  rw [← HV.out]
  simp [List.getD, hx3]

end Go.Proofs.Ytgdniakncjjggaa.CurNum
