/- Contracts of the cursor's picks among integers: one of the list; some integer of 64 bits. -/
import Derived.Test.YtnbmfdlmgdhocaaDoorRows
import Derived.Test.YtnbmfdlmgdhocaaDoorCurKit
import Derived.Test.YtnbmfdlmgdhocaaDoorCurByte
import Derived.Test.YtnbmfdlmgdhocaaDoorCur
import Derived.Lib.Hide
namespace Go.Proofs.YtnbmfdlmgdhocaaDoor.CurNum
open Go.RowKit CurKit CurByte Cur

def OneOf (xs : List Int) (R : World → Prop) (e : Ending) (w' : World) : Prop := ∃ x : Int, x ∈ xs ∧ e = .returned (.int .i64 x) ∧ R w'
def SomeI64 (R : World → Prop) (e : Ending) (w' : World) : Prop := ∃ x : Int, -9223372036854775808 ≤ x ∧ x ≤ 9223372036854775807 ∧ e = .returned (.int .i64 x) ∧ R w'

set_option maxRecDepth 100000 in
set_option maxHeartbeats 1000000 in
theorem pick_c (w0 w : World) (b : Nat) (a : Option Addr) (len cap : Nat) (hc : CurIn 50 w0 w b a len cap)
    (g n : Nat) (T : TypeId) (xs : List Int) (hl : xs.length = n) (hn : 0 < n) (hn2 : n ≤ 1000) (hg : w.heap[g]? = some (.cells (xs.map (Value.int .i64)).toArray T (0, 0))) (hgb : g ≠ b) :
    Calls Tryd.prog 32 #[.pointer (some ⟨b, 0, none⟩), .slice (some ⟨g, 0, none⟩) n n] w (OneOf xs (Goes w0 w b a len cap)) := by
  have HC := Lib.hid hc
  have HG := Lib.hid hg
  have HL := Lib.hid hl
  clear hc hg hl
  go_enter Tryd.func32, Tryd.ntmps32
  go_wp2_with fail
  refine (below_c w0 _ b a len cap n HC.out (by omega)).mono ?_
  rintro e w1 ⟨x, hx, rfl, hr⟩
  have HR := Lib.hid hr
  have hx2 : x < n := by omega
  have hc1 : w1.cell? ⟨g, x, none⟩ = some (.int .i64 (xs.getD x 0)) := by
    have h1 := hr.2.block g (Array.getElem?_eq_some_iff.1 HG.out).1 (fun e => hgb (by simpa using e))
    rw [cell_of_row w1 g x _ _ _ (h1.trans HG.out)]
    have : x < xs.length := by rw [HL.out]; exact hx2
    simp [this]
  clear hr hx
  obtain ⟨v, hv⟩ : ∃ v, xs.getD x 0 = v := ⟨_, rfl⟩
  rw [hv] at hc1
  have HV := Lib.hid hv
  clear hv
  go_wp2
  go_ret
  refine ⟨v, ?_, rfl, HR.out⟩
  have hx3 : x < xs.length := by rw [HL.out]; exact hx2
  rw [← HV.out]
  simp [List.getD, hx3]

set_option maxRecDepth 100000 in
set_option maxHeartbeats 1000000 in
theorem number_c (w0 w : World) (b : Nat) (a : Option Addr) (len cap : Nat) (hc : CurIn 50 w0 w b a len cap) :
    Calls Tryd.prog 26 #[.pointer (some ⟨b, 0, none⟩)] w (SomeI64 (Goes w0 w b a len cap)) := by
  have HC := Lib.hid hc
  clear hc
  go_enter Tryd.func26, Tryd.ntmps26
  go_wp2_with fail
  refine (below_c w0 _ b a len cap 4 HC.out (by omega)).mono ?_
  rintro e w1 ⟨x, hx, rfl, hr⟩
  have HR := Lib.hid hr
  clear hr
  by_cases h0 : x = 0
  · subst h0
    clear hx
    go_wp2_with fail
    have hlt : b < w1.heap.size := HR.out.1.lt
    refine (pick_c w0 _ b a len cap (HR.out.1.alloc _) w1.heap.size 10 _ [-1, 0, 127, 128, 16383, 16384, 1000000000, 1000000001, 9223372036854775807, -9223372036854775808] rfl (by omega) (by omega) (heap_alloc_new w1 _) (by omega)).mono ?_
    rintro e w2 ⟨v, hv, rfl, hr2⟩
    have HV := Lib.hid hv
    have H2 := Lib.hid (show Goes w0 w b a len cap w2 from ⟨hr2.1, (HR.out.2.alloc _).trans hr2.2⟩)
    clear hv hr2 HR
    go_wp2
    go_ret
    have B : ∀ z ∈ [-1, 0, 127, 128, 16383, 16384, 1000000000, 1000000001, 9223372036854775807, -9223372036854775808], (-9223372036854775808 : Int) ≤ z ∧ z ≤ 9223372036854775807 := by decide
    exact ⟨v, (B v HV.out).1, (B v HV.out).2, rfl, H2.out⟩
  · have b0 : ((x : Int) == 0) = false := by rw [beq_eq_false_iff_ne]; omega
    by_cases h1 : x = 1
    · subst h1
      clear hx
      go_wp2_with fail
      refine (below_c w0 _ b a len cap 1000000000 HR.out.1 (by omega)).mono ?_
      rintro e w2 ⟨v, hv, rfl, hr2⟩
      have H2 := Lib.hid (show Goes w0 w b a len cap w2 from ⟨hr2.1, HR.out.2.trans hr2.2⟩)
      clear hr2 HR
      go_wp2
      go_ret
      exact ⟨v, by omega, by omega, rfl, H2.out⟩
    · have b1 : ((x : Int) == 1) = false := by rw [beq_eq_false_iff_ne]; omega
      clear hx
      go_wp2_with fail
      refine (below_c w0 _ b a len cap 400 HR.out.1 (by omega)).mono ?_
      rintro e w2 ⟨v, hv, rfl, hr2⟩
      have H2 := Lib.hid (show Goes w0 w b a len cap w2 from ⟨hr2.1, HR.out.2.trans hr2.2⟩)
      clear hr2 HR
      go_wp2
      go_ret
      exact ⟨v, by omega, by omega, rfl, H2.out⟩
end Go.Proofs.YtnbmfdlmgdhocaaDoor.CurNum
