/- The contract of the program's FormatInt (strconv.Itoa): the same decimal text as the plain function, for every integer of 64 bits, where the library's table of powers of ten is as laid. -/
import Derived.Test.YtiogpiopgcbdbaaGreatDoorRows
import Derived.Test.YtiogpiopgcbdbaaGreatDoorShelf
import Derived.Test.YtiogpiopgcbdbaaGreatDoorKit
import Derived.Test.YtiogpiopgcbdbaaGreatDoorNumFmt
import Derived.Lib.AppendIntMem
import Derived.WalkSmall
namespace Go.Proofs.YtiogpiopgcbdbaaGreatDoor.ItoaC
open Go.RowKit HexMath NumMath

theorem digits_pos : ∀ (k n : Nat), n ≤ k → 0 < n → Lib.decDigits n = dg n := by
  intro k
  induction k with
  | zero => intro n h1 h2; omega
  | succ k ih =>
    intro n h1 h2
    rw [Lib.decDigits, dg_pos n h2]
    have hf : ∀ m, m < 10 → UInt8.ofNat (48 + m) = fig m := fun m hm => by unfold fig; rw [if_pos hm]
    by_cases h : n < 10
    · rw [dif_pos h, show n / 10 = 0 by omega, dg_zero, show n % 10 = n by omega, hf n h]; rfl
    · rw [dif_neg h, ih (n / 10) (by omega) (by omega), hf (n % 10) (by omega)]
theorem itoa_fmt (n : Int) : Lib.itoa n = fmt n := by
  unfold Lib.itoa fmt
  by_cases h0 : n = 0
  · subst h0; rw [if_neg (by omega), if_pos rfl, Lib.decDigits]; rfl
  · rw [if_neg h0]
    by_cases h : n < 0
    · rw [if_pos h, if_pos h, digits_pos _ n.natAbs (Nat.le_refl _) (by omega)]
    · rw [if_neg h, if_neg h, digits_pos _ n.toNat (Nat.le_refl _) (by omega), show n.toNat = n.natAbs by omega]

abbrev Tab (w : World) : Prop := Lib.TabIs Tryz.prog w "internal/strconv.uint64pow10" .u64 Lib.pow10Tab
theorem gTab : Tryz.prog.globalNamed "internal/strconv.uint64pow10" = some 3 := by kernel_rfl
/-- The table stays where nothing below is written. -/
theorem tab_lt {w : World} (h : Tab w) : 3 < w.heap.size := by
  rcases Nat.lt_or_ge 3 w.heap.size with h1 | h1
  · exact h1
  · unfold Tab Lib.TabIs World.var? at h
    rw [gTab] at h
    simp [Array.getElem?_eq_none h1] at h
theorem tab_below {w w' : World} (h : Tab w) (hb : Below w.heap.size w w') : Tab w' := var?_below hb gTab (tab_lt h) h

set_option maxHeartbeats 400000 in
theorem impl_fmt (n : Int) (w : World) (h1 : -9223372036854775808 ≤ n) (h2 : n ≤ 9223372036854775807) (htab : Tab w) :
    Calls Tryz.prog 42 #[.int .i64 n] w fun e w' => e = .returned (.string ⟨(fmt n).toArray⟩) ∧ Below w.heap.size w w' := by
  have H := Lib.hid (Tryz.strconv_Itoa n h1 h2)
  have HT := Lib.hid htab
  have HF := Lib.hid (itoa_fmt n)
  clear htab h1 h2
  go_enter Tryz.func42, Tryz.ntmps42
  go_wp2_with fail
  refine (H.out _ HT.out).mono ?_
  rintro e w1 ⟨rfl, k, os, rfl⟩
  rw [HF.out]
  go_wp2
  go_ret
  exact ⟨rfl, Lib.below_grow _ w (Nat.le_refl _) k os⟩
end Go.Proofs.YtiogpiopgcbdbaaGreatDoor.ItoaC
