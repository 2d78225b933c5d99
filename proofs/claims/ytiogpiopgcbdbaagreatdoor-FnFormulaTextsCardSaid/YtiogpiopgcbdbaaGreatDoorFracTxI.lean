/- Contract of the program's FormatFrac. -/
import Derived.Test.YtiogpiopgcbdbaaGreatDoorRows
import Derived.Test.YtiogpiopgcbdbaaGreatDoorFracTxS
import Derived.Test.YtiogpiopgcbdbaaGreatDoorItoa
namespace Go.Proofs.YtiogpiopgcbdbaaGreatDoor.FracTxI
open Go.RowKit FracMath HexMath NumMath NumParse NumBack FracTxM FracTxS
theorem fmtG {w0 : World} {X : Grown.G w0} {n : Int} {t : ByteArray} (h1 : -9223372036854775808 ≤ n) (h2 : n ≤ 9223372036854775807) (h : str (fmt n) = t) (ht : ItoaC.Tab w0) : Calls Tryz.prog 42 #[.int .i64 n] X.w (fun e w'' => e = .returned (.string t) ∧ ∃ Y : Grown.G w0, w'' = Y.w) :=
  Grown.grown_of (by rw [← h]; exact ItoaC.impl_fmt n X.w h1 h2 (ItoaC.tab_below ht X.bel))
set_option maxHeartbeats 1000000 in
theorem format_i (n d : Int) (w : World) (htab : ItoaC.Tab w) : Calls Tryz.prog 41 #[.agg #[.int .i64 n, .int .i64 d]] w (IsStr (fracT n d) w) := by
  have HTB := Lib.hid htab
  clear htab
  cases h : okB n d with
  | false =>
    rw [fracT_no h]
    have H := Lib.hid h
    clear h
    go_enter Tryz.func41, Tryz.ntmps41
    go_wp2_with fail
    refine (FracValid.valid_i n d _).mono ?_
    rintro e w1 ⟨rfl, hb⟩
    rw [H.out]
    have HB := Lib.hid (BelowKit.bl_trans (BelowKit.bl_alloc (Below.refl _ _)) hb)
    clear hb
    go_wp2
    go_ret
    exact ⟨rfl, HB.out⟩
  | true =>
    obtain ⟨d1, d2, n1, n2⟩ := ok_bd h
    have H := Lib.hid h
    by_cases hd : d = 1
    · subst hd
      rw [fracT_one h]
      clear h d1 d2
      go_enter Tryz.func41, Tryz.ntmps41
      go_wp2_with fail
      refine (FracValid.valid_i n 1 _).mono ?_
      rintro e w1 ⟨rfl, hb⟩
      rw [H.out]
      have c0 : w1.cell? ⟨w.heap.size, 0, none⟩ = some (.int .i64 n) := ((BelowKit.bcell hb).1 _ _ (by simp)).trans (by simp [go_sem])
      have c1 : w1.cell? ⟨w.heap.size, 1, none⟩ = some (.int .i64 1) := ((BelowKit.bcell hb).1 _ _ (by simp)).trans (by simp [go_sem])
      have z1 : w.heap.size < w1.heap.size := by have := hb.size; simp at this; omega
      have HB := Lib.hid (BelowKit.bl_trans (BelowKit.bl_alloc (Below.refl _ _)) hb)
      clear hb
      go_wp2_with fail
      refine (ItoaC.impl_fmt n _ (by omega) (by omega) (ItoaC.tab_below HTB.out HB.out)).mono ?_
      rintro e w2 ⟨rfl, hb⟩
      have HB2 := Lib.hid (BelowKit.bl_trans HB.out hb)
      clear hb
      go_wp2
      go_ret
      exact ⟨rfl, HB2.out⟩
    · rw [fracT_two h hd]
      have dd : (d == 1) = false := beq_eq_false_iff_ne.2 hd
      obtain ⟨t, ht⟩ : ∃ t, str (fmt n) = t := ⟨_, rfl⟩
      obtain ⟨u, hu⟩ : ∃ t, str (fmt d) = t := ⟨_, rfl⟩
      have HT := Lib.hid ht
      have HU := Lib.hid hu
      have HN := Lib.hid (show -1000000000000 ≤ n ∧ n ≤ 1000000000000 from ⟨n1, n2⟩)
      have HD := Lib.hid (show 1 ≤ d ∧ d ≤ 1000000 from ⟨d1, d2⟩)
      have s1 : t.size ≤ 20 := by rw [← ht, str_size]; exact (fmt_len n (by omega) (by omega)).1
      have s2 : u.size ≤ 20 := by rw [← hu, str_size]; exact (fmt_len d (by omega) (by omega)).1
      have L1 : ¬ 9223372036854775807 < t.size + 1 := by omega
      have L2 : ¬ 9223372036854775807 < t.size + 1 + u.size := by omega
      clear h d1 d2 n1 n2 hd ht hu s1 s2
      go_enter Tryz.func41, Tryz.ntmps41
      go_wp2_with fail
      refine (FracValid.valid_i n d _).mono ?_
      rintro e w1 ⟨rfl, hb⟩
      rw [H.out]
      have c0 : w1.cell? ⟨w.heap.size, 0, none⟩ = some (.int .i64 n) := ((BelowKit.bcell hb).1 _ _ (by simp)).trans (by simp [go_sem])
      have c1 : w1.cell? ⟨w.heap.size, 1, none⟩ = some (.int .i64 d) := ((BelowKit.bcell hb).1 _ _ (by simp)).trans (by simp [go_sem])
      have z1 : w.heap.size < w1.heap.size := by have := hb.size; simp at this; omega
      have HB := Lib.hid (BelowKit.bl_trans (BelowKit.bl_alloc (Below.refl _ _)) hb)
      have HT1 := Lib.hid (ItoaC.tab_below HTB.out HB.out)
      clear hb
      go_wp2_with fail
      have g0 := Grown.G.keep c0 z1
      have g1 := Grown.G.keep c1 z1
      refine Grown.wp_region_grown (by kernel_rfl) (by kernel_rfl) ?_
      repeat (go_big_quiet_step ((go_at_call 42; with_reducible first | exact fmtG (by have := HN.out; omega) (by have := HN.out; omega) HT.out HT1.out | exact fmtG (by have := HD.out; omega) (by have := HD.out; omega) HU.out HT1.out)))
      refine wpQuiet_nil ?_
      rintro w5 ⟨X, rfl⟩
      have HX := Lib.hid (BelowKit.bl_trans HB.out X.bel)
      clear g0 g1 c0 c1
      go_wp2
      go_ret
      refine ⟨str_eq ?_, HX.out⟩
      rw [← HT.out, ← HU.out]
      apply ByteArray.ext
      simp [str]
end Go.Proofs.YtiogpiopgcbdbaaGreatDoor.FracTxI
