/- Contracts of both MonthText: the text of the month, or the empty text; where the library's table of powers of ten and the program's names of months are as laid. -/
import Derived.Test.YtggnkjnpiagdpaaDoorRows
import Derived.Test.YtggnkjnpiagdpaaDoorMon
import Derived.Test.YtggnkjnpiagdpaaDoorMonMath
import Derived.Test.YtggnkjnpiagdpaaDoorNumFmt
import Derived.Test.YtggnkjnpiagdpaaDoorNumBack
import Derived.Test.YtggnkjnpiagdpaaDoorItoa
import Derived.Test.YtggnkjnpiagdpaaDoorBelowKit
import Derived.Lib.Hide
import Derived.BigQuiet
import Derived.Deep.RegionHeld3
import Derived.WalkSmall
namespace Go.Proofs.YtggnkjnpiagdpaaDoor.MonText
open Go.RowKit HexMath NumMath NumBack MonMath Mon

def IsS (t : ByteArray) (w : World) (e : Ending) (w' : World) : Prop := e = .returned (.string t) ∧ Below w.heap.size w w'
def mtx (m : Int) : ByteArray := if inB m 0 3599 = true then ⟨(mt m.toNat).toArray⟩ else ⟨#[]⟩
theorem mtx_no {m : Int} (h : inB m 0 3599 = false) : mtx m = ⟨#[]⟩ := by simp [mtx, h]
theorem mtx_yes (k : Nat) (h : k < 3600) : mtx (k : Int) = ⟨(mt k).toArray⟩ := by
  unfold mtx
  rw [if_pos (inB_yes (by omega) (by omega)), Int.toNat_natCast]
theorem two_size (k : Nat) : (⟨(two k).toArray⟩ : ByteArray).size = 2 := rfl
theorem four_size (k : Nat) : (⟨(four k).toArray⟩ : ByteArray).size = 4 := rfl
theorem str_eq {a b : ByteArray} (h : a = b) : Ending.returned (.string a) = .returned (.string b) := by rw [h]
theorem year_fmt (m : Nat) (h : m < 3600) : fmt (1900 + (m : Int) / 12) = four (1900 + m / 12) := by
  rw [show 1900 + (m : Int) / 12 = ((1900 + m / 12 : Nat) : Int) by omega, fmt_four _ (by omega) (by omega)]
theorem join (m : Nat) : (⟨(four (1900 + m / 12)).toArray⟩ : ByteArray) ++ ⟨#[45]⟩ ++ ⟨(two (m % 12 + 1)).toArray⟩ = ⟨(mt m).toArray⟩ := by
  apply ByteArray.ext
  simp [MonMath.mt]

set_option maxHeartbeats 400000 in
theorem two_c (n : Int) (k : Nat) (w : World) (hn : n = (k : Int)) (h1 : 0 < k) (h2 : k < 13) :
    Calls Tryd.prog 47 #[.int .i64 n] w (IsS ⟨(two k).toArray⟩ w) := by
  subst hn
  have F := Lib.hid (fun w => NumFmt.fmt_any (k : Int) w (by omega) (by omega))
  by_cases h : k < 10
  · obtain ⟨t, ht⟩ : ∃ t : ByteArray, (⟨(fmt (k : Int)).toArray⟩ : ByteArray) = t := ⟨_, rfl⟩
    have hs : t.size ≤ 1 := by rw [← ht, fmt_lo k h1 h]; exact Nat.le_refl _
    have E := Lib.hid (show (⟨#[48]⟩ : ByteArray) ++ t = ⟨(two k).toArray⟩ by rw [← ht, fmt_lo k h1 h, two_lo k h]; rfl)
    rw [ht] at F
    clear ht
    go_enter Tryd.func47, Tryd.ntmps47
    go_wp2_with fail
    refine (F.out _).mono ?_
    rintro e w1 ⟨rfl, hb1⟩
    have HB1 := Lib.hid hb1
    clear hb1
    go_wp2
    go_ret
    exact ⟨str_eq E.out, HB1.out⟩
  · have E := Lib.hid (show fmt (k : Int) = two k from fmt_hi k (by omega) (by omega))
    rw [E.out] at F
    go_enter Tryd.func47, Tryd.ntmps47
    go_wp2_with fail
    refine (F.out _).mono ?_
    rintro e w1 ⟨rfl, hb1⟩
    have HB1 := Lib.hid hb1
    clear hb1
    go_wp2
    go_ret
    exact ⟨rfl, HB1.out⟩
set_option maxHeartbeats 400000 in
theorem text_s (m : Int) (w : World) : Calls Tryd.prog 31 #[.int .i64 m] w (IsS (mtx m) w) := by
  cases h : inB m 0 3599 with
  | false =>
    rw [mtx_no h]
    have H := Lib.hid h
    clear h
    go_enter Tryd.func31, Tryd.ntmps31
    go_wp2_with fail
    refine (ok_s _ _).mono ?_
    rintro e w' ⟨rfl, rfl⟩
    rw [H.out]
    go_wp2
    go_ret
    exact ⟨rfl, Below.refl _ _⟩
  | true =>
    obtain ⟨a1, a2⟩ := inB_of h
    obtain ⟨k, rfl⟩ := Int.eq_ofNat_of_zero_le a1
    have hk : k < 3600 := by omega
    rw [mtx_yes k hk]
    have H := Lib.hid h
    have F := Lib.hid (fun w => NumFmt.fmt_any (1900 + (k : Int) / 12) w (by omega) (by omega))
    rw [year_fmt k hk] at F
    have T := Lib.hid (fun w => two_c ((k : Int) % 12 + 1) (k % 12 + 1) w (by omega) (by omega) (by omega))
    have J := Lib.hid (join k)
    obtain ⟨t, ht⟩ : ∃ t : ByteArray, (⟨(four (1900 + k / 12)).toArray⟩ : ByteArray) = t := ⟨_, rfl⟩
    obtain ⟨u, hu⟩ : ∃ t : ByteArray, (⟨(two (k % 12 + 1)).toArray⟩ : ByteArray) = t := ⟨_, rfl⟩
    have s1 : t.size ≤ 4 := by rw [← ht]; exact Nat.le_refl _
    have s2 : u.size ≤ 2 := by rw [← hu]; exact Nat.le_refl _
    rw [ht] at F J
    rw [hu] at T J
    clear ht hu h
    go_enter Tryd.func31, Tryd.ntmps31
    go_wp2_with fail
    refine (ok_s _ _).mono ?_
    rintro e w' ⟨rfl, rfl⟩
    rw [H.out]
    go_wp2_with fail
    refine (F.out _).mono ?_
    rintro e w1 ⟨rfl, hb1⟩
    have HB1 := Lib.hid hb1
    clear hb1
    go_wp2_with fail
    refine (T.out _).mono ?_
    rintro e w2 ⟨rfl, hb2⟩
    have HB2 := Lib.hid hb2
    clear hb2
    go_wp2
    go_ret
    exact ⟨str_eq J.out, BelowKit.bl_trans HB1.out HB2.out⟩
/-- The cells of the program's names of months. -/
def nmCells : Array Value := ((List.range 12).map fun k => Value.string ⟨(two (k + 1)).toArray⟩).toArray
abbrev Names (w : World) : Prop := w.var? Tryd.prog "loop.example/g00980/impl.monthNames" = some nmCells
theorem gNames : Tryd.prog.globalNamed "loop.example/g00980/impl.monthNames" = some 0 := by kernel_rfl
theorem names_lt {w : World} (h : Names w) : 0 < w.heap.size := by
  rcases Nat.lt_or_ge 0 w.heap.size with h1 | h1
  · exact h1
  · unfold Names World.var? at h
    rw [gNames] at h
    simp [Array.getElem?_eq_none h1] at h
theorem names_below {w w' : World} (h : Names w) (hb : Below w.heap.size w w') : Names w' := var?_below hb gNames (names_lt h) h
theorem nm_at (k : Nat) (h : k < 12) : nmCells[k]? = some (.string ⟨(two (k + 1)).toArray⟩) := by
  simp [nmCells, h]
theorem name_cell {w : World} (h : Names w) (k : Nat) (hk : k < 12) : w.cell? ⟨0, k, none⟩ = some (.string ⟨(two (k + 1)).toArray⟩) := by
  rw [World.var?_cell gNames h k, nm_at k hk]
theorem names_row {w : World} (h : Names w) : ∃ t fr, w.heap[0]? = some (.cells nmCells t fr) := by
  unfold Names World.var? at h
  rw [gNames] at h
  simp only [Option.bind_some] at h
  split at h
  · rename_i cs t fr hc
    obtain rfl := Option.some.inj h
    exact ⟨t, fr, hc⟩
  · cases h
set_option maxHeartbeats 400000 in
theorem text_i (m : Int) (w : World) (htab : ItoaC.Tab w) (hnm : Names w) : Calls Tryd.prog 41 #[.int .i64 m] w (IsS (mtx m) w) := by
  have HT := Lib.hid htab
  have HN := Lib.hid hnm
  clear htab hnm
  cases h : inB m 0 3599 with
  | false =>
    rw [mtx_no h]
    have H := Lib.hid h
    clear h
    go_enter Tryd.func41, Tryd.ntmps41
    go_wp2_with fail
    refine (ok_i _ _).mono ?_
    rintro e w' ⟨rfl, rfl⟩
    rw [H.out]
    go_wp2
    go_ret
    exact ⟨rfl, Below.refl _ _⟩
  | true =>
    obtain ⟨a1, a2⟩ := inB_of h
    obtain ⟨k, rfl⟩ := Int.eq_ofNat_of_zero_le a1
    have hk : k < 3600 := by omega
    rw [mtx_yes k hk]
    have H := Lib.hid h
    have F := Lib.hid (fun w ht => ItoaC.impl_fmt (1900 + (k : Int) / 12) w (by omega) (by omega) ht)
    rw [year_fmt k hk] at F
    have c0 := name_cell HN.out (k % 12) (by omega)
    have J := Lib.hid (join k)
    obtain ⟨t, ht⟩ : ∃ t : ByteArray, (⟨(four (1900 + k / 12)).toArray⟩ : ByteArray) = t := ⟨_, rfl⟩
    obtain ⟨u, hu⟩ : ∃ t : ByteArray, (⟨(two (k % 12 + 1)).toArray⟩ : ByteArray) = t := ⟨_, rfl⟩
    have s1 : t.size ≤ 4 := by rw [← ht]; exact Nat.le_refl _
    have s2 : u.size ≤ 2 := by rw [← hu]; exact Nat.le_refl _
    rw [ht] at F J
    rw [hu] at c0 J
    have ew : ((k : Int) % 12).toNat = k % 12 := by omega
    have e0 : 0 ≤ (k : Int) % 12 := by omega
    have e1 : (k : Int) % 12 < 12 := by omega
    rw [← ew] at c0
    clear ht hu h ew
    have W1 : IntKind.i64.wrap ((k : Int) / 12) = (k : Int) / 12 := IntWalk.i64_in _ (by omega)
    have W2 : IntKind.i64.wrap (1900 + (k : Int) / 12) = 1900 + (k : Int) / 12 := IntWalk.i64_in _ (by omega)
    have W3 : (k : Int).tmod 12 = (k : Int) % 12 := Int.tmod_eq_emod_of_nonneg (by omega)
    have L1 : ¬ 9223372036854775807 < t.size + 1 := by omega
    have L2 : ¬ 9223372036854775807 < t.size + 1 + u.size := by omega
    have hlt := names_lt HN.out
    go_enter Tryd.func41, Tryd.ntmps41
    go_wp2_with fail
    refine (ok_i _ _).mono ?_
    rintro e w' ⟨rfl, rfl⟩
    rw [H.out]
    go_wp2_with fail
    go_region_held3 (fun W => W.cell? ⟨0, ((k : Int) % 12).toNat, none⟩ = some (.string u))
      (first | exact c0 | exact (hc1 _ _ (by first | exact hlt | (simp; exact hlt) | (simp; omega))).trans c0)
      ((go_at_call 42; (refine (F.out _ (ItoaC.tab_below HT.out (by (repeat (first | exact Below.refl _ _ | apply BelowKit.bl_alloc | apply BelowKit.bl_drewN | apply BelowKit.bl_drew | (refine BelowKit.bl_set ?_ _ ?_; rotate_left; (first | omega | (simp; omega) | simp)) | (refine BelowKit.bl_trans ?_ (‹Hid (Below _ _ _)›).out)))))).mono ?_); rintro e w1 ⟨rfl, hb1⟩; obtain ⟨hc1, hf1⟩ := BelowKit.bcell hb1; have HB1 := Lib.hid hb1; clear hb1))
    go_wp2
    go_ret
    exact ⟨str_eq J.out, by (repeat (first | exact Below.refl _ _ | apply BelowKit.bl_alloc | apply BelowKit.bl_drewN | apply BelowKit.bl_drew | (refine BelowKit.bl_set ?_ _ ?_; rotate_left; (first | omega | (simp; omega) | simp)) | (refine BelowKit.bl_trans ?_ (‹Hid (Below _ _ _)›).out)))⟩
end Go.Proofs.YtggnkjnpiagdpaaDoor.MonText
