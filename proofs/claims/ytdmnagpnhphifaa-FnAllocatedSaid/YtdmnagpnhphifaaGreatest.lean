/- The contract of the program's greatestFirst: the indexes, that of the greatest value first; of equal values the lower index first. -/
import Derived.Test.YtdmnagpnhphifaaRows
import Derived.Test.YtdmnagpnhphifaaRow1
import Derived.Test.YtdmnagpnhphifaaIntRow
import Derived.Test.YtdmnagpnhphifaaSpread
import Derived.Test.YtdmnagpnhphifaaStable
import Derived.Test.YtdmnagpnhphifaaQuiet
import Derived.Test.YtdmnagpnhphifaaBelowKit
import Derived.Lib.Hide
namespace Go.Proofs.Ytdmnagpnhphifaa.Greatest
open Go.RowKit Row1 IntRow CurKit Stab StabKit Stable

/-- cmp.Compare at int. -/
def cmpJ (x y : Int) : Int := if x < y then -1 else if y < x then 1 else 0
theorem cmpJ_neg {x y : Int} : cmpJ x y < 0 ↔ x < y := by unfold cmpJ; split <;> rename_i h; simp [h]; split <;> simp [h]
theorem int_eq {a b : Int} (h : a = b) : Ending.returned (.int .i64 a) = .returned (.int .i64 b) := by rw [h]

set_option maxHeartbeats 400000 in
theorem nan_c (x : Int) (w : World) : Calls Try.prog 51 #[.int .i64 x] w fun e w' => e = .returned (.bool false) ∧ w = w' := by
  go_enter Try.func51, Try.ntmps51
  go_wp2
  go_ret
  exact ⟨by simp, rfl⟩
set_option maxHeartbeats 1000000 in
theorem cmp_c (x y : Int) (w : World) : Calls Try.prog 46 #[.int .i64 x, .int .i64 y] w fun e w' => e = .returned (.int .i64 (cmpJ x y)) ∧ w = w' := by
  by_cases h1 : x < y
  · rw [show cmpJ x y = -1 by simp [cmpJ, h1]]
    go_enter Try.func46, Try.ntmps46
    go_wp2_with (go_at_call 51; refine (nan_c _ _).mono ?_; rintro e w' ⟨rfl, rfl⟩)
    go_ret
    exact ⟨rfl, rfl⟩
  · by_cases h2 : y < x
    · rw [show cmpJ x y = 1 by simp [cmpJ, h1, h2]]
      go_enter Try.func46, Try.ntmps46
      go_wp2_with (go_at_call 51; refine (nan_c _ _).mono ?_; rintro e w' ⟨rfl, rfl⟩)
      go_ret
      exact ⟨rfl, rfl⟩
    · rw [show cmpJ x y = 0 by simp [cmpJ, h1, h2]]
      go_enter Try.func46, Try.ntmps46
      go_wp2_with (go_at_call 51; refine (nan_c _ _).mono ?_; rintro e w' ⟨rfl, rfl⟩)
      go_ret
      exact ⟨rfl, rfl⟩

/-- The value of an index. -/
def val (r : List Int) (x : Int) : Int := r.getD x.toNat 0
def cf (r : List Int) (x y : Int) : Int := cmpJ (val r y) (val r x)
/-- The greater value first; of equal ones the lower index. -/
def R (r : List Int) (x y : Int) : Prop := val r y < val r x ∨ (val r x = val r y ∧ x < y)
def ok (m : Nat) (x : Int) : Prop := 0 ≤ x ∧ x < m
theorem trans (r : List Int) : Trans (R r) := by intro x y z h1 h2; unfold R at *; omega
def idx (m : Nat) : List Int := (List.range m).map fun (i : Nat) => (i : Int)
theorem idx_ok (m : Nat) : ∀ x ∈ idx m, ok m x := by
  intro x hx
  obtain ⟨i, hi, rfl⟩ := List.mem_map.1 hx
  have := List.mem_range.1 hi
  unfold ok; omega
theorem idx_len (m : Nat) : (idx m).length = m := by simp [idx]
theorem idx_succ (m : Nat) : idx (m + 1) = idx m ++ [(m : Int)] := by simp [idx, List.range_succ]
theorem idx_agree (r : List Int) (m : Nat) : (idx m).Pairwise (Agree (R r) (cf r)) := by
  unfold idx
  rw [List.pairwise_map]
  refine List.pairwise_lt_range.imp ?_
  intro i j hij
  unfold Agree cf R
  rw [cmpJ_neg]
  omega

set_option maxRecDepth 100000 in
set_option maxHeartbeats 1000000 in
/-- The comparison: it reads the values through the captured variable c. -/
theorem closure_c (r : List Int) (m c v off cap : Nat) (x y : Int) (w : World) (hx : ok m x) (hy : ok m y) (hbox : w.cell? ⟨c, 0, none⟩ = some (.slice (some ⟨v, off, none⟩) m cap))
    (hv : ∀ j, j < m → w.cell? ⟨v, off + j, none⟩ = some (.int .i64 (r.getD j 0))) :
    Calls Try.prog 45 #[.int .i64 x, .int .i64 y, .pointer (some ⟨c, 0, none⟩)] w fun e w' => e = .returned (.int .i64 (cf r x y)) ∧ ∃ q, w' = w.drewN q := by
  obtain ⟨hx0, hx1⟩ := hx
  obtain ⟨hy0, hy1⟩ := hy
  have c1 := hv x.toNat (by omega)
  have c2 := hv y.toNat (by omega)
  obtain ⟨p, hp⟩ : ∃ p, val r x = p := ⟨_, rfl⟩
  obtain ⟨q, hq⟩ : ∃ q, val r y = q := ⟨_, rfl⟩
  rw [show r.getD x.toNat 0 = p from hp] at c1
  rw [show r.getD y.toNat 0 = q from hq] at c2
  rw [show cf r x y = cmpJ q p by unfold cf; rw [hp, hq]]
  obtain ⟨z, hz⟩ : ∃ z, cmpJ q p = z := ⟨_, rfl⟩
  rw [hz]
  have hc : ∀ n, Calls Try.prog 46 #[.int .i64 q, .int .i64 p] (w.drewN n) fun e w'' => e = .returned (.int .i64 z) ∧ ∃ m, w'' = w.drewN m := fun n => Quiet.left (by rw [← hz]; exact cmp_c q p _)
  clear hv hp hq hz
  go_enter Try.func45, Try.ntmps45
  go_wp2_with fail
  go_quiet ((go_at_call 46; exact hc _))
  go_wp2
  go_ret
  exact ⟨rfl, _, rfl⟩

theorem cmp_at (r : List Int) (m c v off cap g : Nat) (w0 : World) (hcg : c ≠ g) (hvg : v ≠ g) (hc0 : c < w0.heap.size) (hv0 : v < w0.heap.size) (hbox : w0.cell? ⟨c, 0, none⟩ = some (.slice (some ⟨v, off, none⟩) m cap))
    (hv : ∀ j, j < m → w0.cell? ⟨v, off + j, none⟩ = some (.int .i64 (r.getD j 0))) : CmpAt Try.prog w0 g 45 #[.pointer (some ⟨c, 0, none⟩)] (ok m) (cf r) := by
  intro w ho x y hx hy
  have e1 : w.heap[c]? = w0.heap[c]? := ho.block c hc0 (fun e => hcg (by simpa using e))
  have e2 : w.heap[v]? = w0.heap[v]? := ho.block v hv0 (fun e => hvg (by simpa using e))
  exact closure_c r m c v off cap x y w hx hy ((World.cell?_of_block e1).trans hbox) (fun j hj => (World.cell?_of_block e2).trans (hv j hj))

/-- The base may be any number up to the row's own block. -/
theorem rebase {w : World} {B B' T g n c : Nat} {l : List Int} (h : Owns fI w B T (.slice (some ⟨g, 0, none⟩) n c) l) (hb : B' ≤ g) : Owns fI w B' T (.slice (some ⟨g, 0, none⟩) n c) l := by
  refine ⟨h.1, ?_⟩
  rcases h.2 with ⟨hn, _⟩ | ⟨g', cap, cur, e, hbg, rest⟩
  · cases hn
  · cases e
    exact .inr ⟨g, c, cur, rfl, hb, rest⟩

def IsOrder (r : List Int) (m : Nat) (w : World) (e : Ending) (w' : World) : Prop :=
  ∃ (g : Nat) (l : List Int), w.heap.size ≤ g ∧ l.length = m ∧ l.Perm (idx m) ∧ l.Pairwise (R r) ∧ e = .returned (.slice (some ⟨g, 0, none⟩) m m) ∧ Owns fI w' w.heap.size 3 (.slice (some ⟨g, 0, none⟩) m m) l ∧ Below w.heap.size w w'

set_option maxRecDepth 100000 in
set_option maxHeartbeats 2000000 in
theorem greatest_c (r : List Int) (m v off cap : Nat) (w : World) (hr : r.length = m) (hm : m ≤ 40) (hv : v < w.heap.size) (hc : ∀ j, j < m → w.cell? ⟨v, off + j, none⟩ = some (.int .i64 (r.getD j 0))) :
    Calls Try.prog 36 #[.slice (some ⟨v, off, none⟩) m cap] w (IsOrder r m w) := by
  have HR := Lib.hid hr
  have HCV := Lib.hid hc
  clear hr hc
  obtain ⟨w1, hw1⟩ : ∃ w1, w.alloc (.cells #[.slice (some ⟨v, off, none⟩) m cap] 30) = w1 := ⟨_, rfl⟩
  have HW1 := Lib.hid hw1
  have HB1 := Lib.hid (show Below w.heap.size w w1 by rw [← hw1]; exact (Below.refl _ _).alloc (Nat.le_refl _) _)
  have hz1 : w1.heap.size = w.heap.size + 1 := by rw [← hw1]; simp
  have hbox : w1.cell? ⟨w.heap.size, 0, none⟩ = some (.slice (some ⟨v, off, none⟩) m cap) := by rw [← hw1]; simp [go_sem]
  have HX := Lib.hid (And.intro hbox hz1)
  have hz1' : w.heap.size < w1.heap.size := by omega
  clear hz1 hw1
  have eg : ∀ args w, (callFunc 45 args).run Try.prog w = .ok (.enter 45 args) w := enters_of Try.func45 (by kernel_rfl) rfl
  have HEG := Lib.hid eg
  clear eg
  go_enter Try.func36, Try.ntmps36
  go_wp2_with (at_make; rw [HW1.out]; refine wpList_make1 it _ rfl _ _ rfl w1.heap.size .i64 .i64 _ _ m rfl rfl rfl rfl (by omega) (Nat.le_refl _) ?_; intro w2 hown2 hg2)
  have HO2 := Lib.hid hown2
  have HB2 := Lib.hid (show Below w1.heap.size w1 w2 from (Below.refl _ _).grown hg2 (Nat.le_refl _) (by simp))
  clear hown2 hg2
  go_loopw [10] (fun i wr => ∃ j : Nat, j ≤ m ∧ i = .int .i64 j ∧ Hid (Owns fI wr w1.heap.size 3 (.slice (some ⟨w1.heap.size, 0, none⟩) m m) (idx j ++ List.replicate (m - j) 0)) ∧ Below w1.heap.size w1 wr) (fun i _ => m - (intOf i).toNat)
  case atStart => exact ⟨0, Nat.zero_le _, rfl, by simpa [idx] using HO2, HB2.out⟩
  case round =>
    obtain ⟨j, hj, rfl, hown, hbel⟩ := hrel
    by_cases hlt : j < m
    · have HL : (idx j ++ List.replicate (m - j) 0).length = m := by simp [idx_len]; omega
      have q2 := (hown.out.cell j (by rw [HL]; exact hlt)).2
      have q3 := (hown.out.cell j (by rw [HL]; exact hlt)).1
      obtain ⟨b0, hb0⟩ : ∃ b0, (idx j ++ List.replicate (m - j) 0)[j]'(by rw [HL]; exact hlt) = b0 := ⟨_, rfl⟩
      rw [hb0] at q3
      have b1 : (0 : Int) ≤ (j : Int) := by omega
      have b2 : (j : Int) < (m : Int) := by omega
      have HB := Lib.hid hbel
      clear hb0 HL hbel
      go_wp2
      go_roundw
      case rel =>
        refine ⟨j + 1, by omega, by go_num, ?_, HB.out.setCell (p := ⟨w1.heap.size, j, none⟩) (Nat.le_refl _) _⟩
        have R := hown.out.stored (by simp [idx_len]; omega) j (j : Int)
        rw [Spread.set_next _ _ _ _ _ (idx_len _) hlt, ← idx_succ] at R
        exact R
      case measure => simp [intOf]; omega
    · obtain rfl : j = m := by omega
      have hbw : Below w.heap.size w wr := HB1.out.trans (hbel.mono (by omega))
      have hz := HX.out.2
      have hgr : w1.heap.size < wr.heap.size := hown.out.lt _ rfl
      have hown2 := hown.out
      rw [Nat.sub_self, List.replicate_zero, List.append_nil] at hown2
      have hbx : wr.cell? ⟨w.heap.size, 0, none⟩ = some (.slice (some ⟨v, off, none⟩) j cap) := (hbel.cell (p := ⟨w.heap.size, 0, none⟩) hz1').trans HX.out.1
      have hvv : ∀ k, k < j → wr.cell? ⟨v, off + k, none⟩ = some (.int .i64 (r.getD k 0)) := fun k hk => (hbw.cell (p := ⟨v, off + k, none⟩) hv).trans (HCV.out k hk)
      have HCM := Lib.hid (cmp_at r j w.heap.size v off cap w1.heap.size wr (by omega) (by omega) (by omega) (by omega) hbx hvv)
      have HSW := Lib.hid (show SW 3 wr w1.heap.size j (idx j) wr from ⟨idx_len _, hown2.base (Nat.zero_le _), OnlyB.refl _ _⟩)
      have HBW := Lib.hid hbw
      clear hown hown2 hbx hvv hbw hz hbel hgr
      go_wp2_with fail
      refine (sort_c _ _ HEG.out (R r) (trans r) (ok j) (cf r) wr wr w1.heap.size j HCM.out (idx j) (idx_ok j) (idx_agree r j) hm HSW.out).mono ?_
      rintro e w3 ⟨rfl, Z, p, s, hw3⟩
      have HF := Lib.hid (And.intro p (And.intro s hw3))
      clear p s hw3
      go_wp2
      go_ret
      refine ⟨w1.heap.size, Z, by omega, HF.out.2.2.len, HF.out.1, HF.out.2.1, rfl, ?_, HBW.out.trans (HF.out.2.2.only.below (by omega) HBW.out.size)⟩
      exact rebase HF.out.2.2.own (by omega)
end Go.Proofs.Ytdmnagpnhphifaa.Greatest
