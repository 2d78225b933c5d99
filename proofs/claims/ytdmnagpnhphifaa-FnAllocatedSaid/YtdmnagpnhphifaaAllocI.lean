/- The contract of the program's Allocate: the list allocR, in new memory. -/
import Derived.Test.YtdmnagpnhphifaaRows
import Derived.Test.YtdmnagpnhphifaaRow1
import Derived.Test.YtdmnagpnhphifaaIntRow
import Derived.Test.YtdmnagpnhphifaaSpread
import Derived.Test.YtdmnagpnhphifaaGreatest
import Derived.Test.YtdmnagpnhphifaaAllocMath
import Derived.Test.YtdmnagpnhphifaaBelowKit
import Derived.Lib.Hide
namespace Go.Proofs.Ytdmnagpnhphifaa.AllocI
open Go.RowKit Row1 IntRow AllocMath Greatest

def wsum (W : List Int) : Int × Bool := if okW W = true then (W.sum, decide (0 < W.sum)) else (0, false)
def Drawn (r : Int × Bool) (w : World) (e : Ending) (w' : World) : Prop := e = .returned (.tuple #[.int .i64 r.1, .bool r.2]) ∧ ∃ q, w' = w.drewN q
theorem take_sum (W : List Int) (j : Nat) (h : j < W.length) : (W.take (j + 1)).sum = (W.take j).sum + W[j] := by
  rw [List.take_succ_eq_append_getElem h, List.sum_append]; simp
theorem bad_at {W : List Int} (j : Nat) (h : j < W.length) (hb : ¬ (0 ≤ W[j] ∧ W[j] ≤ 1000000)) : wsum W = (0, false) := by
  unfold wsum; rw [okW_no (fun k => hb (k.2 _ (List.getElem_mem h)))]; rfl
theorem tup_eq {a b : Int} {x y : Bool} (h : a = b) (k : x = y) : Ending.returned (.tuple #[.int .i64 a, .bool x]) = .returned (.tuple #[.int .i64 b, .bool y]) := by rw [h, k]

set_option maxHeartbeats 1000000 in
theorem wsum_c (w : World) (n cap : Nat) (a : Option Addr) (W : List Int) (hW : W.length = n) (hn : n ≤ 1099511627776) (h : Reads w a W) :
    Calls Try.prog 35 #[.slice a n cap] w (Drawn (wsum W) w) := by
  by_cases h1 : n < 1
  · rw [show wsum W = (0, false) by unfold wsum; rw [okW_no (by omega)]; rfl]
    have h1z : (n : Int) < 1 := by omega
    go_enter Try.func35, Try.ntmps35
    go_wp2
    go_ret2
    exact ⟨rfl, 0, rfl⟩
  by_cases h2 : 40 < n
  · rw [show wsum W = (0, false) by unfold wsum; rw [okW_no (by omega)]; rfl]
    have h2z : (40 : Int) < (n : Int) := by omega
    have h1z : ¬ (n : Int) < 1 := by omega
    go_enter Try.func35, Try.ntmps35
    go_wp2
    go_ret2
    exact ⟨rfl, 0, rfl⟩
  have h1z : ¬ (n : Int) < 1 := by omega
  have h2z : ¬ (40 : Int) < (n : Int) := by omega
  have HR := Lib.hid h
  have HW := Lib.hid hW
  clear h hW
  go_enter Try.func35, Try.ntmps35
  go_wp2
  go_loopw [4, 17] (fun s i wr => ∃ (j q : Nat) (S : Int), j ≤ n ∧ i = .int .i64 j ∧ s = .int .i64 S ∧ wr = w.drewN q ∧ 0 ≤ S ∧ S ≤ 40000000 ∧ Hid ((W.take j).sum = S ∧ ∀ x ∈ W.take j, 0 ≤ x ∧ x ≤ 1000000)) (fun _ i _ => n - (intOf i).toNat)
  case atStart => exact ⟨0, 0, 0, Nat.zero_le _, rfl, rfl, rfl, by omega, by omega, by simp, by simp⟩
  case round =>
    obtain ⟨j, q, S, hj, rfl, rfl, rfl, hS0, hS1, hh⟩ := hrel
    by_cases hlt : j < n
    · have hjW : j < W.length := by rw [HW.out]; exact hlt
      obtain ⟨g, o, rfl, hgl, q1⟩ := HR.out j hjW
      have hts := take_sum W j hjW
      have hbad := bad_at (W := W) j hjW
      have htk : W.take (j + 1) = W.take j ++ [W[j]] := List.take_succ_eq_append_getElem hjW
      obtain ⟨x, hx⟩ : ∃ x, W[j]'hjW = x := ⟨_, rfl⟩
      rw [hx] at q1 hts hbad htk
      have HTS := Lib.hid hts
      have HBAD := Lib.hid hbad
      have HTK := Lib.hid htk
      have b0 : (0 : Int) ≤ (j : Int) := by omega
      have b1 : (j : Int) < (n : Int) := by omega
      clear hts hbad htk hx
      by_cases hx0 : x < 0
      · rw [HBAD.out (by omega)]
        go_wp2
        go_ret2
        exact ⟨rfl, q, rfl⟩
      · by_cases hx1 : 1000000 < x
        · rw [HBAD.out (by omega)]
          go_wp2
          go_ret2
          exact ⟨rfl, q, rfl⟩
        · have hS2 : S + x ≤ 40000000 := by
            have hb := sum_bd (W := W.take (j + 1)) (by
              rw [HTK.out]; intro y hy
              rcases List.mem_append.1 hy with hy | hy
              · exact hh.out.2 y hy
              · obtain rfl : y = x := by simpa using hy
                omega)
            rw [HTS.out, hh.out.1] at hb
            have : (W.take (j + 1)).length ≤ 40 := by simp; omega
            omega
          have HN := Lib.hid (show (W.take (j + 1)).sum = S + x ∧ ∀ y ∈ W.take (j + 1), 0 ≤ y ∧ y ≤ 1000000 from ⟨by rw [HTS.out, hh.out.1], by
            rw [HTK.out]; intro y hy
            rcases List.mem_append.1 hy with hy | hy
            · exact hh.out.2 y hy
            · obtain rfl : y = x := by simpa using hy
              omega⟩)
          go_wp2
          go_roundw
          case rel => exact ⟨j + 1, _, S + x, by omega, by go_num, by go_num, rfl, by omega, hS2, HN⟩
          case measure => simp [intOf]; omega
    · obtain rfl : j = n := by omega
      have HE := Lib.hid (show wsum W = (S, decide (0 < S)) by
        have hal := hh.out
        rw [List.take_of_length_le (by rw [HW.out]; exact Nat.le_refl _)] at hal
        unfold wsum
        rw [okW_iff.2 ⟨by rw [HW.out]; omega, hal.2⟩, hal.1]; rfl)
      go_wp2
      go_ret2
      exact ⟨by rw [HE.out]; rfl, q, rfl⟩

theorem getD_eq (l : List Int) (j : Nat) (h : j < l.length) : l[j] = l.getD j 0 := by simp only [List.getD]; rw [List.getElem?_eq_getElem h]; rfl
/-- The cell of a row by its default reading. -/
theorem cellD {w : World} {B T g n cap : Nat} {l : List Int} (h : Owns fI w B T (.slice (some ⟨g, 0, none⟩) n cap) l) (j : Nat) (hj : j < l.length) : w.cell? ⟨g, j, none⟩ = some (.int .i64 (l.getD j 0)) ∧ w.frozen? ⟨g, j, none⟩ = false := by
  have := h.cell j hj
  rw [getD_eq] at this
  exact this
/-- The two rows on the way. -/
structure Two (T : Nat) (w : World) (p r n : Nat) (P Q : List Int) : Prop where
  a : Owns fI w 0 T (.slice (some ⟨p, 0, none⟩) n n) P
  b : Owns fI w 0 T (.slice (some ⟨r, 0, none⟩) n n) Q
theorem Two.first {T : Nat} {w : World} {p r n : Nat} {P Q : List Int} (h : Two T w p r n P Q) (hne : r ≠ p) (hn : n = P.length) (j : Nat) (x : Int) : Two T (w.setCell ⟨p, j, none⟩ (.int .i64 x)) p r n (P.set j x) Q :=
  ⟨h.a.stored hn j x, h.b.beside (fun e => hne (by simpa [Value.ownBlock] using e)) _⟩
theorem Two.second {T : Nat} {w : World} {p r n : Nat} {P Q : List Int} (h : Two T w p r n P Q) (hne : p ≠ r) (hn : n = Q.length) (j : Nat) (x : Int) : Two T (w.setCell ⟨r, j, none⟩ (.int .i64 x)) p r n P (Q.set j x) :=
  ⟨h.a.beside (fun e => hne (by simpa [Value.ownBlock] using e)) _, h.b.stored hn j x⟩
theorem parts_snoc (t s : Int) (W : List Int) (j : Nat) (h : j < W.length) : parts t s (W.take (j + 1)) = parts t s (W.take j) ++ [part1 t s W[j]] := by
  rw [List.take_succ_eq_append_getElem h]; unfold parts; rw [List.map_append]; rfl
theorem rems_snoc (t s : Int) (W : List Int) (j : Nat) (h : j < W.length) : rems t s (W.take (j + 1)) = rems t s (W.take j) ++ [rem1 t s W[j]] := by
  rw [List.take_succ_eq_append_getElem h]; unfold rems; rw [List.map_append]; rfl

set_option maxRecDepth 100000 in
set_option maxHeartbeats 4000000 in
theorem alloc_i (t : Int) (w : World) (n cap : Nat) (a : Option Addr) (W : List Int) (hW : W.length = n) (hn : n ≤ 1099511627776) (h : Reads w a W) :
    Calls Try.prog 15 #[.int .i64 t, .slice a n cap] w (Spread.IsList (allocR t W) w) := by
  have HR := Lib.hid h
  have HWL := Lib.hid hW
  clear h hW
  by_cases hok : (wsum W).2 = false
  · have HE := Lib.hid (show allocR t W = [] by
      unfold allocR okA
      rw [decide_eq_false (by
        rintro ⟨h1, _, h3⟩
        unfold wsum at hok
        rw [h1] at hok
        simp at hok
        omega)]; rfl)
    rw [HE.out]
    have HOK := Lib.hid hok
    clear hok
    go_enter Try.func15, Try.ntmps15
    go_wp2_with fail
    refine (wsum_c _ n cap a W HWL.out hn HR.out).mono ?_
    rintro e w1 ⟨rfl, q, rfl⟩
    rw [HOK.out]
    go_wp2
    go_ret
    exact Spread.IsList.nil _ _ (below_drewN (Below.refl _ _) _)
  have hw : okW W = true ∧ 0 < W.sum := by
    unfold wsum at hok
    cases h : okW W with
    | false => rw [h] at hok; simp at hok
    | true => rw [h] at hok; simp at hok; exact ⟨rfl, hok⟩
  have HWS := Lib.hid (show wsum W = (W.sum, true) by unfold wsum; rw [hw.1]; simp [hw.2])
  by_cases ht0 : t < 0
  · have HE := Lib.hid (show allocR t W = [] by unfold allocR okA; rw [decide_eq_false (by omega)]; rfl)
    rw [HE.out]
    clear hok hw
    go_enter Try.func15, Try.ntmps15
    go_wp2_with fail
    refine (wsum_c _ n cap a W HWL.out hn HR.out).mono ?_
    rintro e w1 ⟨rfl, q, rfl⟩
    rw [HWS.out]
    go_wp2
    go_ret
    exact Spread.IsList.nil _ _ (below_drewN (Below.refl _ _) _)
  by_cases ht1 : 1000000000 < t
  · have HE := Lib.hid (show allocR t W = [] by unfold allocR okA; rw [decide_eq_false (by omega)]; rfl)
    rw [HE.out]
    have hd0 : decide (t < 0) = false := by simpa using ht0
    clear hok hw
    go_enter Try.func15, Try.ntmps15
    go_wp2_with fail
    refine (wsum_c _ n cap a W HWL.out hn HR.out).mono ?_
    rintro e w1 ⟨rfl, q, rfl⟩
    rw [HWS.out]
    go_wp2
    go_ret
    exact Spread.IsList.nil _ _ (below_drewN (Below.refl _ _) _)
  obtain ⟨hw1, hw2⟩ := hw
  obtain ⟨⟨hl1, hl2⟩, hin⟩ := okW_iff.1 hw1
  rw [HWL.out] at hl1 hl2
  obtain ⟨hs0, hs1⟩ := sum_bd hin
  rw [HWL.out] at hs1
  obtain ⟨s, hs⟩ : ∃ s, W.sum = s := ⟨_, rfl⟩
  have hrb := rest_bd (t := t) (s := s) (W := W) (by omega) hs (by rw [HWL.out]; omega)
  rw [hs] at hs0 hs1 hw2
  obtain ⟨P, hP⟩ : ∃ P, parts t s W = P := ⟨_, rfl⟩
  obtain ⟨Q, hQ⟩ : ∃ Q, rems t s W = Q := ⟨_, rfl⟩
  obtain ⟨Y, hY⟩ : ∃ Y, ord Q = Y := ⟨_, rfl⟩
  obtain ⟨R, hR⟩ : ∃ R : Nat, rest t s W = (R : Int) := ⟨(rest t s W).toNat, by omega⟩
  have hRn : R < n := by rw [hR, HWL.out] at hrb; omega
  have HE := Lib.hid (show allocR t W = bump P (Y.take R) by unfold allocR okA; rw [decide_eq_true ⟨hw1, ⟨by omega, by omega⟩, by omega⟩, if_pos rfl, hs, hP, hQ, hY, hR, Int.toNat_natCast])
  have HPL := Lib.hid (show P.length = n by rw [← hP, parts_len, HWL.out])
  have HQL := Lib.hid (show Q.length = n by rw [← hQ, rems_len, HWL.out])
  have HYL := Lib.hid (show Y.length = n by rw [← hY, ord_len, HQL.out])
  have HYB := Lib.hid (show ∀ x ∈ Y, 0 ≤ x ∧ x < (n : Int) by intro x hx; rw [← hY] at hx; have := ord_in Q x hx; rw [HQL.out] at this; exact this)
  have HPE := Lib.hid hP
  have HQE := Lib.hid hQ
  have HYE := Lib.hid hY
  have HRE := Lib.hid (show t - P.sum = (R : Int) by rw [← hR, ← hP]; rfl)
  rw [hs] at HWS
  have HIN := Lib.hid hin
  have HSM := Lib.hid (show Small 1000000000000000 P by rw [← hP]; exact small_parts (t := t) (s := s) (W := W) (by omega) (by omega) hw2 hin)
  have hsB : s ≤ 40000000 := by omega
  have hsn : ¬ s = 0 := by omega
  have hsb : (s == 0) = false := by rw [beq_eq_false_iff_ne]; omega
  clear hok hw1 hin hs hrb hs0 hs1 hP hQ hY hR
  rw [HE.out]
  go_enter Try.func15, Try.ntmps15
  go_wp2_with fail
  refine (wsum_c _ n cap a W HWL.out hn HR.out).mono ?_
  rintro e w1 ⟨rfl, q, rfl⟩
  rw [HWS.out]
  have HR1 := Lib.hid (HR.out.drewN q)
  have HB1 := Lib.hid (below_drewN (Below.refl w.heap.size w) q)
  have HZ1 := Lib.hid (show (w.drewN q).heap.size = w.heap.size from rfl)
  generalize w.drewN q = w1 at HR1 HB1 HZ1 ⊢
  have tok1 : True := trivial
  go_wp2_with (first
    | (at_make; have _t := tok1; refine wpList_make1 it _ rfl _ _ rfl w1.heap.size .i64 .i64 _ _ n rfl rfl rfl rfl (by omega) (Nat.le_refl _) ?_; intro w2 hown2 hg2; clear tok1; have HO2 := Lib.hid hown2; have HG2 := Lib.hid hg2; clear hown2 hg2)
    | (at_make; refine wpList_make1 it _ rfl _ _ rfl w2.heap.size .i64 .i64 _ _ n rfl rfl rfl rfl (by omega) (Nat.le_refl _) ?_; intro w3 hown3 hg3))
  have hlt2 : w1.heap.size < w2.heap.size := HO2.out.lt _ rfl
  have HB2 := Lib.hid (show Below w1.heap.size w1 w2 from (Below.refl _ _).grown HG2.out (Nat.le_refl _) (by simp))
  obtain ⟨p, hp⟩ : ∃ p, w1.heap.size = p := ⟨_, rfl⟩
  obtain ⟨r, hr⟩ : ∃ r, w2.heap.size = r := ⟨_, rfl⟩
  have HB3 := Lib.hid (show Below w1.heap.size w1 w3 from HB2.out.trans ((Below.refl _ _).grown hg3 (Nat.le_of_lt hlt2) (by simp)))
  have HT := Lib.hid (show Two 3 w3 p r n (List.replicate n 0) (List.replicate n 0) from ⟨by rw [← hp]; exact (HO2.out.kept hg3 (.inr (by simp [Value.ownBlock]))).base (Nat.zero_le _), by rw [← hr]; exact hown3.base (Nat.zero_le _)⟩)
  have hpr : p < r := by omega
  have hne : ¬ p = r := by omega
  have hne2 : ¬ r = p := by omega
  rw [hp] at HB3 HZ1
  rw [hp, hr]
  have HP := Lib.hid (And.intro hp hr)
  clear HO2 HB2 hown3 hg3 hlt2 hp hr
  go_loopw [9, 38] (fun u i wr => ∃ (j : Nat) (S : Int), j ≤ n ∧ i = .int .i64 j ∧ u = .int .i64 S ∧ -(1000000000000000 * (j : Int)) ≤ S ∧ S ≤ 1000000000 ∧ Hid (t - (parts t s (W.take j)).sum = S) ∧ Hid (Two 3 wr p r n (parts t s (W.take j) ++ List.replicate (n - j) 0) (rems t s (W.take j) ++ List.replicate (n - j) 0)) ∧ Below p w1 wr) (fun _ i _ => n - (intOf i).toNat)
  case atStart => exact ⟨0, t, Nat.zero_le _, rfl, rfl, by omega, by omega, Lib.hid (by simp [parts]), by simpa [parts, rems] using HT, HB3.out⟩
  case round =>
    obtain ⟨j, S, hj, rfl, rfl, hS0, hS1, hSS, htwo, hbel⟩ := hrel
    by_cases hlt : j < n
    · have hjW : j < W.length := by rw [HWL.out]; exact hlt
      have hrd := HR1.out.below (l := W) hbel (fun b o e => by
        have := HP.out.1
        obtain ⟨b', o', e', hb', _⟩ := HR1.out j hjW
        rw [e] at e'; cases e'; omega)
      obtain ⟨gw, ow, rfl, hgw, q1⟩ := hrd j hjW
      have hx := HIN.out _ (List.getElem_mem hjW)
      have hps := parts_snoc t s W j hjW
      have hrs := rems_snoc t s W j hjW
      obtain ⟨x, hxx⟩ : ∃ x, W[j]'hjW = x := ⟨_, rfl⟩
      rw [hxx] at q1 hx hps hrs
      have hm := mul_small (t := t) (x := x) (by omega) (by omega) hx.1 hx.2
      have hpb := part_bd (t := t) (s := s) (x := x) (by omega) (by omega) hx.1 hx.2 hw2
      have hr0 := Int.emod_nonneg (t * x) hsn
      have hr1 := Int.emod_lt_of_pos (t * x) hw2
      have HL1 : (parts t s (W.take j) ++ List.replicate (n - j) 0).length = n := by simp [parts_len, HWL.out]; omega
      have HL2 : (rems t s (W.take j) ++ List.replicate (n - j) 0).length = n := by simp [rems_len, HWL.out]; omega
      have lp : (parts t s (W.take j)).length = j := by simp [parts_len, HWL.out]; omega
      have lr : (rems t s (W.take j)).length = j := by simp [rems_len, HWL.out]; omega
      have d1 := cellD htwo.out.a j (by rw [HL1]; exact hlt)
      have d2 := cellD htwo.out.b j (by rw [HL2]; exact hlt)
      obtain ⟨d11, d12⟩ := d1
      obtain ⟨d21, d22⟩ := d2
      have HN := Lib.hid (show Two 3 ((wr.setCell ⟨p, j, none⟩ (.int .i64 (part1 t s x))).setCell ⟨r, j, none⟩ (.int .i64 (rem1 t s x))) p r n (parts t s (W.take (j + 1)) ++ List.replicate (n - (j + 1)) 0) (rems t s (W.take (j + 1)) ++ List.replicate (n - (j + 1)) 0) by
        have k := (htwo.out.first (by omega) HL1.symm j (part1 t s x)).second (by omega) HL2.symm j (rem1 t s x)
        rw [Spread.set_next _ _ _ _ _ lp hlt, Spread.set_next _ _ _ _ _ lr hlt, ← hps, ← hrs] at k
        exact k)
      have HNS := Lib.hid (show t - (parts t s (W.take (j + 1))).sum = S - part1 t s x by rw [hps, List.sum_append, ← hSS.out]; simp; omega)
      obtain ⟨m0, m1⟩ := hm
      obtain ⟨u, hu⟩ : ∃ u, t * x / s = u := ⟨_, rfl⟩
      obtain ⟨v, hv⟩ : ∃ v, t * x % s = v := ⟨_, rfl⟩
      have hpb2 : 0 ≤ u ∧ u ≤ 1000000000000000 := by rw [← hu]; exact hpb
      obtain ⟨u0, u1⟩ := hpb2
      rw [hv] at hr0 hr1
      rw [show part1 t s x = u from hu] at HN HNS
      rw [show rem1 t s x = v from hv] at HN
      obtain ⟨pr, hpr2⟩ : ∃ pr, t * x = pr := ⟨_, rfl⟩
      rw [hpr2] at hu hv m0 m1
      have W1 : IntKind.i64.wrap (t * x) = pr := by rw [hpr2]; exact IntWalk.i64_in _ (by omega)
      have hbs := Lib.hid (show Below p w1 ((wr.setCell ⟨p, j, none⟩ (.int .i64 u)).setCell ⟨r, j, none⟩ (.int .i64 v)) from (hbel.setCell (p := ⟨p, j, none⟩) (Nat.le_refl _) _).setCell (p := ⟨r, j, none⟩) (Nat.le_of_lt hpr) _)
      have b0 : (0 : Int) ≤ (j : Int) := by omega
      have b1 : (j : Int) < (n : Int) := by omega
      have b2 : (n : Int) ≤ 40 := by omega
      clear hps hrs lp lr HL1 HL2 hrd hxx hx hpb htwo hbel hSS hjW
      go_wp2
      go_roundw
      case rel => exact ⟨j + 1, S - u, by omega, by go_num, rfl, by omega, by omega, HNS, HN, hbs.out⟩
      case measure => simp [intOf]; omega
    · obtain rfl : j = n := by omega
      have htk : W.take j = W := List.take_of_length_le (by rw [HWL.out]; exact Nat.le_refl _)
      rw [htk] at hSS htwo
      rw [Nat.sub_self, List.replicate_zero, List.append_nil, List.append_nil] at htwo
      rw [HPE.out, HQE.out] at htwo
      rw [HPE.out] at hSS
      have hSR : S = (R : Int) := by rw [← hSS.out, HRE.out]
      subst hSR
      have HTA := Lib.hid htwo.out.a
      have hpw : p < wr.heap.size := htwo.out.a.lt p rfl
      have hrw : r < wr.heap.size := htwo.out.b.lt r rfl
      have HC := Lib.hid (fun k (hk : k < j) => (show wr.cell? ⟨r, 0 + k, none⟩ = some (.int .i64 (Q.getD k 0)) by rw [Nat.zero_add]; exact (cellD htwo.out.b k (by rw [HQL.out]; exact hk)).1))
      have HBL := Lib.hid hbel
      clear htk hSS htwo hbel HT HB3
      go_wp2_with fail
      refine (greatest_c Q j r 0 j _ HQL.out hl2 hrw HC.out).mono ?_
      rintro e w4 ⟨g, Z, hg0, hZl, hZp, hZs, rfl, hoz, hb4⟩
      rw [ord_unique HQL.out hZp hZs, HYE.out] at hoz
      have HZ4 := Lib.hid (hoz.base (Nat.zero_le _))
      have HA4 := Lib.hid (HTA.out.on hb4)
      have HB4 := Lib.hid (show Below p w1 w4 from HBL.out.trans (hb4.mono (by omega)))
      have hpg : p < g := by omega
      have hjR : R ≤ j := by omega
      clear hZl hZp hZs hoz hb4 HC HBL HTA hg0 hpw hrw
      go_wp2_with fail
      go_loopw [71] (fun i wq => ∃ k : Nat, k ≤ R ∧ i = .int .i64 k ∧ Hid (Owns fI wq 0 3 (.slice (some ⟨p, 0, none⟩) j j) (bump P (Y.take k))) ∧ Hid (Owns fI wq 0 3 (.slice (some ⟨g, 0, none⟩) j j) Y) ∧ Below p w1 wq) (fun i _ => R - (intOf i).toNat)
      case atStart => exact ⟨0, Nat.zero_le _, rfl, HA4, HZ4, HB4.out⟩
      case round =>
        obtain ⟨k, hk, rfl, hoa, hoz, hbel⟩ := hrel
        by_cases hkR : k < R
        · have hkY : k < Y.length := by rw [HYL.out]; omega
          have c1 := (hoz.out.cell k hkY).1
          have hzb := HYB.out _ (List.getElem_mem hkY)
          have htk : Y.take (k + 1) = Y.take k ++ [Y[k]] := List.take_succ_eq_append_getElem hkY
          obtain ⟨z, hz⟩ : ∃ z : Nat, Y[k] = (z : Int) := ⟨Y[k].toNat, by omega⟩
          rw [hz] at c1 hzb htk
          have hzj : z < j := by omega
          have HBL : (bump P (Y.take k)).length = j := by rw [bump_len, HPL.out]
          obtain ⟨c2, c3⟩ := cellD hoa.out z (by rw [HBL]; exact hzj)
          have hsm := small_bump (Y.take k) HSM.out z
          have hlk : (Y.take k).length ≤ 40 := by simp; omega
          obtain ⟨y, hy⟩ : ∃ y, (bump P (Y.take k)).getD z 0 = y := ⟨_, rfl⟩
          rw [hy] at c2 hsm
          have HN := Lib.hid (show Owns fI (wr.setCell ⟨p, z, none⟩ (.int .i64 (y + 1))) 0 3 (.slice (some ⟨p, 0, none⟩) j j) (bump P (Y.take (k + 1))) by
            have k1 := hoa.out.stored HBL.symm z (y + 1)
            rw [htk, bump_snoc]
            unfold bump1
            rw [Int.toNat_natCast, hy]
            exact k1)
          have HG := Lib.hid (show Owns fI (wr.setCell ⟨p, z, none⟩ (.int .i64 (y + 1))) 0 3 (.slice (some ⟨g, 0, none⟩) j j) Y from hoz.out.beside (by simp [Value.ownBlock]; omega) _)
          have HB5 := Lib.hid (show Below p w1 (wr.setCell ⟨p, z, none⟩ (.int .i64 (y + 1))) from hbel.setCell (p := ⟨p, z, none⟩) (Nat.le_refl _) _)
          obtain ⟨y0, y1⟩ := hsm
          have y2 : y ≤ 2000000000000000 := by omega
          have b0 : (0 : Int) ≤ (k : Int) := by omega
          have b1 : (k : Int) < (R : Int) := by omega
          have b2 : (0 : Int) ≤ (z : Int) := by omega
          have b3 : (z : Int) < (j : Int) := by omega
          clear hoa hoz hbel htk hz hy HBL hzb
          go_wp2
          go_roundw
          case rel => exact ⟨k + 1, by omega, by go_num, HN, HG, HB5.out⟩
          case measure => simp [intOf]; omega
        · obtain rfl : k = R := by omega
          have HBW := Lib.hid (show Below w.heap.size w wr by have := HZ1.out; subst this; exact HB1.out.trans hbel)
          have HOA := Lib.hid (show Owns fI wr w.heap.size 3 (.slice (some ⟨p, 0, none⟩) j j) (bump P (Y.take k)) from rebase hoa.out (by have := HZ1.out; omega))
          have HVL := Lib.hid (show (bump P (Y.take k)).length = j by rw [bump_len, HPL.out])
          clear hoa hoz hbel
          go_wp2
          go_ret
          refine ⟨some ⟨p, 0, none⟩, j, ?_, ?_, HBW.out⟩
          · rw [HVL.out]; rfl
          · rw [HVL.out]; exact HOA.out
end Go.Proofs.Ytdmnagpnhphifaa.AllocI
