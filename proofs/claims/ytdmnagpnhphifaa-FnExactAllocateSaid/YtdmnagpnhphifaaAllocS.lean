/- The contract of the model's Allocate: the list allocR, in new memory. -/
import Derived.Test.YtdmnagpnhphifaaAllocI
import Derived.Test.YtdmnagpnhphifaaRow2
import Derived.Test.YtdmnagpnhphifaaFracGcd
namespace Go.Proofs.Ytdmnagpnhphifaa.AllocS
open Go.RowKit Row1 IntRow AllocMath Greatest FracMath AllocI

abbrev Pair (w : World) (B : Nat) (v u : Value) (l m : List Int) : Prop := Row2.Two fI 3 B w v u l m
def noW (W : List Int) (V : List Int) : Prop := (okW W = false → V = []) ∧ (¬ 0 < W.sum → V = [])
theorem no_w {t : Int} {W V : List Int} (h : allocR t W = V) : noW W V := by
  constructor
  · intro k; rw [← h]; unfold allocR okA; rw [decide_eq_false (by rw [k]; simp)]; rfl
  · intro k; rw [← h]; unfold allocR okA; rw [decide_eq_false (by omega)]; rfl
theorem rems_pos {t s : Int} (hs : 0 < s) (W : List Int) (j : Nat) : 0 ≤ (rems t s W).getD j 0 := by
  unfold rems
  simp only [List.getD, List.getElem?_map]
  by_cases h : j < W.length
  · rw [List.getElem?_eq_getElem h]
    exact Int.emod_nonneg _ (by omega)
  · rw [List.getElem?_eq_none (by omega)]
    simp
/-- The place of the greatest among the first i. -/
def Best (M : List Int) (i b : Nat) : Prop := b < i ∧ (∀ j, j < i → M.getD j 0 ≤ M.getD b 0) ∧ ∀ j, j < b → M.getD j 0 < M.getD b 0
theorem Best.one (M : List Int) : Best M 1 0 := by
  refine ⟨by omega, fun j hj => ?_, fun j hj => by omega⟩
  obtain rfl : j = 0 := by omega
  exact Int.le_refl _
theorem Best.up {M : List Int} {i b : Nat} (h : Best M i b) (k : M.getD b 0 < M.getD i 0) : Best M (i + 1) i :=
  ⟨by omega, fun j hj => by
    by_cases c : j < i
    · have := h.2.1 j c; omega
    · obtain rfl : j = i := by omega
      exact Int.le_refl _, fun j hj => by have := h.2.1 j hj; omega⟩
theorem Best.stay {M : List Int} {i b : Nat} (h : Best M i b) (k : ¬ M.getD b 0 < M.getD i 0) : Best M (i + 1) b :=
  ⟨by have := h.1; omega, fun j hj => by
    by_cases c : j < i
    · exact h.2.1 j c
    · obtain rfl : j = i := by omega
      omega, h.2.2⟩

set_option maxRecDepth 100000 in
set_option maxHeartbeats 4000000 in
theorem alloc_s (t : Int) (w : World) (n cap : Nat) (a : Option Addr) (W : List Int) (hW : W.length = n) (hn : n ≤ 1099511627776) (h : Reads w a W) :
    Calls Try.prog 21 #[.int .i64 t, .slice a n cap] w (Spread.IsList (allocR t W) w) := by
  have HR := Lib.hid h
  have HWL := Lib.hid hW
  clear h hW
  by_cases h1 : ¬ (0 ≤ t ∧ t ≤ 1000000000)
  · rw [show allocR t W = [] by unfold allocR okA; rw [decide_eq_false (fun k => h1 k.2.1)]; rfl]
    have ET := Lib.hid (show inB t 0 1000000000 = false by simp only [inB, decide_eq_false_iff_not]; exact h1)
    clear h1
    go_enter Try.func21, Try.ntmps21
    go_wp2_with fail
    refine (FracGcd.in_s' t 0 1000000000 _ _ ET.out).mono ?_
    rintro e w' ⟨rfl, rfl⟩
    go_wp2
    go_ret
    exact ⟨some ⟨w.heap.size, 0, none⟩, 0, rfl, Owns.made w _ _ (Nat.le_refl _), by (repeat (first | exact Below.refl _ _ | apply BelowKit.bl_alloc | apply BelowKit.bl_drewN | apply BelowKit.bl_drew | (refine BelowKit.bl_set ?_ _ ?_; rotate_left; (first | omega | (simp; omega) | simp)) | (refine BelowKit.bl_trans ?_ (‹Hid (Below _ _ _)›).out)))⟩
  have hT : 0 ≤ t ∧ t ≤ 1000000000 := by omega
  have ET := Lib.hid (inB_yes hT.1 hT.2)
  clear h1
  by_cases h2 : ¬ (1 ≤ (n : Int) ∧ (n : Int) ≤ 40)
  · rw [show allocR t W = [] by unfold allocR okA; rw [decide_eq_false (fun k => h2 (by have := (okW_iff.1 k.1).1; rw [HWL.out] at this; omega))]; rfl]
    have EN := Lib.hid (show inB n 1 40 = false by simp only [inB, decide_eq_false_iff_not]; exact h2)
    clear h2
    go_enter Try.func21, Try.ntmps21
    go_wp2_with fail
    refine (FracGcd.in_s' t 0 1000000000 _ _ ET.out).mono ?_
    rintro e w' ⟨rfl, rfl⟩
    go_wp2_with fail
    refine (FracGcd.in_s' n 1 40 _ _ EN.out).mono ?_
    rintro e w' ⟨rfl, rfl⟩
    go_wp2
    go_ret
    exact ⟨some ⟨w.heap.size, 0, none⟩, 0, rfl, Owns.made w _ _ (Nat.le_refl _), by (repeat (first | exact Below.refl _ _ | apply BelowKit.bl_alloc | apply BelowKit.bl_drewN | apply BelowKit.bl_drew | (refine BelowKit.bl_set ?_ _ ?_; rotate_left; (first | omega | (simp; omega) | simp)) | (refine BelowKit.bl_trans ?_ (‹Hid (Below _ _ _)›).out)))⟩
  have hN : 1 ≤ n ∧ n ≤ 40 := by omega
  have EN := Lib.hid (show inB n 1 40 = true from inB_yes (by omega) (by omega))
  clear h2
  obtain ⟨hl1, hl2⟩ := hN
  obtain ⟨ht0, ht1⟩ := hT
  obtain ⟨V, hV⟩ : ∃ V, allocR t W = V := ⟨_, rfl⟩
  rw [hV]
  have HNO := Lib.hid (no_w hV)
  have HV := Lib.hid hV
  clear hV
  obtain ⟨w1, hw1⟩ : ∃ w1, w.alloc (.cells #[] 3) = w1 := ⟨_, rfl⟩
  have HO1 := Lib.hid (show Owns fI w1 w.heap.size 3 (.slice (some ⟨w.heap.size, 0, none⟩) 0 0) [] by rw [← hw1]; exact Owns.made w _ _ (Nat.le_refl _))
  have HB1 := Lib.hid (show Below w.heap.size w w1 by rw [← hw1]; (repeat (first | exact Below.refl _ _ | apply BelowKit.bl_alloc | apply BelowKit.bl_drewN | apply BelowKit.bl_drew | (refine BelowKit.bl_set ?_ _ ?_; rotate_left; (first | omega | (simp; omega) | simp)) | (refine BelowKit.bl_trans ?_ (‹Hid (Below _ _ _)›).out))))
  have hz1 : w.heap.size < w1.heap.size := by rw [← hw1]; simp
  have HW1 := Lib.hid hw1
  have HR1 := Lib.hid (HR.out.on HB1.out)
  have HNIL := Lib.hid (show V = [] → ∀ q, Spread.IsList V w (.returned (.slice (some ⟨w.heap.size, 0, none⟩) 0 0)) (w1.drewN q) from fun k q => by
    rw [k]; exact ⟨some ⟨w.heap.size, 0, none⟩, 0, rfl, HO1.out.drewN q, below_drewN HB1.out q⟩)
  clear hw1
  go_enter Try.func21, Try.ntmps21
  go_wp2_with fail
  rw [HW1.out]
  refine (FracGcd.in_s' t 0 1000000000 _ _ ET.out).mono ?_
  rintro e w' ⟨rfl, rfl⟩
  go_wp2_with fail
  refine (FracGcd.in_s' n 1 40 _ _ EN.out).mono ?_
  rintro e w' ⟨rfl, rfl⟩
  go_wp2
  go_loopw [6, 7] (fun s i wr => ∃ (j q : Nat) (S : Int), j ≤ n ∧ i = .int .i64 j ∧ s = .int .i64 S ∧ wr = w1.drewN q ∧ 0 ≤ S ∧ S ≤ 40000000 ∧ Hid ((W.take j).sum = S ∧ ∀ x ∈ W.take j, 0 ≤ x ∧ x ≤ 1000000)) (fun _ i _ => n - (intOf i).toNat)
  case atStart => exact ⟨0, 0, 0, Nat.zero_le _, rfl, rfl, rfl, by omega, by omega, Lib.hid ⟨by simp, by simp⟩⟩
  case round =>
    obtain ⟨j, q, S, hj, rfl, rfl, rfl, hS0, hS1, hh⟩ := hrel
    by_cases hlt : j < n
    · have hjW : j < W.length := by rw [HWL.out]; exact hlt
      obtain ⟨g, o, rfl, hgl, q1⟩ := HR1.out j hjW
      have hts := take_sum W j hjW
      have hmem := List.getElem_mem hjW
      have htk : W.take (j + 1) = W.take j ++ [W[j]] := List.take_succ_eq_append_getElem hjW
      obtain ⟨x, hx⟩ : ∃ x, W[j]'hjW = x := ⟨_, rfl⟩
      rw [hx] at q1 hts hmem htk
      have HTS := Lib.hid hts
      have HMEM := Lib.hid hmem
      have HTK := Lib.hid htk
      have b0 : (0 : Int) ≤ (j : Int) := by omega
      have b1 : (j : Int) < (n : Int) := by omega
      clear hts hmem htk hx
      by_cases hx0 : ¬ (0 ≤ x ∧ x ≤ 1000000)
      · have EX := Lib.hid (show inB x 0 1000000 = false by simp only [inB, decide_eq_false_iff_not]; exact hx0)
        have HVN := Lib.hid (HNO.out.1 (okW_no (fun k => hx0 (k.2 _ HMEM.out))))
        clear hx0
        go_wp2_with fail
        refine (FracGcd.in_s' x 0 1000000 _ _ EX.out).mono ?_
        rintro e w' ⟨rfl, rfl⟩
        go_wp2
        go_ret
        exact HNIL.out HVN.out _
      · have hx1 : 0 ≤ x ∧ x ≤ 1000000 := by omega
        have EX := Lib.hid (inB_yes hx1.1 hx1.2)
        have hS2 : S + x ≤ 40000000 := by
          have hb := sum_bd (W := W.take (j + 1)) (by
            rw [HTK.out]; intro y hy
            rcases List.mem_append.1 hy with hy | hy
            · exact hh.out.2 y hy
            · obtain rfl : y = x := by simpa using hy
              omega)
          rw [HTS.out, hh.out.1] at hb
          have : (W.take (j + 1)).length ≤ 40 := by simp; omega
          omega
        have HN := Lib.hid (show (W.take (j + 1)).sum = S + x ∧ ∀ y ∈ W.take (j + 1), 0 ≤ y ∧ y ≤ 1000000 from ⟨by rw [HTS.out, hh.out.1], by
          rw [HTK.out]; intro y hy
          rcases List.mem_append.1 hy with hy | hy
          · exact hh.out.2 y hy
          · obtain rfl : y = x := by simpa using hy
            omega⟩)
        clear hx0
        go_wp2_with fail
        refine (FracGcd.in_s' x 0 1000000 _ _ EX.out).mono ?_
        rintro e w' ⟨rfl, rfl⟩
        go_wp2
        go_roundw
        case rel => exact ⟨j + 1, _, S + x, by omega, by go_num, by go_num, rfl, by omega, hS2, HN⟩
        case measure => simp [intOf]; omega
    · obtain rfl : j = n := by omega
      have hal := hh.out
      rw [List.take_of_length_le (by rw [HWL.out]; exact Nat.le_refl _)] at hal
      have hok : okW W = true := okW_iff.2 ⟨by rw [HWL.out]; omega, hal.2⟩
      have HAL := Lib.hid hal
      have HOK := Lib.hid hok
      clear hal hok hh
      by_cases hS : S = 0
      · have HVN := Lib.hid (HNO.out.2 (by rw [HAL.out.1]; omega))
        subst hS
        go_wp2
        go_ret
        exact HNIL.out HVN.out _
      have hsb : (S == 0) = false := by rw [beq_eq_false_iff_ne]; exact hS
      have hS2 : 0 < S := by omega
      obtain ⟨hs, hin⟩ := HAL.out
      have hrb := rest_bd (t := t) (s := S) (W := W) hS2 hs (by rw [HWL.out]; omega)
      rw [HWL.out] at hrb
      obtain ⟨P, hP⟩ : ∃ P, parts t S W = P := ⟨_, rfl⟩
      obtain ⟨Q, hQ⟩ : ∃ Q, rems t S W = Q := ⟨_, rfl⟩
      obtain ⟨Y, hY⟩ : ∃ Y, ord Q = Y := ⟨_, rfl⟩
      obtain ⟨R, hR⟩ : ∃ R : Nat, rest t S W = (R : Int) := ⟨(rest t S W).toNat, by omega⟩
      have hRn : R < j := by omega
      have HE := Lib.hid (show V = bump P (Y.take R) by rw [← HV.out]; unfold allocR okA; rw [decide_eq_true ⟨HOK.out, ⟨by omega, by omega⟩, by omega⟩, if_pos rfl, hs, hP, hQ, hY, hR, Int.toNat_natCast])
      have HPL := Lib.hid (show P.length = j by rw [← hP, parts_len, HWL.out])
      have HQL := Lib.hid (show Q.length = j by rw [← hQ, rems_len, HWL.out])
      have HYL := Lib.hid (show Y.length = j by rw [← hY, ord_len, HQL.out])
      have HPE := Lib.hid hP
      have HQE := Lib.hid hQ
      have HYE := Lib.hid hY
      have HQ0 := Lib.hid (show ∀ k, k < Q.length → 0 ≤ Q.getD k 0 from fun k _ => by rw [← hQ]; exact rems_pos hS2 W k)
      have HRE := Lib.hid (show t - P.sum = (R : Int) by rw [← hR, ← hP]; rfl)
      have HSM := Lib.hid (show Small 1000000000000000 P by rw [← hP]; exact small_parts (t := t) (s := S) (W := W) (by omega) (by omega) hS2 hin)
      have HIN := Lib.hid hin
      have HOQ := Lib.hid (HO1.out.drewN q)
      have HBQ := Lib.hid (below_drewN HB1.out q)
      have HZQ := Lib.hid (show (w1.drewN q).heap.size = w1.heap.size from rfl)
      generalize w1.drewN q = wq at HOQ HBQ HZQ ⊢
      obtain ⟨w2, hw2⟩ : ∃ w2, wq.alloc (.cells #[] 3) = w2 := ⟨_, rfl⟩
      have HW2 := Lib.hid hw2
      have HPR := Lib.hid (show Pair w2 w.heap.size (.slice (some ⟨w.heap.size, 0, none⟩) 0 0) (.slice (some ⟨wq.heap.size, 0, none⟩) 0 0) [] [] from
        ⟨by rw [← hw2]; exact HOQ.out.alloc _, by rw [← hw2]; exact Owns.made wq _ _ (by rw [HZQ.out]; omega), fun k h1 h2 => by
          have h3 := HOQ.out.lt k h1
          have h4 : wq.heap.size = k := by simpa [Value.ownBlock] using h2
          omega⟩)
      have HB2 := Lib.hid (show Below w.heap.size w w2 by rw [← hw2]; exact HBQ.out.alloc HBQ.out.size _)
      clear hrb hP hQ hY hR hin hs hw2
      go_wp2_with fail
      rw [HW2.out]
      go_wp2_with fail
      go_loopw [5, 8, 9, 10] (fun v l u i wr => ∃ (k : Nat) (L : Int), k ≤ j ∧ i = .int .i64 k ∧ l = .int .i64 L ∧ -(1000000000000000 * (k : Int)) ≤ L ∧ L ≤ 1000000000 ∧ Hid (t - (parts t S (W.take k)).sum = L) ∧ Hid (Pair wr w.heap.size v u (parts t S (W.take k)) (rems t S (W.take k))) ∧ Below w.heap.size w wr) (fun _ _ _ i _ => j - (intOf i).toNat)
      case atStart => exact ⟨0, t, Nat.zero_le _, rfl, rfl, by omega, by omega, Lib.hid (by simp [parts]), by simpa [parts, rems] using HPR, HB2.out⟩
      case round =>
        obtain ⟨k, L, hk, rfl, rfl, hL0, hL1, hLL, htwo, hbel⟩ := hrel
        by_cases hlt2 : k < j
        · have hkW : k < W.length := by rw [HWL.out]; exact hlt2
          obtain ⟨gw, ow, rfl, hgw, q1⟩ := (HR.out.on hbel) k hkW
          have hx := HIN.out _ (List.getElem_mem hkW)
          have hps := parts_snoc t S W k hkW
          have hrs := rems_snoc t S W k hkW
          obtain ⟨x, hxx⟩ : ∃ x, W[k]'hkW = x := ⟨_, rfl⟩
          rw [hxx] at q1 hx hps hrs
          have hm := mul_small (t := t) (x := x) (by omega) (by omega) hx.1 hx.2
          have hpb := part_bd (t := t) (s := S) (x := x) (by omega) (by omega) hx.1 hx.2 hS2
          have hr0 := Int.emod_nonneg (t * x) hS
          have hr1 := Int.emod_lt_of_pos (t * x) hS2
          have HLP := Lib.hid (show (parts t S (W.take k)).length = k by simp [parts_len, HWL.out]; omega)
          have HLR := Lib.hid (show (rems t S (W.take k)).length = k by simp [rems_len, HWL.out]; omega)
          obtain ⟨u, hu⟩ : ∃ u, t * x / S = u := ⟨_, rfl⟩
          obtain ⟨v, hv⟩ : ∃ v, t * x % S = v := ⟨_, rfl⟩
          have hpb2 : 0 ≤ u ∧ u ≤ 1000000000000000 := by rw [← hu]; exact hpb
          rw [show part1 t S x = u from hu] at hps
          rw [show rem1 t S x = v from hv] at hrs
          have HNS := Lib.hid (show t - (parts t S (W.take (k + 1))).sum = L - u by rw [hps, List.sum_append, ← hLL.out]; simp; omega)
          have HPS := Lib.hid hps
          have HRS := Lib.hid hrs
          obtain ⟨m0, m1⟩ := hm
          obtain ⟨u0, u1⟩ := hpb2
          rw [hv] at hr0 hr1
          obtain ⟨pr, hpr⟩ : ∃ pr, t * x = pr := ⟨_, rfl⟩
          rw [hpr] at hu hv m0 m1
          have b0 : (0 : Int) ≤ (k : Int) := by omega
          have b1 : (k : Int) < (j : Int) := by omega
          have b2 : (j : Int) ≤ 40 := by omega
          have hk40 : k ≤ 40 := by omega
          obtain ⟨x0, x1⟩ := hx
          clear hps hrs hxx hpb hLL hkW
          go_wp2_with (first
            | (at_builtin; refine Row2.wpList_append1_at it (one_int _) _ rfl (.tmp 61) (.tmp 65) rfl w.heap.size u5 _ rfl (htwo.out.a.alloc _) wr.heap.size 1 1 [u] rfl rfl (heap_alloc_new wr _) ?_ ?_ ?_; (rw [HLP.out]; simp; omega); (have := hbel.size; simp; omega); intro v3 w3 hown3 hg3 hat3)
            | (at_builtin; refine Row2.wpList_append1_at it (one_int _) _ rfl (.tmp 67) (.tmp 71) rfl w.heap.size u9 _ rfl (((htwo.out.alloc _).growA hown3 hg3 hat3).b.alloc _) w3.heap.size 1 1 [v] rfl rfl (heap_alloc_new w3 _) ?_ ?_ ?_; (rw [HLR.out]; simp; omega); (have h5 := hbel.size; have h6 := hg3.size; simp at h6; simp; omega); intro v4 w4 hown4 hg4 hat4))
          have HP3 := Lib.hid ((htwo.out.alloc _).growA hown3 hg3 hat3)
          have HP4 := Lib.hid (show Pair w4 w.heap.size v3 v4 (parts t S (W.take (k + 1))) (rems t S (W.take (k + 1))) by
            rw [HPS.out, HRS.out]; exact (HP3.out.alloc _).growB hown4 hg4 hat4)
          have hB3 : Below w.heap.size w w3 := (hbel.alloc hbel.size _).trans ((htwo.out.a.alloc _).grown hg3 (Nat.le_refl _) (by have := hbel.size; simp; omega))
          have HB4 := Lib.hid (show Below w.heap.size w w4 from (hB3.alloc hB3.size _).trans ((HP3.out.b.alloc _).grown hg4 (Nat.le_refl _) (by have := hB3.size; simp; omega)))
          clear hown3 hg3 hat3 hown4 hg4 hat4 htwo hbel hB3 HP3
          go_roundw
          case rel => exact ⟨k + 1, L - u, by omega, by go_num, rfl, by omega, by omega, HNS, HP4, HB4.out⟩
          case measure => simp [intOf]; omega
        · obtain rfl : k = j := by omega
          have htk : W.take k = W := List.take_of_length_le (by rw [HWL.out]; exact Nat.le_refl _)
          rw [htk] at hLL htwo
          rw [HPE.out, HQE.out] at htwo
          rw [HPE.out] at hLL
          have hLR : L = (R : Int) := by rw [← hLL.out, HRE.out]
          subst hLR
          obtain ⟨a1, c1, rfl, k1⟩ := htwo.out.a.form
          obtain ⟨p, rfl, hp0, hp1, _⟩ := k1 0 (by rw [HPL.out]; omega)
          obtain ⟨a2, c2, rfl, k2⟩ := htwo.out.b.form
          obtain ⟨g, rfl, hg0, hg1, _⟩ := k2 0 (by rw [HQL.out]; omega)
          rw [HPL.out, HQL.out] at htwo
          have HTW := Lib.hid htwo.out
          have hpg : ¬ p = g := fun e => htwo.out.ne p rfl (by rw [e]; rfl)
          have hgp : ¬ g = p := fun e => hpg e.symm
          have HBL := Lib.hid hbel
          have hPL := HPL.out
          have hQL := HQL.out
          rw [hPL, hQL]
          clear hPL hQL htk hLL htwo hbel k1 k2
          go_wp2_with fail
          go_loopw [8] (fun l wr => ∃ m : Nat, m ≤ R ∧ l = .int .i64 ((R : Int) - (m : Int)) ∧ Hid (Pair wr w.heap.size (.slice (some ⟨p, 0, none⟩) k c1) (.slice (some ⟨g, 0, none⟩) k c2) (bump P (Y.take m)) (mask Q (Y.take m))) ∧ Below w.heap.size w wr) (fun l _ => (intOf l).toNat)
          case atStart => exact ⟨0, Nat.zero_le _, by simp, HTW, HBL.out⟩
          case round =>
            obtain ⟨m, hm, rfl, htwo, hbel⟩ := hrel
            by_cases hmR : m < R
            · have hm0 : 0 < (R : Int) - (m : Int) := by omega
              have hm1 : (R : Int) - (m : Int) ≤ 40 := by omega
              obtain ⟨A, hA⟩ : ∃ A, bump P (Y.take m) = A := ⟨_, rfl⟩
              obtain ⟨M, hM⟩ : ∃ M, mask Q (Y.take m) = M := ⟨_, rfl⟩
              have HAL' := Lib.hid (show A.length = k by rw [← hA, bump_len, HPL.out])
              have HML := Lib.hid (show M.length = k by rw [← hM, mask_len, HQL.out])
              have HA := Lib.hid hA
              have HM := Lib.hid hM
              rw [hA, hM] at htwo
              clear hA hM
              rename World => wA
              have HTWO := Lib.hid htwo.out
              have HBE := Lib.hid hbel
              clear htwo hbel
              go_wp2_with fail
              go_loopw [12, 13] (fun bs i wq => ∃ (i' b q : Nat), 1 ≤ i' ∧ i' ≤ k ∧ bs = .int .i64 b ∧ i = .int .i64 i' ∧ wq = wA.drewN q ∧ b < i' ∧ Hid (Best M i' b)) (fun _ i _ => k - (intOf i).toNat)
              case atStart => exact ⟨1, 0, 0, by omega, by omega, rfl, rfl, rfl, by omega, Lib.hid (Best.one M)⟩
              case round =>
                obtain ⟨i, b, q, hi0, hi1, rfl, rfl, rfl, hb, hbest⟩ := hrel
                by_cases hik : i < k
                · have hb1 := (cellD HTWO.out.b i (by rw [HML.out]; exact hik)).1
                  have hb2 := (cellD HTWO.out.b b (by rw [HML.out]; omega)).1
                  have hup := hbest.out.up
                  have hst := hbest.out.stay
                  obtain ⟨y, hy⟩ : ∃ y, M.getD i 0 = y := ⟨_, rfl⟩
                  obtain ⟨z, hz⟩ : ∃ z, M.getD b 0 = z := ⟨_, rfl⟩
                  rw [hy] at hb1 hup hst
                  rw [hz] at hb2 hup hst
                  have HUP := Lib.hid hup
                  have HST := Lib.hid hst
                  have b0 : (0 : Int) ≤ (i : Int) := by omega
                  have b1 : (i : Int) < (k : Int) := by omega
                  have b2 : (0 : Int) ≤ (b : Int) := by omega
                  have b3 : (b : Int) < (k : Int) := by omega
                  clear hup hst hy hz hbest
                  by_cases hyz : z < y
                  · have HB9 := Lib.hid (HUP.out hyz)
                    clear HUP HST
                    go_wp2_with fail
                    go_quiet (fail)
                    go_wp2
                    go_roundw
                    case rel => exact ⟨i + 1, i, _, by omega, by omega, rfl, by go_num, rfl, by omega, HB9⟩
                    case measure => simp [intOf]; omega
                  · have HB9 := Lib.hid (HST.out hyz)
                    clear HUP HST
                    go_wp2_with fail
                    go_quiet (fail)
                    go_wp2
                    go_roundw
                    case rel => exact ⟨i + 1, b, _, by omega, by omega, rfl, by go_num, rfl, by omega, HB9⟩
                    case measure => simp [intOf]; omega
                · obtain rfl : i = k := by omega
                  have hnx := best_is (r := Q) (k := m) (by rw [HQL.out]; omega) HQ0.out b (by rw [HQL.out]; exact hb) (by rw [HQL.out, HYE.out, HM.out]; exact hbest.out.2.1) (by rw [HYE.out, HM.out]; exact hbest.out.2.2)
                  rw [HYE.out] at hnx
                  obtain ⟨c20, c21⟩ := cellD HTWO.out.a b (by rw [HAL'.out]; exact hb)
                  obtain ⟨c30, c31⟩ := cellD HTWO.out.b b (by rw [HML.out]; exact hb)
                  have hsm := small_bump (Y.take m) HSM.out b
                  rw [HA.out] at hsm
                  have hlk : (Y.take m).length ≤ 40 := by simp; omega
                  obtain ⟨y, hy⟩ : ∃ y, A.getD b 0 = y := ⟨_, rfl⟩
                  obtain ⟨z, hz⟩ : ∃ z, M.getD b 0 = z := ⟨_, rfl⟩
                  rw [hy] at c20 hsm
                  rw [hz] at c30
                  have HN := Lib.hid (show Pair (((wA.drewN q).setCell ⟨p, b, none⟩ (.int .i64 (y + 1))).setCell ⟨g, b, none⟩ (.int .i64 (-1))) w.heap.size (.slice (some ⟨p, 0, none⟩) i c1) (.slice (some ⟨g, 0, none⟩) i c2) (bump P (Y.take (m + 1))) (mask Q (Y.take (m + 1))) by
                    have k1 := ((HTWO.out.drewN q).setA HAL'.out.symm b (y + 1)).setB HML.out.symm b (-1)
                    rw [hnx, bump_snoc, mask_snoc, HA.out, HM.out]
                    unfold bump1 mask1
                    rw [Int.toNat_natCast, hy]
                    exact k1)
                  have HB9 := Lib.hid (show Below w.heap.size w (((wA.drewN q).setCell ⟨p, b, none⟩ (.int .i64 (y + 1))).setCell ⟨g, b, none⟩ (.int .i64 (-1))) from
                    ((below_drewN HBE.out q).setCell (p := ⟨p, b, none⟩) hp0 _).setCell (p := ⟨g, b, none⟩) hg0 _)
                  obtain ⟨y0, y1⟩ := hsm
                  have y2 : y ≤ 2000000000000000 := by omega
                  have b2 : (0 : Int) ≤ (b : Int) := by omega
                  have b3 : (b : Int) < (i : Int) := by omega
                  clear hnx hy hz hlk hbest
                  go_wp2
                  go_roundw
                  case rel => exact ⟨m + 1, by omega, congrArg (Value.int .i64) (by omega), HN, HB9.out⟩
                  case measure => simp [intOf]; omega
            · obtain rfl : m = R := by omega
              have HOA := Lib.hid htwo.out.a
              have HBE := Lib.hid hbel
              have HVL := Lib.hid (show V.length = k by rw [HE.out, bump_len, HPL.out])
              rw [← HE.out] at HOA
              have hm0 : (m : Int) - (m : Int) = 0 := by omega
              rw [hm0]
              clear htwo hbel hm0
              go_wp2
              go_ret
              refine ⟨some ⟨p, 0, none⟩, c1, ?_, ?_, HBE.out⟩
              · rw [HVL.out]; rfl
              · rw [HVL.out]; exact HOA.out
end Go.Proofs.Ytdmnagpnhphifaa.AllocS
