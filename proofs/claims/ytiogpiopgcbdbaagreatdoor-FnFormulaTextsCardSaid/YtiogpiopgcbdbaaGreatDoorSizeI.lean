/- Contract of the program's FormulaSize. -/
import Derived.Test.YtiogpiopgcbdbaaGreatDoorRows
import Derived.Test.YtiogpiopgcbdbaaGreatDoorSizeS
import Derived.Test.YtiogpiopgcbdbaaGreatDoorNine
import Derived.Test.YtiogpiopgcbdbaaGreatDoorFormI
import Derived.Test.YtiogpiopgcbdbaaGreatDoorKit
namespace Go.Proofs.YtiogpiopgcbdbaaGreatDoor.SizeI
open Go.RowKit RowN TNode NodeMath SizeM SizeS OpsM StepI
theorem ops_i (w : World) (x : El) (hk : 1 ≤ x.Kind ∧ x.Kind ≤ 9) : Calls Tryz.prog 16 #[stepV x] w (IsOps (opsL x) w) := by
  obtain ⟨k, a, b, c, u, v⟩ := x
  simp only [] at hk
  unfold stepV opsL
  simp only []
  by_cases h1 : k = 1
  · rw [if_pos h1, if_pos (by omega)]; exact ops_c w u v
  by_cases h2 : k = 2
  · rw [if_neg h1, if_pos h2, if_pos (by omega)]; exact ops_v w a
  rw [if_neg h1, if_neg h2, if_neg (show ¬ k ≤ 2 by omega)]
  by_cases h9 : k = 9
  · rw [if_neg (by omega), if_pos h9, if_pos h9]; exact ops_k w a b c
  · rw [if_pos (by omega), if_neg h9]; exact ops_p w k a b
theorem ops_at {w : World} {p : Option Addr} {l : List Int} (h : Reads StepI.fI 1 w p l) (j : Nat) (hj : j < l.length) : ∃ g o, p = some ⟨g, o, none⟩ ∧ g < w.heap.size ∧ w.cell? ⟨g, o + j, none⟩ = some (.int .i64 l[j]) := by
  obtain ⟨g, o, rfl, hg, q⟩ := h j hj
  have q0 := q 0 (by omega)
  simp only [StepI.fI, Nat.mul_one, Nat.add_zero, List.getElem?_cons_zero] at q0
  exact ⟨g, o, rfl, hg, q0⟩
set_option maxHeartbeats 8000000 in
theorem size_i (w : World) (p : Option Addr) (m cap : Nat) (l : List El) (hm : l.length = m) (hs : m ≤ 1099511627776) (h : Reads fc 6 w p l) :
    Calls Tryz.prog 7 #[.slice p m cap] w (fun e w' => e = .returned (.int .i64 (sizeF l)) ∧ Below w.heap.size w w') := by
  have KK := Lib.hid h
  have HM := Lib.hid hm
  obtain ⟨b1, e1⟩ : ∃ b, okF l = b := ⟨_, rfl⟩
  have E1 := Lib.hid e1
  clear h hm
  go_enter Tryz.func7, Tryz.ntmps7
  go_wp2_with fail
  refine (FormI.form_i _ p m cap l HM.out hs KK.out).mono ?_
  rintro e w1 ⟨rfl, hb⟩
  rw [E1.out]
  have HB1 := Lib.hid hb
  clear hb
  cases b1 with
  | false =>
    have E := Lib.hid (show sizeF l = 0 by unfold sizeF; rw [e1, if_neg Bool.false_ne_true])
    clear e1
    go_wp2
    go_ret
    rw [E.out]
    exact ⟨rfl, HB1.out⟩
  | true =>
  have HF := Lib.hid (okF_of e1)
  have E := Lib.hid (show sizeF l = sz l (m - 1) by unfold sizeF; rw [e1, if_pos rfl, HM.out])
  have hm1 : 1 ≤ m := by have := HF.out.1.1; have := HM.out; omega
  have hm30 : m ≤ 30 := by have := HF.out.1.2; have := HM.out; omega
  clear e1 hs
  have hbs := HB1.out.size
  go_wp2_with (at_make; refine RowCap.wpList_roomN (f := SizeS.fI) SizeS.ftI w1 rfl _ _ rfl w.heap.size .i64 .i64 _ m rfl rfl rfl (by omega) hbs ?_; intro w3 hown3 hg3; have HO3 := Lib.hid hown3; have HB3 := Lib.hid (HB1.out.grown hg3 hbs (by simp)); clear hown3 hg3 HB1 hbs)
  go_loopw [3, 17] (fun v i wr => ∃ (j : Nat), j ≤ m ∧ i = .int .i64 (j : Int) ∧ Hid (Owns SizeS.fI 1 wr w.heap.size 3 v (sizeTo l j)) ∧ Hid (Below w.heap.size w wr)) (fun _ i _ => m - (intOf i).toNat)
  case atStart => exact ⟨0, Nat.zero_le _, rfl, HO3, HB3⟩
  case round =>
    clear HO3 HB3
    obtain ⟨j, hj, rfl, HO, HB⟩ := hrel
    obtain ⟨a', c', rfl, _⟩ := HO.out.form fwI
    rw [sizeTo_len] at HO ⊢
    by_cases hlt : j < m
    · have HLT := Lib.hid (show j < l.length by rw [HM.out]; exact hlt)
      obtain ⟨g, o, rfl, hgl, q0, q1, q2, q3, q4, q5⟩ := read (KK.out.on HB.out) j HLT.out
      have HKD := Lib.hid (kind_at HF.out HLT.out)
      have HOP := Lib.hid (ok_ops HF.out HLT.out)
      have HSZ := Lib.hid (sz_ops HF.out HLT.out)
      have HS := Lib.hid (sizeTo_succ l j)
      have bb1 : (0 : Int) ≤ (j : Int) := by omega
      have bb2 : (j : Int) < (m : Int) := by omega
      generalize (l[j]'HLT.out) = x at q0 q1 q2 q3 q4 q5 HKD HOP HSZ
      go_wp2_with fail
      refine (step_i _ x).mono ?_
      rintro e w4 ⟨rfl, hb⟩
      have HB4 := Lib.hid (BelowKit.bl_trans (BelowKit.bl_alloc HB.out) hb)
      have HO4 := Lib.hid ((HO.out.alloc _).on hb)
      clear hb q0 q1 q2 q3 q4 q5 HB HO
      go_wp2_with fail
      refine (ops_i _ x HKD.out).mono ?_
      rintro e w5 ⟨q, rfl, hr, hb⟩
      have HB5 := Lib.hid (BelowKit.bl_trans HB4.out hb)
      have HO5 := Lib.hid (HO4.out.on hb)
      obtain ⟨os, hos⟩ : ∃ os, opsL x = os := ⟨_, rfl⟩
      rw [hos] at hr HOP HSZ ⊢
      obtain ⟨nn, hnn⟩ : ∃ n, os.length = n := ⟨_, rfl⟩
      have hn3 : nn ≤ 3 := by rw [← hnn, ← hos]; exact ops_len x
      rw [hnn] at HSZ ⊢
      have HN := Lib.hid hnn
      have HR := Lib.hid hr
      clear hb HB4 HO4 hr hos hnn
      go_wp2
      go_loopw [6, 25] (fun s t wr => ∃ (i : Nat), i ≤ nn ∧ t = .int .i64 (i : Int) ∧ s = .int .i64 (1 + sumTo l os i) ∧ w5 = wr) (fun _ t _ => nn - (intOf t).toNat)
      case atStart => exact ⟨0, Nat.zero_le _, rfl, by simp [sumTo], rfl⟩
      case round =>
        obtain ⟨i, hi, rfl, rfl, rfl⟩ := hrel
        have hb1 := sumTo_bd l os i
        by_cases hin : i < nn
        · have HIN := Lib.hid (show i < os.length by rw [HN.out]; exact hin)
          obtain ⟨gq, oq, rfl, hgq, x0⟩ := ops_at HR.out i HIN.out
          have ho := HOP.out _ (List.getElem_mem HIN.out)
          have HSS := Lib.hid (sumTo_succ l os i HIN.out)
          generalize (os[i]'HIN.out) = ov at x0 ho HSS
          obtain ⟨io, rfl⟩ : ∃ i : Nat, ov = (i : Int) := ⟨ov.toNat, by omega⟩
          rw [Int.toNat_natCast] at ho HSS
          obtain ⟨gO, e', _, hgO, t0⟩ := own_i HO5.out io (by rw [sizeTo_len]; omega)
          subst e'
          rw [sizeTo_get] at t0
          have bx := sz_bd l io
          have b3 : (0 : Int) ≤ (io : Int) := by omega
          have b4 : (io : Int) < (j : Int) := by omega
          have b5 : (0 : Int) ≤ (i : Int) := by omega
          have b6 : (i : Int) < (nn : Int) := by omega
          generalize sz l io = y at t0 bx HSS
          generalize sumTo l os i = S at hb1 HSS
          have W1 : IntKind.i64.wrap (1 + S + y) = 1 + S + y := IntWalk.i64_in _ (by omega)
          clear ho
          go_wp2
          go_roundw
          case rel => exact ⟨i + 1, by omega, by go_num, by rw [HSS.out]; go_num, trivial⟩
          case measure => simp [intOf]; omega
        · obtain rfl : i = nn := by omega
          generalize sumTo l os i = S at hb1 HSZ
          have key : ∀ (z : Int), min (1 + S) 25 = z → (z = 1 + S ∧ 1 + S ≤ 25) ∨ (z = 25 ∧ ¬ 1 + S ≤ 25) := fun z hz => by omega
          obtain ⟨z, hz⟩ : ∃ z, min (1 + S) 25 = z := ⟨_, rfl⟩
          have hk := key z hz
          rw [hz] at HSZ
          clear key hz
          rcases hk with ⟨rfl, h25⟩ | ⟨rfl, h25⟩
          · go_wp2_with (at_builtin; refine wpList_appendN ftI fwI _ (o := ⟨some 40, _, _, _, _, _⟩) rfl (.tmp 36) (.tmp 39) rfl w.heap.size _ (sizeTo l j) rfl (HO5.out.alloc _) ⟨w5.heap.size, 0, none⟩ 1 1 [1 + S] (by simp) rfl (newI _ (1 + S) _ rfl) ?_ ?_ ?_; (rw [sizeTo_len]; simp; omega); (have := HB5.out.size; simp; omega); intro v' w' hown' hg' _; have HB' := Lib.hid ((BelowKit.bl_alloc HB5.out).grown hg' (by have := HB5.out.size; simp; omega) (fun k hk => HO5.out.low k hk)); have HO' := Lib.hid hown'; clear hown' hg')
            go_roundw
            case rel => exact ⟨j + 1, by omega, by go_num, by rw [HS.out, HSZ.out]; exact HO', HB'⟩
            case measure => simp [intOf]; omega
          · go_wp2_with (at_builtin; refine Fresh.pause ?_)
            refine ⟨?_⟩
            refine wpList_appendN ftI fwI _ (o := ⟨some 40, _, _, _, _, _⟩) rfl (.tmp 36) (.tmp 39) rfl w.heap.size _ (sizeTo l j) rfl (HO5.out.alloc _) ⟨w5.heap.size, 0, none⟩ 1 1 [25] (by simp) rfl (newI _ 25 _ rfl) ?_ ?_ ?_
            · rw [sizeTo_len]; simp; omega
            · have := HB5.out.size; simp; omega
            intro v' w' hown' hg' _
            have HB' := Lib.hid ((BelowKit.bl_alloc HB5.out).grown hg' (by have := HB5.out.size; simp; omega) (fun k hk => HO5.out.low k hk))
            have HO' := Lib.hid hown'
            clear hown' hg'
            go_wp2
            go_roundw
            case rel => exact ⟨j + 1, by omega, by go_num, by rw [HS.out, HSZ.out]; exact HO', HB'⟩
            case measure => simp [intOf]; omega
    · obtain rfl : j = m := by omega
      obtain ⟨g, rfl, _, hg, t0⟩ := own_i HO.out (j - 1) (by rw [sizeTo_len]; omega)
      rw [sizeTo_get] at t0
      obtain ⟨k0, rfl⟩ : ∃ k, j = k + 1 := ⟨j - 1, by omega⟩
      rw [Nat.add_sub_cancel] at t0 E
      obtain ⟨M, hMM⟩ : ∃ M, k0 + 1 = M := ⟨_, rfl⟩
      rw [hMM] at HO ⊢
      have W1 : IntKind.i64.wrap ((M : Int) - 1) = (k0 : Int) := by rw [IntWalk.i64_in _ (by omega)]; omega
      have b0 : (0 : Int) ≤ (k0 : Int) := by omega
      have b00 : (k0 : Int) < (M : Int) := by omega
      clear hMM hm1
      go_wp2
      go_ret
      rw [E.out]
      exact ⟨rfl, HB.out⟩
end Go.Proofs.YtiogpiopgcbdbaaGreatDoor.SizeI
