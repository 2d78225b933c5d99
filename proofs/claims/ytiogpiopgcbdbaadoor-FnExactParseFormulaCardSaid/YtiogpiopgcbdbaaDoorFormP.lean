/- Contract of the model's ParseFormula. -/
import Derived.Test.YtiogpiopgcbdbaaDoorReadS
import Derived.Test.YtiogpiopgcbdbaaDoorSplitS
import Derived.Test.YtiogpiopgcbdbaaDoorParseM
namespace Go.Proofs.YtiogpiopgcbdbaaDoor.FormP
open Go.RowKit RowN TNode NodeMath FracMath FracTxM FracTxS FracMake SizeM ReadM SplitMath SplitI StrKit ReadS ParseM
theorem split_any (s : ByteArray) (w : World) (hm : s.size ≤ 1048576) : Calls Tryd.prog 41 #[.string s] w (Fields w (split s)) := by
  by_cases h : 600 < s.size
  · exact SplitS.spec_long s w h hm
  · exact SplitS.spec_split s w (by omega)
set_option maxHeartbeats 8000000 in
theorem parse_f (s : ByteArray) (w : World) (hm : s.size ≤ 1048576) : Calls Tryd.prog 21 #[.string s] w (IsForm (parseF s) w) := by
  obtain ⟨R, hR⟩ : ∃ R, parseF s = R := ⟨_, rfl⟩
  obtain ⟨r, hr⟩ : ∃ r, split s = r := ⟨_, rfl⟩
  have HSP := Lib.hid (split_any s w hm)
  rw [hR]
  rw [hr] at HSP
  have HR := Lib.hid hR
  have HRR := Lib.hid hr
  clear hR hr
  go_enter Tryd.func21, Tryd.ntmps21
  go_wp2_with fail
  refine HSP.out.mono ?_
  rintro e w1 ⟨v, rfl, hown, hb⟩
  have HB1 := Lib.hid hb
  have HO := Lib.hid hown
  clear HSP hown hb
  cases r with
  | none =>
    obtain ⟨a, cap, rfl, _⟩ := HO.out.form
    have E := Lib.hid (show R = ([], false) from HR.out.symm.trans (parseF_none HRR.out))
    go_wp2
    go_ret2
    rw [E.out]
    exact ⟨_, _, rfl, Owns.made _ _ _ HB1.out.size, by (repeat (first | exact Below.refl _ _ | apply BelowKit.bl_alloc | apply BelowKit.bl_drewN | apply BelowKit.bl_drew | (refine BelowKit.bl_set ?_ _ ?_; rotate_left; (first | omega | (simp; omega) | simp)) | (refine BelowKit.bl_trans ?_ (‹Hid (Below _ _ _)›).out)))⟩
  | some ws =>
    have HBD := Lib.hid (split_bd HRR.out)
    have hget : (some ws).getD [] = ws := rfl
    rw [hget] at HO
    obtain ⟨a, cap, rfl, hat⟩ := HO.out.form
    obtain ⟨N, hN⟩ : ∃ N, ws.length = N := ⟨_, rfl⟩
    have hN24 : N ≤ 24 := hN ▸ HBD.out.1
    have HAT := Lib.hid (show KW w1 a ws w1.heap.size from fun j hj => by
      obtain ⟨g, e1, _, e2, e3, _⟩ := hat j hj
      exact ⟨g, 0, e1, e2, e2, by rw [Nat.zero_add]; exact e3⟩)
    rw [hN]
    have HN := Lib.hid hN
    have hRd : Rd ((w1.alloc (.cells #[] 59)).alloc (.cells #[.slice (some ⟨w1.heap.size, 0, none⟩) 0 0] 33)) (w1.heap.size + 1) w1.heap.size (.slice (some ⟨w1.heap.size, 0, none⟩) 0 0) [] := by
      refine ⟨?_, (Owns.made w1 _ _ (Nat.le_refl _)).alloc _, by simp [Value.ownBlock], by omega⟩
      have := Boxed.new (w1.alloc (.cells #[] 59)) 33 (.slice (some ⟨w1.heap.size, 0, none⟩) 0 0)
      simpa using this
    have hB2 : Below w1.heap.size w1 ((w1.alloc (.cells #[] 59)).alloc (.cells #[.slice (some ⟨w1.heap.size, 0, none⟩) 0 0] 33)) := by (repeat (first | exact Below.refl _ _ | apply BelowKit.bl_alloc | apply BelowKit.bl_drewN | apply BelowKit.bl_drew | (refine BelowKit.bl_set ?_ _ ?_; rotate_left; (first | omega | (simp; omega) | simp)) | (refine BelowKit.bl_trans ?_ (‹Hid (Below _ _ _)›).out)))
    have HK2 := Lib.hid (HAT.out.on hB2 hB2.size)
    have HRD := Lib.hid hRd
    have HBB := Lib.hid (BelowKit.bl_trans HB1.out hB2)
    have HL1 := Lib.hid HB1.out.size
    clear hat HAT hRd hB2 hN HO
    go_wp2_with fail
    obtain ⟨W2, hW2⟩ : ∃ W, ((w1.alloc (.cells #[] 59)).alloc (.cells #[.slice (some ⟨w1.heap.size, 0, none⟩) 0 0] 33)) = W := ⟨_, rfl⟩
    obtain ⟨b, hbb⟩ : ∃ b, w1.heap.size + 1 = b := ⟨_, rfl⟩
    obtain ⟨B, hBB⟩ : ∃ b, w1.heap.size = b := ⟨_, rfl⟩
    rw [hW2, hbb, hBB] at HRD
    rw [hW2, hBB] at HK2
    rw [hW2] at HBB
    rw [hBB] at HL1
    try rw [hW2]
    try rw [hbb]
    have HC := Lib.hid (read_s ws a N cap HN.out hN24 HBD.out.2 (N + 1) 0 [] W2 b B _ (by have := HN.out; simp [dat]; omega) (Nat.zero_le _) HRD.out (by have := HN.out; simp [dat]; omega) HK2.out)
    rw [show (dat ws).drop 0 = dat ws from rfl] at HC
    clear hW2 hbb hBB HB1
    refine HC.out.mono ?_
    rintro e w2 ⟨v', o2, hrd, hfr, ⟨hn, rfl⟩ | ⟨rest, hs, rfl⟩⟩
    · have E := Lib.hid (show R = ([], false) from HR.out.symm.trans (parseF_bad HRR.out (by rw [HN.out]; exact hn)))
      have HB3 := Lib.hid (HBB.out.trans (hfr.bel.mono HL1.out))
      have dq : ((-1 : Int) == (N : Int)) = false := beq_eq_false_iff_ne.2 (by omega)
      clear hn hrd hfr HC
      go_wp2
      go_ret2
      rw [E.out]
      exact ⟨_, _, rfl, Owns.made _ _ _ HB3.out.size, by (repeat (first | exact Below.refl _ _ | apply BelowKit.bl_alloc | apply BelowKit.bl_drewN | apply BelowKit.bl_drew | (refine BelowKit.bl_set ?_ _ ?_; rotate_left; (first | omega | (simp; omega) | simp)) | (refine BelowKit.bl_trans ?_ (‹Hid (Below _ _ _)›).out)))⟩
    · have hrl := (read_suffix _ _ _ _ _ hs).2
      have hol := ReadK.read_len _ _ _ _ _ hs
      have hdl : (dat ws).length = N := by simp [dat, HN.out]
      rw [hdl] at hrl hol
      rw [List.length_nil] at hol
      have HB3 := Lib.hid (HBB.out.trans (hfr.bel.mono HL1.out))
      have HRD3 := Lib.hid hrd
      clear hdl hrd hfr HC
      by_cases hne : rest = []
      · subst hne
        have E := Lib.hid (show R = if okF o2 = true then (o2, true) else ([], false) from HR.out.symm.trans (parseF_yes HRR.out (by rw [HN.out]; exact hs)))
        obtain ⟨b0, hb0⟩ : ∃ b, okF o2 = b := ⟨_, rfl⟩
        have HB0 := Lib.hid hb0
        rw [show N - ([] : List SizeM.W).length = N from rfl]
        have dq : ((N : Int) == (N : Int)) = true := beq_self_eq_true _
        obtain ⟨a', c', rfl, _⟩ := HRD3.out.own.form fw
        have hbc := HRD3.out.box.cell
        have hbf := HRD3.out.box.frozen
        have hbl := HRD3.out.box.lt
        have HRE := Lib.hid (reads_own fw HRD3.out.own)
        have HF := Lib.hid (FormS.form_s w2 a' o2.length c' o2 rfl (by omega) HRE.out)
        clear hs hb0 hrl
        go_wp2_with fail
        refine HF.out.mono ?_
        rintro e w3 ⟨rfl, hb3⟩
        have HRD4 := Lib.hid (HRD3.out.on hb3)
        have HB4 := Lib.hid (BelowKit.bl_trans HB3.out hb3)
        rw [HB0.out]
        clear hbc hbf hbl hb3
        cases b0 with
        | false =>
          have E' := Lib.hid (show R = ([], false) by rw [E.out, HB0.out]; rfl)
          go_wp2
          go_ret2
          rw [E'.out]
          exact ⟨_, _, rfl, Owns.made _ _ _ HB4.out.size, by (repeat (first | exact Below.refl _ _ | apply BelowKit.bl_alloc | apply BelowKit.bl_drewN | apply BelowKit.bl_drew | (refine BelowKit.bl_set ?_ _ ?_; rotate_left; (first | omega | (simp; omega) | simp)) | (refine BelowKit.bl_trans ?_ (‹Hid (Below _ _ _)›).out)))⟩
        | true =>
          have E' := Lib.hid (show R = (o2, true) by rw [E.out, HB0.out]; rfl)
          have hbc := HRD4.out.box.cell
          have hbf := HRD4.out.box.frozen
          have hbl := HRD4.out.box.lt
          go_wp2
          go_ret2
          rw [E'.out]
          exact ⟨_, _, rfl, HRD4.out.own.base HL1.out, HB4.out⟩
      · have E := Lib.hid (show R = ([], false) from HR.out.symm.trans (parseF_more HRR.out (by rw [HN.out]; exact hs) hne))
        have hpos := List.length_pos_iff.2 hne
        obtain ⟨M, hM⟩ : ∃ M, N - rest.length = M := ⟨_, rfl⟩
        rw [hM]
        have dq : ((M : Int) == (N : Int)) = false := beq_eq_false_iff_ne.2 (by omega)
        have dq2 : ((M : Int) != (N : Int)) = true := by rw [bne, dq]; rfl
        have dq3 : ¬ ((M : Int) = (N : Int)) := by omega
        have dq4 : M ≠ N := by omega
        clear hM hs hrl hpos hol
        go_wp2
        go_ret2
        rw [E.out]
        exact ⟨_, _, rfl, Owns.made _ _ _ HB3.out.size, by (repeat (first | exact Below.refl _ _ | apply BelowKit.bl_alloc | apply BelowKit.bl_drewN | apply BelowKit.bl_drew | (refine BelowKit.bl_set ?_ _ ?_; rotate_left; (first | omega | (simp; omega) | simp)) | (refine BelowKit.bl_trans ?_ (‹Hid (Below _ _ _)›).out)))⟩
end Go.Proofs.YtiogpiopgcbdbaaDoor.FormP
