/- Contracts of the program's EvalAll and Eval. -/
import Derived.Test.YtkfgflmhefbinaaRows
import Derived.Test.YtkfgflmhefbinaaFormI
import Derived.Test.YtkfgflmhefbinaaTestI
import Derived.Test.YtkfgflmhefbinaaValI
import Derived.Test.YtkfgflmhefbinaaEvalS
import Derived.Test.YtkfgflmhefbinaaKit
namespace Go.Proofs.Ytkfgflmhefbinaa.EvalI
open Go.RowKit RowN TNode NodeMath FracMath FracMake ValS EvalS StepI
set_option maxHeartbeats 8000000 in
theorem eval_i (w : World) (p : Option Addr) (m cap : Nat) (l : List El) (q : Option Addr) (m8 cap8 : Nat) (vs : List Fr) (hm : l.length = m) (hs : m ≤ 1048576) (h : Reads fc 6 w p l) (hm8 : vs.length = m8) (_hs8 : m8 ≤ 1048576) (h2 : Reads TFrac.fc 2 w q vs) :
    Calls Try.prog 94 #[.slice p m cap, .slice q m8 cap8] w (IsEv (evalAll l vs).1 (evalAll l vs).2 w) := by
  have KK := Lib.hid h
  have KV := Lib.hid h2
  have HM := Lib.hid hm
  have HM8 := Lib.hid hm8
  obtain ⟨⟨R, B⟩, hR⟩ : ∃ R, evalAll l vs = R := ⟨_, rfl⟩
  have HR := Lib.hid hR
  rw [hR]
  clear h h2 hm hm8 hR
  obtain ⟨b1, e1⟩ : ∃ b, okF l = b := ⟨_, rfl⟩
  obtain ⟨b2, e2⟩ : ∃ b, okVs vs = b := ⟨_, rfl⟩
  have E1 := Lib.hid e1
  have E2 := Lib.hid e2
  have HNO : Hid (b1 = false ∨ b2 = false → R = [] ∧ B = false) := Lib.hid (fun hh => by
    have := HR.out.symm.trans (evalAll_no (by rw [e1, e2]; rcases hh with h | h <;> simp [h]))
    simpa using this)
  go_enter Try.func94, Try.ntmps94
  go_wp2_with fail
  refine (FormI.form_i _ p m cap l HM.out (by omega) KK.out).mono ?_
  rintro e w1 ⟨rfl, hb⟩
  rw [E1.out]
  have HB1 := Lib.hid hb
  clear hb
  cases b1 with
  | false =>
    obtain ⟨rfl, rfl⟩ := HNO.out (.inl rfl)
    clear HNO HR e1 e2
    go_wp2
    refine bodyPost_ret (v := .tuple #[.slice none 0 0, .bool false]) (by simp [results, Try.results94, go_sem]) rfl ⟨_, _, rfl, Owns.nil _ _ _, HB1.out⟩
  | true =>
  go_wp2_with fail
  refine (TestI.vars_i _ q m8 cap8 vs HM8.out (KV.out.on HB1.out)).mono ?_
  rintro e w2 ⟨rfl, hb⟩
  rw [E2.out]
  have HB2 := Lib.hid (BelowKit.bl_trans HB1.out hb)
  clear hb HB1
  cases b2 with
  | false =>
    obtain ⟨rfl, rfl⟩ := HNO.out (.inr rfl)
    clear HNO HR e1 e2
    go_wp2
    refine bodyPost_ret (v := .tuple #[.slice none 0 0, .bool false]) (by simp [results, Try.results94, go_sem]) rfl ⟨_, _, rfl, Owns.nil _ _ _, HB2.out⟩
  | true =>
  have HF := Lib.hid (okF_of e1)
  have h8 : m8 = 8 := by have := (okVs_of e2).1; have := HM8.out; omega
  subst h8
  have H8 := Lib.hid (okVs_of e2).1
  have HYES : Hid (∀ v, evalTo l vs m = some v → R = v ∧ B = true) := Lib.hid (fun v hv => by
    have := HR.out.symm.trans (evalAll_some ⟨E1.out, E2.out⟩ (by rw [HM.out]; exact hv))
    simpa using this)
  have HNONE : Hid (∀ k, k ≤ m → evalTo l vs k = none → R = [] ∧ B = false) := Lib.hid (fun k hk hv => by
    have := HR.out.symm.trans (evalAll_none ⟨E1.out, E2.out⟩ (by rw [HM.out]; exact hk) hv)
    simpa using this)
  clear HNO HR e1 e2 E1 E2
  have hbs := HB2.out.size
  go_wp2_with (at_make; refine RowCap.wpList_roomN (f := TFrac.fc) TFrac.ft w2 rfl _ _ rfl w.heap.size .i64 .i64 _ m rfl rfl rfl (by omega) hbs ?_; intro w3 hown3 hg3; have HO3 := Lib.hid hown3; have HB3 := Lib.hid (HB2.out.grown hg3 hbs (by simp)); clear hown3 hg3 HB2 hbs)
  go_loopw [6, 24] (fun v i wr => ∃ (j : Nat) (r : List Fr), j ≤ m ∧ i = .int .i64 (j : Int) ∧ Hid (evalTo l vs j = some r) ∧ Hid (Owns TFrac.fc 2 wr w.heap.size TFrac.T v r) ∧ Hid (Below w.heap.size w wr)) (fun _ i _ => m - (intOf i).toNat)
  case atStart => exact ⟨0, [], Nat.zero_le _, rfl, Lib.hid rfl, HO3, HB3⟩
  case round =>
    clear HO3 HB3
    obtain ⟨j, r, hj, rfl, HE, HO, HB⟩ := hrel
    obtain ⟨a', c', rfl, _⟩ := HO.out.form TFrac.fw
    have hrj : r.length = j := evalTo_len (by rw [HM.out]; exact hj) HE.out
    rw [hrj] at HO ⊢
    have HRJ := Lib.hid hrj
    clear hrj
    by_cases hlt : j < m
    · have HLT := Lib.hid (show j < l.length by rw [HM.out]; exact hlt)
      obtain ⟨g, o, rfl, hgl, q0, q1, q2, q3, q4, q5⟩ := read (KK.out.on HB.out) j HLT.out
      have HOK := Lib.hid (okN_of (HF.out.2 j HLT.out))
      have HZ : Hid (∀ x y, valN (l[j]'HLT.out) r vs = (x, y, true) → evalTo l vs (j + 1) = some (r ++ [⟨x, y⟩])) := Lib.hid (fun x y hv => evalTo_yes HE.out HLT.out hv)
      have HX : Hid (∀ x y, valN (l[j]'HLT.out) r vs = (x, y, false) → evalTo l vs (j + 1) = none) := Lib.hid (fun x y hv => evalTo_no HE.out HLT.out hv)
      have bb1 : (0 : Int) ≤ (j : Int) := by omega
      have bb2 : (j : Int) < (m : Int) := by omega
      generalize (l[j]'HLT.out) = x at q0 q1 q2 q3 q4 q5 HOK HZ HX
      obtain ⟨⟨x1, x2, ok⟩, hv⟩ : ∃ V, valN x r vs = V := ⟨_, rfl⟩
      have HV := Lib.hid hv
      clear hv HE
      go_wp2_with fail
      refine (step_i _ x).mono ?_
      rintro e w3 ⟨rfl, hb⟩
      have HB3 := Lib.hid (BelowKit.bl_trans (BelowKit.bl_alloc HB.out) hb)
      have HO3 := Lib.hid ((HO.out.alloc _).on hb)
      clear hb q0 q1 q2 q3 q4 q5 HB HO
      go_wp2_with fail
      refine (ValI.val_i x _ a' q j c' 8 cap8 r vs HOK.out HRJ.out H8.out rfl (reads_own TFrac.fw HO3.out) (KV.out.on HB3.out)).mono ?_
      rintro e w4 ⟨rfl, hb⟩
      rw [HV.out]
      have HB4 := Lib.hid (BelowKit.bl_trans HB3.out hb)
      have HO4 := Lib.hid (HO3.out.on hb)
      clear hb HB3 HO3
      cases ok with
      | false =>
        obtain ⟨rfl, rfl⟩ := HNONE.out (j + 1) (by omega) (HX.out _ _ HV.out)
        clear HX HZ HYES
        go_wp2
        refine bodyPost_ret (v := .tuple #[.slice none 0 0, .bool false]) (by simp [results, Try.results94, go_sem]) rfl ⟨_, _, rfl, Owns.nil _ _ _, BelowKit.bl_alloc HB4.out⟩
      | true =>
        have E := Lib.hid (HZ.out _ _ HV.out)
        clear HX HZ HNONE HYES
        go_wp2_with (at_builtin; refine wpList_appendN TFrac.ft TFrac.fw _ (o := ⟨some 41, _, _, _, _, _⟩) rfl (.tmp 38) (.tmp 40) rfl w.heap.size _ r rfl ((HO4.out.alloc _).alloc _) ⟨w4.heap.size + 1, 0, none⟩ 1 1 [⟨x1, x2⟩] (by simp) rfl (new1 _ ⟨x1, x2⟩ _ (by simp)) ?_ ?_ ?_; (rw [HRJ.out]; simp; omega); (have := HB4.out.size; simp; omega); intro v' w' hown' hg' _; have HB' := Lib.hid ((BelowKit.bl_alloc (BelowKit.bl_alloc HB4.out)).grown hg' (by have := HB4.out.size; simp; omega) (fun k hk => HO4.out.low k hk)); have HO' := Lib.hid hown'; clear hown' hg')
        go_roundw
        case rel => exact ⟨j + 1, r ++ [⟨x1, x2⟩], by omega, by go_num, E, HO', HB'⟩
        case measure => simp [intOf]; omega
    · obtain rfl : j = m := by omega
      obtain ⟨rfl, rfl⟩ := HYES.out r HE.out
      clear HYES HNONE
      go_wp2
      refine bodyPost_ret (v := .tuple #[.slice a' j c', .bool true]) (by simp [results, Try.results94, go_sem]) rfl ⟨a', c', by rw [HRJ.out], ?_, HB.out⟩
      rw [HRJ.out]
      exact HO.out
set_option maxHeartbeats 4000000 in
theorem last_i (w : World) (p : Option Addr) (m cap : Nat) (l : List El) (q : Option Addr) (m8 cap8 : Nat) (vs : List Fr) (hm : l.length = m) (hs : m ≤ 1048576) (h : Reads fc 6 w p l) (hm8 : vs.length = m8) (hs8 : m8 ≤ 1048576) (h2 : Reads TFrac.fc 2 w q vs) :
    Calls Try.prog 59 #[.slice p m cap, .slice q m8 cap8] w (IsFrac (evalL l vs) w) := by
  have KK := Lib.hid h
  have KV := Lib.hid h2
  have HM := Lib.hid hm
  have HM8 := Lib.hid hm8
  obtain ⟨R, hR⟩ : ∃ R, evalL l vs = R := ⟨_, rfl⟩
  obtain ⟨⟨v, b⟩, hv⟩ : ∃ V, evalAll l vs = V := ⟨_, rfl⟩
  have HV := Lib.hid hv
  have hR' := hR
  unfold evalL at hR'
  rw [hv] at hR'
  have HR := Lib.hid hR'
  have hlen : b = true → v.length = m ∧ 1 ≤ m := fun hb => by
    subst hb
    have h1 := hv
    unfold evalAll at h1
    split at h1
    next hc =>
      have hF := okF_of hc.1
      split at h1
      next u hu =>
        have e := (Prod.mk.inj h1).1
        subst e
        have := evalTo_len (Nat.le_refl _) hu
        rw [hm] at this
        exact ⟨this, by have := hF.1.1; omega⟩
      next => cases (Prod.mk.inj h1).2
    next => cases (Prod.mk.inj h1).2
  have HL := Lib.hid hlen
  rw [hR]
  clear h h2 hm hm8 hR hR' hv hlen
  go_enter Try.func59, Try.ntmps59
  go_wp2_with fail
  have hb0 : Below w.heap.size w (w.alloc (.cells #[.int .i64 0, .int .i64 0] 44)) := by (repeat (first | exact Below.refl _ _ | apply BelowKit.bl_alloc | apply BelowKit.bl_drewN | apply BelowKit.bl_drew | (refine BelowKit.bl_set ?_ _ ?_; rotate_left; (first | omega | (simp; omega) | simp)) | (refine BelowKit.bl_trans ?_ (‹Hid (Below _ _ _)›).out)))
  refine (eval_i _ p m cap l q m8 cap8 vs HM.out hs (KK.out.on hb0) HM8.out hs8 (KV.out.on hb0)).mono ?_
  rintro e w1 ⟨p1, c1, rfl, ho, hb⟩
  rw [HV.out] at ho ⊢
  have s0 : w1.cell? ⟨w.heap.size, 0, none⟩ = some (.int .i64 0) := ((BelowKit.bcell hb).1 _ _ (by simp)).trans (by simp [go_sem])
  have s1 : w1.cell? ⟨w.heap.size, 1, none⟩ = some (.int .i64 0) := ((BelowKit.bcell hb).1 _ _ (by simp)).trans (by simp [go_sem])
  have f0 : w1.frozen? ⟨w.heap.size, 0, none⟩ = false := ((BelowKit.bcell hb).2 _ _ (by simp)).trans (by simp [go_sem])
  have f1 : w1.frozen? ⟨w.heap.size, 1, none⟩ = false := ((BelowKit.bcell hb).2 _ _ (by simp)).trans (by simp [go_sem])
  have zz : w.heap.size < w1.heap.size := by have := hb.size; simp at this; omega
  have HB := Lib.hid (BelowKit.bl_trans hb0 hb)
  have HO := Lib.hid ho
  clear hb hb0 ho
  cases b with
  | false =>
    have E := Lib.hid (show R = (0, 0, false) from HR.out.symm)
    clear HL HR
    go_wp2
    refine bodyPost_ret (v := .tuple #[.agg #[.int .i64 0, .int .i64 0], .bool false]) (by simp [results, Try.results59, go_sem, s0, s1]) rfl ?_
    rw [E.out]
    exact ⟨rfl, BelowKit.bl_set (BelowKit.bl_set HB.out (a := ⟨w.heap.size, 0, none⟩) _ (by simp)) (a := ⟨w.heap.size, 1, none⟩) _ (by simp)⟩
  | true =>
    obtain ⟨hl, h1⟩ := HL.out rfl
    obtain ⟨n, rfl⟩ : ∃ n, m = n + 1 := ⟨m - 1, by omega⟩
    have hn : n < v.length := by omega
    obtain ⟨g, e', _, hg, d0, d1, _⟩ := TFrac.own HO.out n hn
    have E := Lib.hid (show R = ((v[n]'hn).Num, (v[n]'hn).Den, true) by
      rw [← HR.out]
      simp only [if_true]
      rw [hl, show ((n + 1 : Nat) : Int) - 1 = (n : Int) by omega, at0_get hn])
    generalize v[n]'hn = x at d0 d1 E
    subst e'
    rw [hl]
    obtain ⟨N, hN⟩ : ∃ N, n + 1 = N := ⟨_, rfl⟩
    rw [hN]
    have W1 : IntKind.i64.wrap ((N : Int) - 1) = (n : Int) := by rw [IntWalk.i64_in _ (by omega)]; omega
    have b3 : (0 : Int) ≤ (n : Int) := by omega
    have b4 : (n : Int) < (N : Int) := by omega
    clear HL HR HO hl hn hN h1
    go_wp2
    refine bodyPost_ret (v := .tuple #[.agg #[.int .i64 x.Num, .int .i64 x.Den], .bool true]) (by simp [results, Try.results59, go_sem, s0, s1]) rfl ?_
    rw [E.out]
    exact ⟨rfl, BelowKit.bl_set (BelowKit.bl_set HB.out (a := ⟨w.heap.size, 0, none⟩) _ (by simp)) (a := ⟨w.heap.size, 1, none⟩) _ (by simp)⟩
end Go.Proofs.Ytkfgflmhefbinaa.EvalI
