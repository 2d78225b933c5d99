/- Contracts of the model's functions on spells. -/
import Derived.Test.YtkoeodmneedjcaaRows
import Derived.Test.YtkoeodmneedjcaaSpellMath
import Derived.Test.YtkoeodmneedjcaaKit
import Derived.Deep.RegionHeld3
namespace Go.Proofs.Ytkoeodmneedjcaa.SpellS
open Go.RowKit RowN TSpell SpellMath Mon Box
def IsInt (n : Int) (w : World) (e : Ending) (w' : World) : Prop := e = .returned (.int .i64 n) ∧ Below w.heap.size w w'
theorem in_c' (x lo hi : Int) (v : Bool) (w : World) (h : inB x lo hi = v) : Calls Try.prog 43 #[.int .i64 x, .int .i64 lo, .int .i64 hi] w (fun e w' => e = .returned (.bool v) ∧ w = w') := h ▸ in_c x lo hi w
theorem com_s' (a b c d v : Int) (w : World) (h : common a b c d = v) : Calls Try.prog 42 #[.int .i64 a, .int .i64 b, .int .i64 c, .int .i64 d] w (fun e w' => e = .returned (.int .i64 v) ∧ w = w') := h ▸ common_s a b c d w
set_option maxHeartbeats 4000000 in
theorem ok_s (w : World) (p : Option Addr) (m cap : Nat) (l : List El) (hm : l.length = m) (hs : m ≤ 1099511627776) (h : Reads fc 4 w p l) :
    Calls Try.prog 21 #[.slice p m cap] w (IsBo (okB l) w) := by
  have KK := Lib.hid h
  have HM := Lib.hid hm
  obtain ⟨R, hR⟩ : ∃ R, okB l = R := ⟨_, rfl⟩
  have HR := Lib.hid hR
  rw [hR]
  clear h hm hR
  go_enter Try.func21, Try.ntmps21
  go_wp2
  go_loopw [3] (fun i wr => ∃ j : Nat, j ≤ m ∧ i = .int .i64 (j : Int) ∧ Hid (OkTo l j) ∧ Hid (Below w.heap.size w wr)) (fun i _ => m - (intOf i).toNat)
  case atStart => exact ⟨0, Nat.zero_le _, rfl, Lib.hid (OkTo.zero l), Lib.hid (Below.refl _ _)⟩
  case round =>
    obtain ⟨j, hj, rfl, HJ, HB⟩ := hrel
    by_cases hlt : j < m
    · have HLT := Lib.hid (show j < l.length by rw [HM.out]; exact hlt)
      obtain ⟨g, o, rfl, hgl, q0, q1, q2, q3⟩ := read (KK.out.on HB.out) j HLT.out
      have b1 : (0 : Int) ≤ (j : Int) := by omega
      have b2 : (j : Int) < (m : Int) := by omega
      obtain ⟨⟨f, t, c, v⟩, hx⟩ : ∃ x, l[j]'HLT.out = x := ⟨_, rfl⟩
      rw [hx] at q0 q1 q2 q3
      simp only [] at q0 q1 q2 q3
      have HX := Lib.hid hx
      clear hx
      have NO : Hid (¬ OkP (⟨f, t, c, v⟩ : El) → R = false) := Lib.hid (fun hn => HR.out.symm.trans (okB_each HLT.out (by rw [HX.out]; exact hn)))
      have HBA := Lib.hid (BelowKit.bl_alloc (o := .cells #[.int .i64 f, .int .i64 t, .int .i64 c, .bool v] 34) HB.out)
      obtain ⟨c1, d1⟩ : ∃ b, decide (f < 0) = b := ⟨_, rfl⟩
      obtain ⟨c2, d2⟩ : ∃ b, decide (t ≤ f) = b := ⟨_, rfl⟩
      obtain ⟨c3, d3⟩ : ∃ b, decide ((3600 : Int) < t) = b := ⟨_, rfl⟩
      obtain ⟨c4, hc4⟩ : ∃ b, inB c 1 100 = b := ⟨_, rfl⟩
      have HC := Lib.hid hc4
      clear hc4
      by_cases hX : OkP (⟨f, t, c, v⟩ : El)
      case neg =>
        have E := Lib.hid (NO.out hX)
        have hor : c1 = true ∨ c2 = true ∨ c3 = true ∨ c4 = false := by
          cases c1 <;> cases c2 <;> cases c3 <;> cases c4 <;> simp
          have e4 := inB_of HC.out
          simp only [decide_eq_false_iff_not] at d1 d2 d3
          exact hX (show 0 ≤ f ∧ f < t ∧ t ≤ 3600 ∧ 1 ≤ c ∧ c ≤ 100 from ⟨by omega, by omega, by omega, e4⟩)
        clear hX NO HJ HR
        have HCC : ∀ b : Bool, c4 = b → Hid (inB c 1 100 = b) := fun b e => Lib.hid (HC.out.trans e)
        cases c1 with
        | true =>
          clear hor d2 d3 HCC HC
          go_wp2_with fail
          go_quiet (fail)
          go_wp2
          go_ret
          rw [E.out]
          exact ⟨rfl, below_drewN HBA.out _⟩
        | false =>
        cases c2 with
        | true =>
          clear hor d3 HCC HC
          go_wp2_with fail
          go_quiet (fail)
          go_wp2
          go_ret
          rw [E.out]
          exact ⟨rfl, below_drewN HBA.out _⟩
        | false =>
        cases c3 with
        | true =>
          clear hor HCC HC
          go_wp2_with fail
          go_quiet (fail)
          go_wp2
          go_ret
          rw [E.out]
          exact ⟨rfl, below_drewN HBA.out _⟩
        | false =>
        have H4 := HCC false (by simpa using hor)
        clear hor HCC HC
        go_wp2_with fail
        go_quiet ((go_at_call 43; with_reducible exact Quiet.left (in_c' _ _ _ _ _ H4.out)))
        go_wp2
        go_ret
        rw [E.out]
        exact ⟨rfl, below_drewN HBA.out _⟩
      case pos =>
      obtain ⟨h0, h1, h2, h3⟩ := (show 0 ≤ f ∧ f < t ∧ t ≤ 3600 ∧ 1 ≤ c ∧ c ≤ 100 from hX)
      have HP := Lib.hid hX
      obtain rfl : c1 = false := by rw [← d1]; exact decide_eq_false (by omega)
      obtain rfl : c2 = false := by rw [← d2]; exact decide_eq_false (by omega)
      obtain rfl : c3 = false := by rw [← d3]; exact decide_eq_false (by omega)
      obtain rfl : c4 = true := by rw [← HC.out]; exact inB_yes h3.1 h3.2
      clear hX h0 h1 h2 h3
      by_cases hz : j = 0
      case pos =>
        have d0 : decide ((0 : Int) < (j : Int)) = false := decide_eq_false (by omega)
        have d0' : decide (0 < j) = false := decide_eq_false (by omega)
        have HE := Lib.hid (HJ.out.succ HLT.out (by rw [HX.out]; exact HP.out) (fun i hi _ => by omega))
        clear hz HJ NO
        go_wp2_with fail
        go_quiet ((go_at_call 43; with_reducible exact Quiet.left (in_c' _ _ _ _ _ HC.out)))
        go_wp2
        go_roundw
        case rel => exact ⟨j + 1, by omega, by go_num, HE, Lib.hid (below_drewN HBA.out _)⟩
        case measure => simp [intOf]; omega
      case neg =>
      obtain ⟨i, hi⟩ : ∃ i, j = i + 1 := ⟨j - 1, by omega⟩
      have HIL := Lib.hid (show i < l.length by have := HLT.out; omega)
      obtain ⟨g', o', e', _, r0, r1, r2, r3⟩ := read (KK.out.on HB.out) i HIL.out
      cases e'
      obtain ⟨⟨f', t', c', v'⟩, hy⟩ : ∃ y, l[i]'HIL.out = y := ⟨_, rfl⟩
      rw [hy] at r0 r1 r2 r3
      simp only [] at r0 r1 r2 r3
      have W1 : IntKind.i64.wrap ((j : Int) - 1) = (i : Int) := by rw [IntWalk.i64_in _ (by omega)]; omega
      have d0 : decide ((0 : Int) < (j : Int)) = true := decide_eq_true (by omega)
      have d0' : decide (0 < j) = true := decide_eq_true (by omega)
      have b3 : (0 : Int) ≤ (i : Int) := by omega
      have b4 : (i : Int) < (m : Int) := by omega
      by_cases hP1 : t' ≤ f
      case pos =>
        have d6 : decide (f < t') = false := decide_eq_false (by omega)
        have HE := Lib.hid (HJ.out.succ HLT.out (by rw [HX.out]; exact HP.out) (fun i' hi' hl => by
          obtain rfl : i' = i := by omega
          rw [HX.out, hy]; exact hP1))
        clear hz hi hy hP1 HJ NO r0 r2 r3
        go_wp2_with fail
        go_quiet ((go_at_call 43; with_reducible exact Quiet.left (in_c' _ _ _ _ _ HC.out)))
        clear W1
        go_wp2
        go_roundw
        case rel => exact ⟨j + 1, by omega, by go_num, HE, Lib.hid (below_drewN HBA.out _)⟩
        case measure => simp [intOf]; omega
      case neg =>
        have d6 : decide (f < t') = true := decide_eq_true (by omega)
        have E := Lib.hid (show R = false by
          rw [← HR.out]
          have hl2 : i + 1 < l.length := by have := HLT.out; omega
          refine okB_next hl2 ?_
          have e1 : l[i + 1] = ⟨f, t, c, v⟩ := by rw [← HX.out]; simp only [hi]
          rw [e1, hy]; exact hP1)
        clear hz hi hy hP1 HJ NO r0 r2 r3
        go_wp2_with fail
        go_quiet ((go_at_call 43; with_reducible exact Quiet.left (in_c' _ _ _ _ _ HC.out)))
        clear W1
        go_wp2
        go_ret
        rw [E.out]
        exact ⟨rfl, below_drewN HBA.out _⟩
    · obtain rfl : j = m := by omega
      have e9 : R = decide (j ≤ 30) := by rw [← HR.out, ← HM.out]; exact okB_len_is (by rw [HM.out]; exact HJ.out)
      have e10 : decide ((j : Int) ≤ 30) = decide (j ≤ 30) := decide_eq_decide.2 (by omega)
      have HE := Lib.hid (e9.trans e10.symm)
      clear e9 e10
      go_wp2
      go_ret
      rw [HE.out]
      exact ⟨rfl, HB.out⟩
theorem svc_end {l : List El} {f t : Int} {j : Nat} (h : okB l = true ∨ j = 0) (hj : j = l.length) : svc l f t = svcTo l f t j := by
  subst hj
  rcases h with h | h
  · exact svc_yes h
  · rw [h, svcTo_zero, svc]
    split
    · rw [List.eq_nil_of_length_eq_zero h]; rfl
    · rfl
theorem svc_stop {l : List El} {f t : Int} {j : Nat} (h : okB l = true ∨ j = 0) (hn : okB l = false) : svc l f t = svcTo l f t j := by
  obtain rfl : j = 0 := by
    rcases h with h | h
    · rw [h] at hn; cases hn
    · exact h
  rw [svcTo_zero, svc_no hn]
set_option maxHeartbeats 4000000 in
theorem svc_s (w : World) (p : Option Addr) (m cap : Nat) (l : List El) (lo hi : Int) (hm : l.length = m) (hs : m ≤ 1099511627776) (h : Reads fc 4 w p l) :
    Calls Try.prog 19 #[.slice p m cap, .int .i64 lo, .int .i64 hi] w (IsInt (svc l lo hi) w) := by
  have KK := Lib.hid h
  have HM := Lib.hid hm
  obtain ⟨R, hR⟩ : ∃ R, svc l lo hi = R := ⟨_, rfl⟩
  have HR := Lib.hid hR
  rw [hR]
  clear h hm hR
  go_enter Try.func19, Try.ntmps19
  go_wp2
  go_loopw [7, 8] (fun n i wr => ∃ j : Nat, ∃ s : Int, j ≤ m ∧ i = .int .i64 (j : Int) ∧ n = .int .i64 s ∧ Hid (s = svcTo l lo hi j) ∧ Hid (okB l = true ∨ j = 0) ∧ Hid (Below w.heap.size w wr)) (fun _ i _ => m - (intOf i).toNat)
  case atStart => exact ⟨0, 0, Nat.zero_le _, rfl, rfl, Lib.hid (svcTo_zero l lo hi).symm, Lib.hid (Or.inr rfl), Lib.hid (Below.refl _ _)⟩
  case round =>
    obtain ⟨j, s, hj, rfl, rfl, HS, HO, HB⟩ := hrel
    by_cases hlt : j < m
    · have b1 : (0 : Int) ≤ (j : Int) := by omega
      have b2 : (j : Int) < (m : Int) := by omega
      go_wp2_with fail
      refine (ok_s _ p m cap l HM.out hs (KK.out.on HB.out)).mono ?_
      rintro e w1 ⟨rfl, hb⟩
      have HB1 := Lib.hid (BelowKit.bl_trans HB.out hb)
      clear hb HB
      obtain ⟨b, hb⟩ : ∃ b, okB l = b := ⟨_, rfl⟩
      rw [hb]
      cases b with
      | false =>
        have E := Lib.hid (show R = s by rw [← HR.out, HS.out]; exact svc_stop HO.out hb)
        clear hb
        go_wp2
        go_ret
        rw [E.out]
        exact ⟨rfl, HB1.out⟩
      | true =>
      have HOK := Lib.hid hb
      have HLT := Lib.hid (show j < l.length by rw [HM.out]; exact hlt)
      have hok := okB_of hb
      have s1 := svcTo_bd (l := l) (f := lo) (t := hi) hok.each j (by have := HLT.out; omega)
      have hl30 := hok.len
      have hxp := hok.each j HLT.out
      have hnext := svcTo_succ l lo hi j HLT.out
      rw [← HS.out] at s1 hnext
      obtain ⟨g, o, rfl, hgl, q0, q1, q2, q3⟩ := read (KK.out.on HB1.out) j HLT.out
      obtain ⟨⟨f, t, c, v⟩, hx⟩ : ∃ x, l[j]'HLT.out = x := ⟨_, rfl⟩
      rw [hx] at q0 q1 q2 q3 hnext hxp
      simp only [] at q0 q1 q2 q3
      obtain ⟨h0, h1, h2, h3⟩ := (show 0 ≤ f ∧ f < t ∧ t ≤ 3600 ∧ 1 ≤ c ∧ c ≤ 100 from hxp)
      have hl2 := HLT.out
      have HN : Hid (svcTo l lo hi (j + 1) = s + (if v = true then 0 else c * common f t lo hi)) := Lib.hid hnext
      have HE := Lib.hid (show s ≤ 360000 * 30 ∧ 0 ≤ s by omega)
      clear hb hok hx hnext hxp hl2 s1 hl30 HO
      cases v with
      | true =>
        have HF := Lib.hid (show s = svcTo l lo hi (j + 1) by have := HN.out; simpa using this.symm)
        clear HN h0 h1 h2 h3
        go_wp2
        go_roundw
        case rel => exact ⟨j + 1, s, by omega, by go_num, rfl, HF, Lib.hid (Or.inl HOK.out), HB1⟩
        case measure => simp [intOf]; omega
      | false =>
        obtain ⟨cm, hc⟩ : ∃ x, common f t lo hi = x := ⟨_, rfl⟩
        have HC := Lib.hid hc
        have c0 := common_bd f t lo hi
        rw [hc] at c0
        have e1 : 0 ≤ c * cm := Int.mul_nonneg (by omega) c0.1
        have e2 : c * cm ≤ 100 * 3600 := Int.mul_le_mul h3.2 c0.2 c0.1 (by omega)
        obtain ⟨M, hM⟩ : ∃ M, c * cm = M := ⟨_, rfl⟩
        rw [hM] at e1 e2
        have W1 : IntKind.i64.wrap (c * cm) = M := by rw [hM]; exact IntWalk.i64_in _ (by omega)
        have W2 : IntKind.i64.wrap (s + M) = s + M := IntWalk.i64_in _ (by have := HE.out; omega)
        have HF := Lib.hid (show s + M = svcTo l lo hi (j + 1) by have := HN.out; rw [hc, hM] at this; simpa using this.symm)
        clear HN hc hM c0 e1 e2 h0 h1 h2 h3
        go_wp2_with fail
        go_quiet ((go_at_call 42; with_reducible exact Quiet.left (com_s' _ _ _ _ _ _ HC.out)))
        clear W1 W2
        go_wp2
        go_roundw
        case rel => exact ⟨j + 1, s + M, by omega, by go_num, rfl, HF, Lib.hid (Or.inl HOK.out), Lib.hid (below_drewN HB1.out _)⟩
        case measure => simp [intOf]; omega
    · obtain rfl : j = m := by omega
      have E := Lib.hid (show R = s by rw [← HR.out, HS.out]; exact svc_end HO.out HM.out.symm)
      go_wp2
      go_ret
      rw [E.out]
      exact ⟨rfl, HB.out⟩
theorem pct_end {l : List El} {mo : Int} {j : Nat} (h : okB l = true ∨ j = 0) (hj : j = l.length) (hn : ∀ i (h : i < l.length), i < j → inS mo l[i] = false) : pct l mo = 0 := by
  subst hj
  rcases h with h | h
  · rw [pct_yes h]; exact find_none fun i hi => hn i hi hi
  · rw [pct]
    split
    · exact find_none fun i hi => by omega
    · rfl
theorem inS_first {mo : Int} {x : El} (h : ¬ x.From ≤ mo) : inS mo x = false := by simp [inS, h]
theorem inS_last {mo : Int} {x : El} (h : ¬ mo < x.To) : inS mo x = false := by simp [inS, h]
theorem inS_leave {mo : Int} {x : El} (h : x.Leave = true) : inS mo x = false := by simp [inS, h]
theorem inS_all {mo : Int} {x : El} (h1 : x.From ≤ mo) (h2 : mo < x.To) (h3 : x.Leave = false) : inS mo x = true := by simp [inS, h1, h2, h3]
theorem none_succ {l : List El} {mo : Int} {j : Nat} (hj : j < l.length) (h : ∀ i (h : i < l.length), i < j → inS mo l[i] = false) (h2 : inS mo l[j] = false) : ∀ i (h : i < l.length), i < j + 1 → inS mo l[i] = false := fun i hi hl => by
  by_cases e : i = j
  · subst e; exact h2
  · exact h i hi (by omega)
set_option maxHeartbeats 4000000 in
theorem pct_s (w : World) (p : Option Addr) (m cap : Nat) (l : List El) (mo : Int) (hm : l.length = m) (hs : m ≤ 1099511627776) (h : Reads fc 4 w p l) :
    Calls Try.prog 28 #[.slice p m cap, .int .i64 mo] w (IsInt (pct l mo) w) := by
  have KK := Lib.hid h
  have HM := Lib.hid hm
  obtain ⟨R, hR⟩ : ∃ R, pct l mo = R := ⟨_, rfl⟩
  have HR := Lib.hid hR
  rw [hR]
  clear h hm hR
  go_enter Try.func28, Try.ntmps28
  go_wp2
  go_loopw [5] (fun i wr => ∃ j : Nat, j ≤ m ∧ i = .int .i64 (j : Int) ∧ Hid (∀ i (h : i < l.length), i < j → inS mo l[i] = false) ∧ Hid (okB l = true ∨ j = 0) ∧ Hid (Below w.heap.size w wr)) (fun i _ => m - (intOf i).toNat)
  case atStart => exact ⟨0, Nat.zero_le _, rfl, Lib.hid (fun _ _ h => by omega), Lib.hid (Or.inr rfl), Lib.hid (Below.refl _ _)⟩
  case round =>
    obtain ⟨j, hj, rfl, HS, HO, HB⟩ := hrel
    by_cases hlt : j < m
    · have b1 : (0 : Int) ≤ (j : Int) := by omega
      have b2 : (j : Int) < (m : Int) := by omega
      go_wp2_with fail
      refine (ok_s _ p m cap l HM.out hs (KK.out.on HB.out)).mono ?_
      rintro e w1 ⟨rfl, hb⟩
      have HB1 := Lib.hid (BelowKit.bl_trans HB.out hb)
      clear hb HB
      obtain ⟨b, hb⟩ : ∃ b, okB l = b := ⟨_, rfl⟩
      rw [hb]
      cases b with
      | false =>
        have E := Lib.hid (show R = 0 by rw [← HR.out]; exact pct_no hb)
        clear hb
        go_wp2
        go_ret
        rw [E.out]
        exact ⟨rfl, HB1.out⟩
      | true =>
      have HOK := Lib.hid hb
      have HLT := Lib.hid (show j < l.length by rw [HM.out]; exact hlt)
      obtain ⟨g, o, rfl, hgl, q0, q1, q2, q3⟩ := read (KK.out.on HB1.out) j HLT.out
      obtain ⟨⟨f, t, c, v⟩, hx⟩ : ∃ x, l[j]'HLT.out = x := ⟨_, rfl⟩
      have HX := Lib.hid hx
      rw [hx] at q0 q1 q2 q3
      simp only [] at q0 q1 q2 q3
      clear hb hx HO
      by_cases h1 : f ≤ mo
      case neg =>
        have HN := Lib.hid (none_succ HLT.out HS.out (by rw [HX.out]; exact inS_first h1))
        go_wp2
        go_roundw
        case rel => exact ⟨j + 1, by omega, by go_num, HN, Lib.hid (Or.inl HOK.out), HB1⟩
        case measure => simp [intOf]; omega
      case pos =>
      by_cases h2 : mo < t
      case neg =>
        have HN := Lib.hid (none_succ HLT.out HS.out (by rw [HX.out]; exact inS_last h2))
        go_wp2
        go_roundw
        case rel => exact ⟨j + 1, by omega, by go_num, HN, Lib.hid (Or.inl HOK.out), HB1⟩
        case measure => simp [intOf]; omega
      case pos =>
      cases v with
      | true =>
        have HN := Lib.hid (none_succ HLT.out HS.out (by rw [HX.out]; exact inS_leave rfl))
        go_wp2
        go_roundw
        case rel => exact ⟨j + 1, by omega, by go_num, HN, Lib.hid (Or.inl HOK.out), HB1⟩
        case measure => simp [intOf]; omega
      | false =>
        have E := Lib.hid (show R = c by rw [← HR.out, pct_yes HOK.out, find_at HLT.out (by rw [HX.out]; exact inS_all h1 h2 rfl) HS.out, HX.out])
        go_wp2
        go_ret
        rw [E.out]
        exact ⟨rfl, HB1.out⟩
    · obtain rfl : j = m := by omega
      have E := Lib.hid (show R = 0 by rw [← HR.out]; exact pct_end HO.out HM.out.symm HS.out)
      go_wp2
      go_ret
      rw [E.out]
      exact ⟨rfl, HB.out⟩
theorem brk_end {l : List El} {k : Nat} (h : okB l = true ∨ k = 0) (h1 : ¬ k + 1 < l.length) (h2 : k + 1 ≤ l.length ∨ k = 0) : breaks l = breaksTo l k := by
  rw [breaks]
  split
  · congr 1
    omega
  next hn =>
    rcases h with h | h
    · exact absurd h hn
    · subst h; rfl
theorem brk_stop {l : List El} {k : Nat} (h : okB l = true ∨ k = 0) (hn : okB l = false) : breaks l = breaksTo l k := by
  rw [breaks_no hn]
  rcases h with h | h
  · rw [h] at hn; cases hn
  · subst h; rfl
/-- One new segment, laid in the newest block. -/
theorem newS (w : World) (x : TSegment.El) (g : Nat) (hg : w.heap.size = g) : ∀ j u, ([x].flatMap TSegment.fc)[j]? = some u →
    (w.alloc (.cells #[.int .i64 x.From, .int .i64 x.To, .int .i64 x.Value] 36)).cell? ((⟨g, 0, none⟩ : Addr).add j) = some u := by
  subst hg
  exact news_block (T := 36) (heap_alloc_new w _)
set_option maxRecDepth 100000 in
set_option maxHeartbeats 4000000 in
theorem brk_s (w : World) (p : Option Addr) (m cap : Nat) (l : List El) (hm : l.length = m) (hs : m ≤ 1099511627776) (h : Reads fc 4 w p l) :
    Calls Try.prog 29 #[.slice p m cap] w (TSegment.IsRow (breaks l) w) := by
  have KK := Lib.hid h
  have HM := Lib.hid hm
  obtain ⟨R, hR⟩ : ∃ R, breaks l = R := ⟨_, rfl⟩
  have HR := Lib.hid hR
  rw [hR]
  clear h hm hR
  go_enter Try.func29, Try.ntmps29
  go_wp2
  go_loopw [3, 4] (fun s i wr => ∃ j : Nat, 1 ≤ j ∧ (j ≤ m ∨ j = 1) ∧ i = .int .i64 (j : Int) ∧ Hid (Owns TSegment.fc 3 wr w.heap.size TSegment.T s (breaksTo l (j - 1))) ∧ Hid (okB l = true ∨ j - 1 = 0) ∧ Hid (Below w.heap.size w wr)) (fun _ i _ => m - (intOf i).toNat)
  case atStart => exact ⟨1, Nat.le_refl _, Or.inr rfl, rfl, Lib.hid (Owns.made (f := TSegment.fc) (c := 3) w w.heap.size TSegment.T (Nat.le_refl _)), Lib.hid (Or.inr rfl), Lib.hid (by (repeat (first | exact Below.refl _ _ | apply BelowKit.bl_alloc | apply BelowKit.bl_drewN | apply BelowKit.bl_drew | (refine BelowKit.bl_set ?_ _ ?_; rotate_left; (first | omega | (simp; omega) | simp)) | (refine BelowKit.bl_trans ?_ (‹Hid (Below _ _ _)›).out))))⟩
  case round =>
    obtain ⟨j, hj1, hjm, rfl, HS, HO, HB⟩ := hrel
    by_cases hlt : j < m
    · have b1 : (0 : Int) ≤ (j : Int) := by omega
      have b2 : (j : Int) < (m : Int) := by omega
      clear hjm
      go_wp2_with fail
      refine (ok_s _ p m cap l HM.out hs (KK.out.on HB.out)).mono ?_
      rintro e w1 ⟨rfl, hb⟩
      have HB1 := Lib.hid (BelowKit.bl_trans HB.out hb)
      have HS1 := Lib.hid (HS.out.on hb)
      clear hb HB HS
      obtain ⟨b, hb⟩ : ∃ b, okB l = b := ⟨_, rfl⟩
      rw [hb]
      cases b with
      | false =>
        have E := Lib.hid (show R = breaksTo l (j - 1) by rw [← HR.out]; exact brk_stop HO.out hb)
        obtain ⟨a, ca, rfl, _⟩ := HS1.out.form TSegment.fw
        clear hb
        go_wp2
        go_ret
        rw [E.out]
        exact ⟨_, _, rfl, HS1.out, HB1.out⟩
      | true =>
      have HOK := Lib.hid hb
      have hok := okB_of hb
      obtain ⟨i, hi⟩ : ∃ i, j = i + 1 := ⟨j - 1, by omega⟩
      have HLT := Lib.hid (show j < l.length by rw [HM.out]; exact hlt)
      have HIL := Lib.hid (show i < l.length by have := HLT.out; omega)
      have hl2 : i + 1 < l.length := by have := HLT.out; omega
      have hxp := hok.each j HLT.out
      have hyp := hok.each i HIL.out
      have hnx := breaksTo_succ l i hl2
      rw [show j - 1 = i by omega] at HS1
      obtain ⟨g, o, rfl, hgw, _⟩ := read KK.out j HLT.out
      obtain ⟨g', o', e', _, q0, q1, q2, q3⟩ := read (KK.out.on HB1.out) j HLT.out
      cases e'
      obtain ⟨g', o', e', _, r0, r1, r2, r3⟩ := read (KK.out.on HB1.out) i HIL.out
      cases e'
      obtain ⟨x, hx⟩ : ∃ x, l[j]'HLT.out = x := ⟨_, rfl⟩
      obtain ⟨y, hy⟩ : ∃ y, l[i]'HIL.out = y := ⟨_, rfl⟩
      have hx1 : l[i + 1] = x := by rw [← hx]; simp only [hi]
      rw [hy, hx1] at hnx
      rw [hx] at q0 q1 q2 q3 hxp
      rw [hy] at r0 r1 r2 r3 hyp
      obtain ⟨f, t, c, v⟩ := x
      obtain ⟨f', t', c', v'⟩ := y
      simp only [] at q0 q1 q2 q3 r0 r1 r2 r3
      obtain ⟨u0, u1, u2, u3⟩ := (show 0 ≤ f ∧ f < t ∧ t ≤ 3600 ∧ 1 ≤ c ∧ c ≤ 100 from hxp)
      obtain ⟨v0, v1, v2, v3⟩ := (show 0 ≤ f' ∧ f' < t' ∧ t' ≤ 3600 ∧ 1 ≤ c' ∧ c' ≤ 100 from hyp)
      have W1 : IntKind.i64.wrap ((j : Int) - 1) = (i : Int) := by rw [IntWalk.i64_in _ (by omega)]; omega
      have W2 : IntKind.i64.wrap (f - t') = f - t' := IntWalk.i64_in _ (by omega)
      have b3 : (0 : Int) ≤ (i : Int) := by omega
      have b4 : (i : Int) < (m : Int) := by omega
      have HLEN := Lib.hid (breaksTo_len l i)
      have HIB := Lib.hid (show i ≤ 1099511627776 by omega)
      have HNX : Hid (breaksTo l (j + 1 - 1) = breaksTo l i ++ gap ⟨f', t', c', v'⟩ ⟨f, t, c, v⟩) := Lib.hid (by rw [← hnx, show j + 1 - 1 = i + 1 by omega])
      clear hb hok hxp hyp hnx hx hy hx1 hl2 hi u0 u1 u2 u3 v0 v1 v2 v3 HO q1 q2 q3 r0 r2 r3
      by_cases hg : t' < f
      case neg =>
        have d1 : decide (t' < f) = false := decide_eq_false hg
        have E := Lib.hid (show breaksTo l (j + 1 - 1) = breaksTo l i by rw [HNX.out, gap, if_neg hg, List.append_nil])
        clear HNX hg
        go_wp2_with fail
        go_quiet (fail)
        clear W1 W2
        go_wp2
        go_roundw
        case rel => exact ⟨j + 1, by omega, by omega, by go_num, by rw [E.out]; exact HS1.out.drewN _ |> Lib.hid, Lib.hid (Or.inl HOK.out), Lib.hid (below_drewN HB1.out _)⟩
        case measure => simp [intOf]; omega
      case pos =>
        have d1 : decide (t' < f) = true := decide_eq_true hg
        have E := Lib.hid (show breaksTo l (j + 1 - 1) = breaksTo l i ++ [⟨t', f, f - t'⟩] by rw [HNX.out, gap, if_pos hg])
        generalize breaksTo l i = r at HS1 E HLEN
        obtain ⟨a, ca, rfl, _⟩ := HS1.out.form TSegment.fw
        clear HNX hg
        go_wp2_with fail
        go_quiet (fail)
        generalize hw2 : w1.drewN _ = w2
        have HB2 := Lib.hid (show Below w.heap.size w w2 by rw [← hw2]; exact below_drewN HB1.out _)
        have HS2 := Lib.hid (show Owns TSegment.fc 3 w2 w.heap.size TSegment.T (.slice a r.length ca) r by rw [← hw2]; exact HS1.out.drewN _)
        have s0 : w2.cell? ⟨g, o + j * 4, none⟩ = some (.int .i64 f) := by rw [← hw2]; exact q0
        have s1 : w2.cell? ⟨g, o + i * 4 + 1, none⟩ = some (.int .i64 t') := by rw [← hw2]; exact r1
        clear hw2 HB1 HS1 q0 r1
        go_wp2_with fail
        have HKP : Hid (∀ (w5 : World) (ob : Obj), (w2.alloc ob).drew.grownBy w5 (Value.slice a r.length ca).ownBlock → (w5.cell? ⟨g, o + i * 4 + 1, none⟩ = some (.int .i64 t') ∧ w5.cell? ⟨g, o + j * 4, none⟩ = some (.int .i64 f)) ∧ Below w.heap.size w w5) := Lib.hid fun w5 ob hg => by
          have hs2 := HB2.out.size
          have hlow := HS2.out.low
          have h5 : Below w.heap.size w2 w5 := (((Below.refl _ _).alloc (by omega) _).drew).grown hg (by show _ ≤ (w2.heap.push _).size; simp; omega) hlow
          exact ⟨⟨(h5.cell (p := ⟨g, _, none⟩) hgw).trans s1, (h5.cell (p := ⟨g, _, none⟩) hgw).trans s0⟩, HB2.out.trans h5⟩
        go_region_held3 (fun W => W.cell? ⟨g, o + i * 4 + 1, none⟩ = some (.int .i64 t') ∧ W.cell? ⟨g, o + j * 4, none⟩ = some (.int .i64 f))
          (first | exact (HKP.out _ _ hg5).1 | go_keep)
          ((refine step_appendN TSegment.ft TSegment.fw _ (o := ⟨some 54, _, _, _, _, _⟩) rfl (.tmp 28) (.tmp 53) rfl w.heap.size _ r rfl (HS2.out.alloc _).drew ⟨w2.heap.size, 0, none⟩ 1 1 [⟨t', f, f - t'⟩] rfl rfl (newS w2 _ _ rfl) ?_ ?_ ?_; (have := HLEN.out; have := HIB.out; simp; omega); (have := HB2.out.size; simp; omega); intro v' w5 hown5 hg5 _; obtain ⟨p9, c9, rfl, _⟩ := hown5.form TSegment.fw))
        have hlen : (r ++ [(⟨t', f, f - t'⟩ : Seg)]).length = r.length + 1 := by simp
        rw [hlen] at hown5
        have HS5 := Lib.hid (show Owns TSegment.fc 3 w5 w.heap.size TSegment.T (.slice p9 (r.length + 1) c9) (breaksTo l (j + 1 - 1)) by rw [E.out]; exact hown5)
        have HB5 := Lib.hid (HKP.out _ _ hg5).2
        clear hown5 hg5 HKP W1 W2 s0 s1 HB2 HS2 hlen
        go_wp2
        go_roundw
        case rel => exact ⟨j + 1, by omega, by omega, by go_num, HS5, Lib.hid (Or.inl HOK.out), HB5⟩
        case measure => simp [intOf]; omega
    · have E := Lib.hid (show R = breaksTo l (j - 1) by rw [← HR.out]; exact brk_end HO.out (by rw [HM.out]; omega) (by rw [HM.out]; omega))
      obtain ⟨a, ca, rfl, _⟩ := HS.out.form TSegment.fw
      go_wp2
      go_ret
      rw [E.out]
      exact ⟨_, _, rfl, HS.out, HB.out⟩
end Go.Proofs.Ytkoeodmneedjcaa.SpellS
