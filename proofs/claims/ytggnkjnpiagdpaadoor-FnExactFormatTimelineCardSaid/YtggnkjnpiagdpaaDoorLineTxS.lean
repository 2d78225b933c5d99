/- The contract of the model's FormatTimeline: the text of the timeline. -/
import Derived.Test.YtggnkjnpiagdpaaDoorRows
import Derived.Test.YtggnkjnpiagdpaaDoorLineTx
import Derived.Test.YtggnkjnpiagdpaaDoorSegS
import Derived.Test.YtggnkjnpiagdpaaDoorGrownTail
import Derived.Test.YtggnkjnpiagdpaaDoorHexEnc
import Derived.Lib.AppendStr
namespace Go.Proofs.YtggnkjnpiagdpaaDoor.LineTxS
open Go.RowKit RowN TSegment SegMath Mon MonText LineTx BytesKit
theorem text_g (m : Int) (t : ByteArray) {w0 : World} (X : Grown.G w0) (h : mtx m = t) : Calls Tryd.prog 31 #[.int .i64 m] X.w (fun e w'' => e = .returned (.string t) ∧ ∃ Y : Grown.G w0, w'' = Y.w) :=
  Grown.grown_of (by rw [← h]; exact text_s m X.w)
theorem num_g (n : Int) (t : ByteArray) {w0 : World} (X : Grown.G w0) (h1 : -9223372036854775808 ≤ n) (h2 : n ≤ 9223372036854775807) (h : num n = t) : Calls Tryd.prog 32 #[.int .i64 n] X.w (fun e w'' => e = .returned (.string t) ∧ ∃ Y : Grown.G w0, w'' = Y.w) :=
  Grown.grown_of (by rw [← h]; exact NumFmt.fmt_any n X.w h1 h2)
theorem strCells_eq (s : ByteArray) : Lib.strCells s = cellsB s.data.toList := rfl
theorem info_byte : ∃ i, Tryd.prog.info? 5 = some i ∧ i.zero = some (.int .u8 0) ∧ i.size = 1 ∧ i.bytes = 1 := by
  obtain ⟨i0, hi, hz0, hz1, hz2⟩ := info_parts HexEnc.bt.hi
  exact ⟨i0, hi, hz0, hz1, hz2⟩
/-- append(b, s...), b owned. -/
theorem wpList_app {w : World} {ops : Array Oper} {rest : List Oper} {o : Oper} {a : Act} {Q : Exit → Act → World → Prop} (hgd : o.guard = none) (sl x : Operand)
    (ho : o.op = .call { callee := .builtin .append, args := #[sl, x], argTypes := #[22, 9] }) (B : Nat) (v : Value) (l : List UInt8) (hs : a.eval sl = v) (hown : OwnsB w B 5 v l) (s : ByteArray) (hx : a.eval x = .string s) (hlen : l.length + s.size ≤ 1099511627776) (hbase : B ≤ w.heap.size)
    (h : ∀ v' w', OwnsB w' B 5 v' (l ++ s.data.toList) → Below B w w' → wpList Tryd.prog ops Q rest (a.put o.dst v') w') : wpList Tryd.prog ops Q (o :: rest) a w := by
  obtain ⟨i, h1, h2, h3, h4⟩ := info_byte
  refine Lib.wpList_append_own_string w hgd sl x 22 9 ho B 5 i HexEnc.bt.ht HexEnc.bt.hr h1 h2 h3 h4 v l.length (cellsB l) hs hown s hx (by unfold maxLen; omega) (by omega) hbase ?_
  intro v' w' ho' hg _
  refine h v' w' ?_ ((Below.refl B w).grown hg hbase (fun k hk => (hown.lt k hk).1))
  unfold OwnsB
  rw [List.length_append, cellsB_app, show s.data.toList.length = s.size by simp]
  exact ho'

set_option maxHeartbeats 4000000 in
set_option maxRecDepth 100000 in
theorem format_s (w : World) (p : Option Addr) (m cap : Nat) (l : List El) (hm : l.length = m) (hs : m ≤ 1099511627776) (hv : ∀ x ∈ l, InV x) (h : Reads fc 3 w p l) :
    Calls Tryd.prog 15 #[.slice p m cap] w (IsS (lineTx l) w) := by
  have KK := Lib.hid h
  have HM := Lib.hid hm
  have HV := Lib.hid hv
  obtain ⟨b1, e1⟩ : ∃ b, okT l = b := ⟨_, rfl⟩
  obtain ⟨R, hR⟩ : ∃ R, lineTx l = R := ⟨_, rfl⟩
  rw [hR]
  have HR := Lib.hid (show R = if b1 = true then ⟨(acc l m).toArray⟩ else ⟨#[]⟩ by rw [← hR, lineTx, e1, hm])
  have E1 := Lib.hid e1
  clear h hm hv e1 hR
  go_enter Tryd.func15, Tryd.ntmps15
  go_wp2_with fail
  refine (SegS.ok_s _ p m cap l HM.out hs KK.out).mono ?_
  rintro e w1 ⟨rfl, hb1⟩
  rw [E1.out]
  have HB1 := Lib.hid hb1
  clear hb1
  cases b1 with
  | false =>
    have E := Lib.hid (HR.out.trans (if_neg (by simp)))
    clear HR
    go_wp2
    go_ret
    exact ⟨by rw [E.out]; rfl, HB1.out⟩
  | true =>
  have hml : m ≤ 401 := by
    have := E1.out
    simp only [okT, Bool.and_eq_true, decide_eq_true_eq] at this
    rw [← HM.out]; exact this.2
  have E := Lib.hid (HR.out.trans (if_pos rfl))
  clear HR
  go_wp2
  go_loopw [3, 4] (fun v i wr => ∃ j : Nat, j ≤ m ∧ i = .int .i64 (j : Int) ∧ Hid (OwnsB wr w.heap.size 5 v (acc l j)) ∧ Hid (Below w.heap.size w wr)) (fun _ i _ => m - (intOf i).toNat)
  case atStart => exact ⟨0, Nat.zero_le _, rfl, Lib.hid (OwnsB.made _ _ _ #[] 0 HB1.out.size (by simp [maxLen]) rfl), Lib.hid (HB1.out.alloc HB1.out.size _)⟩
  case round =>
    obtain ⟨j, hj, rfl, HO, HB⟩ := hrel
    by_cases hlt : j < m
    · obtain ⟨g, o, rfl, hgl, q0, q1, q2⟩ := read KK.out j (by rw [HM.out]; exact hlt)
      obtain ⟨x, hx⟩ : ∃ x, l[j]'(by rw [HM.out]; exact hlt) = x := ⟨_, rfl⟩
      rw [hx] at q0 q1 q2
      have hmem : x ∈ l := hx ▸ List.getElem_mem _
      have hX := of_decide_eq_true (okT_each E1.out x hmem)
      obtain ⟨I1, I2⟩ := HV.out x hmem
      obtain ⟨T, hT⟩ : ∃ T, segTx x = T := ⟨_, rfl⟩
      have HN : Hid (0 < j → acc l (j + 1) = acc l j ++ [32] ++ T.data.toList) := Lib.hid (fun h0 => by rw [← hT, ← hx]; exact acc_next h0 (by rw [HM.out]; exact hlt))
      have H0 : Hid (j = 0 → acc l (j + 1) = T.data.toList) := Lib.hid (fun h0 => by subst h0; rw [← hT, ← hx]; exact acc_one (by rw [HM.out]; exact hlt))
      have HL := Lib.hid (acc_len HV.out j (by rw [HM.out]; omega))
      have s1 := mtx_size x.From
      have s2 := mtx_size (x.To - 1)
      have s3 := num_size ⟨I1, I2⟩
      unfold segTx at hT
      obtain ⟨t1, h1⟩ : ∃ t, mtx x.From = t := ⟨_, rfl⟩
      obtain ⟨t2, h2⟩ : ∃ t, mtx (x.To - 1) = t := ⟨_, rfl⟩
      obtain ⟨t3, h3⟩ : ∃ t, num x.Value = t := ⟨_, rfl⟩
      rw [h1, h2, h3] at hT
      rw [h1] at s1
      rw [h2] at s2
      rw [h3] at s3
      have HTs : Hid (T.size ≤ 40) := Lib.hid (by rw [← hT]; have e1 : dots.size = 2 := rfl; have e2 : eqs.size = 1 := rfl; simp only [ByteArray.size_append]; omega)
      have H1 := Lib.hid h1
      have H2 := Lib.hid h2
      have H3 := Lib.hid h3
      have HT := Lib.hid hT
      clear hx hmem hT h1 h2 h3
      obtain ⟨f, t, n⟩ := x
      simp only [] at q0 q1 q2 hX I1 I2 H1 H2 H3
      obtain ⟨x1, x2, x3⟩ := hX
      have W1 : IntKind.i64.wrap (t - 1) = t - 1 := IntWalk.i64_in _ (by omega)
      have b1 : (0 : Int) ≤ (j : Int) := by omega
      have b2 : (j : Int) < (m : Int) := by omega
      have L1 : ¬ 9223372036854775807 < t1.size + 2 := by omega
      have L2 : ¬ 9223372036854775807 < t1.size + 2 + t2.size := by omega
      have L3 : ¬ 9223372036854775807 < t1.size + 2 + t2.size + 1 := by omega
      have L4 : ¬ 9223372036854775807 < t1.size + 2 + t2.size + 1 + t3.size := by omega
      by_cases hz : j = 0
      case pos =>
        have d0 : decide ((0 : Int) < (j : Int)) = false := decide_eq_false (by omega)
        have d0' : decide (0 < j) = false := decide_eq_false (by omega)
        have HE := Lib.hid (H0.out hz)
        have HO0 : Hid (OwnsB wr w.heap.size 5 u3 [] ) := Lib.hid (by have := HO.out; rw [hz, acc_zero] at this; exact this)
        clear hz HN H0 HO HL
        go_wp2_with fail
        have HBC := (BelowKit.bcell HB.out).1
        have g0 := Grown.G.keep ((HBC g _ hgl).trans q0) (Nat.lt_of_lt_of_le hgl HB.out.size)
        have g1 := Grown.G.keep ((HBC g _ hgl).trans q1) (Nat.lt_of_lt_of_le hgl HB.out.size)
        have g2 := Grown.G.keep ((HBC g _ hgl).trans q2) (Nat.lt_of_lt_of_le hgl HB.out.size)
        clear HBC q0 q1 q2
        refine GrownTail.wp_region_grown_tail 24 (by kernel_rfl) (by kernel_rfl) ?_
        simp only [List.take_succ_cons, List.take_zero, List.drop_succ_cons, List.drop_zero]
        repeat (go_big_quiet_step (first | (go_at_call 31; with_reducible exact text_g _ _ _ H1.out) | (go_at_call 31; with_reducible exact text_g _ _ _ H2.out) | (go_at_call 32; with_reducible exact num_g _ _ _ I1 I2 H3.out)))
        refine wpQuiet_nil ?_
        rintro w4 ⟨X, rfl⟩
        clear g0 g1 g2
        refine wpList_app (o := ⟨some 44, _, _, _, _, _⟩) rfl (.tmp 20) (.tmp 43) rfl w.heap.size u3 [] rfl (HO0.out.keep fun k _ hk => X.bel.block k hk) _ rfl ?_ (Nat.le_trans HB.out.size X.bel.size) ?_
        · show _ + (t1 ++ dots ++ t2 ++ eqs ++ t3).size ≤ _
          rw [HT.out]
          have := HTs.out
          simp only [List.length_nil]
          omega
        intro v5 w5 ho5 hb5
        have R : Hid (OwnsB w5 w.heap.size 5 v5 (acc l (j + 1))) := Lib.hid (by rw [HE.out, ← HT.out]; exact ho5)
        have RB : Hid (Below w.heap.size w w5) := Lib.hid ((HB.out.trans (X.bel.mono HB.out.size)).trans hb5)
        clear ho5 hb5 L1 L2 L3 L4 W1
        go_wp2
        go_roundw
        case rel => exact ⟨j + 1, by omega, by go_num, R, RB⟩
        case measure => simp [intOf]; omega
      case neg =>
        have d0 : decide ((0 : Int) < (j : Int)) = true := decide_eq_true (by omega)
        have d0' : decide (0 < j) = true := decide_eq_true (by omega)
        have HE := Lib.hid (HN.out (by omega))
        clear hz HN H0
        go_wp2_with (at_builtin; refine wpList_append_bytes HexEnc.bt _ (o := ⟨some 19, _, _, _, _, _⟩) rfl (.tmp 17) (.tmp 18) rfl w.heap.size u3 _ rfl (HO.out.alloc _) wr.heap.size 1 1 [32] rfl rfl (heap_alloc_new wr _) (by have := HL.out; simp; omega) (by have := HB.out.size; simp; omega) ?_; intro v1 w2 ho2 hb2; have HO2 := Lib.hid ho2; have HB2 := Lib.hid ((HB.out.alloc HB.out.size _).trans hb2); clear ho2 hb2 HO)
        have HBC := (BelowKit.bcell HB2.out).1
        have g0 := Grown.G.keep ((HBC g _ hgl).trans q0) (Nat.lt_of_lt_of_le hgl HB2.out.size)
        have g1 := Grown.G.keep ((HBC g _ hgl).trans q1) (Nat.lt_of_lt_of_le hgl HB2.out.size)
        have g2 := Grown.G.keep ((HBC g _ hgl).trans q2) (Nat.lt_of_lt_of_le hgl HB2.out.size)
        clear HBC q0 q1 q2
        refine GrownTail.wp_region_grown_tail 24 (by kernel_rfl) (by kernel_rfl) ?_
        simp only [List.take_succ_cons, List.take_zero, List.drop_succ_cons, List.drop_zero]
        repeat (go_big_quiet_step (first | (go_at_call 31; with_reducible exact text_g _ _ _ H1.out) | (go_at_call 31; with_reducible exact text_g _ _ _ H2.out) | (go_at_call 32; with_reducible exact num_g _ _ _ I1 I2 H3.out)))
        refine wpQuiet_nil ?_
        rintro w4 ⟨X, rfl⟩
        clear g0 g1 g2
        refine wpList_app (o := ⟨some 44, _, _, _, _, _⟩) rfl (.tmp 20) (.tmp 43) rfl w.heap.size v1 (acc l j ++ [32]) rfl (HO2.out.keep fun k _ hk => X.bel.block k hk) _ rfl ?_ (Nat.le_trans HB2.out.size X.bel.size) ?_
        · show _ + (t1 ++ dots ++ t2 ++ eqs ++ t3).size ≤ _
          rw [HT.out]
          have := HTs.out
          have := HL.out
          simp only [List.length_append, List.length_singleton]
          omega
        intro v5 w5 ho5 hb5
        have R : Hid (OwnsB w5 w.heap.size 5 v5 (acc l (j + 1))) := Lib.hid (by rw [HE.out, ← HT.out]; exact ho5)
        have RB : Hid (Below w.heap.size w w5) := Lib.hid ((HB2.out.trans (X.bel.mono HB2.out.size)).trans hb5)
        clear ho5 hb5 L1 L2 L3 L4 W1
        go_wp2
        go_roundw
        case rel => exact ⟨j + 1, by omega, by go_num, R, RB⟩
        case measure => simp [intOf]; omega
    · obtain rfl : j = m := by omega
      have hcv := HO.out.str 22 9 HexEnc.bt.ht HexEnc.bt.hT HexEnc.bt.hr
      clear HO
      go_wp2
      go_ret
      exact ⟨by rw [E.out]; rfl, HB.out⟩
end Go.Proofs.YtggnkjnpiagdpaaDoor.LineTxS
