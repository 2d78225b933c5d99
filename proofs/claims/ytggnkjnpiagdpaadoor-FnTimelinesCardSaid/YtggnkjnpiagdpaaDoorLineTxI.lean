/- The contract of the program's FormatTimeline: the text of the timeline; where the library's table of powers of ten and the program's names of months are as laid. -/
import Derived.Test.YtggnkjnpiagdpaaDoorRows
import Derived.Test.YtggnkjnpiagdpaaDoorLineTx
import Derived.Test.YtggnkjnpiagdpaaDoorSegI
import Derived.Test.YtggnkjnpiagdpaaDoorGrown
import Derived.Test.YtggnkjnpiagdpaaDoorRow1
import Derived.Test.YtggnkjnpiagdpaaDoorShelf
namespace Go.Proofs.YtggnkjnpiagdpaaDoor.LineTxI
open Go.RowKit RowN TSegment SegMath Mon MonText LineTx
theorem str_t : Row1.ElT Tryd.prog 59 9 (.string ⟨#[]⟩) 16 := ⟨Tryd.underlying59, by kernel_rfl, by omega, rfl⟩
theorem text_g (m : Int) (t : ByteArray) {w0 : World} (X : Grown.G w0) (ht : ItoaC.Tab w0) (hn : Names w0) (h : mtx m = t) : Calls Tryd.prog 41 #[.int .i64 m] X.w (fun e w'' => e = .returned (.string t) ∧ ∃ Y : Grown.G w0, w'' = Y.w) :=
  Grown.grown_of (by rw [← h]; exact text_i m X.w (ItoaC.tab_below ht X.bel) (names_below hn X.bel))
theorem num_g (n : Int) (t : ByteArray) {w0 : World} (X : Grown.G w0) (ht : ItoaC.Tab w0) (h1 : -9223372036854775808 ≤ n) (h2 : n ≤ 9223372036854775807) (h : num n = t) : Calls Tryd.prog 42 #[.int .i64 n] X.w (fun e w'' => e = .returned (.string t) ∧ ∃ Y : Grown.G w0, w'' = Y.w) :=
  Grown.grown_of (by rw [← h]; exact ItoaC.impl_fmt n X.w h1 h2 (ItoaC.tab_below ht X.bel))
set_option maxHeartbeats 1000000 in
theorem seg_i (x : El) (w : World) (htab : ItoaC.Tab w) (hnm : Names w) (hX : okX x = true) (hI : InV x) : Calls Tryd.prog 28 #[fv x] w (IsS (segTx x) w) := by
  obtain ⟨I1, I2⟩ := hI
  obtain ⟨x1, x2, x3⟩ := of_decide_eq_true hX
  obtain ⟨T, hT⟩ : ∃ T, segTx x = T := ⟨_, rfl⟩
  rw [hT]
  have s1 := mtx_size x.From
  have s2 := mtx_size (x.To - 1)
  have s3 := num_size ⟨I1, I2⟩
  unfold segTx at hT
  obtain ⟨t1, h1⟩ : ∃ t, mtx x.From = t := ⟨_, rfl⟩
  obtain ⟨t2, h2⟩ : ∃ t, mtx (x.To - 1) = t := ⟨_, rfl⟩
  obtain ⟨t3, h3⟩ : ∃ t, num x.Value = t := ⟨_, rfl⟩
  rw [h1, h2, h3] at hT
  rw [h1] at s1
  rw [h2] at s2
  rw [h3] at s3
  have H1 := Lib.hid h1
  have H2 := Lib.hid h2
  have H3 := Lib.hid h3
  have HT := Lib.hid hT
  clear hX hT h1 h2 h3
  obtain ⟨f, t, n⟩ := x
  simp only [] at x1 x2 x3 I1 I2 H1 H2 H3
  show Calls Tryd.prog 28 #[.agg #[.int .i64 f, .int .i64 t, .int .i64 n]] w (IsS T w)
  have W1 : IntKind.i64.wrap (t - 1) = t - 1 := IntWalk.i64_in _ (by omega)
  have L1 : ¬ 9223372036854775807 < t1.size + 2 := by omega
  have L2 : ¬ 9223372036854775807 < t1.size + 2 + t2.size := by omega
  have L3 : ¬ 9223372036854775807 < t1.size + 2 + t2.size + 1 := by omega
  have L4 : ¬ 9223372036854775807 < t1.size + 2 + t2.size + 1 + t3.size := by omega
  obtain ⟨W, hW⟩ : ∃ W, W = w.alloc (.cells #[.int .i64 f, .int .i64 t, .int .i64 n] 36) := ⟨_, rfl⟩
  have hbW : Below w.heap.size w W := by rw [hW]; (repeat (first | exact Below.refl _ _ | apply BelowKit.bl_alloc | apply BelowKit.bl_drewN | apply BelowKit.bl_drew | (refine BelowKit.bl_set ?_ _ ?_; rotate_left; (first | omega | (simp; omega) | simp)) | (refine BelowKit.bl_trans ?_ (‹Hid (Below _ _ _)›).out)))
  have HTB := Lib.hid (ItoaC.tab_below htab hbW)
  have HNM := Lib.hid (names_below hnm hbW)
  have c0 : W.cell? ⟨w.heap.size, 0, none⟩ = some (.int .i64 f) := by rw [hW]; simp [go_sem]
  have c1 : W.cell? ⟨w.heap.size, 1, none⟩ = some (.int .i64 t) := by rw [hW]; simp [go_sem]
  have c2 : W.cell? ⟨w.heap.size, 2, none⟩ = some (.int .i64 n) := by rw [hW]; simp [go_sem]
  have hzW : W.heap.size = w.heap.size + 1 := by rw [hW]; simp
  have g0 := Grown.G.keep c0 (by omega)
  have g1 := Grown.G.keep c1 (by omega)
  have g2 := Grown.G.keep c2 (by omega)
  have HW := Lib.hid hW
  have HBW := Lib.hid hbW
  clear htab hnm hW hbW c0 c1 c2
  go_enter Tryd.func28, Tryd.ntmps28
  go_wp2_with fail
  rw [← HW.out]
  refine Grown.wp_region_grown (by kernel_rfl) (by kernel_rfl) ?_
  repeat (go_big_quiet_step (first | (go_at_call 41; with_reducible exact text_g _ _ _ HTB.out HNM.out H1.out) | (go_at_call 41; with_reducible exact text_g _ _ _ HTB.out HNM.out H2.out) | (go_at_call 42; with_reducible exact num_g _ _ _ HTB.out I1 I2 H3.out)))
  refine wpQuiet_nil ?_
  rintro w4 ⟨X, rfl⟩
  clear g0 g1 g2 L1 L2 L3 L4 W1
  go_wp2
  go_ret
  exact ⟨str_eq HT.out, HBW.out.trans (X.bel.mono HBW.out.size)⟩

theorem join_acc (l : List El) : Lib.join ((l.map segTx).map (·.data.toList)) [32] = acc l l.length := by
  unfold acc
  rw [List.take_of_length_le (Nat.le_refl _), List.map_map]
  rfl
/-- strings.Join of a slice that the call owns. -/
theorem join_c (w : World) (B : Nat) (v : Value) (xs : List ByteArray) (h : Row1.Owns Value.string w B 9 v xs) (hN : xs.length ≤ 401) (hlen : (Lib.join (xs.map (·.data.toList)) [32]).length ≤ 140737488355328) :
    Calls Tryd.prog 29 #[v, .string ⟨#[32]⟩] w (IsS ⟨(Lib.join (xs.map (·.data.toList)) [32]).toArray⟩ w) := by
  have hf := h.form
  rcases h.2 with ⟨rfl, h0⟩ | ⟨g, cap, cur, rfl, hbg, hg, hnc, hcm, hcs, htake⟩
  · have e := List.eq_nil_of_length_eq_zero h0
    subst e
    refine (Tryd.strings_Join_none none 0 ⟨#[32]⟩ w).mono ?_
    rintro e w' ⟨rfl, rfl⟩
    exact ⟨rfl, Below.refl _ _⟩
  · obtain ⟨a, c, hv, kk⟩ := hf
    cases hv
    refine Tryd.strings_Join g 0 cap xs ⟨#[32]⟩ w ?_ (Array.getElem?_eq_some_iff.1 hg).1 (by omega) (by omega) hlen
    intro j x hx
    obtain ⟨hj, rfl⟩ := List.getElem?_eq_some_iff.1 hx
    obtain ⟨g', e, _, _, hc, _⟩ := kk j hj
    cases e
    rw [Nat.zero_add]
    exact hc
set_option maxHeartbeats 4000000 in
theorem format_i (w : World) (p : Option Addr) (m cap : Nat) (l : List El) (hm : l.length = m) (hs : m ≤ 1099511627776) (hv : ∀ x ∈ l, InV x) (h : Reads fc 3 w p l) (htab : ItoaC.Tab w) (hnm : Names w) :
    Calls Tryd.prog 13 #[.slice p m cap] w (IsS (lineTx l) w) := by
  have KK := Lib.hid h
  have HM := Lib.hid hm
  have HV := Lib.hid hv
  have HTB := Lib.hid htab
  have HNM := Lib.hid hnm
  obtain ⟨b1, e1⟩ : ∃ b, okT l = b := ⟨_, rfl⟩
  obtain ⟨R, hR⟩ : ∃ R, lineTx l = R := ⟨_, rfl⟩
  rw [hR]
  have HR := Lib.hid (show R = if b1 = true then ⟨(acc l m).toArray⟩ else ⟨#[]⟩ by rw [← hR, lineTx, e1, hm])
  have E1 := Lib.hid e1
  clear h hm hv e1 hR htab hnm
  go_enter Tryd.func13, Tryd.ntmps13
  go_wp2_with fail
  refine (SegI.ok_i _ p m cap l HM.out hs KK.out).mono ?_
  rintro e w1 ⟨rfl, hb1⟩
  rw [E1.out]
  have HB1 := Lib.hid hb1
  clear hb1
  cases b1 with
  | false =>
    have E := Lib.hid (HR.out.trans (if_neg (by simp)))
    clear HR
    go_wp2
    go_ret
    exact ⟨by rw [E.out]; rfl, HB1.out⟩
  | true =>
  have hml : m ≤ 401 := by
    have := E1.out
    simp only [okT, Bool.and_eq_true, decide_eq_true_eq] at this
    rw [← HM.out]; exact this.2
  have E := Lib.hid (HR.out.trans (if_pos rfl))
  clear HR
  go_wp2
  go_loopw [3, 11] (fun v i wr => ∃ j : Nat, j ≤ m ∧ i = .int .i64 (j : Int) ∧ Hid (Row1.Owns Value.string wr w.heap.size 9 v ((l.take j).map segTx)) ∧ Hid (Below w.heap.size w wr)) (fun _ i _ => m - (intOf i).toNat)
  case atStart => exact ⟨0, Nat.zero_le _, rfl, Lib.hid (Row1.Owns.nil _ _ _), Lib.hid HB1.out⟩
  case round =>
    obtain ⟨j, hj, rfl, HO, HB⟩ := hrel
    by_cases hlt : j < m
    · obtain ⟨g, o, rfl, hgl, q0, q1, q2⟩ := read (KK.out.on HB.out) j (by rw [HM.out]; exact hlt)
      obtain ⟨x, hx⟩ : ∃ x, l[j]'(by rw [HM.out]; exact hlt) = x := ⟨_, rfl⟩
      rw [hx] at q0 q1 q2
      have hmem : x ∈ l := hx ▸ List.getElem_mem _
      have HX := Lib.hid (okT_each E1.out x hmem)
      have HI := Lib.hid (HV.out x hmem)
      have HS : Hid ((l.take (j + 1)).map segTx = (l.take j).map segTx ++ [segTx x]) := Lib.hid (by rw [List.take_succ_eq_append_getElem (by rw [HM.out]; exact hlt), List.map_append, hx]; rfl)
      have HLN : Hid (((l.take j).map segTx).length ≤ 401) := Lib.hid (by simp; omega)
      have hsz := HB.out.size
      clear hx hmem
      have HW : Hid (Below w.heap.size w (wr.alloc (.cells #[.int .i64 x.From, .int .i64 x.To, .int .i64 x.Value] 36))) := Lib.hid (BelowKit.bl_alloc HB.out)
      go_wp2_with fail
      refine (seg_i x _ (ItoaC.tab_below HTB.out HW.out) (names_below HNM.out HW.out) HX.out HI.out).mono ?_
      rintro e w2 ⟨rfl, hb2⟩
      have HO2 := Lib.hid ((HO.out.alloc (.cells #[.int .i64 x.From, .int .i64 x.To, .int .i64 x.Value] 36)).on hb2)
      have HB2 := Lib.hid (HW.out.trans (hb2.mono HW.out.size))
      generalize segTx x = T at HS HO2
      clear hb2 HO HB HW HX HI q0 q1 q2 hsz hgl
      go_wp2_with (at_builtin; refine Row1.wpList_append1 str_t Row1.one_string _ (o := ⟨some 19, _, _, _, _, _⟩) rfl (.tmp 15) (.tmp 18) rfl w.heap.size u3 _ rfl (HO2.out.alloc _) w2.heap.size 1 1 [T] rfl rfl (heap_alloc_new w2 _) (by have := HLN.out; simp only [List.length_singleton]; omega) (by have := HB2.out.size; simp; omega) ?_; intro v3 w3 ho3 hg3; have HO3 := Lib.hid ho3; have HB3 := Lib.hid ((BelowKit.bl_alloc HB2.out).trans ((HO2.out.alloc (.cells #[.string T] 9)).grown hg3 (Nat.le_refl _) (by have := HB2.out.size; simp; omega))); clear ho3 hg3 HO2 HB2)
      go_roundw
      case rel => exact ⟨j + 1, by omega, by go_num, Lib.hid (by rw [HS.out]; exact HO3.out), HB3⟩
      case measure => simp [intOf]; omega
    · obtain rfl : j = m := by omega
      have e1 : (l.take j).map segTx = l.map segTx := by rw [List.take_of_length_le (by rw [HM.out]; exact Nat.le_refl _)]
      have HJ := Lib.hid (join_c wr w.heap.size u3 _ HO.out (by simp; omega) (by rw [e1, join_acc, HM.out]; have := acc_len HV.out j (by rw [HM.out]; exact Nat.le_refl _); omega))
      rw [e1, join_acc, HM.out] at HJ
      clear e1 HO
      go_wp2_with fail
      refine HJ.out.mono ?_
      rintro e w2 ⟨rfl, hb2⟩
      have HB2 := Lib.hid (HB.out.trans (hb2.mono HB.out.size))
      clear hb2 HJ
      go_wp2
      go_ret
      exact ⟨by rw [E.out]; rfl, HB2.out⟩
end Go.Proofs.YtggnkjnpiagdpaaDoor.LineTxI
