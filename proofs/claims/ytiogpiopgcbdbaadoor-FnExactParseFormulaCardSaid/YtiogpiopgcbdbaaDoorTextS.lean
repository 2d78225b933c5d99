/- Contracts of the model's l09Name, l09Text and FormatFormula. -/
import Derived.Test.YtiogpiopgcbdbaaDoorRows
import Derived.Test.YtiogpiopgcbdbaaDoorSizeS
import Derived.Test.YtiogpiopgcbdbaaDoorFracTxS
namespace Go.Proofs.YtiogpiopgcbdbaaDoor.TextS
open Go.RowKit RowN TNode NodeMath SizeM FracTxM FracTxS NumMath NumBack
set_option maxHeartbeats 2000000 in
theorem name_s (k : Int) (w : World) (h : 3 ≤ k ∧ k ≤ 9) : Calls Tryd.prog 56 #[.int .i64 k] w (IsStr (nameW k) w) := by
  have hk : k = 3 ∨ k = 4 ∨ k = 5 ∨ k = 6 ∨ k = 7 ∨ k = 8 ∨ k = 9 := by omega
  clear h
  rcases hk with rfl | rfl | rfl | rfl | rfl | rfl | rfl
  all_goals
    go_enter Tryd.func56, Tryd.ntmps56
    go_wp2
    go_ret
    exact ⟨rfl, by (repeat (first | exact Below.refl _ _ | apply BelowKit.bl_alloc | apply BelowKit.bl_drewN | apply BelowKit.bl_drew | (refine BelowKit.bl_set ?_ _ ?_; rotate_left; (first | omega | (simp; omega) | simp)) | (refine BelowKit.bl_trans ?_ (‹Hid (Below _ _ _)›).out)))⟩
theorem nameG {w0 : World} {X : Grown.G w0} {k : Int} {t : ByteArray} (hk : 3 ≤ k ∧ k ≤ 9) (h : str (nameW k) = t) : Calls Tryd.prog 56 #[.int .i64 k] X.w (fun e w'' => e = .returned (.string t) ∧ ∃ Y : Grown.G w0, w'' = Y.w) :=
  Grown.grown_of (by rw [← h]; exact name_s k X.w hk)
theorem textG {w0 : World} {X : Grown.G w0} {f : FuncId} {args : Array Value} {l : List UInt8} {t : ByteArray} (h : str l = t) (hc : Calls Tryd.prog f args X.w (IsStr l X.w)) : Calls Tryd.prog f args X.w (fun e w'' => e = .returned (.string t) ∧ ∃ Y : Grown.G w0, w'' = Y.w) :=
  Grown.grown_of (by rw [← h]; exact hc)
set_option maxHeartbeats 8000000 in
theorem text_s (l : List El) (p : Option Addr) (m cap : Nat) (hl : OkF l) (hm : l.length = m) : ∀ (f k : Nat), k < f → k < m → (words l k).length ≤ 24 → ∀ w, Reads fc 6 w p l →
    Calls Tryd.prog 32 #[.slice p m cap, .int .i64 (k : Int)] w (IsStr (joinW (words l k)) w) := by
  intro f
  induction f with
  | zero => intro k h; omega
  | succ f IH =>
    intro k hf hk h24 w hr
    have ih := fun (i : Nat) (hi : i < k) (h : (words l i).length ≤ 24) (W : World) (hW : Reads fc 6 W p l) => IH i (by omega) (by omega) h W hW
    clear IH
    have HIH := Lib.hid ih
    have KK := Lib.hid hr
    have hkl : k < l.length := by omega
    obtain ⟨g, o, rfl, hgl, q0, q1, q2, q3, q4, q5⟩ := read hr k hkl
    have HOK := Lib.hid (ok_at hl hkl)
    have HON := Lib.hid (okN_of (hl.2 k hkl))
    have HLF := Lib.hid (fun hs => words_leaf (l := l) hkl hs)
    have HTW := Lib.hid (fun hs h9 => words_two hl hkl hs h9)
    have HPK := Lib.hid (fun h9 => words_pick hl hkl h9)
    have HPO := Lib.hid (fun i (h : i < l.length) => words_pos (l := l) h)
    have HTL := Lib.hid (fun i (h : (words l i).length ≤ 24) => text_len hl h)
    have H24 := Lib.hid h24
    have HKL := Lib.hid hkl
    have bb1 : (0 : Int) ≤ (k : Int) := by omega
    have bb2 : (k : Int) < (m : Int) := by omega
    generalize l[k]'hkl = x at q0 q1 q2 q3 q4 q5 HOK HON HLF HTW HPK
    obtain ⟨kd, a, b_, c_, u, d⟩ := x
    simp only [] at q0 q1 q2 q3 q4 q5
    clear ih hr h24 hf hkl
    by_cases h1 : kd = 1
    · subst h1
      have E := Lib.hid (show joinW (words l k) = fracT u d by rw [HLF.out (by show (1 : Int) ≤ 2; omega)]; rfl)
      rw [E.out]
      clear HLF HTW HPK HOK HON HIH H24 hk
      go_enter Tryd.func32, Tryd.ntmps32
      go_wp2_with fail
      refine (format_s u d _).mono ?_
      rintro e w1 ⟨rfl, hb⟩
      have HB := Lib.hid (BelowKit.bl_trans (BelowKit.bl_alloc (Below.refl _ _)) hb)
      clear hb
      go_wp2
      go_ret
      exact ⟨rfl, HB.out⟩
    by_cases h2 : kd = 2
    · subst h2
      have E := Lib.hid (show joinW (words l k) = 118 :: fmt a by rw [HLF.out (by show (2 : Int) ≤ 2; omega)]; rfl)
      rw [E.out]
      have ha : 0 ≤ a ∧ a ≤ 7 := by
        rcases HON.out with h | ⟨_, _, h | h | h⟩
        · have := h.1; simp only [] at this; omega
        · exact h.2.1
        · have := h.1; simp only [] at this; omega
        · have := h.1; simp only [] at this; omega
      obtain ⟨t, ht⟩ : ∃ t, str (fmt a) = t := ⟨_, rfl⟩
      have s1 : t.size ≤ 20 := by rw [← ht, str_size]; exact (fmt_len a (by omega) (by omega)).1
      have L1 : ¬ 9223372036854775807 < 1 + t.size := by omega
      have HT := Lib.hid ht
      have HF := Lib.hid (fun W => NumFmt.fmt_any a W (by omega) (by omega))
      clear HLF HTW HPK HOK HON HIH H24 hk ht h1 ha
      go_enter Tryd.func32, Tryd.ntmps32
      go_wp2_with fail
      refine (HF.out _).mono ?_
      rintro e w1 ⟨rfl, hb⟩
      rw [show (⟨(fmt a).toArray⟩ : ByteArray) = t from HT.out]
      have HB := Lib.hid (BelowKit.bl_trans (BelowKit.bl_alloc (Below.refl _ _)) hb)
      clear hb
      go_wp2
      go_ret
      refine ⟨str_eq ?_, HB.out⟩
      rw [← HT.out]
      apply ByteArray.ext
      simp [str]
    have hkd : 3 ≤ kd ∧ kd ≤ 9 := by have := HOK.out.1; simp only [] at this; omega
    obtain ⟨ha, hb_⟩ := HOK.out.2.1 (by show 3 ≤ kd; omega)
    simp only [] at ha hb_
    obtain ⟨ia, rfl⟩ : ∃ i : Nat, a = (i : Int) := ⟨a.toNat, by omega⟩
    obtain ⟨ib, rfl⟩ : ∃ i : Nat, b_ = (i : Int) := ⟨b_.toNat, by omega⟩
    rw [Int.toNat_natCast] at ha hb_
    have pa := HPO.out ia (by have := HKL.out; omega)
    have pb := HPO.out ib (by have := HKL.out; omega)
    obtain ⟨tn, htn⟩ : ∃ t, str (nameW kd) = t := ⟨_, rfl⟩
    obtain ⟨ta, hta⟩ : ∃ t, str (joinW (words l ia)) = t := ⟨_, rfl⟩
    obtain ⟨tb, htb⟩ : ∃ t, str (joinW (words l ib)) = t := ⟨_, rfl⟩
    have HTN := Lib.hid htn
    have HTA := Lib.hid hta
    have HTB := Lib.hid htb
    have HKD := Lib.hid hkd
    have sn : tn.size ≤ 4 := by rw [← htn, str_size]; exact name_len kd
    have dk1 : (kd == 1) = false := beq_eq_false_iff_ne.2 h1
    have dk2 : (kd == 2) = false := beq_eq_false_iff_ne.2 h2
    have HNE : Hid (∀ i, 1 ≤ (words l i).length → words l i ≠ []) := Lib.hid (fun i h e => by rw [e] at h; simp at h)
    by_cases h9 : kd = 9
    case neg =>
      have E0 := HTW.out (by show ¬ kd ≤ 2; omega) h9
      simp only [Int.toNat_natCast] at E0
      have hl0 := H24.out
      rw [E0, List.length_cons, List.length_append] at hl0
      have la := HTL.out ia (by omega)
      have lb := HTL.out ib (by omega)
      have sa : ta.size ≤ 624 := by rw [← hta, str_size]; exact la
      have sb : tb.size ≤ 624 := by rw [← htb, str_size]; exact lb
      have E : Hid (joinW (words l k) = nameW kd ++ 32 :: (joinW (words l ia) ++ 32 :: joinW (words l ib))) := Lib.hid (by
        rw [E0, join_cons (by intro e; rw [List.append_eq_nil_iff] at e; exact HNE.out _ pa e.1), join_app (HNE.out _ pa) (HNE.out _ pb)])
      have HA := Lib.hid (fun (W : World) (hW : Reads fc 6 W (some ⟨g, o, none⟩) l) => HIH.out ia (by omega) (by omega) W hW)
      have HBB := Lib.hid (fun (W : World) (hW : Reads fc 6 W (some ⟨g, o, none⟩) l) => HIH.out ib (by omega) (by omega) W hW)
      have L1 : ¬ 9223372036854775807 < tn.size + 1 := by omega
      have L2 : ¬ 9223372036854775807 < tn.size + 1 + ta.size := by omega
      have L3 : ¬ 9223372036854775807 < tn.size + 1 + ta.size + 1 := by omega
      have L4 : ¬ 9223372036854775807 < tn.size + 1 + ta.size + 1 + tb.size := by omega
      have d9 : (kd == 9) = false := beq_eq_false_iff_ne.2 h9
      rw [E.out]
      clear HLF HTW HPK HOK HON HIH H24 hk HPO HTL HNE E0 hl0 la lb sa sb sn pa pb htn hta htb ha hb_ hkd h1 h2 h9
      go_enter Tryd.func32, Tryd.ntmps32
      go_wp2_with fail
      have n0 : (w.alloc (.cells #[.int .i64 kd, .int .i64 (ia : Int), .int .i64 (ib : Int), .int .i64 c_, .int .i64 u, .int .i64 d] 59)).cell? ⟨w.heap.size, 0, none⟩ = some (.int .i64 kd) := by simp [go_sem]
      have n1 : (w.alloc (.cells #[.int .i64 kd, .int .i64 (ia : Int), .int .i64 (ib : Int), .int .i64 c_, .int .i64 u, .int .i64 d] 59)).cell? ⟨w.heap.size, 1, none⟩ = some (.int .i64 (ia : Int)) := by simp [go_sem]
      have n2 : (w.alloc (.cells #[.int .i64 kd, .int .i64 (ia : Int), .int .i64 (ib : Int), .int .i64 c_, .int .i64 u, .int .i64 d] 59)).cell? ⟨w.heap.size, 2, none⟩ = some (.int .i64 (ib : Int)) := by simp [go_sem]
      have nz : w.heap.size < (w.alloc (.cells #[.int .i64 kd, .int .i64 (ia : Int), .int .i64 (ib : Int), .int .i64 c_, .int .i64 u, .int .i64 d] 59)).heap.size := by simp
      have hbA : Below w.heap.size w (w.alloc (.cells #[.int .i64 kd, .int .i64 (ia : Int), .int .i64 (ib : Int), .int .i64 c_, .int .i64 u, .int .i64 d] 59)) := by (repeat (first | exact Below.refl _ _ | apply BelowKit.bl_alloc | apply BelowKit.bl_drewN | apply BelowKit.bl_drew | (refine BelowKit.bl_set ?_ _ ?_; rotate_left; (first | omega | (simp; omega) | simp)) | (refine BelowKit.bl_trans ?_ (‹Hid (Below _ _ _)›).out)))
      obtain ⟨W0, hW0⟩ : ∃ W, (w.alloc (.cells #[.int .i64 kd, .int .i64 (ia : Int), .int .i64 (ib : Int), .int .i64 c_, .int .i64 u, .int .i64 d] 59)) = W := ⟨_, rfl⟩
      rw [hW0] at n0 n1 n2 nz hbA ⊢
      have HBA := Lib.hid hbA
      have KW := Lib.hid (KK.out.on hbA)
      clear hW0 hbA
      have g0 := Grown.G.keep n0 nz
      have g1 := Grown.G.keep n1 nz
      have g2 := Grown.G.keep n2 nz
      refine Grown.wp_region_grown (by kernel_rfl) (by kernel_rfl) ?_
      repeat (go_big_quiet_step (first | (go_at_call 56; with_reducible exact nameG HKD.out HTN.out) | (go_at_call 32; with_reducible first | exact textG HTA.out (HA.out _ (KW.out.on (Grown.G.bel _))) | exact textG HTB.out (HBB.out _ (KW.out.on (Grown.G.bel _))))))
      refine wpQuiet_nil ?_
      rintro w5 ⟨X, rfl⟩
      have m0 := g0 X
      have zX : w.heap.size < X.w.heap.size := Nat.lt_of_lt_of_le nz X.bel.size
      have HX := Lib.hid (BelowKit.bl_trans HBA.out X.bel)
      obtain ⟨W5, hW5⟩ : ∃ W, X.w = W := ⟨_, rfl⟩
      rw [hW5] at HX m0 zX ⊢
      clear g0 g1 g2 n0 n1 n2 nz hW5 HBA KW HA HBB
      go_wp2
      go_ret
      refine ⟨str_eq ?_, HX.out⟩
      rw [← HTN.out, ← HTA.out, ← HTB.out]
      apply ByteArray.ext
      simp [str]
    case pos =>
      subst h9
      have hc_ := HOK.out.2.2 rfl
      simp only [] at hc_
      obtain ⟨ic, rfl⟩ : ∃ i : Nat, c_ = (i : Int) := ⟨c_.toNat, by omega⟩
      rw [Int.toNat_natCast] at hc_
      have pc := HPO.out ic (by have := HKL.out; omega)
      obtain ⟨tc, htc⟩ : ∃ t, str (joinW (words l ic)) = t := ⟨_, rfl⟩
      have HTC := Lib.hid htc
      have E0 := HPK.out rfl
      simp only [Int.toNat_natCast] at E0
      have hl0 := H24.out
      rw [E0, List.length_cons, List.length_append, List.length_append] at hl0
      have la := HTL.out ia (by omega)
      have lb := HTL.out ib (by omega)
      have lc := HTL.out ic (by omega)
      have sa : ta.size ≤ 624 := by rw [← hta, str_size]; exact la
      have sb : tb.size ≤ 624 := by rw [← htb, str_size]; exact lb
      have sc : tc.size ≤ 624 := by rw [← htc, str_size]; exact lc
      have E : Hid (joinW (words l k) = nameW 9 ++ 32 :: ((joinW (words l ia) ++ 32 :: joinW (words l ib)) ++ 32 :: joinW (words l ic))) := Lib.hid (by
        have nab : words l ia ++ words l ib ≠ [] := by intro e; rw [List.append_eq_nil_iff] at e; exact HNE.out _ pa e.1
        rw [E0, join_cons (by intro e; rw [List.append_eq_nil_iff] at e; exact nab e.1), join_app nab (HNE.out _ pc), join_app (HNE.out _ pa) (HNE.out _ pb)])
      have HA := Lib.hid (fun (W : World) (hW : Reads fc 6 W (some ⟨g, o, none⟩) l) => HIH.out ia (by omega) (by omega) W hW)
      have HBB := Lib.hid (fun (W : World) (hW : Reads fc 6 W (some ⟨g, o, none⟩) l) => HIH.out ib (by omega) (by omega) W hW)
      have HCC := Lib.hid (fun (W : World) (hW : Reads fc 6 W (some ⟨g, o, none⟩) l) => HIH.out ic (by omega) (by omega) W hW)
      have L5 : ¬ 9223372036854775807 < tn.size + 1 + ta.size + 1 + tb.size + 1 := by omega
      have L6 : ¬ 9223372036854775807 < tn.size + 1 + ta.size + 1 + tb.size + 1 + tc.size := by omega
      have L1 : ¬ 9223372036854775807 < tn.size + 1 := by omega
      have L2 : ¬ 9223372036854775807 < tn.size + 1 + ta.size := by omega
      have L3 : ¬ 9223372036854775807 < tn.size + 1 + ta.size + 1 := by omega
      have L4 : ¬ 9223372036854775807 < tn.size + 1 + ta.size + 1 + tb.size := by omega
      rw [E.out]
      clear HLF HTW HPK HOK HON HIH H24 hk HPO HTL HNE E0 hl0 la lb lc sa sb sc sn pa pb pc htn hta htb htc ha hb_ hc_ hkd h1 h2 dk1 dk2
      go_enter Tryd.func32, Tryd.ntmps32
      go_wp2_with fail
      have n0 : (w.alloc (.cells #[.int .i64 9, .int .i64 (ia : Int), .int .i64 (ib : Int), .int .i64 (ic : Int), .int .i64 u, .int .i64 d] 59)).cell? ⟨w.heap.size, 0, none⟩ = some (.int .i64 9) := by simp [go_sem]
      have n1 : (w.alloc (.cells #[.int .i64 9, .int .i64 (ia : Int), .int .i64 (ib : Int), .int .i64 (ic : Int), .int .i64 u, .int .i64 d] 59)).cell? ⟨w.heap.size, 1, none⟩ = some (.int .i64 (ia : Int)) := by simp [go_sem]
      have n2 : (w.alloc (.cells #[.int .i64 9, .int .i64 (ia : Int), .int .i64 (ib : Int), .int .i64 (ic : Int), .int .i64 u, .int .i64 d] 59)).cell? ⟨w.heap.size, 2, none⟩ = some (.int .i64 (ib : Int)) := by simp [go_sem]
      have n3 : (w.alloc (.cells #[.int .i64 9, .int .i64 (ia : Int), .int .i64 (ib : Int), .int .i64 (ic : Int), .int .i64 u, .int .i64 d] 59)).cell? ⟨w.heap.size, 3, none⟩ = some (.int .i64 (ic : Int)) := by simp [go_sem]
      have nz : w.heap.size < (w.alloc (.cells #[.int .i64 9, .int .i64 (ia : Int), .int .i64 (ib : Int), .int .i64 (ic : Int), .int .i64 u, .int .i64 d] 59)).heap.size := by simp
      have hbA : Below w.heap.size w (w.alloc (.cells #[.int .i64 9, .int .i64 (ia : Int), .int .i64 (ib : Int), .int .i64 (ic : Int), .int .i64 u, .int .i64 d] 59)) := by (repeat (first | exact Below.refl _ _ | apply BelowKit.bl_alloc | apply BelowKit.bl_drewN | apply BelowKit.bl_drew | (refine BelowKit.bl_set ?_ _ ?_; rotate_left; (first | omega | (simp; omega) | simp)) | (refine BelowKit.bl_trans ?_ (‹Hid (Below _ _ _)›).out)))
      obtain ⟨W0, hW0⟩ : ∃ W, (w.alloc (.cells #[.int .i64 9, .int .i64 (ia : Int), .int .i64 (ib : Int), .int .i64 (ic : Int), .int .i64 u, .int .i64 d] 59)) = W := ⟨_, rfl⟩
      rw [hW0] at n0 n1 n2 n3 nz hbA ⊢
      have HBA := Lib.hid hbA
      have KW := Lib.hid (KK.out.on hbA)
      clear hW0 hbA
      have g0 := Grown.G.keep n0 nz
      have g1 := Grown.G.keep n1 nz
      have g2 := Grown.G.keep n2 nz
      have g3 := Grown.G.keep n3 nz
      refine Grown.wp_region_grown (by kernel_rfl) (by kernel_rfl) ?_
      repeat (go_big_quiet_step (first | (go_at_call 56; with_reducible exact nameG HKD.out HTN.out) | (go_at_call 32; with_reducible first | exact textG HTA.out (HA.out _ (KW.out.on (Grown.G.bel _))) | exact textG HTB.out (HBB.out _ (KW.out.on (Grown.G.bel _))))))
      refine wpQuiet_nil ?_
      rintro w5 ⟨X, rfl⟩
      have m0 := g0 X
      have m3 := g3 X
      have KX := Lib.hid (KW.out.on X.bel)
      have zX : w.heap.size < X.w.heap.size := Nat.lt_of_lt_of_le nz X.bel.size
      have HX := Lib.hid (BelowKit.bl_trans HBA.out X.bel)
      obtain ⟨W5, hW5⟩ : ∃ W, X.w = W := ⟨_, rfl⟩
      rw [hW5] at HX m0 m3 zX KX ⊢
      clear g0 g1 g2 g3 n0 n1 n2 n3 nz hW5 HBA KW HA HBB
      go_wp2_with fail
      refine (HCC.out _ KX.out).mono ?_
      rintro e w6 ⟨rfl, hb⟩
      rw [HTC.out]
      have HX := Lib.hid (BelowKit.bl_trans HX.out hb)
      clear hb m0 m3
      go_wp2
      go_ret
      refine ⟨str_eq ?_, HX.out⟩
      rw [← HTN.out, ← HTA.out, ← HTB.out, ← HTC.out]
      apply ByteArray.ext
      simp [str]
set_option maxHeartbeats 2000000 in
theorem formula_s (w : World) (p : Option Addr) (m cap : Nat) (l : List El) (hm : l.length = m) (hs : m ≤ 1099511627776) (h : Reads fc 6 w p l) :
    Calls Tryd.prog 13 #[.slice p m cap] w (IsStr (textF l) w) := by
  have KK := Lib.hid h
  have HM := Lib.hid hm
  obtain ⟨b1, e1⟩ : ∃ b, okF l = b := ⟨_, rfl⟩
  obtain ⟨z, hz⟩ : ∃ z, sizeF l = z := ⟨_, rfl⟩
  have HZ := Lib.hid hz
  clear h hm
  go_enter Tryd.func13, Tryd.ntmps13
  go_wp2_with fail
  refine (SizeS.size_s _ p m cap l HM.out hs KK.out).mono ?_
  rintro e w1 ⟨rfl, hb⟩
  rw [HZ.out]
  have HB1 := Lib.hid hb
  clear hb
  cases b1 with
  | false =>
    have E := Lib.hid (show textF l = [] by unfold textF; rw [if_neg (by rw [e1]; simp)])
    have h0 : z = 0 := by rw [← hz]; unfold sizeF; rw [e1, if_neg Bool.false_ne_true]
    subst h0
    clear e1 hz
    go_wp2
    go_ret
    rw [E.out]
    exact ⟨rfl, HB1.out⟩
  | true =>
  have HF := Lib.hid (okF_of e1)
  have hz' : z = sz l (m - 1) := by rw [← hz]; unfold sizeF; rw [e1, if_pos rfl, HM.out]
  have hm1 : 1 ≤ m := by have := HF.out.1.1; have := HM.out; omega
  have hp := words_pos (l := l) (k := m - 1) (by rw [HM.out]; omega)
  unfold sz at hz'
  have d0 : (z == 0) = false := beq_eq_false_iff_ne.2 (by omega)
  by_cases h24 : (words l (m - 1)).length ≤ 24
  case neg =>
    have E := Lib.hid (show textF l = [] by unfold textF; rw [HM.out, if_neg (fun h => h24 h.2)])
    have d1 : decide ((24 : Int) < z) = true := decide_eq_true (by omega)
    clear e1 hz hz' hp h24
    go_wp2
    go_ret
    rw [E.out]
    exact ⟨rfl, HB1.out⟩
  case pos =>
    have E := Lib.hid (show textF l = joinW (words l (m - 1)) by unfold textF; rw [HM.out, if_pos ⟨e1, h24⟩])
    have d1 : decide ((24 : Int) < z) = false := decide_eq_false (by omega)
    obtain ⟨k0, rfl⟩ : ∃ k, m = k + 1 := ⟨m - 1, by omega⟩
    rw [Nat.add_sub_cancel] at E h24
    have HC := Lib.hid (fun W hW => text_s l p (k0 + 1) cap HF.out HM.out (k0 + 1) k0 (by omega) (by omega) h24 W hW)
    obtain ⟨M, hMM⟩ : ∃ M, k0 + 1 = M := ⟨_, rfl⟩
    rw [hMM] at HC ⊢
    have W1 : IntKind.i64.wrap ((M : Int) - 1) = (k0 : Int) := by rw [IntWalk.i64_in _ (by omega)]; omega
    clear e1 hz hz' hp h24 hMM hm1
    go_wp2_with fail
    refine (HC.out _ (KK.out.on HB1.out)).mono ?_
    rintro e w2 ⟨rfl, hb⟩
    have HB2 := Lib.hid (BelowKit.bl_trans HB1.out hb)
    clear hb
    go_wp2
    go_ret
    rw [E.out]
    exact ⟨rfl, HB2.out⟩
end Go.Proofs.YtiogpiopgcbdbaaDoor.TextS
