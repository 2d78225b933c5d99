/- Contracts of the model's l09Sizes and FormulaSize. -/
import Derived.Test.YtiogpiopgcbdbaaRows
import Derived.Test.YtiogpiopgcbdbaaSizeM
import Derived.Test.YtiogpiopgcbdbaaFormS
import Derived.Test.YtiogpiopgcbdbaaKit
import Derived.BigQuiet
namespace Go.Proofs.Ytiogpiopgcbdbaa.SizeS
open Go.RowKit RowN TNode NodeMath SizeM
def fI (n : Int) : List Value := [.int .i64 n]
theorem fwI : Wide fI 1 := ⟨fun _ => rfl, by rintro x v hv; simp only [fI, List.mem_cons, List.not_mem_nil, or_false] at hv; subst hv; rfl, by omega⟩
theorem ftI : ElT Try.prog 30 3 (.int .i64 0) 1 8 := ⟨Try.underlying30, by kernel_rfl, by omega, rfl⟩
theorem own_i {w : World} {B T n cap : Nat} {a : Option Addr} {l : List Int} (h : Owns fI 1 w B T (.slice a n cap) l) (j : Nat) (hj : j < l.length) : ∃ g, a = some ⟨g, 0, none⟩ ∧ B ≤ g ∧ g < w.heap.size ∧ w.cell? ⟨g, j, none⟩ = some (.int .i64 l[j]) := by
  obtain ⟨g, e, hb, hlt, hc⟩ := h.at fwI j hj
  refine ⟨g, e, hb, hlt, ?_⟩
  have := (hc 0 (by omega)).1
  rw [Nat.mul_one, Nat.add_zero] at this
  exact this
theorem newI (w : World) (x : Int) (g : Nat) (hg : w.heap.size = g) : ∀ j u, ([x].flatMap fI)[j]? = some u → (w.alloc (.cells #[.int .i64 x] 3)).cell? ((⟨g, 0, none⟩ : Addr).add j) = some u := by
  subst hg
  exact news_block (T := 3) (heap_alloc_new w _)
set_option maxHeartbeats 8000000 in
theorem sizes_s (w : World) (p : Option Addr) (m cap : Nat) (l : List El) (hm : l.length = m) (hl : OkF l) (h : Reads fc 6 w p l) :
    Calls Try.prog 10 #[.slice p m cap] w (fun e w' => ∃ a c, e = .returned (.slice a m c) ∧ Owns fI 1 w' w.heap.size 3 (.slice a m c) (sizeTo l m) ∧ Below w.heap.size w w') := by
  have KK := Lib.hid h
  have HM := Lib.hid hm
  have HL := Lib.hid hl
  have hm30 : m ≤ 30 := by have := hl.1.2; omega
  clear h hm hl
  go_enter Try.func10, Try.ntmps10
  go_wp2
  go_loopw [3, 4] (fun v i wr => ∃ (j : Nat), j ≤ m ∧ i = .int .i64 (j : Int) ∧ Hid (Owns fI 1 wr w.heap.size 3 v (sizeTo l j)) ∧ Hid (Below w.heap.size w wr)) (fun _ i _ => m - (intOf i).toNat)
  case atStart => exact ⟨0, Nat.zero_le _, rfl, Lib.hid (Owns.made w _ _ (Nat.le_refl _)), Lib.hid (by (repeat (first | exact Below.refl _ _ | apply BelowKit.bl_alloc | apply BelowKit.bl_drewN | apply BelowKit.bl_drew | (refine BelowKit.bl_set ?_ _ ?_; rotate_left; (first | omega | (simp; omega) | simp)) | (refine BelowKit.bl_trans ?_ (‹Hid (Below _ _ _)›).out))))⟩
  case round =>
    obtain ⟨j, hj, rfl, HO, HB⟩ := hrel
    obtain ⟨a', c', rfl, _⟩ := HO.out.form fwI
    rw [sizeTo_len] at HO ⊢
    by_cases hlt : j < m
    · have HLT := Lib.hid (show j < l.length by rw [HM.out]; exact hlt)
      obtain ⟨g, o, rfl, hgl, q0, q1, q2, q3, q4, q5⟩ := read (KK.out.on HB.out) j HLT.out
      have HOK := Lib.hid (ok_at HL.out HLT.out)
      have HLF := Lib.hid (fun hs => sz_leaf (l := l) HLT.out hs)
      have HTW := Lib.hid (fun hs h9 => sz_two HL.out HLT.out hs h9)
      have HPK := Lib.hid (fun h9 => sz_pick HL.out HLT.out h9)
      have bb1 : (0 : Int) ≤ (j : Int) := by omega
      have bb2 : (j : Int) < (m : Int) := by omega
      generalize (l[j]'HLT.out) = x at q0 q1 q2 q3 q4 q5 HOK HLF HTW HPK
      obtain ⟨kd, a, b_, c_, u, d⟩ := x
      simp only [] at q0 q1 q2 q3 q4 q5
      have HS := Lib.hid (sizeTo_succ l j)
      by_cases hk : kd ≤ 2
      · have E := Lib.hid (HLF.out hk)
        have d2 : decide ((2 : Int) < kd) = false := decide_eq_false (by omega)
        have d9 : (kd == 9) = false := beq_eq_false_iff_ne.2 (by omega)
        clear HLF HTW HPK HOK
        go_wp2_with (at_builtin; refine wpList_appendN ftI fwI _ (o := ⟨some 48, _, _, _, _, _⟩) rfl (.tmp 44) (.tmp 47) rfl w.heap.size _ (sizeTo l j) rfl ((HO.out.alloc _).alloc _) ⟨wr.heap.size + 1, 0, none⟩ 1 1 [1] (by simp) rfl (newI _ 1 _ (by simp)) ?_ ?_ ?_; (rw [sizeTo_len]; simp; omega); (have := HB.out.size; simp; omega); intro v' w' hown' hg' _; have HB' := Lib.hid ((BelowKit.bl_alloc (BelowKit.bl_alloc HB.out)).grown hg' (by have := HB.out.size; simp; omega) (fun k hk => HO.out.low k hk)); have HO' := Lib.hid hown'; clear hown' hg')
        go_roundw
        case rel => exact ⟨j + 1, by omega, by go_num, by rw [HS.out, E.out]; exact HO', HB'⟩
        case measure => simp [intOf]; omega
      · obtain ⟨ha, hb_⟩ := (HOK.out.2.1) (by show 3 ≤ kd; omega)
        simp only [] at ha hb_
        obtain ⟨ia, rfl⟩ : ∃ i : Nat, a = (i : Int) := ⟨a.toNat, by omega⟩
        obtain ⟨ib, rfl⟩ : ∃ i : Nat, b_ = (i : Int) := ⟨b_.toNat, by omega⟩
        rw [Int.toNat_natCast] at ha hb_
        obtain ⟨gO, e', _, hgO, t0⟩ := own_i HO.out ia (by rw [sizeTo_len]; omega)
        subst e'
        obtain ⟨_, e', _, _, s0⟩ := own_i HO.out ib (by rw [sizeTo_len]; omega)
        cases e'
        rw [sizeTo_get] at t0 s0
        have bx := sz_bd l ia
        have by_ := sz_bd l ib
        have b3 : (0 : Int) ≤ (ia : Int) := by omega
        have b4 : (ia : Int) < (j : Int) := by omega
        have b5 : (0 : Int) ≤ (ib : Int) := by omega
        have b6 : (ib : Int) < (j : Int) := by omega
        have hgO1 : gO < wr.heap.size + 1 := by omega
        have d2 : decide ((2 : Int) < kd) = true := decide_eq_true (by omega)
        by_cases h9 : kd = 9
        case neg =>
          have E0 := Lib.hid (HTW.out hk h9)
          simp only [Int.toNat_natCast] at E0
          generalize sz l ia = x at t0 bx E0
          generalize sz l ib = y at s0 by_ E0
          have W1 : IntKind.i64.wrap (1 + x) = 1 + x := IntWalk.i64_in _ (by omega)
          have W2 : IntKind.i64.wrap (1 + x + y) = 1 + x + y := IntWalk.i64_in _ (by omega)
          have d9 : (kd == 9) = false := beq_eq_false_iff_ne.2 h9
          clear HLF HTW HPK HOK
          by_cases h25 : 1 + x + y ≤ 25
          · have E : Hid (sz l j = 1 + x + y) := Lib.hid (by have := E0.out; omega)
            clear E0
            go_wp2_with fail
            go_quiet (fail)
            have HOQ := Lib.hid (((HO.out.alloc (.cells #[.int .i64 kd, .int .i64 (ia : Int), .int .i64 (ib : Int), .int .i64 c_, .int .i64 u, .int .i64 d] 35)).drewN nq).alloc (.cells #[.int .i64 (1 + x + y)] 3))
            have HBQ := Lib.hid (BelowKit.bl_alloc (o := .cells #[.int .i64 (1 + x + y)] 3) (BelowKit.bl_drewN (n := nq) (BelowKit.bl_alloc (o := (.cells #[.int .i64 kd, .int .i64 (ia : Int), .int .i64 (ib : Int), .int .i64 c_, .int .i64 u, .int .i64 d] 35)) HB.out)))
            go_wp2_with (at_builtin; refine wpList_appendN ftI fwI _ (o := ⟨some 48, _, _, _, _, _⟩) rfl (.tmp 44) (.tmp 47) rfl w.heap.size _ (sizeTo l j) rfl (HOQ.out) ⟨wr.heap.size + 1, 0, none⟩ 1 1 [(1 + x + y)] (by simp) rfl (newI _ (1 + x + y) _ (by simp)) ?_ ?_ ?_; (rw [sizeTo_len]; simp; omega); (have := HB.out.size; simp; omega); intro v' w' hown' hg' _; have HB' := Lib.hid (HBQ.out.grown hg' (by have := HB.out.size; simp; omega) (fun k hk => HO.out.low k hk)); have HO' := Lib.hid hown'; clear hown' hg')
            go_roundw
            case rel => exact ⟨j + 1, by omega, by go_num, by rw [HS.out, E.out]; exact HO', HB'⟩
            case measure => simp [intOf]; omega
          · have E : Hid (sz l j = 25) := Lib.hid (by have := E0.out; omega)
            clear E0
            go_wp2_with fail
            go_quiet (fail)
            have HOQ := Lib.hid (((HO.out.alloc (.cells #[.int .i64 kd, .int .i64 (ia : Int), .int .i64 (ib : Int), .int .i64 c_, .int .i64 u, .int .i64 d] 35)).drewN nq).alloc (.cells #[.int .i64 25] 3))
            have HBQ := Lib.hid (BelowKit.bl_alloc (o := .cells #[.int .i64 25] 3) (BelowKit.bl_drewN (n := nq) (BelowKit.bl_alloc (o := (.cells #[.int .i64 kd, .int .i64 (ia : Int), .int .i64 (ib : Int), .int .i64 c_, .int .i64 u, .int .i64 d] 35)) HB.out)))
            go_wp2_with (at_builtin; refine wpList_appendN ftI fwI _ (o := ⟨some 48, _, _, _, _, _⟩) rfl (.tmp 44) (.tmp 47) rfl w.heap.size _ (sizeTo l j) rfl (HOQ.out) ⟨wr.heap.size + 1, 0, none⟩ 1 1 [25] (by simp) rfl (newI _ 25 _ (by simp)) ?_ ?_ ?_; (rw [sizeTo_len]; simp; omega); (have := HB.out.size; simp; omega); intro v' w' hown' hg' _; have HB' := Lib.hid (HBQ.out.grown hg' (by have := HB.out.size; simp; omega) (fun k hk => HO.out.low k hk)); have HO' := Lib.hid hown'; clear hown' hg')
            go_roundw
            case rel => exact ⟨j + 1, by omega, by go_num, by rw [HS.out, E.out]; exact HO', HB'⟩
            case measure => simp [intOf]; omega
        case pos =>
          subst h9
          have hc := HOK.out.2.2 rfl
          simp only [] at hc
          obtain ⟨ic, rfl⟩ : ∃ i : Nat, c_ = (i : Int) := ⟨c_.toNat, by omega⟩
          rw [Int.toNat_natCast] at hc
          obtain ⟨_, e', _, _, r0⟩ := own_i HO.out ic (by rw [sizeTo_len]; omega)
          cases e'
          rw [sizeTo_get] at r0
          have bz := sz_bd l ic
          have b7 : (0 : Int) ≤ (ic : Int) := by omega
          have b8 : (ic : Int) < (j : Int) := by omega
          have E0 := Lib.hid (HPK.out rfl)
          simp only [Int.toNat_natCast] at E0
          generalize sz l ia = x at t0 bx E0
          generalize sz l ib = y at s0 by_ E0
          generalize sz l ic = z at r0 bz E0
          have W1 : IntKind.i64.wrap (1 + x) = 1 + x := IntWalk.i64_in _ (by omega)
          have W2 : IntKind.i64.wrap (1 + x + y) = 1 + x + y := IntWalk.i64_in _ (by omega)
          have W3 : IntKind.i64.wrap (1 + x + y + z) = 1 + x + y + z := IntWalk.i64_in _ (by omega)
          clear HLF HTW HPK HOK
          by_cases h25 : 1 + x + y + z ≤ 25
          · have E : Hid (sz l j = 1 + x + y + z) := Lib.hid (by have := E0.out; omega)
            clear E0
            go_wp2_with fail
            go_quiet (fail)
            have HOQ := Lib.hid (((HO.out.alloc (.cells #[.int .i64 9, .int .i64 (ia : Int), .int .i64 (ib : Int), .int .i64 (ic : Int), .int .i64 u, .int .i64 d] 35)).drewN nq).alloc (.cells #[.int .i64 (1 + x + y + z)] 3))
            have HBQ := Lib.hid (BelowKit.bl_alloc (o := .cells #[.int .i64 (1 + x + y + z)] 3) (BelowKit.bl_drewN (n := nq) (BelowKit.bl_alloc (o := (.cells #[.int .i64 9, .int .i64 (ia : Int), .int .i64 (ib : Int), .int .i64 (ic : Int), .int .i64 u, .int .i64 d] 35)) HB.out)))
            go_wp2_with (at_builtin; refine wpList_appendN ftI fwI _ (o := ⟨some 48, _, _, _, _, _⟩) rfl (.tmp 44) (.tmp 47) rfl w.heap.size _ (sizeTo l j) rfl (HOQ.out) ⟨wr.heap.size + 1, 0, none⟩ 1 1 [(1 + x + y + z)] (by simp) rfl (newI _ (1 + x + y + z) _ (by simp)) ?_ ?_ ?_; (rw [sizeTo_len]; simp; omega); (have := HB.out.size; simp; omega); intro v' w' hown' hg' _; have HB' := Lib.hid (HBQ.out.grown hg' (by have := HB.out.size; simp; omega) (fun k hk => HO.out.low k hk)); have HO' := Lib.hid hown'; clear hown' hg')
            go_roundw
            case rel => exact ⟨j + 1, by omega, by go_num, by rw [HS.out, E.out]; exact HO', HB'⟩
            case measure => simp [intOf]; omega
          · have E : Hid (sz l j = 25) := Lib.hid (by have := E0.out; omega)
            clear E0
            go_wp2_with fail
            go_quiet (fail)
            have HOQ := Lib.hid (((HO.out.alloc (.cells #[.int .i64 9, .int .i64 (ia : Int), .int .i64 (ib : Int), .int .i64 (ic : Int), .int .i64 u, .int .i64 d] 35)).drewN nq).alloc (.cells #[.int .i64 25] 3))
            have HBQ := Lib.hid (BelowKit.bl_alloc (o := .cells #[.int .i64 25] 3) (BelowKit.bl_drewN (n := nq) (BelowKit.bl_alloc (o := (.cells #[.int .i64 9, .int .i64 (ia : Int), .int .i64 (ib : Int), .int .i64 (ic : Int), .int .i64 u, .int .i64 d] 35)) HB.out)))
            go_wp2_with (at_builtin; refine wpList_appendN ftI fwI _ (o := ⟨some 48, _, _, _, _, _⟩) rfl (.tmp 44) (.tmp 47) rfl w.heap.size _ (sizeTo l j) rfl (HOQ.out) ⟨wr.heap.size + 1, 0, none⟩ 1 1 [25] (by simp) rfl (newI _ 25 _ (by simp)) ?_ ?_ ?_; (rw [sizeTo_len]; simp; omega); (have := HB.out.size; simp; omega); intro v' w' hown' hg' _; have HB' := Lib.hid (HBQ.out.grown hg' (by have := HB.out.size; simp; omega) (fun k hk => HO.out.low k hk)); have HO' := Lib.hid hown'; clear hown' hg')
            go_roundw
            case rel => exact ⟨j + 1, by omega, by go_num, by rw [HS.out, E.out]; exact HO', HB'⟩
            case measure => simp [intOf]; omega
    · obtain rfl : j = m := by omega
      go_wp2
      go_ret
      exact ⟨a', c', rfl, HO.out, HB.out⟩
set_option maxHeartbeats 2000000 in
theorem size_s (w : World) (p : Option Addr) (m cap : Nat) (l : List El) (hm : l.length = m) (hs : m ≤ 1099511627776) (h : Reads fc 6 w p l) :
    Calls Try.prog 5 #[.slice p m cap] w (fun e w' => e = .returned (.int .i64 (sizeF l)) ∧ Below w.heap.size w w') := by
  have KK := Lib.hid h
  have HM := Lib.hid hm
  obtain ⟨b1, e1⟩ : ∃ b, okF l = b := ⟨_, rfl⟩
  have E1 := Lib.hid e1
  clear h hm
  go_enter Try.func5, Try.ntmps5
  go_wp2_with fail
  refine (FormS.form_s _ p m cap l HM.out hs KK.out).mono ?_
  rintro e w1 ⟨rfl, hb⟩
  rw [E1.out]
  have HB1 := Lib.hid hb
  clear hb
  cases b1 with
  | false =>
    have E := Lib.hid (show sizeF l = 0 by unfold sizeF; rw [e1, if_neg Bool.false_ne_true])
    clear e1
    go_wp2
    go_ret
    rw [E.out]
    exact ⟨rfl, HB1.out⟩
  | true =>
  have HF := Lib.hid (okF_of e1)
  have E := Lib.hid (show sizeF l = sz l (m - 1) by unfold sizeF; rw [e1, if_pos rfl, HM.out])
  have hm1 : 1 ≤ m := by have := HF.out.1.1; have := HM.out; omega
  clear e1
  go_wp2_with fail
  refine (sizes_s _ p m cap l HM.out HF.out (KK.out.on HB1.out)).mono ?_
  rintro e w2 ⟨a, c, rfl, ho, hb⟩
  obtain ⟨g, rfl, _, hg, t0⟩ := own_i ho (m - 1) (by rw [sizeTo_len]; omega)
  rw [sizeTo_get] at t0
  have HB2 := Lib.hid (BelowKit.bl_trans HB1.out hb)
  obtain ⟨k0, rfl⟩ : ∃ k, m = k + 1 := ⟨m - 1, by omega⟩
  rw [Nat.add_sub_cancel] at t0 E
  obtain ⟨M, hMM⟩ : ∃ M, k0 + 1 = M := ⟨_, rfl⟩
  rw [hMM]
  have W1 : IntKind.i64.wrap ((M : Int) - 1) = (k0 : Int) := by rw [IntWalk.i64_in _ (by omega)]; omega
  have b0 : (0 : Int) ≤ (k0 : Int) := by omega
  have b00 : (k0 : Int) < (M : Int) := by omega
  clear ho hb hMM hm1
  go_wp2
  go_ret
  rw [E.out]
  exact ⟨rfl, HB2.out⟩
end Go.Proofs.Ytiogpiopgcbdbaa.SizeS
