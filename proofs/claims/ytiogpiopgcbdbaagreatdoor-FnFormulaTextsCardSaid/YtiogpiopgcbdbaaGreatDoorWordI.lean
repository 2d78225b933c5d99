/- Contract of the program's wordOf. -/
import Derived.Test.YtiogpiopgcbdbaaGreatDoorRows
import Derived.Test.YtiogpiopgcbdbaaGreatDoorKindsI
import Derived.Test.YtiogpiopgcbdbaaGreatDoorFracTxI
import Derived.Test.YtiogpiopgcbdbaaGreatDoorNine
import Derived.Test.YtiogpiopgcbdbaaGreatDoorStepI
import Derived.Deep.RegionLaw
namespace Go.Proofs.YtiogpiopgcbdbaaGreatDoor.WordI
open Go.RowKit TNode NodeMath SizeM FracTxM FracTxS OpsM NumMath MapM KindsI Go.Maps
set_option maxRecDepth 100000 in
theorem inv_s {v : Value} {l : List UInt8} {ps : List MemPlace} (h : (plainElem Tryz.prog 9) v = some (vS l, ps)) : v = .string (str l) := by
  unfold plainElem at h
  rw [Tryz.underlying9] at h
  cases v with
  | string s =>
    simp only [] at h
    split at h
    · have h1 := congrArg Prod.fst (Option.some.inj h)
      simp only [DataW.lit.injEq, Lit.string.injEq] at h1
      rw [← h1]
      congr 1
    · cases h
  | _ => cases h
theorem look {w : World} {b : Nat} (h : OwnW w b 7 Dw) (k : Int) (hk : 3 ≤ k ∧ k ≤ 9) : (Instr.lookup 85 (.map (some b)) (.int .i64 k) false).run Tryz.prog w = .ok (.string (str (nameW k))) w := by
  obtain ⟨v, ps, hr, hv⟩ := World.ownsMap.lookup h lawI Tryz.underlying85 (zeroS w) (plainElem_string Tryz.underlying9 (by unfold maxLen; decide)) (kIm k hk)
  rw [Dw_at hk] at hv
  rw [inv_s hv] at hr
  exact hr
set_option maxHeartbeats 4000000 in
set_option maxRecDepth 100000 in
theorem word_i (w : World) (x : El) (hk : 1 ≤ x.Kind ∧ x.Kind ≤ 9) (ha : x.Kind = 2 → 0 ≤ x.A ∧ x.A ≤ 7) (htab : ItoaC.Tab w) : Calls Tryz.prog 28 #[fv x] w (IsStr (wordW x) w) := by
  obtain ⟨k, a, b, c, u, d⟩ := x
  simp only [] at hk ha
  show Calls Tryz.prog 28 #[.agg #[.int .i64 k, .int .i64 a, .int .i64 b, .int .i64 c, .int .i64 u, .int .i64 d]] w (IsStr (wordW ⟨k, a, b, c, u, d⟩) w)
  have HT := Lib.hid htab
  by_cases h1 : k = 1
  · subst h1
    have E := Lib.hid (show wordW ⟨1, a, b, c, u, d⟩ = fracT u d from rfl)
    clear hk ha htab
    go_enter Tryz.func28, Tryz.ntmps28
    go_wp2_with fail
    refine (FracTxI.format_i u d _ (ItoaC.tab_below HT.out (by (repeat (first | exact Below.refl _ _ | apply BelowKit.bl_alloc | apply BelowKit.bl_drewN | apply BelowKit.bl_drew | (refine BelowKit.bl_set ?_ _ ?_; rotate_left; (first | omega | (simp; omega) | simp)) | (refine BelowKit.bl_trans ?_ (‹Hid (Below _ _ _)›).out)))))).mono ?_
    rintro e w1 ⟨rfl, hb⟩
    have HB := Lib.hid (BelowKit.bl_trans (BelowKit.bl_alloc (Below.refl _ _)) hb)
    clear hb
    go_wp2
    go_ret
    rw [E.out]
    exact ⟨rfl, HB.out⟩
  by_cases h2 : k = 2
  · subst h2
    have E := Lib.hid (show wordW ⟨2, a, b, c, u, d⟩ = 118 :: fmt a from rfl)
    have hab := ha rfl
    obtain ⟨t, ht⟩ : ∃ t, str (fmt a) = t := ⟨_, rfl⟩
    have HTT := Lib.hid ht
    have s1 : t.size ≤ 20 := by rw [← ht, str_size]; exact (NumBack.fmt_len a (by omega) (by omega)).1
    have L1 : ¬ 9223372036854775807 < 1 + t.size := by omega
    have HI := Lib.hid (fun W hW => ItoaC.impl_fmt a W (by omega) (by omega) hW)
    rw [show (⟨(fmt a).toArray⟩ : ByteArray) = t from ht] at HI
    clear hk ha htab ht hab s1 h1
    go_enter Tryz.func28, Tryz.ntmps28
    go_wp2_with fail
    refine (HI.out _ (ItoaC.tab_below HT.out (by (repeat (first | exact Below.refl _ _ | apply BelowKit.bl_alloc | apply BelowKit.bl_drewN | apply BelowKit.bl_drew | (refine BelowKit.bl_set ?_ _ ?_; rotate_left; (first | omega | (simp; omega) | simp)) | (refine BelowKit.bl_trans ?_ (‹Hid (Below _ _ _)›).out)))))).mono ?_
    rintro e w1 ⟨rfl, hb⟩
    have HB := Lib.hid (BelowKit.bl_trans (BelowKit.bl_alloc (Below.refl _ _)) hb)
    clear hb
    go_wp2
    go_ret
    rw [E.out]
    refine ⟨str_eq ?_, HB.out⟩
    rw [← HTT.out]
    apply ByteArray.ext
    simp [str]
  have hk3 : 3 ≤ k ∧ k ≤ 9 := by omega
  have E := Lib.hid (show wordW ⟨k, a, b, c, u, d⟩ = nameW k by unfold wordW; simp only []; rw [if_neg (by omega)])
  have d1 : (k == 1) = false := beq_eq_false_iff_ne.2 h1
  have d2 : (k == 2) = false := beq_eq_false_iff_ne.2 h2
  have HK := Lib.hid hk3
  clear hk ha htab h1 h2 hk3 HT
  go_enter Tryz.func28, Tryz.ntmps28
  go_wp2_with fail
  have hbx : Below w.heap.size w (w.alloc (.cells #[.int .i64 k, .int .i64 a, .int .i64 b, .int .i64 c, .int .i64 u, .int .i64 d] 46)) := by (repeat (first | exact Below.refl _ _ | apply BelowKit.bl_alloc | apply BelowKit.bl_drewN | apply BelowKit.bl_drew | (refine BelowKit.bl_set ?_ _ ?_; rotate_left; (first | omega | (simp; omega) | simp)) | (refine BelowKit.bl_trans ?_ (‹Hid (Below _ _ _)›).out)))
  have x0 : (w.alloc (.cells #[.int .i64 k, .int .i64 a, .int .i64 b, .int .i64 c, .int .i64 u, .int .i64 d] 46)).cell? ⟨w.heap.size, 0, none⟩ = some (.int .i64 k) := by simp [go_sem]
  have xz : w.heap.size < (w.alloc (.cells #[.int .i64 k, .int .i64 a, .int .i64 b, .int .i64 c, .int .i64 u, .int .i64 d] 46)).heap.size := by simp
  obtain ⟨W, hW⟩ : ∃ W, (w.alloc (.cells #[.int .i64 k, .int .i64 a, .int .i64 b, .int .i64 c, .int .i64 u, .int .i64 d] 46)) = W := ⟨_, rfl⟩
  rw [hW] at hbx x0 xz ⊢
  have HBX := Lib.hid hbx
  clear hW hbx
  have x0d : W.drew.cell? ⟨w.heap.size, 0, none⟩ = some (.int .i64 k) := x0
  go_region_law ((refine Fresh.step_call #[] Tryz.func31 (by kernel_rfl) (by kernel_rfl) rfl ?_; refine (words_map _).mono ?_; rintro e w1 ⟨b, rfl, hbb, how, hb⟩; refine ⟨_, rfl, ?_⟩; have hl := look how k HK.out; have y0 := ((BelowKit.bcell hb).1 _ _ xz).trans x0d; have HB := Lib.hid (BelowKit.bl_trans HBX.out (BelowKit.bl_trans (BelowKit.bl_drew (Below.refl _ _)) hb)); clear hbb how hb))
  all_goals
    go_wp2
    go_ret
    exact ⟨by rw [E.out]; rfl, HB.out⟩
end Go.Proofs.YtiogpiopgcbdbaaGreatDoor.WordI
