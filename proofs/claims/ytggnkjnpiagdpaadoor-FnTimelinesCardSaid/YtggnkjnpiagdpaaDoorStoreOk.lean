/- Contracts of both sides' StoreOk. -/
import Derived.Test.YtggnkjnpiagdpaaDoorRows
import Derived.Test.YtggnkjnpiagdpaaDoorFactRow
import Derived.Test.YtggnkjnpiagdpaaDoorFactMath
import Derived.Test.YtggnkjnpiagdpaaDoorBox
import Derived.Test.YtggnkjnpiagdpaaDoorGrown
namespace Go.Proofs.YtggnkjnpiagdpaaDoor.StoreOk
open Go.RowKit RowN Fact FactRow FactMath Box

set_option maxHeartbeats 2000000 in
theorem ok_i (w : World) (p : Option Addr) (m cap : Nat) (l : List Fa) (hm : l.length = m) (hs : m ≤ 1099511627776) (h : ReadsF w p l) :
    Calls Tryd.prog 21 #[.agg #[.slice p m cap]] w (IsBo (okS l) w) := by
  have KK := Lib.hid h
  have HM := Lib.hid hm
  clear h hm
  by_cases hbig : 200 < m
  · rw [okS_no (not_len (by rw [HM.out]; exact hbig))]
    go_enter Tryd.func21, Tryd.ntmps21
    go_wp2
    go_ret
    exact ⟨rfl, by (repeat (first | exact Below.refl _ _ | apply BelowKit.bl_alloc | apply BelowKit.bl_drewN | apply BelowKit.bl_drew | (refine BelowKit.bl_set ?_ _ ?_; rotate_left; (first | omega | (simp; omega) | simp)) | (refine BelowKit.bl_trans ?_ (‹Hid (Below _ _ _)›).out)))⟩
  go_enter Tryd.func21, Tryd.ntmps21
  go_wp2
  go_loopw [3, 13] (fun kv i wr => ∃ j : Nat, j ≤ m ∧ i = .int .i64 (j : Int) ∧ kv = .int .i64 (since l j) ∧ Hid (Pre l j) ∧ Hid (Below (boxed w (.slice p m cap) 26).heap.size (boxed w (.slice p m cap) 26) wr)) (fun _ i _ => m - (intOf i).toNat)
  case atStart => exact ⟨0, Nat.zero_le _, rfl, by rw [since_zero], Lib.hid (Pre.zero l), Lib.hid (Below.refl _ _)⟩
  case round =>
    obtain ⟨j, hj, rfl, rfl, HP, HB⟩ := hrel
    have hc := box_cell HB.out
    have hz := box_size HB.out
    by_cases hlt : j < m
    · have HLT := Lib.hid (show j < l.length by rw [HM.out]; exact hlt)
      obtain ⟨g, o, rfl, hgl, q0, q1, q2, q3, q4⟩ := read5 ((KK.out.on (box_below HB.out))) j HLT.out
      have HX : Hid (∀ b, okF (l[j]'HLT.out) = b → b = false → okS l = false) := Lib.hid (fun b e1 e2 => okS_no (not_ok HLT.out (e1.trans e2)))
      have HY : Hid (okF (l[j]'HLT.out) = true → (l[j]'HLT.out).n < since l j → okS l = false) := Lib.hid (fun e1 e2 => okS_no (not_since HLT.out e1 e2))
      have HZ : Hid (okF (l[j]'HLT.out) = true → since l j ≤ (l[j]'HLT.out).n → Pre l (j + 1) ∧ since l (j + 1) = (l[j]'HLT.out).n) := Lib.hid (fun e1 e2 => ⟨HP.out.succ HLT.out e1 e2, since_succ l j HLT.out⟩)
      generalize (l[j]'HLT.out) = x at q0 q1 q2 q3 q4 HX HY HZ
      obtain ⟨s, hs'⟩ : ∃ s, since l j = s := ⟨_, rfl⟩
      rw [hs'] at HY HZ ⊢
      have b1 : (0 : Int) ≤ (j : Int) := by omega
      have b2 : (j : Int) < (m : Int) := by omega
      have HBA := Lib.hid (BelowKit.bl_alloc (o := .cells #[.int .i64 x.k, .int .i64 x.f, .int .i64 x.t, .int .i64 x.n, .int .i64 x.v] 55) HB.out)
      clear hs' HP
      go_wp2_with fail
      refine (fact_i x _).mono ?_
      rintro e w1 ⟨rfl, hb1⟩
      obtain ⟨hc1, hf1⟩ := BelowKit.bcell hb1
      have c3 : w1.cell? ⟨wr.heap.size, 3, none⟩ = some (.int .i64 x.n) := (hc1 wr.heap.size 3 (by simp)).trans (by simp [go_sem])
      have HB1 := Lib.hid (BelowKit.bl_trans HBA.out hb1)
      have hz1 : wr.heap.size < w1.heap.size := by have := hb1.size; simp at this; omega
      cases hb : okF x with
      | false =>
        have E := HX.out false hb rfl
        clear hc1 hf1 hb1 HX HY HZ
        go_wp2
        go_ret
        rw [E]
        exact ⟨rfl, box_below HB1.out⟩
      | true =>
        by_cases hk : x.n < s
        · have E := HY.out hb hk
          clear hc1 hf1 hb1 HX HY HZ
          go_wp2
          go_ret
          rw [E]
          exact ⟨rfl, box_below HB1.out⟩
        · obtain ⟨E1, E2⟩ := HZ.out hb (by omega)
          have E1 := Lib.hid E1
          have E2 := Lib.hid E2
          clear hc1 hf1 hb1 HX HY HZ
          go_wp2
          go_roundw
          case rel => exact ⟨j + 1, by omega, by go_num, by rw [E2.out], E1, HB1⟩
          case measure => simp [intOf]; omega
    · obtain rfl : j = m := by omega
      have E : okS l = true := okS_yes (Pre.all (by rw [HM.out]; exact HP.out) (by rw [HM.out]; omega))
      go_wp2
      go_ret
      rw [E]
      exact ⟨rfl, box_below HB.out⟩

end Go.Proofs.YtggnkjnpiagdpaaDoor.StoreOk
