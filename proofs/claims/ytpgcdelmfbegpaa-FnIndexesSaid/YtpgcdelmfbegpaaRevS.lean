/- Contract of the model's RevisionsOf: the values of all points for a month, in new memory. -/
import Derived.Test.YtpgcdelmfbegpaaRows
import Derived.Test.YtpgcdelmfbegpaaPointMath
import Derived.Test.YtpgcdelmfbegpaaBox
import Derived.Test.YtpgcdelmfbegpaaTInt
namespace Go.Proofs.Ytpgcdelmfbegpaa.RevS
open Go.RowKit RowN TPoint PointMath Mon Box
theorem new1 (w : World) (x : Int) (g : Nat) (hg : w.heap.size = g) : ∀ j u, ([x].flatMap TInt.fc)[j]? = some u →
    (w.alloc (.cells #[.int .i64 x] 3)).cell? ((⟨g, 0, none⟩ : Addr).add j) = some u := by
  subst hg
  exact news_block (T := 3) (heap_alloc_new w _)
set_option maxHeartbeats 4000000 in
theorem rev_s (w : World) (p : Option Addr) (m cap : Nat) (l : List El) (M : Int) (hm : l.length = m) (hs : m ≤ 1048576) (h : Reads fc 3 w p l) :
    Calls Try.prog 31 #[.agg #[.slice p m cap], .int .i64 M] w (TInt.IsRow (revs M l) w) := by
  have KK := Lib.hid h
  have HM := Lib.hid hm
  clear h hm
  go_enter Try.func31, Try.ntmps31
  go_wp2
  go_loopw [5, 6] (fun v i wr => ∃ j : Nat, j ≤ m ∧ i = .int .i64 (j : Int) ∧ Hid (Owns TInt.fc 1 wr (w.heap.size + 1) 3 v (revs M (l.take j))) ∧ Hid (Below (boxed w (.slice p m cap) 26).heap.size (boxed w (.slice p m cap) 26) wr)) (fun _ i _ => m - (intOf i).toNat)
  case atStart => exact ⟨0, Nat.zero_le _, rfl, Lib.hid (by have := Owns.made (f := TInt.fc) (c := 1) (boxed w (.slice p m cap) 26) (w.heap.size + 1) 3 (by simp); rw [boxed_size] at this; exact this), Lib.hid ((Below.refl _ _).alloc (Nat.le_refl _) _)⟩
  case round =>
    obtain ⟨j, hj, rfl, HO, HB⟩ := hrel
    have hc := box_cell HB.out
    have hz := box_size HB.out
    by_cases hlt : j < m
    · have HLT := Lib.hid (show j < l.length by rw [HM.out]; exact hlt)
      obtain ⟨g, o, rfl, hgl, q0, q1, q2⟩ := read (KK.out.on (box_below HB.out)) j HLT.out
      have HK := revs_take M l j HLT.out
      have HLen : (revs M (l.take j)).length ≤ j := Nat.le_trans (revs_len _ _) (by simp; omega)
      generalize (l[j]'HLT.out) = x at q0 q1 q2 HK
      obtain ⟨mo, k, v⟩ := x
      simp only [] at q0 q1 q2 HK
      generalize revs M (l.take j) = r at HO HK HLen
      have b1 : (0 : Int) ≤ (j : Int) := by omega
      have b2 : (j : Int) < (m : Int) := by omega
      by_cases hk : mo = M
      · rw [if_pos hk] at HK
        subst hk
        have HK := Lib.hid HK
        go_wp2_with (at_builtin; refine wpList_appendN TInt.ft TInt.fw _ (o := ⟨some 31, _, _, _, _, _⟩) rfl (.tmp 23) (.tmp 30) rfl (w.heap.size + 1) _ r rfl (HO.out.alloc _) ⟨wr.heap.size, 0, none⟩ 1 1 [v] rfl rfl (new1 _ v _ rfl) ?_ ?_ ?_; (simp; omega); (simp; omega); intro v' w' hown' hg' _; have HB' := Lib.hid ((BelowKit.bl_alloc (o := .cells #[.int .i64 v] 3) HB.out).grown hg' (by simp; omega) (fun k hk => by have := HO.out.low k hk; simp; omega)); have HO' := Lib.hid hown'; clear hown' hg')
        go_roundw
        case rel => exact ⟨j + 1, by omega, by go_num, by rw [HK.out]; exact HO', HB'⟩
        case measure => simp [intOf]; omega
      · rw [if_neg hk] at HK
        have HK := Lib.hid HK
        go_wp2
        go_roundw
        case rel => exact ⟨j + 1, by omega, by go_num, by rw [HK.out]; exact HO, HB⟩
        case measure => simp [intOf]; omega
    · obtain rfl : j = m := by omega
      have HO' := HO.out
      rw [List.take_of_length_le (by rw [HM.out]; exact Nat.le_refl _)] at HO'
      obtain ⟨a', c', rfl, _⟩ := HO'.form TInt.fw
      have HO2 := Lib.hid HO'
      clear HO' HO
      go_wp2
      go_ret
      exact ⟨a', c', rfl, HO2.out.base (by omega), box_below HB.out⟩
end Go.Proofs.Ytpgcdelmfbegpaa.RevS
