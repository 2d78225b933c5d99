/- Contract of the program's IndexAt: a closure holds the best point so far and whether there is one. -/
import Derived.Test.YtdmkceaonfbebaaRows
import Derived.Test.YtdmkceaonfbebaaIdxS
namespace Go.Proofs.Ytdmkceaonfbebaa.IdxI
open Go.RowKit RowN TPoint PointMath Mon Box IdxS
/-- The two variables that the closure holds: the best point (block B) and whether there is one (block F). -/
structure St (B F : Nat) (y : El) (b : Bool) (w : World) : Prop where
  ne : B < F
  lt : F < w.heap.size
  c0 : w.cell? ⟨B, 0, none⟩ = some (.int .i64 y.Month)
  c1 : w.cell? ⟨B, 1, none⟩ = some (.int .i64 y.Known)
  c2 : w.cell? ⟨B, 2, none⟩ = some (.int .i64 y.Value)
  f0 : w.frozen? ⟨B, 0, none⟩ = false
  f1 : w.frozen? ⟨B, 1, none⟩ = false
  f2 : w.frozen? ⟨B, 2, none⟩ = false
  cf : w.cell? ⟨F, 0, none⟩ = some (.bool b)
  ff : w.frozen? ⟨F, 0, none⟩ = false
theorem St.on {B F : Nat} {y : El} {b : Bool} {w w' : World} (h : St B F y b w) (hb : Below w.heap.size w w') : St B F y b w' := by
  obtain ⟨hc, hf⟩ := BelowKit.bcell hb
  have h1 := h.ne
  have h2 := h.lt
  exact ⟨h1, Nat.lt_of_lt_of_le h2 hb.size, (hc B 0 (by omega)).trans h.c0, (hc B 1 (by omega)).trans h.c1, (hc B 2 (by omega)).trans h.c2, (hf B 0 (by omega)).trans h.f0, (hf B 1 (by omega)).trans h.f1, (hf B 2 (by omega)).trans h.f2, (hc F 0 h2).trans h.cf, (hf F 0 h2).trans h.ff⟩
theorem St.take {B F : Nat} {y : El} {b : Bool} {w : World} (h : St B F y b w) (m k v : Int) :
    St B F ⟨m, k, v⟩ true ((((w.setCell ⟨B, 0, none⟩ (.int .i64 m)).setCell ⟨B, 1, none⟩ (.int .i64 k)).setCell ⟨B, 2, none⟩ (.int .i64 v)).setCell ⟨F, 0, none⟩ (.bool true)) := by
  have h1 := h.ne
  have h2 := h.lt
  have n1 : B ≠ F := by omega
  have n2 : F ≠ B := by omega
  have c0 := h.c0
  have c1 := h.c1
  have c2 := h.c2
  have f0 := h.f0
  have f1 := h.f1
  have f2 := h.f2
  have cf := h.cf
  have ff := h.ff
  exact ⟨h1, by simpa using h2, by simp [go_sem, *], by simp [go_sem, *], by simp [go_sem, *], by simp [go_sem, *], by simp [go_sem, *], by simp [go_sem, *], by simp [go_sem, *], by simp [go_sem, *]⟩
def IsOffer (C B F : Nat) (y : El) (w : World) (e : Ending) (w' : World) : Prop := e = .returned (.tuple #[]) ∧ St B F y true w' ∧ Below C w w'
set_option maxHeartbeats 2000000 in
theorem offer_no (w : World) (B F : Nat) (x y : El) (hs : St B F y true w) (hx : ¬ y.Month ≤ x.Month) :
    Calls Try.prog 86 #[.agg #[.int .i64 x.Month, .int .i64 x.Known, .int .i64 x.Value], .pointer (some ⟨F, 0, none⟩), .pointer (some ⟨B, 0, none⟩)] w (fun e w' => e = .returned (.tuple #[]) ∧ Below w.heap.size w w') := by
  obtain ⟨m, k, v⟩ := x
  obtain ⟨m', k', v'⟩ := y
  obtain ⟨ne, lt, c0, c1, c2, f0, f1, f2, cf, ff⟩ := hs
  simp only [] at *
  have d1 : decide (m' ≤ m) = false := decide_eq_false hx
  have z1 : B < w.heap.size := by omega
  clear hx
  go_enter Try.func86, Try.ntmps86
  go_wp2
  go_end0
  exact ⟨rfl, by (repeat (first | exact Below.refl _ _ | apply BelowKit.bl_alloc | apply BelowKit.bl_drewN | apply BelowKit.bl_drew | (refine BelowKit.bl_set ?_ _ ?_; rotate_left; (first | omega | (simp; omega) | simp)) | (refine BelowKit.bl_trans ?_ (‹Hid (Below _ _ _)›).out)))⟩
set_option maxHeartbeats 2000000 in
theorem offer_yes (w : World) (C B F : Nat) (b : Bool) (x y : El) (hs : St B F y b w) (hx : b = true → y.Month ≤ x.Month) (h1 : C ≤ B) (h2 : C ≤ F) :
    Calls Try.prog 86 #[.agg #[.int .i64 x.Month, .int .i64 x.Known, .int .i64 x.Value], .pointer (some ⟨F, 0, none⟩), .pointer (some ⟨B, 0, none⟩)] w (IsOffer C B F x w) := by
  obtain ⟨m, k, v⟩ := x
  have HS := Lib.hid ((hs.take m k v).on (BelowKit.bl_alloc (o := .cells #[.int .i64 m, .int .i64 k, .int .i64 v] 43) (Below.refl _ _)))
  obtain ⟨m', k', v'⟩ := y
  obtain ⟨ne, lt, c0, c1, c2, f0, f1, f2, cf, ff⟩ := hs
  simp only [] at *
  have z1 : B < w.heap.size := by omega
  have HB := Lib.hid (show Below C w (((((w.setCell ⟨B, 0, none⟩ (.int .i64 m)).setCell ⟨B, 1, none⟩ (.int .i64 k)).setCell ⟨B, 2, none⟩ (.int .i64 v)).setCell ⟨F, 0, none⟩ (.bool true)).alloc (.cells #[.int .i64 m, .int .i64 k, .int .i64 v] 43)) from
    (((((Below.refl C w).setCell (p := ⟨B, 0, none⟩) h1 _).setCell (p := ⟨B, 1, none⟩) h1 _).setCell (p := ⟨B, 2, none⟩) h1 _).setCell (p := ⟨F, 0, none⟩) h2 _).alloc (by simp; omega) _)
  have n1 : B ≠ F := by omega
  cases b with
  | false =>
    clear hx h1 h2
    go_enter Try.func86, Try.ntmps86
    go_wp2
    go_end0
    exact ⟨rfl, HS.out, HB.out⟩
  | true =>
    have d1 : decide (m' ≤ m) = true := decide_eq_true (hx rfl)
    clear hx h1 h2
    go_enter Try.func86, Try.ntmps86
    go_wp2
    go_end0
    exact ⟨rfl, HS.out, HB.out⟩
theorem val_get (s : Option El) : PointMath.valOf s = ((s.getD e0).Value, s.isSome) := by cases s <;> rfl
set_option maxHeartbeats 8000000 in
theorem idx_i (w : World) (p : Option Addr) (m cap : Nat) (l : List El) (M kn : Int) (hm : l.length = m) (hs : m ≤ 1099511627776) (h : Reads fc 3 w p l) :
    Calls Try.prog 84 #[.agg #[.slice p m cap], .int .i64 M, .int .i64 kn] w (IsVal (idx M kn l) w) := by
  have KK := Lib.hid h
  have HM := Lib.hid hm
  have hmf : ∀ (fn : Fn) (first cap : Array Value) (w : World), (Instr.makeFunc fn first cap).run Try.prog w = .ok (.func fn first cap) w := fun _ _ _ _ => rfl
  clear h hm
  go_enter Try.func84, Try.ntmps84
  go_wp2
  go_loopw [17] (fun i wr => ∃ j : Nat, j ≤ m ∧ i = .int .i64 (j : Int) ∧ Hid (St (w.heap.size + 1) (w.heap.size + 1 + 1) ((bestOf M kn (l.take j)).getD e0) (bestOf M kn (l.take j)).isSome wr) ∧ Hid (Below (boxed w (.slice p m cap) 29).heap.size (boxed w (.slice p m cap) 29) wr)) (fun i _ => m - (intOf i).toNat)
  case atStart => exact ⟨0, Nat.zero_le _, rfl, Lib.hid ⟨by omega, by simp, by simp [go_sem, e0, bestOf], by simp [go_sem, e0, bestOf], by simp [go_sem, e0, bestOf], by simp [go_sem], by simp [go_sem], by simp [go_sem], by simp [go_sem, bestOf], by simp [go_sem]⟩, Lib.hid (by repeat (first | exact Below.refl _ _ | refine Below.alloc ?_ (by simp) _ | refine Below.setCell ?_ (by simp) _))⟩
  case round =>
    obtain ⟨j, hj, rfl, HS, HB⟩ := hrel
    have hc := box_cell HB.out
    have hz := box_size HB.out
    by_cases hlt : j < m
    · have HLT := Lib.hid (show j < l.length by rw [HM.out]; exact hlt)
      obtain ⟨g, o, rfl, hgl, q0, q1, q2⟩ := read (KK.out.on (box_below HB.out)) j HLT.out
      have HK := Lib.hid (best_take M kn l j HLT.out)
      have b1 : (0 : Int) ≤ (j : Int) := by omega
      have b2 : (j : Int) < (m : Int) := by omega
      obtain ⟨y, hy⟩ : ∃ y, bestOf M kn (l.take j) = y := ⟨_, rfl⟩
      rw [hy] at HS HK
      obtain ⟨y', hy'⟩ : ∃ y, bestOf M kn (l.take (j + 1)) = y := ⟨_, rfl⟩
      have HY := Lib.hid hy'
      have HK := Lib.hid (hy'.symm.trans HK.out)
      clear hy hy'
      generalize (l[j]'HLT.out) = x at q0 q1 q2 HK
      obtain ⟨mo, k, v⟩ := x
      simp only [] at q0 q1 q2
      have HBA := Lib.hid (Below.alloc HB.out (by simp; omega) (.cells #[.int .i64 mo, .int .i64 k, .int .i64 v] 43))
      have HSA := Lib.hid (HS.out.on (BelowKit.bl_alloc (o := .cells #[.int .i64 mo, .int .i64 k, .int .i64 v] 43) (Below.refl _ _)))
      clear HS
      by_cases h1 : mo ≤ M
      case neg =>
        have E := Lib.hid (HK.out.trans (better_no (fun e => h1 e.1)))
        have d1 : decide (mo ≤ M) = false := decide_eq_false h1
        clear HK h1
        go_wp2
        go_roundw
        case rel => exact ⟨j + 1, by omega, by go_num, Lib.hid (by rw [HY.out, E.out]; exact HSA.out), HBA⟩
        case measure => simp [intOf]; omega
      case pos =>
      have d1 : decide (mo ≤ M) = true := decide_eq_true h1
      by_cases h2 : k ≤ kn
      case neg =>
        have E := Lib.hid (HK.out.trans (better_no (fun e => h2 e.2.1)))
        have d2 : decide (k ≤ kn) = false := decide_eq_false h2
        clear HK h1 h2
        go_wp2
        go_roundw
        case rel => exact ⟨j + 1, by omega, by go_num, Lib.hid (by rw [HY.out, E.out]; exact HSA.out), HBA⟩
        case measure => simp [intOf]; omega
      case pos =>
      have d2 : decide (k ≤ kn) = true := decide_eq_true h2
      by_cases h3 : ∀ z, y = some z → z.Month ≤ mo
      · have E := Lib.hid (HK.out.trans (better_yes h1 h2 h3))
        have HX : Hid (y.isSome = true → (y.getD e0).Month ≤ mo) := Lib.hid (fun e => by cases y with | none => cases e | some z => exact h3 z rfl)
        clear HK h1 h2 h3
        go_wp2_with fail
        refine (offer_yes _ (w.heap.size + 1) (w.heap.size + 1) (w.heap.size + 1 + 1) y.isSome ⟨mo, k, v⟩ (y.getD e0) HSA.out HX.out (by omega) (by omega)).mono ?_
        rintro e w2 ⟨rfl, hs2, hb2⟩
        have HS2 := Lib.hid hs2
        have HB2 := Lib.hid (HBA.out.trans (by rw [boxed_size]; exact hb2))
        clear hs2 hb2
        go_wp2
        go_roundw
        case rel => exact ⟨j + 1, by omega, by go_num, Lib.hid (by rw [HY.out, E.out]; exact HS2.out), HB2⟩
        case measure => simp [intOf]; omega
      · have E := Lib.hid (HK.out.trans (better_no (fun e => h3 e.2.2)))
        obtain ⟨z, hz1, hz2⟩ : ∃ z, y = some z ∧ ¬ z.Month ≤ mo := by
          cases y with
          | none => exact absurd (fun z e => by cases e) h3
          | some z => exact ⟨z, rfl, fun e => h3 (fun z' e' => by cases e'; exact e)⟩
        have HZ := Lib.hid hz2
        subst hz1
        clear HK h1 h2 h3 hz2
        go_wp2_with fail
        refine (offer_no _ (w.heap.size + 1) (w.heap.size + 1 + 1) ⟨mo, k, v⟩ z HSA.out (by have := HZ.out; simp only []; omega)).mono ?_
        rintro e w2 ⟨rfl, hb2⟩
        have HS2 := Lib.hid (HSA.out.on hb2)
        have HB2 := Lib.hid (HBA.out.trans (hb2.mono HBA.out.size))
        clear hb2
        go_wp2
        go_roundw
        case rel => exact ⟨j + 1, by omega, by go_num, Lib.hid (by rw [HY.out, E.out]; exact HS2.out), HB2⟩
        case measure => simp [intOf]; omega
    · obtain rfl : j = m := by omega
      have HS' := HS.out
      rw [List.take_of_length_le (by rw [HM.out]; exact Nat.le_refl _)] at HS'
      have E := Lib.hid (show idx M kn l = (((bestOf M kn l).getD e0).Value, (bestOf M kn l).isSome) from val_get _)
      generalize (bestOf M kn l).getD e0 = y at E HS'
      generalize (bestOf M kn l).isSome = b at E HS'
      obtain ⟨ne, lt, c0, c1, c2, f0, f1, f2, cf, ff⟩ := HS'
      clear HS c0 c1 f0 f1 f2 ff ne
      have lt' : w.heap.size + 1 < wr.heap.size := by omega
      go_wp2_with fail
      go_quiet (fail)
      go_wp2
      refine bodyPost_ret (v := .tuple #[.int .i64 y.Value, .bool b]) (by simp [results, Try.results84, go_sem]) rfl ?_
      rw [E.out]
      exact ⟨rfl, BelowKit.bl_drewN (box_below HB.out)⟩
end Go.Proofs.Ytdmkceaonfbebaa.IdxI
