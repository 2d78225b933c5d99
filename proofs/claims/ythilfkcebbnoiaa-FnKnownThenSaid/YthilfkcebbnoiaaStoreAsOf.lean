/- Contracts of both sides' StoreAsOf: the facts that were known, in new memory. -/
import Derived.Test.YthilfkcebbnoiaaRows
import Derived.Test.YthilfkcebbnoiaaFactRow
import Derived.Test.YthilfkcebbnoiaaFactMath
import Derived.Test.YthilfkcebbnoiaaStore
import Derived.Test.YthilfkcebbnoiaaBox
import Derived.Deep.RegionHeld3
namespace Go.Proofs.Ythilfkcebbnoiaa.StoreAsOf
open Go.RowKit RowN Fact FactRow FactMath Store Box

/-- Two boxes. -/
abbrev boxed2 (w : World) (v u : Value) (T U : TypeId) : World := (w.alloc (.cells #[v] T)).alloc (.cells #[u] U)
theorem box2_cells {w wr : World} {v u : Value} {T U : TypeId} (hb : Below (boxed2 w v u T U).heap.size (boxed2 w v u T U) wr) :
    wr.cell? ⟨w.heap.size, 0, none⟩ = some v ∧ wr.cell? ⟨w.heap.size + 1, 0, none⟩ = some u ∧ w.heap.size + 1 + 1 ≤ wr.heap.size ∧ Below w.heap.size w wr ∧ wr.frozen? ⟨w.heap.size + 1, 0, none⟩ = false := by
  refine ⟨(hb.cell (p := ⟨w.heap.size, 0, none⟩) (by simp; omega)).trans (by simp [go_sem]), (hb.cell (p := ⟨w.heap.size + 1, 0, none⟩) (by simp)).trans (by simp [go_sem]), by have := hb.size; simpa using this,
    BelowKit.bl_trans (BelowKit.bl_alloc (BelowKit.bl_alloc (Below.refl _ _))) hb, (hb.frozen (p := ⟨w.heap.size + 1, 0, none⟩) (by simp)).trans (by simp [go_sem])⟩

set_option maxHeartbeats 2000000 in
theorem asof_i (w : World) (p : Option Addr) (m cap : Nat) (l : List Fa) (kn : Int) (hm : l.length = m) (hs : m ≤ 1048576) (h : ReadsF w p l) :
    Calls Try.prog 15 #[.agg #[.slice p m cap], .int .i64 kn] w (IsSto (keep kn l) w) := by
  have KK := Lib.hid h
  have HM := Lib.hid hm
  clear h hm
  go_enter Try.func15, Try.ntmps15
  go_wp2
  go_loopw [5, 11] (fun s i wr => ∃ j : Nat, j ≤ m ∧ i = .int .i64 (j : Int) ∧ Hid (OwnsF wr (w.heap.size + 1 + 1) s (keep kn (l.take j))) ∧ Hid (Below (boxed2 w (.slice p m cap) (.slice none 0 0) 26 26).heap.size (boxed2 w (.slice p m cap) (.slice none 0 0) 26 26) wr)) (fun _ i _ => m - (intOf i).toNat)
  case atStart => exact ⟨0, Nat.zero_le _, rfl, Lib.hid (Owns.nil _ _ _), Lib.hid (Below.refl _ _)⟩
  case round =>
    obtain ⟨j, hj, rfl, HO, HB⟩ := hrel
    obtain ⟨hc0, hc1, hz, hbw, hf1⟩ := box2_cells HB.out
    by_cases hlt : j < m
    · have HLT := Lib.hid (show j < l.length by rw [HM.out]; exact hlt)
      obtain ⟨g, o, rfl, hgl, q0, q1, q2, q3, q4⟩ := read5 (KK.out.on hbw) j HLT.out
      have HK := keep_take kn l j HLT.out
      have HLen : (keep kn (l.take j)).length ≤ j := Nat.le_trans (keep_len _ _) (by simp; omega)
      generalize (l[j]'HLT.out) = x at q0 q1 q2 q3 q4 HK
      generalize keep kn (l.take j) = r at HO HK HLen
      have b1 : (0 : Int) ≤ (j : Int) := by omega
      have b2 : (j : Int) < (m : Int) := by omega
      clear hbw
      by_cases hk : x.n ≤ kn
      · rw [if_pos hk] at HK
        have HK := Lib.hid HK
        go_wp2_with (at_builtin; refine wpList_appendN ft fw _ rfl (.tmp 19) (.tmp 21) rfl (w.heap.size + 1 + 1) _ r rfl ((HO.out.alloc _).alloc _) ⟨wr.heap.size + 1, 0, none⟩ 1 1 [x] rfl rfl (new1 _ x _ (by simp)) ?_ ?_ ?_; (simp; omega); (simp; omega); intro v' w' hown' hg' _)
        have hlow := fun k hk => HO.out.low k hk
        have HB' := Lib.hid ((BelowKit.bl_alloc (BelowKit.bl_alloc HB.out)).grown hg' (by simp; omega) (fun k hk => by have := hlow k hk; simp; omega))
        have HO' := Lib.hid hown'
        clear hown' hg' hlow
        go_roundw
        case rel => exact ⟨j + 1, by omega, by go_num, by rw [HK.out]; exact HO', HB'⟩
        case measure => simp [intOf]; omega
      · rw [if_neg hk] at HK
        have HK := Lib.hid HK
        go_wp2
        go_roundw
        case rel => exact ⟨j + 1, by omega, by go_num, by rw [HK.out]; exact Lib.hid (HO.out.alloc _), Lib.hid (BelowKit.bl_alloc HB.out)⟩
        case measure => simp [intOf]; omega
    · obtain rfl : j = m := by omega
      have HO' := HO.out
      rw [List.take_of_length_le (by rw [HM.out]; exact Nat.le_refl _)] at HO'
      obtain ⟨a', c', rfl, _⟩ := HO'.form fw
      have HO2 := Lib.hid HO'
      have HBW := Lib.hid hbw
      clear HO' HO hbw
      go_wp2
      refine bodyPost_ret (v := .agg #[.slice a' (keep kn l).length c']) (by simp [results, Try.results15, hc1, go_sem]) rfl ⟨a', c', rfl, ?_, ?_⟩
      · refine (HO2.out.beside ?_ _).base (by omega)
        intro e
        have := HO2.out.low _ e
        omega
      · exact HBW.out.setCell (p := ⟨w.heap.size + 1, 0, none⟩) (by simp) _

set_option maxHeartbeats 2000000 in
theorem asof_s (w : World) (p : Option Addr) (m cap : Nat) (l : List Fa) (kn : Int) (hm : l.length = m) (hs : m ≤ 1048576) (h : ReadsF w p l) :
    Calls Try.prog 31 #[.agg #[.slice p m cap], .int .i64 kn] w (IsSto (keep kn l) w) := by
  have KK := Lib.hid h
  have HM := Lib.hid hm
  clear h hm
  go_enter Try.func31, Try.ntmps31
  go_wp2
  go_loopw [6] (fun i wr => ∃ (j : Nat) (s : Value), j ≤ m ∧ i = .int .i64 (j : Int) ∧ wr.cell? ⟨w.heap.size + 1 + 1, 0, none⟩ = some s ∧ wr.frozen? ⟨w.heap.size + 1 + 1, 0, none⟩ = false ∧ w.heap.size + 1 + 1 < wr.heap.size ∧
    Hid (OwnsF wr (w.heap.size + 1 + 1 + 1) s (keep kn (l.take j))) ∧ Hid (Below (boxed2 w (.slice p m cap) (.slice none 0 0) 26 26).heap.size (boxed2 w (.slice p m cap) (.slice none 0 0) 26 26) wr)) (fun i _ => m - (intOf i).toNat)
  case atStart =>
    exact ⟨0, .slice none 0 0, Nat.zero_le _, rfl, by simp [go_sem], by simp [go_sem], by simp, Lib.hid (Owns.nil _ _ _), Lib.hid ((Below.refl _ _).alloc (Nat.le_refl _) _)⟩
  case round =>
    obtain ⟨j, s, hj, rfl, hsc, hsf, hsz, HO, HB⟩ := hrel
    obtain ⟨hc0, hc1, hz, hbw, hf1⟩ := box2_cells HB.out
    by_cases hlt : j < m
    · have HLT := Lib.hid (show j < l.length by rw [HM.out]; exact hlt)
      obtain ⟨g, o, rfl, hgw, _⟩ := read5 KK.out j HLT.out
      obtain ⟨g', o', e', hgl, q0, q1, q2, q3, q4⟩ := read5 (KK.out.on hbw) j HLT.out
      cases e'
      have HK := keep_take kn l j HLT.out
      have HLen : (keep kn (l.take j)).length ≤ j := Nat.le_trans (keep_len _ _) (by simp; omega)
      generalize (l[j]'HLT.out) = x at q0 q1 q2 q3 q4 HK
      generalize keep kn (l.take j) = r at HO HK HLen
      have b1 : (0 : Int) ≤ (j : Int) := by omega
      have b2 : (j : Int) < (m : Int) := by omega
      clear hbw
      by_cases hk : x.n ≤ kn
      · rw [if_pos hk] at HK
        have HK := Lib.hid HK
        have HS : Hid (∀ W, Below (w.heap.size + 1 + 1) wr W → W.cell? ⟨w.heap.size, 0, none⟩ = some (.slice (some ⟨g, o, none⟩) m cap) ∧ W.cell? ⟨g, o + j * 5, none⟩ = some (.int .i64 x.k) ∧ W.cell? ⟨g, o + j * 5 + 1, none⟩ = some (.int .i64 x.f) ∧ W.cell? ⟨g, o + j * 5 + 2, none⟩ = some (.int .i64 x.t) ∧ W.cell? ⟨g, o + j * 5 + 3, none⟩ = some (.int .i64 x.n) ∧ W.cell? ⟨g, o + j * 5 + 4, none⟩ = some (.int .i64 x.v)) :=
          Lib.hid fun W hW => ⟨(hW.cell (p := ⟨w.heap.size, 0, none⟩) (by show w.heap.size < w.heap.size + 1 + 1; omega)).trans hc0, (hW.cell (p := ⟨g, _, none⟩) (by simp; omega)).trans q0, (hW.cell (p := ⟨g, _, none⟩) (by simp; omega)).trans q1, (hW.cell (p := ⟨g, _, none⟩) (by simp; omega)).trans q2, (hW.cell (p := ⟨g, _, none⟩) (by simp; omega)).trans q3, (hW.cell (p := ⟨g, _, none⟩) (by simp; omega)).trans q4⟩
        have hlow := fun k hk => HO.out.low k hk
        have HG : Hid (∀ w1 : World, (wr.alloc (.cells #[.int .i64 x.k, .int .i64 x.f, .int .i64 x.t, .int .i64 x.n, .int .i64 x.v] 35)).drew.grownBy w1 s.ownBlock → Below (w.heap.size + 1 + 1) wr w1 ∧ w1.cell? ⟨w.heap.size + 1 + 1, 0, none⟩ = some s ∧ w1.frozen? ⟨w.heap.size + 1 + 1, 0, none⟩ = false ∧ w.heap.size + 1 + 1 < w1.heap.size) := by
          refine Lib.hid fun w1 hg1 => ?_
          have h3 : Below (w.heap.size + 1 + 1 + 1) wr w1 := (below_drewN ((Below.refl _ _).alloc (by omega) _) 1).grown hg1 (by show _ ≤ (wr.heap.push _).size; simp; omega) hlow
          exact ⟨h3.mono (by omega), (h3.cell (p := ⟨w.heap.size + 1 + 1, 0, none⟩) (by show w.heap.size + 1 + 1 < _; omega)).trans hsc, (h3.frozen (p := ⟨w.heap.size + 1 + 1, 0, none⟩) (by show w.heap.size + 1 + 1 < _; omega)).trans hsf, Nat.lt_of_lt_of_le hsz h3.size⟩
        go_wp2_with fail
        go_region_law ((refine step_appendN ft fw _ (o := ⟨some 31, _, _, _, _, _⟩) rfl (.tmp 24) (.tmp 30) rfl (w.heap.size + 1 + 1 + 1) s r rfl (HO.out.alloc _).drew ⟨wr.heap.size, 0, none⟩ 1 1 [x] rfl rfl (new1 wr x _ rfl) ?_ ?_ ?_; (simp; omega); (simp; omega); intro v' w1 hown1 hg1 _; obtain ⟨p9, c9, rfl, _⟩ := hown1.form fw; obtain ⟨hb9, c1, c2, c3⟩ := HG.out _ hg1))
        all_goals
          have HO' := Lib.hid (hown1.beside (g := w.heap.size + 1 + 1) (o := 0) (fun e => by have := hown1.low _ e; omega) (.slice p9 (r.length + 1) c9))
          have HB' := Lib.hid ((HB.out.trans (hb9.mono (by simp))).setCell (p := ⟨w.heap.size + 1 + 1, 0, none⟩) (by simp) (.slice p9 (r.length + 1) c9))
          have e1 : (w1.setCell ⟨w.heap.size + 1 + 1, 0, none⟩ (.slice p9 (r.length + 1) c9)).cell? ⟨w.heap.size + 1 + 1, 0, none⟩ = some (.slice p9 (r.length + 1) c9) := by simp [go_sem, c1]
          have e2 : (w1.setCell ⟨w.heap.size + 1 + 1, 0, none⟩ (.slice p9 (r.length + 1) c9)).frozen? ⟨w.heap.size + 1 + 1, 0, none⟩ = false := by simp [go_sem, c2]
          have e3 : w.heap.size + 1 + 1 < (w1.setCell ⟨w.heap.size + 1 + 1, 0, none⟩ (.slice p9 (r.length + 1) c9)).heap.size := by simp; omega
          clear hown1 hb9 hg1 hlow HG
          go_wp2
          go_roundw
          case rel => exact ⟨j + 1, _, by omega, by go_num, e1, e2, e3, by rw [HK.out]; simpa using HO', HB'⟩
          case measure => simp [intOf]; omega
      · rw [if_neg hk] at HK
        have HK := Lib.hid HK
        go_wp2
        go_roundw
        case rel => exact ⟨j + 1, s, by omega, by go_num, hsc, hsf, hsz, by rw [HK.out]; exact HO, HB⟩
        case measure => simp [intOf]; omega
    · obtain rfl : j = m := by omega
      have HO' := HO.out
      rw [List.take_of_length_le (by rw [HM.out]; exact Nat.le_refl _)] at HO'
      obtain ⟨a', c', rfl, _⟩ := HO'.form fw
      have HO2 := Lib.hid HO'
      have HBW := Lib.hid hbw
      clear HO' HO hbw
      go_wp2
      refine bodyPost_ret (v := .agg #[.slice a' (keep kn l).length c']) (by simp [results, Try.results31, hc1, go_sem]) rfl ⟨a', c', rfl, ?_, ?_⟩
      · refine (HO2.out.beside ?_ _).base (by omega)
        intro e
        have := HO2.out.low _ e
        omega
      · exact HBW.out.setCell (p := ⟨w.heap.size + 1, 0, none⟩) (by simp) _
end Go.Proofs.Ythilfkcebbnoiaa.StoreAsOf
