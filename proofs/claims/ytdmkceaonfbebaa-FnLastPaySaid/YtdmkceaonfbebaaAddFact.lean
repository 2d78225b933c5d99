/- Contracts of both sides' AddFact. -/
import Derived.Test.YtdmkceaonfbebaaRows
import Derived.Test.YtdmkceaonfbebaaFactRow
import Derived.Test.YtdmkceaonfbebaaFactMath
import Derived.Test.YtdmkceaonfbebaaStore
import Derived.Test.YtdmkceaonfbebaaStoreOk
import Derived.Test.YtdmkceaonfbebaaKit
import Derived.ArgAppend
namespace Go.Proofs.Ytdmkceaonfbebaa.AddFact
open Go.RowKit RowN Fact FactRow FactMath Store Box

def IsAdd (r : List Fa) (b : Bool) (w : World) (e : Ending) (w' : World) : Prop := ∃ p c, e = .returned (.tuple #[.agg #[.slice p r.length c], .bool b]) ∧ OwnsF w' w.heap.size (.slice p r.length c) r ∧ Below w.heap.size w w'


set_option maxHeartbeats 1000000 in
theorem copy_s (w : World) (a : Option Addr) (m cap : Nat) (l : List Fa) (hm : l.length = m) (hs : m ≤ 1048576) (h : ReadsF w a l) :
    Calls Try.prog 53 #[.agg #[.slice a m cap]] w (IsSto l w) := by
  have KK := Lib.hid h
  have HM := Lib.hid hm
  clear h hm
  go_enter Try.func53, Try.ntmps53
  go_wp2_with (
    at_builtin
    refine wpList_append_readsN ft fw _ rfl (.tmp 3) (.tmp 5) rfl (w.heap.size + 1 + 1) (.slice (some ⟨w.heap.size + 1 + 1, 0, none⟩) 0 0) [] rfl ?c1 a cap m l HM.out rfl ?c2 ?c3 ?c4 ?_
    rotate_left 4
    intro v' w' hown' hg' hat'
    obtain ⟨p', c', rfl, _⟩ := hown'.form fw
    have HB := Lib.hid ((BelowKit.bl_alloc (BelowKit.bl_alloc (BelowKit.bl_alloc (Below.refl w.heap.size w)))).grown hg' (by first | omega | (simp; done) | (simp; omega)) (by first | (simp [Value.ownBlock]; done) | (simp [Value.ownBlock]; omega)))
    have hc : w'.cell? ⟨w.heap.size + 1, 0, none⟩ = some (.slice none 0 0) := (hg'.cell_far ⟨w.heap.size + 1, 0, none⟩ (by first | omega | (simp; done) | (simp; omega)) (by simp [Value.ownBlock])).trans (by simp [go_sem])
    have hf : w'.frozen? ⟨w.heap.size + 1, 0, none⟩ = false := (hg'.frozen_far ⟨w.heap.size + 1, 0, none⟩ (by first | omega | (simp; done) | (simp; omega)) (by simp [Value.ownBlock])).trans (by simp [go_sem])
    have HO := Lib.hid hown'
    clear hown' hg' hat')
  case c1 =>
    have h1 : w.heap.size + 1 + 1 ≤ ((w.alloc (.cells #[.slice a m cap] 26)).alloc (.cells #[.slice none 0 0] 26)).heap.size := (by first | omega | (simp; done) | (simp; omega))
    simpa using Owns.made (f := fc) (c := 5) _ _ 71 h1
  case c2 => exact KK.out.on (by (repeat (first | exact Below.refl _ _ | apply BelowKit.bl_alloc | apply BelowKit.bl_drewN | apply BelowKit.bl_drew | (refine BelowKit.bl_set ?_ _ ?_; rotate_left; (first | omega | (simp; omega) | simp)) | (refine BelowKit.bl_trans ?_ (‹Hid (Below _ _ _)›).out))))
  case c3 => simp; omega
  case c4 => simp
  refine bodyPost_ret (v := .agg #[.slice p' l.length c']) (by simp [results, Try.results53, go_sem, hc]) rfl ⟨p', c', rfl, ?_, ?_⟩
  · refine (HO.out.beside (g := w.heap.size + 1) (o := 0) (fun e => by have := HO.out.low _ e; omega) _).base (by omega)
  · exact BelowKit.bl_set HB.out (a := ⟨w.heap.size + 1, 0, none⟩) _ (by simp)
set_option maxHeartbeats 4000000 in
theorem add_s (w : World) (p : Option Addr) (m cap : Nat) (l : List Fa) (x : Fa) (hm : l.length = m) (hs : m ≤ 1048576) (h : ReadsF w p l) :
    Calls Try.prog 33 #[.agg #[.slice p m cap], .agg #[.int .i64 x.k, .int .i64 x.f, .int .i64 x.t, .int .i64 x.n, .int .i64 x.v]] w (IsAdd (added l x).1 (added l x).2 w) := by
  have KK := Lib.hid h
  have HM := Lib.hid hm
  obtain ⟨r, hr⟩ : ∃ r, (added l x).1 = r := ⟨_, rfl⟩
  obtain ⟨b, hb⟩ : ∃ b, (added l x).2 = b := ⟨_, rfl⟩
  rw [hr, hb]
  have HR := Lib.hid hr
  have HBb := Lib.hid hb
  clear h hm hr hb
  go_enter Try.func33, Try.ntmps33
  go_wp2_with fail
  refine (copy_s _ p m cap l HM.out hs (KK.out.on (by (repeat (first | exact Below.refl _ _ | apply BelowKit.bl_alloc | apply BelowKit.bl_drewN | apply BelowKit.bl_drew | (refine BelowKit.bl_set ?_ _ ?_; rotate_left; (first | omega | (simp; omega) | simp)) | (refine BelowKit.bl_trans ?_ (‹Hid (Below _ _ _)›).out)))))).mono ?_
  rintro e w1 ⟨p1, c1, rfl, ho, hb⟩
  rw [HM.out] at ho ⊢
  obtain ⟨W, hW⟩ : ∃ W, W = ((w.alloc (.cells #[.slice p m cap] 26)).alloc (.cells #[.int .i64 x.k, .int .i64 x.f, .int .i64 x.t, .int .i64 x.n, .int .i64 x.v] 71)).alloc (.cells #[.slice none 0 0] 26) := ⟨_, rfl⟩
  rw [← hW] at hb ho
  have hbW : Below w.heap.size w W := by rw [hW]; (repeat (first | exact Below.refl _ _ | apply BelowKit.bl_alloc | apply BelowKit.bl_drewN | apply BelowKit.bl_drew | (refine BelowKit.bl_set ?_ _ ?_; rotate_left; (first | omega | (simp; omega) | simp)) | (refine BelowKit.bl_trans ?_ (‹Hid (Below _ _ _)›).out)))
  have hzW : W.heap.size = w.heap.size + 1 + 1 + 1 := by rw [hW]; simp
  obtain ⟨hc, hf⟩ := BelowKit.bcell hb
  have c0 : w1.cell? ⟨w.heap.size, 0, none⟩ = some (.slice p m cap) := (hc _ _ (by omega)).trans (by rw [hW]; simp [go_sem])
  have d0 : w1.cell? ⟨w.heap.size + 1, 0, none⟩ = some (.int .i64 x.k) := (hc _ _ (by omega)).trans (by rw [hW]; simp [go_sem])
  have d1 : w1.cell? ⟨w.heap.size + 1, 1, none⟩ = some (.int .i64 x.f) := (hc _ _ (by omega)).trans (by rw [hW]; simp [go_sem])
  have d2 : w1.cell? ⟨w.heap.size + 1, 2, none⟩ = some (.int .i64 x.t) := (hc _ _ (by omega)).trans (by rw [hW]; simp [go_sem])
  have d3 : w1.cell? ⟨w.heap.size + 1, 3, none⟩ = some (.int .i64 x.n) := (hc _ _ (by omega)).trans (by rw [hW]; simp [go_sem])
  have d4 : w1.cell? ⟨w.heap.size + 1, 4, none⟩ = some (.int .i64 x.v) := (hc _ _ (by omega)).trans (by rw [hW]; simp [go_sem])
  have y1 : w1.cell? ⟨w.heap.size + 1 + 1, 0, none⟩ = some (.slice none 0 0) := (hc _ _ (by omega)).trans (by rw [hW]; simp [go_sem])
  have y2 : w1.frozen? ⟨w.heap.size + 1 + 1, 0, none⟩ = false := (hf _ _ (by omega)).trans (by rw [hW]; simp [go_sem])
  have z1 : w.heap.size + 1 + 1 < w1.heap.size := by have := hb.size; omega
  have zA : w.heap.size < w1.heap.size := by omega
  have zB : w.heap.size + 1 < w1.heap.size := by omega
  have HB1 := Lib.hid (BelowKit.bl_trans hbW hb)
  have HO1 := Lib.hid (ho.base (B' := w.heap.size + 1 + 1 + 1) (by omega))
  have HL1 := Lib.hid (ho.lt)
  clear hW hbW hzW hc hf hb ho
  go_wp2_with (at_builtin; refine Fresh.pause ?_)
  refine ⟨?_⟩
  refine wpList_appendN ft fw _ rfl (.tmp 10) (.tmp 12) rfl (w.heap.size + 1 + 1 + 1) (.slice p1 m c1) l rfl ((HO1.out.alloc _).alloc _) ⟨w1.heap.size + 1, 0, none⟩ 1 1 [x] rfl rfl (new1 _ x _ (by simp)) ?_ ?_ ?_
  · have := HM.out; simp; omega
  · simp; omega
  intro v' w2 hown hg hat
  obtain ⟨p2, c2, rfl, _⟩ := hown.form fw
  have hne : ∀ k, (Value.slice p1 m c1).ownBlock = some k → w.heap.size + 1 + 1 + 1 ≤ k ∧ k < w1.heap.size := fun k hk => ⟨HO1.out.low k hk, HL1.out k hk⟩
  have far : ∀ b, b ≤ w1.heap.size → b < w.heap.size + 1 + 1 + 1 ∨ b = w1.heap.size → some b ≠ (Value.slice p1 m c1).ownBlock := fun b _ hb e => by
    have := hne b e.symm
    omega
  have h12 : Below (w.heap.size + 1 + 1 + 1) w1 w2 := (((Below.refl _ _).alloc (by omega) _).alloc (by first | omega | (simp; done) | (simp; omega)) _).grown hg (by first | omega | (simp; done) | (simp; omega)) (fun k hk => (hne k hk).1)
  have cc0 : w2.cell? ⟨w.heap.size, 0, none⟩ = some (.slice p m cap) := (h12.cell (p := ⟨w.heap.size, 0, none⟩) (by show w.heap.size < _; omega)).trans c0
  have cc1 : w2.cell? ⟨w1.heap.size, 0, none⟩ = some (.slice p1 m c1) := (hg.cell_far ⟨w1.heap.size, 0, none⟩ (by first | omega | (simp; done) | (simp; omega)) (far (w1.heap.size) (by omega) (by omega))).trans (by simp [go_sem])
  have cf1 : w2.frozen? ⟨w1.heap.size, 0, none⟩ = false := (hg.frozen_far ⟨w1.heap.size, 0, none⟩ (by first | omega | (simp; done) | (simp; omega)) (far (w1.heap.size) (by omega) (by omega))).trans (by simp [go_sem])
  have yy1 : w2.cell? ⟨w.heap.size + 1 + 1, 0, none⟩ = some (.slice none 0 0) := (h12.cell (p := ⟨w.heap.size + 1 + 1, 0, none⟩) (by show w.heap.size + 1 + 1 < _; omega)).trans y1
  have yy2 : w2.frozen? ⟨w.heap.size + 1 + 1, 0, none⟩ = false := (h12.frozen (p := ⟨w.heap.size + 1 + 1, 0, none⟩) (by show w.heap.size + 1 + 1 < _; omega)).trans y2
  have HB2 := Lib.hid ((BelowKit.bl_alloc (BelowKit.bl_alloc HB1.out)).grown hg (by first | omega | (simp; done) | (simp; omega)) (fun k hk => by have := hne k hk; omega))
  have HO2 := Lib.hid hown
  have zz := hg.size
  simp at zz
  have zC : w1.heap.size < w2.heap.size := by omega
  have HN : Hid (∀ k, (Value.slice p2 (l ++ [x]).length c2).ownBlock = some k → k ≠ w1.heap.size) := Lib.hid fun k hk e => by
    subst e
    rcases hat _ hk with h | h
    · have := (hne _ h).2; omega
    · simp at h; omega
  clear hown hg hat hne far h12 c0 d0 d1 d2 d3 d4 y1 y2 zz HO1 HL1 HB1
  go_wp2_with fail
  have zD : w.heap.size < w2.heap.size := by omega
  have zE : w.heap.size + 1 + 1 < w2.heap.size := by omega
  have HL2 : (l ++ [x]).length = m + 1 := by have := HM.out; simp; omega
  rw [show l.length + 1 = m + 1 by rw [HM.out]] at *
  rw [HL2] at HO2 HN
  have HO3 := Lib.hid (HO2.out.beside (g := w1.heap.size) (o := 0) (fun e => HN.out _ e rfl) (.slice p2 (m + 1) c2))
  obtain ⟨U, hU⟩ : ∃ U, U = w2.setCell ⟨w1.heap.size, 0, none⟩ (.slice p2 (m + 1) c2) := ⟨_, rfl⟩
  rw [← hU] at HO3 ⊢
  have u0 : U.cell? ⟨w.heap.size, 0, none⟩ = some (.slice p m cap) := by rw [hU]; simp [go_sem, cc0]
  have u1 : U.cell? ⟨w1.heap.size, 0, none⟩ = some (.slice p2 (m + 1) c2) := by rw [hU]; simp [go_sem, cc1]
  have u2 : U.cell? ⟨w.heap.size + 1 + 1, 0, none⟩ = some (.slice none 0 0) := by rw [hU]; simp [go_sem, yy1]
  have u3 : U.frozen? ⟨w.heap.size + 1 + 1, 0, none⟩ = false := by rw [hU]; simp [go_sem, yy2]
  have z0 : w.heap.size < U.heap.size := by rw [hU]; simp; omega
  have zF : w1.heap.size < U.heap.size := by rw [hU]; simp; omega
  have zG : w.heap.size + 1 + 1 < U.heap.size := by rw [hU]; simp; omega
  have HBU := Lib.hid (show Below w.heap.size w U by rw [hU]; exact BelowKit.bl_set HB2.out (a := ⟨w1.heap.size, 0, none⟩) _ (by simp; omega))
  clear hU cc0 cc1 cf1 yy1 yy2 HB2 HO2 HN zC zD zE HL2
  by_cases hl : okS l = true
  · have HLk := Lib.hid hl
    clear hl
    refine (StoreOk.ok_s _ p m cap l HM.out (by omega) (KK.out.on HBU.out)).mono ?_
    rintro e w3 ⟨rfl, hb3⟩
    rw [HLk.out]
    obtain ⟨hc3, hf3⟩ := BelowKit.bcell hb3
    have v0 := (hc3 _ 0 z0).trans u0
    have v1 := (hc3 _ 0 zF).trans u1
    have v2 := (hc3 _ 0 zG).trans u2
    have v3 := (hf3 _ 0 zG).trans u3
    have z0' : w.heap.size < w3.heap.size := Nat.lt_of_lt_of_le z0 hb3.size
    have zF' : w1.heap.size < w3.heap.size := Nat.lt_of_lt_of_le zF hb3.size
    have zG' : w.heap.size + 1 + 1 < w3.heap.size := Nat.lt_of_lt_of_le zG hb3.size
    have HO4 := Lib.hid (HO3.out.on hb3)
    have HB3 := Lib.hid (BelowKit.bl_trans HBU.out hb3)
    clear hc3 hf3 hb3 u0 u1 u2 u3 z0 zF zG HO3 HBU
    go_wp2_with fail
    refine (StoreOk.ok_s _ p2 (m + 1) c2 (l ++ [x]) (by simp [HM.out]) (by omega) (reads_own fw HO4.out)).mono ?_
    rintro e w4 ⟨rfl, hb4⟩
    obtain ⟨hc3, hf3⟩ := BelowKit.bcell hb4
    have u0 := (hc3 _ 0 z0').trans v0
    have u1 := (hc3 _ 0 zF').trans v1
    have u2 := (hc3 _ 0 zG').trans v2
    have u3 := (hf3 _ 0 zG').trans v3
    have zG : w.heap.size + 1 + 1 < w4.heap.size := Nat.lt_of_lt_of_le zG' hb4.size
    have HO5 := Lib.hid (HO4.out.on hb4)
    have HB4 := Lib.hid (BelowKit.bl_trans HB3.out hb4)
    clear hc3 hf3 hb4 v0 v1 v2 v3 z0' zF' zG' HO4 HB3
    by_cases hok : okS (l ++ [x]) = true
    · have E1 := Lib.hid (show r = l ++ [x] by rw [← HR.out, added_yes hok])
      have E2 := Lib.hid (show b = true by rw [← HBb.out, added_yes hok])
      rw [hok]
      clear hok
      go_wp2
      refine bodyPost_ret (v := .tuple #[.agg #[.slice p2 (m + 1) c2], .bool true]) (by simp [results, Try.results33, go_sem, u2]) rfl ⟨p2, c2, ?_, ?_, BelowKit.bl_set HB4.out (a := ⟨w.heap.size + 1 + 1, 0, none⟩) _ (by simp; omega)⟩
      · rw [E1.out, E2.out]; simp [HM.out]
      · rw [E1.out]
        have := (HO5.out.beside (g := w.heap.size + 1 + 1) (o := 0) (fun e => by have := HO5.out.low _ e; omega) (.slice p2 (m + 1) c2)).base (B' := w.heap.size) (by omega)
        simpa [HM.out] using this
    · have hok' : okS (l ++ [x]) = false := by simpa using hok
      have E1 := Lib.hid (show r = l by rw [← HR.out, added_no hok'])
      have E2 := Lib.hid (show b = false by rw [← HBb.out, added_no hok'])
      rw [hok']
      clear hok hok'
      go_wp2_with fail
      refine (copy_s _ p m cap l HM.out hs (KK.out.on HB4.out)).mono ?_
      rintro e w5 ⟨p5, c5, rfl, ho, hb⟩
      rw [HM.out] at ho ⊢
      obtain ⟨hc4, hf4⟩ := BelowKit.bcell hb
      have v1 := (hc4 _ 0 zG).trans u2
      have v2 := (hf4 _ 0 zG).trans u3
      have HO := Lib.hid ((ho.beside (g := w.heap.size + 1 + 1) (o := 0) (fun e => by have := ho.low _ e; omega) (.slice p5 m c5)).base (B' := w.heap.size) (by omega))
      have HB5 := Lib.hid (BelowKit.bl_set (BelowKit.bl_trans HB4.out hb) (a := ⟨w.heap.size + 1 + 1, 0, none⟩) (.slice p5 m c5) (by simp; omega))
      clear hc4 hf4 hb u0 u1 u2 u3 ho HB4
      go_wp2
      refine bodyPost_ret (v := .tuple #[.agg #[.slice p5 m c5], .bool false]) (by simp [results, Try.results33, go_sem, v1]) rfl ⟨p5, c5, ?_, ?_, HB5.out⟩
      · rw [E1.out, E2.out]; simp [HM.out]
      · rw [E1.out]; simpa [HM.out] using HO.out
  · have hl' : okS l = false := by simpa using hl
    have hok' : okS (l ++ [x]) = false := okS_no fun h => hl (okS_yes h.left)
    have E1 := Lib.hid (show r = l by rw [← HR.out, added_no hok'])
    have E2 := Lib.hid (show b = false by rw [← HBb.out, added_no hok'])
    have HLk := Lib.hid hl'
    clear hl hl' hok'
    refine (StoreOk.ok_s _ p m cap l HM.out (by omega) (KK.out.on HBU.out)).mono ?_
    rintro e w3 ⟨rfl, hb3⟩
    rw [HLk.out]
    obtain ⟨hc3, hf3⟩ := BelowKit.bcell hb3
    have v0 := (hc3 _ 0 z0).trans u0
    have v2 := (hc3 _ 0 zG).trans u2
    have v3 := (hf3 _ 0 zG).trans u3
    have zG' : w.heap.size + 1 + 1 < w3.heap.size := Nat.lt_of_lt_of_le zG hb3.size
    have HB3 := Lib.hid (BelowKit.bl_trans HBU.out hb3)
    clear hc3 hf3 hb3 u0 u1 u2 u3 z0 zF zG HO3 HBU
    go_wp2_with fail
    refine (copy_s _ p m cap l HM.out hs (KK.out.on HB3.out)).mono ?_
    rintro e w5 ⟨p5, c5, rfl, ho, hb⟩
    rw [HM.out] at ho ⊢
    obtain ⟨hc4, hf4⟩ := BelowKit.bcell hb
    have v1 := (hc4 _ 0 zG').trans v2
    have v4 := (hf4 _ 0 zG').trans v3
    have HO := Lib.hid ((ho.beside (g := w.heap.size + 1 + 1) (o := 0) (fun e => by have := ho.low _ e; omega) (.slice p5 m c5)).base (B' := w.heap.size) (by omega))
    have HB5 := Lib.hid (BelowKit.bl_set (BelowKit.bl_trans HB3.out hb) (a := ⟨w.heap.size + 1 + 1, 0, none⟩) (.slice p5 m c5) (by simp; omega))
    clear hc4 hf4 hb v0 v2 v3 ho HB3
    go_wp2
    refine bodyPost_ret (v := .tuple #[.agg #[.slice p5 m c5], .bool false]) (by simp [results, Try.results33, go_sem, v1]) rfl ⟨p5, c5, ?_, ?_, HB5.out⟩
    · rw [E1.out, E2.out]; simp [HM.out]
    · rw [E1.out]; simpa [HM.out] using HO.out
end Go.Proofs.Ytdmkceaonfbebaa.AddFact
