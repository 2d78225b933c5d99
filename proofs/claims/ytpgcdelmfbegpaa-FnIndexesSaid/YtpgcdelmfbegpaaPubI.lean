/- Contracts of slices.Clone on points and of the program's Publish. -/
import Derived.Test.YtpgcdelmfbegpaaRows
import Derived.Test.YtpgcdelmfbegpaaPub
import Derived.Test.YtpgcdelmfbegpaaSerI
import Derived.WalkSpells
namespace Go.Proofs.Ytpgcdelmfbegpaa.PubI
open Go.RowKit RowN TPoint PointMath Box Pub
def IsCl (l : List El) (w : World) (e : Ending) (w' : World) : Prop := ∃ p c, e = .returned (.slice p l.length c) ∧ Owns fc 3 w' w.heap.size T (.slice p l.length c) l ∧ Below w.heap.size w w'
set_option maxHeartbeats 1000000 in
set_option maxRecDepth 100000 in
theorem clone_i (w : World) (a : Option Addr) (m cap : Nat) (l : List El) (hm : l.length = m) (hs : m ≤ 1048576) (h : Reads fc 3 w a l) :
    Calls Try.prog 38 #[.slice a m cap] w (IsCl l w) := by
  have KK := Lib.hid h
  have HM := Lib.hid hm
  have hq : ∀ W : World, (binOp .eql 24 (.slice a m cap) (.slice none 0 0)).run Try.prog W = .ok (.bool a.isNone) W := fun W => Lib.run_eql_slice_nil W _ _ a m cap 0 0 Try.underlying24
  clear h hm
  cases a with
  | none =>
    have hl : l = [] := by
      cases l with
      | nil => rfl
      | cons x r => obtain ⟨_, _, e, _⟩ := read KK.out 0 (by simp); cases e
    have HL := Lib.hid hl
    clear hl
    go_enter Try.func38, Try.ntmps38
    go_wp2
    go_ret
    exact ⟨none, 0, by rw [HL.out]; rfl, by rw [HL.out]; exact Owns.nil _ _ _, by (repeat (first | exact Below.refl _ _ | apply BelowKit.bl_alloc | apply BelowKit.bl_drewN | apply BelowKit.bl_drew | (refine BelowKit.bl_set ?_ _ ?_; rotate_left; (first | omega | (simp; omega) | simp)) | (refine BelowKit.bl_trans ?_ (‹Hid (Below _ _ _)›).out)))⟩
  | some ad =>
    go_enter Try.func38, Try.ntmps38
    go_wp2_with (
      at_builtin
      refine wpList_append_readsN ft fw _ rfl (.tmp 5) (.tmp 6) rfl w.heap.size (.slice (some ⟨w.heap.size, 0, none⟩) 0 0) [] rfl ?c1 (some ad) cap m l HM.out rfl ?c2 ?c3 ?c4 ?_
      rotate_left 4
      intro v' w' hown' hg' hat'
      obtain ⟨p', c', rfl, _⟩ := hown'.form fw
      have HB := Lib.hid ((BelowKit.bl_alloc (Below.refl w.heap.size w)).grown hg' (by first | omega | (simp; done) | (simp; omega)) (by first | (simp [Value.ownBlock]; done) | (simp [Value.ownBlock]; omega)))
      have HO := Lib.hid hown'
      clear hown' hg' hat')
    case c1 => simpa using Owns.made (f := fc) (c := 3) w w.heap.size T (Nat.le_refl _)
    case c2 => exact KK.out.on (by (repeat (first | exact Below.refl _ _ | apply BelowKit.bl_alloc | apply BelowKit.bl_drewN | apply BelowKit.bl_drew | (refine BelowKit.bl_set ?_ _ ?_; rotate_left; (first | omega | (simp; omega) | simp)) | (refine BelowKit.bl_trans ?_ (‹Hid (Below _ _ _)›).out))))
    case c3 => simp; omega
    case c4 => simp
    go_ret
    exact ⟨p', c', rfl, HO.out, HB.out⟩
/-- The series that the region lays: its block holds a row that owns the points and the new one. -/
def Laid (W : World) (l : List El) (x : El) (g : Nat) (p : Option Addr) (c : Nat) (w : World) : Prop := Below W.heap.size W w ∧ W.heap.size ≤ g ∧ g < w.heap.size ∧ w.heap[g]? = some (.cells #[.slice p (l.length + 1) c] 26 (0, 0)) ∧ Owns fc 3 w W.heap.size T (.slice p (l.length + 1) c) (l ++ [x])
set_option maxHeartbeats 8000000 in
theorem pub_i (w : World) (p : Option Addr) (m cap : Nat) (l : List El) (x : El) (hm : l.length = m) (hs : m ≤ 1048576) (h : Reads fc 3 w p l) :
    Calls Try.prog 13 #[.agg #[.slice p m cap], .agg #[.int .i64 x.Month, .int .i64 x.Known, .int .i64 x.Value]] w (IsPub (added l x).1 (added l x).2 w) := by
  have KK := Lib.hid h
  have HM := Lib.hid hm
  clear h hm
  go_enter Try.func13, Try.ntmps13
  go_wp2_with fail
  obtain ⟨W, hW⟩ : ∃ W, W = ((w.alloc (.cells #[.slice p m cap] 26)).alloc (.cells #[.int .i64 x.Month, .int .i64 x.Known, .int .i64 x.Value] 31)).alloc (.cells #[.slice none 0 0] 26) := ⟨_, rfl⟩
  rw [← hW]
  have hbW : Below w.heap.size w W := by rw [hW]; (repeat (first | exact Below.refl _ _ | apply BelowKit.bl_alloc | apply BelowKit.bl_drewN | apply BelowKit.bl_drew | (refine BelowKit.bl_set ?_ _ ?_; rotate_left; (first | omega | (simp; omega) | simp)) | (refine BelowKit.bl_trans ?_ (‹Hid (Below _ _ _)›).out)))
  have hzW : W.heap.size = w.heap.size + 1 + 1 + 1 := by rw [hW]; simp
  have c0 : W.cell? ⟨w.heap.size, 0, none⟩ = some (.slice p m cap) := by rw [hW]; simp [go_sem]
  have d0 : W.cell? ⟨w.heap.size + 1, 0, none⟩ = some (.int .i64 x.Month) := by rw [hW]; simp [go_sem]
  have d1 : W.cell? ⟨w.heap.size + 1, 1, none⟩ = some (.int .i64 x.Known) := by rw [hW]; simp [go_sem]
  have d2 : W.cell? ⟨w.heap.size + 1, 2, none⟩ = some (.int .i64 x.Value) := by rw [hW]; simp [go_sem]
  have y1 : W.cell? ⟨w.heap.size + 1 + 1, 0, none⟩ = some (.slice none 0 0) := by rw [hW]; simp [go_sem]
  have y2 : W.frozen? ⟨w.heap.size + 1 + 1, 0, none⟩ = false := by rw [hW]; simp [go_sem]
  clear hW
  refine RegInv.wp_region_inv (fun L a w' => ∃ v6 v7 v8 v9 v10 v11 v12 v13, a = ⟨#[.agg #[.slice p m cap], .agg #[.int .i64 x.Month, .int .i64 x.Known, .int .i64 x.Value], .pointer (some ⟨w.heap.size, 0, none⟩), .pointer (some ⟨w.heap.size + 1, 0, none⟩), .pointer (some ⟨w.heap.size + 1 + 1, 0, none⟩), .bool false, v6, v7, v8, v9, v10, v11, v12, v13, undef, undef, undef, undef, undef, undef, undef, undef], []⟩ ∧ Inv W l x p m cap w.heap.size L v6 v7 v8 v9 v10 v11 v12 v13 w') (by kernel_rfl) (by kernel_rfl) ?_ ?_ ?_
  · exact ⟨_, _, _, _, _, _, _, _, rfl, ⟨below_drewN (Below.refl _ _) 1, nofun, nofun, nofun, nofun, nofun, nofun, nofun, nofun, nofun, nofun, nofun⟩⟩
  · rintro L i o a w1 hi hL hd ⟨v6, v7, v8, v9, v10, v11, v12, v13, rfl, hI⟩
    have hi9 : i < 9 := (Array.getElem?_eq_some_iff.1 hi).1
    have hz1 := hI.bel.size
    obtain ⟨hc, hf⟩ := BelowKit.bcell hI.bel
    rcases (show i = 0 ∨ i = 1 ∨ i = 2 ∨ i = 3 ∨ i = 4 ∨ i = 5 ∨ i = 6 ∨ i = 7 ∨ i = 8 from by omega) with rfl | rfl | rfl | rfl | rfl | rfl | rfl | rfl | rfl
    · obtain rfl := Option.some.inj hi
      clear hc hf
      refine RegInv.step_run rfl rfl ?_
      go_simp
      exact ⟨_, _, ⟨rfl, rfl⟩, _, _, _, _, _, _, _, _, ⟨rfl, rfl, rfl, rfl, rfl, rfl, rfl, rfl⟩, ⟨hI.bel, fun _ => rfl, hI.h1, hI.h2, hI.h3, hI.h4, hI.h5, hI.h6, hI.h7, hI.h8, hI.c6, hI.c8⟩⟩
    · obtain rfl := Option.some.inj hi
      have e0 := hI.h0 (hd ⟨0, .data⟩ (by simp) rfl)
      subst e0
      have c0' := (hc w.heap.size 0 (by omega)).trans c0
      clear hc hf
      refine RegInv.step_run rfl rfl ?_
      go_simp
      exact ⟨_, _, ⟨rfl, rfl⟩, _, _, _, _, _, _, _, _, ⟨rfl, rfl, rfl, rfl, rfl, rfl, rfl, rfl⟩, ⟨hI.bel, hI.h0, fun _ => rfl, hI.h2, hI.h3, hI.h4, hI.h5, hI.h6, hI.h7, hI.h8, hI.c6, hI.c8⟩⟩
    · obtain rfl := Option.some.inj hi
      have e1 := hI.h1 (hd ⟨1, .data⟩ (by simp) rfl)
      subst e1
      refine RegInv.step_fn #[.slice p m cap] rfl Try.func38 (by kernel_rfl) (by kernel_rfl) rfl ((clone_i w1 p m cap l HM.out hs (KK.out.on (BelowKit.bl_trans hbW hI.bel))).mono ?_)
      rintro e w2 ⟨p', c', rfl, ho, hb⟩
      exact ⟨_, rfl, _, _, _, _, _, _, _, _, rfl, ⟨BelowKit.bl_trans hI.bel hb, hI.h0, hI.h1, fun _ _ => ho.base hz1, hI.h3, fun a b => (hI.h4 a b).below hb, fun a => (hI.h5 a).on hb, hI.h6, fun a b => (hI.h7 a b).below hb, fun a => (hI.h8 a).below hb, hI.c6, hI.c8⟩⟩
    · obtain rfl := Option.some.inj hi
      have d0' := (hc (w.heap.size + 1) 0 (by omega)).trans d0
      have d1' := (hc (w.heap.size + 1) 1 (by omega)).trans d1
      have d2' := (hc (w.heap.size + 1) 2 (by omega)).trans d2
      clear hc hf
      refine RegInv.step_run rfl rfl ?_
      go_simp
      exact ⟨_, _, ⟨rfl, rfl⟩, _, _, _, _, _, _, _, _, ⟨rfl, rfl, rfl, rfl, rfl, rfl, rfl, rfl⟩, ⟨hI.bel, hI.h0, hI.h1, hI.h2, fun _ => rfl, hI.h4, hI.h5, hI.h6, hI.h7, hI.h8, hI.c6, hI.c8⟩⟩
    · obtain rfl := Option.some.inj hi
      have e3 := hI.h3 (hd ⟨3, .data⟩ (by simp) rfl)
      subst e3
      clear hc hf
      have hb := BelowKit.bl_alloc (o := .cells #[.int .i64 x.Month, .int .i64 x.Known, .int .i64 x.Value] 31) (Below.refl w1.heap.size w1)
      refine RegInv.step_run rfl rfl ?_
      unfold fv
      go_simp
      exact ⟨_, _, ⟨rfl, rfl⟩, _, _, _, _, _, _, _, _, ⟨rfl, rfl, rfl, rfl, rfl, rfl, rfl, rfl⟩, ⟨BelowKit.bl_trans hI.bel hb, hI.h0, hI.h1, fun a b => (hI.h2 a b).on hb, hI.h3, fun _ _ => Row.new _ _ _ hz1, fun a => (hI.h5 a).on hb, hI.h6, fun a b => (hI.h7 a b).below hb, fun a => (hI.h8 a).below hb, hI.c6, hI.c8⟩⟩
    · obtain rfl := Option.some.inj hi
      have ho := hI.h2 (hd ⟨2, .data⟩ (by simp) rfl) hL
      obtain ⟨g4, rfl, hg1, hg2, hg3⟩ := hI.h4 (hd ⟨4, .data⟩ (by simp) rfl) hL
      have h6 : L 6 = true → False := fun e => by have := hI.c6 e; rw [hL] at this; cases this
      have h8 : L 8 = true → False := fun e => h6 (hI.c8 e).1
      obtain ⟨v', w', hr, ho2, hgw, _⟩ := run_appendN ft fw w1 24 W.heap.size v9 l ho ⟨g4, 0, none⟩ 1 [x] (news_block hg3) (by have := HM.out; simp; omega) hz1
      refine RegInv.step_run rfl rfl ⟨v', w', Fresh.run_appended _ rfl rfl rfl hr, ?_⟩
      exact ⟨_, _, _, _, _, _, _, _, rfl, ⟨hI.bel.grown hgw hz1 ho.low, hI.h0, hI.h1, fun _ b => absurd (show true = false from b) (by decide), hI.h3, fun _ b => absurd (show true = false from b) (by decide), fun _ => ho2, fun a => (h6 a).elim, fun a b => (hI.h7 a b).grown ho hgw, fun a => (h8 a).elim, fun _ => rfl, hI.c8⟩⟩
    · obtain rfl := Option.some.inj hi
      have h5 := hd ⟨5, .data⟩ (by simp) rfl
      obtain ⟨p', c', e12, _⟩ := (hI.h5 h5).form fw
      rw [show (l ++ [x]).length = l.length + 1 by simp] at e12
      subst e12
      clear hc hf
      refine RegInv.step_run rfl rfl ?_
      go_simp
      exact ⟨_, _, ⟨rfl, rfl⟩, _, _, _, _, _, _, _, _, ⟨rfl, rfl, rfl, rfl, rfl, rfl, rfl, rfl⟩, ⟨hI.bel, hI.h0, hI.h1, hI.h2, hI.h3, hI.h4, hI.h5, fun _ => rfl, hI.h7, hI.h8, fun _ => h5, fun a => ⟨rfl, (hI.c8 a).2⟩⟩⟩
    · obtain rfl := Option.some.inj hi
      have h8 : L 8 = true → False := fun e => by have := (hI.c8 e).2; rw [hL] at this; cases this
      have hb := BelowKit.bl_alloc (o := .cells #[.slice none 0 0] 26) (Below.refl w1.heap.size w1)
      clear hc hf
      refine RegInv.step_run rfl rfl ?_
      go_simp
      exact ⟨_, _, ⟨rfl, rfl⟩, _, _, _, _, _, _, _, _, ⟨rfl, rfl, rfl, rfl, rfl, rfl, rfl, rfl⟩, ⟨BelowKit.bl_trans hI.bel hb, hI.h0, hI.h1, fun a b => (hI.h2 a b).on hb, hI.h3, fun a b => (hI.h4 a b).below hb, fun a => (hI.h5 a).on hb, hI.h6, fun _ _ => Blk.new _ _ _ hz1, fun a => (h8 a).elim, hI.c6, fun a => (h8 a).elim⟩⟩
    · obtain rfl := Option.some.inj hi
      have h6 := hd ⟨6, .data⟩ (by simp) rfl
      have h7 := hd ⟨7, .data⟩ (by simp) rfl
      have h5 := hI.c6 h6
      have ho := hI.h5 h5
      have e6 := hI.h6 h6
      have hB := hI.h7 h7 hL
      obtain ⟨p', c', e12, _⟩ := ho.form fw
      rw [show (l ++ [x]).length = l.length + 1 by simp] at e12
      subst e12
      obtain ⟨g, rfl, hg1, hg2, hg3⟩ := hB
      subst e6
      have q1 := cell_of_one hg3
      have q2 := free_of_one hg3
      clear hc hf
      refine RegInv.step_skip rfl rfl ?_
      go_simp
      exact ⟨_, _, _, _, _, _, _, _, ⟨rfl, rfl, rfl, rfl, rfl, rfl, rfl, rfl⟩, ⟨hI.bel.setCell (p := ⟨g, 0, none⟩) hg1 _, hI.h0, hI.h1, fun _ b => absurd (show true = false from h5.symm.trans b) (by decide), hI.h3, fun _ b => absurd (show true = false from h5.symm.trans b) (by decide), fun _ => ho.beside (apart ho hg3) _, hI.h6, fun _ b => absurd (show true = false from b) (by decide), fun _ => Blk.set ⟨g, rfl, hg1, hg2, hg3⟩, hI.c6, fun _ => ⟨h6, h7⟩⟩⟩
  · rintro L a w1 hL ⟨v6, v7, v8, v9, v10, v11, v12, v13, rfl, hI⟩
    have ho := hI.h5 (hL 5 (by decide))
    have hB := hI.h8 (hL 8 (by decide))
    have hbel := hI.bel
    obtain ⟨hc, hf⟩ := BelowKit.bcell hbel
    obtain ⟨p', c', rfl, _⟩ := ho.form fw
    obtain ⟨g, rfl, hg1, hg2, hg3⟩ := hB
    have hl1 : (l ++ [x]).length = m + 1 := by have := HM.out; simp; omega
    rw [hl1] at hg3 ho
    have q0 := cell_of_one hg3
    have c0' := (hc w.heap.size 0 (by omega)).trans c0
    have y1' := (hc (w.heap.size + 1 + 1) 0 (by omega)).trans y1
    have y2' := (hf (w.heap.size + 1 + 1) 0 (by omega)).trans y2
    have hzz := hbel.size
    have z0 : w.heap.size < w1.heap.size := by omega
    have zG : w.heap.size + 1 + 1 < w1.heap.size := by omega
    have HO := Lib.hid (ho.base (B' := w.heap.size) (by omega))
    have HLO := Lib.hid (show ∀ k, (Value.slice p' (m + 1) c').ownBlock = some k → w.heap.size + 1 + 1 < k from fun k hk => by have := ho.low k hk; omega)
    have HB1 := Lib.hid (BelowKit.bl_trans hbW hbel)
    clear hL hI ho hbel hc hf hg1 hg3 hzz c0 d0 d1 d2 y1 y2 hbW hzW
    go_wp2_with fail
    refine (SerI.ok_i _ p' (m + 1) c' (l ++ [x]) (by simp [HM.out]) (by omega) (reads_own fw HO.out)).mono ?_
    rintro e w2 ⟨rfl, hb2⟩
    obtain ⟨hc, hf⟩ := BelowKit.bcell hb2
    have r0 := (hc g 0 hg2).trans q0
    have c0 := (hc _ 0 z0).trans c0'
    have y1 := (hc _ 0 zG).trans y1'
    have y2 := (hf _ 0 zG).trans y2'
    have z0' : w.heap.size < w2.heap.size := Nat.lt_of_lt_of_le z0 hb2.size
    have zG' : w.heap.size + 1 + 1 < w2.heap.size := Nat.lt_of_lt_of_le zG hb2.size
    have hg2' : g < w2.heap.size := Nat.lt_of_lt_of_le hg2 hb2.size
    have HO2 := Lib.hid (HO.out.on hb2)
    have HB2 := Lib.hid (BelowKit.bl_trans HB1.out hb2)
    clear hb2 hc hf q0 c0' y1' y2' z0 zG hg2 HO HB1
    by_cases hok : okS (l ++ [x]) = true
    · have E := Lib.hid (added_yes hok)
      rw [hok]
      clear hok
      go_wp2
      refine bodyPost_ret (v := .tuple #[.agg #[.slice p' (m + 1) c'], .bool true]) (by simp [results, Try.results13, go_sem, y1]) rfl ⟨p', c', ?_, ?_, BelowKit.bl_set HB2.out (a := ⟨w.heap.size + 1 + 1, 0, none⟩) _ (by simp; omega)⟩
      · rw [E.out]; simp [HM.out]
      · rw [E.out]
        have := HO2.out.beside (g := w.heap.size + 1 + 1) (o := 0) (fun e => by have := HLO.out _ e; omega) (.slice p' (m + 1) c')
        simpa [HM.out] using this
    · have hok' : okS (l ++ [x]) = false := by simpa using hok
      have E := Lib.hid (added_no hok')
      rw [hok']
      clear hok hok'
      go_wp2_with fail
      refine (clone_i _ p m cap l HM.out hs (KK.out.on HB2.out)).mono ?_
      rintro e w3 ⟨p5, c5, rfl, ho, hb⟩
      rw [HM.out] at ho ⊢
      obtain ⟨hc4, hf4⟩ := BelowKit.bcell hb
      have v1 := (hc4 _ 0 zG').trans y1
      have v2 := (hf4 _ 0 zG').trans y2
      have HO3 := Lib.hid ((ho.beside (g := w.heap.size + 1 + 1) (o := 0) (fun e => by have := ho.low _ e; omega) (.slice p5 m c5)).base (B' := w.heap.size) (by omega))
      have HB3 := Lib.hid (BelowKit.bl_set (BelowKit.bl_trans HB2.out hb) (a := ⟨w.heap.size + 1 + 1, 0, none⟩) (.slice p5 m c5) (by simp; omega))
      clear hc4 hf4 hb r0 c0 y1 y2 ho HB2
      go_wp2
      refine bodyPost_ret (v := .tuple #[.agg #[.slice p5 m c5], .bool false]) (by simp [results, Try.results13, go_sem, v1]) rfl ⟨p5, c5, ?_, ?_, HB3.out⟩
      · rw [E.out]; simp [HM.out]
      · rw [E.out]; simpa [HM.out] using HO3.out
end Go.Proofs.Ytpgcdelmfbegpaa.PubI
