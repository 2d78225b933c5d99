/- Contracts of the drawn series. -/
import Derived.Test.YtpgcdelmfbegpaaRows
import Derived.Test.YtpgcdelmfbegpaaPointMath
import Derived.Test.YtpgcdelmfbegpaaDrawCur
import Derived.Test.YtpgcdelmfbegpaaCur
import Derived.Test.YtpgcdelmfbegpaaCurKit
import Derived.Test.YtpgcdelmfbegpaaCurByte
import Derived.Test.YtpgcdelmfbegpaaBelowKit
import Derived.Test.YtpgcdelmfbegpaaFresh
import Derived.Deep.RegionLaw
import Derived.Lib.Hide
namespace Go.Proofs.Ytpgcdelmfbegpaa.DrawSer
open Go.RowKit CurKit CurByte Cur RowN TPoint PointMath BelowKit DrawCur
theorem new1 (w : World) (x : El) (g : Nat) (hg : w.heap.size = g) : ∀ j u, ([x].flatMap fc)[j]? = some u →
    (w.alloc (.cells #[.int .i64 x.Month, .int .i64 x.Known, .int .i64 x.Value] 31)).cell? ((⟨g, 0, none⟩ : Addr).add j) = some u := by
  subst hg
  exact news_block (T := 31) (heap_alloc_new w _)
/-- A drawn point that became known in the month n. -/
structure DPt (n : Int) (x : El) : Prop where
  m : 0 ≤ x.Month ∧ x.Month ≤ n
  k : x.Known = n
  v : 9000 ≤ x.Value ∧ x.Value ≤ 12999
theorem DPt.ok {n : Int} {x : El} (h : DPt n x) (h1 : n ≤ 3599) : okP x = true :=
  okP_yes ⟨h.m.1, by rw [h.k]; exact h.m.2, by rw [h.k]; exact h1, by have := h.v.1; omega, by have := h.v.2; omega⟩
/-- A drawn series: points in the order in which they became known, the last one in the month kn or before. -/
structure DSer (kn : Int) (l : List El) : Prop where
  len : l.length ≤ 9
  each : ∀ x ∈ l, ∃ n, 0 ≤ n ∧ n ≤ kn ∧ DPt n x
  order : ∀ i (h : i + 1 < l.length), l[i].Known ≤ l[i + 1].Known
theorem DSer.nil (kn : Int) : DSer kn [] := ⟨by simp, by simp, fun i h => by simp at h⟩
theorem DSer.snoc {kn kn' : Int} {l : List El} {x : El} (h : DSer kn l) (hl : l.length < 9) (h0 : 0 ≤ kn) (hk : kn ≤ kn') (hx : DPt kn' x) : DSer kn' (l ++ [x]) := by
  refine ⟨by simp; omega, fun y hy => ?_, fun i hi => ?_⟩
  · rcases List.mem_append.1 hy with hy | hy
    · obtain ⟨n, h1, h2, h3⟩ := h.each y hy
      exact ⟨n, h1, by omega, h3⟩
    · obtain rfl : y = x := by simpa using hy
      exact ⟨kn', by omega, Int.le_refl _, hx⟩
  · by_cases h1 : i + 1 < l.length
    · rw [List.getElem_append_left h1, List.getElem_append_left (show i < l.length by omega)]; exact h.order i h1
    · have e1 : i + 1 = l.length := by simp at hi; omega
      have e2 : (l ++ [x])[i + 1] = x := by simp [e1]
      rw [e2, List.getElem_append_left (show i < l.length by omega), hx.k]
      obtain ⟨n, _, h2, h3⟩ := h.each l[i] (List.getElem_mem _)
      rw [h3.k]
      omega
theorem DSer.ok {kn : Int} {l : List El} (h : DSer kn l) (h1 : kn ≤ 3599) : OkS l := ⟨by have := h.len; omega, fun i hi => by
    obtain ⟨n, h2, h3, h4⟩ := h.each l[i] (List.getElem_mem hi)
    exact h4.ok (by omega), h.order⟩
theorem lt_of_max {y n : Int} (h : y < max n 1) (h0 : 1 ≤ n) : y < n := by
  rw [Int.max_eq_left (by omega)] at h
  exact h
theorem wrap_9000 {y : Nat} (h : (y : Int) < 4000) : IntKind.i64.wrap (9000 + (y : Int)) = 9000 + (y : Int) := IntWalk.i64_in _ (by omega)
theorem le_of_max {y k : Int} (h : y < max (k + 1) 1) (h0 : 0 ≤ k) : y ≤ k := by
  rw [Int.max_eq_left (by omega)] at h
  omega
def SomeSer (R : World → World → Prop) (w : World) (e : Ending) (w' : World) : Prop := ∃ (l : List El) (p : Option Addr) (c : Nat), DSer 108 l ∧ e = .returned (.agg #[.slice p l.length c]) ∧ Owns fc 3 w' w.heap.size T (.slice p l.length c) l ∧ R w w'
set_option maxHeartbeats 4000000 in
theorem series_c (w0 w : World) (b : Nat) (a : Option Addr) (len cap : Nat) (hc : CurIn 85 w0 w b a len cap) :
    Calls Try.prog 35 #[.pointer (some ⟨b, 0, none⟩)] w (SomeSer (fun w w' => Goes w0 w b a len cap w') w) := by
  have HC := Lib.hid hc
  have hbl := hc.lt
  have hlo := hc.low
  clear hc
  go_enter Try.func35, Try.ntmps35
  go_wp2
  go_loopw [4, 5] (fun kv i wr => ∃ (j : Nat) (kn : Int) (l : List El) (s : Value), j ≤ 9 ∧ i = .int .i64 (j : Int) ∧ kv = .int .i64 kn ∧ 0 ≤ kn ∧ kn ≤ 9 + 11 * (j : Int) ∧ l.length = j ∧ Hid (DSer kn l) ∧
      wr.cell? ⟨w.heap.size, 0, none⟩ = some (.slice none 0 0) ∧ wr.frozen? ⟨w.heap.size, 0, none⟩ = false ∧ wr.cell? ⟨w.heap.size + 1, 0, none⟩ = some s ∧ wr.frozen? ⟨w.heap.size + 1, 0, none⟩ = false ∧ w.heap.size + 1 < wr.heap.size ∧
      Hid (Owns fc 3 wr (w.heap.size + 1 + 1) T s l) ∧ Hid (Goes w0 w b a len cap wr)) (fun _ i _ => 9 - (intOf i).toNat)
  case atStart => exact ⟨0, 0, [], .slice none 0 0, by omega, rfl, rfl, by omega, by omega, rfl, Lib.hid (DSer.nil _), by simp [go_sem], by simp [go_sem], by simp [go_sem], by simp [go_sem], by simp, Lib.hid (Owns.nil _ _ _), Lib.hid ⟨(HC.out.alloc _).alloc _, (World.grownBy_alloc w _ _).trans (World.grownBy_alloc _ _ _)⟩⟩
  case round =>
    obtain ⟨j, kn, l, s, hj, rfl, rfl, hk0, hk1, hlen, HD, q1, r1, q2, r2, z1, HO, HG⟩ := hrel
    have HLE := Lib.hid hlen
    clear hlen
    go_wp2_with fail
    refine (below_c w0 _ b a len cap 10 HG.out.1 (by omega)).mono ?_
    rintro e w2 ⟨x2, hx2, rfl, h2⟩
    have p1 := (cur_far (o := 0) h2.2 (show w.heap.size < wr.heap.size by omega) (by omega)).1.trans q1
    have p2 := (cur_far (o := 0) h2.2 (show w.heap.size + 1 < wr.heap.size by omega) (by omega)).1.trans q2
    have t1 := (cur_far (o := 0) h2.2 (show w.heap.size < wr.heap.size by omega) (by omega)).2.trans r1
    have t2 := (cur_far (o := 0) h2.2 (show w.heap.size + 1 < wr.heap.size by omega) (by omega)).2.trans r2
    have z2 : w.heap.size + 1 < w2.heap.size := Nat.lt_of_lt_of_le z1 h2.2.size
    have HO2 := Lib.hid (HO.out.kept h2.2 (.inr (fun e => by have := HO.out.low b e; omega)))
    have HG2 := Lib.hid (goes_trans HG.out.2 h2)
    have y2 : (x2 : Int) < 10 := by omega
    clear h2 hx2 q1 q2 r1 r2 z1 HO HG
    by_cases hlt : (j : Int) < (x2 : Int)
    · go_wp2_with fail
      refine (below_c w0 _ b a len cap 12 HG2.out.1 (by omega)).mono ?_
      rintro e w3 ⟨x3, hx3, rfl, h3⟩
      have q1 := (cur_far (o := 0) h3.2 (show w.heap.size < w2.heap.size by omega) (by omega)).1.trans p1
      have q2 := (cur_far (o := 0) h3.2 (show w.heap.size + 1 < w2.heap.size by omega) (by omega)).1.trans p2
      have r1 := (cur_far (o := 0) h3.2 (show w.heap.size < w2.heap.size by omega) (by omega)).2.trans t1
      have r2 := (cur_far (o := 0) h3.2 (show w.heap.size + 1 < w2.heap.size by omega) (by omega)).2.trans t2
      have z3 : w.heap.size + 1 < w3.heap.size := Nat.lt_of_lt_of_le z2 h3.2.size
      have HO3 := Lib.hid (HO2.out.kept h3.2 (.inr (fun e => by have := HO2.out.low b e; omega)))
      have HG3 := Lib.hid (goes_trans HG2.out.2 h3)
      have y3 : (x3 : Int) < 12 := by omega
      clear h3 hx3 p1 p2 t1 t2 z2 HO2 HG2
      go_wp2_with fail
      have k0 : 0 ≤ kn + (x3 : Int) := by omega
      have k1 : kn + (x3 : Int) ≤ 9 + 11 * ((j : Int) + 1) := by omega
      have jlt : j < 9 := by omega
      have HF : Hid (∀ (w4 : World), Goes w0 w3.drew b a len cap w4 → (w4.cell? ⟨w.heap.size, 0, none⟩ = some (.slice none 0 0) ∧ w4.frozen? ⟨w.heap.size, 0, none⟩ = false) ∧ w4.cell? ⟨w.heap.size + 1, 0, none⟩ = some s ∧ w.heap.size + 1 < w4.heap.size ∧ Owns fc 3 w4 (w.heap.size + 1 + 1) T s l ∧
          ∀ (o : Obj) (w5 : World), (w4.alloc o).grownBy w5 s.ownBlock →
            (w5.cell? ⟨w.heap.size, 0, none⟩ = some (.slice none 0 0) ∧ w5.frozen? ⟨w.heap.size, 0, none⟩ = false) ∧ w5.cell? ⟨w.heap.size + 1, 0, none⟩ = some s ∧ w5.frozen? ⟨w.heap.size + 1, 0, none⟩ = false ∧ w.heap.size + 1 < w5.heap.size ∧ Goes w0 w b a len cap w5) := by
        refine Lib.hid fun w4 h4 => ?_
        have z4 : w.heap.size + 1 < w4.heap.size := Nat.lt_of_lt_of_le z3 h4.2.size
        have HO4 : Owns fc 3 w4 (w.heap.size + 1 + 1) T s l := HO3.out.drew.kept h4.2 (.inr (fun e => by have := HO3.out.low b e; omega))
        have a1 := (cur_far (o := 0) h4.2 (show w.heap.size < w3.drew.heap.size from (by show w.heap.size < w3.heap.size; omega)) (by omega)).1.trans q1
        have a2 := (cur_far (o := 0) h4.2 (show w.heap.size + 1 < w3.drew.heap.size from z3) (by omega)).1.trans q2
        have a3 := (cur_far (o := 0) h4.2 (show w.heap.size < w3.drew.heap.size from (by show w.heap.size < w3.heap.size; omega)) (by omega)).2.trans r1
        have a4 := (cur_far (o := 0) h4.2 (show w.heap.size + 1 < w3.drew.heap.size from z3) (by omega)).2.trans r2
        have G4 : Goes w0 w b a len cap w4 := goes_trans (HG3.out.2.drewN 1) h4
        refine ⟨⟨a1, a3⟩, a2, z4, HO4, fun o w5 hg => ?_⟩
        have hlow := HO4.low
        have h45 : Below (w.heap.size + 1 + 1) w4 w5 := ((Below.refl _ _).alloc (by omega) _).grown hg (by first | omega | (simp; done) | (simp; omega)) hlow
        refine ⟨⟨(h45.cell (p := ⟨w.heap.size, 0, none⟩) (by show w.heap.size < _; omega)).trans a1, (h45.frozen (p := ⟨w.heap.size, 0, none⟩) (by show w.heap.size < _; omega)).trans a3⟩, (h45.cell (p := ⟨w.heap.size + 1, 0, none⟩) (by show w.heap.size + 1 < _; omega)).trans a2,
          (h45.frozen (p := ⟨w.heap.size + 1, 0, none⟩) (by show w.heap.size + 1 < _; omega)).trans a4, Nat.lt_of_lt_of_le z4 h45.size, G4.1.below h45 (by omega), ?_⟩
        exact ⟨h45.os.trans G4.2.os, h45.tape.trans G4.2.tape, h45.output.trans G4.2.output, Nat.le_trans G4.2.size h45.size, fun k hk hne => (h45.block k (by omega)).trans (G4.2.block k hk hne)⟩
      have HK3 := Lib.hid (show 0 ≤ kn + (x3 : Int) from k0)
      have hwr : IntKind.i64.wrap (kn + (x3 : Int) + 1) = kn + (x3 : Int) + 1 := IntWalk.i64_in _ (by omega)
      go_region_law (first
        | ((refine Fresh.step_call #[.pointer (some ⟨b, 0, none⟩), .int .i64 (kn + (x3 : Int) + 1)] Try.func37 ?_ ?_ rfl ?_; kernel_rfl; kernel_rfl; refine (below_c w0 _ b a len cap (kn + (x3 : Int) + 1) (cur_drew HG3.out.1) ?_).mono ?_; omega; rintro e w4 ⟨y1, hy1, rfl, h4⟩; refine ⟨_, rfl, ?_⟩; obtain ⟨_, v2, v3, HO4, _⟩ := HF.out _ h4; have i1 := le_of_max hy1 HK3.out; have H4 := Lib.hid h4; clear hy1 HO4 h4))
        | ((refine Fresh.step_call #[.pointer (some ⟨b, 0, none⟩), .int .i64 4000] Try.func37 ?_ ?_ rfl ?_; kernel_rfl; kernel_rfl; refine (below_c w0 _ b a len cap 4000 H4.out.1 ?_).mono ?_; omega; rintro e w5 ⟨y2, hy2, rfl, h5⟩; refine ⟨_, rfl, ?_⟩; obtain ⟨_, v2', v3', HO5, h6⟩ := HF.out _ (goes_trans H4.out.2 h5); have i2 := lt_of_max hy2 (by decide); have hw2 := wrap_9000 i2; have H6 := Lib.hid h6; have HO5' := Lib.hid HO5; clear hy2 h6 HO5 h5))
        | ((refine step_appendN ft fw _ (o := ⟨some 29, _, _, _, _, _⟩) rfl (.tmp 18) (.tmp 28) rfl (w.heap.size + 1 + 1) s l rfl (HO5'.out.alloc _) ⟨w5.heap.size, 0, none⟩ 1 1 [⟨(y1 : Int), kn + (x3 : Int), 9000 + (y2 : Int)⟩] rfl rfl (new1 w5 _ _ rfl) ?_ ?_ ?_; (rw [HLE.out]; simp; omega); (simp; omega); intro v' w6 hown5 hg5 _; obtain ⟨p9, c9, rfl, _⟩ := hown5.form fw; obtain ⟨s1, s2, s3, s4, s5⟩ := H6.out _ _ hg5)))
      all_goals
        obtain ⟨s1, s1f⟩ := s1
        have HO' := Lib.hid (hown5.beside (g := w.heap.size + 1) (o := 0) (fun e => by have := hown5.low _ e; omega) (.slice p9 (l.length + 1) c9))
        have HG' := Lib.hid (goes_set (o := 0) s5 (show w.heap.size ≤ w.heap.size + 1 by omega) hbl (by omega) (.slice p9 (l.length + 1) c9))
        have e1 : (w6.setCell ⟨w.heap.size + 1, 0, none⟩ (.slice p9 (l.length + 1) c9)).cell? ⟨w.heap.size + 1, 0, none⟩ = some (.slice p9 (l.length + 1) c9) := by simp [go_sem, s2]
        have e2 : (w6.setCell ⟨w.heap.size + 1, 0, none⟩ (.slice p9 (l.length + 1) c9)).frozen? ⟨w.heap.size + 1, 0, none⟩ = false := by simp [go_sem, s3]
        have e3 : w.heap.size + 1 < (w6.setCell ⟨w.heap.size + 1, 0, none⟩ (.slice p9 (l.length + 1) c9)).heap.size := by simp; omega
        have e4 : (w6.setCell ⟨w.heap.size + 1, 0, none⟩ (.slice p9 (l.length + 1) c9)).cell? ⟨w.heap.size, 0, none⟩ = some (.slice none 0 0) := by simp [go_sem, s1]
        have e5 : (w6.setCell ⟨w.heap.size + 1, 0, none⟩ (.slice p9 (l.length + 1) c9)).frozen? ⟨w.heap.size, 0, none⟩ = false := by simp [go_sem, s1f]
        have HD' := Lib.hid (HD.out.snoc (x := ⟨(y1 : Int), kn + (x3 : Int), 9000 + (y2 : Int)⟩) (by rw [HLE.out]; exact jlt) hk0 (by omega) ⟨⟨by simp, i1⟩, rfl, ⟨by simp; omega, by simp; omega⟩⟩)
        have HL' := Lib.hid (show (l ++ [(⟨(y1 : Int), kn + (x3 : Int), 9000 + (y2 : Int)⟩ : El)]).length = j + 1 by simp [HLE.out])
        clear hown5 hg5 H6 HF s2 s3 s4 s5
        go_wp2
        go_roundw
        case rel => exact ⟨j + 1, kn + (x3 : Int), l ++ [⟨(y1 : Int), kn + (x3 : Int), 9000 + (y2 : Int)⟩], _, by omega, by go_num, rfl, k0, by omega, HL'.out, HD', e4, e5, e1, e2, e3, by simpa using HO', HG'⟩
        case measure => simp [intOf]; omega
    · obtain ⟨p5, c5, rfl, _⟩ := HO2.out.form fw
      go_wp2
      refine bodyPost_ret (v := .agg #[.slice p5 l.length c5]) (by simp [results, Try.results35, go_sem, p1]) rfl ⟨l, p5, c5, ?_, rfl, ?_, ?_⟩
      · exact ⟨HD.out.len, fun x hx => by obtain ⟨n, h1, h2, h3⟩ := HD.out.each x hx; exact ⟨n, h1, by omega, h3⟩, HD.out.order⟩
      · exact (HO2.out.beside (g := w.heap.size) (o := 0) (fun e => by have := HO2.out.low _ e; omega) _).base (by omega)
      · exact goes_set HG2.out (Nat.le_refl _) hbl (by omega) _
set_option maxHeartbeats 1000000 in
theorem draw_c (w : World) (a : Option Addr) (len cap : Nat) (hcode : CodeAt w a len) (hs : len ≤ maxLen) :
    Calls Try.prog 11 #[.slice a len cap] w (SomeSer (fun w w' => Below w.heap.size w w') w) := by
  have HK := Lib.hid hcode
  have HS := Lib.hid hs
  clear hcode hs
  go_enter Try.func11, Try.ntmps11
  go_wp2_with fail
  refine (new_c _ a len cap (fun j hj => by obtain ⟨blk, off, n, e, h1, h2, h3⟩ := HK.out j hj; exact ⟨blk, off, n, e, by simp; omega, ((bcell (bl_alloc (Below.refl _ _))).1 _ _ h1).trans h2, h3⟩) HS.out).mono ?_
  rintro e w1 ⟨rfl, h1⟩
  have hs1 : (w.alloc (.cells #[.slice none 0 0] 26)).heap.size = w.heap.size + 1 := by simp
  rw [hs1] at h1 ⊢
  have H1 := Lib.hid h1
  clear h1 hs1
  go_wp2_with fail
  refine (series_c _ w1 _ a len cap H1.out).mono ?_
  rintro e w2 ⟨l, p, c, hd, rfl, ho, hg⟩
  have hb := hg.1.bel
  have q1 : w2.cell? ⟨w.heap.size, 0, none⟩ = some (.slice none 0 0) := ((bcell hb).1 _ _ (by simp)).trans (by simp [go_sem])
  have HD := Lib.hid hd
  have HO := Lib.hid ho
  have HB := Lib.hid (show Below w.heap.size w w2 from bl_trans (by (repeat (first | exact Below.refl _ _ | apply BelowKit.bl_alloc | apply BelowKit.bl_drewN | apply BelowKit.bl_drew | (refine BelowKit.bl_set ?_ _ ?_; rotate_left; (first | omega | (simp; omega) | simp)) | (refine BelowKit.bl_trans ?_ (‹Hid (Below _ _ _)›).out)))) hb)
  have z1 := H1.out.bel.size
  have q2 : w2.frozen? ⟨w.heap.size, 0, none⟩ = false := ((bcell hb).2 _ _ (by simp)).trans (by simp [go_sem])
  clear hd ho hg hb
  go_wp2
  refine bodyPost_ret (v := .agg #[.slice p l.length c]) (by simp [results, Try.results11, go_sem, q1]) rfl ⟨l, p, c, HD.out, rfl, ?_, ?_⟩
  · simp at z1
    exact (HO.out.beside (g := w.heap.size) (o := 0) (fun e => by have := HO.out.low _ e; omega) _).base (by omega)
  · exact bl_set HB.out (a := ⟨w.heap.size, 0, none⟩) _ (Nat.le_refl _)
end Go.Proofs.Ytpgcdelmfbegpaa.DrawSer
