/- Contracts of the drawn facts and stores. -/
import Derived.Test.YtggnkjnpiagdpaaDoorRows
import Derived.Test.YtggnkjnpiagdpaaDoorFactRow
import Derived.Test.YtggnkjnpiagdpaaDoorFactMath
import Derived.Test.YtggnkjnpiagdpaaDoorStore
import Derived.Test.YtggnkjnpiagdpaaDoorCur
import Derived.Test.YtggnkjnpiagdpaaDoorCurKit
import Derived.Test.YtggnkjnpiagdpaaDoorCurByte
import Derived.Test.YtggnkjnpiagdpaaDoorBelowKit
import Derived.Test.YtggnkjnpiagdpaaDoorFresh
import Derived.Deep.RegionLaw
import Derived.Lib.Hide
namespace Go.Proofs.YtggnkjnpiagdpaaDoor.DrawStore
open Go.RowKit CurKit CurByte Cur RowN Fact FactRow FactMath Store BelowKit

/-- A drawn fact that is known since n. -/
structure DFa (n : Int) (x : Fa) : Prop where
  k : 1 ≤ x.k ∧ x.k ≤ 4
  f : 0 ≤ x.f ∧ x.f < 60
  t : x.f < x.t ∧ x.t ≤ x.f + 40
  n : x.n = n
  v : 0 ≤ x.v ∧ x.v ≤ 49900
theorem DFa.ok {n : Int} {x : Fa} (h : DFa n x) (h0 : 0 ≤ n) (h1 : n ≤ 3599) : okF x = true :=
  okF_yes ⟨h.k.1, by have := h.k.2; omega, h.f.1, h.t.1, by have := h.f.2; have := h.t.2; omega, by rw [h.n]; exact h0, by rw [h.n]; exact h1, by have := h.v.1; omega, by have := h.v.2; omega⟩
def SomeFa (n : Int) (R : World → Prop) (e : Ending) (w' : World) : Prop := ∃ x : Fa, DFa n x ∧ e = .returned (.agg #[.int .i64 x.k, .int .i64 x.f, .int .i64 x.t, .int .i64 x.n, .int .i64 x.v]) ∧ R w'

theorem goes_trans {w0 w w1 w2 : World} {b : Nat} {a : Option Addr} {len cap : Nat} (h : OnlyB b w w1) (k : Goes w0 w1 b a len cap w2) : Goes w0 w b a len cap w2 := ⟨k.1, h.trans k.2⟩
theorem goes_set {w0 w w' : World} {b : Nat} {a : Option Addr} {len cap g o : Nat} (h : Goes w0 w b a len cap w') (hg : w.heap.size ≤ g) (hb : b < w.heap.size) (h0 : w0.heap.size ≤ g) (v : Value) : Goes w0 w b a len cap (w'.setCell ⟨g, o, none⟩ v) := by
  obtain ⟨i, hh, hc, hi⟩ := h.1.cells
  refine ⟨⟨h.1.bel.setCell (p := ⟨g, o, none⟩) h0 v, h.1.low, h.1.code, h.1.small, i, hh, (Below.heap_setCell _ _ _ _ (show b ≠ g by omega)).trans hc, hi⟩, h.2.os, h.2.tape, h.2.output, by have := h.2.size; simpa using this, fun k hk hne => (Below.heap_setCell _ _ _ _ (show k ≠ g by omega)).trans (h.2.block k hk hne)⟩
set_option maxHeartbeats 2000000 in
theorem fact_c (w0 w : World) (b : Nat) (a : Option Addr) (len cap : Nat) (n : Int) (hc : CurIn 67 w0 w b a len cap) :
    Calls Tryd.prog 35 #[.pointer (some ⟨b, 0, none⟩), .int .i64 n] w (SomeFa n (Goes w0 w b a len cap)) := by
  have HC := Lib.hid hc
  have hbl := hc.lt
  clear hc
  go_enter Tryd.func35, Tryd.ntmps35
  go_wp2_with fail
  refine (below_c w0 _ b a len cap 60 (HC.out.alloc _) (by omega)).mono ?_
  rintro e w1 ⟨x1, hx1, rfl, h1⟩
  have H1 := Lib.hid h1
  have c1 : ∀ i, i < 5 → w1.cell? ⟨w.heap.size, i, none⟩ = some (.int .i64 0) ∧ w1.frozen? ⟨w.heap.size, i, none⟩ = false := fun i hi => ⟨(h1.2.cell_far ⟨w.heap.size, i, none⟩ (by simp) (fun e => by have := Option.some.inj e; simp at this; omega)).trans (by
      have : i = 0 ∨ i = 1 ∨ i = 2 ∨ i = 3 ∨ i = 4 := by omega
      rcases this with rfl | rfl | rfl | rfl | rfl <;> simp [go_sem]), (h1.2.frozen_far ⟨w.heap.size, i, none⟩ (by simp) (fun e => by have := Option.some.inj e; simp at this; omega)).trans (by simp [go_sem])⟩
  have C1 := Lib.hid c1
  have z1 : w.heap.size < w1.heap.size := by have := h1.2.size; simp at this; omega
  clear h1 c1
  go_wp2_with fail
  refine (below_c w0 _ b a len cap 4 H1.out.1 (by omega)).mono ?_
  rintro e w2 ⟨x2, hx2, rfl, h2⟩
  have H2 := Lib.hid (goes_trans H1.out.2 h2)
  have C2 := Lib.hid (show ∀ i, i < 5 → w2.cell? ⟨w.heap.size, i, none⟩ = some (.int .i64 0) ∧ w2.frozen? ⟨w.heap.size, i, none⟩ = false from fun i hi => ⟨(h2.2.cell_far ⟨w.heap.size, i, none⟩ z1 (fun e => by have := Option.some.inj e; simp at this; omega)).trans (C1.out i hi).1, (h2.2.frozen_far ⟨w.heap.size, i, none⟩ z1 (fun e => by have := Option.some.inj e; simp at this; omega)).trans (C1.out i hi).2⟩)
  have z2 : w.heap.size < w2.heap.size := Nat.lt_of_lt_of_le z1 h2.2.size
  clear h2 H1 C1 z1
  go_wp2_with fail
  refine (below_c w0 _ b a len cap 40 H2.out.1 (by omega)).mono ?_
  rintro e w3 ⟨x3, hx3, rfl, h3⟩
  have H3 := Lib.hid (goes_trans H2.out.2 h3)
  have C3 := Lib.hid (show ∀ i, i < 5 → w3.cell? ⟨w.heap.size, i, none⟩ = some (.int .i64 0) ∧ w3.frozen? ⟨w.heap.size, i, none⟩ = false from fun i hi => ⟨(h3.2.cell_far ⟨w.heap.size, i, none⟩ z2 (fun e => by have := Option.some.inj e; simp at this; omega)).trans (C2.out i hi).1, (h3.2.frozen_far ⟨w.heap.size, i, none⟩ z2 (fun e => by have := Option.some.inj e; simp at this; omega)).trans (C2.out i hi).2⟩)
  have z3 : w.heap.size < w3.heap.size := Nat.lt_of_lt_of_le z2 h3.2.size
  clear h3 H2 C2 z2
  go_wp2_with fail
  refine (below_c w0 _ b a len cap 500 H3.out.1 (by omega)).mono ?_
  rintro e w4 ⟨x4, hx4, rfl, h4⟩
  have H4 := Lib.hid (goes_trans H3.out.2 h4)
  have C4 : ∀ i, i < 5 → w4.cell? ⟨w.heap.size, i, none⟩ = some (.int .i64 0) ∧ w4.frozen? ⟨w.heap.size, i, none⟩ = false := fun i hi => ⟨(h4.2.cell_far ⟨w.heap.size, i, none⟩ z3 (fun e => by have := Option.some.inj e; simp at this; omega)).trans (C3.out i hi).1, (h4.2.frozen_far ⟨w.heap.size, i, none⟩ z3 (fun e => by have := Option.some.inj e; simp at this; omega)).trans (C3.out i hi).2⟩
  have z4 : w.heap.size < w4.heap.size := Nat.lt_of_lt_of_le z3 h4.2.size
  obtain ⟨q0, r0⟩ := C4 0 (by omega)
  obtain ⟨q1, r1⟩ := C4 1 (by omega)
  obtain ⟨q2, r2⟩ := C4 2 (by omega)
  obtain ⟨q3, r3⟩ := C4 3 (by omega)
  obtain ⟨q4, r4⟩ := C4 4 (by omega)
  clear h4 H3 C3 C4 z3
  have y1 : (x1 : Int) < 60 := by omega
  have y2 : (x2 : Int) < 4 := by omega
  have y3 : (x3 : Int) < 40 := by omega
  have y4 : (x4 : Int) < 500 := by omega
  clear hx1 hx2 hx3 hx4
  go_wp2
  refine bodyPost_ret (v := .agg #[.int .i64 (1 + (x2 : Int)), .int .i64 (x1 : Int), .int .i64 ((x1 : Int) + 1 + (x3 : Int)), .int .i64 n, .int .i64 ((x4 : Int) * 100)]) (by simp [results, Tryd.results35, go_sem, q0, q1, q2, q3, q4]) rfl
    ⟨⟨1 + (x2 : Int), (x1 : Int), (x1 : Int) + 1 + (x3 : Int), n, (x4 : Int) * 100⟩, ⟨⟨by simp; omega, by simp; omega⟩, ⟨by simp, by simpa using y1⟩, ⟨by simp; omega, by simp; omega⟩, rfl, ⟨by simp; omega, by simp; omega⟩⟩, rfl, ?_⟩
  have HW : Goes w0 w b a len cap w4 := ⟨H4.out.1, (World.grownBy_alloc w _ _).trans H4.out.2⟩
  have l0 := HC.out.low
  exact goes_set (goes_set (goes_set (goes_set (goes_set HW (Nat.le_refl _) hbl (by omega) _) (Nat.le_refl _) hbl (by omega) _) (Nat.le_refl _) hbl (by omega) _) (Nat.le_refl _) hbl (by omega) _) (Nat.le_refl _) hbl (by omega) _
/-- A drawn store: facts in the order in which they became known, the last one in the month kn or before. -/
structure DSto (kn : Int) (l : List Fa) : Prop where
  len : l.length ≤ 9
  each : ∀ x ∈ l, ∃ n, 0 ≤ n ∧ n ≤ kn ∧ DFa n x
  order : ∀ i (h : i + 1 < l.length), l[i].n ≤ l[i + 1].n
theorem DSto.nil (kn : Int) : DSto kn [] := ⟨by simp, by simp, fun i h => by simp at h⟩
theorem DSto.snoc {kn kn' : Int} {l : List Fa} {x : Fa} (h : DSto kn l) (hl : l.length < 9) (h0 : 0 ≤ kn) (hk : kn ≤ kn') (hx : DFa kn' x) : DSto kn' (l ++ [x]) := by
  refine ⟨by simp; omega, fun y hy => ?_, fun i hi => ?_⟩
  · rcases List.mem_append.1 hy with hy | hy
    · obtain ⟨n, h1, h2, h3⟩ := h.each y hy
      exact ⟨n, h1, by omega, h3⟩
    · obtain rfl : y = x := by simpa using hy
      exact ⟨kn', by omega, Int.le_refl _, hx⟩
  · by_cases h1 : i + 1 < l.length
    · rw [List.getElem_append_left h1, List.getElem_append_left (show i < l.length by omega)]; exact h.order i h1
    · have e1 : i + 1 = l.length := by simp at hi; omega
      have e2 : (l ++ [x])[i + 1] = x := by simp [e1]
      rw [e2, List.getElem_append_left (show i < l.length by omega), hx.n]
      obtain ⟨n, _, h2, h3⟩ := h.each l[i] (List.getElem_mem _)
      rw [h3.n]
      omega
theorem DSto.ok {kn : Int} {l : List Fa} (h : DSto kn l) (h1 : kn ≤ 3599) : OkS l := ⟨by have := h.len; omega, fun i hi => by
    obtain ⟨n, h2, h3, h4⟩ := h.each l[i] (List.getElem_mem hi)
    exact h4.ok h2 (by omega), h.order⟩
theorem cur_drew {T : Nat} {w0 w : World} {b : Nat} {a : Option Addr} {len cap : Nat} (h : CurIn T w0 w b a len cap) : CurIn T w0 w.drew b a len cap := by
  obtain ⟨i, hh, hc, hi⟩ := h.cells
  exact h.next ((OnlyB.refl b w).drewN 1) i hh hi hc
def SomeSto (R : World → World → Prop) (w : World) (e : Ending) (w' : World) : Prop := ∃ (l : List Fa) (p : Option Addr) (c : Nat), DSto 108 l ∧ e = .returned (.agg #[.slice p l.length c]) ∧ OwnsF w' w.heap.size (.slice p l.length c) l ∧ R w w'
theorem cur_far {w w' : World} {b g o : Nat} (h : OnlyB b w w') (hg : g < w.heap.size) (hne : g ≠ b) : w'.cell? ⟨g, o, none⟩ = w.cell? ⟨g, o, none⟩ ∧ w'.frozen? ⟨g, o, none⟩ = w.frozen? ⟨g, o, none⟩ :=
  ⟨h.cell_far ⟨g, o, none⟩ hg (fun e => hne (Option.some.inj e)), h.frozen_far ⟨g, o, none⟩ hg (fun e => hne (Option.some.inj e))⟩
set_option maxHeartbeats 4000000 in
theorem store_c (w0 w : World) (b : Nat) (a : Option Addr) (len cap : Nat) (hc : CurIn 67 w0 w b a len cap) :
    Calls Tryd.prog 18 #[.pointer (some ⟨b, 0, none⟩)] w (SomeSto (fun w w' => Goes w0 w b a len cap w') w) := by
  have HC := Lib.hid hc
  have hbl := hc.lt
  have hlo := hc.low
  clear hc
  go_enter Tryd.func18, Tryd.ntmps18
  go_wp2_with fail
  refine (below_c w0 _ b a len cap 10 ((HC.out.alloc _).alloc _) (by omega)).mono ?_
  rintro e w1 ⟨x1, hx1, rfl, h1⟩
  have q1 : w1.cell? ⟨w.heap.size, 0, none⟩ = some (.slice none 0 0) := (cur_far h1.2 (by first | omega | (simp; done) | (simp; omega)) (by omega)).1.trans (by simp [go_sem])
  have q2 : w1.cell? ⟨w.heap.size + 1, 0, none⟩ = some (.slice none 0 0) := (cur_far h1.2 (by simp) (by omega)).1.trans (by simp [go_sem])
  have r1 : w1.frozen? ⟨w.heap.size, 0, none⟩ = false := (cur_far h1.2 (by first | omega | (simp; done) | (simp; omega)) (by omega)).2.trans (by simp [go_sem])
  have r2 : w1.frozen? ⟨w.heap.size + 1, 0, none⟩ = false := (cur_far h1.2 (by simp) (by omega)).2.trans (by simp [go_sem])
  have z1 : w.heap.size + 1 < w1.heap.size := by have := h1.2.size; simp at this; omega
  have H1 := Lib.hid (show Goes w0 w b a len cap w1 from ⟨h1.1, ((World.grownBy_alloc w _ _).trans (World.grownBy_alloc _ _ _)).trans h1.2⟩)
  have y1 : (x1 : Int) < 10 := by omega
  clear h1 hx1
  go_wp2
  go_loopw [4, 5] (fun kv i wr => ∃ (j : Nat) (kn : Int) (l : List Fa) (s : Value), j ≤ 9 ∧ i = .int .i64 (j : Int) ∧ kv = .int .i64 kn ∧ 0 ≤ kn ∧ kn ≤ 9 + 11 * (j : Int) ∧ l.length = j ∧ Hid (DSto kn l) ∧
      wr.cell? ⟨w.heap.size, 0, none⟩ = some (.slice none 0 0) ∧ wr.frozen? ⟨w.heap.size, 0, none⟩ = false ∧ wr.cell? ⟨w.heap.size + 1, 0, none⟩ = some s ∧ wr.frozen? ⟨w.heap.size + 1, 0, none⟩ = false ∧ w.heap.size + 1 < wr.heap.size ∧
      Hid (OwnsF wr (w.heap.size + 1 + 1) s l) ∧ Hid (Goes w0 w b a len cap wr)) (fun _ i _ => 9 - (intOf i).toNat)
  case atStart => exact ⟨0, (x1 : Int), [], .slice none 0 0, by omega, rfl, rfl, by omega, by omega, rfl, Lib.hid (DSto.nil _), q1, r1, q2, r2, z1, Lib.hid (Owns.nil _ _ _), H1⟩
  case round =>
    clear q1 q2 r1 r2 z1 H1
    obtain ⟨j, kn, l, s, hj, rfl, rfl, hk0, hk1, hlen, HD, q1, r1, q2, r2, z1, HO, HG⟩ := hrel
    have HLE := Lib.hid hlen
    clear hlen
    go_wp2_with fail
    refine (below_c w0 _ b a len cap 10 HG.out.1 (by omega)).mono ?_
    rintro e w2 ⟨x2, hx2, rfl, h2⟩
    have p1 := (cur_far (o := 0) h2.2 (show w.heap.size < wr.heap.size by omega) (by omega)).1.trans q1
    have p2 := (cur_far (o := 0) h2.2 (show w.heap.size + 1 < wr.heap.size by omega) (by omega)).1.trans q2
    have t1 := (cur_far (o := 0) h2.2 (show w.heap.size < wr.heap.size by omega) (by omega)).2.trans r1
    have t2 := (cur_far (o := 0) h2.2 (show w.heap.size + 1 < wr.heap.size by omega) (by omega)).2.trans r2
    have z2 : w.heap.size + 1 < w2.heap.size := Nat.lt_of_lt_of_le z1 h2.2.size
    have HO2 := Lib.hid (HO.out.kept h2.2 (.inr (fun e => by have := HO.out.low b e; omega)))
    have HG2 := Lib.hid (goes_trans HG.out.2 h2)
    have y2 : (x2 : Int) < 10 := by omega
    clear h2 hx2 q1 q2 r1 r2 z1 HO HG
    by_cases hlt : (j : Int) < (x2 : Int)
    · go_wp2_with fail
      refine (below_c w0 _ b a len cap 12 HG2.out.1 (by omega)).mono ?_
      rintro e w3 ⟨x3, hx3, rfl, h3⟩
      have q1 := (cur_far (o := 0) h3.2 (show w.heap.size < w2.heap.size by omega) (by omega)).1.trans p1
      have q2 := (cur_far (o := 0) h3.2 (show w.heap.size + 1 < w2.heap.size by omega) (by omega)).1.trans p2
      have r1 := (cur_far (o := 0) h3.2 (show w.heap.size < w2.heap.size by omega) (by omega)).2.trans t1
      have r2 := (cur_far (o := 0) h3.2 (show w.heap.size + 1 < w2.heap.size by omega) (by omega)).2.trans t2
      have z3 : w.heap.size + 1 < w3.heap.size := Nat.lt_of_lt_of_le z2 h3.2.size
      have HO3 := Lib.hid (HO2.out.kept h3.2 (.inr (fun e => by have := HO2.out.low b e; omega)))
      have HG3 := Lib.hid (goes_trans HG2.out.2 h3)
      have y3 : (x3 : Int) < 12 := by omega
      clear h3 hx3 p1 p2 t1 t2 z2 HO2 HG2
      go_wp2_with fail
      have k0 : 0 ≤ kn + (x3 : Int) := by omega
      have k1 : kn + (x3 : Int) ≤ 9 + 11 * ((j : Int) + 1) := by omega
      have jlt : j < 9 := by omega
      have HF : Hid (∀ (x : Fa) (w4 : World), Goes w0 w3.drew b a len cap w4 → (w4.cell? ⟨w.heap.size, 0, none⟩ = some (.slice none 0 0) ∧ w4.frozen? ⟨w.heap.size, 0, none⟩ = false) ∧ w4.cell? ⟨w.heap.size + 1, 0, none⟩ = some s ∧ w.heap.size + 1 < w4.heap.size ∧ OwnsF w4 (w.heap.size + 1 + 1) s l ∧
          ∀ w5 : World, (w4.alloc (.cells #[.int .i64 x.k, .int .i64 x.f, .int .i64 x.t, .int .i64 x.n, .int .i64 x.v] 55)).grownBy w5 s.ownBlock →
            (w5.cell? ⟨w.heap.size, 0, none⟩ = some (.slice none 0 0) ∧ w5.frozen? ⟨w.heap.size, 0, none⟩ = false) ∧ w5.cell? ⟨w.heap.size + 1, 0, none⟩ = some s ∧ w5.frozen? ⟨w.heap.size + 1, 0, none⟩ = false ∧ w.heap.size + 1 < w5.heap.size ∧ Goes w0 w b a len cap w5) := by
        refine Lib.hid fun x w4 h4 => ?_
        have z4 : w.heap.size + 1 < w4.heap.size := Nat.lt_of_lt_of_le z3 h4.2.size
        have HO4 : OwnsF w4 (w.heap.size + 1 + 1) s l := HO3.out.drew.kept h4.2 (.inr (fun e => by have := HO3.out.low b e; omega))
        have a1 := (cur_far (o := 0) h4.2 (show w.heap.size < w3.drew.heap.size from (by show w.heap.size < w3.heap.size; omega)) (by omega)).1.trans q1
        have a2 := (cur_far (o := 0) h4.2 (show w.heap.size + 1 < w3.drew.heap.size from z3) (by omega)).1.trans q2
        have a3 := (cur_far (o := 0) h4.2 (show w.heap.size < w3.drew.heap.size from (by show w.heap.size < w3.heap.size; omega)) (by omega)).2.trans r1
        have a4 := (cur_far (o := 0) h4.2 (show w.heap.size + 1 < w3.drew.heap.size from z3) (by omega)).2.trans r2
        have G4 : Goes w0 w b a len cap w4 := goes_trans (HG3.out.2.drewN 1) h4
        refine ⟨⟨a1, a3⟩, a2, z4, HO4, fun w5 hg => ?_⟩
        have hlow := HO4.low
        have h45 : Below (w.heap.size + 1 + 1) w4 w5 := ((Below.refl _ _).alloc (by omega) _).grown hg (by first | omega | (simp; done) | (simp; omega)) hlow
        refine ⟨⟨(h45.cell (p := ⟨w.heap.size, 0, none⟩) (by show w.heap.size < _; omega)).trans a1, (h45.frozen (p := ⟨w.heap.size, 0, none⟩) (by show w.heap.size < _; omega)).trans a3⟩, (h45.cell (p := ⟨w.heap.size + 1, 0, none⟩) (by show w.heap.size + 1 < _; omega)).trans a2,
          (h45.frozen (p := ⟨w.heap.size + 1, 0, none⟩) (by show w.heap.size + 1 < _; omega)).trans a4, Nat.lt_of_lt_of_le z4 h45.size, G4.1.below h45 (by omega), ?_⟩
        exact ⟨h45.os.trans G4.2.os, h45.tape.trans G4.2.tape, h45.output.trans G4.2.output, Nat.le_trans G4.2.size h45.size, fun k hk hne => (h45.block k (by omega)).trans (G4.2.block k hk hne)⟩
      go_region_law (first
        | ((refine Fresh.step_call #[.pointer (some ⟨b, 0, none⟩), .int .i64 (kn + (x3 : Int))] Tryd.func35 (by kernel_rfl) (by kernel_rfl) rfl ?_; refine (fact_c w0 _ b a len cap (kn + (x3 : Int)) (cur_drew HG3.out.1)).mono ?_; rintro e w4 ⟨x, hx, rfl, h4⟩; refine ⟨_, rfl, ?_⟩; obtain ⟨_, v2, v3, HO4, h5⟩ := HF.out x _ h4; have HX := Lib.hid hx; have H5 := Lib.hid h5; have HO4' := Lib.hid HO4; clear hx h5 HO4 h4))
        | ((refine step_appendN ft fw _ (o := ⟨some 25, _, _, _, _, _⟩) rfl (.tmp 20) (.tmp 24) rfl (w.heap.size + 1 + 1) s l rfl (HO4'.out.alloc _) ⟨w4.heap.size, 0, none⟩ 1 1 [x] rfl rfl (new1 w4 x _ rfl) ?_ ?_ ?_; (rw [HLE.out]; simp; omega); (simp; omega); intro v' w5 hown5 hg5 _; obtain ⟨p9, c9, rfl, _⟩ := hown5.form fw; obtain ⟨s1, s2, s3, s4, s5⟩ := H5.out _ hg5)))
      all_goals
        obtain ⟨s1, s1f⟩ := s1
        have HO' := Lib.hid (hown5.beside (g := w.heap.size + 1) (o := 0) (fun e => by have := hown5.low _ e; omega) (.slice p9 (l.length + 1) c9))
        have HG' := Lib.hid (goes_set (o := 0) s5 (show w.heap.size ≤ w.heap.size + 1 by omega) hbl (by omega) (.slice p9 (l.length + 1) c9))
        have e1 : (w5.setCell ⟨w.heap.size + 1, 0, none⟩ (.slice p9 (l.length + 1) c9)).cell? ⟨w.heap.size + 1, 0, none⟩ = some (.slice p9 (l.length + 1) c9) := by simp [go_sem, s2]
        have e2 : (w5.setCell ⟨w.heap.size + 1, 0, none⟩ (.slice p9 (l.length + 1) c9)).frozen? ⟨w.heap.size + 1, 0, none⟩ = false := by simp [go_sem, s3]
        have e3 : w.heap.size + 1 < (w5.setCell ⟨w.heap.size + 1, 0, none⟩ (.slice p9 (l.length + 1) c9)).heap.size := by simp; omega
        have e4 : (w5.setCell ⟨w.heap.size + 1, 0, none⟩ (.slice p9 (l.length + 1) c9)).cell? ⟨w.heap.size, 0, none⟩ = some (.slice none 0 0) := by simp [go_sem, s1]
        have e5 : (w5.setCell ⟨w.heap.size + 1, 0, none⟩ (.slice p9 (l.length + 1) c9)).frozen? ⟨w.heap.size, 0, none⟩ = false := by simp [go_sem, s1f]
        have HD' := Lib.hid (HD.out.snoc (by rw [HLE.out]; exact jlt) hk0 (by omega) HX.out)
        have HL' := Lib.hid (show (l ++ [x]).length = j + 1 by simp [HLE.out])
        clear hown5 hg5 H5 HF s2 s3 s4 s5
        go_wp2
        go_roundw
        case rel => exact ⟨j + 1, kn + (x3 : Int), l ++ [x], _, by omega, by go_num, rfl, k0, by omega, HL'.out, HD', e4, e5, e1, e2, e3, by simpa using HO', HG'⟩
        case measure => simp [intOf]; omega
    · obtain ⟨p5, c5, rfl, _⟩ := HO2.out.form fw
      go_wp2
      refine bodyPost_ret (v := .agg #[.slice p5 l.length c5]) (by simp [results, Tryd.results18, go_sem, p1]) rfl ⟨l, p5, c5, ?_, rfl, ?_, ?_⟩
      · exact ⟨HD.out.len, fun x hx => by obtain ⟨n, h1, h2, h3⟩ := HD.out.each x hx; exact ⟨n, h1, by omega, h3⟩, HD.out.order⟩
      · exact (HO2.out.beside (g := w.heap.size) (o := 0) (fun e => by have := HO2.out.low _ e; omega) _).base (by omega)
      · exact goes_set HG2.out (Nat.le_refl _) hbl (by omega) _
set_option maxHeartbeats 1000000 in
theorem draw_c (w : World) (a : Option Addr) (len cap : Nat) (hcode : CodeAt w a len) (hs : len ≤ maxLen) :
    Calls Tryd.prog 6 #[.slice a len cap] w (SomeSto (fun w w' => Below w.heap.size w w') w) := by
  have HK := Lib.hid hcode
  have HS := Lib.hid hs
  clear hcode hs
  go_enter Tryd.func6, Tryd.ntmps6
  go_wp2_with fail
  refine (new_c _ a len cap (fun j hj => by obtain ⟨blk, off, n, e, h1, h2, h3⟩ := HK.out j hj; exact ⟨blk, off, n, e, by simp; omega, ((bcell (bl_alloc (Below.refl _ _))).1 _ _ h1).trans h2, h3⟩) HS.out).mono ?_
  rintro e w1 ⟨rfl, h1⟩
  have hs1 : (w.alloc (.cells #[.slice none 0 0] 26)).heap.size = w.heap.size + 1 := by simp
  rw [hs1] at h1 ⊢
  have H1 := Lib.hid h1
  clear h1 hs1
  go_wp2_with fail
  refine (store_c _ w1 _ a len cap H1.out).mono ?_
  rintro e w2 ⟨l, p, c, hd, rfl, ho, hg⟩
  have hb := hg.1.bel
  have q1 : w2.cell? ⟨w.heap.size, 0, none⟩ = some (.slice none 0 0) := ((bcell hb).1 _ _ (by simp)).trans (by simp [go_sem])
  have HD := Lib.hid hd
  have HO := Lib.hid ho
  have HB := Lib.hid (show Below w.heap.size w w2 from bl_trans (by (repeat (first | exact Below.refl _ _ | apply BelowKit.bl_alloc | apply BelowKit.bl_drewN | apply BelowKit.bl_drew | (refine BelowKit.bl_set ?_ _ ?_; rotate_left; (first | omega | (simp; omega) | simp)) | (refine BelowKit.bl_trans ?_ (‹Hid (Below _ _ _)›).out)))) hb)
  have z1 := H1.out.bel.size
  have q2 : w2.frozen? ⟨w.heap.size, 0, none⟩ = false := ((bcell hb).2 _ _ (by simp)).trans (by simp [go_sem])
  clear hd ho hg hb
  go_wp2
  refine bodyPost_ret (v := .agg #[.slice p l.length c]) (by simp [results, Tryd.results6, go_sem, q1]) rfl ⟨l, p, c, HD.out, rfl, ?_, ?_⟩
  · simp at z1
    exact (HO.out.beside (g := w.heap.size) (o := 0) (fun e => by have := HO.out.low _ e; omega) _).base (by omega)
  · exact bl_set HB.out (a := ⟨w.heap.size, 0, none⟩) _ (Nat.le_refl _)
end Go.Proofs.YtggnkjnpiagdpaaDoor.DrawStore
