/- Contracts of the program's functions on accounts, in the form that the laws' proofs ask. -/
import Derived.Test.YtgdniakncjjggaaRows
import Derived.Test.YtgdniakncjjggaaAccA
import Derived.Test.YtgdniakncjjggaaAccR
namespace Go.Proofs.Ytgdniakncjjggaa.AccI
open Go.RowKit RowN AccMath Mon
theorem due_i (w : World) (pay rate : Int) : Calls Try.prog 18 #[.int .i64 pay, .int .i64 rate] w (AccS.IsInt (dueF pay rate) w) := AccA.due_i w pay rate
theorem run_i (w : World) (p1 : Option Addr) (m1 c1 : Nat) (D : List Int) (p2 : Option Addr) (m2 c2 : Nat) (P : List Int) (r : Int) (hm1 : D.length = m1) (hs1 : m1 ≤ 1099511627776) (h1 : Reads TInt.fc 1 w p1 D) (hm2 : P.length = m2) (hs2 : m2 ≤ 1099511627776) (h2 : Reads TInt.fc 1 w p2 P) :
    Calls Try.prog 12 #[.slice p1 m1 c1, .slice p2 m2 c2, .int .i64 r] w (TInt.IsRow (runA D P r) w) := AccA.run_i w p1 m1 c1 D p2 m2 c2 P r hm1 hs1 h1 hm2 hs2 h2
theorem int_i (w : World) (p1 : Option Addr) (m1 c1 : Nat) (D : List Int) (p2 : Option Addr) (m2 c2 : Nat) (P : List Int) (r : Int) (hm1 : D.length = m1) (hs1 : m1 ≤ 1099511627776) (h1 : Reads TInt.fc 1 w p1 D) (hm2 : P.length = m2) (hs2 : m2 ≤ 1099511627776) (h2 : Reads TInt.fc 1 w p2 P) :
    Calls Try.prog 13 #[.slice p1 m1 c1, .slice p2 m2 c2, .int .i64 r] w (AccS.IsInt (intIn D P r) w) := AccA.int_i w p1 m1 c1 D p2 m2 c2 P r hm1 hs1 h1 hm2 hs2 h2
theorem first_i (w : World) (p1 : Option Addr) (m1 c1 : Nat) (D : List Int) (p2 : Option Addr) (m2 c2 : Nat) (P : List Int) (r : Int) (hm1 : D.length = m1) (hs1 : m1 ≤ 1099511627776) (h1 : Reads TInt.fc 1 w p1 D) (hm2 : P.length = m2) (hs2 : m2 ≤ 1099511627776) (h2 : Reads TInt.fc 1 w p2 P) :
    Calls Try.prog 14 #[.slice p1 m1 c1, .slice p2 m2 c2, .int .i64 r] w (AccS.IsInt (firstA D P r) w) := AccA.first_i w p1 m1 c1 D p2 m2 c2 P r hm1 hs1 h1 hm2 hs2 h2
def IsBo (c : Bool) (w : World) (e : Ending) (w' : World) : Prop := e = .returned (.bool c) ∧ Below w.heap.size w w'
/-- The three numbers in boxes of their own. -/
structure Box (w : World) (g3 g4 g5 : Nat) (b r : Int) (m : Nat) : Prop where
  c3 : w.cell? ⟨g3, 0, none⟩ = some (.int .i64 b)
  c4 : w.cell? ⟨g4, 0, none⟩ = some (.int .i64 r)
  c5 : w.cell? ⟨g5, 0, none⟩ = some (.int .i64 (m : Int))
  l3 : g3 < w.heap.size
  l4 : g4 < w.heap.size
  l5 : g5 < w.heap.size
theorem Box.on {w w' : World} {g3 g4 g5 : Nat} {b r : Int} {m : Nat} (h : Box w g3 g4 g5 b r m) (hb : Below w.heap.size w w') : Box w' g3 g4 g5 b r m :=
  ⟨((BelowKit.bcell hb).1 _ 0 h.l3).trans h.c3, ((BelowKit.bcell hb).1 _ 0 h.l4).trans h.c4, ((BelowKit.bcell hb).1 _ 0 h.l5).trans h.c5, Nat.lt_of_lt_of_le h.l3 hb.size, Nat.lt_of_lt_of_le h.l4 hb.size, Nat.lt_of_lt_of_le h.l5 hb.size⟩
set_option maxHeartbeats 1000000 in
theorem test_i (w : World) (g3 g4 g5 : Nat) (b r x : Int) (m : Nat) (h : Box w g3 g4 g5 b r m) (b0 : 0 ≤ b) (b1 : b ≤ 1000000) (r0 : 0 ≤ r) (r1 : r ≤ 500) (hm : m ≤ 120) (x0 : 0 ≤ x) (x1 : x ≤ 10000000) :
    Calls Try.prog 36 #[.int .i64 x, .pointer (some ⟨g3, 0, none⟩), .pointer (some ⟨g4, 0, none⟩), .pointer (some ⟨g5, 0, none⟩)] w (IsBo (decide (owe b r x m ≤ 0)) w) := by
  obtain ⟨q3, q4, q5, _, _, _⟩ := h
  go_enter Try.func36, Try.ntmps36
  go_wp2_with fail
  refine (AccR.left_i w b r x m b0 b1 r0 r1 hm x0 x1).mono ?_
  rintro e w1 ⟨rfl, hb⟩
  have HB := Lib.hid hb
  clear hb
  go_wp2
  go_ret
  exact ⟨rfl, HB.out⟩
def IsLeast (b r : Int) (m : Nat) (N : Int) (w : World) (e : Ending) (w' : World) : Prop := ∃ y, e = .returned (.int .i64 y) ∧ 0 ≤ y ∧ y ≤ N ∧ owe b r y m ≤ 0 ∧ (∀ z, 0 ≤ z → z < y → 0 < owe b r z m) ∧ Below w.heap.size w w'
set_option maxHeartbeats 2000000 in
theorem search_i (w : World) (g3 g4 g5 : Nat) (b r N : Int) (m : Nat) (h : Box w g3 g4 g5 b r m) (b0 : 0 ≤ b) (b1 : b ≤ 1000000) (r0 : 0 ≤ r) (r1 : r ≤ 500) (hm : m ≤ 120) (N0 : 0 ≤ N) (N1 : N ≤ 2000000) (hN : owe b r N m ≤ 0) :
    Calls Try.prog 35 #[.int .i64 N, .func (.func 36) #[] #[.pointer (some ⟨g3, 0, none⟩), .pointer (some ⟨g4, 0, none⟩), .pointer (some ⟨g5, 0, none⟩)]] w (IsLeast b r m N w) := by
  have HX := Lib.hid h
  have HN := Lib.hid hN
  clear h hN
  go_enter Try.func35, Try.ntmps35
  go_wp2
  go_loopw [5, 6] (fun lo hi wr => ∃ x y : Int, lo = .int .i64 x ∧ hi = .int .i64 y ∧ 0 ≤ x ∧ x ≤ y ∧ y ≤ N ∧ Hid (Below w.heap.size w wr) ∧ Hid (owe b r y m ≤ 0) ∧ Hid (∀ z, 0 ≤ z → z < x → 0 < owe b r z m)) (fun lo hi _ => (intOf hi - intOf lo).toNat)
  case atStart => exact ⟨0, N, rfl, rfl, by omega, N0, Int.le_refl _, Lib.hid (Below.refl _ _), HN, Lib.hid fun z h1 h2 => by omega⟩
  case round =>
    obtain ⟨x, y, rfl, rfl, x0, xy, y1, HB, HO, HL⟩ := hrel
    by_cases hxy : x < y
    · have dX : decide (x < y) = true := decide_eq_true hxy
      have W1 : IntKind.i64.wrap (x + y) = x + y := IntWalk.i64_in _ (by omega)
      have U1 : IntKind.u64.wrap (x + y) = x + y := by rw [IntKind.wrap_u64]; omega
      obtain ⟨z, hz⟩ : ∃ z, (x + y) / 2 = z := ⟨_, rfl⟩
      have z0 : x ≤ z := by omega
      have z1 : z < y := by omega
      have U2 : IntKind.u64.wrap z = z := by rw [IntKind.wrap_u64]; omega
      have W2 : IntKind.i64.wrap z = z := IntWalk.i64_in _ (by omega)
      have W3 : IntKind.i64.wrap (z + 1) = z + 1 := IntWalk.i64_in _ (by omega)
      have HT := Lib.hid (test_i wr g3 g4 g5 b r z m (HX.out.on HB.out) b0 b1 r0 r1 hm (by omega) (by omega))
      obtain ⟨d, hd⟩ : ∃ d, decide (owe b r z m ≤ 0) = d := ⟨_, rfl⟩
      have HD := Lib.hid hd
      rw [hd] at HT
      clear hd
      go_wp2_with fail
      refine HT.out.mono ?_
      rintro e w1 ⟨rfl, hb⟩
      have HB1 := Lib.hid (BelowKit.bl_trans HB.out hb)
      clear hb HT W1 U1 U2 W2 hz
      cases d with
      | true =>
        have E := Lib.hid (of_decide_eq_true HD.out)
        clear HD W3
        go_wp2
        go_roundw
        case rel => exact ⟨x, z, rfl, rfl, x0, z0, by omega, HB1, E, HL⟩
        case measure => simp [intOf]; omega
      | false =>
        have E := Lib.hid (of_decide_eq_false HD.out)
        clear HD
        go_wp2
        clear W3
        go_roundw
        case rel => exact ⟨z + 1, y, rfl, rfl, by omega, by omega, y1, HB1, HO, Lib.hid fun v h1 h2 => Int.lt_of_lt_of_le (by have := E.out; omega) (owe_anti r0 (show v ≤ z by omega) m)⟩
        case measure => simp [intOf]; omega
    · obtain rfl : x = y := by omega
      have dX : decide (x < x) = false := decide_eq_false (by omega)
      go_wp2
      go_ret
      exact ⟨x, rfl, x0, y1, HO.out, HL.out, HB.out⟩
/-- The balance with its interest, paid at once, settles it. -/
theorem owe_whole {b r : Int} (b0 : 0 ≤ b) (r0 : 0 ≤ r) : ∀ k, owe b r (b + intr r b) (k + 1) ≤ 0
  | 0 => by show b + intr r b - (b + intr r b) ≤ 0; omega
  | k + 1 => owe_down (by have := intr_ge (b := b) r0; omega) (owe_whole b0 r0 k)
set_option maxHeartbeats 2000000 in
theorem settle_i (w : World) (b r m : Int) :
    Calls Try.prog 16 #[.int .i64 b, .int .i64 r, .int .i64 m] w (AccS.IsInt (settleF b r m) w) := by
  obtain ⟨R, hR⟩ : ∃ R, settleF b r m = R := ⟨_, rfl⟩
  have HY : Hid (∀ x, inB b 0 1000000 = true → inB r 0 500 = true → inB m 1 120 = true → Least b r m.toNat x → R = x) := Lib.hid fun x h1 h2 h3 h => by rw [← hR]; exact settle_is h1 h2 h3 h
  have HN : Hid (¬ (inB b 0 1000000 = true ∧ inB r 0 500 = true ∧ inB m 1 120 = true) → R = -1) := Lib.hid fun h => by rw [← hR]; exact settle_no h
  rw [hR]
  clear hR
  obtain ⟨g, hg⟩ : ∃ g, w.heap.size = g := ⟨_, rfl⟩
  have HGE := Lib.hid hg
  go_enter Try.func16, Try.ntmps16
  go_wp2_with fail
  obtain ⟨W0, hW0⟩ : ∃ W0, ((w.alloc (.cells #[.int .i64 b] 3)).alloc (.cells #[.int .i64 r] 3)).alloc (.cells #[.int .i64 m] 3) = W0 := ⟨_, rfl⟩
  have q3 : W0.cell? ⟨g, 0, none⟩ = some (.int .i64 b) := by rw [← hW0, ← hg]; simp [go_sem]
  have q4 : W0.cell? ⟨g + 1, 0, none⟩ = some (.int .i64 r) := by rw [← hW0, ← hg]; simp [go_sem]
  have q5 : W0.cell? ⟨g + 1 + 1, 0, none⟩ = some (.int .i64 m) := by rw [← hW0, ← hg]; simp [go_sem]
  have HS := Lib.hid (show W0.heap.size = g + 1 + 1 + 1 by rw [← hW0, ← hg]; simp)
  have HB := Lib.hid (show Below w.heap.size w W0 by rw [← hW0]; (repeat (first | exact Below.refl _ _ | apply BelowKit.bl_alloc | apply BelowKit.bl_drewN | apply BelowKit.bl_drew | (refine BelowKit.bl_set ?_ _ ?_; rotate_left; (first | omega | (simp; omega) | simp)) | (refine BelowKit.bl_trans ?_ (‹Hid (Below _ _ _)›).out))))
  rw [hW0]
  clear hW0 hg HGE
  refine (AccA.upto_i b 1000000 W0).mono ?_
  rintro e w1 ⟨rfl, rfl⟩
  cases h1 : inB b 0 1000000 with
  | false =>
    have E := Lib.hid (HN.out fun h => by rw [h1] at h; cases h.1)
    clear h1
    go_wp2
    go_ret
    exact ⟨by rw [E.out]; rfl, HB.out⟩
  | true =>
  have H1 := Lib.hid h1
  clear h1
  go_wp2_with fail
  refine (AccA.upto_i r 500 W0).mono ?_
  rintro e w1 ⟨rfl, rfl⟩
  cases h2 : inB r 0 500 with
  | false =>
    have E := Lib.hid (HN.out fun h => by rw [h2] at h; cases h.2.1)
    clear h2
    go_wp2
    go_ret
    exact ⟨by rw [E.out]; rfl, HB.out⟩
  | true =>
  have H2 := Lib.hid h2
  clear h2
  by_cases h3 : m < 1
  · have d1 : decide (m < 1) = true := decide_eq_true h3
    have E := Lib.hid (HN.out fun h => by have := inB_of h.2.2; omega)
    go_wp2
    go_ret
    exact ⟨by rw [E.out]; rfl, HB.out⟩
  have d1 : decide (m < 1) = false := decide_eq_false h3
  by_cases h4 : 120 < m
  · have d2 : decide (120 < m) = true := decide_eq_true h4
    have E := Lib.hid (HN.out fun h => by have := inB_of h.2.2; omega)
    go_wp2
    go_ret
    exact ⟨by rw [E.out]; rfl, HB.out⟩
  have d2 : decide (120 < m) = false := decide_eq_false h4
  have b1 := inB_of H1.out
  have b2 := inB_of H2.out
  have H3 := Lib.hid (inB_yes (show 1 ≤ m by omega) (show m ≤ 120 by omega))
  obtain ⟨n, rfl⟩ : ∃ n : Nat, m = (n : Int) := ⟨m.toNat, by omega⟩
  have HM := Lib.hid (show ((n : Int)).toNat = n from rfl)
  have hn : n ≤ 120 := by omega
  have hI := intr_le b2.1 b2.2 (Int.le_refl b) b1.1
  have hI0 := intr_ge (r := r) (b := b) b2.1
  have HI := Lib.hid (fun k => AccA.on_i (W0.drewN k) b r b2.1 b2.2 (by omega))
  have HW := Lib.hid (show owe b r (b + intr r b) n ≤ 0 by obtain ⟨k, rfl⟩ : ∃ k, n = k + 1 := ⟨n - 1, by omega⟩; exact owe_whole b1.1 b2.1 k)
  generalize intr r b = z at hI hI0 HI HW
  have W1 : IntKind.i64.wrap (b + z) = b + z := IntWalk.i64_in _ (by omega)
  go_wp2_with fail
  go_quiet ((go_at_call 31; with_reducible exact Quiet.left (HI.out _)))
  generalize hW3 : W0.drewN _ = w3
  have HX := Lib.hid (show Box w3 g (g + 1) (g + 1 + 1) b r n by
    rw [← hW3]
    have hs := HS.out
    exact ⟨q3, q4, q5, by show g < W0.heap.size; omega, by show g + 1 < W0.heap.size; omega, by show g + 1 + 1 < W0.heap.size; omega⟩)
  have HB3 := Lib.hid (show Below w.heap.size w w3 by rw [← hW3]; exact below_drewN HB.out _)
  clear hW3 q3 q4 q5 HS HB HI W1
  go_wp2_with fail
  refine (search_i w3 g (g + 1) (g + 1 + 1) b r (b + z) n HX.out b1.1 b1.2 b2.1 b2.2 hn (by omega) (by omega) HW.out).mono ?_
  rintro e w4 ⟨y, rfl, y0, y1, hy, hl, hb⟩
  have E := Lib.hid (HY.out y H1.out H2.out H3.out ⟨y0, by omega, by rw [HM.out]; exact hy, fun z h1 h2 => by rw [HM.out]; exact hl z h1 h2⟩)
  have HB4 := Lib.hid (BelowKit.bl_trans HB3.out hb)
  clear hy hl hb
  go_wp2
  go_ret
  exact ⟨by rw [E.out]; rfl, HB4.out⟩
end Go.Proofs.Ytgdniakncjjggaa.AccI
