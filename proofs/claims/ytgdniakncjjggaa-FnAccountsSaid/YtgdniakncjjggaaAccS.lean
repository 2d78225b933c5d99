/- Contracts of the model's functions on accounts. -/
import Derived.Test.YtgdniakncjjggaaRows
import Derived.Test.YtgdniakncjjggaaAccMath
import Derived.Test.YtgdniakncjjggaaTInt
import Derived.Test.YtgdniakncjjggaaKit
import Derived.Deep.QuietTactic
import Derived.BigQuiet
namespace Go.Proofs.Ytgdniakncjjggaa.AccS
open Go.RowKit RowN AccMath Mon
def IsInt (n : Int) (w : World) (e : Ending) (w' : World) : Prop := e = .returned (.int .i64 n) ∧ Below w.heap.size w w'
theorem read {w : World} {a : Option Addr} {l : List Int} (h : Reads TInt.fc 1 w a l) (j : Nat) (hj : j < l.length) : ∃ blk off, a = some ⟨blk, off, none⟩ ∧ blk < w.heap.size ∧ w.cell? ⟨blk, off + j, none⟩ = some (.int .i64 l[j]) := by
  obtain ⟨blk, off, e, hlt, hc⟩ := h j hj
  refine ⟨blk, off, e, hlt, ?_⟩
  have := hc 0 (by omega)
  rwa [Nat.mul_one, Nat.add_zero] at this
theorem new1 (w : World) (x : Int) (g : Nat) (hg : w.heap.size = g) : ∀ j u, ([x].flatMap TInt.fc)[j]? = some u →
    (w.alloc (.cells #[.int .i64 x] 3)).cell? ((⟨g, 0, none⟩ : Addr).add j) = some u := by
  subst hg
  exact news_block (T := 3) (heap_alloc_new w _)
set_option maxHeartbeats 1000000 in
theorem due_s (w : World) (pay rate : Int) : Calls Try.prog 19 #[.int .i64 pay, .int .i64 rate] w (IsInt (dueF pay rate) w) := by
  obtain ⟨R, hR⟩ : ∃ R, dueF pay rate = R := ⟨_, rfl⟩
  have HY : Hid (inB pay 0 1000000000 = true → inB rate 0 1000 = true → R = (pay * rate).tdiv 1000) := Lib.hid fun h1 h2 => by rw [← hR]; exact due_yes h1 h2
  have HN1 : Hid (inB pay 0 1000000000 = false → R = 0) := Lib.hid fun h => by rw [← hR]; exact due_no1 h
  have HN2 : Hid (inB rate 0 1000 = false → R = 0) := Lib.hid fun h => by rw [← hR]; exact due_no2 h
  rw [hR]
  clear hR
  go_enter Try.func19, Try.ntmps19
  go_wp2_with fail
  refine (in_c pay 0 1000000000 w).mono ?_
  rintro e w1 ⟨rfl, rfl⟩
  cases h1 : inB pay 0 1000000000 with
  | false =>
    have E := Lib.hid (HN1.out h1)
    clear h1
    go_wp2
    go_ret
    exact ⟨by rw [E.out]; rfl, Below.refl _ _⟩
  | true =>
  go_wp2_with fail
  refine (in_c rate 0 1000 w).mono ?_
  rintro e w1 ⟨rfl, rfl⟩
  cases h2 : inB rate 0 1000 with
  | false =>
    have E := Lib.hid (HN2.out h2)
    clear h1 h2
    go_wp2
    go_ret
    exact ⟨by rw [E.out]; rfl, Below.refl _ _⟩
  | true =>
  have E := HY.out h1 h2
  have b1 := inB_of h1
  have b2 := inB_of h2
  have p0 : 0 ≤ pay * rate := Int.mul_nonneg b1.1 b2.1
  have p1 : pay * rate ≤ 1000000000 * 1000 := Int.mul_le_mul b1.2 b2.2 b2.1 (by omega)
  obtain ⟨x, hx⟩ : ∃ x, pay * rate = x := ⟨_, rfl⟩
  have W1 : IntKind.i64.wrap (pay * rate) = x := by rw [hx] at p0 p1 ⊢; exact IntWalk.i64_in _ (by omega)
  rw [hx] at E p0 p1
  have W2 : IntKind.i64.wrap (x.tdiv 1000) = x.tdiv 1000 := by
    rw [Int.tdiv_eq_ediv_of_nonneg p0]; exact IntWalk.i64_in _ (by omega)
  have E := Lib.hid E
  clear h1 h2 hx
  go_wp2
  go_ret
  exact ⟨by rw [E.out]; rfl, Below.refl _ _⟩
set_option maxHeartbeats 2000000 in
theorem ask_s (w : World) (p1 : Option Addr) (m1 c1 : Nat) (D : List Int) (p2 : Option Addr) (m2 c2 : Nat) (P : List Int) (r : Int) (hm1 : D.length = m1) (hs1 : m1 ≤ 1099511627776) (h1 : Reads TInt.fc 1 w p1 D) (hm2 : P.length = m2) (hs2 : m2 ≤ 1099511627776) (h2 : Reads TInt.fc 1 w p2 P) :
    Calls Try.prog 38 #[.slice p1 m1 c1, .slice p2 m2 c2, .int .i64 r] w (IsB (askB D P r) w) := by
  have K1 := Lib.hid h1
  have K2 := Lib.hid h2
  have M1 := Lib.hid hm1
  have M2 := Lib.hid hm2
  obtain ⟨R, hR⟩ : ∃ R, askB D P r = R := ⟨_, rfl⟩
  have HY : Hid (OkA D P r → R = true) := Lib.hid fun h => by rw [← hR]; exact ask_yes h
  have HN : Hid (¬ OkA D P r → R = false) := Lib.hid fun h => by rw [← hR]; exact ask_no h
  rw [hR]
  clear h1 h2 hm1 hm2 hR
  go_enter Try.func38, Try.ntmps38
  by_cases e1 : m1 = m2
  · subst e1
    by_cases e2 : m1 ≤ 300
    · go_wp2_with fail
      refine (in_c r 0 500 w).mono ?_
      rintro e w1 ⟨rfl, rfl⟩
      cases h3 : inB r 0 500 with
      | false =>
        have E := Lib.hid (HN.out fun h => by have h3' := inB_not h3; exact h3' h.2.2.1)
        clear h3
        go_wp2
        go_ret
        exact ⟨by rw [E.out]; rfl, by first | rfl | trivial⟩
      | true =>
      have H3 := Lib.hid (inB_of h3)
      clear h3
      go_wp2
      go_loopw [7] (fun i wr => ∃ j : Nat, j ≤ m1 ∧ i = .int .i64 (j : Int) ∧ wr = w ∧ Hid ((∀ i (h : i < D.length), i < j → 0 ≤ D[i] ∧ D[i] ≤ 10000000) ∧ ∀ i (h : i < P.length), i < j → 0 ≤ P[i] ∧ P[i] ≤ 10000000)) (fun i _ => m1 - (intOf i).toNat)
      case atStart => exact ⟨0, Nat.zero_le _, rfl, rfl, Lib.hid ⟨fun i h hi => by omega, fun i h hi => by omega⟩⟩
      case round =>
        obtain ⟨j, hj, rfl, rfl, HJ⟩ := hrel
        by_cases hlt : j < m1
        · have L1 := Lib.hid (show j < D.length by rw [M1.out]; exact hlt)
          have L2 := Lib.hid (show j < P.length by rw [M2.out]; exact hlt)
          obtain ⟨g1, o1, rfl, hg1, q1⟩ := read K1.out j L1.out
          obtain ⟨g2, o2, rfl, hg2, q2⟩ := read K2.out j L2.out
          have b1 : (0 : Int) ≤ (j : Int) := by omega
          have b2 : (j : Int) < (m1 : Int) := by omega
          obtain ⟨x, hx⟩ : ∃ x, D[j]'L1.out = x := ⟨_, rfl⟩
          obtain ⟨y, hy⟩ : ∃ y, P[j]'L2.out = y := ⟨_, rfl⟩
          rw [hx] at q1
          rw [hy] at q2
          have HX := Lib.hid hx
          have HY' := Lib.hid hy
          clear hx hy
          go_wp2_with fail
          refine (in_c x 0 10000000 _).mono ?_
          rintro e w1 ⟨rfl, rfl⟩
          cases h4 : inB x 0 10000000 with
          | false =>
            have E := Lib.hid (HN.out fun h => inB_not h4 (by have := h.2.2.2.1 j L1.out; rw [HX.out] at this; exact this))
            clear h4
            go_wp2
            go_ret
            exact ⟨by rw [E.out]; rfl, by first | rfl | trivial⟩
          | true =>
          have H4 := Lib.hid (inB_of h4)
          clear h4
          go_wp2_with fail
          refine (in_c y 0 10000000 _).mono ?_
          rintro e w1 ⟨rfl, rfl⟩
          cases h5 : inB y 0 10000000 with
          | false =>
            have E := Lib.hid (HN.out fun h => inB_not h5 (by have := h.2.2.2.2 j L2.out; rw [HY'.out] at this; exact this))
            clear h5
            go_wp2
            go_ret
            exact ⟨by rw [E.out]; rfl, by first | rfl | trivial⟩
          | true =>
          have H5 := Lib.hid (inB_of h5)
          clear h5
          go_wp2
          go_roundw
          case rel =>
            refine ⟨j + 1, by omega, by go_num, by first | rfl | trivial, Lib.hid ⟨fun i h hi => ?_, fun i h hi => ?_⟩⟩
            · by_cases e : i = j
              · subst e; rw [HX.out]; exact H4.out
              · exact HJ.out.1 i h (by omega)
            · by_cases e : i = j
              · subst e; rw [HY'.out]; exact H5.out
              · exact HJ.out.2 i h (by omega)
          case measure => simp [intOf]; omega
        · obtain rfl : j = m1 := by omega
          have E := Lib.hid (HY.out ⟨M1.out.trans M2.out.symm, by rw [M1.out]; exact e2, H3.out, fun i h => HJ.out.1 i h (by rw [M1.out] at h; exact h), fun i h => HJ.out.2 i h (by rw [M2.out] at h; exact h)⟩)
          go_wp2
          go_ret
          exact ⟨by rw [E.out]; rfl, by first | rfl | trivial⟩
    · have E := Lib.hid (HN.out fun h => by have := h.2.1; rw [M1.out] at this; omega)
      have d1 : decide ((300 : Int) < (m1 : Int)) = true := decide_eq_true (by omega)
      go_wp2
      go_ret
      exact ⟨by rw [E.out]; rfl, by first | rfl | trivial⟩
  · have E := Lib.hid (HN.out fun h => by have := h.1; rw [M1.out, M2.out] at this; exact e1 this)
    have d1 : decide ((m1 : Int) = (m2 : Int)) = false := decide_eq_false (by omega)
    go_wp2
    go_ret
    exact ⟨by rw [E.out]; rfl, by first | rfl | trivial⟩
def IsRun (l : List Int) (n : Int) (w : World) (e : Ending) (w' : World) : Prop := ∃ p c, e = .returned (.tuple #[.slice p l.length c, .int .i64 n]) ∧ Owns TInt.fc 1 w' w.heap.size 3 (.slice p l.length c) l ∧ Below w.heap.size w w'
set_option maxHeartbeats 4000000 in
theorem run2_s (w : World) (p1 : Option Addr) (m1 c1 : Nat) (D : List Int) (p2 : Option Addr) (m2 c2 : Nat) (P : List Int) (r : Int) (hm1 : D.length = m1) (h1 : Reads TInt.fc 1 w p1 D) (hm2 : P.length = m2) (h2 : Reads TInt.fc 1 w p2 P) (ha : OkA D P r) :
    Calls Try.prog 39 #[.slice p1 m1 c1, .slice p2 m2 c2, .int .i64 r] w (IsRun (bals D P r D.length) (sumI D P r D.length) w) := by
  have K1 := Lib.hid h1
  have K2 := Lib.hid h2
  have M1 := Lib.hid hm1
  have M2 := Lib.hid hm2
  have HA := Lib.hid ha
  obtain rfl : m1 = m2 := by rw [← hm1, ← hm2]; exact ha.1
  have hs : m1 ≤ 300 := by rw [← hm1]; exact ha.2.1
  have r0 := ha.2.2.1.1
  have r1 := ha.2.2.1.2
  clear h1 h2 hm1 hm2 ha
  go_enter Try.func39, Try.ntmps39
  go_wp2
  go_loopw [8, 9, 10, 11] (fun v s b i wr => ∃ j : Nat, j ≤ m1 ∧ i = .int .i64 (j : Int) ∧ b = .int .i64 (bal D P r j) ∧ s = .int .i64 (sumI D P r j) ∧ Hid (Owns TInt.fc 1 wr w.heap.size 3 v (bals D P r j)) ∧ Hid (Below w.heap.size w wr)) (fun _ _ _ i _ => m1 - (intOf i).toNat)
  case atStart => exact ⟨0, Nat.zero_le _, rfl, rfl, rfl, Lib.hid (Owns.made _ _ _ (Nat.le_refl _)), Lib.hid (by (repeat (first | exact Below.refl _ _ | apply BelowKit.bl_alloc | apply BelowKit.bl_drewN | apply BelowKit.bl_drew | (refine BelowKit.bl_set ?_ _ ?_; rotate_left; (first | omega | (simp; omega) | simp)) | (refine BelowKit.bl_trans ?_ (‹Hid (Below _ _ _)›).out))))⟩
  case round =>
    obtain ⟨j, hj, rfl, rfl, rfl, HO, HB⟩ := hrel
    by_cases hlt : j < m1
    · have L1 := Lib.hid (show j < D.length by rw [M1.out]; exact hlt)
      have L2 := Lib.hid (show j < P.length by rw [M2.out]; exact hlt)
      obtain ⟨g1, o1, rfl, hg1, q1⟩ := read (K1.out.on HB.out) j L1.out
      obtain ⟨g2, o2, rfl, hg2, q2⟩ := read (K2.out.on HB.out) j L2.out
      have b1 : (0 : Int) ≤ (j : Int) := by omega
      have b2 : (j : Int) < (m1 : Int) := by omega
      have d0 := HA.out.2.2.2.1 j L1.out
      have d1 := HA.out.2.2.2.2 j L2.out
      have B0 := bal_bd HA.out (j := j) (by omega)
      have B1 := bal_bd HA.out (j := j + 1) (by omega)
      have S0 := sumI_bd HA.out j (by omega)
      have I0 := intr_bd r0 r1 B0.2
      have E1 := bal_succ D P r j
      have E2 := sumI_succ D P r j
      have E3 := Lib.hid (bals_succ D P r j)
      have E4 := bals_len D P r j
      rw [at0_in L1.out, at0_in L2.out] at E1
      generalize D[j]'L1.out = x at q1 d0 E1
      generalize P[j]'L2.out = y at q2 d1 E1
      generalize bals D P r j = L0 at HO E3 E4 ⊢
      generalize bal D P r j = b at B0 I0 E1 E2 ⊢
      generalize sumI D P r j = s at S0 E2 ⊢
      by_cases hb : 0 < b
      · have dB : decide (0 < b) = true := decide_eq_true hb
        have PB := prod_bd r0 r1 hb B0.2
        rw [intr_pos hb] at E1 E2 I0
        obtain ⟨q, hq⟩ : ∃ q, b * r = q := ⟨_, rfl⟩
        have W1 : IntKind.i64.wrap (b * r) = q := by rw [hq] at PB ⊢; exact IntWalk.i64_in _ (by omega)
        rw [hq] at E1 E2 I0 PB
        obtain ⟨z, hz⟩ : ∃ z, q.tdiv 12000 = z := ⟨_, rfl⟩
        have W2 : IntKind.i64.wrap (q.tdiv 12000) = z := by rw [hz] at I0 ⊢; exact IntWalk.i64_in _ (by omega)
        rw [hz] at E1 E2 I0
        have W3 : IntKind.i64.wrap (s + z) = s + z := IntWalk.i64_in _ (by omega)
        have W4 : IntKind.i64.wrap (b + z) = b + z := IntWalk.i64_in _ (by omega)
        have W5 : IntKind.i64.wrap (b + z + x) = b + z + x := IntWalk.i64_in _ (by omega)
        have W6 : IntKind.i64.wrap (b + z + x - y) = b + z + x - y := IntWalk.i64_in _ (by omega)
        have F1 := Lib.hid E1
        have F2 := Lib.hid E2
        clear hq hz E1 E2 I0 PB
        go_wp2_with fail
        go_quiet (fail)
        generalize hW : wr.drewN _ = w3
        have HO3 := Lib.hid (show Owns TInt.fc 1 w3 w.heap.size 3 u8 L0 by rw [← hW]; exact HO.out.drewN _)
        have HB3 := Lib.hid (show Below w.heap.size w w3 by rw [← hW]; exact below_drewN HB.out _)
        clear hW q1 q2 HO HB W1 W2 W3 W4 W5 W6 d0 d1 B0 B1 S0
        go_wp2_with (at_builtin; refine Fresh.pause ?_)
        refine ⟨?_⟩
        have HN := new1 w3 (b + z + x - y) _ rfl
        have HOW := HO3.out.alloc (.cells #[.int .i64 (b + z + x - y)] 3)
        have HBW := BelowKit.bl_alloc (o := .cells #[.int .i64 (b + z + x - y)] 3) HB3.out
        have HSW := HB3.out.size
        refine wpList_appendN TInt.ft TInt.fw _ (o := ⟨some 46, _, _, _, _, _⟩) rfl (.tmp 43) (.tmp 45) rfl w.heap.size u8 L0 rfl HOW ⟨w3.heap.size, 0, none⟩ 1 1 [b + z + x - y] rfl rfl HN (by simp; omega) (by simp; omega) ?_
        intro v' w' hown' hg' _
        have HB' := Lib.hid (HBW.grown hg' (by simp; omega) (fun k hk => HO3.out.low k hk))
        have HO' := Lib.hid hown'
        clear hown' hg' HN HOW HBW HSW HO3 HB3
        go_wp2
        go_roundw
        case rel => exact ⟨j + 1, by omega, by go_num, by rw [F1.out], by rw [F2.out], by rw [E3.out, F1.out]; exact HO', HB'⟩
        case measure => simp [intOf]; omega
      · have dB : decide (0 < b) = false := decide_eq_false hb
        rw [intr_neg hb] at E1 E2
        have W5 : IntKind.i64.wrap (b + x) = b + x := IntWalk.i64_in _ (by omega)
        have W6 : IntKind.i64.wrap (b + x - y) = b + x - y := IntWalk.i64_in _ (by omega)
        have F1 := Lib.hid (show bal D P r (j + 1) = b + x - y by omega)
        have F2 := Lib.hid (show sumI D P r (j + 1) = s by omega)
        clear E1 E2 I0
        go_wp2_with fail
        go_quiet (fail)
        generalize hW : wr.drewN _ = w3
        have HO3 := Lib.hid (show Owns TInt.fc 1 w3 w.heap.size 3 u8 L0 by rw [← hW]; exact HO.out.drewN _)
        have HB3 := Lib.hid (show Below w.heap.size w w3 by rw [← hW]; exact below_drewN HB.out _)
        clear hW q1 q2 HO HB W5 W6 d0 d1 B0 B1 S0
        go_wp2_with (at_builtin; refine Fresh.pause ?_)
        refine ⟨?_⟩
        have HN := new1 w3 (b + x - y) _ rfl
        have HOW := HO3.out.alloc (.cells #[.int .i64 (b + x - y)] 3)
        have HBW := BelowKit.bl_alloc (o := .cells #[.int .i64 (b + x - y)] 3) HB3.out
        have HSW := HB3.out.size
        refine wpList_appendN TInt.ft TInt.fw _ (o := ⟨some 46, _, _, _, _, _⟩) rfl (.tmp 43) (.tmp 45) rfl w.heap.size u8 L0 rfl HOW ⟨w3.heap.size, 0, none⟩ 1 1 [b + x - y] rfl rfl HN (by simp; omega) (by simp; omega) ?_
        intro v' w' hown' hg' _
        have HB' := Lib.hid (HBW.grown hg' (by simp; omega) (fun k hk => HO3.out.low k hk))
        have HO' := Lib.hid hown'
        clear hown' hg' HN HOW HBW HSW HO3 HB3
        go_wp2
        go_roundw
        case rel => exact ⟨j + 1, by omega, by go_num, by rw [F1.out], by rw [F2.out], by rw [E3.out, F1.out]; exact HO', HB'⟩
        case measure => simp [intOf]; omega
    · obtain rfl : j = m1 := by omega
      obtain ⟨a', c', rfl, _⟩ := HO.out.form TInt.fw
      go_wp2
      refine bodyPost_ret (v := .tuple #[.slice a' (bals D P r j).length c', .int .i64 (sumI D P r j)]) (by simp [results, Try.results39]) rfl ⟨a', c', by rw [M1.out], by rw [M1.out]; exact HO.out, HB.out⟩
set_option maxHeartbeats 1000000 in
theorem run_s (w : World) (p1 : Option Addr) (m1 c1 : Nat) (D : List Int) (p2 : Option Addr) (m2 c2 : Nat) (P : List Int) (r : Int) (hm1 : D.length = m1) (hs1 : m1 ≤ 1099511627776) (h1 : Reads TInt.fc 1 w p1 D) (hm2 : P.length = m2) (hs2 : m2 ≤ 1099511627776) (h2 : Reads TInt.fc 1 w p2 P) :
    Calls Try.prog 17 #[.slice p1 m1 c1, .slice p2 m2 c2, .int .i64 r] w (TInt.IsRow (runA D P r) w) := by
  have K1 := Lib.hid h1
  have K2 := Lib.hid h2
  have M1 := Lib.hid hm1
  have M2 := Lib.hid hm2
  obtain ⟨R, hR⟩ : ∃ R, runA D P r = R := ⟨_, rfl⟩
  have HR := Lib.hid hR
  rw [hR]
  clear h1 h2 hm1 hm2 hR
  go_enter Try.func17, Try.ntmps17
  go_wp2_with fail
  refine (ask_s w p1 m1 c1 D p2 m2 c2 P r M1.out hs1 K1.out M2.out hs2 K2.out).mono ?_
  rintro e w1 ⟨rfl, rfl⟩
  cases ha : askB D P r with
  | false =>
    have E := Lib.hid (show R = [] by rw [← HR.out]; exact run_no ha)
    clear ha
    go_wp2
    go_ret
    rw [E.out]
    exact ⟨some ⟨w.heap.size, 0, none⟩, 0, rfl, Owns.made _ _ _ (Nat.le_refl _), by (repeat (first | exact Below.refl _ _ | apply BelowKit.bl_alloc | apply BelowKit.bl_drewN | apply BelowKit.bl_drew | (refine BelowKit.bl_set ?_ _ ?_; rotate_left; (first | omega | (simp; omega) | simp)) | (refine BelowKit.bl_trans ?_ (‹Hid (Below _ _ _)›).out)))⟩
  | true =>
  have HA := Lib.hid (ask_of ha)
  have E := Lib.hid (show bals D P r D.length = R by rw [← HR.out]; exact (run_yes ha).symm)
  clear ha
  go_wp2_with fail
  refine (run2_s w p1 m1 c1 D p2 m2 c2 P r M1.out K1.out M2.out K2.out HA.out).mono ?_
  rintro e w1 ⟨a, c, rfl, ho, hb⟩
  rw [E.out] at ho ⊢
  have HO := Lib.hid ho
  have HB := Lib.hid hb
  clear ho hb
  go_wp2
  go_ret
  exact ⟨a, c, rfl, HO.out, HB.out⟩
set_option maxHeartbeats 1000000 in
theorem int_s (w : World) (p1 : Option Addr) (m1 c1 : Nat) (D : List Int) (p2 : Option Addr) (m2 c2 : Nat) (P : List Int) (r : Int) (hm1 : D.length = m1) (hs1 : m1 ≤ 1099511627776) (h1 : Reads TInt.fc 1 w p1 D) (hm2 : P.length = m2) (hs2 : m2 ≤ 1099511627776) (h2 : Reads TInt.fc 1 w p2 P) :
    Calls Try.prog 24 #[.slice p1 m1 c1, .slice p2 m2 c2, .int .i64 r] w (IsInt (intIn D P r) w) := by
  have K1 := Lib.hid h1
  have K2 := Lib.hid h2
  have M1 := Lib.hid hm1
  have M2 := Lib.hid hm2
  obtain ⟨R, hR⟩ : ∃ R, intIn D P r = R := ⟨_, rfl⟩
  have HR := Lib.hid hR
  rw [hR]
  clear h1 h2 hm1 hm2 hR
  go_enter Try.func24, Try.ntmps24
  go_wp2_with fail
  refine (ask_s w p1 m1 c1 D p2 m2 c2 P r M1.out hs1 K1.out M2.out hs2 K2.out).mono ?_
  rintro e w1 ⟨rfl, rfl⟩
  cases ha : askB D P r with
  | false =>
    have E := Lib.hid (show R = 0 by rw [← HR.out]; exact int_no ha)
    clear ha
    go_wp2
    go_ret
    exact ⟨by rw [E.out]; rfl, Below.refl _ _⟩
  | true =>
  have HA := Lib.hid (ask_of ha)
  have E := Lib.hid (show sumI D P r D.length = R by rw [← HR.out]; exact (int_yes ha).symm)
  clear ha
  go_wp2_with fail
  refine (run2_s w p1 m1 c1 D p2 m2 c2 P r M1.out K1.out M2.out K2.out HA.out).mono ?_
  rintro e w1 ⟨a, c, rfl, ho, hb⟩
  rw [E.out]
  have HB := Lib.hid hb
  clear ho hb
  go_wp2
  go_ret
  exact ⟨rfl, HB.out⟩
set_option maxHeartbeats 1000000 in
theorem first_s (w : World) (p1 : Option Addr) (m1 c1 : Nat) (D : List Int) (p2 : Option Addr) (m2 c2 : Nat) (P : List Int) (r : Int) (hm1 : D.length = m1) (hs1 : m1 ≤ 1099511627776) (h1 : Reads TInt.fc 1 w p1 D) (hm2 : P.length = m2) (hs2 : m2 ≤ 1099511627776) (h2 : Reads TInt.fc 1 w p2 P) :
    Calls Try.prog 25 #[.slice p1 m1 c1, .slice p2 m2 c2, .int .i64 r] w (IsInt (firstA D P r) w) := by
  have K1 := Lib.hid h1
  have K2 := Lib.hid h2
  have M1 := Lib.hid hm1
  have M2 := Lib.hid hm2
  obtain ⟨L, hL⟩ : ∃ L, runA D P r = L := ⟨_, rfl⟩
  have HL := Lib.hid hL
  obtain ⟨R, hR⟩ : ∃ R, firstP L 0 = R := ⟨_, rfl⟩
  have HR := Lib.hid hR
  rw [firstA, hL, hR]
  have hlen : L.length ≤ 300 := by rw [← hL]; exact run_len _ _ _
  clear h1 h2 hm1 hm2 hL hR
  go_enter Try.func25, Try.ntmps25
  go_wp2_with fail
  refine (run_s w p1 m1 c1 D p2 m2 c2 P r M1.out hs1 K1.out M2.out hs2 K2.out).mono ?_
  rintro e w1 ⟨a, c, rfl, ho, hb⟩
  rw [HL.out] at ho ⊢
  have HO := Lib.hid (reads_own TInt.fw ho)
  have HB := Lib.hid hb
  obtain ⟨n, hn⟩ : ∃ n, L.length = n := ⟨_, rfl⟩
  have HN := Lib.hid hn
  rw [hn] at hlen ⊢
  clear ho hb hn
  go_wp2
  go_loopw [8] (fun i wr => ∃ j : Nat, j ≤ n ∧ i = .int .i64 (j : Int) ∧ wr = w1 ∧ Hid (firstP (L.drop j) (j : Int) = R)) (fun i _ => n - (intOf i).toNat)
  case atStart => exact ⟨0, Nat.zero_le _, rfl, rfl, HR⟩
  case round =>
    obtain ⟨j, hj, rfl, rfl, HJ⟩ := hrel
    by_cases hlt : j < n
    · have L1 := Lib.hid (show j < L.length by rw [HN.out]; exact hlt)
      obtain ⟨g1, o1, rfl, hg1, q1⟩ := read HO.out j L1.out
      have b1 : (0 : Int) ≤ (j : Int) := by omega
      have b2 : (j : Int) < (n : Int) := by omega
      have HY := Lib.hid (fun e => (first_yes (j : Int) L1.out e).symm.trans HJ.out)
      have HNN := Lib.hid (fun e => (first_no (j : Int) L1.out e).symm.trans HJ.out)
      generalize L[j]'L1.out = x at q1 HY HNN
      by_cases hx : 0 < x
      · have dX : decide (0 < x) = true := decide_eq_true hx
        have E := Lib.hid (HY.out hx)
        go_wp2
        go_ret
        exact ⟨by rw [← E.out]; rfl, HB.out⟩
      · have dX : decide (0 < x) = false := decide_eq_false hx
        have E := Lib.hid (HNN.out hx)
        go_wp2
        go_roundw
        case rel => exact ⟨j + 1, by omega, by go_num, by first | rfl | trivial, E⟩
        case measure => simp [intOf]; omega
    · obtain rfl : j = n := by omega
      have E := Lib.hid ((first_end L j (j : Int) (by rw [HN.out]; exact Nat.le_refl _)).symm.trans HJ.out)
      go_wp2
      go_ret
      exact ⟨by rw [← E.out]; rfl, HB.out⟩
set_option maxHeartbeats 2000000 in
theorem left_s (w : World) (b r x : Int) (m : Nat) (b0 : 0 ≤ b) (b1 : b ≤ 1000000) (r0 : 0 ≤ r) (r1 : r ≤ 500) (hm : m ≤ 120) (x0 : 0 ≤ x) (x1 : x ≤ 10000000) :
    Calls Try.prog 41 #[.int .i64 b, .int .i64 r, .int .i64 (m : Int), .int .i64 x] w (IsI (owe b r x m) w) := by
  go_enter Try.func41, Try.ntmps41
  go_wp2
  go_loopw [9, 10] (fun v i wr => ∃ j : Nat, j ≤ m ∧ i = .int .i64 (j : Int) ∧ v = .int .i64 (owe b r x j) ∧ wr = w) (fun _ i _ => m - (intOf i).toNat)
  case atStart => exact ⟨0, Nat.zero_le _, rfl, rfl, rfl⟩
  case round =>
    obtain ⟨j, hj, rfl, rfl, rfl⟩ := hrel
    by_cases hlt : j < m
    · have dJ : decide ((j : Int) < (m : Int)) = true := decide_eq_true (by omega)
      have B0 := owe_bd r0 r1 b0 b1 x0 x1 (k := j) (by omega)
      have E1 := owe_succ b r x j
      have I0 := intr_bd r0 r1 (b := owe b r x j) (by omega)
      generalize owe b r x j = u at B0 E1 I0 ⊢
      by_cases hu : 0 < u
      · have dB : decide (0 < u) = true := decide_eq_true hu
        have PB := prod_bd r0 r1 hu (by omega)
        rw [intr_pos hu] at E1 I0
        obtain ⟨q, hq⟩ : ∃ q, u * r = q := ⟨_, rfl⟩
        have W1 : IntKind.i64.wrap (u * r) = q := by rw [hq] at PB ⊢; exact IntWalk.i64_in _ (by omega)
        rw [hq] at E1 I0 PB
        obtain ⟨z, hz⟩ : ∃ z, q.tdiv 12000 = z := ⟨_, rfl⟩
        have W2 : IntKind.i64.wrap (q.tdiv 12000) = z := by rw [hz] at I0 ⊢; exact IntWalk.i64_in _ (by omega)
        rw [hz] at E1 I0
        have W3 : IntKind.i64.wrap (u + z) = u + z := IntWalk.i64_in _ (by omega)
        have W4 : IntKind.i64.wrap (u + z - x) = u + z - x := IntWalk.i64_in _ (by omega)
        have F1 := Lib.hid E1
        clear hq hz E1 I0 PB
        go_wp2
        clear W1 W2 W3 W4
        go_roundw
        case rel => exact ⟨j + 1, by omega, by go_num, by rw [F1.out], by first | rfl | trivial⟩
        case measure => simp [intOf]; omega
      · have dB : decide (0 < u) = false := decide_eq_false hu
        rw [intr_neg hu] at E1
        have W4 : IntKind.i64.wrap (u - x) = u - x := IntWalk.i64_in _ (by omega)
        have F1 := Lib.hid (show owe b r x (j + 1) = u - x by omega)
        clear E1 I0
        go_wp2
        clear W4
        go_roundw
        case rel => exact ⟨j + 1, by omega, by go_num, by rw [F1.out], by first | rfl | trivial⟩
        case measure => simp [intOf]; omega
    · obtain rfl : j = m := by omega
      go_wp2
      go_ret
      exact ⟨rfl, by first | rfl | trivial⟩
set_option maxHeartbeats 2000000 in
theorem settle_s (w : World) (b r m : Int) :
    Calls Try.prog 26 #[.int .i64 b, .int .i64 r, .int .i64 m] w (IsInt (settleF b r m) w) := by
  obtain ⟨R, hR⟩ : ∃ R, settleF b r m = R := ⟨_, rfl⟩
  have HY : Hid (∀ x, inB b 0 1000000 = true → inB r 0 500 = true → inB m 1 120 = true → Least b r m.toNat x → R = x) := Lib.hid fun x h1 h2 h3 h => by rw [← hR]; exact settle_is h1 h2 h3 h
  have HN : Hid (¬ (inB b 0 1000000 = true ∧ inB r 0 500 = true ∧ inB m 1 120 = true) → R = -1) := Lib.hid fun h => by rw [← hR]; exact settle_no h
  rw [hR]
  clear hR
  go_enter Try.func26, Try.ntmps26
  go_wp2_with fail
  refine (in_c b 0 1000000 w).mono ?_
  rintro e w1 ⟨rfl, rfl⟩
  cases h1 : inB b 0 1000000 with
  | false =>
    have E := Lib.hid (HN.out fun h => by rw [h1] at h; cases h.1)
    clear h1
    go_wp2
    go_ret
    exact ⟨by rw [E.out]; rfl, Below.refl _ _⟩
  | true =>
  have H1 := Lib.hid h1
  clear h1
  go_wp2_with fail
  refine (in_c r 0 500 w).mono ?_
  rintro e w1 ⟨rfl, rfl⟩
  cases h2 : inB r 0 500 with
  | false =>
    have E := Lib.hid (HN.out fun h => by rw [h2] at h; cases h.2.1)
    clear h2
    go_wp2
    go_ret
    exact ⟨by rw [E.out]; rfl, Below.refl _ _⟩
  | true =>
  have H2 := Lib.hid h2
  clear h2
  go_wp2_with fail
  refine (in_c m 1 120 w).mono ?_
  rintro e w1 ⟨rfl, rfl⟩
  cases h3 : inB m 1 120 with
  | false =>
    have E := Lib.hid (HN.out fun h => by rw [h3] at h; cases h.2.2)
    clear h3
    go_wp2
    go_ret
    exact ⟨by rw [E.out]; rfl, Below.refl _ _⟩
  | true =>
  have H3 := Lib.hid h3
  have b1 := inB_of H1.out
  have b2 := inB_of H2.out
  have b3 := inB_of h3
  clear h3
  obtain ⟨n, rfl⟩ : ∃ n : Nat, m = (n : Int) := ⟨m.toNat, by omega⟩
  have HM := Lib.hid (show ((n : Int)).toNat = n from rfl)
  have hn : n ≤ 120 := by omega
  have W0 : IntKind.i64.wrap (2 * b) = 2 * b := IntWalk.i64_in _ (by omega)
  go_wp2
  clear W0
  go_loopw [7, 8] (fun lo hi wr => ∃ x y : Int, lo = .int .i64 x ∧ hi = .int .i64 y ∧ 0 ≤ x ∧ x ≤ y ∧ y ≤ 2 * b ∧ wr = w ∧ Hid (owe b r y n ≤ 0) ∧ Hid (∀ z, 0 ≤ z → z < x → 0 < owe b r z n)) (fun lo hi _ => (intOf hi - intOf lo).toNat)
  case atStart => exact ⟨0, 2 * b, rfl, rfl, by omega, by omega, by omega, rfl, Lib.hid (by obtain ⟨k, rfl⟩ : ∃ k, n = k + 1 := ⟨n - 1, by omega⟩; exact owe_high b2.1 b2.2 b1.1 (Int.le_refl _) k), Lib.hid fun z h1 h2 => by omega⟩
  case round =>
    obtain ⟨x, y, rfl, rfl, x0, xy, y1, rfl, HO, HL⟩ := hrel
    by_cases hxy : x < y
    · have dX : decide (x < y) = true := decide_eq_true hxy
      have W1 : IntKind.i64.wrap (x + y) = x + y := IntWalk.i64_in _ (by omega)
      obtain ⟨z, hz⟩ : ∃ z, (x + y).tdiv 2 = z := ⟨_, rfl⟩
      have hz' := hz
      rw [Int.tdiv_eq_ediv_of_nonneg (by omega)] at hz'
      have z0 : x ≤ z := by omega
      have z1 : z < y := by omega
      have W2 : IntKind.i64.wrap ((x + y).tdiv 2) = z := by rw [hz]; exact IntWalk.i64_in _ (by omega)
      have W3 : IntKind.i64.wrap (z + 1) = z + 1 := IntWalk.i64_in _ (by omega)
      clear hz hz'
      go_wp2_with fail
      refine (left_s _ b r z n b1.1 b1.2 b2.1 b2.2 hn (by omega) (by omega)).mono ?_
      rintro e w1 ⟨rfl, rfl⟩
      clear W1 W2
      obtain ⟨u, hu⟩ : ∃ u, owe b r z n = u := ⟨_, rfl⟩
      have HU := Lib.hid hu
      rw [hu]
      clear hu
      by_cases hle : u ≤ 0
      · have dU : decide (u ≤ 0) = true := decide_eq_true hle
        go_wp2
        clear W3
        go_roundw
        case rel => exact ⟨x, z, rfl, rfl, x0, z0, by omega, by first | rfl | trivial, Lib.hid (by rw [HU.out]; exact hle), HL⟩
        case measure => simp [intOf]; omega
      · have dU : decide (u ≤ 0) = false := decide_eq_false hle
        go_wp2
        clear W3
        go_roundw
        case rel => exact ⟨z + 1, y, rfl, rfl, by omega, by omega, y1, by first | rfl | trivial, HO, Lib.hid fun v h1 h2 => Int.lt_of_lt_of_le (by rw [HU.out]; omega) (owe_anti b2.1 (show v ≤ z by omega) n)⟩
        case measure => simp [intOf]; omega
    · obtain rfl : x = y := by omega
      have E := Lib.hid (HY.out x H1.out H2.out H3.out ⟨x0, y1, by rw [HM.out]; exact HO.out, fun z h1 h2 => by rw [HM.out]; exact HL.out z h1 h2⟩)
      have dX : decide (x < x) = false := decide_eq_false (by omega)
      go_wp2
      go_ret
      exact ⟨by rw [E.out]; rfl, Below.refl _ _⟩
end Go.Proofs.Ytgdniakncjjggaa.AccS
