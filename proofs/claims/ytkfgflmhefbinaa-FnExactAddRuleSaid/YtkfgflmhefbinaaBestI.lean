/- Contracts of the program's indexOfGreatest, Book.ruleFor and RuleFor. -/
import Derived.Test.YtkfgflmhefbinaaRows
import Derived.Test.YtkfgflmhefbinaaBookI
namespace Go.Proofs.Ytkfgflmhefbinaa.BestI
open Go.RowKit RowN TRule BookMath Mon Box TBook
def IsIn (i : Int) (w : World) (e : Ending) (w' : World) : Prop := e = .returned (.int .i64 i) ∧ Below w.heap.size w w'
set_option maxHeartbeats 2000000 in
theorem appl_i (x : El) (nm mo jo : Int) (b1 b2 b3 : Nat) (w : World) (h1 : w.cell? ⟨b1, 0, none⟩ = some (.int .i64 nm)) (h2 : w.cell? ⟨b2, 0, none⟩ = some (.int .i64 mo)) (h3 : w.cell? ⟨b3, 0, none⟩ = some (.int .i64 jo)) (z1 : b1 < w.heap.size) (z2 : b2 < w.heap.size) (z3 : b3 < w.heap.size) :
    Calls Try.prog 87 #[fv x, .pointer (some ⟨b1, 0, none⟩), .pointer (some ⟨b2, 0, none⟩), .pointer (some ⟨b3, 0, none⟩)] w (IsBo (appl nm mo jo x.r) w) := by
  obtain ⟨⟨x0, x1, x2, x3, x4, x5, l⟩, p, c⟩ := x
  obtain ⟨n, hn⟩ : ∃ m, l.length = m := ⟨_, rfl⟩
  obtain ⟨R, hR⟩ : ∃ R, appl nm mo jo ⟨x0, x1, x2, x3, x4, x5, l⟩ = R := ⟨_, rfl⟩
  show Calls Try.prog 87 #[.agg #[.int .i64 x0, .int .i64 x1, .int .i64 x2, .int .i64 x3, .int .i64 x4, .int .i64 x5, .slice p l.length c], .pointer (some ⟨b1, 0, none⟩), .pointer (some ⟨b2, 0, none⟩), .pointer (some ⟨b3, 0, none⟩)] w (IsBo (appl nm mo jo ⟨x0, x1, x2, x3, x4, x5, l⟩) w)
  have HN : Hid (¬ (x0 = nm ∧ x1 ≤ mo ∧ mo < x2 ∧ jo < x3) → R = false) := Lib.hid (fun e => by rw [← hR]; exact appl_no e)
  have HY : Hid (x0 = nm → x1 ≤ mo → mo < x2 → jo < x3 → R = true) := Lib.hid (fun a b c d => by rw [← hR]; exact appl_iff.2 ⟨a, b, c, d⟩)
  rw [hn, hR]
  clear hn hR
  go_enter Try.func87, Try.ntmps87
  by_cases k1 : x0 = nm
  case neg =>
    have E := Lib.hid (HN.out (fun e => k1 e.1))
    have d1 : (x0 == nm) = false := beq_eq_false_iff_ne.2 k1
    have d2 : decide (x0 = nm) = false := decide_eq_false k1
    clear k1 HN HY
    go_wp2
    go_ret
    rw [E.out]
    exact ⟨rfl, by (repeat (first | exact Below.refl _ _ | apply BelowKit.bl_alloc | apply BelowKit.bl_drewN | apply BelowKit.bl_drew | (refine BelowKit.bl_set ?_ _ ?_; rotate_left; (first | omega | (simp; omega) | simp)) | (refine BelowKit.bl_trans ?_ (‹Hid (Below _ _ _)›).out)))⟩
  case pos =>
  have K1 := Lib.hid k1
  have d1 : (x0 == nm) = true := beq_iff_eq.2 k1
  clear k1
  by_cases k2 : x1 ≤ mo
  case neg =>
    have E := Lib.hid (HN.out (fun e => k2 e.2.1))
    have d3 : decide (x1 ≤ mo) = false := decide_eq_false k2
    clear k2 HN HY
    go_wp2
    go_ret
    rw [E.out]
    exact ⟨rfl, by (repeat (first | exact Below.refl _ _ | apply BelowKit.bl_alloc | apply BelowKit.bl_drewN | apply BelowKit.bl_drew | (refine BelowKit.bl_set ?_ _ ?_; rotate_left; (first | omega | (simp; omega) | simp)) | (refine BelowKit.bl_trans ?_ (‹Hid (Below _ _ _)›).out)))⟩
  case pos =>
  have K2 := Lib.hid k2
  have d3 : decide (x1 ≤ mo) = true := decide_eq_true k2
  clear k2
  by_cases k3 : mo < x2
  case neg =>
    have E := Lib.hid (HN.out (fun e => k3 e.2.2.1))
    have d4 : decide (mo < x2) = false := decide_eq_false k3
    clear k3 HN HY
    go_wp2
    go_ret
    rw [E.out]
    exact ⟨rfl, by (repeat (first | exact Below.refl _ _ | apply BelowKit.bl_alloc | apply BelowKit.bl_drewN | apply BelowKit.bl_drew | (refine BelowKit.bl_set ?_ _ ?_; rotate_left; (first | omega | (simp; omega) | simp)) | (refine BelowKit.bl_trans ?_ (‹Hid (Below _ _ _)›).out)))⟩
  case pos =>
  have K3 := Lib.hid k3
  have d4 : decide (mo < x2) = true := decide_eq_true k3
  clear k3
  by_cases k4 : jo < x3
  case neg =>
    have E := Lib.hid (HN.out (fun e => k4 e.2.2.2))
    have d5 : decide (jo < x3) = false := decide_eq_false k4
    clear k4 HN HY
    go_wp2
    go_ret
    rw [E.out]
    exact ⟨rfl, by (repeat (first | exact Below.refl _ _ | apply BelowKit.bl_alloc | apply BelowKit.bl_drewN | apply BelowKit.bl_drew | (refine BelowKit.bl_set ?_ _ ?_; rotate_left; (first | omega | (simp; omega) | simp)) | (refine BelowKit.bl_trans ?_ (‹Hid (Below _ _ _)›).out)))⟩
  case pos =>
    have E := Lib.hid (HY.out K1.out K2.out K3.out k4)
    have d5 : decide (jo < x3) = true := decide_eq_true k4
    clear k4 HN HY
    go_wp2
    go_ret
    rw [E.out]
    exact ⟨rfl, by (repeat (first | exact Below.refl _ _ | apply BelowKit.bl_alloc | apply BelowKit.bl_drewN | apply BelowKit.bl_drew | (refine BelowKit.bl_set ?_ _ ?_; rotate_left; (first | omega | (simp; omega) | simp)) | (refine BelowKit.bl_trans ?_ (‹Hid (Below _ _ _)›).out)))⟩
theorem appl_g (x0 x1 x2 x3 x4 x5 : Int) (p : Option Addr) (n c : Nat) (l : List TNode.El) (hn : l.length = n) (nm mo jo : Int) (b1 b2 b3 : Nat) (b : Bool) {w0 : World} (X : Grown.G w0) (h1 : ∀ X : Grown.G w0, X.w.cell? ⟨b1, 0, none⟩ = some (.int .i64 nm)) (h2 : ∀ X : Grown.G w0, X.w.cell? ⟨b2, 0, none⟩ = some (.int .i64 mo)) (h3 : ∀ X : Grown.G w0, X.w.cell? ⟨b3, 0, none⟩ = some (.int .i64 jo)) (z1 : b1 < w0.heap.size) (z2 : b2 < w0.heap.size) (z3 : b3 < w0.heap.size) (hb : appl nm mo jo ⟨x0, x1, x2, x3, x4, x5, l⟩ = b) :
    Calls Try.prog 87 #[.agg #[.int .i64 x0, .int .i64 x1, .int .i64 x2, .int .i64 x3, .int .i64 x4, .int .i64 x5, .slice p n c], .pointer (some ⟨b1, 0, none⟩), .pointer (some ⟨b2, 0, none⟩), .pointer (some ⟨b3, 0, none⟩)] X.w (fun e w'' => e = .returned (.bool b) ∧ ∃ Y : Grown.G w0, w'' = Y.w) := by
  subst hn hb
  have hX := X.bel.size
  exact Grown.grown_of (appl_i ⟨⟨x0, x1, x2, x3, x4, x5, l⟩, p, c⟩ nm mo jo b1 b2 b3 X.w (h1 X) (h2 X) (h3 X) (by omega) (by omega) (by omega))
theorem rank_i (x : El) (w : World) : Calls Try.prog 89 #[fv x] w (IsIn x.r.Rank w) := by
  unfold fv
  go_enter Try.func89, Try.ntmps89
  go_wp2
  go_ret
  exact ⟨rfl, by (repeat (first | exact Below.refl _ _ | apply BelowKit.bl_alloc | apply BelowKit.bl_drewN | apply BelowKit.bl_drew | (refine BelowKit.bl_set ?_ _ ?_; rotate_left; (first | omega | (simp; omega) | simp)) | (refine BelowKit.bl_trans ?_ (‹Hid (Below _ _ _)›).out)))⟩
theorem rank_g (x0 x1 x2 x3 x4 x5 : Int) (p : Option Addr) (n c : Nat) {w0 : World} (X : Grown.G w0) :
    Calls Try.prog 89 #[.agg #[.int .i64 x0, .int .i64 x1, .int .i64 x2, .int .i64 x3, .int .i64 x4, .int .i64 x5, .slice p n c]] X.w (fun e w'' => e = .returned (.int .i64 x4) ∧ ∃ Y : Grown.G w0, w'' = Y.w) := by
  refine Grown.grown_of ?_
  go_enter Try.func89, Try.ntmps89
  go_wp2
  go_ret
  exact ⟨rfl, by (repeat (first | exact Below.refl _ _ | apply BelowKit.bl_alloc | apply BelowKit.bl_drewN | apply BelowKit.bl_drew | (refine BelowKit.bl_set ?_ _ ?_; rotate_left; (first | omega | (simp; omega) | simp)) | (refine BelowKit.bl_trans ?_ (‹Hid (Below _ _ _)›).out)))⟩
set_option maxHeartbeats 8000000 in
theorem best_i (w : World) (a : Option Addr) (m cap : Nat) (rs : List Ru) (nm mo jo : Int) (c1 c2 c3 : Nat) (hm : rs.length = m) (hs : m ≤ 1048576) (h : RdD w a rs) (h1 : w.cell? ⟨c1, 0, none⟩ = some (.int .i64 nm)) (h2 : w.cell? ⟨c2, 0, none⟩ = some (.int .i64 mo)) (h3 : w.cell? ⟨c3, 0, none⟩ = some (.int .i64 jo)) (z1 : c1 < w.heap.size) (z2 : c2 < w.heap.size) (z3 : c3 < w.heap.size) :
    Calls Try.prog 88 #[.slice a m cap, .func (.func 87) #[] #[.pointer (some ⟨c1, 0, none⟩), .pointer (some ⟨c2, 0, none⟩), .pointer (some ⟨c3, 0, none⟩)], .func (.func 89) #[] #[]] w (IsIn (forB rs nm mo jo) w) := by
  obtain ⟨xs, ex, h0⟩ := h
  have KK := Lib.hid h0.out
  have HX := Lib.hid ex
  have HM := Lib.hid hm
  have HXL := Lib.hid (show xs.length = m by rw [← hm, ← ex, List.length_map])
  have G1 := Lib.hid h1
  have G2 := Lib.hid h2
  have G3 := Lib.hid h3
  have Z1 := Lib.hid z1
  have Z2 := Lib.hid z2
  have Z3 := Lib.hid z3
  clear h0 ex hm h1 h2 h3 z1 z2 z3
  go_enter Try.func88, Try.ntmps88
  go_wp2
  go_loopw [7, 12] (fun q i wr => ∃ j : Nat, j ≤ m ∧ i = .int .i64 (j : Int) ∧ (∃ bv : Int, q = .int .i64 bv ∧ Hid (forTo rs nm mo jo j = bv)) ∧ Hid (Below w.heap.size w wr)) (fun _ i _ => m - (intOf i).toNat)
  case atStart => exact ⟨0, Nat.zero_le _, rfl, ⟨-1, rfl, Lib.hid rfl⟩, Lib.hid (Below.refl _ _)⟩
  case round =>
    obtain ⟨j, hj, rfl, ⟨bv, rfl, HBV⟩, HB⟩ := hrel
    by_cases hlt : j < m
    · have HLT := Lib.hid (show j < rs.length by rw [HM.out]; exact hlt)
      have hjx : j < xs.length := by rw [HXL.out]; exact hlt
      have hxr : xs[j].r = rs[j]'HLT.out := by have := HX.out; subst this; simp
      have HK2 := Lib.hid (KK.out.on HB.out)
      obtain ⟨g, o, rfl, hgl, q0, q1, q2, q3, q4, q5, q6⟩ := read HK2.out j hjx
      have b1 : (0 : Int) ≤ (j : Int) := by omega
      have b2 : (j : Int) < (m : Int) := by omega
      have HXR := Lib.hid hxr
      obtain ⟨⟨⟨x0, x1, x2, x3, x4, x5, xl⟩, xp, xc⟩, hx⟩ : ∃ x, xs[j]'hjx = x := ⟨_, rfl⟩
      rw [hx] at q0 q1 q2 q3 q4 q5 q6 HXR
      simp only [] at q0 q1 q2 q3 q4 q5 q6 HXR
      obtain ⟨xn, hxn⟩ : ∃ n, xl.length = n := ⟨_, rfl⟩
      have HXN := Lib.hid hxn
      rw [hxn] at q6
      have HBA := Lib.hid (BelowKit.bl_alloc (o := .cells #[.int .i64 x0, .int .i64 x1, .int .i64 x2, .int .i64 x3, .int .i64 x4, .int .i64 x5, .slice xp xn xc] 34) HB.out)
      obtain ⟨V, hV⟩ : ∃ V, V = wr.alloc (.cells #[.int .i64 x0, .int .i64 x1, .int .i64 x2, .int .i64 x3, .int .i64 x4, .int .i64 x5, .slice xp xn xc] 34) := ⟨_, rfl⟩
      have hbv : Below wr.heap.size wr V := by rw [hV]; exact BelowKit.bl_alloc (Below.refl wr.heap.size wr)
      have N0 := Lib.hid (show V.cell? ⟨wr.heap.size, 0, none⟩ = some (.int .i64 x0) by rw [hV]; simp [go_sem])
      have N1 := Lib.hid (show V.cell? ⟨wr.heap.size, 1, none⟩ = some (.int .i64 x1) by rw [hV]; simp [go_sem])
      have N2 := Lib.hid (show V.cell? ⟨wr.heap.size, 2, none⟩ = some (.int .i64 x2) by rw [hV]; simp [go_sem])
      have N3 := Lib.hid (show V.cell? ⟨wr.heap.size, 3, none⟩ = some (.int .i64 x3) by rw [hV]; simp [go_sem])
      have N4 := Lib.hid (show V.cell? ⟨wr.heap.size, 4, none⟩ = some (.int .i64 x4) by rw [hV]; simp [go_sem])
      have N5 := Lib.hid (show V.cell? ⟨wr.heap.size, 5, none⟩ = some (.int .i64 x5) by rw [hV]; simp [go_sem])
      have N6 := Lib.hid (show V.cell? ⟨wr.heap.size, 6, none⟩ = some (.slice xp xn xc) by rw [hV]; simp [go_sem])
      have HWS := Lib.hid (show wr.heap.size < V.heap.size by rw [hV]; simp)
      have HKV := Lib.hid (HK2.out.on hbv)
      have hbwv : Below w.heap.size w V := by rw [hV]; exact HBA.out
      have M1 := Lib.hid (((BelowKit.bcell hbwv).1 c1 0 Z1.out).trans G1.out)
      have M2 := Lib.hid (((BelowKit.bcell hbwv).1 c2 0 Z2.out).trans G2.out)
      have M3 := Lib.hid (((BelowKit.bcell hbwv).1 c3 0 Z3.out).trans G3.out)
      have Y1 := Lib.hid (Nat.lt_of_lt_of_le Z1.out hbwv.size)
      have Y2 := Lib.hid (Nat.lt_of_lt_of_le Z2.out hbwv.size)
      have Y3 := Lib.hid (Nat.lt_of_lt_of_le Z3.out hbwv.size)
      rw [← hV] at HBA
      clear hx hxr hxn hjx hbwv
      obtain ⟨ab, hab⟩ : ∃ b, appl nm mo jo ⟨x0, x1, x2, x3, x4, x5, xl⟩ = b := ⟨_, rfl⟩
      have HAB := Lib.hid hab
      clear hab
      go_wp2_with fail
      rw [← hV]
      clear q0 q1 q2 q3 q4 q5 q6 hbv HK2
      have g0 := Grown.G.keep N0.out HWS.out
      have g1 := Grown.G.keep N1.out HWS.out
      have g2 := Grown.G.keep N2.out HWS.out
      have g3 := Grown.G.keep N3.out HWS.out
      have g4 := Grown.G.keep N4.out HWS.out
      have g5 := Grown.G.keep N5.out HWS.out
      have g6 := Grown.G.keep N6.out HWS.out
      have gc1 := Lib.hid (Grown.G.keep M1.out Y1.out)
      have gc2 := Lib.hid (Grown.G.keep M2.out Y2.out)
      have gc3 := Lib.hid (Grown.G.keep M3.out Y3.out)
      clear hV
      refine Grown.wp_region_grown (by kernel_rfl) (by kernel_rfl) ?_
      cases ab with
      | false =>
        have HC := Lib.hid (show forTo rs nm mo jo (j + 1) = bv by rw [forTo_no HLT.out (by rw [← HXR.out]; exact HAB.out), HBV.out])
        repeat (go_big_quiet_step ((go_at_call 87; with_reducible exact appl_g x0 x1 x2 x3 x4 x5 xp xn xc xl HXN.out nm mo jo c1 c2 c3 false _ gc1.out gc2.out gc3.out Y1.out Y2.out Y3.out HAB.out)))
        refine wpQuiet_nil ?_
        rintro w4 ⟨X, rfl⟩
        clear g0 g1 g2 g3 g4 g5 g6 gc1 gc2 gc3
        go_wp2
        go_roundw
        case rel => exact ⟨j + 1, by omega, by go_num, ⟨bv, rfl, HC⟩, Lib.hid (BelowKit.bl_trans HBA.out X.bel)⟩
        case measure => simp [intOf]; omega
      | true =>
        have HA := Lib.hid (show appl nm mo jo (rs[j]'HLT.out) = true by rw [← HXR.out]; exact HAB.out)
        have HBT := Lib.hid (best_to rs nm mo jo j (by have := HLT.out; omega))
        rcases HBT.out with ⟨hb, _⟩ | ⟨jb, hb, hjb, hjl, _⟩
        · rw [HBV.out] at hb
          subst hb
          have HC := Lib.hid (forTo_first HLT.out HA.out HBV.out)
          have dj : decide ((-1 : Int) < 0) = true := by decide
          clear HBT
          repeat (go_big_quiet_step ((go_at_call 87; with_reducible exact appl_g x0 x1 x2 x3 x4 x5 xp xn xc xl HXN.out nm mo jo c1 c2 c3 true _ gc1.out gc2.out gc3.out Y1.out Y2.out Y3.out HAB.out)))
          refine wpQuiet_nil ?_
          rintro w4 ⟨X, rfl⟩
          clear g0 g1 g2 g3 g4 g5 g6 gc1 gc2 gc3
          go_wp2
          go_roundw
          case rel => exact ⟨j + 1, by omega, by go_num, ⟨_, rfl, HC⟩, Lib.hid (BelowKit.bl_trans HBA.out X.bel)⟩
          case measure => simp [intOf]; omega
        · rw [HBV.out] at hb
          subst hb
          have hjbx : jb < xs.length := by rw [HXL.out]; omega
          have hyr : xs[jb].r = rs[jb]'hjl := by have := HX.out; subst this; simp
          obtain ⟨g', o', e', hgl', p0, p1, p2, p3, p4, p5, p6⟩ := read HKV.out jb hjbx
          cases e'
          have HYR := Lib.hid hyr
          obtain ⟨⟨⟨y0, y1, y2, y3, y4, y5, yl⟩, yp, yc⟩, hy⟩ : ∃ y, xs[jb]'hjbx = y := ⟨_, rfl⟩
          rw [hy] at p0 p1 p2 p3 p4 p5 p6 HYR
          simp only [] at p0 p1 p2 p3 p4 p5 p6 HYR
          obtain ⟨yn, hyn⟩ : ∃ n, yl.length = n := ⟨_, rfl⟩
          rw [hyn] at p6
          have HJL := Lib.hid hjl
          have HY4 := Lib.hid (show (rs[jb]'hjl).Rank = y4 by rw [← HYR.out])
          have t1 : (0 : Int) ≤ (jb : Int) := by omega
          have t2 : (jb : Int) < (m : Int) := by omega
          have dj : decide ((jb : Int) < 0) = false := decide_eq_false (by omega)
          have e0 := Grown.G.keep p0 hgl'
          have e1 := Grown.G.keep p1 hgl'
          have e2 := Grown.G.keep p2 hgl'
          have e3 := Grown.G.keep p3 hgl'
          have e4 := Grown.G.keep p4 hgl'
          have e5 := Grown.G.keep p5 hgl'
          have e6 := Grown.G.keep p6 hgl'
          clear HBT hyr hy hyn hjbx p0 p1 p2 p3 p4 p5 p6
          obtain ⟨db, hdb⟩ : ∃ b, decide (y4 < x4) = b := ⟨_, rfl⟩
          have HDB := Lib.hid hdb
          have d5 := hdb
          clear hdb
          cases db with
          | true =>
            have HC := Lib.hid (forTo_more HLT.out HA.out HBV.out HJL.out (by rw [HY4.out, ← HXR.out]; exact of_decide_eq_true (p := y4 < x4) HDB.out))
            repeat (go_big_quiet_step (first
              | (go_at_call 87; with_reducible exact appl_g x0 x1 x2 x3 x4 x5 xp xn xc xl HXN.out nm mo jo c1 c2 c3 true _ gc1.out gc2.out gc3.out Y1.out Y2.out Y3.out HAB.out)
              | (go_at_call 89; with_reducible exact rank_g _ _ _ _ _ _ _ _ _ _)))
            refine wpQuiet_nil ?_
            rintro w4 ⟨X, rfl⟩
            clear g0 g1 g2 g3 g4 g5 g6 gc1 gc2 gc3 e0 e1 e2 e3 e4 e5 e6
            go_wp2
            go_roundw
            case rel => exact ⟨j + 1, by omega, by go_num, ⟨_, rfl, HC⟩, Lib.hid (BelowKit.bl_trans HBA.out X.bel)⟩
            case measure => simp [intOf]; omega
          | false =>
            have HC := Lib.hid (forTo_less HLT.out HBV.out HJL.out (by rw [HY4.out, ← HXR.out]; exact of_decide_eq_false (p := y4 < x4) HDB.out))
            repeat (go_big_quiet_step (first
              | (go_at_call 87; with_reducible exact appl_g x0 x1 x2 x3 x4 x5 xp xn xc xl HXN.out nm mo jo c1 c2 c3 true _ gc1.out gc2.out gc3.out Y1.out Y2.out Y3.out HAB.out)
              | (go_at_call 89; with_reducible exact rank_g _ _ _ _ _ _ _ _ _ _)))
            refine wpQuiet_nil ?_
            rintro w4 ⟨X, rfl⟩
            clear g0 g1 g2 g3 g4 g5 g6 gc1 gc2 gc3 e0 e1 e2 e3 e4 e5 e6
            go_wp2
            go_roundw
            case rel => exact ⟨j + 1, by omega, by go_num, ⟨_, rfl, HC⟩, Lib.hid (BelowKit.bl_trans HBA.out X.bel)⟩
            case measure => simp [intOf]; omega
    · obtain rfl : j = m := by omega
      have E := Lib.hid (show forB rs nm mo jo = bv by unfold forB; rw [HM.out]; exact HBV.out)
      go_wp2
      go_ret
      rw [E.out]
      exact ⟨rfl, HB.out⟩
set_option maxHeartbeats 2000000 in
theorem for_i (w : World) (a : Option Addr) (m cap : Nat) (rs : List Ru) (nm mo jo : Int) (hm : rs.length = m) (hs : m ≤ 1048576) (h : RdD w a rs) :
    Calls Try.prog 53 #[.agg #[.slice a m cap], .int .i64 nm, .int .i64 mo, .int .i64 jo] w (IsIn (forB rs nm mo jo) w) := by
  have KK := Lib.hid h
  have HM := Lib.hid hm
  clear h hm
  go_enter Try.func53, Try.ntmps53
  go_wp2_with fail
  refine (best_i _ a m cap rs nm mo jo (w.heap.size + 1) (w.heap.size + 1 + 1) (w.heap.size + 1 + 1 + 1) HM.out hs (KK.out.on (by (repeat (first | exact Below.refl _ _ | apply BelowKit.bl_alloc | apply BelowKit.bl_drewN | apply BelowKit.bl_drew | (refine BelowKit.bl_set ?_ _ ?_; rotate_left; (first | omega | (simp; omega) | simp)) | (refine BelowKit.bl_trans ?_ (‹Hid (Below _ _ _)›).out))))) (by simp [go_sem]) (by simp [go_sem]) (by simp [go_sem]) (by simp) (by simp) (by simp)).mono ?_
  rintro e w1 ⟨rfl, hb⟩
  have HB := Lib.hid (show Below w.heap.size w w1 from BelowKit.bl_trans (by (repeat (first | exact Below.refl _ _ | apply BelowKit.bl_alloc | apply BelowKit.bl_drewN | apply BelowKit.bl_drew | (refine BelowKit.bl_set ?_ _ ?_; rotate_left; (first | omega | (simp; omega) | simp)) | (refine BelowKit.bl_trans ?_ (‹Hid (Below _ _ _)›).out)))) hb)
  clear hb
  go_wp2
  go_ret
  exact ⟨rfl, HB.out⟩
set_option maxHeartbeats 2000000 in
theorem ruleFor_i (w : World) (a : Option Addr) (m cap : Nat) (rs : List Ru) (nm mo jo : Int) (hm : rs.length = m) (hcap : m ≤ cap) (hs : m ≤ 1048576) (hn : Few rs) (h : RdD w a rs) :
    Calls Try.prog 18 #[.agg #[.slice a m cap], .int .i64 nm, .int .i64 mo, .int .i64 jo] w (IsIn (ruleFor rs nm mo jo) w) := by
  have KK := Lib.hid h
  have HM := Lib.hid hm
  have HN := Lib.hid hn
  obtain ⟨b, hb⟩ : ∃ b, bookB rs = b := ⟨_, rfl⟩
  have HBK := Lib.hid hb
  clear h hm hn hb
  go_enter Try.func18, Try.ntmps18
  go_wp2_with fail
  refine (BookI.book_i _ a m cap rs HM.out hcap (by omega) HN.out (KK.out.on (by (repeat (first | exact Below.refl _ _ | apply BelowKit.bl_alloc | apply BelowKit.bl_drewN | apply BelowKit.bl_drew | (refine BelowKit.bl_set ?_ _ ?_; rotate_left; (first | omega | (simp; omega) | simp)) | (refine BelowKit.bl_trans ?_ (‹Hid (Below _ _ _)›).out)))))).mono ?_
  rintro e w1 ⟨rfl, hb⟩
  rw [HBK.out]
  have hcb : w1.cell? ⟨w.heap.size, 0, none⟩ = some (.slice a m cap) := ((BelowKit.bcell hb).1 _ _ (by simp)).trans (by simp [go_sem])
  have hzb : w.heap.size < w1.heap.size := by have := hb.size; simp at this; omega
  have HB1 := Lib.hid (show Below w.heap.size w w1 from BelowKit.bl_trans (by (repeat (first | exact Below.refl _ _ | apply BelowKit.bl_alloc | apply BelowKit.bl_drewN | apply BelowKit.bl_drew | (refine BelowKit.bl_set ?_ _ ?_; rotate_left; (first | omega | (simp; omega) | simp)) | (refine BelowKit.bl_trans ?_ (‹Hid (Below _ _ _)›).out)))) hb)
  clear hb
  cases b with
  | false =>
    have E := Lib.hid (ruleFor_no (name := nm) (m := mo) (joined := jo) HBK.out)
    clear HBK
    go_wp2
    go_ret
    rw [E.out]
    exact ⟨rfl, HB1.out⟩
  | true =>
    have E := Lib.hid (ruleFor_yes (name := nm) (m := mo) (joined := jo) HBK.out)
    clear HBK
    go_wp2_with fail
    refine (for_i _ a m cap rs nm mo jo HM.out hs (KK.out.on HB1.out)).mono ?_
    rintro e w2 ⟨rfl, hb⟩
    have HB2 := Lib.hid (show Below w.heap.size w w2 from BelowKit.bl_trans HB1.out hb)
    clear hb
    go_wp2
    go_ret
    rw [E.out]
    exact ⟨rfl, HB2.out⟩
end Go.Proofs.Ytkfgflmhefbinaa.BestI
