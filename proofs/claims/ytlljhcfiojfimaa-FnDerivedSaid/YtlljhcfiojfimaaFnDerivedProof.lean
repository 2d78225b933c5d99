/- Proves the given statement of the law FnDerived: for every input that the row lets in, the law's Go function returns true and every argument reads as before; no condition of mine. -/
import Derived.Test.YtlljhcfiojfimaaDrawFm
import Derived.Test.YtlljhcfiojfimaaEvalI
import Derived.Test.YtlljhcfiojfimaaEvalS
import Derived.Test.YtlljhcfiojfimaaFormI
import Derived.Test.YtlljhcfiojfimaaFracEq
import Derived.Test.YtlljhcfiojfimaaDerivedMath
import Derived.Test.YtlljhcfiojfimaaBelowKit
import Derived.Test.YtlljhcfiojfimaaTNode
import Derived.Test.YtlljhcfiojfimaaNodeMath
import Derived.Test.YtlljhcfiojfimaaValS
import Derived.Test.YtlljhcfiojfimaaGrown
import Derived.Test.YtlljhcfiojfimaaDer1
import Derived.Test.YtlljhcfiojfimaaDer2
import Derived.Test.YtlljhcfiojfimaaDer7
import Derived.Test.YtlljhcfiojfimaaDer8
import Derived.Test.YtlljhcfiojfimaaDerE
import Derived.Test.YtlljhcfiojfimaaRows
import Derived.WalkKit
import Derived.ProofKit
import Derived.OpenShut
import Derived.ShutString
import Derived.ChangeOld
import Derived.Below
namespace Go.Proofs.Ytlljhcfiojfimaa.fnDerived
open Go.ChangeShapes Go.WideShapes Go.ChangeAt Go.RowKit
open Go.ChangeMaps (open_string shut_string)
set_option linter.unusedVariables false

theorem own : ownKnob Try.prog.godebug = none := by kernel_rfl
theorem laidOut : laidOutB Try.prog = true := by kernel_rfl

/-- WHAT THE WALK IS TOLD OF A SLICE OF INTEGERS THAT CAME IN: it is nil; or it leads to a row of 'cap' cells, the numbers 'zs' (the first 'len' are its elements, the rest its spare room), each fitting its kind. -/
def IsRow (k : IntKind) (w : World) (a : Option Addr) (len cap : Nat) (zs : List Int) : Prop :=
  (a = none ∧ len = 0 ∧ cap = 0 ∧ zs = []) ∨
  ∃ x, a = some x ∧ len ≤ cap ∧ cap ≤ maxLen ∧ zs.length = cap ∧ (∀ i, i < zs.length → w.cell? (x.add i) = some (.int k (zs.getD i 0))) ∧ ∀ n ∈ zs, (Lit.int k n).wf = true

/-! ### STEP 1: THE WALK: the Go text returns true, AND WRITES NOTHING THAT WAS THERE: 'Below w.heap.size w w'' (Derived/Below.lean: '.refl', '.alloc', '.drew', '.setCell' at a new block, '.trans'). Open each 'IsRow' by 'rcases' AHEAD of 'go_enter'; part every test ahead of the walk. -/
set_option maxHeartbeats 16000000 in
set_option maxRecDepth 100000 in
theorem walk (a0 : Option Addr) (len0 cap0 : Nat) (z0 : List Int) (w : World) (w0 : IsRow .u8 w a0 len0 cap0 z0) :
    Calls Try.prog 3 #[.slice a0 len0 cap0] w fun e w' => e = .returned (.bool true) ∧ Below w.heap.size w w' := by
  obtain ⟨hcode, hs⟩ := CurKit.code_at w0
  clear w0
  have HK := Lib.hid hcode
  have HS := Lib.hid hs
  clear hcode
  unfold maxLen at hs
  by_cases hbig : 1048576 < len0
  · go_enter Try.func3, Try.ntmps3
    go_wp2
    go_ret
    exact ⟨rfl, Below.refl _ _⟩
  go_enter Try.func3, Try.ntmps3
  go_wp2_with (go_at_call 10; go_in)
  refine (DrawFm.draw_c _ a0 len0 cap0 HK.out HS.out).mono ?_
  rintro e w1 ⟨l, p, c, vs, q, d, hl, hl9, hvs, rfl, ho, hov, hb⟩
  obtain ⟨m, hm⟩ : ∃ m, l.length = m := ⟨_, rfl⟩
  rw [hm] at ho ⊢
  have hm9 : m ≤ 9 := by rw [← hm]; exact hl9
  have HM := Lib.hid hm
  have HL := Lib.hid hl
  have HVS := Lib.hid hvs
  have HO1 := Lib.hid ho
  have HV1 := Lib.hid hov
  have HC1 := Lib.hid hb
  clear hm hl hl9 hvs ho hov hb hbig hs
  obtain ⟨⟨r, ok⟩, hev⟩ : ∃ R, NodeMath.evalAll l vs = R := ⟨_, rfl⟩
  obtain ⟨⟨x1, x2, isx⟩, hx⟩ : ∃ R, NodeMath.evalL l vs = R := ⟨_, rfl⟩
  have HEV := Lib.hid hev
  have HXX := Lib.hid hx
  clear hev hx
  go_wp2_with fail
  refine (EvalI.eval_i _ p m c l q 8 d vs HM.out (by omega) (RowN.reads_own TNode.fw HO1.out) HVS.out.1 (by omega) (RowN.reads_own TFrac.fw HV1.out)).mono ?_
  rintro e w2 ⟨p2, c2, rfl, ho2, hb⟩
  rw [HEV.out] at ho2 ⊢
  have HO2 := Lib.hid (HO1.out.on hb)
  have HV2 := Lib.hid (HV1.out.on hb)
  have HR2 := Lib.hid ho2
  have HC2 := Lib.hid (BelowKit.bl_trans HC1.out hb)
  clear ho2 hb HO1 HV1 HC1
  go_wp2_with fail
  refine (EvalI.last_i _ p m c l q 8 d vs HM.out (by omega) (RowN.reads_own TNode.fw HO2.out) HVS.out.1 (by omega) (RowN.reads_own TFrac.fw HV2.out)).mono ?_
  rintro e w3 ⟨rfl, hb⟩
  rw [HXX.out]
  have HO3 := Lib.hid (HO2.out.on hb)
  have HV3 := Lib.hid (HV2.out.on hb)
  have HR3 := Lib.hid (HR2.out.on hb)
  have HC3 := Lib.hid (BelowKit.bl_trans HC2.out hb)
  clear hb HO2 HV2 HR2 HC2
  go_wp2_with fail
  have hb4 : Below w3.heap.size w3 (w3.alloc (.cells #[.int .i64 x1, .int .i64 x2] 31)) := by (repeat (first | exact Below.refl _ _ | apply BelowKit.bl_alloc | apply BelowKit.bl_drewN | apply BelowKit.bl_drew | (refine BelowKit.bl_set ?_ _ ?_; rotate_left; (first | omega | (simp; omega) | simp)) | (refine BelowKit.bl_trans ?_ (‹Hid (Below _ _ _)›).out)))
  refine (EvalS.eval_s _ p m c l q 8 d vs HM.out (by omega) ((RowN.reads_own TNode.fw HO3.out).on hb4) HVS.out.1 (by omega) ((RowN.reads_own TFrac.fw HV3.out).on hb4)).mono ?_
  rintro e w4 ⟨p4, c4, rfl, _, hb⟩
  rw [HEV.out]
  have cX0 : w4.cell? ⟨w3.heap.size, 0, none⟩ = some (.int .i64 x1) := ((BelowKit.bcell hb).1 _ _ (by first | omega | (simp; done) | (simp; omega))).trans (by simp [go_sem])
  have cX1 : w4.cell? ⟨w3.heap.size, 1, none⟩ = some (.int .i64 x2) := ((BelowKit.bcell hb).1 _ _ (by first | omega | (simp; done) | (simp; omega))).trans (by simp [go_sem])
  have zX : w3.heap.size < w4.heap.size := by have := hb.size; simp at this; omega
  have hb34 := BelowKit.bl_trans hb4 hb
  have HO4 := Lib.hid (HO3.out.on hb34)
  have HV4 := Lib.hid (HV3.out.on hb34)
  have HR4 := Lib.hid (HR3.out.on hb34)
  have HC4 := Lib.hid (BelowKit.bl_trans HC3.out hb34)
  clear hb hb4 hb34 HO3 HV3 HR3 HC3
  rcases DerivedMath.both HEV.out with ⟨rfl, hq⟩ | ⟨rfl, _, _, hev, hlr, hr0, hxl⟩
  · rw [HXX.out] at hq
    simp only [] at hq
    subst hq
    go_wp2
    go_ret
    exact ⟨rfl, HC4.out⟩
  rw [HXX.out] at hxl
  rw [HM.out] at hlr
  obtain ⟨k0, rfl⟩ : ∃ k, m = k + 1 := ⟨m - 1, by omega⟩
  have hk0 : k0 < r.length := by omega
  have hX : x1 = (r[k0]'hk0).Num ∧ x2 = (r[k0]'hk0).Den ∧ isx = true := by
    have e0 : r.length - 1 = k0 := by omega
    simp only [e0] at hxl
    exact ⟨(Prod.mk.inj hxl).1, (Prod.mk.inj (Prod.mk.inj hxl).2).1, (Prod.mk.inj (Prod.mk.inj hxl).2).2⟩
  obtain ⟨hX1, hX2, rfl⟩ := hX
  obtain ⟨g2, e', _, hg2, d0, d1, _⟩ := TFrac.own HR4.out k0 hk0
  rw [← hX1] at d0
  rw [← hX2] at d1
  subst e'
  rw [hlr] at HR4 ⊢
  obtain ⟨M, hMM⟩ : ∃ M, k0 + 1 = M := ⟨_, rfl⟩
  rw [hMM] at HO4 HR4 HM hm9 hlr ⊢
  have HEVM := Lib.hid hev
  have HLR := Lib.hid hlr
  have W1 : IntKind.i64.wrap ((M : Int) - 1) = (k0 : Int) := by rw [IntWalk.i64_in _ (by omega)]; omega
  have b0 : (0 : Int) ≤ (k0 : Int) := by omega
  have b00 : (k0 : Int) < (M : Int) := by omega
  have hneq := fun W => FracEq.neq x1 x2 x1 x2 W
  have hsame : (!(x1 == x1 && x2 == x2)) = false := by simp
  simp only [hsame] at hneq
  have hgrd := fun W x y a b c e => FracEq.guard .neq x y #[.int .i64 a, .int .i64 b] #[.int .i64 c, .int .i64 e] W
  have HMM := Lib.hid hMM
  clear hev hlr hr0 hxl hX1 hX2 hsame hk0 hMM HXX HEV
  go_wp2_with fail
  go_quiet (fail)
  clear W1 b0 b00 hneq d0 d1 cX0 cX1
  have HB4 := Lib.hid (show Below w4.heap.size w4 (w4.drewN nq) by (repeat (first | exact Below.refl _ _ | apply BelowKit.bl_alloc | apply BelowKit.bl_drewN | apply BelowKit.bl_drew | (refine BelowKit.bl_set ?_ _ ?_; rotate_left; (first | omega | (simp; omega) | simp)) | (refine BelowKit.bl_trans ?_ (‹Hid (Below _ _ _)›).out))))
  obtain ⟨U, hU⟩ : ∃ U, w4.drewN nq = U := ⟨_, rfl⟩
  rw [hU] at HB4 ⊢
  have HOU := Lib.hid (HO4.out.on HB4.out)
  have HVU := Lib.hid (HV4.out.on HB4.out)
  have HRU := Lib.hid (HR4.out.on HB4.out)
  have HCU := Lib.hid (BelowKit.bl_trans HC4.out HB4.out)
  clear hU HB4 HO4 HV4 HR4 HC4 hg2 zX
  go_wp2
  go_loopw [11] (fun i wr => ∃ j : Nat, j ≤ M ∧ i = .int .i64 (j : Int) ∧ Hid (Below U.heap.size U wr)) (fun i _ => M - (intOf i).toNat)
  case atStart => exact ⟨0, Nat.zero_le _, rfl, Lib.hid (Below.refl _ _)⟩
  case round =>
    obtain ⟨j, hj, rfl, HB⟩ := hrel
    by_cases hlt : j < M
    · have HLT := Lib.hid (show j < l.length by rw [HM.out]; exact hlt)
      have HLR' := Lib.hid (show j < r.length by rw [HLR.out]; exact hlt)
      obtain ⟨gn, on, rfl, hgl, q0, q1, q2, q3, q4, q5⟩ := TNode.read ((RowN.reads_own TNode.fw HOU.out).on HB.out) j HLT.out
      obtain ⟨gr, e', _, hgr, d0, d1, _⟩ := TFrac.own (HRU.out.on HB.out) j HLR'.out
      cases e'
      have HDER := Lib.hid (DerivedMath.derived HL.out HVS.out HEVM.out j HLT.out HLR'.out)
      have HOK := Lib.hid (NodeMath.okN_of (HL.out.2 j HLT.out))
      have bb1 : (0 : Int) ≤ (j : Int) := by omega
      have bb2 : (j : Int) < (M : Int) := by omega
      generalize l[j]'HLT.out = n at q0 q1 q2 q3 q4 q5 HDER HOK
      generalize r[j]'HLR'.out = x at d0 d1 HDER
      obtain ⟨kd, a, b_, c_, u, v_⟩ := n
      obtain ⟨y1, y2⟩ := x
      simp only [] at q0 q1 q2 q3 q4 q5 d0 d1
      have hA := BelowKit.bl_alloc (o := .cells #[.int .i64 kd, .int .i64 a, .int .i64 b_, .int .i64 c_, .int .i64 u, .int .i64 v_] 35) (Below.refl wr.heap.size wr)
      have HBA := Lib.hid (BelowKit.bl_trans HB.out hA)
      have nz : wr.heap.size < (wr.alloc (.cells #[.int .i64 kd, .int .i64 a, .int .i64 b_, .int .i64 c_, .int .i64 u, .int .i64 v_] 35)).heap.size := by simp
      have N0 : (wr.alloc (.cells #[.int .i64 kd, .int .i64 a, .int .i64 b_, .int .i64 c_, .int .i64 u, .int .i64 v_] 35)).cell? ⟨wr.heap.size, 0, none⟩ = some (.int .i64 kd) := by simp [go_sem]
      have N1 : (wr.alloc (.cells #[.int .i64 kd, .int .i64 a, .int .i64 b_, .int .i64 c_, .int .i64 u, .int .i64 v_] 35)).cell? ⟨wr.heap.size, 1, none⟩ = some (.int .i64 a) := by simp [go_sem]
      have N2 : (wr.alloc (.cells #[.int .i64 kd, .int .i64 a, .int .i64 b_, .int .i64 c_, .int .i64 u, .int .i64 v_] 35)).cell? ⟨wr.heap.size, 2, none⟩ = some (.int .i64 b_) := by simp [go_sem]
      have N4 : (wr.alloc (.cells #[.int .i64 kd, .int .i64 a, .int .i64 b_, .int .i64 c_, .int .i64 u, .int .i64 v_] 35)).cell? ⟨wr.heap.size, 4, none⟩ = some (.int .i64 u) := by simp [go_sem]
      have N5 : (wr.alloc (.cells #[.int .i64 kd, .int .i64 a, .int .i64 b_, .int .i64 c_, .int .i64 u, .int .i64 v_] 35)).cell? ⟨wr.heap.size, 5, none⟩ = some (.int .i64 v_) := by simp [go_sem]
      have hAc := (BelowKit.bcell hA).1
      have D0 := (hAc _ _ hgr).trans d0
      have D1 := (hAc _ _ hgr).trans d1
      have NG : g2 < (wr.alloc (.cells #[.int .i64 kd, .int .i64 a, .int .i64 b_, .int .i64 c_, .int .i64 u, .int .i64 v_] 35)).heap.size := by simp; omega
      obtain ⟨hab, ha2⟩ : (3 ≤ kd ∧ kd ≤ 8 → (0 ≤ a ∧ a < (j : Int)) ∧ (0 ≤ b_ ∧ b_ < (j : Int))) ∧ (kd = 2 → 0 ≤ a ∧ a < 8) := by
        rcases HOK.out with h | ⟨_, _, h | h | h⟩ <;> simp only [] at h <;> omega
      have HD := HDER.out
      have HN := Lib.hid (And.intro N0 (And.intro N1 (And.intro N2 (And.intro N4 N5))))
      have HDD := Lib.hid (And.intro D0 D1)
      have HAC := Lib.hid hAc
      have HAB := Lib.hid hab
      have HA2 := Lib.hid ha2
      have HNG := Lib.hid NG
      have HNZ := Lib.hid nz
      clear N0 N1 N2 N4 N5 D0 D1 hA hAc hab ha2 NG nz d0 d1 HDER HOK
      go_wp2_with fail
      obtain ⟨W0, hW0⟩ : ∃ W0, wr.alloc (.cells #[.int .i64 kd, .int .i64 a, .int .i64 b_, .int .i64 c_, .int .i64 u, .int .i64 v_] 35) = W0 := ⟨_, rfl⟩
      rw [hW0] at HN HDD HNG HNZ HBA HAC ⊢
      obtain ⟨N0, N1, N2, N4, N5⟩ := HN.out
      obtain ⟨D0, D1⟩ := HDD.out
      clear q0 q1 q2 q3 q4 q5 hW0
      by_cases h1 : kd = 1
      case pos =>
        subst h1
        obtain ⟨e1, e2⟩ := HD.c rfl
        simp only [] at e1 e2
        subst e1
        subst e2
        clear HD
        refine Der1.case_1 N0 N4 N5 HNG.out D0 D1 HNZ.out hlt ?_
        intro W5 y79 y80 y81 y82 y83 y84 y85 y86 y87 y88 y89 y90 y91 y92 y93 y94 y95 y96 y97 y98 y99 y100 y101 y102 y103 y104 y105 y106 y107 y108 y109 y110 y111 y112 y113 y114 y115 y116 y117 y118 y119 y120 y121 y122 y123 y124 y125 y126 y127 y128 y129 y130 y131 y132 y133 y134 y135 y136 y137 y138 y139 y140 y141 y142 y143 y144 y145 y146 y147 y148 y149 y150 y151 y152 y153 y154 y155 y156 y157 y158 y159 y160 y161 y162 y163 y164 y165 y166 y167 y168 hB5
        have HX := Lib.hid (BelowKit.bl_trans HBA.out hB5)
        clear hB5 N0 N1 N2 N4 N5 D0 D1
        go_wp2
        go_roundw
        case rel => exact ⟨j + 1, by omega, by go_num, HX⟩
        case measure => simp [intOf]; omega
      case neg =>
      by_cases h2 : kd = 2
      case pos =>
        subst h2
        have ha := HA2.out rfl
        obtain ⟨ia, rfl, hia⟩ := ValS.nat_of ha
        have hlv : ia < vs.length := by rw [HVS.out.1]; omega
        obtain ⟨gv, ov, rfl, hgv, t0, t1⟩ := TFrac.read ((RowN.reads_own TFrac.fw HVU.out).on HB.out) ia hlv
        have hat := ValS.at0_get hlv
        obtain ⟨e1, e2⟩ := HD.var rfl
        simp only [hat] at e1 e2
        rw [← e1] at t0
        rw [← e2] at t1
        have T0 := (HAC.out _ _ hgv).trans t0
        have T1 := (HAC.out _ _ hgv).trans t1
        clear HD
        refine Der2.case_2 (by omega) N0 N1 HNG.out D0 D1 (by have := HNZ.out; omega) T0 T1 HNZ.out hlt ?_
        intro W5 y79 y80 y81 y82 y83 y84 y85 y86 y87 y88 y89 y90 y91 y92 y93 y94 y95 y96 y97 y98 y99 y100 y101 y102 y103 y104 y105 y106 y107 y108 y109 y110 y111 y112 y113 y114 y115 y116 y117 y118 y119 y120 y121 y122 y123 y124 y125 y126 y127 y128 y129 y130 y131 y132 y133 y134 y135 y136 y137 y138 y139 y140 y141 y142 y143 y144 y145 y146 y147 y148 y149 y150 y151 y152 y153 y154 y155 y156 y157 y158 y159 y160 y161 y162 y163 y164 y165 y166 y167 y168 hB5
        have HX := Lib.hid (BelowKit.bl_trans HBA.out hB5)
        clear hB5 N0 N1 N2 N4 N5 D0 D1 T0 T1 t0 t1 e1 e2 hat ha hlv
        go_wp2
        go_roundw
        case rel => exact ⟨j + 1, by omega, by go_num, HX⟩
        case measure => simp [intOf]; omega
      case neg =>
      by_cases h7 : kd = 7
      case pos =>
        subst h7
        obtain ⟨ha, hb_⟩ := HAB.out (by omega)
        obtain ⟨ia, rfl, hia⟩ := ValS.nat_of ha
        obtain ⟨ib, rfl, hib⟩ := ValS.nat_of hb_
        have hla : ia < r.length := by rw [HLR.out]; omega
        have hlb : ib < r.length := by rw [HLR.out]; omega
        obtain ⟨_, e', _, _, t0, t1, _⟩ := TFrac.own (HRU.out.on HB.out) ia hla
        cases e'
        obtain ⟨_, e', _, _, s0, s1, _⟩ := TFrac.own (HRU.out.on HB.out) ib hlb
        cases e'
        have hata := ValS.at0_get hla
        have hatb := ValS.at0_get hlb
        obtain ⟨e1, e2⟩ := HD.lo rfl
        simp only [hata, hatb] at e1 e2
        clear HD
        refine Der7.case_7 (ia := ia) (ib := ib) (by omega) (by omega) N0 N1 N2 HNG.out D0 D1 ((HAC.out _ _ hgr).trans t0) ((HAC.out _ _ hgr).trans t1) ((HAC.out _ _ hgr).trans s0) ((HAC.out _ _ hgr).trans s1) (Lib.hid rfl) (Lib.hid rfl) e1 e2 HNZ.out hlt ?_
        intro W5 y79 y80 y81 y82 y83 y84 y85 y86 y87 y88 y89 y90 y91 y92 y93 y94 y95 y96 y97 y98 y99 y100 y101 y102 y103 y104 y105 y106 y107 y108 y109 y110 y111 y112 y113 y114 y115 y116 y117 y118 y119 y120 y121 y122 y123 y124 y125 y126 y127 y128 y129 y130 y131 y132 y133 y134 y135 y136 y137 y138 y139 y140 y141 y142 y143 y144 y145 y146 y147 y148 y149 y150 y151 y152 y153 y154 y155 y156 y157 y158 y159 y160 y161 y162 y163 y164 y165 y166 y167 y168 hB5
        have HX := Lib.hid (BelowKit.bl_trans HBA.out hB5)
        clear hB5 N0 N1 N2 N4 N5 D0 D1 t0 t1 s0 s1 e1 e2 hata hatb ha hb_ hla hlb
        go_wp2
        go_roundw
        case rel => exact ⟨j + 1, by omega, by go_num, HX⟩
        case measure => simp [intOf]; omega
      case neg =>
      by_cases h8 : kd = 8
      case pos =>
        subst h8
        obtain ⟨ha, hb_⟩ := HAB.out (by omega)
        obtain ⟨ia, rfl, hia⟩ := ValS.nat_of ha
        obtain ⟨ib, rfl, hib⟩ := ValS.nat_of hb_
        have hla : ia < r.length := by rw [HLR.out]; omega
        have hlb : ib < r.length := by rw [HLR.out]; omega
        obtain ⟨_, e', _, _, t0, t1, _⟩ := TFrac.own (HRU.out.on HB.out) ia hla
        cases e'
        obtain ⟨_, e', _, _, s0, s1, _⟩ := TFrac.own (HRU.out.on HB.out) ib hlb
        cases e'
        have hata := ValS.at0_get hla
        have hatb := ValS.at0_get hlb
        obtain ⟨e1, e2⟩ := HD.hi rfl
        simp only [hata, hatb] at e1 e2
        clear HD
        refine Der8.case_8 (ia := ia) (ib := ib) (by omega) (by omega) N0 N1 N2 HNG.out D0 D1 ((HAC.out _ _ hgr).trans t0) ((HAC.out _ _ hgr).trans t1) ((HAC.out _ _ hgr).trans s0) ((HAC.out _ _ hgr).trans s1) (Lib.hid rfl) (Lib.hid rfl) e1 e2 HNZ.out hlt ?_
        intro W5 y79 y80 y81 y82 y83 y84 y85 y86 y87 y88 y89 y90 y91 y92 y93 y94 y95 y96 y97 y98 y99 y100 y101 y102 y103 y104 y105 y106 y107 y108 y109 y110 y111 y112 y113 y114 y115 y116 y117 y118 y119 y120 y121 y122 y123 y124 y125 y126 y127 y128 y129 y130 y131 y132 y133 y134 y135 y136 y137 y138 y139 y140 y141 y142 y143 y144 y145 y146 y147 y148 y149 y150 y151 y152 y153 y154 y155 y156 y157 y158 y159 y160 y161 y162 y163 y164 y165 y166 y167 y168 hB5
        have HX := Lib.hid (BelowKit.bl_trans HBA.out hB5)
        clear hB5 N0 N1 N2 N4 N5 D0 D1 t0 t1 s0 s1 e1 e2 hata hatb ha hb_ hla hlb
        go_wp2
        go_roundw
        case rel => exact ⟨j + 1, by omega, by go_num, HX⟩
        case measure => simp [intOf]; omega
      case neg =>
      clear HD
      refine DerE.case_E N0 h1 h2 h7 h8 HNZ.out hlt ?_
      intro W5 y79 y80 y81 y82 y83 y84 y85 y86 y87 y88 y89 y90 y91 y92 y93 y94 y95 y96 y97 y98 y99 y100 y101 y102 y103 y104 y105 y106 y107 y108 y109 y110 y111 y112 y113 y114 y115 y116 y117 y118 y119 y120 y121 y122 y123 y124 y125 y126 y127 y128 y129 y130 y131 y132 y133 y134 y135 y136 y137 y138 y139 y140 y141 y142 y143 y144 y145 y146 y147 y148 y149 y150 y151 y152 y153 y154 y155 y156 y157 y158 y159 y160 y161 y162 y163 y164 y165 y166 y167 y168 hB5
      have HX := Lib.hid (BelowKit.bl_trans HBA.out hB5)
      clear hB5 N0 N1 N2 N4 N5 D0 D1 h1 h2 h7 h8
      go_wp2
      go_roundw
      case rel => exact ⟨j + 1, by omega, by go_num, HX⟩
      case measure => simp [intOf]; omega
    · obtain rfl : j = M := by omega
      go_wp2_with fail
      refine (FormI.form_i _ p j c l HM.out (by omega) ((RowN.reads_own TNode.fw HOU.out).on HB.out)).mono ?_
      rintro e w5 ⟨rfl, hb5⟩
      rw [NodeMath.okF_yes HL.out]
      have HB5 := Lib.hid (BelowKit.bl_trans HCU.out (BelowKit.bl_trans HB.out hb5))
      clear hb5
      go_wp2
      go_ret
      exact ⟨rfl, HB5.out⟩

/-! ### THE ROW's STEP: WRITTEN OUT: LEAVE IT -/
set_option maxRecDepth 100000 in
theorem lifted (os : Os) (started : os.Started) (H : Type) (enc : TypeId × Value → H) :
    ReturnsInHanded {} Try.checked os 3 .any (Rows.fnDerivedSpec.pre6 enc Try.prog Try.f3 Rows.fnDerivedRow.domain false) (Rows.fnDerivedSpec.post enc Try.prog Try.f3 false true false false) := by
  refine returnsInHanded_of_change (C := Try.checked) own started (by kernel_rfl) Try.func3
    (ChangeSpec.witness6 (enc := enc) (C := Try.checked) false ⟨#[], #[.slice none 0 0], []⟩ 8 (by kernel_rfl) (by kernel_rfl) (by kernel_rfl) (by kernel_rfl)) ?_
  intro W base args ds gs before hval0 hW hcnd _
  have hval : ∀ (j : Nat) t v, Try.f3.params[j]? = some t → args[j]? = some v → Value.okWide Try.prog W .any base t v := hval0
  have hW' := hW
  obtain ⟨p, q, hA0, hV, rfl, hfz, hnd⟩ := hW
  have hA : DataW.TrodAll enc Try.prog W 0 (fun _ => true) true Try.f3.params.toList args.toList ds p := hA0
  rw [Try.params3] at hA hval
  obtain ⟨v0, vs0, d0, ds0, p0, q0, hargs, rfl, rfl, h0, r0⟩ := trodAll_cons hA
  obtain ⟨rfl, rfl, rfl⟩ := trodAll_nil r0
  obtain rfl : args = #[v0] := by cases args; simp_all
  obtain ⟨rfl, rfl⟩ := trodVars_none hV
  obtain ⟨a0, len0, cap0, rfl⟩ := okWide_slice Try.underlying22 (hval 0 22 v0 rfl rfl)
  have k0 := h0
  have lt0 : ∀ x ∈ p0, x.block < W.heap.size := by obtain ⟨m, hm⟩ := k0; exact DataW.trod_lt m _ _ _ hm
  obtain ⟨z0, w0⟩ : ∃ zs, IsRow .u8 W a0 len0 cap0 zs := by
    obtain ⟨fuel, hf⟩ := h0
    rcases open_ints Try.underlying22 Try.underlying5 (by kernel_rfl) hf with ⟨hcs, _⟩ | ⟨x, l, c, zs, hcs, _, hl, hm, hz, _, hcell, hwz⟩
    · simp [Value.cells] at hcs
      obtain ⟨rfl, rfl, rfl⟩ := hcs
      exact ⟨[], .inl ⟨rfl, rfl, rfl, rfl⟩⟩
    · simp [Value.cells] at hcs
      obtain ⟨rfl, rfl, rfl⟩ := hcs
      exact ⟨zs, .inr ⟨_, rfl, hl, hm, by simpa using hz, hcell, hwz⟩⟩
  clear hA0 hval0
  refine (walk a0 len0 cap0 z0 W w0).mono fun e W' ⟨he, bel⟩ => ?_
  subst he
  exact ⟨_, rfl, _, _, _, [], _, [], hW', trodAll_mk1 (shut_bool Try.underlying4 _), (trodAll_cons_mk (Below.trod laidOut (by kernel_rfl) (of_decide_eq_true (by kernel_rfl)) k0 bel lt0) trodAll_mk0), rfl, bel.frame _, fun h => by cases h⟩

theorem over : Rows.fnDerivedRow.holds Try.pinned (OpenSpec.ofChange Rows.fnDerivedSpec) :=
  OpenClaim.holds_of_wide 3 Try.f3 rfl rfl rfl rfl rfl rfl rfl ⟨rfl, rfl, rfl, rfl, rfl⟩ rfl rfl rfl rfl rfl (by kernel_rfl) Try.func3 (by kernel_rfl)
    (of_decide_eq_true (by kernel_rfl)) (by unfold Func.isWrapper; first | (rw [if_pos (by decide +kernel)]; kernel_rfl) | (rw [if_neg (by decide +kernel)]; exact ⟨rfl, rfl⟩))
    (fun os started H enc _ => lifted os started H enc)

theorem proved : Rows.FnDerivedSaid := over
#print axioms proved
end Go.Proofs.Ytlljhcfiojfimaa.fnDerived
