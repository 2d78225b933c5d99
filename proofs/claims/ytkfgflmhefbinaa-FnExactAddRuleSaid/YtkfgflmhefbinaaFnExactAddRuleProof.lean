/- Proves the given statement of the law FnExactAddRule: for every input that the row lets in, the law's Go function returns true and every argument reads as before; no condition of mine. -/
import Derived.Test.YtkfgflmhefbinaaRuleF
import Derived.Test.YtkfgflmhefbinaaKit
import Derived.Test.YtkfgflmhefbinaaTNode
import Derived.Test.YtkfgflmhefbinaaNodeMath
import Derived.Test.YtkfgflmhefbinaaRows
import Derived.WalkKit
import Derived.ProofKit
import Derived.OpenShut
import Derived.ShutString
import Derived.ChangeOld
import Derived.Below
import Derived.Deep.RegionHeld3
import Derived.Deep.DeepCutAuto
import Derived.Lib.Hide
import Derived.Lib.SmallJoins
import Derived.Test.YtkfgflmhefbinaaRuleX
namespace Go.Proofs.Ytkfgflmhefbinaa.fnExactAddRule
open Go.ChangeShapes Go.WideShapes Go.ChangeAt Go.RowKit
open Go.ChangeMaps (open_string shut_string)
set_option linter.unusedVariables false

theorem own : ownKnob Try.prog.godebug = none := by kernel_rfl
theorem laidOut : laidOutB Try.prog = true := by kernel_rfl

/-! ### STEP 1: the walk -/
set_option maxHeartbeats 16000000 in
theorem walk (a0_Rules : Option Addr) (len0_Rules cap0_Rules : Nat) (z0_Rules : List TRule.Ru) (a1_Name : Int) (a1_From : Int) (a1_To : Int) (a1_Joined : Int) (a1_Rank : Int) (a1_Mode : Int) (a1_Nodes : Option Addr) (len1_Nodes cap1_Nodes : Nat) (z1_Nodes : List TNode.El) (w : World) (hz0_Rules : z0_Rules.length = len0_Rules) (w0_Rules : TRule.RdD w a0_Rules z0_Rules) (hl0_Rules : len0_Rules ≤ 9223372036854775807) (g0_Rules : ∀ j (h : j < z0_Rules.length), z0_Rules[j].Nodes.length ≤ 9223372036854775807) (w1_Name : (Lit.int .i64 a1_Name).wf = true) (w1_From : (Lit.int .i64 a1_From).wf = true) (w1_To : (Lit.int .i64 a1_To).wf = true) (w1_Joined : (Lit.int .i64 a1_Joined).wf = true) (w1_Rank : (Lit.int .i64 a1_Rank).wf = true) (w1_Mode : (Lit.int .i64 a1_Mode).wf = true) (hz1_Nodes : z1_Nodes.length = len1_Nodes) (w1_Nodes : RowN.Reads TNode.fc 6 w a1_Nodes z1_Nodes) (hl1_Nodes : len1_Nodes ≤ 9223372036854775807) (g1_Nodes : ∀ x ∈ z1_Nodes, TNode.Wf x) :
    Calls Try.prog 10 #[.agg #[.slice a0_Rules len0_Rules cap0_Rules], .agg #[.int .i64 a1_Name, .int .i64 a1_From, .int .i64 a1_To, .int .i64 a1_Joined, .int .i64 a1_Rank, .int .i64 a1_Mode, .slice a1_Nodes len1_Nodes cap1_Nodes]] w fun e w' => e = .returned (.bool true) ∧ Below w.heap.size w w' := by
  have HR0_Rules := Lib.hid w0_Rules
  have HM0_Rules := Lib.hid hz0_Rules
  have HG0_Rules := Lib.hid g0_Rules
  obtain ⟨Z0_Rules, hZ0_Rules⟩ : ∃ Z, TRule.szT z0_Rules = Z := ⟨_, rfl⟩
  have HZ0_Rules := Lib.hid hZ0_Rules
  clear g0_Rules hZ0_Rules
  have HR1_Nodes := Lib.hid w1_Nodes
  have HM1_Nodes := Lib.hid hz1_Nodes
  clear w0_Rules hz0_Rules w1_Nodes hz1_Nodes
  by_cases hbig : 1048576 < Z0_Rules
  · go_enter Try.func10, Try.ntmps10
    go_wp2_with fail
    obtain ⟨W1, hW1⟩ : ∃ V : World, V = (w.alloc (.cells #[.slice a0_Rules len0_Rules cap0_Rules] 63)).alloc (.cells #[.int .i64 a1_Name, .int .i64 a1_From, .int .i64 a1_To, .int .i64 a1_Joined, .int .i64 a1_Rank, .int .i64 a1_Mode, .slice a1_Nodes len1_Nodes cap1_Nodes] 55) := ⟨_, rfl⟩
    rw [← hW1]
    have hb : Below w.heap.size w W1 := by rw [hW1]; (repeat (first | exact Below.refl _ _ | apply BelowKit.bl_alloc | apply BelowKit.bl_drewN | apply BelowKit.bl_drew | (refine BelowKit.bl_set ?_ _ ?_; rotate_left; (first | omega | (simp; omega) | simp)) | (refine BelowKit.bl_trans ?_ (‹Hid (Below _ _ _)›).out)))
    have tW1 : w.heap.size + 2 ≤ W1.heap.size := by rw [hW1]; simp
    have uW1 : W1.heap.size ≤ w.heap.size + 2 := by rw [hW1]; simp
    have c2 : W1.cell? ⟨w.heap.size, 0, none⟩ = some (.slice a0_Rules len0_Rules cap0_Rules) := by rw [hW1]; simp [go_sem]
    have z3 : w.heap.size < W1.heap.size := by omega
    have c4 : W1.cell? ⟨w.heap.size + 1, 0, none⟩ = some (.int .i64 a1_Name) := by rw [hW1]; simp [go_sem]
    have c5 : W1.cell? ⟨w.heap.size + 1, 1, none⟩ = some (.int .i64 a1_From) := by rw [hW1]; simp [go_sem]
    have c6 : W1.cell? ⟨w.heap.size + 1, 2, none⟩ = some (.int .i64 a1_To) := by rw [hW1]; simp [go_sem]
    have c7 : W1.cell? ⟨w.heap.size + 1, 3, none⟩ = some (.int .i64 a1_Joined) := by rw [hW1]; simp [go_sem]
    have c8 : W1.cell? ⟨w.heap.size + 1, 4, none⟩ = some (.int .i64 a1_Rank) := by rw [hW1]; simp [go_sem]
    have c9 : W1.cell? ⟨w.heap.size + 1, 5, none⟩ = some (.int .i64 a1_Mode) := by rw [hW1]; simp [go_sem]
    have c10 : W1.cell? ⟨w.heap.size + 1, 6, none⟩ = some (.slice a1_Nodes len1_Nodes cap1_Nodes) := by rw [hW1]; simp [go_sem]
    have z11 : w.heap.size + 1 < W1.heap.size := by omega
    clear hW1
    have sW1 : w.heap.size ≤ W1.heap.size := hb.size
    have HC12 := Lib.hid hb
    clear hb
    refine (TBook.sz_c W1 a0_Rules len0_Rules cap0_Rules 1048576 z0_Rules HM0_Rules.out hl0_Rules HG0_Rules.out (by omega) (by omega) (HR0_Rules.out.on HC12.out)).mono ?_
    rintro e w9 ⟨rfl, hb⟩
    rw [HZ0_Rules.out, if_pos (by omega)]
    have HC9 := Lib.hid (BelowKit.bl_trans HC12.out hb)
    clear hb
    go_wp2
    go_ret
    exact ⟨rfl, HC9.out⟩
  have hs0_Rules : Z0_Rules ≤ 1048576 := by omega
  have hf0_Rules := RuleX.sz_facts HM0_Rules.out HZ0_Rules.out (by omega)
  have hn0_Rules := hf0_Rules.1
  have HFW0_Rules := Lib.hid hf0_Rules.2.1
  have HFX0_Rules := Lib.hid hf0_Rules.2.2.1
  have HT0_Rules := Lib.hid hf0_Rules.2.2.2.1
  have hp0_Rules := hf0_Rules.2.2.2.2
  clear hf0_Rules
  by_cases hbig1 : 1048576 < Z0_Rules + (len1_Nodes : Int)
  · go_enter Try.func10, Try.ntmps10
    go_wp2_with fail
    obtain ⟨W13, hW13⟩ : ∃ V : World, V = (w.alloc (.cells #[.slice a0_Rules len0_Rules cap0_Rules] 63)).alloc (.cells #[.int .i64 a1_Name, .int .i64 a1_From, .int .i64 a1_To, .int .i64 a1_Joined, .int .i64 a1_Rank, .int .i64 a1_Mode, .slice a1_Nodes len1_Nodes cap1_Nodes] 55) := ⟨_, rfl⟩
    rw [← hW13]
    have hb : Below w.heap.size w W13 := by rw [hW13]; (repeat (first | exact Below.refl _ _ | apply BelowKit.bl_alloc | apply BelowKit.bl_drewN | apply BelowKit.bl_drew | (refine BelowKit.bl_set ?_ _ ?_; rotate_left; (first | omega | (simp; omega) | simp)) | (refine BelowKit.bl_trans ?_ (‹Hid (Below _ _ _)›).out)))
    have tW13 : w.heap.size + 2 ≤ W13.heap.size := by rw [hW13]; simp
    have uW13 : W13.heap.size ≤ w.heap.size + 2 := by rw [hW13]; simp
    have c14 : W13.cell? ⟨w.heap.size, 0, none⟩ = some (.slice a0_Rules len0_Rules cap0_Rules) := by rw [hW13]; simp [go_sem]
    have z15 : w.heap.size < W13.heap.size := by omega
    have c16 : W13.cell? ⟨w.heap.size + 1, 0, none⟩ = some (.int .i64 a1_Name) := by rw [hW13]; simp [go_sem]
    have c17 : W13.cell? ⟨w.heap.size + 1, 1, none⟩ = some (.int .i64 a1_From) := by rw [hW13]; simp [go_sem]
    have c18 : W13.cell? ⟨w.heap.size + 1, 2, none⟩ = some (.int .i64 a1_To) := by rw [hW13]; simp [go_sem]
    have c19 : W13.cell? ⟨w.heap.size + 1, 3, none⟩ = some (.int .i64 a1_Joined) := by rw [hW13]; simp [go_sem]
    have c20 : W13.cell? ⟨w.heap.size + 1, 4, none⟩ = some (.int .i64 a1_Rank) := by rw [hW13]; simp [go_sem]
    have c21 : W13.cell? ⟨w.heap.size + 1, 5, none⟩ = some (.int .i64 a1_Mode) := by rw [hW13]; simp [go_sem]
    have c22 : W13.cell? ⟨w.heap.size + 1, 6, none⟩ = some (.slice a1_Nodes len1_Nodes cap1_Nodes) := by rw [hW13]; simp [go_sem]
    have z23 : w.heap.size + 1 < W13.heap.size := by omega
    clear hW13
    have sW13 : w.heap.size ≤ W13.heap.size := hb.size
    have HC24 := Lib.hid hb
    clear hb
    refine (TBook.sz_c W13 a0_Rules len0_Rules cap0_Rules 1048576 z0_Rules HM0_Rules.out hl0_Rules HG0_Rules.out (by omega) (by omega) (HR0_Rules.out.on HC24.out)).mono ?_
    rintro e w25 ⟨rfl, hb⟩
    rw [HZ0_Rules.out, if_neg (by omega)]
    have sw25 : W13.heap.size ≤ w25.heap.size := hb.size
    have c26 : w25.cell? ⟨w.heap.size, 0, none⟩ = some (.slice a0_Rules len0_Rules cap0_Rules) := ((BelowKit.bcell hb).1 _ _ z15).trans c14
    have z27 : w.heap.size < w25.heap.size := by omega
    have c28 : w25.cell? ⟨w.heap.size + 1, 0, none⟩ = some (.int .i64 a1_Name) := ((BelowKit.bcell hb).1 _ _ z23).trans c16
    have c29 : w25.cell? ⟨w.heap.size + 1, 1, none⟩ = some (.int .i64 a1_From) := ((BelowKit.bcell hb).1 _ _ z23).trans c17
    have c30 : w25.cell? ⟨w.heap.size + 1, 2, none⟩ = some (.int .i64 a1_To) := ((BelowKit.bcell hb).1 _ _ z23).trans c18
    have c31 : w25.cell? ⟨w.heap.size + 1, 3, none⟩ = some (.int .i64 a1_Joined) := ((BelowKit.bcell hb).1 _ _ z23).trans c19
    have c32 : w25.cell? ⟨w.heap.size + 1, 4, none⟩ = some (.int .i64 a1_Rank) := ((BelowKit.bcell hb).1 _ _ z23).trans c20
    have c33 : w25.cell? ⟨w.heap.size + 1, 5, none⟩ = some (.int .i64 a1_Mode) := ((BelowKit.bcell hb).1 _ _ z23).trans c21
    have c34 : w25.cell? ⟨w.heap.size + 1, 6, none⟩ = some (.slice a1_Nodes len1_Nodes cap1_Nodes) := ((BelowKit.bcell hb).1 _ _ z23).trans c22
    have z35 : w.heap.size + 1 < w25.heap.size := by omega
    have HC36 := Lib.hid (BelowKit.bl_trans HC24.out hb)
    clear c14 z15 c16 c17 c18 c19 c20 c21 c22 z23 HC24 hb
    go_wp2_with fail
    refine (RuleX.sz_l w25 a1_Name a1_From a1_To a1_Joined a1_Rank a1_Mode a1_Nodes len1_Nodes cap1_Nodes z1_Nodes (1048576 - Z0_Rules) HM1_Nodes.out hl1_Nodes (by omega) (by omega)).mono ?_
    rintro e w9 ⟨rfl, hb⟩
    rw [if_pos (by omega)]
    have HC9 := Lib.hid (BelowKit.bl_trans HC36.out hb)
    clear hb
    go_wp2
    go_ret
    exact ⟨rfl, HC9.out⟩
  have hs1_Nodes : Z0_Rules + (len1_Nodes : Int) ≤ 1048576 := by omega
  obtain ⟨m0, hm0⟩ : ∃ v, (BookMath.added z0_Rules ⟨a1_Name, a1_From, a1_To, a1_Joined, a1_Rank, a1_Mode, z1_Nodes⟩).1 = v := ⟨_, rfl⟩
  have hbm0 : m0.length ≤ 1099511627776 := by rw [← hm0]; exact Nat.le_trans (RuleX.len_added _ _) (by have := HM0_Rules.out; omega)
  obtain ⟨nm0, hnm0⟩ : ∃ n, m0.length = n := ⟨_, rfl⟩
  rw [hnm0] at hbm0
  have HF0 := Lib.hid hm0
  have HN0 := Lib.hid hnm0
  clear hm0 hnm0
  have HFWm0 : Hid (TBook.Few m0) := Lib.hid (by rw [← HF0.out]; exact RuleX.few_added HFW0_Rules.out (by have := HM1_Nodes.out; simp only []; omega))
  obtain ⟨tm0, htm0⟩ : ∃ t, TRule.tot m0 = t := ⟨_, rfl⟩
  have hbm0 : 0 ≤ tm0 ∧ tm0 ≤ 100000000 := by rw [← htm0, ← HF0.out]; have q := RuleX.tot_added z0_Rules ⟨a1_Name, a1_From, a1_To, a1_Joined, a1_Rank, a1_Mode, z1_Nodes⟩; have q2 := HT0_Rules.out; have q3 := HM1_Nodes.out; simp only [] at q; constructor <;> omega
  have HTm0 := Lib.hid htm0
  clear htm0
  obtain ⟨m1, hm1⟩ : ∃ v, (BookMath.added z0_Rules ⟨a1_Name, a1_From, a1_To, a1_Joined, a1_Rank, a1_Mode, z1_Nodes⟩).2 = v := ⟨_, rfl⟩
  have HF1 := Lib.hid hm1
  clear hm1
  go_enter Try.func10, Try.ntmps10
  go_wp2_with fail
  obtain ⟨W37, hW37⟩ : ∃ V : World, V = (w.alloc (.cells #[.slice a0_Rules len0_Rules cap0_Rules] 63)).alloc (.cells #[.int .i64 a1_Name, .int .i64 a1_From, .int .i64 a1_To, .int .i64 a1_Joined, .int .i64 a1_Rank, .int .i64 a1_Mode, .slice a1_Nodes len1_Nodes cap1_Nodes] 55) := ⟨_, rfl⟩
  rw [← hW37]
  have hb : Below w.heap.size w W37 := by rw [hW37]; (repeat (first | exact Below.refl _ _ | apply BelowKit.bl_alloc | apply BelowKit.bl_drewN | apply BelowKit.bl_drew | (refine BelowKit.bl_set ?_ _ ?_; rotate_left; (first | omega | (simp; omega) | simp)) | (refine BelowKit.bl_trans ?_ (‹Hid (Below _ _ _)›).out)))
  have tW37 : w.heap.size + 2 ≤ W37.heap.size := by rw [hW37]; simp
  have uW37 : W37.heap.size ≤ w.heap.size + 2 := by rw [hW37]; simp
  have c38 : W37.cell? ⟨w.heap.size, 0, none⟩ = some (.slice a0_Rules len0_Rules cap0_Rules) := by rw [hW37]; simp [go_sem]
  have z39 : w.heap.size < W37.heap.size := by omega
  have c40 : W37.cell? ⟨w.heap.size + 1, 0, none⟩ = some (.int .i64 a1_Name) := by rw [hW37]; simp [go_sem]
  have c41 : W37.cell? ⟨w.heap.size + 1, 1, none⟩ = some (.int .i64 a1_From) := by rw [hW37]; simp [go_sem]
  have c42 : W37.cell? ⟨w.heap.size + 1, 2, none⟩ = some (.int .i64 a1_To) := by rw [hW37]; simp [go_sem]
  have c43 : W37.cell? ⟨w.heap.size + 1, 3, none⟩ = some (.int .i64 a1_Joined) := by rw [hW37]; simp [go_sem]
  have c44 : W37.cell? ⟨w.heap.size + 1, 4, none⟩ = some (.int .i64 a1_Rank) := by rw [hW37]; simp [go_sem]
  have c45 : W37.cell? ⟨w.heap.size + 1, 5, none⟩ = some (.int .i64 a1_Mode) := by rw [hW37]; simp [go_sem]
  have c46 : W37.cell? ⟨w.heap.size + 1, 6, none⟩ = some (.slice a1_Nodes len1_Nodes cap1_Nodes) := by rw [hW37]; simp [go_sem]
  have z47 : w.heap.size + 1 < W37.heap.size := by omega
  clear hW37
  have sW37 : w.heap.size ≤ W37.heap.size := hb.size
  have HC48 := Lib.hid hb
  clear hb
  refine (TBook.sz_c W37 a0_Rules len0_Rules cap0_Rules 1048576 z0_Rules HM0_Rules.out hl0_Rules HG0_Rules.out (by omega) (by omega) (HR0_Rules.out.on HC48.out)).mono ?_
  rintro e w49 ⟨rfl, hb⟩
  rw [HZ0_Rules.out, if_neg (by omega)]
  have sw49 : W37.heap.size ≤ w49.heap.size := hb.size
  have c50 : w49.cell? ⟨w.heap.size, 0, none⟩ = some (.slice a0_Rules len0_Rules cap0_Rules) := ((BelowKit.bcell hb).1 _ _ z39).trans c38
  have z51 : w.heap.size < w49.heap.size := by omega
  have c52 : w49.cell? ⟨w.heap.size + 1, 0, none⟩ = some (.int .i64 a1_Name) := ((BelowKit.bcell hb).1 _ _ z47).trans c40
  have c53 : w49.cell? ⟨w.heap.size + 1, 1, none⟩ = some (.int .i64 a1_From) := ((BelowKit.bcell hb).1 _ _ z47).trans c41
  have c54 : w49.cell? ⟨w.heap.size + 1, 2, none⟩ = some (.int .i64 a1_To) := ((BelowKit.bcell hb).1 _ _ z47).trans c42
  have c55 : w49.cell? ⟨w.heap.size + 1, 3, none⟩ = some (.int .i64 a1_Joined) := ((BelowKit.bcell hb).1 _ _ z47).trans c43
  have c56 : w49.cell? ⟨w.heap.size + 1, 4, none⟩ = some (.int .i64 a1_Rank) := ((BelowKit.bcell hb).1 _ _ z47).trans c44
  have c57 : w49.cell? ⟨w.heap.size + 1, 5, none⟩ = some (.int .i64 a1_Mode) := ((BelowKit.bcell hb).1 _ _ z47).trans c45
  have c58 : w49.cell? ⟨w.heap.size + 1, 6, none⟩ = some (.slice a1_Nodes len1_Nodes cap1_Nodes) := ((BelowKit.bcell hb).1 _ _ z47).trans c46
  have z59 : w.heap.size + 1 < w49.heap.size := by omega
  have HC60 := Lib.hid (BelowKit.bl_trans HC48.out hb)
  clear c38 z39 c40 c41 c42 c43 c44 c45 c46 z47 HC48 hb
  go_wp2_with fail
  refine (RuleX.sz_l w49 a1_Name a1_From a1_To a1_Joined a1_Rank a1_Mode a1_Nodes len1_Nodes cap1_Nodes z1_Nodes (1048576 - Z0_Rules) HM1_Nodes.out hl1_Nodes (by omega) (by omega)).mono ?_
  rintro e w61 ⟨rfl, hb⟩
  rw [if_neg (by omega)]
  have sw61 : w49.heap.size ≤ w61.heap.size := hb.size
  have c62 : w61.cell? ⟨w.heap.size, 0, none⟩ = some (.slice a0_Rules len0_Rules cap0_Rules) := ((BelowKit.bcell hb).1 _ _ z51).trans c50
  have z63 : w.heap.size < w61.heap.size := by omega
  have c64 : w61.cell? ⟨w.heap.size + 1, 0, none⟩ = some (.int .i64 a1_Name) := ((BelowKit.bcell hb).1 _ _ z59).trans c52
  have c65 : w61.cell? ⟨w.heap.size + 1, 1, none⟩ = some (.int .i64 a1_From) := ((BelowKit.bcell hb).1 _ _ z59).trans c53
  have c66 : w61.cell? ⟨w.heap.size + 1, 2, none⟩ = some (.int .i64 a1_To) := ((BelowKit.bcell hb).1 _ _ z59).trans c54
  have c67 : w61.cell? ⟨w.heap.size + 1, 3, none⟩ = some (.int .i64 a1_Joined) := ((BelowKit.bcell hb).1 _ _ z59).trans c55
  have c68 : w61.cell? ⟨w.heap.size + 1, 4, none⟩ = some (.int .i64 a1_Rank) := ((BelowKit.bcell hb).1 _ _ z59).trans c56
  have c69 : w61.cell? ⟨w.heap.size + 1, 5, none⟩ = some (.int .i64 a1_Mode) := ((BelowKit.bcell hb).1 _ _ z59).trans c57
  have c70 : w61.cell? ⟨w.heap.size + 1, 6, none⟩ = some (.slice a1_Nodes len1_Nodes cap1_Nodes) := ((BelowKit.bcell hb).1 _ _ z59).trans c58
  have z71 : w.heap.size + 1 < w61.heap.size := by omega
  have HC72 := Lib.hid (BelowKit.bl_trans HC60.out hb)
  clear c50 z51 c52 c53 c54 c55 c56 c57 c58 z59 HC60 hb
  go_wp2_with fail
  have gc62 := Grown.G.keep c62 z63
  have gc64 := Grown.G.keep c64 z71
  have gc65 := Grown.G.keep c65 z71
  have gc66 := Grown.G.keep c66 z71
  have gc67 := Grown.G.keep c67 z71
  have gc68 := Grown.G.keep c68 z71
  have gc69 := Grown.G.keep c69 z71
  have gc70 := Grown.G.keep c70 z71
  refine Fresh.wp_region_store (fun k => match k with | 1 => .grow | 3 => .grow | 4 => .grow | 8 => .grow | 9 => .write | _ => .quiet)
    (fun k v => match k with
          | 1 => (∃ p73 c74, v = .agg #[.slice p73 len0_Rules c74])
          | 3 => (∃ p76 c77, v = .agg #[.int .i64 a1_Name, .int .i64 a1_From, .int .i64 a1_To, .int .i64 a1_Joined, .int .i64 a1_Rank, .int .i64 a1_Mode, .slice p76 len1_Nodes c77])
          | 4 => (∃ p79 c80, v = .tuple #[.agg #[.slice p79 nm0 c80], .bool m1])
          | 8 => (∃ g : Nat, w61.heap.size ≤ g ∧ v = .pointer (some ⟨g, 0, none⟩))
          | _ => v = undef)
    (fun k v s w1 => match k with
          | 1 => (∃ p73 c74, w61.heap.size ≤ s ∧ v = .agg #[.slice p73 len0_Rules c74] ∧ TRule.OwD w1 s w1.heap.size (.slice p73 len0_Rules c74) z0_Rules)
          | 3 => (∃ p76 c77, w61.heap.size ≤ s ∧ v = .agg #[.int .i64 a1_Name, .int .i64 a1_From, .int .i64 a1_To, .int .i64 a1_Joined, .int .i64 a1_Rank, .int .i64 a1_Mode, .slice p76 len1_Nodes c77] ∧ Own.Ow TNode.fc 6 50 w1 s w1.heap.size (.slice p76 len1_Nodes c77) z1_Nodes)
          | 4 => (∃ p79 c80, w61.heap.size ≤ s ∧ v = .tuple #[.agg #[.slice p79 nm0 c80], .bool m1] ∧ TRule.OwD w1 s w1.heap.size (.slice p79 nm0 c80) m0)
          | 8 => (w61.heap.size ≤ s ∧ v = .pointer (some ⟨s, 0, none⟩) ∧ w1.heap.size = s + 1 ∧ w1.cell? ⟨s, 0, none⟩ = some (.slice none 0 0) ∧ w1.frozen? ⟨s, 0, none⟩ = false)
          | _ => True)
    9 (by kernel_rfl) (by kernel_rfl) (by kernel_rfl) rfl (of_decide_eq_true (by kernel_rfl)) (by kernel_rfl) ?_
  refine Fresh.wpG_q rfl ?_
  go_big_quiet_step (fail)
  refine wpQuiet_nil ?_
  refine Fresh.wpG_call #[.agg #[.slice a0_Rules len0_Rules cap0_Rules]] rfl Try.func35 (by kernel_rfl) (by kernel_rfl) rfl ⟨_, none, 0, rfl⟩ (fun X hd => ?_) ?_
  · have hX := X.bel.size
    refine (TBook.to_c X.w a0_Rules len0_Rules cap0_Rules z0_Rules HM0_Rules.out (by omega) HFW0_Rules.out (HR0_Rules.out.on (BelowKit.bl_trans HC72.out X.bel))).mono ?_
    rintro e w8 ⟨p73, c74, rfl, ho0, hb⟩
    try rw [HM0_Rules.out] at ho0
    try rw [HM0_Rules.out]
    exact ⟨_, rfl, hb, ⟨p73, c74, rfl⟩, p73, c74, by omega, rfl, ho0⟩
  rintro v ⟨p73, c74, rfl⟩
  go_big_quiet_step (fail)
  refine wpQuiet_nil ?_
  refine Fresh.wpG_q rfl ?_
  go_big_quiet_step (fail)
  refine wpQuiet_nil ?_
  refine Fresh.wpG_call #[.agg #[.int .i64 a1_Name, .int .i64 a1_From, .int .i64 a1_To, .int .i64 a1_Joined, .int .i64 a1_Rank, .int .i64 a1_Mode, .slice a1_Nodes len1_Nodes cap1_Nodes]] rfl Try.func30 (by kernel_rfl) (by kernel_rfl) rfl ⟨_, none, 0, rfl⟩ (fun X hd => ?_) ?_
  · have hX := X.bel.size
    refine (RuleX.to_l X.w a1_Name a1_From a1_To a1_Joined a1_Rank a1_Mode a1_Nodes len1_Nodes cap1_Nodes z1_Nodes HM1_Nodes.out (by omega) (HR1_Nodes.out.on (BelowKit.bl_trans HC72.out X.bel))).mono ?_
    rintro e w8 ⟨p76, c77, rfl, ho0, hb⟩
    try rw [HM1_Nodes.out] at ho0
    try rw [HM1_Nodes.out]
    exact ⟨_, rfl, hb, ⟨p76, c77, rfl⟩, p76, c77, by omega, rfl, Own.ow_of ho0⟩
  rintro v ⟨p76, c77, rfl⟩
  go_big_quiet_step (fail)
  refine wpQuiet_nil ?_
  refine Fresh.wpG_call #[.agg #[.slice p73 len0_Rules c74], .agg #[.int .i64 a1_Name, .int .i64 a1_From, .int .i64 a1_To, .int .i64 a1_Joined, .int .i64 a1_Rank, .int .i64 a1_Mode, .slice p76 len1_Nodes c77]] rfl Try.func37 (by kernel_rfl) (by kernel_rfl) rfl ⟨_, none, 0, rfl⟩ (fun X hd => ?_) ?_
  · obtain ⟨_, _, w9, ⟨p73_ , c74_, _, e9, ho_r75⟩, _, hb9⟩ := hd ⟨1, .data⟩ (by simp) rfl rfl
    have e8 : (.agg #[.slice p73 len0_Rules c74] : Value) = .agg #[.slice p73_ len0_Rules c74_] := e9
    cases e8
    replace ho_r75 := ho_r75.on hb9
    obtain ⟨_, _, w9, ⟨p76_ , c77_, _, e9, ho_r78⟩, _, hb9⟩ := hd ⟨3, .data⟩ (by simp) rfl rfl
    have e8 : (.agg #[.int .i64 a1_Name, .int .i64 a1_From, .int .i64 a1_To, .int .i64 a1_Joined, .int .i64 a1_Rank, .int .i64 a1_Mode, .slice p76 len1_Nodes c77] : Value) = .agg #[.int .i64 a1_Name, .int .i64 a1_From, .int .i64 a1_To, .int .i64 a1_Joined, .int .i64 a1_Rank, .int .i64 a1_Mode, .slice p76_ len1_Nodes c77_] := e9
    cases e8
    replace ho_r78 := ho_r78.on hb9
    have hX := X.bel.size
    refine (RuleF.add_s X.w p73 len0_Rules c74 z0_Rules a1_Name a1_From a1_To a1_Joined a1_Rank a1_Mode p76 len1_Nodes c77 z1_Nodes HM0_Rules.out (by omega) (RuleRow.OwD.cap ho_r75) HFW0_Rules.out (ho_r75.reads) HM1_Nodes.out (by omega) (ho_r78.reads TNode.fw)).mono ?_
    rintro e w8 ⟨p79, c80, rfl, ho0, hb⟩
    try rw [HF0.out] at ho0
    try rw [HF0.out]
    try rw [HF1.out] at ho0
    try rw [HF1.out]
    try rw [HN0.out] at ho0
    try rw [HN0.out]
    exact ⟨_, rfl, hb, ⟨p79, c80, rfl⟩, p79, c80, by omega, rfl, ho0⟩
  rintro v ⟨p79, c80, rfl⟩
  go_big_quiet_step (fail)
  refine wpQuiet_nil ?_
  refine Fresh.wpG_q rfl ?_
  go_big_quiet_step (fail)
  refine wpQuiet_nil ?_
  refine Fresh.wpG_q rfl ?_
  go_big_quiet_step (fail)
  refine wpQuiet_nil ?_
  refine Fresh.wpG_q rfl ?_
  go_big_quiet_step (fail)
  refine wpQuiet_nil ?_
  refine Fresh.wpG_own rfl ⟨_, w61.heap.size, Nat.le_refl _, rfl⟩ (fun X _ => ?_) ?_
  · go_simp
    have hX := X.bel.size
    exact ⟨_, _, ⟨rfl, rfl⟩, by (repeat (first | exact Below.refl _ _ | apply BelowKit.bl_alloc | apply BelowKit.bl_drewN | apply BelowKit.bl_drew | (refine BelowKit.bl_set ?_ _ ?_; rotate_left; (first | omega | (simp; omega) | simp)) | (refine BelowKit.bl_trans ?_ (‹Hid (Below _ _ _)›).out))), ⟨_, hX, rfl⟩, hX, rfl, by simp, by simp [go_sem], by simp [go_sem]⟩
  rintro v ⟨g82, hg82, rfl⟩
  go_big_quiet_step (fail)
  refine wpQuiet_nil ?_
  refine Fresh.wpG_store rfl rfl (fun X hd => ?_) ?_
  · obtain ⟨_, _, w7, ⟨_, eg, hg, hc0, hf0⟩, _, hb7⟩ := hd ⟨8, .data⟩ (by simp) rfl rfl
    have eg' : (Value.pointer (some ⟨g82, 0, none⟩)) = .pointer (some ⟨_, 0, none⟩) := eg
    cases eg'
    have q0 := ((BelowKit.bcell hb7).1 g82 0 (by omega)).trans hc0
    have r0 := ((BelowKit.bcell hb7).2 g82 0 (by omega)).trans hf0
    refine ⟨⟨X.w.setCell ⟨g82, 0, none⟩ (.slice p79 nm0 c80), BelowKit.bl_set (X.bel) (a := ⟨g82, 0, none⟩) _ hg82⟩, ?_⟩
    go_simp
    rfl
  refine Fresh.wpG_q rfl ?_
  go_big_quiet_step (fail)
  refine wpQuiet_nil ?_
  refine Fresh.wpG_nil fun X1 X sN1 tN1 hk hrun => ?_
  obtain ⟨⟨w4_, ⟨p79_ , c80_, lo4, e9, ho_r81⟩, ht4, hb4⟩, st4, _⟩ := hk.1 4 (by decide) rfl
  have e8 : (.tuple #[.agg #[.slice p79 nm0 c80], .bool m1] : Value) = .tuple #[.agg #[.slice p79_ nm0 c80_], .bool m1] := e9
  cases e8
  replace ho_r81 := RuleX.to_hi (ho_r81.on hb4) ht4
  have hXs := X1.bel.size
  obtain ⟨⟨w7, ⟨hlo7, eg, hg7, hc0, hf0⟩, ht7, hb7⟩, st7, hl7⟩ := hk.1 8 (by decide) rfl
  have eg' : (Value.pointer (some ⟨g82, 0, none⟩)) = .pointer (some ⟨sN1 8, 0, none⟩) := eg
  obtain rfl : g82 = sN1 8 := by simpa using eg'
  clear eg eg'
  have hd4 := hk.2 4 8 (by decide) (by decide) rfl rfl (by decide)
  have q0 := ((BelowKit.bcell hb7).1 (sN1 8) 0 (by omega)).trans hc0
  have r0 := ((BelowKit.bcell hb7).2 (sN1 8) 0 (by omega)).trans hf0
  have hX : X.w = X1.w.setCell ⟨sN1 8, 0, none⟩ (.slice p79 nm0 c80) := by
    simp [go_sem, q0, r0] at hrun
    exact hrun.symm
  replace ho_r81 := ho_r81.box (o := 0) (b := sN1 8) (by omega) (.slice p79 nm0 c80)
  rw [← hX] at ho_r81
  have c84 : X.w.cell? ⟨sN1 8, 0, none⟩ = some (.slice p79 nm0 c80) := by rw [hX]; simp [go_sem, q0]
  have z85 : sN1 8 < X.w.heap.size := by rw [hX]; simp; omega
  have hbX := X.bel
  obtain ⟨w83, hU⟩ : ∃ U : World, U = X.w := ⟨_, rfl⟩
  rw [← hU] at hbX ho_r81 c84 z85 ⊢
  have lo4' : w61.heap.size ≤ sN1 4 := lo4
  have hi4' : tN1 4 ≤ w83.heap.size := RuleX.lim ho_r81
  have tj : tN1 8 = sN1 8 + 1 := by rw [← ht7, hg7]
  have tj1 : tN1 8 ≤ sN1 8 + 1 := by omega
  have tj2 : sN1 8 + 1 ≤ tN1 8 := by omega
  have lo7 : w61.heap.size ≤ sN1 8 := hlo7
  clear hk hU hXs gc62 gc64 gc65 gc66 gc67 gc68 gc69 gc70 hb4 ht4 e9 lo4 hrun hX hb7 hl7 tj ht7 hg7 hlo7 hc0 hf0 q0 r0
  have sw83 : w61.heap.size ≤ w83.heap.size := hbX.size
  have c86 : w83.cell? ⟨w.heap.size, 0, none⟩ = some (.slice a0_Rules len0_Rules cap0_Rules) := ((BelowKit.bcell hbX).1 _ _ z63).trans c62
  have z87 : w.heap.size < w83.heap.size := by omega
  have c88 : w83.cell? ⟨w.heap.size + 1, 0, none⟩ = some (.int .i64 a1_Name) := ((BelowKit.bcell hbX).1 _ _ z71).trans c64
  have c89 : w83.cell? ⟨w.heap.size + 1, 1, none⟩ = some (.int .i64 a1_From) := ((BelowKit.bcell hbX).1 _ _ z71).trans c65
  have c90 : w83.cell? ⟨w.heap.size + 1, 2, none⟩ = some (.int .i64 a1_To) := ((BelowKit.bcell hbX).1 _ _ z71).trans c66
  have c91 : w83.cell? ⟨w.heap.size + 1, 3, none⟩ = some (.int .i64 a1_Joined) := ((BelowKit.bcell hbX).1 _ _ z71).trans c67
  have c92 : w83.cell? ⟨w.heap.size + 1, 4, none⟩ = some (.int .i64 a1_Rank) := ((BelowKit.bcell hbX).1 _ _ z71).trans c68
  have c93 : w83.cell? ⟨w.heap.size + 1, 5, none⟩ = some (.int .i64 a1_Mode) := ((BelowKit.bcell hbX).1 _ _ z71).trans c69
  have c94 : w83.cell? ⟨w.heap.size + 1, 6, none⟩ = some (.slice a1_Nodes len1_Nodes cap1_Nodes) := ((BelowKit.bcell hbX).1 _ _ z71).trans c70
  have z95 : w.heap.size + 1 < w83.heap.size := by omega
  have HC96 := Lib.hid (BelowKit.bl_trans HC72.out hbX)
  clear c62 z63 c64 c65 c66 c67 c68 c69 c70 z71 HC72 hbX
  have HO97 := Lib.hid ho_r81
  clear ho_r81
  have pz85 := z85
  go_wp2_with fail
  refine (TBook.to_c w83 a0_Rules len0_Rules cap0_Rules z0_Rules HM0_Rules.out (by omega) HFW0_Rules.out (HR0_Rules.out.on HC96.out)).mono ?_
  rintro e w103 ⟨p100, c101, rfl, ho0, hb⟩
  rw [HM0_Rules.out] at ho0 ⊢
  have sw103 : w83.heap.size ≤ w103.heap.size := hb.size
  have c104 : w103.cell? ⟨w.heap.size, 0, none⟩ = some (.slice a0_Rules len0_Rules cap0_Rules) := ((BelowKit.bcell hb).1 _ _ z87).trans c86
  have z105 : w.heap.size < w103.heap.size := by omega
  have c106 : w103.cell? ⟨w.heap.size + 1, 0, none⟩ = some (.int .i64 a1_Name) := ((BelowKit.bcell hb).1 _ _ z95).trans c88
  have c107 : w103.cell? ⟨w.heap.size + 1, 1, none⟩ = some (.int .i64 a1_From) := ((BelowKit.bcell hb).1 _ _ z95).trans c89
  have c108 : w103.cell? ⟨w.heap.size + 1, 2, none⟩ = some (.int .i64 a1_To) := ((BelowKit.bcell hb).1 _ _ z95).trans c90
  have c109 : w103.cell? ⟨w.heap.size + 1, 3, none⟩ = some (.int .i64 a1_Joined) := ((BelowKit.bcell hb).1 _ _ z95).trans c91
  have c110 : w103.cell? ⟨w.heap.size + 1, 4, none⟩ = some (.int .i64 a1_Rank) := ((BelowKit.bcell hb).1 _ _ z95).trans c92
  have c111 : w103.cell? ⟨w.heap.size + 1, 5, none⟩ = some (.int .i64 a1_Mode) := ((BelowKit.bcell hb).1 _ _ z95).trans c93
  have c112 : w103.cell? ⟨w.heap.size + 1, 6, none⟩ = some (.slice a1_Nodes len1_Nodes cap1_Nodes) := ((BelowKit.bcell hb).1 _ _ z95).trans c94
  have z113 : w.heap.size + 1 < w103.heap.size := by omega
  have c114 : w103.cell? ⟨sN1 8, 0, none⟩ = some (.slice p79 nm0 c80) := ((BelowKit.bcell hb).1 _ _ z85).trans c84
  have z115 : sN1 8 < w103.heap.size := by omega
  have HO116 := Lib.hid (HO97.out.on hb)
  have HC117 := Lib.hid (BelowKit.bl_trans HC96.out hb)
  clear c86 z87 c88 c89 c90 c91 c92 c93 c94 z95 c84 z85 HO97 HC96 hb
  have HO118 := Lib.hid ho0
  clear ho0
  go_wp2_with fail
  obtain ⟨W119, hW119⟩ : ∃ V : World, V = w103.alloc (.cells #[.slice p100 len0_Rules c101] 26) := ⟨_, rfl⟩
  rw [← hW119]
  have hb : Below w103.heap.size w103 W119 := by rw [hW119]; (repeat (first | exact Below.refl _ _ | apply BelowKit.bl_alloc | apply BelowKit.bl_drewN | apply BelowKit.bl_drew | (refine BelowKit.bl_set ?_ _ ?_; rotate_left; (first | omega | (simp; omega) | simp)) | (refine BelowKit.bl_trans ?_ (‹Hid (Below _ _ _)›).out)))
  have tW119 : w103.heap.size + 1 ≤ W119.heap.size := by rw [hW119]; simp
  have uW119 : W119.heap.size ≤ w103.heap.size + 1 := by rw [hW119]; simp
  have c120 : W119.cell? ⟨w103.heap.size, 0, none⟩ = some (.slice p100 len0_Rules c101) := by rw [hW119]; simp [go_sem]
  have z121 : w103.heap.size < W119.heap.size := by omega
  clear hW119
  have sW119 : w103.heap.size ≤ W119.heap.size := hb.size
  have c122 : W119.cell? ⟨w.heap.size, 0, none⟩ = some (.slice a0_Rules len0_Rules cap0_Rules) := ((BelowKit.bcell hb).1 _ _ z105).trans c104
  have z123 : w.heap.size < W119.heap.size := by omega
  have c124 : W119.cell? ⟨w.heap.size + 1, 0, none⟩ = some (.int .i64 a1_Name) := ((BelowKit.bcell hb).1 _ _ z113).trans c106
  have c125 : W119.cell? ⟨w.heap.size + 1, 1, none⟩ = some (.int .i64 a1_From) := ((BelowKit.bcell hb).1 _ _ z113).trans c107
  have c126 : W119.cell? ⟨w.heap.size + 1, 2, none⟩ = some (.int .i64 a1_To) := ((BelowKit.bcell hb).1 _ _ z113).trans c108
  have c127 : W119.cell? ⟨w.heap.size + 1, 3, none⟩ = some (.int .i64 a1_Joined) := ((BelowKit.bcell hb).1 _ _ z113).trans c109
  have c128 : W119.cell? ⟨w.heap.size + 1, 4, none⟩ = some (.int .i64 a1_Rank) := ((BelowKit.bcell hb).1 _ _ z113).trans c110
  have c129 : W119.cell? ⟨w.heap.size + 1, 5, none⟩ = some (.int .i64 a1_Mode) := ((BelowKit.bcell hb).1 _ _ z113).trans c111
  have c130 : W119.cell? ⟨w.heap.size + 1, 6, none⟩ = some (.slice a1_Nodes len1_Nodes cap1_Nodes) := ((BelowKit.bcell hb).1 _ _ z113).trans c112
  have z131 : w.heap.size + 1 < W119.heap.size := by omega
  have c132 : W119.cell? ⟨sN1 8, 0, none⟩ = some (.slice p79 nm0 c80) := ((BelowKit.bcell hb).1 _ _ z115).trans c114
  have z133 : sN1 8 < W119.heap.size := by omega
  have HO134 := Lib.hid (HO116.out.on hb)
  have HO135 := Lib.hid (HO118.out.on hb)
  have HC136 := Lib.hid (BelowKit.bl_trans HC117.out hb)
  clear c104 z105 c106 c107 c108 c109 c110 c111 c112 z113 c114 z115 HO116 HO118 HC117 hb
  refine (RuleX.to_l W119 a1_Name a1_From a1_To a1_Joined a1_Rank a1_Mode a1_Nodes len1_Nodes cap1_Nodes z1_Nodes HM1_Nodes.out (by omega) (HR1_Nodes.out.on HC136.out)).mono ?_
  rintro e w140 ⟨p137, c138, rfl, ho0, hb⟩
  rw [HM1_Nodes.out] at ho0 ⊢
  have sw140 : W119.heap.size ≤ w140.heap.size := hb.size
  have c141 : w140.cell? ⟨w.heap.size, 0, none⟩ = some (.slice a0_Rules len0_Rules cap0_Rules) := ((BelowKit.bcell hb).1 _ _ z123).trans c122
  have z142 : w.heap.size < w140.heap.size := by omega
  have c143 : w140.cell? ⟨w.heap.size + 1, 0, none⟩ = some (.int .i64 a1_Name) := ((BelowKit.bcell hb).1 _ _ z131).trans c124
  have c144 : w140.cell? ⟨w.heap.size + 1, 1, none⟩ = some (.int .i64 a1_From) := ((BelowKit.bcell hb).1 _ _ z131).trans c125
  have c145 : w140.cell? ⟨w.heap.size + 1, 2, none⟩ = some (.int .i64 a1_To) := ((BelowKit.bcell hb).1 _ _ z131).trans c126
  have c146 : w140.cell? ⟨w.heap.size + 1, 3, none⟩ = some (.int .i64 a1_Joined) := ((BelowKit.bcell hb).1 _ _ z131).trans c127
  have c147 : w140.cell? ⟨w.heap.size + 1, 4, none⟩ = some (.int .i64 a1_Rank) := ((BelowKit.bcell hb).1 _ _ z131).trans c128
  have c148 : w140.cell? ⟨w.heap.size + 1, 5, none⟩ = some (.int .i64 a1_Mode) := ((BelowKit.bcell hb).1 _ _ z131).trans c129
  have c149 : w140.cell? ⟨w.heap.size + 1, 6, none⟩ = some (.slice a1_Nodes len1_Nodes cap1_Nodes) := ((BelowKit.bcell hb).1 _ _ z131).trans c130
  have z150 : w.heap.size + 1 < w140.heap.size := by omega
  have c151 : w140.cell? ⟨sN1 8, 0, none⟩ = some (.slice p79 nm0 c80) := ((BelowKit.bcell hb).1 _ _ z133).trans c132
  have z152 : sN1 8 < w140.heap.size := by omega
  have c153 : w140.cell? ⟨w103.heap.size, 0, none⟩ = some (.slice p100 len0_Rules c101) := ((BelowKit.bcell hb).1 _ _ z121).trans c120
  have z154 : w103.heap.size < w140.heap.size := by omega
  have HO155 := Lib.hid (HO134.out.on hb)
  have HO156 := Lib.hid (HO135.out.on hb)
  have HC157 := Lib.hid (BelowKit.bl_trans HC136.out hb)
  clear c122 z123 c124 c125 c126 c127 c128 c129 c130 z131 c132 z133 c120 z121 HO134 HO135 HC136 hb
  have HO158 := Lib.hid (Own.ow_of ho0)
  clear ho0
  go_wp2_with fail
  obtain ⟨W159, hW159⟩ : ∃ V : World, V = w140.alloc (.cells #[.int .i64 a1_Name, .int .i64 a1_From, .int .i64 a1_To, .int .i64 a1_Joined, .int .i64 a1_Rank, .int .i64 a1_Mode, .slice p137 len1_Nodes c138] 34) := ⟨_, rfl⟩
  rw [← hW159]
  have hb : Below w140.heap.size w140 W159 := by rw [hW159]; (repeat (first | exact Below.refl _ _ | apply BelowKit.bl_alloc | apply BelowKit.bl_drewN | apply BelowKit.bl_drew | (refine BelowKit.bl_set ?_ _ ?_; rotate_left; (first | omega | (simp; omega) | simp)) | (refine BelowKit.bl_trans ?_ (‹Hid (Below _ _ _)›).out)))
  have tW159 : w140.heap.size + 1 ≤ W159.heap.size := by rw [hW159]; simp
  have uW159 : W159.heap.size ≤ w140.heap.size + 1 := by rw [hW159]; simp
  have c160 : W159.cell? ⟨w140.heap.size, 0, none⟩ = some (.int .i64 a1_Name) := by rw [hW159]; simp [go_sem]
  have c161 : W159.cell? ⟨w140.heap.size, 1, none⟩ = some (.int .i64 a1_From) := by rw [hW159]; simp [go_sem]
  have c162 : W159.cell? ⟨w140.heap.size, 2, none⟩ = some (.int .i64 a1_To) := by rw [hW159]; simp [go_sem]
  have c163 : W159.cell? ⟨w140.heap.size, 3, none⟩ = some (.int .i64 a1_Joined) := by rw [hW159]; simp [go_sem]
  have c164 : W159.cell? ⟨w140.heap.size, 4, none⟩ = some (.int .i64 a1_Rank) := by rw [hW159]; simp [go_sem]
  have c165 : W159.cell? ⟨w140.heap.size, 5, none⟩ = some (.int .i64 a1_Mode) := by rw [hW159]; simp [go_sem]
  have c166 : W159.cell? ⟨w140.heap.size, 6, none⟩ = some (.slice p137 len1_Nodes c138) := by rw [hW159]; simp [go_sem]
  have z167 : w140.heap.size < W159.heap.size := by omega
  clear hW159
  have sW159 : w140.heap.size ≤ W159.heap.size := hb.size
  have c168 : W159.cell? ⟨w.heap.size, 0, none⟩ = some (.slice a0_Rules len0_Rules cap0_Rules) := ((BelowKit.bcell hb).1 _ _ z142).trans c141
  have z169 : w.heap.size < W159.heap.size := by omega
  have c170 : W159.cell? ⟨w.heap.size + 1, 0, none⟩ = some (.int .i64 a1_Name) := ((BelowKit.bcell hb).1 _ _ z150).trans c143
  have c171 : W159.cell? ⟨w.heap.size + 1, 1, none⟩ = some (.int .i64 a1_From) := ((BelowKit.bcell hb).1 _ _ z150).trans c144
  have c172 : W159.cell? ⟨w.heap.size + 1, 2, none⟩ = some (.int .i64 a1_To) := ((BelowKit.bcell hb).1 _ _ z150).trans c145
  have c173 : W159.cell? ⟨w.heap.size + 1, 3, none⟩ = some (.int .i64 a1_Joined) := ((BelowKit.bcell hb).1 _ _ z150).trans c146
  have c174 : W159.cell? ⟨w.heap.size + 1, 4, none⟩ = some (.int .i64 a1_Rank) := ((BelowKit.bcell hb).1 _ _ z150).trans c147
  have c175 : W159.cell? ⟨w.heap.size + 1, 5, none⟩ = some (.int .i64 a1_Mode) := ((BelowKit.bcell hb).1 _ _ z150).trans c148
  have c176 : W159.cell? ⟨w.heap.size + 1, 6, none⟩ = some (.slice a1_Nodes len1_Nodes cap1_Nodes) := ((BelowKit.bcell hb).1 _ _ z150).trans c149
  have z177 : w.heap.size + 1 < W159.heap.size := by omega
  have c178 : W159.cell? ⟨sN1 8, 0, none⟩ = some (.slice p79 nm0 c80) := ((BelowKit.bcell hb).1 _ _ z152).trans c151
  have z179 : sN1 8 < W159.heap.size := by omega
  have c180 : W159.cell? ⟨w103.heap.size, 0, none⟩ = some (.slice p100 len0_Rules c101) := ((BelowKit.bcell hb).1 _ _ z154).trans c153
  have z181 : w103.heap.size < W159.heap.size := by omega
  have HO182 := Lib.hid (HO155.out.on hb)
  have HO183 := Lib.hid (HO156.out.on hb)
  have HO184 := Lib.hid (HO158.out.on hb)
  have HC185 := Lib.hid (BelowKit.bl_trans HC157.out hb)
  clear c141 z142 c143 c144 c145 c146 c147 c148 c149 z150 c151 z152 c153 z154 HO155 HO156 HO158 HC157 hb
  refine (RuleF.add_i W159 p100 len0_Rules c101 z0_Rules a1_Name a1_From a1_To a1_Joined a1_Rank a1_Mode p137 len1_Nodes c138 z1_Nodes HM0_Rules.out (by omega) (RuleRow.OwD.cap HO183.out) HFW0_Rules.out HO183.out.reads HM1_Nodes.out (by omega) (HO184.out.reads TNode.fw)).mono ?_
  rintro e w189 ⟨p186, c187, rfl, ho0, hb⟩
  try rw [HF0.out] at ho0
  try rw [HF0.out]
  try rw [HF1.out] at ho0
  try rw [HF1.out]
  try rw [HN0.out] at ho0
  try rw [HN0.out]
  have sw189 : W159.heap.size ≤ w189.heap.size := hb.size
  have c190 : w189.cell? ⟨w.heap.size, 0, none⟩ = some (.slice a0_Rules len0_Rules cap0_Rules) := ((BelowKit.bcell hb).1 _ _ z169).trans c168
  have z191 : w.heap.size < w189.heap.size := by omega
  have c192 : w189.cell? ⟨w.heap.size + 1, 0, none⟩ = some (.int .i64 a1_Name) := ((BelowKit.bcell hb).1 _ _ z177).trans c170
  have c193 : w189.cell? ⟨w.heap.size + 1, 1, none⟩ = some (.int .i64 a1_From) := ((BelowKit.bcell hb).1 _ _ z177).trans c171
  have c194 : w189.cell? ⟨w.heap.size + 1, 2, none⟩ = some (.int .i64 a1_To) := ((BelowKit.bcell hb).1 _ _ z177).trans c172
  have c195 : w189.cell? ⟨w.heap.size + 1, 3, none⟩ = some (.int .i64 a1_Joined) := ((BelowKit.bcell hb).1 _ _ z177).trans c173
  have c196 : w189.cell? ⟨w.heap.size + 1, 4, none⟩ = some (.int .i64 a1_Rank) := ((BelowKit.bcell hb).1 _ _ z177).trans c174
  have c197 : w189.cell? ⟨w.heap.size + 1, 5, none⟩ = some (.int .i64 a1_Mode) := ((BelowKit.bcell hb).1 _ _ z177).trans c175
  have c198 : w189.cell? ⟨w.heap.size + 1, 6, none⟩ = some (.slice a1_Nodes len1_Nodes cap1_Nodes) := ((BelowKit.bcell hb).1 _ _ z177).trans c176
  have z199 : w.heap.size + 1 < w189.heap.size := by omega
  have c200 : w189.cell? ⟨sN1 8, 0, none⟩ = some (.slice p79 nm0 c80) := ((BelowKit.bcell hb).1 _ _ z179).trans c178
  have z201 : sN1 8 < w189.heap.size := by omega
  have c202 : w189.cell? ⟨w103.heap.size, 0, none⟩ = some (.slice p100 len0_Rules c101) := ((BelowKit.bcell hb).1 _ _ z181).trans c180
  have z203 : w103.heap.size < w189.heap.size := by omega
  have c204 : w189.cell? ⟨w140.heap.size, 0, none⟩ = some (.int .i64 a1_Name) := ((BelowKit.bcell hb).1 _ _ z167).trans c160
  have c205 : w189.cell? ⟨w140.heap.size, 1, none⟩ = some (.int .i64 a1_From) := ((BelowKit.bcell hb).1 _ _ z167).trans c161
  have c206 : w189.cell? ⟨w140.heap.size, 2, none⟩ = some (.int .i64 a1_To) := ((BelowKit.bcell hb).1 _ _ z167).trans c162
  have c207 : w189.cell? ⟨w140.heap.size, 3, none⟩ = some (.int .i64 a1_Joined) := ((BelowKit.bcell hb).1 _ _ z167).trans c163
  have c208 : w189.cell? ⟨w140.heap.size, 4, none⟩ = some (.int .i64 a1_Rank) := ((BelowKit.bcell hb).1 _ _ z167).trans c164
  have c209 : w189.cell? ⟨w140.heap.size, 5, none⟩ = some (.int .i64 a1_Mode) := ((BelowKit.bcell hb).1 _ _ z167).trans c165
  have c210 : w189.cell? ⟨w140.heap.size, 6, none⟩ = some (.slice p137 len1_Nodes c138) := ((BelowKit.bcell hb).1 _ _ z167).trans c166
  have z211 : w140.heap.size < w189.heap.size := by omega
  have HO212 := Lib.hid (HO182.out.on hb)
  have HO213 := Lib.hid (HO183.out.on hb)
  have HO214 := Lib.hid (HO184.out.on hb)
  have HC215 := Lib.hid (BelowKit.bl_trans HC185.out hb)
  clear c168 z169 c170 c171 c172 c173 c174 c175 c176 z177 c178 z179 c180 z181 c160 c161 c162 c163 c164 c165 c166 z167 HO182 HO183 HO184 HC185 hb
  have HO216 := Lib.hid ho0
  clear ho0
  go_wp2_with fail
  obtain ⟨W217, hW217⟩ : ∃ V : World, V = w189.alloc (.cells #[.slice p186 nm0 c187] 26) := ⟨_, rfl⟩
  rw [← hW217]
  have hb : Below w189.heap.size w189 W217 := by rw [hW217]; (repeat (first | exact Below.refl _ _ | apply BelowKit.bl_alloc | apply BelowKit.bl_drewN | apply BelowKit.bl_drew | (refine BelowKit.bl_set ?_ _ ?_; rotate_left; (first | omega | (simp; omega) | simp)) | (refine BelowKit.bl_trans ?_ (‹Hid (Below _ _ _)›).out)))
  have tW217 : w189.heap.size + 1 ≤ W217.heap.size := by rw [hW217]; simp
  have uW217 : W217.heap.size ≤ w189.heap.size + 1 := by rw [hW217]; simp
  have c218 : W217.cell? ⟨w189.heap.size, 0, none⟩ = some (.slice p186 nm0 c187) := by rw [hW217]; simp [go_sem]
  have z219 : w189.heap.size < W217.heap.size := by omega
  clear hW217
  have sW217 : w189.heap.size ≤ W217.heap.size := hb.size
  have c220 : W217.cell? ⟨w.heap.size, 0, none⟩ = some (.slice a0_Rules len0_Rules cap0_Rules) := ((BelowKit.bcell hb).1 _ _ z191).trans c190
  have z221 : w.heap.size < W217.heap.size := by omega
  have c222 : W217.cell? ⟨w.heap.size + 1, 0, none⟩ = some (.int .i64 a1_Name) := ((BelowKit.bcell hb).1 _ _ z199).trans c192
  have c223 : W217.cell? ⟨w.heap.size + 1, 1, none⟩ = some (.int .i64 a1_From) := ((BelowKit.bcell hb).1 _ _ z199).trans c193
  have c224 : W217.cell? ⟨w.heap.size + 1, 2, none⟩ = some (.int .i64 a1_To) := ((BelowKit.bcell hb).1 _ _ z199).trans c194
  have c225 : W217.cell? ⟨w.heap.size + 1, 3, none⟩ = some (.int .i64 a1_Joined) := ((BelowKit.bcell hb).1 _ _ z199).trans c195
  have c226 : W217.cell? ⟨w.heap.size + 1, 4, none⟩ = some (.int .i64 a1_Rank) := ((BelowKit.bcell hb).1 _ _ z199).trans c196
  have c227 : W217.cell? ⟨w.heap.size + 1, 5, none⟩ = some (.int .i64 a1_Mode) := ((BelowKit.bcell hb).1 _ _ z199).trans c197
  have c228 : W217.cell? ⟨w.heap.size + 1, 6, none⟩ = some (.slice a1_Nodes len1_Nodes cap1_Nodes) := ((BelowKit.bcell hb).1 _ _ z199).trans c198
  have z229 : w.heap.size + 1 < W217.heap.size := by omega
  have c230 : W217.cell? ⟨sN1 8, 0, none⟩ = some (.slice p79 nm0 c80) := ((BelowKit.bcell hb).1 _ _ z201).trans c200
  have z231 : sN1 8 < W217.heap.size := by omega
  have c232 : W217.cell? ⟨w103.heap.size, 0, none⟩ = some (.slice p100 len0_Rules c101) := ((BelowKit.bcell hb).1 _ _ z203).trans c202
  have z233 : w103.heap.size < W217.heap.size := by omega
  have c234 : W217.cell? ⟨w140.heap.size, 0, none⟩ = some (.int .i64 a1_Name) := ((BelowKit.bcell hb).1 _ _ z211).trans c204
  have c235 : W217.cell? ⟨w140.heap.size, 1, none⟩ = some (.int .i64 a1_From) := ((BelowKit.bcell hb).1 _ _ z211).trans c205
  have c236 : W217.cell? ⟨w140.heap.size, 2, none⟩ = some (.int .i64 a1_To) := ((BelowKit.bcell hb).1 _ _ z211).trans c206
  have c237 : W217.cell? ⟨w140.heap.size, 3, none⟩ = some (.int .i64 a1_Joined) := ((BelowKit.bcell hb).1 _ _ z211).trans c207
  have c238 : W217.cell? ⟨w140.heap.size, 4, none⟩ = some (.int .i64 a1_Rank) := ((BelowKit.bcell hb).1 _ _ z211).trans c208
  have c239 : W217.cell? ⟨w140.heap.size, 5, none⟩ = some (.int .i64 a1_Mode) := ((BelowKit.bcell hb).1 _ _ z211).trans c209
  have c240 : W217.cell? ⟨w140.heap.size, 6, none⟩ = some (.slice p137 len1_Nodes c138) := ((BelowKit.bcell hb).1 _ _ z211).trans c210
  have z241 : w140.heap.size < W217.heap.size := by omega
  have HO242 := Lib.hid (HO212.out.on hb)
  have HO243 := Lib.hid (HO213.out.on hb)
  have HO244 := Lib.hid (HO214.out.on hb)
  have HO245 := Lib.hid (HO216.out.on hb)
  have HC246 := Lib.hid (BelowKit.bl_trans HC215.out hb)
  clear c190 z191 c192 c193 c194 c195 c196 c197 c198 z199 c200 z201 c202 z203 c204 c205 c206 c207 c208 c209 c210 z211 HO212 HO213 HO214 HO216 HC215 hb
  refine (TBook.eq_c W217 nm0 c187 c80 p186 p79 m0 HN0.out (by omega) HFWm0.out HO245.out.reads HO242.out.reads).mono ?_
  rintro e w247 ⟨rfl, hb⟩
  have sw247 : W217.heap.size ≤ w247.heap.size := hb.size
  have c248 : w247.cell? ⟨w.heap.size, 0, none⟩ = some (.slice a0_Rules len0_Rules cap0_Rules) := ((BelowKit.bcell hb).1 _ _ z221).trans c220
  have z249 : w.heap.size < w247.heap.size := by omega
  have c250 : w247.cell? ⟨w.heap.size + 1, 0, none⟩ = some (.int .i64 a1_Name) := ((BelowKit.bcell hb).1 _ _ z229).trans c222
  have c251 : w247.cell? ⟨w.heap.size + 1, 1, none⟩ = some (.int .i64 a1_From) := ((BelowKit.bcell hb).1 _ _ z229).trans c223
  have c252 : w247.cell? ⟨w.heap.size + 1, 2, none⟩ = some (.int .i64 a1_To) := ((BelowKit.bcell hb).1 _ _ z229).trans c224
  have c253 : w247.cell? ⟨w.heap.size + 1, 3, none⟩ = some (.int .i64 a1_Joined) := ((BelowKit.bcell hb).1 _ _ z229).trans c225
  have c254 : w247.cell? ⟨w.heap.size + 1, 4, none⟩ = some (.int .i64 a1_Rank) := ((BelowKit.bcell hb).1 _ _ z229).trans c226
  have c255 : w247.cell? ⟨w.heap.size + 1, 5, none⟩ = some (.int .i64 a1_Mode) := ((BelowKit.bcell hb).1 _ _ z229).trans c227
  have c256 : w247.cell? ⟨w.heap.size + 1, 6, none⟩ = some (.slice a1_Nodes len1_Nodes cap1_Nodes) := ((BelowKit.bcell hb).1 _ _ z229).trans c228
  have z257 : w.heap.size + 1 < w247.heap.size := by omega
  have c258 : w247.cell? ⟨sN1 8, 0, none⟩ = some (.slice p79 nm0 c80) := ((BelowKit.bcell hb).1 _ _ z231).trans c230
  have z259 : sN1 8 < w247.heap.size := by omega
  have c260 : w247.cell? ⟨w103.heap.size, 0, none⟩ = some (.slice p100 len0_Rules c101) := ((BelowKit.bcell hb).1 _ _ z233).trans c232
  have z261 : w103.heap.size < w247.heap.size := by omega
  have c262 : w247.cell? ⟨w140.heap.size, 0, none⟩ = some (.int .i64 a1_Name) := ((BelowKit.bcell hb).1 _ _ z241).trans c234
  have c263 : w247.cell? ⟨w140.heap.size, 1, none⟩ = some (.int .i64 a1_From) := ((BelowKit.bcell hb).1 _ _ z241).trans c235
  have c264 : w247.cell? ⟨w140.heap.size, 2, none⟩ = some (.int .i64 a1_To) := ((BelowKit.bcell hb).1 _ _ z241).trans c236
  have c265 : w247.cell? ⟨w140.heap.size, 3, none⟩ = some (.int .i64 a1_Joined) := ((BelowKit.bcell hb).1 _ _ z241).trans c237
  have c266 : w247.cell? ⟨w140.heap.size, 4, none⟩ = some (.int .i64 a1_Rank) := ((BelowKit.bcell hb).1 _ _ z241).trans c238
  have c267 : w247.cell? ⟨w140.heap.size, 5, none⟩ = some (.int .i64 a1_Mode) := ((BelowKit.bcell hb).1 _ _ z241).trans c239
  have c268 : w247.cell? ⟨w140.heap.size, 6, none⟩ = some (.slice p137 len1_Nodes c138) := ((BelowKit.bcell hb).1 _ _ z241).trans c240
  have z269 : w140.heap.size < w247.heap.size := by omega
  have c270 : w247.cell? ⟨w189.heap.size, 0, none⟩ = some (.slice p186 nm0 c187) := ((BelowKit.bcell hb).1 _ _ z219).trans c218
  have z271 : w189.heap.size < w247.heap.size := by omega
  have HO272 := Lib.hid (HO242.out.on hb)
  have HO273 := Lib.hid (HO243.out.on hb)
  have HO274 := Lib.hid (HO244.out.on hb)
  have HO275 := Lib.hid (HO245.out.on hb)
  have HC276 := Lib.hid (BelowKit.bl_trans HC246.out hb)
  clear c220 z221 c222 c223 c224 c225 c226 c227 c228 z229 c230 z231 c232 z233 c234 c235 c236 c237 c238 c239 c240 z241 c218 z219 HO242 HO243 HO244 HO245 HC246 hb
  go_wp2_with fail
  have gc248 := Grown.G.keep c248 z249
  have gc250 := Grown.G.keep c250 z257
  have gc251 := Grown.G.keep c251 z257
  have gc252 := Grown.G.keep c252 z257
  have gc253 := Grown.G.keep c253 z257
  have gc254 := Grown.G.keep c254 z257
  have gc255 := Grown.G.keep c255 z257
  have gc256 := Grown.G.keep c256 z257
  have gc258 := Grown.G.keep c258 z259
  have gc260 := Grown.G.keep c260 z261
  have gc262 := Grown.G.keep c262 z269
  have gc263 := Grown.G.keep c263 z269
  have gc264 := Grown.G.keep c264 z269
  have gc265 := Grown.G.keep c265 z269
  have gc266 := Grown.G.keep c266 z269
  have gc267 := Grown.G.keep c267 z269
  have gc268 := Grown.G.keep c268 z269
  have gc270 := Grown.G.keep c270 z271
  refine Fresh.wp_region_grow (fun k => match k with | 2 => .grow | 3 => .grow | _ => .quiet)
    (fun k v => match k with
          | 2 => (∃ p277 c278, v = .agg #[.slice p277 len0_Rules c278])
          | 3 => (v = .bool true)
          | _ => v = undef)
    (fun k v s w1 => match k with
          | 2 => (∃ p277 c278, w247.heap.size ≤ s ∧ v = .agg #[.slice p277 len0_Rules c278] ∧ TRule.OwD w1 s w1.heap.size (.slice p277 len0_Rules c278) z0_Rules)
          | 3 => (w247.heap.size ≤ s ∧ v = .bool true)
          | _ => True)
    (by kernel_rfl) (by kernel_rfl) (by kernel_rfl) (by kernel_rfl) ?_
  refine Fresh.wpG_q rfl ?_
  go_big_quiet_step (fail)
  refine wpQuiet_nil ?_
  refine Fresh.wpG_q rfl ?_
  go_big_quiet_step (fail)
  refine wpQuiet_nil ?_
  refine Fresh.wpG_call #[.agg #[.slice a0_Rules len0_Rules cap0_Rules]] rfl Try.func35 (by kernel_rfl) (by kernel_rfl) rfl ⟨_, none, 0, rfl⟩ (fun X hd => ?_) ?_
  · have hX := X.bel.size
    refine (TBook.to_c X.w a0_Rules len0_Rules cap0_Rules z0_Rules HM0_Rules.out (by omega) HFW0_Rules.out (HR0_Rules.out.on (BelowKit.bl_trans HC276.out X.bel))).mono ?_
    rintro e w8 ⟨p277, c278, rfl, ho0, hb⟩
    try rw [HM0_Rules.out] at ho0
    try rw [HM0_Rules.out]
    exact ⟨_, rfl, hb, ⟨p277, c278, rfl⟩, p277, c278, by omega, rfl, ho0⟩
  rintro v ⟨p277, c278, rfl⟩
  go_big_quiet_step (fail)
  refine wpQuiet_nil ?_
  refine Fresh.wpG_call #[.agg #[.slice p100 len0_Rules c101], .agg #[.slice p277 len0_Rules c278]] rfl Try.func36 (by kernel_rfl) (by kernel_rfl) rfl ⟨_, rfl⟩ (fun X hd => ?_) ?_
  · obtain ⟨_, _, w9, ⟨p277_ , c278_, _, e9, ho_r279⟩, _, hb9⟩ := hd ⟨2, .data⟩ (by simp) rfl rfl
    have e8 : (.agg #[.slice p277 len0_Rules c278] : Value) = .agg #[.slice p277_ len0_Rules c278_] := e9
    cases e8
    replace ho_r279 := ho_r279.on hb9
    have hX := X.bel.size
    refine (TBook.eq_c X.w len0_Rules c101 c278 p100 p277 z0_Rules HM0_Rules.out (by omega) HFW0_Rules.out ((HO273.out.on X.bel).reads) (ho_r279.reads)).mono ?_
    rintro e w8 ⟨rfl, hb⟩
    exact ⟨_, rfl, hb, rfl, by omega, rfl⟩
  rintro v rfl
  go_big_quiet_step (fail)
  refine wpQuiet_nil ?_
  refine Fresh.wpG_q rfl ?_
  go_big_quiet_step (fail)
  refine wpQuiet_nil ?_
  refine Fresh.wpG_nil fun X sN2 tN2 hk => ?_
  have hXs := X.bel.size
  have hbX := X.bel
  obtain ⟨w280, hU⟩ : ∃ U : World, U = X.w := ⟨_, rfl⟩
  rw [← hU] at hbX  ⊢
  clear hk hU hXs gc248 gc250 gc251 gc252 gc253 gc254 gc255 gc256 gc258 gc260 gc262 gc263 gc264 gc265 gc266 gc267 gc268 gc270
  have sw280 : w247.heap.size ≤ w280.heap.size := hbX.size
  have c281 : w280.cell? ⟨w.heap.size, 0, none⟩ = some (.slice a0_Rules len0_Rules cap0_Rules) := ((BelowKit.bcell hbX).1 _ _ z249).trans c248
  have z282 : w.heap.size < w280.heap.size := by omega
  have c283 : w280.cell? ⟨w.heap.size + 1, 0, none⟩ = some (.int .i64 a1_Name) := ((BelowKit.bcell hbX).1 _ _ z257).trans c250
  have c284 : w280.cell? ⟨w.heap.size + 1, 1, none⟩ = some (.int .i64 a1_From) := ((BelowKit.bcell hbX).1 _ _ z257).trans c251
  have c285 : w280.cell? ⟨w.heap.size + 1, 2, none⟩ = some (.int .i64 a1_To) := ((BelowKit.bcell hbX).1 _ _ z257).trans c252
  have c286 : w280.cell? ⟨w.heap.size + 1, 3, none⟩ = some (.int .i64 a1_Joined) := ((BelowKit.bcell hbX).1 _ _ z257).trans c253
  have c287 : w280.cell? ⟨w.heap.size + 1, 4, none⟩ = some (.int .i64 a1_Rank) := ((BelowKit.bcell hbX).1 _ _ z257).trans c254
  have c288 : w280.cell? ⟨w.heap.size + 1, 5, none⟩ = some (.int .i64 a1_Mode) := ((BelowKit.bcell hbX).1 _ _ z257).trans c255
  have c289 : w280.cell? ⟨w.heap.size + 1, 6, none⟩ = some (.slice a1_Nodes len1_Nodes cap1_Nodes) := ((BelowKit.bcell hbX).1 _ _ z257).trans c256
  have z290 : w.heap.size + 1 < w280.heap.size := by omega
  have c291 : w280.cell? ⟨sN1 8, 0, none⟩ = some (.slice p79 nm0 c80) := ((BelowKit.bcell hbX).1 _ _ z259).trans c258
  have z292 : sN1 8 < w280.heap.size := by omega
  have c293 : w280.cell? ⟨w103.heap.size, 0, none⟩ = some (.slice p100 len0_Rules c101) := ((BelowKit.bcell hbX).1 _ _ z261).trans c260
  have z294 : w103.heap.size < w280.heap.size := by omega
  have c295 : w280.cell? ⟨w140.heap.size, 0, none⟩ = some (.int .i64 a1_Name) := ((BelowKit.bcell hbX).1 _ _ z269).trans c262
  have c296 : w280.cell? ⟨w140.heap.size, 1, none⟩ = some (.int .i64 a1_From) := ((BelowKit.bcell hbX).1 _ _ z269).trans c263
  have c297 : w280.cell? ⟨w140.heap.size, 2, none⟩ = some (.int .i64 a1_To) := ((BelowKit.bcell hbX).1 _ _ z269).trans c264
  have c298 : w280.cell? ⟨w140.heap.size, 3, none⟩ = some (.int .i64 a1_Joined) := ((BelowKit.bcell hbX).1 _ _ z269).trans c265
  have c299 : w280.cell? ⟨w140.heap.size, 4, none⟩ = some (.int .i64 a1_Rank) := ((BelowKit.bcell hbX).1 _ _ z269).trans c266
  have c300 : w280.cell? ⟨w140.heap.size, 5, none⟩ = some (.int .i64 a1_Mode) := ((BelowKit.bcell hbX).1 _ _ z269).trans c267
  have c301 : w280.cell? ⟨w140.heap.size, 6, none⟩ = some (.slice p137 len1_Nodes c138) := ((BelowKit.bcell hbX).1 _ _ z269).trans c268
  have z302 : w140.heap.size < w280.heap.size := by omega
  have c303 : w280.cell? ⟨w189.heap.size, 0, none⟩ = some (.slice p186 nm0 c187) := ((BelowKit.bcell hbX).1 _ _ z271).trans c270
  have z304 : w189.heap.size < w280.heap.size := by omega
  have HO305 := Lib.hid (HO272.out.on hbX)
  have HO306 := Lib.hid (HO273.out.on hbX)
  have HO307 := Lib.hid (HO274.out.on hbX)
  have HO308 := Lib.hid (HO275.out.on hbX)
  have HC309 := Lib.hid (BelowKit.bl_trans HC276.out hbX)
  clear c248 z249 c250 c251 c252 c253 c254 c255 c256 z257 c258 z259 c260 z261 c262 c263 c264 c265 c266 c267 c268 z269 c270 z271 HO272 HO273 HO274 HO275 HC276 hbX
  go_wp2_with fail
  have gc281 := Grown.G.keep c281 z282
  have gc283 := Grown.G.keep c283 z290
  have gc284 := Grown.G.keep c284 z290
  have gc285 := Grown.G.keep c285 z290
  have gc286 := Grown.G.keep c286 z290
  have gc287 := Grown.G.keep c287 z290
  have gc288 := Grown.G.keep c288 z290
  have gc289 := Grown.G.keep c289 z290
  have gc291 := Grown.G.keep c291 z292
  have gc293 := Grown.G.keep c293 z294
  have gc295 := Grown.G.keep c295 z302
  have gc296 := Grown.G.keep c296 z302
  have gc297 := Grown.G.keep c297 z302
  have gc298 := Grown.G.keep c298 z302
  have gc299 := Grown.G.keep c299 z302
  have gc300 := Grown.G.keep c300 z302
  have gc301 := Grown.G.keep c301 z302
  have gc303 := Grown.G.keep c303 z304
  refine Fresh.wp_region_grow (fun k => match k with | 2 => .grow | 3 => .grow | _ => .quiet)
    (fun k v => match k with
          | 2 => (∃ p312 c313, v = .agg #[.int .i64 a1_Name, .int .i64 a1_From, .int .i64 a1_To, .int .i64 a1_Joined, .int .i64 a1_Rank, .int .i64 a1_Mode, .slice p312 len1_Nodes c313])
          | 3 => (v = .bool true)
          | _ => v = undef)
    (fun k v s w1 => match k with
          | 2 => (∃ p312 c313, w280.heap.size ≤ s ∧ v = .agg #[.int .i64 a1_Name, .int .i64 a1_From, .int .i64 a1_To, .int .i64 a1_Joined, .int .i64 a1_Rank, .int .i64 a1_Mode, .slice p312 len1_Nodes c313] ∧ Own.Ow TNode.fc 6 50 w1 s w1.heap.size (.slice p312 len1_Nodes c313) z1_Nodes)
          | 3 => (w280.heap.size ≤ s ∧ v = .bool true)
          | _ => True)
    (by kernel_rfl) (by kernel_rfl) (by kernel_rfl) (by kernel_rfl) ?_
  refine Fresh.wpG_q rfl ?_
  go_big_quiet_step (fail)
  refine wpQuiet_nil ?_
  refine Fresh.wpG_q rfl ?_
  go_big_quiet_step (fail)
  refine wpQuiet_nil ?_
  refine Fresh.wpG_call #[.agg #[.int .i64 a1_Name, .int .i64 a1_From, .int .i64 a1_To, .int .i64 a1_Joined, .int .i64 a1_Rank, .int .i64 a1_Mode, .slice a1_Nodes len1_Nodes cap1_Nodes]] rfl Try.func30 (by kernel_rfl) (by kernel_rfl) rfl ⟨_, none, 0, rfl⟩ (fun X hd => ?_) ?_
  · have hX := X.bel.size
    refine (RuleX.to_l X.w a1_Name a1_From a1_To a1_Joined a1_Rank a1_Mode a1_Nodes len1_Nodes cap1_Nodes z1_Nodes HM1_Nodes.out (by omega) (HR1_Nodes.out.on (BelowKit.bl_trans HC309.out X.bel))).mono ?_
    rintro e w8 ⟨p312, c313, rfl, ho0, hb⟩
    try rw [HM1_Nodes.out] at ho0
    try rw [HM1_Nodes.out]
    exact ⟨_, rfl, hb, ⟨p312, c313, rfl⟩, p312, c313, by omega, rfl, Own.ow_of ho0⟩
  rintro v ⟨p312, c313, rfl⟩
  go_big_quiet_step (fail)
  refine wpQuiet_nil ?_
  refine Fresh.wpG_call #[.agg #[.int .i64 a1_Name, .int .i64 a1_From, .int .i64 a1_To, .int .i64 a1_Joined, .int .i64 a1_Rank, .int .i64 a1_Mode, .slice p137 len1_Nodes c138], .agg #[.int .i64 a1_Name, .int .i64 a1_From, .int .i64 a1_To, .int .i64 a1_Joined, .int .i64 a1_Rank, .int .i64 a1_Mode, .slice p312 len1_Nodes c313]] rfl Try.func32 (by kernel_rfl) (by kernel_rfl) rfl ⟨_, rfl⟩ (fun X hd => ?_) ?_
  · obtain ⟨_, _, w9, ⟨p312_ , c313_, _, e9, ho_r314⟩, _, hb9⟩ := hd ⟨2, .data⟩ (by simp) rfl rfl
    have e8 : (.agg #[.int .i64 a1_Name, .int .i64 a1_From, .int .i64 a1_To, .int .i64 a1_Joined, .int .i64 a1_Rank, .int .i64 a1_Mode, .slice p312 len1_Nodes c313] : Value) = .agg #[.int .i64 a1_Name, .int .i64 a1_From, .int .i64 a1_To, .int .i64 a1_Joined, .int .i64 a1_Rank, .int .i64 a1_Mode, .slice p312_ len1_Nodes c313_] := e9
    cases e8
    replace ho_r314 := ho_r314.on hb9
    have hX := X.bel.size
    refine (RuleX.eq_l X.w a1_Name a1_From a1_To a1_Joined a1_Rank a1_Mode len1_Nodes c138 c313 p137 p312 z1_Nodes HM1_Nodes.out (by omega) ((HO307.out.on X.bel).reads TNode.fw) (ho_r314.reads TNode.fw)).mono ?_
    rintro e w8 ⟨rfl, hb⟩
    exact ⟨_, rfl, hb, rfl, by omega, rfl⟩
  rintro v rfl
  go_big_quiet_step (fail)
  refine wpQuiet_nil ?_
  refine Fresh.wpG_q rfl ?_
  go_big_quiet_step (fail)
  refine wpQuiet_nil ?_
  refine Fresh.wpG_nil fun X sN3 tN3 hk => ?_
  have hXs := X.bel.size
  have hbX := X.bel
  obtain ⟨w315, hU⟩ : ∃ U : World, U = X.w := ⟨_, rfl⟩
  rw [← hU] at hbX  ⊢
  clear hk hU hXs gc281 gc283 gc284 gc285 gc286 gc287 gc288 gc289 gc291 gc293 gc295 gc296 gc297 gc298 gc299 gc300 gc301 gc303
  have sw315 : w280.heap.size ≤ w315.heap.size := hbX.size
  have c316 : w315.cell? ⟨w.heap.size, 0, none⟩ = some (.slice a0_Rules len0_Rules cap0_Rules) := ((BelowKit.bcell hbX).1 _ _ z282).trans c281
  have z317 : w.heap.size < w315.heap.size := by omega
  have c318 : w315.cell? ⟨w.heap.size + 1, 0, none⟩ = some (.int .i64 a1_Name) := ((BelowKit.bcell hbX).1 _ _ z290).trans c283
  have c319 : w315.cell? ⟨w.heap.size + 1, 1, none⟩ = some (.int .i64 a1_From) := ((BelowKit.bcell hbX).1 _ _ z290).trans c284
  have c320 : w315.cell? ⟨w.heap.size + 1, 2, none⟩ = some (.int .i64 a1_To) := ((BelowKit.bcell hbX).1 _ _ z290).trans c285
  have c321 : w315.cell? ⟨w.heap.size + 1, 3, none⟩ = some (.int .i64 a1_Joined) := ((BelowKit.bcell hbX).1 _ _ z290).trans c286
  have c322 : w315.cell? ⟨w.heap.size + 1, 4, none⟩ = some (.int .i64 a1_Rank) := ((BelowKit.bcell hbX).1 _ _ z290).trans c287
  have c323 : w315.cell? ⟨w.heap.size + 1, 5, none⟩ = some (.int .i64 a1_Mode) := ((BelowKit.bcell hbX).1 _ _ z290).trans c288
  have c324 : w315.cell? ⟨w.heap.size + 1, 6, none⟩ = some (.slice a1_Nodes len1_Nodes cap1_Nodes) := ((BelowKit.bcell hbX).1 _ _ z290).trans c289
  have z325 : w.heap.size + 1 < w315.heap.size := by omega
  have c326 : w315.cell? ⟨sN1 8, 0, none⟩ = some (.slice p79 nm0 c80) := ((BelowKit.bcell hbX).1 _ _ z292).trans c291
  have z327 : sN1 8 < w315.heap.size := by omega
  have c328 : w315.cell? ⟨w103.heap.size, 0, none⟩ = some (.slice p100 len0_Rules c101) := ((BelowKit.bcell hbX).1 _ _ z294).trans c293
  have z329 : w103.heap.size < w315.heap.size := by omega
  have c330 : w315.cell? ⟨w140.heap.size, 0, none⟩ = some (.int .i64 a1_Name) := ((BelowKit.bcell hbX).1 _ _ z302).trans c295
  have c331 : w315.cell? ⟨w140.heap.size, 1, none⟩ = some (.int .i64 a1_From) := ((BelowKit.bcell hbX).1 _ _ z302).trans c296
  have c332 : w315.cell? ⟨w140.heap.size, 2, none⟩ = some (.int .i64 a1_To) := ((BelowKit.bcell hbX).1 _ _ z302).trans c297
  have c333 : w315.cell? ⟨w140.heap.size, 3, none⟩ = some (.int .i64 a1_Joined) := ((BelowKit.bcell hbX).1 _ _ z302).trans c298
  have c334 : w315.cell? ⟨w140.heap.size, 4, none⟩ = some (.int .i64 a1_Rank) := ((BelowKit.bcell hbX).1 _ _ z302).trans c299
  have c335 : w315.cell? ⟨w140.heap.size, 5, none⟩ = some (.int .i64 a1_Mode) := ((BelowKit.bcell hbX).1 _ _ z302).trans c300
  have c336 : w315.cell? ⟨w140.heap.size, 6, none⟩ = some (.slice p137 len1_Nodes c138) := ((BelowKit.bcell hbX).1 _ _ z302).trans c301
  have z337 : w140.heap.size < w315.heap.size := by omega
  have c338 : w315.cell? ⟨w189.heap.size, 0, none⟩ = some (.slice p186 nm0 c187) := ((BelowKit.bcell hbX).1 _ _ z304).trans c303
  have z339 : w189.heap.size < w315.heap.size := by omega
  have HO340 := Lib.hid (HO305.out.on hbX)
  have HO341 := Lib.hid (HO306.out.on hbX)
  have HO342 := Lib.hid (HO307.out.on hbX)
  have HO343 := Lib.hid (HO308.out.on hbX)
  have HC344 := Lib.hid (BelowKit.bl_trans HC309.out hbX)
  clear c281 z282 c283 c284 c285 c286 c287 c288 c289 z290 c291 z292 c293 z294 c295 c296 c297 c298 c299 c300 c301 z302 c303 z304 HO305 HO306 HO307 HO308 HC309 hbX
  go_wp2_with fail
  refine (TBook.mark_m w315 w83.heap.size w103.heap.size p100 len0_Rules c101 z0_Rules 1 HM0_Rules.out (by omega) HFW0_Rules.out (by omega) (by rw [HT0_Rules.out]; omega) HO341.out (by omega)).mono ?_
  rintro e w347 ⟨rfl, ho, hm⟩
  rw [HT0_Rules.out]
  have sw347 : w315.heap.size ≤ w347.heap.size := hm.low.size
  have c348 : w347.cell? ⟨w.heap.size, 0, none⟩ = some (.slice a0_Rules len0_Rules cap0_Rules) := (hm.out (b := w.heap.size) (by omega) 0).trans c316
  have z349 : w.heap.size < w347.heap.size := by omega
  have c350 : w347.cell? ⟨w.heap.size + 1, 0, none⟩ = some (.int .i64 a1_Name) := (hm.out (b := w.heap.size + 1) (by omega) 0).trans c318
  have c351 : w347.cell? ⟨w.heap.size + 1, 1, none⟩ = some (.int .i64 a1_From) := (hm.out (b := w.heap.size + 1) (by omega) 1).trans c319
  have c352 : w347.cell? ⟨w.heap.size + 1, 2, none⟩ = some (.int .i64 a1_To) := (hm.out (b := w.heap.size + 1) (by omega) 2).trans c320
  have c353 : w347.cell? ⟨w.heap.size + 1, 3, none⟩ = some (.int .i64 a1_Joined) := (hm.out (b := w.heap.size + 1) (by omega) 3).trans c321
  have c354 : w347.cell? ⟨w.heap.size + 1, 4, none⟩ = some (.int .i64 a1_Rank) := (hm.out (b := w.heap.size + 1) (by omega) 4).trans c322
  have c355 : w347.cell? ⟨w.heap.size + 1, 5, none⟩ = some (.int .i64 a1_Mode) := (hm.out (b := w.heap.size + 1) (by omega) 5).trans c323
  have c356 : w347.cell? ⟨w.heap.size + 1, 6, none⟩ = some (.slice a1_Nodes len1_Nodes cap1_Nodes) := (hm.out (b := w.heap.size + 1) (by omega) 6).trans c324
  have z357 : w.heap.size + 1 < w347.heap.size := by omega
  have c358 : w347.cell? ⟨sN1 8, 0, none⟩ = some (.slice p79 nm0 c80) := (hm.out (b := sN1 8) (by omega) 0).trans c326
  have z359 : sN1 8 < w347.heap.size := by omega
  have c360 : w347.cell? ⟨w103.heap.size, 0, none⟩ = some (.slice p100 len0_Rules c101) := (hm.out (b := w103.heap.size) (by omega) 0).trans c328
  have z361 : w103.heap.size < w347.heap.size := by omega
  have c362 : w347.cell? ⟨w140.heap.size, 0, none⟩ = some (.int .i64 a1_Name) := (hm.out (b := w140.heap.size) (by omega) 0).trans c330
  have c363 : w347.cell? ⟨w140.heap.size, 1, none⟩ = some (.int .i64 a1_From) := (hm.out (b := w140.heap.size) (by omega) 1).trans c331
  have c364 : w347.cell? ⟨w140.heap.size, 2, none⟩ = some (.int .i64 a1_To) := (hm.out (b := w140.heap.size) (by omega) 2).trans c332
  have c365 : w347.cell? ⟨w140.heap.size, 3, none⟩ = some (.int .i64 a1_Joined) := (hm.out (b := w140.heap.size) (by omega) 3).trans c333
  have c366 : w347.cell? ⟨w140.heap.size, 4, none⟩ = some (.int .i64 a1_Rank) := (hm.out (b := w140.heap.size) (by omega) 4).trans c334
  have c367 : w347.cell? ⟨w140.heap.size, 5, none⟩ = some (.int .i64 a1_Mode) := (hm.out (b := w140.heap.size) (by omega) 5).trans c335
  have c368 : w347.cell? ⟨w140.heap.size, 6, none⟩ = some (.slice p137 len1_Nodes c138) := (hm.out (b := w140.heap.size) (by omega) 6).trans c336
  have z369 : w140.heap.size < w347.heap.size := by omega
  have c370 : w347.cell? ⟨w189.heap.size, 0, none⟩ = some (.slice p186 nm0 c187) := (hm.out (b := w189.heap.size) (by omega) 0).trans c338
  have z371 : w189.heap.size < w347.heap.size := by omega
  have HO372 := Lib.hid (HO340.out.mid hm (by omega))
  have HO374 := Lib.hid (HO342.out.mid hm (by omega))
  have HO375 := Lib.hid (HO343.out.mid hm (by omega))
  have HC376 := Lib.hid (HC344.out.trans (hm.low.mono (by omega)))
  clear c316 z317 c318 c319 c320 c321 c322 c323 c324 z325 c326 z327 c328 z329 c330 c331 c332 c333 c334 c335 c336 z337 c338 z339 HO340 HO342 HO343 HC344 hm
  have HO377 := Lib.hid ho
  clear ho HO341
  have HM378 : Hid ((TRule.marks 1 z0_Rules).length = len0_Rules) := Lib.hid ((TRule.marks_len _ _).trans HM0_Rules.out)
  have HFW379 := Lib.hid (RuleX.few_marks z0_Rules 1 HFW0_Rules.out)
  go_wp2_with fail
  refine (RuleX.mark_l w347 a1_Name a1_From a1_To a1_Joined a1_Rank a1_Mode W119.heap.size w140.heap.size p137 len1_Nodes c138 z1_Nodes (1 + 6 * Z0_Rules) HM1_Nodes.out (by omega) (by omega) (by omega) HO374.out (by omega)).mono ?_
  rintro e w380 ⟨rfl, ho, hm⟩
  have sw380 : w347.heap.size ≤ w380.heap.size := hm.low.size
  have c381 : w380.cell? ⟨w.heap.size, 0, none⟩ = some (.slice a0_Rules len0_Rules cap0_Rules) := (hm.out (b := w.heap.size) (by omega) 0).trans c348
  have z382 : w.heap.size < w380.heap.size := by omega
  have c383 : w380.cell? ⟨w.heap.size + 1, 0, none⟩ = some (.int .i64 a1_Name) := (hm.out (b := w.heap.size + 1) (by omega) 0).trans c350
  have c384 : w380.cell? ⟨w.heap.size + 1, 1, none⟩ = some (.int .i64 a1_From) := (hm.out (b := w.heap.size + 1) (by omega) 1).trans c351
  have c385 : w380.cell? ⟨w.heap.size + 1, 2, none⟩ = some (.int .i64 a1_To) := (hm.out (b := w.heap.size + 1) (by omega) 2).trans c352
  have c386 : w380.cell? ⟨w.heap.size + 1, 3, none⟩ = some (.int .i64 a1_Joined) := (hm.out (b := w.heap.size + 1) (by omega) 3).trans c353
  have c387 : w380.cell? ⟨w.heap.size + 1, 4, none⟩ = some (.int .i64 a1_Rank) := (hm.out (b := w.heap.size + 1) (by omega) 4).trans c354
  have c388 : w380.cell? ⟨w.heap.size + 1, 5, none⟩ = some (.int .i64 a1_Mode) := (hm.out (b := w.heap.size + 1) (by omega) 5).trans c355
  have c389 : w380.cell? ⟨w.heap.size + 1, 6, none⟩ = some (.slice a1_Nodes len1_Nodes cap1_Nodes) := (hm.out (b := w.heap.size + 1) (by omega) 6).trans c356
  have z390 : w.heap.size + 1 < w380.heap.size := by omega
  have c391 : w380.cell? ⟨sN1 8, 0, none⟩ = some (.slice p79 nm0 c80) := (hm.out (b := sN1 8) (by omega) 0).trans c358
  have z392 : sN1 8 < w380.heap.size := by omega
  have c393 : w380.cell? ⟨w103.heap.size, 0, none⟩ = some (.slice p100 len0_Rules c101) := (hm.out (b := w103.heap.size) (by omega) 0).trans c360
  have z394 : w103.heap.size < w380.heap.size := by omega
  have c395 : w380.cell? ⟨w140.heap.size, 0, none⟩ = some (.int .i64 a1_Name) := (hm.out (b := w140.heap.size) (by omega) 0).trans c362
  have c396 : w380.cell? ⟨w140.heap.size, 1, none⟩ = some (.int .i64 a1_From) := (hm.out (b := w140.heap.size) (by omega) 1).trans c363
  have c397 : w380.cell? ⟨w140.heap.size, 2, none⟩ = some (.int .i64 a1_To) := (hm.out (b := w140.heap.size) (by omega) 2).trans c364
  have c398 : w380.cell? ⟨w140.heap.size, 3, none⟩ = some (.int .i64 a1_Joined) := (hm.out (b := w140.heap.size) (by omega) 3).trans c365
  have c399 : w380.cell? ⟨w140.heap.size, 4, none⟩ = some (.int .i64 a1_Rank) := (hm.out (b := w140.heap.size) (by omega) 4).trans c366
  have c400 : w380.cell? ⟨w140.heap.size, 5, none⟩ = some (.int .i64 a1_Mode) := (hm.out (b := w140.heap.size) (by omega) 5).trans c367
  have c401 : w380.cell? ⟨w140.heap.size, 6, none⟩ = some (.slice p137 len1_Nodes c138) := (hm.out (b := w140.heap.size) (by omega) 6).trans c368
  have z402 : w140.heap.size < w380.heap.size := by omega
  have c403 : w380.cell? ⟨w189.heap.size, 0, none⟩ = some (.slice p186 nm0 c187) := (hm.out (b := w189.heap.size) (by omega) 0).trans c370
  have z404 : w189.heap.size < w380.heap.size := by omega
  have HO405 := Lib.hid (HO372.out.mid hm (by omega))
  have HO406 := Lib.hid (HO377.out.mid hm (by omega))
  have HO408 := Lib.hid (HO375.out.mid hm (by omega))
  have HC409 := Lib.hid (HC376.out.trans (hm.low.mono (by omega)))
  clear c348 z349 c350 c351 c352 c353 c354 c355 c356 z357 c358 z359 c360 z361 c362 c363 c364 c365 c366 c367 c368 z369 c370 z371 HO372 HO377 HO375 HC376 hm
  have HO410 := Lib.hid ho
  clear ho HO374
  have HM411 : Hid ((TNode.marks (1 + 6 * Z0_Rules) len1_Nodes).length = len1_Nodes) := Lib.hid (TNode.marks_len _ _)
  go_wp2_with fail
  refine (TBook.eq_c w380 nm0 c187 c80 p186 p79 m0 HN0.out (by omega) HFWm0.out HO408.out.reads HO405.out.reads).mono ?_
  rintro e w412 ⟨rfl, hb⟩
  have sw412 : w380.heap.size ≤ w412.heap.size := hb.size
  have c413 : w412.cell? ⟨w.heap.size, 0, none⟩ = some (.slice a0_Rules len0_Rules cap0_Rules) := ((BelowKit.bcell hb).1 _ _ z382).trans c381
  have z414 : w.heap.size < w412.heap.size := by omega
  have c415 : w412.cell? ⟨w.heap.size + 1, 0, none⟩ = some (.int .i64 a1_Name) := ((BelowKit.bcell hb).1 _ _ z390).trans c383
  have c416 : w412.cell? ⟨w.heap.size + 1, 1, none⟩ = some (.int .i64 a1_From) := ((BelowKit.bcell hb).1 _ _ z390).trans c384
  have c417 : w412.cell? ⟨w.heap.size + 1, 2, none⟩ = some (.int .i64 a1_To) := ((BelowKit.bcell hb).1 _ _ z390).trans c385
  have c418 : w412.cell? ⟨w.heap.size + 1, 3, none⟩ = some (.int .i64 a1_Joined) := ((BelowKit.bcell hb).1 _ _ z390).trans c386
  have c419 : w412.cell? ⟨w.heap.size + 1, 4, none⟩ = some (.int .i64 a1_Rank) := ((BelowKit.bcell hb).1 _ _ z390).trans c387
  have c420 : w412.cell? ⟨w.heap.size + 1, 5, none⟩ = some (.int .i64 a1_Mode) := ((BelowKit.bcell hb).1 _ _ z390).trans c388
  have c421 : w412.cell? ⟨w.heap.size + 1, 6, none⟩ = some (.slice a1_Nodes len1_Nodes cap1_Nodes) := ((BelowKit.bcell hb).1 _ _ z390).trans c389
  have z422 : w.heap.size + 1 < w412.heap.size := by omega
  have c423 : w412.cell? ⟨sN1 8, 0, none⟩ = some (.slice p79 nm0 c80) := ((BelowKit.bcell hb).1 _ _ z392).trans c391
  have z424 : sN1 8 < w412.heap.size := by omega
  have c425 : w412.cell? ⟨w103.heap.size, 0, none⟩ = some (.slice p100 len0_Rules c101) := ((BelowKit.bcell hb).1 _ _ z394).trans c393
  have z426 : w103.heap.size < w412.heap.size := by omega
  have c427 : w412.cell? ⟨w140.heap.size, 0, none⟩ = some (.int .i64 a1_Name) := ((BelowKit.bcell hb).1 _ _ z402).trans c395
  have c428 : w412.cell? ⟨w140.heap.size, 1, none⟩ = some (.int .i64 a1_From) := ((BelowKit.bcell hb).1 _ _ z402).trans c396
  have c429 : w412.cell? ⟨w140.heap.size, 2, none⟩ = some (.int .i64 a1_To) := ((BelowKit.bcell hb).1 _ _ z402).trans c397
  have c430 : w412.cell? ⟨w140.heap.size, 3, none⟩ = some (.int .i64 a1_Joined) := ((BelowKit.bcell hb).1 _ _ z402).trans c398
  have c431 : w412.cell? ⟨w140.heap.size, 4, none⟩ = some (.int .i64 a1_Rank) := ((BelowKit.bcell hb).1 _ _ z402).trans c399
  have c432 : w412.cell? ⟨w140.heap.size, 5, none⟩ = some (.int .i64 a1_Mode) := ((BelowKit.bcell hb).1 _ _ z402).trans c400
  have c433 : w412.cell? ⟨w140.heap.size, 6, none⟩ = some (.slice p137 len1_Nodes c138) := ((BelowKit.bcell hb).1 _ _ z402).trans c401
  have z434 : w140.heap.size < w412.heap.size := by omega
  have c435 : w412.cell? ⟨w189.heap.size, 0, none⟩ = some (.slice p186 nm0 c187) := ((BelowKit.bcell hb).1 _ _ z404).trans c403
  have z436 : w189.heap.size < w412.heap.size := by omega
  have HO437 := Lib.hid (HO405.out.on hb)
  have HO438 := Lib.hid (HO406.out.on hb)
  have HO439 := Lib.hid (HO410.out.on hb)
  have HO440 := Lib.hid (HO408.out.on hb)
  have HC441 := Lib.hid (BelowKit.bl_trans HC409.out hb)
  clear c381 z382 c383 c384 c385 c386 c387 c388 c389 z390 c391 z392 c393 z394 c395 c396 c397 c398 c399 c400 c401 z402 c403 z404 HO405 HO406 HO410 HO408 HC409 hb
  go_wp2_with fail
  refine (TBook.mark_m w412 W159.heap.size w189.heap.size p186 nm0 c187 m0 1 HN0.out (by omega) HFWm0.out (by omega) (by rw [HTm0.out]; omega) HO440.out (by omega)).mono ?_
  rintro e w442 ⟨rfl, ho, hm⟩
  rw [HTm0.out]
  have sw442 : w412.heap.size ≤ w442.heap.size := hm.low.size
  have c443 : w442.cell? ⟨w.heap.size, 0, none⟩ = some (.slice a0_Rules len0_Rules cap0_Rules) := (hm.out (b := w.heap.size) (by omega) 0).trans c413
  have z444 : w.heap.size < w442.heap.size := by omega
  have c445 : w442.cell? ⟨w.heap.size + 1, 0, none⟩ = some (.int .i64 a1_Name) := (hm.out (b := w.heap.size + 1) (by omega) 0).trans c415
  have c446 : w442.cell? ⟨w.heap.size + 1, 1, none⟩ = some (.int .i64 a1_From) := (hm.out (b := w.heap.size + 1) (by omega) 1).trans c416
  have c447 : w442.cell? ⟨w.heap.size + 1, 2, none⟩ = some (.int .i64 a1_To) := (hm.out (b := w.heap.size + 1) (by omega) 2).trans c417
  have c448 : w442.cell? ⟨w.heap.size + 1, 3, none⟩ = some (.int .i64 a1_Joined) := (hm.out (b := w.heap.size + 1) (by omega) 3).trans c418
  have c449 : w442.cell? ⟨w.heap.size + 1, 4, none⟩ = some (.int .i64 a1_Rank) := (hm.out (b := w.heap.size + 1) (by omega) 4).trans c419
  have c450 : w442.cell? ⟨w.heap.size + 1, 5, none⟩ = some (.int .i64 a1_Mode) := (hm.out (b := w.heap.size + 1) (by omega) 5).trans c420
  have c451 : w442.cell? ⟨w.heap.size + 1, 6, none⟩ = some (.slice a1_Nodes len1_Nodes cap1_Nodes) := (hm.out (b := w.heap.size + 1) (by omega) 6).trans c421
  have z452 : w.heap.size + 1 < w442.heap.size := by omega
  have c453 : w442.cell? ⟨sN1 8, 0, none⟩ = some (.slice p79 nm0 c80) := (hm.out (b := sN1 8) (by omega) 0).trans c423
  have z454 : sN1 8 < w442.heap.size := by omega
  have c455 : w442.cell? ⟨w103.heap.size, 0, none⟩ = some (.slice p100 len0_Rules c101) := (hm.out (b := w103.heap.size) (by omega) 0).trans c425
  have z456 : w103.heap.size < w442.heap.size := by omega
  have c457 : w442.cell? ⟨w140.heap.size, 0, none⟩ = some (.int .i64 a1_Name) := (hm.out (b := w140.heap.size) (by omega) 0).trans c427
  have c458 : w442.cell? ⟨w140.heap.size, 1, none⟩ = some (.int .i64 a1_From) := (hm.out (b := w140.heap.size) (by omega) 1).trans c428
  have c459 : w442.cell? ⟨w140.heap.size, 2, none⟩ = some (.int .i64 a1_To) := (hm.out (b := w140.heap.size) (by omega) 2).trans c429
  have c460 : w442.cell? ⟨w140.heap.size, 3, none⟩ = some (.int .i64 a1_Joined) := (hm.out (b := w140.heap.size) (by omega) 3).trans c430
  have c461 : w442.cell? ⟨w140.heap.size, 4, none⟩ = some (.int .i64 a1_Rank) := (hm.out (b := w140.heap.size) (by omega) 4).trans c431
  have c462 : w442.cell? ⟨w140.heap.size, 5, none⟩ = some (.int .i64 a1_Mode) := (hm.out (b := w140.heap.size) (by omega) 5).trans c432
  have c463 : w442.cell? ⟨w140.heap.size, 6, none⟩ = some (.slice p137 len1_Nodes c138) := (hm.out (b := w140.heap.size) (by omega) 6).trans c433
  have z464 : w140.heap.size < w442.heap.size := by omega
  have c465 : w442.cell? ⟨w189.heap.size, 0, none⟩ = some (.slice p186 nm0 c187) := (hm.out (b := w189.heap.size) (by omega) 0).trans c435
  have z466 : w189.heap.size < w442.heap.size := by omega
  have HO467 := Lib.hid (HO437.out.mid hm (by omega))
  have HO468 := Lib.hid (HO438.out.mid hm (by omega))
  have HO469 := Lib.hid (HO439.out.mid hm (by omega))
  have HC471 := Lib.hid (HC441.out.trans (hm.low.mono (by omega)))
  clear c413 z414 c415 c416 c417 c418 c419 c420 c421 z422 c423 z424 c425 z426 c427 c428 c429 c430 c431 c432 c433 z434 c435 z436 HO437 HO438 HO439 HC441 hm
  have HO472 := Lib.hid ho
  clear ho HO440
  have HM473 : Hid ((TRule.marks 1 m0).length = nm0) := Lib.hid ((TRule.marks_len _ _).trans HN0.out)
  have HFW474 := Lib.hid (RuleX.few_marks m0 1 HFWm0.out)
  go_wp2_with fail
  refine (TBook.held_c w442 p186 nm0 c187 m0 1 HN0.out (by omega) HFWm0.out (by omega) (by rw [HTm0.out]; omega) HO472.out.reads).mono ?_
  rintro e w475 ⟨rfl, hb⟩
  rw [HTm0.out]
  have sw475 : w442.heap.size ≤ w475.heap.size := hb.size
  have c476 : w475.cell? ⟨w.heap.size, 0, none⟩ = some (.slice a0_Rules len0_Rules cap0_Rules) := ((BelowKit.bcell hb).1 _ _ z444).trans c443
  have z477 : w.heap.size < w475.heap.size := by omega
  have c478 : w475.cell? ⟨w.heap.size + 1, 0, none⟩ = some (.int .i64 a1_Name) := ((BelowKit.bcell hb).1 _ _ z452).trans c445
  have c479 : w475.cell? ⟨w.heap.size + 1, 1, none⟩ = some (.int .i64 a1_From) := ((BelowKit.bcell hb).1 _ _ z452).trans c446
  have c480 : w475.cell? ⟨w.heap.size + 1, 2, none⟩ = some (.int .i64 a1_To) := ((BelowKit.bcell hb).1 _ _ z452).trans c447
  have c481 : w475.cell? ⟨w.heap.size + 1, 3, none⟩ = some (.int .i64 a1_Joined) := ((BelowKit.bcell hb).1 _ _ z452).trans c448
  have c482 : w475.cell? ⟨w.heap.size + 1, 4, none⟩ = some (.int .i64 a1_Rank) := ((BelowKit.bcell hb).1 _ _ z452).trans c449
  have c483 : w475.cell? ⟨w.heap.size + 1, 5, none⟩ = some (.int .i64 a1_Mode) := ((BelowKit.bcell hb).1 _ _ z452).trans c450
  have c484 : w475.cell? ⟨w.heap.size + 1, 6, none⟩ = some (.slice a1_Nodes len1_Nodes cap1_Nodes) := ((BelowKit.bcell hb).1 _ _ z452).trans c451
  have z485 : w.heap.size + 1 < w475.heap.size := by omega
  have c486 : w475.cell? ⟨sN1 8, 0, none⟩ = some (.slice p79 nm0 c80) := ((BelowKit.bcell hb).1 _ _ z454).trans c453
  have z487 : sN1 8 < w475.heap.size := by omega
  have c488 : w475.cell? ⟨w103.heap.size, 0, none⟩ = some (.slice p100 len0_Rules c101) := ((BelowKit.bcell hb).1 _ _ z456).trans c455
  have z489 : w103.heap.size < w475.heap.size := by omega
  have c490 : w475.cell? ⟨w140.heap.size, 0, none⟩ = some (.int .i64 a1_Name) := ((BelowKit.bcell hb).1 _ _ z464).trans c457
  have c491 : w475.cell? ⟨w140.heap.size, 1, none⟩ = some (.int .i64 a1_From) := ((BelowKit.bcell hb).1 _ _ z464).trans c458
  have c492 : w475.cell? ⟨w140.heap.size, 2, none⟩ = some (.int .i64 a1_To) := ((BelowKit.bcell hb).1 _ _ z464).trans c459
  have c493 : w475.cell? ⟨w140.heap.size, 3, none⟩ = some (.int .i64 a1_Joined) := ((BelowKit.bcell hb).1 _ _ z464).trans c460
  have c494 : w475.cell? ⟨w140.heap.size, 4, none⟩ = some (.int .i64 a1_Rank) := ((BelowKit.bcell hb).1 _ _ z464).trans c461
  have c495 : w475.cell? ⟨w140.heap.size, 5, none⟩ = some (.int .i64 a1_Mode) := ((BelowKit.bcell hb).1 _ _ z464).trans c462
  have c496 : w475.cell? ⟨w140.heap.size, 6, none⟩ = some (.slice p137 len1_Nodes c138) := ((BelowKit.bcell hb).1 _ _ z464).trans c463
  have z497 : w140.heap.size < w475.heap.size := by omega
  have c498 : w475.cell? ⟨w189.heap.size, 0, none⟩ = some (.slice p186 nm0 c187) := ((BelowKit.bcell hb).1 _ _ z466).trans c465
  have z499 : w189.heap.size < w475.heap.size := by omega
  have HO500 := Lib.hid (HO467.out.on hb)
  have HO501 := Lib.hid (HO468.out.on hb)
  have HO502 := Lib.hid (HO469.out.on hb)
  have HO503 := Lib.hid (HO472.out.on hb)
  have HC504 := Lib.hid (BelowKit.bl_trans HC471.out hb)
  clear c443 z444 c445 c446 c447 c448 c449 c450 c451 z452 c453 z454 c455 z456 c457 c458 c459 c460 c461 c462 c463 z464 c465 z466 HO467 HO468 HO469 HO472 HC471 hb
  go_wp2_with fail
  have gc476 := Grown.G.keep c476 z477
  have gc478 := Grown.G.keep c478 z485
  have gc479 := Grown.G.keep c479 z485
  have gc480 := Grown.G.keep c480 z485
  have gc481 := Grown.G.keep c481 z485
  have gc482 := Grown.G.keep c482 z485
  have gc483 := Grown.G.keep c483 z485
  have gc484 := Grown.G.keep c484 z485
  have gc486 := Grown.G.keep c486 z487
  have gc488 := Grown.G.keep c488 z489
  have gc490 := Grown.G.keep c490 z497
  have gc491 := Grown.G.keep c491 z497
  have gc492 := Grown.G.keep c492 z497
  have gc493 := Grown.G.keep c493 z497
  have gc494 := Grown.G.keep c494 z497
  have gc495 := Grown.G.keep c495 z497
  have gc496 := Grown.G.keep c496 z497
  have gc498 := Grown.G.keep c498 z499
  refine Fresh.wp_region_store (fun k => match k with | 1 => .grow | 3 => .grow | 4 => .grow | 8 => .grow | 9 => .write | _ => .quiet)
    (fun k v => match k with
          | 1 => (∃ p505 c506, v = .agg #[.slice p505 len0_Rules c506])
          | 3 => (∃ p508 c509, v = .agg #[.int .i64 a1_Name, .int .i64 a1_From, .int .i64 a1_To, .int .i64 a1_Joined, .int .i64 a1_Rank, .int .i64 a1_Mode, .slice p508 len1_Nodes c509])
          | 4 => (∃ p511 c512, v = .tuple #[.agg #[.slice p511 nm0 c512], .bool m1])
          | 8 => (∃ g : Nat, w475.heap.size ≤ g ∧ v = .pointer (some ⟨g, 0, none⟩))
          | _ => v = undef)
    (fun k v s w1 => match k with
          | 1 => (∃ p505 c506, w475.heap.size ≤ s ∧ v = .agg #[.slice p505 len0_Rules c506] ∧ TRule.OwD w1 s w1.heap.size (.slice p505 len0_Rules c506) z0_Rules)
          | 3 => (∃ p508 c509, w475.heap.size ≤ s ∧ v = .agg #[.int .i64 a1_Name, .int .i64 a1_From, .int .i64 a1_To, .int .i64 a1_Joined, .int .i64 a1_Rank, .int .i64 a1_Mode, .slice p508 len1_Nodes c509] ∧ Own.Ow TNode.fc 6 50 w1 s w1.heap.size (.slice p508 len1_Nodes c509) z1_Nodes)
          | 4 => (∃ p511 c512, w475.heap.size ≤ s ∧ v = .tuple #[.agg #[.slice p511 nm0 c512], .bool m1] ∧ TRule.OwD w1 s w1.heap.size (.slice p511 nm0 c512) m0)
          | 8 => (w475.heap.size ≤ s ∧ v = .pointer (some ⟨s, 0, none⟩) ∧ w1.heap.size = s + 1 ∧ w1.cell? ⟨s, 0, none⟩ = some (.slice none 0 0) ∧ w1.frozen? ⟨s, 0, none⟩ = false)
          | _ => True)
    9 (by kernel_rfl) (by kernel_rfl) (by kernel_rfl) rfl (of_decide_eq_true (by kernel_rfl)) (by kernel_rfl) ?_
  refine Fresh.wpG_q rfl ?_
  go_big_quiet_step (fail)
  refine wpQuiet_nil ?_
  refine Fresh.wpG_call #[.agg #[.slice a0_Rules len0_Rules cap0_Rules]] rfl Try.func35 (by kernel_rfl) (by kernel_rfl) rfl ⟨_, none, 0, rfl⟩ (fun X hd => ?_) ?_
  · have hX := X.bel.size
    refine (TBook.to_c X.w a0_Rules len0_Rules cap0_Rules z0_Rules HM0_Rules.out (by omega) HFW0_Rules.out (HR0_Rules.out.on (BelowKit.bl_trans HC504.out X.bel))).mono ?_
    rintro e w8 ⟨p505, c506, rfl, ho0, hb⟩
    try rw [HM0_Rules.out] at ho0
    try rw [HM0_Rules.out]
    exact ⟨_, rfl, hb, ⟨p505, c506, rfl⟩, p505, c506, by omega, rfl, ho0⟩
  rintro v ⟨p505, c506, rfl⟩
  go_big_quiet_step (fail)
  refine wpQuiet_nil ?_
  refine Fresh.wpG_q rfl ?_
  go_big_quiet_step (fail)
  refine wpQuiet_nil ?_
  refine Fresh.wpG_call #[.agg #[.int .i64 a1_Name, .int .i64 a1_From, .int .i64 a1_To, .int .i64 a1_Joined, .int .i64 a1_Rank, .int .i64 a1_Mode, .slice a1_Nodes len1_Nodes cap1_Nodes]] rfl Try.func30 (by kernel_rfl) (by kernel_rfl) rfl ⟨_, none, 0, rfl⟩ (fun X hd => ?_) ?_
  · have hX := X.bel.size
    refine (RuleX.to_l X.w a1_Name a1_From a1_To a1_Joined a1_Rank a1_Mode a1_Nodes len1_Nodes cap1_Nodes z1_Nodes HM1_Nodes.out (by omega) (HR1_Nodes.out.on (BelowKit.bl_trans HC504.out X.bel))).mono ?_
    rintro e w8 ⟨p508, c509, rfl, ho0, hb⟩
    try rw [HM1_Nodes.out] at ho0
    try rw [HM1_Nodes.out]
    exact ⟨_, rfl, hb, ⟨p508, c509, rfl⟩, p508, c509, by omega, rfl, Own.ow_of ho0⟩
  rintro v ⟨p508, c509, rfl⟩
  go_big_quiet_step (fail)
  refine wpQuiet_nil ?_
  refine Fresh.wpG_call #[.agg #[.slice p505 len0_Rules c506], .agg #[.int .i64 a1_Name, .int .i64 a1_From, .int .i64 a1_To, .int .i64 a1_Joined, .int .i64 a1_Rank, .int .i64 a1_Mode, .slice p508 len1_Nodes c509]] rfl Try.func27 (by kernel_rfl) (by kernel_rfl) rfl ⟨_, none, 0, rfl⟩ (fun X hd => ?_) ?_
  · obtain ⟨_, _, w9, ⟨p505_ , c506_, _, e9, ho_r507⟩, _, hb9⟩ := hd ⟨1, .data⟩ (by simp) rfl rfl
    have e8 : (.agg #[.slice p505 len0_Rules c506] : Value) = .agg #[.slice p505_ len0_Rules c506_] := e9
    cases e8
    replace ho_r507 := ho_r507.on hb9
    obtain ⟨_, _, w9, ⟨p508_ , c509_, _, e9, ho_r510⟩, _, hb9⟩ := hd ⟨3, .data⟩ (by simp) rfl rfl
    have e8 : (.agg #[.int .i64 a1_Name, .int .i64 a1_From, .int .i64 a1_To, .int .i64 a1_Joined, .int .i64 a1_Rank, .int .i64 a1_Mode, .slice p508 len1_Nodes c509] : Value) = .agg #[.int .i64 a1_Name, .int .i64 a1_From, .int .i64 a1_To, .int .i64 a1_Joined, .int .i64 a1_Rank, .int .i64 a1_Mode, .slice p508_ len1_Nodes c509_] := e9
    cases e8
    replace ho_r510 := ho_r510.on hb9
    have hX := X.bel.size
    refine (RuleF.add_i X.w p505 len0_Rules c506 z0_Rules a1_Name a1_From a1_To a1_Joined a1_Rank a1_Mode p508 len1_Nodes c509 z1_Nodes HM0_Rules.out (by omega) (RuleRow.OwD.cap ho_r507) HFW0_Rules.out (ho_r507.reads) HM1_Nodes.out (by omega) (ho_r510.reads TNode.fw)).mono ?_
    rintro e w8 ⟨p511, c512, rfl, ho0, hb⟩
    try rw [HF0.out] at ho0
    try rw [HF0.out]
    try rw [HF1.out] at ho0
    try rw [HF1.out]
    try rw [HN0.out] at ho0
    try rw [HN0.out]
    exact ⟨_, rfl, hb, ⟨p511, c512, rfl⟩, p511, c512, by omega, rfl, ho0⟩
  rintro v ⟨p511, c512, rfl⟩
  go_big_quiet_step (fail)
  refine wpQuiet_nil ?_
  refine Fresh.wpG_q rfl ?_
  go_big_quiet_step (fail)
  refine wpQuiet_nil ?_
  refine Fresh.wpG_q rfl ?_
  go_big_quiet_step (fail)
  refine wpQuiet_nil ?_
  refine Fresh.wpG_q rfl ?_
  go_big_quiet_step (fail)
  refine wpQuiet_nil ?_
  refine Fresh.wpG_own rfl ⟨_, w475.heap.size, Nat.le_refl _, rfl⟩ (fun X _ => ?_) ?_
  · go_simp
    have hX := X.bel.size
    exact ⟨_, _, ⟨rfl, rfl⟩, by (repeat (first | exact Below.refl _ _ | apply BelowKit.bl_alloc | apply BelowKit.bl_drewN | apply BelowKit.bl_drew | (refine BelowKit.bl_set ?_ _ ?_; rotate_left; (first | omega | (simp; omega) | simp)) | (refine BelowKit.bl_trans ?_ (‹Hid (Below _ _ _)›).out))), ⟨_, hX, rfl⟩, hX, rfl, by simp, by simp [go_sem], by simp [go_sem]⟩
  rintro v ⟨g514, hg514, rfl⟩
  go_big_quiet_step (fail)
  refine wpQuiet_nil ?_
  refine Fresh.wpG_store rfl rfl (fun X hd => ?_) ?_
  · obtain ⟨_, _, w7, ⟨_, eg, hg, hc0, hf0⟩, _, hb7⟩ := hd ⟨8, .data⟩ (by simp) rfl rfl
    have eg' : (Value.pointer (some ⟨g514, 0, none⟩)) = .pointer (some ⟨_, 0, none⟩) := eg
    cases eg'
    have q0 := ((BelowKit.bcell hb7).1 g514 0 (by omega)).trans hc0
    have r0 := ((BelowKit.bcell hb7).2 g514 0 (by omega)).trans hf0
    refine ⟨⟨X.w.setCell ⟨g514, 0, none⟩ (.slice p511 nm0 c512), BelowKit.bl_set (X.bel) (a := ⟨g514, 0, none⟩) _ hg514⟩, ?_⟩
    go_simp
    rfl
  refine Fresh.wpG_q rfl ?_
  go_big_quiet_step (fail)
  refine wpQuiet_nil ?_
  refine Fresh.wpG_nil fun X1 X sN4 tN4 hk hrun => ?_
  obtain ⟨⟨w4_, ⟨p511_ , c512_, lo4, e9, ho_r513⟩, ht4, hb4⟩, st4, _⟩ := hk.1 4 (by decide) rfl
  have e8 : (.tuple #[.agg #[.slice p511 nm0 c512], .bool m1] : Value) = .tuple #[.agg #[.slice p511_ nm0 c512_], .bool m1] := e9
  cases e8
  replace ho_r513 := RuleX.to_hi (ho_r513.on hb4) ht4
  have hXs := X1.bel.size
  obtain ⟨⟨w7, ⟨hlo7, eg, hg7, hc0, hf0⟩, ht7, hb7⟩, st7, hl7⟩ := hk.1 8 (by decide) rfl
  have eg' : (Value.pointer (some ⟨g514, 0, none⟩)) = .pointer (some ⟨sN4 8, 0, none⟩) := eg
  obtain rfl : g514 = sN4 8 := by simpa using eg'
  clear eg eg'
  have hd4 := hk.2 4 8 (by decide) (by decide) rfl rfl (by decide)
  have q0 := ((BelowKit.bcell hb7).1 (sN4 8) 0 (by omega)).trans hc0
  have r0 := ((BelowKit.bcell hb7).2 (sN4 8) 0 (by omega)).trans hf0
  have hX : X.w = X1.w.setCell ⟨sN4 8, 0, none⟩ (.slice p511 nm0 c512) := by
    simp [go_sem, q0, r0] at hrun
    exact hrun.symm
  replace ho_r513 := ho_r513.box (o := 0) (b := sN4 8) (by omega) (.slice p511 nm0 c512)
  rw [← hX] at ho_r513
  have c516 : X.w.cell? ⟨sN4 8, 0, none⟩ = some (.slice p511 nm0 c512) := by rw [hX]; simp [go_sem, q0]
  have z517 : sN4 8 < X.w.heap.size := by rw [hX]; simp; omega
  have hbX := X.bel
  obtain ⟨w515, hU⟩ : ∃ U : World, U = X.w := ⟨_, rfl⟩
  rw [← hU] at hbX ho_r513 c516 z517 ⊢
  have lo4' : w475.heap.size ≤ sN4 4 := lo4
  have hi4' : tN4 4 ≤ w515.heap.size := RuleX.lim ho_r513
  have tj : tN4 8 = sN4 8 + 1 := by rw [← ht7, hg7]
  have tj1 : tN4 8 ≤ sN4 8 + 1 := by omega
  have tj2 : sN4 8 + 1 ≤ tN4 8 := by omega
  have lo7 : w475.heap.size ≤ sN4 8 := hlo7
  clear hk hU hXs gc476 gc478 gc479 gc480 gc481 gc482 gc483 gc484 gc486 gc488 gc490 gc491 gc492 gc493 gc494 gc495 gc496 gc498 hb4 ht4 e9 lo4 hrun hX hb7 hl7 tj ht7 hg7 hlo7 hc0 hf0 q0 r0
  have sw515 : w475.heap.size ≤ w515.heap.size := hbX.size
  have c518 : w515.cell? ⟨w.heap.size, 0, none⟩ = some (.slice a0_Rules len0_Rules cap0_Rules) := ((BelowKit.bcell hbX).1 _ _ z477).trans c476
  have z519 : w.heap.size < w515.heap.size := by omega
  have c520 : w515.cell? ⟨w.heap.size + 1, 0, none⟩ = some (.int .i64 a1_Name) := ((BelowKit.bcell hbX).1 _ _ z485).trans c478
  have c521 : w515.cell? ⟨w.heap.size + 1, 1, none⟩ = some (.int .i64 a1_From) := ((BelowKit.bcell hbX).1 _ _ z485).trans c479
  have c522 : w515.cell? ⟨w.heap.size + 1, 2, none⟩ = some (.int .i64 a1_To) := ((BelowKit.bcell hbX).1 _ _ z485).trans c480
  have c523 : w515.cell? ⟨w.heap.size + 1, 3, none⟩ = some (.int .i64 a1_Joined) := ((BelowKit.bcell hbX).1 _ _ z485).trans c481
  have c524 : w515.cell? ⟨w.heap.size + 1, 4, none⟩ = some (.int .i64 a1_Rank) := ((BelowKit.bcell hbX).1 _ _ z485).trans c482
  have c525 : w515.cell? ⟨w.heap.size + 1, 5, none⟩ = some (.int .i64 a1_Mode) := ((BelowKit.bcell hbX).1 _ _ z485).trans c483
  have c526 : w515.cell? ⟨w.heap.size + 1, 6, none⟩ = some (.slice a1_Nodes len1_Nodes cap1_Nodes) := ((BelowKit.bcell hbX).1 _ _ z485).trans c484
  have z527 : w.heap.size + 1 < w515.heap.size := by omega
  have c528 : w515.cell? ⟨sN1 8, 0, none⟩ = some (.slice p79 nm0 c80) := ((BelowKit.bcell hbX).1 _ _ z487).trans c486
  have z529 : sN1 8 < w515.heap.size := by omega
  have c530 : w515.cell? ⟨w103.heap.size, 0, none⟩ = some (.slice p100 len0_Rules c101) := ((BelowKit.bcell hbX).1 _ _ z489).trans c488
  have z531 : w103.heap.size < w515.heap.size := by omega
  have c532 : w515.cell? ⟨w140.heap.size, 0, none⟩ = some (.int .i64 a1_Name) := ((BelowKit.bcell hbX).1 _ _ z497).trans c490
  have c533 : w515.cell? ⟨w140.heap.size, 1, none⟩ = some (.int .i64 a1_From) := ((BelowKit.bcell hbX).1 _ _ z497).trans c491
  have c534 : w515.cell? ⟨w140.heap.size, 2, none⟩ = some (.int .i64 a1_To) := ((BelowKit.bcell hbX).1 _ _ z497).trans c492
  have c535 : w515.cell? ⟨w140.heap.size, 3, none⟩ = some (.int .i64 a1_Joined) := ((BelowKit.bcell hbX).1 _ _ z497).trans c493
  have c536 : w515.cell? ⟨w140.heap.size, 4, none⟩ = some (.int .i64 a1_Rank) := ((BelowKit.bcell hbX).1 _ _ z497).trans c494
  have c537 : w515.cell? ⟨w140.heap.size, 5, none⟩ = some (.int .i64 a1_Mode) := ((BelowKit.bcell hbX).1 _ _ z497).trans c495
  have c538 : w515.cell? ⟨w140.heap.size, 6, none⟩ = some (.slice p137 len1_Nodes c138) := ((BelowKit.bcell hbX).1 _ _ z497).trans c496
  have z539 : w140.heap.size < w515.heap.size := by omega
  have c540 : w515.cell? ⟨w189.heap.size, 0, none⟩ = some (.slice p186 nm0 c187) := ((BelowKit.bcell hbX).1 _ _ z499).trans c498
  have z541 : w189.heap.size < w515.heap.size := by omega
  have HO542 := Lib.hid (HO500.out.on hbX)
  have HO543 := Lib.hid (HO501.out.on hbX)
  have HO544 := Lib.hid (HO502.out.on hbX)
  have HO545 := Lib.hid (HO503.out.on hbX)
  have HC546 := Lib.hid (BelowKit.bl_trans HC504.out hbX)
  clear c476 z477 c478 c479 c480 c481 c482 c483 c484 z485 c486 z487 c488 z489 c490 c491 c492 c493 c494 c495 c496 z497 c498 z499 HO500 HO501 HO502 HO503 HC504 hbX
  have HO547 := Lib.hid ho_r513
  clear ho_r513
  have pz517 := z517
  go_wp2_with fail
  refine (TBook.eq_c w515 nm0 c512 c80 p511 p79 m0 HN0.out (by omega) HFWm0.out HO547.out.reads HO542.out.reads).mono ?_
  rintro e w550 ⟨rfl, hb⟩
  have sw550 : w515.heap.size ≤ w550.heap.size := hb.size
  have c551 : w550.cell? ⟨w.heap.size, 0, none⟩ = some (.slice a0_Rules len0_Rules cap0_Rules) := ((BelowKit.bcell hb).1 _ _ z519).trans c518
  have z552 : w.heap.size < w550.heap.size := by omega
  have c553 : w550.cell? ⟨w.heap.size + 1, 0, none⟩ = some (.int .i64 a1_Name) := ((BelowKit.bcell hb).1 _ _ z527).trans c520
  have c554 : w550.cell? ⟨w.heap.size + 1, 1, none⟩ = some (.int .i64 a1_From) := ((BelowKit.bcell hb).1 _ _ z527).trans c521
  have c555 : w550.cell? ⟨w.heap.size + 1, 2, none⟩ = some (.int .i64 a1_To) := ((BelowKit.bcell hb).1 _ _ z527).trans c522
  have c556 : w550.cell? ⟨w.heap.size + 1, 3, none⟩ = some (.int .i64 a1_Joined) := ((BelowKit.bcell hb).1 _ _ z527).trans c523
  have c557 : w550.cell? ⟨w.heap.size + 1, 4, none⟩ = some (.int .i64 a1_Rank) := ((BelowKit.bcell hb).1 _ _ z527).trans c524
  have c558 : w550.cell? ⟨w.heap.size + 1, 5, none⟩ = some (.int .i64 a1_Mode) := ((BelowKit.bcell hb).1 _ _ z527).trans c525
  have c559 : w550.cell? ⟨w.heap.size + 1, 6, none⟩ = some (.slice a1_Nodes len1_Nodes cap1_Nodes) := ((BelowKit.bcell hb).1 _ _ z527).trans c526
  have z560 : w.heap.size + 1 < w550.heap.size := by omega
  have c561 : w550.cell? ⟨sN1 8, 0, none⟩ = some (.slice p79 nm0 c80) := ((BelowKit.bcell hb).1 _ _ z529).trans c528
  have z562 : sN1 8 < w550.heap.size := by omega
  have c563 : w550.cell? ⟨w103.heap.size, 0, none⟩ = some (.slice p100 len0_Rules c101) := ((BelowKit.bcell hb).1 _ _ z531).trans c530
  have z564 : w103.heap.size < w550.heap.size := by omega
  have c565 : w550.cell? ⟨w140.heap.size, 0, none⟩ = some (.int .i64 a1_Name) := ((BelowKit.bcell hb).1 _ _ z539).trans c532
  have c566 : w550.cell? ⟨w140.heap.size, 1, none⟩ = some (.int .i64 a1_From) := ((BelowKit.bcell hb).1 _ _ z539).trans c533
  have c567 : w550.cell? ⟨w140.heap.size, 2, none⟩ = some (.int .i64 a1_To) := ((BelowKit.bcell hb).1 _ _ z539).trans c534
  have c568 : w550.cell? ⟨w140.heap.size, 3, none⟩ = some (.int .i64 a1_Joined) := ((BelowKit.bcell hb).1 _ _ z539).trans c535
  have c569 : w550.cell? ⟨w140.heap.size, 4, none⟩ = some (.int .i64 a1_Rank) := ((BelowKit.bcell hb).1 _ _ z539).trans c536
  have c570 : w550.cell? ⟨w140.heap.size, 5, none⟩ = some (.int .i64 a1_Mode) := ((BelowKit.bcell hb).1 _ _ z539).trans c537
  have c571 : w550.cell? ⟨w140.heap.size, 6, none⟩ = some (.slice p137 len1_Nodes c138) := ((BelowKit.bcell hb).1 _ _ z539).trans c538
  have z572 : w140.heap.size < w550.heap.size := by omega
  have c573 : w550.cell? ⟨w189.heap.size, 0, none⟩ = some (.slice p186 nm0 c187) := ((BelowKit.bcell hb).1 _ _ z541).trans c540
  have z574 : w189.heap.size < w550.heap.size := by omega
  have c575 : w550.cell? ⟨sN4 8, 0, none⟩ = some (.slice p511 nm0 c512) := ((BelowKit.bcell hb).1 _ _ z517).trans c516
  have z576 : sN4 8 < w550.heap.size := by omega
  have HO577 := Lib.hid (HO542.out.on hb)
  have HO578 := Lib.hid (HO543.out.on hb)
  have HO579 := Lib.hid (HO544.out.on hb)
  have HO580 := Lib.hid (HO545.out.on hb)
  have HO581 := Lib.hid (HO547.out.on hb)
  have HC582 := Lib.hid (BelowKit.bl_trans HC546.out hb)
  clear c518 z519 c520 c521 c522 c523 c524 c525 c526 z527 c528 z529 c530 z531 c532 c533 c534 c535 c536 c537 c538 z539 c540 z541 c516 z517 HO542 HO543 HO544 HO545 HO547 HC546 hb
  go_wp2_with fail
  refine (TBook.held_c w550 p186 nm0 c187 m0 1 HN0.out (by omega) HFWm0.out (by omega) (by rw [HTm0.out]; omega) HO580.out.reads).mono ?_
  rintro e w583 ⟨rfl, hb⟩
  rw [HTm0.out]
  have sw583 : w550.heap.size ≤ w583.heap.size := hb.size
  have c584 : w583.cell? ⟨w.heap.size, 0, none⟩ = some (.slice a0_Rules len0_Rules cap0_Rules) := ((BelowKit.bcell hb).1 _ _ z552).trans c551
  have z585 : w.heap.size < w583.heap.size := by omega
  have c586 : w583.cell? ⟨w.heap.size + 1, 0, none⟩ = some (.int .i64 a1_Name) := ((BelowKit.bcell hb).1 _ _ z560).trans c553
  have c587 : w583.cell? ⟨w.heap.size + 1, 1, none⟩ = some (.int .i64 a1_From) := ((BelowKit.bcell hb).1 _ _ z560).trans c554
  have c588 : w583.cell? ⟨w.heap.size + 1, 2, none⟩ = some (.int .i64 a1_To) := ((BelowKit.bcell hb).1 _ _ z560).trans c555
  have c589 : w583.cell? ⟨w.heap.size + 1, 3, none⟩ = some (.int .i64 a1_Joined) := ((BelowKit.bcell hb).1 _ _ z560).trans c556
  have c590 : w583.cell? ⟨w.heap.size + 1, 4, none⟩ = some (.int .i64 a1_Rank) := ((BelowKit.bcell hb).1 _ _ z560).trans c557
  have c591 : w583.cell? ⟨w.heap.size + 1, 5, none⟩ = some (.int .i64 a1_Mode) := ((BelowKit.bcell hb).1 _ _ z560).trans c558
  have c592 : w583.cell? ⟨w.heap.size + 1, 6, none⟩ = some (.slice a1_Nodes len1_Nodes cap1_Nodes) := ((BelowKit.bcell hb).1 _ _ z560).trans c559
  have z593 : w.heap.size + 1 < w583.heap.size := by omega
  have c594 : w583.cell? ⟨sN1 8, 0, none⟩ = some (.slice p79 nm0 c80) := ((BelowKit.bcell hb).1 _ _ z562).trans c561
  have z595 : sN1 8 < w583.heap.size := by omega
  have c596 : w583.cell? ⟨w103.heap.size, 0, none⟩ = some (.slice p100 len0_Rules c101) := ((BelowKit.bcell hb).1 _ _ z564).trans c563
  have z597 : w103.heap.size < w583.heap.size := by omega
  have c598 : w583.cell? ⟨w140.heap.size, 0, none⟩ = some (.int .i64 a1_Name) := ((BelowKit.bcell hb).1 _ _ z572).trans c565
  have c599 : w583.cell? ⟨w140.heap.size, 1, none⟩ = some (.int .i64 a1_From) := ((BelowKit.bcell hb).1 _ _ z572).trans c566
  have c600 : w583.cell? ⟨w140.heap.size, 2, none⟩ = some (.int .i64 a1_To) := ((BelowKit.bcell hb).1 _ _ z572).trans c567
  have c601 : w583.cell? ⟨w140.heap.size, 3, none⟩ = some (.int .i64 a1_Joined) := ((BelowKit.bcell hb).1 _ _ z572).trans c568
  have c602 : w583.cell? ⟨w140.heap.size, 4, none⟩ = some (.int .i64 a1_Rank) := ((BelowKit.bcell hb).1 _ _ z572).trans c569
  have c603 : w583.cell? ⟨w140.heap.size, 5, none⟩ = some (.int .i64 a1_Mode) := ((BelowKit.bcell hb).1 _ _ z572).trans c570
  have c604 : w583.cell? ⟨w140.heap.size, 6, none⟩ = some (.slice p137 len1_Nodes c138) := ((BelowKit.bcell hb).1 _ _ z572).trans c571
  have z605 : w140.heap.size < w583.heap.size := by omega
  have c606 : w583.cell? ⟨w189.heap.size, 0, none⟩ = some (.slice p186 nm0 c187) := ((BelowKit.bcell hb).1 _ _ z574).trans c573
  have z607 : w189.heap.size < w583.heap.size := by omega
  have c608 : w583.cell? ⟨sN4 8, 0, none⟩ = some (.slice p511 nm0 c512) := ((BelowKit.bcell hb).1 _ _ z576).trans c575
  have z609 : sN4 8 < w583.heap.size := by omega
  have HO610 := Lib.hid (HO577.out.on hb)
  have HO611 := Lib.hid (HO578.out.on hb)
  have HO612 := Lib.hid (HO579.out.on hb)
  have HO613 := Lib.hid (HO580.out.on hb)
  have HO614 := Lib.hid (HO581.out.on hb)
  have HC615 := Lib.hid (BelowKit.bl_trans HC582.out hb)
  clear c551 z552 c553 c554 c555 c556 c557 c558 c559 z560 c561 z562 c563 z564 c565 c566 c567 c568 c569 c570 c571 z572 c573 z574 c575 z576 HO577 HO578 HO579 HO580 HO581 HC582 hb
  go_wp2
  go_ret
  exact ⟨rfl, by (repeat (first | exact Below.refl _ _ | apply BelowKit.bl_alloc | apply BelowKit.bl_drewN | apply BelowKit.bl_drew | (refine BelowKit.bl_set ?_ _ ?_; rotate_left; (first | omega | (simp; omega) | simp)) | (refine BelowKit.bl_trans ?_ (‹Hid (Below _ _ _)›).out)))⟩

/-! ### THE ROW's STEP -/
set_option maxRecDepth 100000 in
theorem lifted (os : Os) (started : os.Started) (H : Type) (enc : TypeId × Value → H) :
    ReturnsInHanded {} Try.checked os 10 .any (Rows.fnExactAddRuleSpec.pre6 enc Try.prog Try.f10 Rows.fnExactAddRuleRow.domain false) (Rows.fnExactAddRuleSpec.post enc Try.prog Try.f10 false true false false) := by
  refine returnsInHanded_of_change (C := Try.checked) own started (by kernel_rfl) Try.func10
    (ChangeSpec.witness6 (enc := enc) (C := Try.checked) false ⟨#[], #[.agg #[.slice none 0 0], .agg #[.int .i64 0, .int .i64 0, .int .i64 0, .int .i64 0, .int .i64 0, .int .i64 0, .slice none 0 0]], []⟩ 8 (by kernel_rfl) (by kernel_rfl) (by kernel_rfl) (by kernel_rfl)) ?_
  intro W base args ds gs before hval0 hW hcnd _
  have hval : ∀ (j : Nat) t v, Try.f10.params[j]? = some t → args[j]? = some v → Value.okWide Try.prog W .any base t v := hval0
  have hW' := hW
  obtain ⟨p, q, hA0, hV, rfl, hfz, hnd⟩ := hW
  have hA : DataW.TrodAll enc Try.prog W 0 (fun _ => true) true Try.f10.params.toList args.toList ds p := hA0
  rw [Try.params10] at hA hval
  obtain ⟨v0, vs0, d0, ds0, p0, q0, hargs, rfl, rfl, h0, r0⟩ := trodAll_cons hA
  obtain ⟨v1, vs1, d1, ds1, p1, q1, rfl, rfl, rfl, h1, r1⟩ := trodAll_cons r0
  obtain ⟨rfl, rfl, rfl⟩ := trodAll_nil r1
  obtain rfl : args = #[v0, v1] := by cases args; simp_all
  obtain ⟨rfl, rfl⟩ := trodVars_none hV
  have k0 := h0
  have lt0 : ∀ x ∈ p0, x.block < W.heap.size := by obtain ⟨m, hm⟩ := k0; exact DataW.trod_lt m _ _ _ hm
  obtain ⟨⟨l0⟩, rfl, _⟩ := okWide_struct Try.underlying63 (hval 0 63 v0 rfl rfl)
  have s0 : Shape.FitL W [.sl [.int .i64, .int .i64, .int .i64, .int .i64, .int .i64, .int .i64, .sl [.int .i64, .int .i64, .int .i64, .int .i64, .int .i64, .int .i64]]] l0 := by
    obtain ⟨fu, hfu⟩ := h0
    exact Shape.trod_fit 8 63 _ (by kernel_rfl) _ _ _ hfu
  obtain ⟨a0_Rules, len0_Rules, cap0_Rules, r0, rfl, s0_Rules, s0⟩ := Shape.fit_sl s0
  obtain ⟨z0_Rules, hz0_Rules, w0_Rules, hl0_Rules, g0_Rules⟩ := RuleX.rd_of s0_Rules
  obtain rfl := Shape.fit_nil s0
  have k1 := h1
  have lt1 : ∀ x ∈ p1, x.block < W.heap.size := by obtain ⟨m, hm⟩ := k1; exact DataW.trod_lt m _ _ _ hm
  obtain ⟨⟨l1⟩, rfl, _⟩ := okWide_struct Try.underlying55 (hval 1 55 v1 rfl rfl)
  have s1 : Shape.FitL W [.int .i64, .int .i64, .int .i64, .int .i64, .int .i64, .int .i64, .sl [.int .i64, .int .i64, .int .i64, .int .i64, .int .i64, .int .i64]] l1 := by
    obtain ⟨fu, hfu⟩ := h1
    exact Shape.trod_fit 8 55 _ (by kernel_rfl) _ _ _ hfu
  obtain ⟨a1_Name, r1, rfl, w1_Name, s1⟩ := Shape.fit_int s1
  obtain ⟨a1_From, r1, rfl, w1_From, s1⟩ := Shape.fit_int s1
  obtain ⟨a1_To, r1, rfl, w1_To, s1⟩ := Shape.fit_int s1
  obtain ⟨a1_Joined, r1, rfl, w1_Joined, s1⟩ := Shape.fit_int s1
  obtain ⟨a1_Rank, r1, rfl, w1_Rank, s1⟩ := Shape.fit_int s1
  obtain ⟨a1_Mode, r1, rfl, w1_Mode, s1⟩ := Shape.fit_int s1
  obtain ⟨a1_Nodes, len1_Nodes, cap1_Nodes, r1, rfl, s1_Nodes, s1⟩ := Shape.fit_sl s1
  obtain ⟨z1_Nodes, hz1_Nodes, w1_Nodes, hl1_Nodes, g1_Nodes⟩ := Shape.reads_of (f := TNode.fc) (c := 6) (good := TNode.Wf) rfl (fun _ h => TNode.cov h) s1_Nodes
  obtain rfl := Shape.fit_nil s1
  clear hA0 hval0
  refine (walk a0_Rules len0_Rules cap0_Rules z0_Rules a1_Name a1_From a1_To a1_Joined a1_Rank a1_Mode a1_Nodes len1_Nodes cap1_Nodes z1_Nodes W hz0_Rules w0_Rules hl0_Rules g0_Rules w1_Name w1_From w1_To w1_Joined w1_Rank w1_Mode hz1_Nodes w1_Nodes hl1_Nodes g1_Nodes).mono fun e W' ⟨he, bel⟩ => ?_
  subst he
  exact ⟨_, rfl, _, _, _, [], _, [], hW', trodAll_mk1 (shut_bool Try.underlying4 _), (trodAll_cons_mk (Below.trod laidOut (by kernel_rfl) (of_decide_eq_true (by kernel_rfl)) k0 bel lt0) (trodAll_cons_mk (Below.trod laidOut (by kernel_rfl) (of_decide_eq_true (by kernel_rfl)) k1 bel lt1) trodAll_mk0)), rfl, bel.frame _, fun h => by cases h⟩

theorem over : Rows.fnExactAddRuleRow.holds Try.pinned (OpenSpec.ofChange Rows.fnExactAddRuleSpec) :=
  OpenClaim.holds_of_wide 10 Try.f10 rfl rfl rfl rfl rfl rfl rfl ⟨rfl, rfl, rfl, rfl, rfl⟩ rfl rfl rfl rfl rfl (by kernel_rfl) Try.func10 (by kernel_rfl)
    (of_decide_eq_true (by kernel_rfl)) (by unfold Func.isWrapper; first | (rw [if_pos (by decide +kernel)]; kernel_rfl) | (rw [if_neg (by decide +kernel)]; exact ⟨rfl, rfl⟩))
    (fun os started H enc _ => lifted os started H enc)

theorem proved : Rows.FnExactAddRuleSaid := over
#print axioms proved
end Go.Proofs.Ytkfgflmhefbinaa.fnExactAddRule
