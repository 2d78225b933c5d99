/- Proves the given statement of the law FnExactRuleOk: for every input that the row lets in, the law's Go function returns true and every argument reads as before; no condition of mine. -/
import Derived.Test.YtkfgflmhefbinaaRuleF
import Derived.Test.YtkfgflmhefbinaaFracLaws
import Derived.Test.YtkfgflmhefbinaaKit
import Derived.Test.YtkfgflmhefbinaaTNode
import Derived.Test.YtkfgflmhefbinaaNodeMath
import Derived.Test.YtkfgflmhefbinaaRows
import Derived.WalkKit
import Derived.ProofKit
import Derived.OpenShut
import Derived.ShutString
import Derived.ChangeOld
import Derived.Below
import Derived.Deep.RegionHeld3
import Derived.Deep.DeepCutAuto
import Derived.Lib.Hide
import Derived.Lib.SmallJoins
namespace Go.Proofs.Ytkfgflmhefbinaa.fnExactRuleOk
open Go.ChangeShapes Go.WideShapes Go.ChangeAt Go.RowKit
open Go.ChangeMaps (open_string shut_string)
set_option linter.unusedVariables false

theorem own : ownKnob Try.prog.godebug = none := by kernel_rfl
theorem laidOut : laidOutB Try.prog = true := by kernel_rfl

/-! ### STEP 1: the walk -/
theorem walk (a0_Name : Int) (a0_From : Int) (a0_To : Int) (a0_Joined : Int) (a0_Rank : Int) (a0_Mode : Int) (a0_Nodes : Option Addr) (len0_Nodes cap0_Nodes : Nat) (z0_Nodes : List TNode.El) (w : World) (w0_Name : (Lit.int .i64 a0_Name).wf = true) (w0_From : (Lit.int .i64 a0_From).wf = true) (w0_To : (Lit.int .i64 a0_To).wf = true) (w0_Joined : (Lit.int .i64 a0_Joined).wf = true) (w0_Rank : (Lit.int .i64 a0_Rank).wf = true) (w0_Mode : (Lit.int .i64 a0_Mode).wf = true) (hz0_Nodes : z0_Nodes.length = len0_Nodes) (w0_Nodes : RowN.Reads TNode.fc 6 w a0_Nodes z0_Nodes) (hl0_Nodes : len0_Nodes ≤ 9223372036854775807) (g0_Nodes : ∀ x ∈ z0_Nodes, TNode.Wf x) :
    Calls Try.prog 8 #[.agg #[.int .i64 a0_Name, .int .i64 a0_From, .int .i64 a0_To, .int .i64 a0_Joined, .int .i64 a0_Rank, .int .i64 a0_Mode, .slice a0_Nodes len0_Nodes cap0_Nodes]] w fun e w' => e = .returned (.bool true) ∧ Below w.heap.size w w' := by
  have HR0_Nodes := Lib.hid w0_Nodes
  have HM0_Nodes := Lib.hid hz0_Nodes
  clear w0_Nodes hz0_Nodes
  by_cases hbig : 1048576 < len0_Nodes
  · go_enter Try.func8, Try.ntmps8
    go_wp2_with fail
    obtain ⟨W1, hW1⟩ : ∃ V : World, V = w.alloc (.cells #[.int .i64 a0_Name, .int .i64 a0_From, .int .i64 a0_To, .int .i64 a0_Joined, .int .i64 a0_Rank, .int .i64 a0_Mode, .slice a0_Nodes len0_Nodes cap0_Nodes] 55) := ⟨_, rfl⟩
    rw [← hW1]
    have hb : Below w.heap.size w W1 := by rw [hW1]; (repeat (first | exact Below.refl _ _ | apply BelowKit.bl_alloc | apply BelowKit.bl_drewN | apply BelowKit.bl_drew | (refine BelowKit.bl_set ?_ _ ?_; rotate_left; (first | omega | (simp; omega) | simp)) | (refine BelowKit.bl_trans ?_ (‹Hid (Below _ _ _)›).out)))
    have tW1 : w.heap.size + 1 ≤ W1.heap.size := by rw [hW1]; simp
    have uW1 : W1.heap.size ≤ w.heap.size + 1 := by rw [hW1]; simp
    have c2 : W1.cell? ⟨w.heap.size, 0, none⟩ = some (.int .i64 a0_Name) := by rw [hW1]; simp [go_sem]
    have c3 : W1.cell? ⟨w.heap.size, 1, none⟩ = some (.int .i64 a0_From) := by rw [hW1]; simp [go_sem]
    have c4 : W1.cell? ⟨w.heap.size, 2, none⟩ = some (.int .i64 a0_To) := by rw [hW1]; simp [go_sem]
    have c5 : W1.cell? ⟨w.heap.size, 3, none⟩ = some (.int .i64 a0_Joined) := by rw [hW1]; simp [go_sem]
    have c6 : W1.cell? ⟨w.heap.size, 4, none⟩ = some (.int .i64 a0_Rank) := by rw [hW1]; simp [go_sem]
    have c7 : W1.cell? ⟨w.heap.size, 5, none⟩ = some (.int .i64 a0_Mode) := by rw [hW1]; simp [go_sem]
    have c8 : W1.cell? ⟨w.heap.size, 6, none⟩ = some (.slice a0_Nodes len0_Nodes cap0_Nodes) := by rw [hW1]; simp [go_sem]
    have z9 : w.heap.size < W1.heap.size := by omega
    clear hW1
    have sW1 : w.heap.size ≤ W1.heap.size := hb.size
    have HC10 := Lib.hid hb
    clear hb
    refine (RuleX.sz_l W1 a0_Name a0_From a0_To a0_Joined a0_Rank a0_Mode a0_Nodes len0_Nodes cap0_Nodes z0_Nodes 1048576 HM0_Nodes.out hl0_Nodes (by omega) (by omega)).mono ?_
    rintro e w9 ⟨rfl, hb⟩
    rw [if_pos (by omega)]
    have HC9 := Lib.hid (BelowKit.bl_trans HC10.out hb)
    clear hb
    go_wp2
    go_ret
    exact ⟨rfl, HC9.out⟩
  have hs0_Nodes : len0_Nodes ≤ 1048576 := by omega
  obtain ⟨m0, hm0⟩ : ∃ v, BookMath.ruleB ⟨a0_Name, a0_From, a0_To, a0_Joined, a0_Rank, a0_Mode, z0_Nodes⟩ = v := ⟨_, rfl⟩
  have HF0 := Lib.hid hm0
  clear hm0
  go_enter Try.func8, Try.ntmps8
  go_wp2_with fail
  obtain ⟨W11, hW11⟩ : ∃ V : World, V = w.alloc (.cells #[.int .i64 a0_Name, .int .i64 a0_From, .int .i64 a0_To, .int .i64 a0_Joined, .int .i64 a0_Rank, .int .i64 a0_Mode, .slice a0_Nodes len0_Nodes cap0_Nodes] 55) := ⟨_, rfl⟩
  rw [← hW11]
  have hb : Below w.heap.size w W11 := by rw [hW11]; (repeat (first | exact Below.refl _ _ | apply BelowKit.bl_alloc | apply BelowKit.bl_drewN | apply BelowKit.bl_drew | (refine BelowKit.bl_set ?_ _ ?_; rotate_left; (first | omega | (simp; omega) | simp)) | (refine BelowKit.bl_trans ?_ (‹Hid (Below _ _ _)›).out)))
  have tW11 : w.heap.size + 1 ≤ W11.heap.size := by rw [hW11]; simp
  have uW11 : W11.heap.size ≤ w.heap.size + 1 := by rw [hW11]; simp
  have c12 : W11.cell? ⟨w.heap.size, 0, none⟩ = some (.int .i64 a0_Name) := by rw [hW11]; simp [go_sem]
  have c13 : W11.cell? ⟨w.heap.size, 1, none⟩ = some (.int .i64 a0_From) := by rw [hW11]; simp [go_sem]
  have c14 : W11.cell? ⟨w.heap.size, 2, none⟩ = some (.int .i64 a0_To) := by rw [hW11]; simp [go_sem]
  have c15 : W11.cell? ⟨w.heap.size, 3, none⟩ = some (.int .i64 a0_Joined) := by rw [hW11]; simp [go_sem]
  have c16 : W11.cell? ⟨w.heap.size, 4, none⟩ = some (.int .i64 a0_Rank) := by rw [hW11]; simp [go_sem]
  have c17 : W11.cell? ⟨w.heap.size, 5, none⟩ = some (.int .i64 a0_Mode) := by rw [hW11]; simp [go_sem]
  have c18 : W11.cell? ⟨w.heap.size, 6, none⟩ = some (.slice a0_Nodes len0_Nodes cap0_Nodes) := by rw [hW11]; simp [go_sem]
  have z19 : w.heap.size < W11.heap.size := by omega
  clear hW11
  have sW11 : w.heap.size ≤ W11.heap.size := hb.size
  have HC20 := Lib.hid hb
  clear hb
  refine (RuleX.sz_l W11 a0_Name a0_From a0_To a0_Joined a0_Rank a0_Mode a0_Nodes len0_Nodes cap0_Nodes z0_Nodes 1048576 HM0_Nodes.out hl0_Nodes (by omega) (by omega)).mono ?_
  rintro e w21 ⟨rfl, hb⟩
  rw [if_neg (by omega)]
  have sw21 : W11.heap.size ≤ w21.heap.size := hb.size
  have c22 : w21.cell? ⟨w.heap.size, 0, none⟩ = some (.int .i64 a0_Name) := ((BelowKit.bcell hb).1 _ _ z19).trans c12
  have c23 : w21.cell? ⟨w.heap.size, 1, none⟩ = some (.int .i64 a0_From) := ((BelowKit.bcell hb).1 _ _ z19).trans c13
  have c24 : w21.cell? ⟨w.heap.size, 2, none⟩ = some (.int .i64 a0_To) := ((BelowKit.bcell hb).1 _ _ z19).trans c14
  have c25 : w21.cell? ⟨w.heap.size, 3, none⟩ = some (.int .i64 a0_Joined) := ((BelowKit.bcell hb).1 _ _ z19).trans c15
  have c26 : w21.cell? ⟨w.heap.size, 4, none⟩ = some (.int .i64 a0_Rank) := ((BelowKit.bcell hb).1 _ _ z19).trans c16
  have c27 : w21.cell? ⟨w.heap.size, 5, none⟩ = some (.int .i64 a0_Mode) := ((BelowKit.bcell hb).1 _ _ z19).trans c17
  have c28 : w21.cell? ⟨w.heap.size, 6, none⟩ = some (.slice a0_Nodes len0_Nodes cap0_Nodes) := ((BelowKit.bcell hb).1 _ _ z19).trans c18
  have z29 : w.heap.size < w21.heap.size := by omega
  have HC30 := Lib.hid (BelowKit.bl_trans HC20.out hb)
  clear c12 c13 c14 c15 c16 c17 c18 z19 HC20 hb
  go_wp2_with fail
  refine (RuleX.to_l w21 a0_Name a0_From a0_To a0_Joined a0_Rank a0_Mode a0_Nodes len0_Nodes cap0_Nodes z0_Nodes HM0_Nodes.out (by omega) (HR0_Nodes.out.on HC30.out)).mono ?_
  rintro e w34 ⟨p31, c32, rfl, ho0, hb⟩
  rw [HM0_Nodes.out] at ho0 ⊢
  have sw34 : w21.heap.size ≤ w34.heap.size := hb.size
  have c35 : w34.cell? ⟨w.heap.size, 0, none⟩ = some (.int .i64 a0_Name) := ((BelowKit.bcell hb).1 _ _ z29).trans c22
  have c36 : w34.cell? ⟨w.heap.size, 1, none⟩ = some (.int .i64 a0_From) := ((BelowKit.bcell hb).1 _ _ z29).trans c23
  have c37 : w34.cell? ⟨w.heap.size, 2, none⟩ = some (.int .i64 a0_To) := ((BelowKit.bcell hb).1 _ _ z29).trans c24
  have c38 : w34.cell? ⟨w.heap.size, 3, none⟩ = some (.int .i64 a0_Joined) := ((BelowKit.bcell hb).1 _ _ z29).trans c25
  have c39 : w34.cell? ⟨w.heap.size, 4, none⟩ = some (.int .i64 a0_Rank) := ((BelowKit.bcell hb).1 _ _ z29).trans c26
  have c40 : w34.cell? ⟨w.heap.size, 5, none⟩ = some (.int .i64 a0_Mode) := ((BelowKit.bcell hb).1 _ _ z29).trans c27
  have c41 : w34.cell? ⟨w.heap.size, 6, none⟩ = some (.slice a0_Nodes len0_Nodes cap0_Nodes) := ((BelowKit.bcell hb).1 _ _ z29).trans c28
  have z42 : w.heap.size < w34.heap.size := by omega
  have HC43 := Lib.hid (BelowKit.bl_trans HC30.out hb)
  clear c22 c23 c24 c25 c26 c27 c28 z29 HC30 hb
  have HO44 := Lib.hid (Own.ow_of ho0)
  clear ho0
  go_wp2_with fail
  refine (RuleF.rule_s w34 a0_Name a0_From a0_To a0_Joined a0_Rank a0_Mode p31 len0_Nodes c32 z0_Nodes HM0_Nodes.out (by omega) (HO44.out.reads TNode.fw)).mono ?_
  rintro e w45 ⟨rfl, hb⟩
  rw [HF0.out]
  have sw45 : w34.heap.size ≤ w45.heap.size := hb.size
  have c46 : w45.cell? ⟨w.heap.size, 0, none⟩ = some (.int .i64 a0_Name) := ((BelowKit.bcell hb).1 _ _ z42).trans c35
  have c47 : w45.cell? ⟨w.heap.size, 1, none⟩ = some (.int .i64 a0_From) := ((BelowKit.bcell hb).1 _ _ z42).trans c36
  have c48 : w45.cell? ⟨w.heap.size, 2, none⟩ = some (.int .i64 a0_To) := ((BelowKit.bcell hb).1 _ _ z42).trans c37
  have c49 : w45.cell? ⟨w.heap.size, 3, none⟩ = some (.int .i64 a0_Joined) := ((BelowKit.bcell hb).1 _ _ z42).trans c38
  have c50 : w45.cell? ⟨w.heap.size, 4, none⟩ = some (.int .i64 a0_Rank) := ((BelowKit.bcell hb).1 _ _ z42).trans c39
  have c51 : w45.cell? ⟨w.heap.size, 5, none⟩ = some (.int .i64 a0_Mode) := ((BelowKit.bcell hb).1 _ _ z42).trans c40
  have c52 : w45.cell? ⟨w.heap.size, 6, none⟩ = some (.slice a0_Nodes len0_Nodes cap0_Nodes) := ((BelowKit.bcell hb).1 _ _ z42).trans c41
  have z53 : w.heap.size < w45.heap.size := by omega
  have HO54 := Lib.hid (HO44.out.on hb)
  have HC55 := Lib.hid (BelowKit.bl_trans HC43.out hb)
  clear c35 c36 c37 c38 c39 c40 c41 z42 HO44 HC43 hb
  go_wp2_with fail
  refine (RuleX.to_l w45 a0_Name a0_From a0_To a0_Joined a0_Rank a0_Mode a0_Nodes len0_Nodes cap0_Nodes z0_Nodes HM0_Nodes.out (by omega) (HR0_Nodes.out.on HC55.out)).mono ?_
  rintro e w59 ⟨p56, c57, rfl, ho0, hb⟩
  rw [HM0_Nodes.out] at ho0 ⊢
  have sw59 : w45.heap.size ≤ w59.heap.size := hb.size
  have c60 : w59.cell? ⟨w.heap.size, 0, none⟩ = some (.int .i64 a0_Name) := ((BelowKit.bcell hb).1 _ _ z53).trans c46
  have c61 : w59.cell? ⟨w.heap.size, 1, none⟩ = some (.int .i64 a0_From) := ((BelowKit.bcell hb).1 _ _ z53).trans c47
  have c62 : w59.cell? ⟨w.heap.size, 2, none⟩ = some (.int .i64 a0_To) := ((BelowKit.bcell hb).1 _ _ z53).trans c48
  have c63 : w59.cell? ⟨w.heap.size, 3, none⟩ = some (.int .i64 a0_Joined) := ((BelowKit.bcell hb).1 _ _ z53).trans c49
  have c64 : w59.cell? ⟨w.heap.size, 4, none⟩ = some (.int .i64 a0_Rank) := ((BelowKit.bcell hb).1 _ _ z53).trans c50
  have c65 : w59.cell? ⟨w.heap.size, 5, none⟩ = some (.int .i64 a0_Mode) := ((BelowKit.bcell hb).1 _ _ z53).trans c51
  have c66 : w59.cell? ⟨w.heap.size, 6, none⟩ = some (.slice a0_Nodes len0_Nodes cap0_Nodes) := ((BelowKit.bcell hb).1 _ _ z53).trans c52
  have z67 : w.heap.size < w59.heap.size := by omega
  have HO68 := Lib.hid (HO54.out.on hb)
  have HC69 := Lib.hid (BelowKit.bl_trans HC55.out hb)
  clear c46 c47 c48 c49 c50 c51 c52 z53 HO54 HC55 hb
  have HO70 := Lib.hid (Own.ow_of ho0)
  clear ho0
  go_wp2_with fail
  obtain ⟨W71, hW71⟩ : ∃ V : World, V = w59.alloc (.cells #[.int .i64 a0_Name, .int .i64 a0_From, .int .i64 a0_To, .int .i64 a0_Joined, .int .i64 a0_Rank, .int .i64 a0_Mode, .slice p56 len0_Nodes c57] 34) := ⟨_, rfl⟩
  rw [← hW71]
  have hb : Below w59.heap.size w59 W71 := by rw [hW71]; (repeat (first | exact Below.refl _ _ | apply BelowKit.bl_alloc | apply BelowKit.bl_drewN | apply BelowKit.bl_drew | (refine BelowKit.bl_set ?_ _ ?_; rotate_left; (first | omega | (simp; omega) | simp)) | (refine BelowKit.bl_trans ?_ (‹Hid (Below _ _ _)›).out)))
  have tW71 : w59.heap.size + 1 ≤ W71.heap.size := by rw [hW71]; simp
  have uW71 : W71.heap.size ≤ w59.heap.size + 1 := by rw [hW71]; simp
  have c72 : W71.cell? ⟨w59.heap.size, 0, none⟩ = some (.int .i64 a0_Name) := by rw [hW71]; simp [go_sem]
  have c73 : W71.cell? ⟨w59.heap.size, 1, none⟩ = some (.int .i64 a0_From) := by rw [hW71]; simp [go_sem]
  have c74 : W71.cell? ⟨w59.heap.size, 2, none⟩ = some (.int .i64 a0_To) := by rw [hW71]; simp [go_sem]
  have c75 : W71.cell? ⟨w59.heap.size, 3, none⟩ = some (.int .i64 a0_Joined) := by rw [hW71]; simp [go_sem]
  have c76 : W71.cell? ⟨w59.heap.size, 4, none⟩ = some (.int .i64 a0_Rank) := by rw [hW71]; simp [go_sem]
  have c77 : W71.cell? ⟨w59.heap.size, 5, none⟩ = some (.int .i64 a0_Mode) := by rw [hW71]; simp [go_sem]
  have c78 : W71.cell? ⟨w59.heap.size, 6, none⟩ = some (.slice p56 len0_Nodes c57) := by rw [hW71]; simp [go_sem]
  have z79 : w59.heap.size < W71.heap.size := by omega
  clear hW71
  have sW71 : w59.heap.size ≤ W71.heap.size := hb.size
  have c80 : W71.cell? ⟨w.heap.size, 0, none⟩ = some (.int .i64 a0_Name) := ((BelowKit.bcell hb).1 _ _ z67).trans c60
  have c81 : W71.cell? ⟨w.heap.size, 1, none⟩ = some (.int .i64 a0_From) := ((BelowKit.bcell hb).1 _ _ z67).trans c61
  have c82 : W71.cell? ⟨w.heap.size, 2, none⟩ = some (.int .i64 a0_To) := ((BelowKit.bcell hb).1 _ _ z67).trans c62
  have c83 : W71.cell? ⟨w.heap.size, 3, none⟩ = some (.int .i64 a0_Joined) := ((BelowKit.bcell hb).1 _ _ z67).trans c63
  have c84 : W71.cell? ⟨w.heap.size, 4, none⟩ = some (.int .i64 a0_Rank) := ((BelowKit.bcell hb).1 _ _ z67).trans c64
  have c85 : W71.cell? ⟨w.heap.size, 5, none⟩ = some (.int .i64 a0_Mode) := ((BelowKit.bcell hb).1 _ _ z67).trans c65
  have c86 : W71.cell? ⟨w.heap.size, 6, none⟩ = some (.slice a0_Nodes len0_Nodes cap0_Nodes) := ((BelowKit.bcell hb).1 _ _ z67).trans c66
  have z87 : w.heap.size < W71.heap.size := by omega
  have HO88 := Lib.hid (HO68.out.on hb)
  have HO89 := Lib.hid (HO70.out.on hb)
  have HC90 := Lib.hid (BelowKit.bl_trans HC69.out hb)
  clear c60 c61 c62 c63 c64 c65 c66 z67 HO68 HO70 HC69 hb
  refine (RuleF.rule_i W71 a0_Name a0_From a0_To a0_Joined a0_Rank a0_Mode p56 len0_Nodes c57 z0_Nodes HM0_Nodes.out (by omega) (HO89.out.reads TNode.fw)).mono ?_
  rintro e w91 ⟨rfl, hb⟩
  rw [HF0.out]
  have sw91 : W71.heap.size ≤ w91.heap.size := hb.size
  have c92 : w91.cell? ⟨w.heap.size, 0, none⟩ = some (.int .i64 a0_Name) := ((BelowKit.bcell hb).1 _ _ z87).trans c80
  have c93 : w91.cell? ⟨w.heap.size, 1, none⟩ = some (.int .i64 a0_From) := ((BelowKit.bcell hb).1 _ _ z87).trans c81
  have c94 : w91.cell? ⟨w.heap.size, 2, none⟩ = some (.int .i64 a0_To) := ((BelowKit.bcell hb).1 _ _ z87).trans c82
  have c95 : w91.cell? ⟨w.heap.size, 3, none⟩ = some (.int .i64 a0_Joined) := ((BelowKit.bcell hb).1 _ _ z87).trans c83
  have c96 : w91.cell? ⟨w.heap.size, 4, none⟩ = some (.int .i64 a0_Rank) := ((BelowKit.bcell hb).1 _ _ z87).trans c84
  have c97 : w91.cell? ⟨w.heap.size, 5, none⟩ = some (.int .i64 a0_Mode) := ((BelowKit.bcell hb).1 _ _ z87).trans c85
  have c98 : w91.cell? ⟨w.heap.size, 6, none⟩ = some (.slice a0_Nodes len0_Nodes cap0_Nodes) := ((BelowKit.bcell hb).1 _ _ z87).trans c86
  have z99 : w.heap.size < w91.heap.size := by omega
  have c100 : w91.cell? ⟨w59.heap.size, 0, none⟩ = some (.int .i64 a0_Name) := ((BelowKit.bcell hb).1 _ _ z79).trans c72
  have c101 : w91.cell? ⟨w59.heap.size, 1, none⟩ = some (.int .i64 a0_From) := ((BelowKit.bcell hb).1 _ _ z79).trans c73
  have c102 : w91.cell? ⟨w59.heap.size, 2, none⟩ = some (.int .i64 a0_To) := ((BelowKit.bcell hb).1 _ _ z79).trans c74
  have c103 : w91.cell? ⟨w59.heap.size, 3, none⟩ = some (.int .i64 a0_Joined) := ((BelowKit.bcell hb).1 _ _ z79).trans c75
  have c104 : w91.cell? ⟨w59.heap.size, 4, none⟩ = some (.int .i64 a0_Rank) := ((BelowKit.bcell hb).1 _ _ z79).trans c76
  have c105 : w91.cell? ⟨w59.heap.size, 5, none⟩ = some (.int .i64 a0_Mode) := ((BelowKit.bcell hb).1 _ _ z79).trans c77
  have c106 : w91.cell? ⟨w59.heap.size, 6, none⟩ = some (.slice p56 len0_Nodes c57) := ((BelowKit.bcell hb).1 _ _ z79).trans c78
  have z107 : w59.heap.size < w91.heap.size := by omega
  have HO108 := Lib.hid (HO88.out.on hb)
  have HO109 := Lib.hid (HO89.out.on hb)
  have HC110 := Lib.hid (BelowKit.bl_trans HC90.out hb)
  clear c80 c81 c82 c83 c84 c85 c86 z87 c72 c73 c74 c75 c76 c77 c78 z79 HO88 HO89 HC90 hb
  go_wp2_with fail
  have gc92 := Grown.G.keep c92 z99
  have gc93 := Grown.G.keep c93 z99
  have gc94 := Grown.G.keep c94 z99
  have gc95 := Grown.G.keep c95 z99
  have gc96 := Grown.G.keep c96 z99
  have gc97 := Grown.G.keep c97 z99
  have gc98 := Grown.G.keep c98 z99
  have gc100 := Grown.G.keep c100 z107
  have gc101 := Grown.G.keep c101 z107
  have gc102 := Grown.G.keep c102 z107
  have gc103 := Grown.G.keep c103 z107
  have gc104 := Grown.G.keep c104 z107
  have gc105 := Grown.G.keep c105 z107
  have gc106 := Grown.G.keep c106 z107
  refine Fresh.wp_region_grow (fun k => match k with | 2 => .grow | 3 => .grow | _ => .quiet)
    (fun k v => match k with
          | 2 => (∃ p111 c112, v = .agg #[.int .i64 a0_Name, .int .i64 a0_From, .int .i64 a0_To, .int .i64 a0_Joined, .int .i64 a0_Rank, .int .i64 a0_Mode, .slice p111 len0_Nodes c112])
          | 3 => (v = .bool true)
          | _ => v = undef)
    (fun k v s w1 => match k with
          | 2 => (∃ p111 c112, w91.heap.size ≤ s ∧ v = .agg #[.int .i64 a0_Name, .int .i64 a0_From, .int .i64 a0_To, .int .i64 a0_Joined, .int .i64 a0_Rank, .int .i64 a0_Mode, .slice p111 len0_Nodes c112] ∧ Own.Ow TNode.fc 6 50 w1 s w1.heap.size (.slice p111 len0_Nodes c112) z0_Nodes)
          | 3 => (w91.heap.size ≤ s ∧ v = .bool true)
          | _ => True)
    (by kernel_rfl) (by kernel_rfl) (by kernel_rfl) (by kernel_rfl) ?_
  refine Fresh.wpG_q rfl ?_
  go_big_quiet_step (fail)
  refine wpQuiet_nil ?_
  refine Fresh.wpG_q rfl ?_
  go_big_quiet_step (fail)
  refine wpQuiet_nil ?_
  refine Fresh.wpG_call #[.agg #[.int .i64 a0_Name, .int .i64 a0_From, .int .i64 a0_To, .int .i64 a0_Joined, .int .i64 a0_Rank, .int .i64 a0_Mode, .slice a0_Nodes len0_Nodes cap0_Nodes]] rfl Try.func30 (by kernel_rfl) (by kernel_rfl) rfl ⟨_, none, 0, rfl⟩ (fun X hd => ?_) ?_
  · have hX := X.bel.size
    refine (RuleX.to_l X.w a0_Name a0_From a0_To a0_Joined a0_Rank a0_Mode a0_Nodes len0_Nodes cap0_Nodes z0_Nodes HM0_Nodes.out (by omega) (HR0_Nodes.out.on (BelowKit.bl_trans HC110.out X.bel))).mono ?_
    rintro e w8 ⟨p111, c112, rfl, ho0, hb⟩
    try rw [HM0_Nodes.out] at ho0
    try rw [HM0_Nodes.out]
    exact ⟨_, rfl, hb, ⟨p111, c112, rfl⟩, p111, c112, by omega, rfl, Own.ow_of ho0⟩
  rintro v ⟨p111, c112, rfl⟩
  go_big_quiet_step (fail)
  refine wpQuiet_nil ?_
  refine Fresh.wpG_call #[.agg #[.int .i64 a0_Name, .int .i64 a0_From, .int .i64 a0_To, .int .i64 a0_Joined, .int .i64 a0_Rank, .int .i64 a0_Mode, .slice p56 len0_Nodes c57], .agg #[.int .i64 a0_Name, .int .i64 a0_From, .int .i64 a0_To, .int .i64 a0_Joined, .int .i64 a0_Rank, .int .i64 a0_Mode, .slice p111 len0_Nodes c112]] rfl Try.func32 (by kernel_rfl) (by kernel_rfl) rfl ⟨_, rfl⟩ (fun X hd => ?_) ?_
  · obtain ⟨_, _, w9, ⟨p111_ , c112_, _, e9, ho_r113⟩, _, hb9⟩ := hd ⟨2, .data⟩ (by simp) rfl rfl
    have e8 : (.agg #[.int .i64 a0_Name, .int .i64 a0_From, .int .i64 a0_To, .int .i64 a0_Joined, .int .i64 a0_Rank, .int .i64 a0_Mode, .slice p111 len0_Nodes c112] : Value) = .agg #[.int .i64 a0_Name, .int .i64 a0_From, .int .i64 a0_To, .int .i64 a0_Joined, .int .i64 a0_Rank, .int .i64 a0_Mode, .slice p111_ len0_Nodes c112_] := e9
    cases e8
    replace ho_r113 := ho_r113.on hb9
    have hX := X.bel.size
    refine (RuleX.eq_l X.w a0_Name a0_From a0_To a0_Joined a0_Rank a0_Mode len0_Nodes c57 c112 p56 p111 z0_Nodes HM0_Nodes.out (by omega) ((HO109.out.on X.bel).reads TNode.fw) (ho_r113.reads TNode.fw)).mono ?_
    rintro e w8 ⟨rfl, hb⟩
    exact ⟨_, rfl, hb, rfl, by omega, rfl⟩
  rintro v rfl
  go_big_quiet_step (fail)
  refine wpQuiet_nil ?_
  refine Fresh.wpG_q rfl ?_
  go_big_quiet_step (fail)
  refine wpQuiet_nil ?_
  refine Fresh.wpG_nil fun X sN1 tN1 hk => ?_
  have hXs := X.bel.size
  have hbX := X.bel
  obtain ⟨w114, hU⟩ : ∃ U : World, U = X.w := ⟨_, rfl⟩
  rw [← hU] at hbX  ⊢
  clear hk hU hXs gc92 gc93 gc94 gc95 gc96 gc97 gc98 gc100 gc101 gc102 gc103 gc104 gc105 gc106
  have sw114 : w91.heap.size ≤ w114.heap.size := hbX.size
  have c115 : w114.cell? ⟨w.heap.size, 0, none⟩ = some (.int .i64 a0_Name) := ((BelowKit.bcell hbX).1 _ _ z99).trans c92
  have c116 : w114.cell? ⟨w.heap.size, 1, none⟩ = some (.int .i64 a0_From) := ((BelowKit.bcell hbX).1 _ _ z99).trans c93
  have c117 : w114.cell? ⟨w.heap.size, 2, none⟩ = some (.int .i64 a0_To) := ((BelowKit.bcell hbX).1 _ _ z99).trans c94
  have c118 : w114.cell? ⟨w.heap.size, 3, none⟩ = some (.int .i64 a0_Joined) := ((BelowKit.bcell hbX).1 _ _ z99).trans c95
  have c119 : w114.cell? ⟨w.heap.size, 4, none⟩ = some (.int .i64 a0_Rank) := ((BelowKit.bcell hbX).1 _ _ z99).trans c96
  have c120 : w114.cell? ⟨w.heap.size, 5, none⟩ = some (.int .i64 a0_Mode) := ((BelowKit.bcell hbX).1 _ _ z99).trans c97
  have c121 : w114.cell? ⟨w.heap.size, 6, none⟩ = some (.slice a0_Nodes len0_Nodes cap0_Nodes) := ((BelowKit.bcell hbX).1 _ _ z99).trans c98
  have z122 : w.heap.size < w114.heap.size := by omega
  have c123 : w114.cell? ⟨w59.heap.size, 0, none⟩ = some (.int .i64 a0_Name) := ((BelowKit.bcell hbX).1 _ _ z107).trans c100
  have c124 : w114.cell? ⟨w59.heap.size, 1, none⟩ = some (.int .i64 a0_From) := ((BelowKit.bcell hbX).1 _ _ z107).trans c101
  have c125 : w114.cell? ⟨w59.heap.size, 2, none⟩ = some (.int .i64 a0_To) := ((BelowKit.bcell hbX).1 _ _ z107).trans c102
  have c126 : w114.cell? ⟨w59.heap.size, 3, none⟩ = some (.int .i64 a0_Joined) := ((BelowKit.bcell hbX).1 _ _ z107).trans c103
  have c127 : w114.cell? ⟨w59.heap.size, 4, none⟩ = some (.int .i64 a0_Rank) := ((BelowKit.bcell hbX).1 _ _ z107).trans c104
  have c128 : w114.cell? ⟨w59.heap.size, 5, none⟩ = some (.int .i64 a0_Mode) := ((BelowKit.bcell hbX).1 _ _ z107).trans c105
  have c129 : w114.cell? ⟨w59.heap.size, 6, none⟩ = some (.slice p56 len0_Nodes c57) := ((BelowKit.bcell hbX).1 _ _ z107).trans c106
  have z130 : w59.heap.size < w114.heap.size := by omega
  have HO131 := Lib.hid (HO108.out.on hbX)
  have HO132 := Lib.hid (HO109.out.on hbX)
  have HC133 := Lib.hid (BelowKit.bl_trans HC110.out hbX)
  clear c92 c93 c94 c95 c96 c97 c98 z99 c100 c101 c102 c103 c104 c105 c106 z107 HO108 HO109 HC110 hbX
  go_wp2
  go_ret
  exact ⟨rfl, by (repeat (first | exact Below.refl _ _ | apply BelowKit.bl_alloc | apply BelowKit.bl_drewN | apply BelowKit.bl_drew | (refine BelowKit.bl_set ?_ _ ?_; rotate_left; (first | omega | (simp; omega) | simp)) | (refine BelowKit.bl_trans ?_ (‹Hid (Below _ _ _)›).out)))⟩

/-! ### THE ROW's STEP -/
set_option maxRecDepth 100000 in
theorem lifted (os : Os) (started : os.Started) (H : Type) (enc : TypeId × Value → H) :
    ReturnsInHanded {} Try.checked os 8 .any (Rows.fnExactRuleOkSpec.pre6 enc Try.prog Try.f8 Rows.fnExactRuleOkRow.domain false) (Rows.fnExactRuleOkSpec.post enc Try.prog Try.f8 false true false false) := by
  refine returnsInHanded_of_change (C := Try.checked) own started (by kernel_rfl) Try.func8
    (ChangeSpec.witness6 (enc := enc) (C := Try.checked) false ⟨#[], #[.agg #[.int .i64 0, .int .i64 0, .int .i64 0, .int .i64 0, .int .i64 0, .int .i64 0, .slice none 0 0]], []⟩ 8 (by kernel_rfl) (by kernel_rfl) (by kernel_rfl) (by kernel_rfl)) ?_
  intro W base args ds gs before hval0 hW hcnd _
  have hval : ∀ (j : Nat) t v, Try.f8.params[j]? = some t → args[j]? = some v → Value.okWide Try.prog W .any base t v := hval0
  have hW' := hW
  obtain ⟨p, q, hA0, hV, rfl, hfz, hnd⟩ := hW
  have hA : DataW.TrodAll enc Try.prog W 0 (fun _ => true) true Try.f8.params.toList args.toList ds p := hA0
  rw [Try.params8] at hA hval
  obtain ⟨v0, vs0, d0, ds0, p0, q0, hargs, rfl, rfl, h0, r0⟩ := trodAll_cons hA
  obtain ⟨rfl, rfl, rfl⟩ := trodAll_nil r0
  obtain rfl : args = #[v0] := by cases args; simp_all
  obtain ⟨rfl, rfl⟩ := trodVars_none hV
  have k0 := h0
  have lt0 : ∀ x ∈ p0, x.block < W.heap.size := by obtain ⟨m, hm⟩ := k0; exact DataW.trod_lt m _ _ _ hm
  obtain ⟨⟨l0⟩, rfl, _⟩ := okWide_struct Try.underlying55 (hval 0 55 v0 rfl rfl)
  have s0 : Shape.FitL W [.int .i64, .int .i64, .int .i64, .int .i64, .int .i64, .int .i64, .sl [.int .i64, .int .i64, .int .i64, .int .i64, .int .i64, .int .i64]] l0 := by
    obtain ⟨fu, hfu⟩ := h0
    exact Shape.trod_fit 8 55 _ (by kernel_rfl) _ _ _ hfu
  obtain ⟨a0_Name, r0, rfl, w0_Name, s0⟩ := Shape.fit_int s0
  obtain ⟨a0_From, r0, rfl, w0_From, s0⟩ := Shape.fit_int s0
  obtain ⟨a0_To, r0, rfl, w0_To, s0⟩ := Shape.fit_int s0
  obtain ⟨a0_Joined, r0, rfl, w0_Joined, s0⟩ := Shape.fit_int s0
  obtain ⟨a0_Rank, r0, rfl, w0_Rank, s0⟩ := Shape.fit_int s0
  obtain ⟨a0_Mode, r0, rfl, w0_Mode, s0⟩ := Shape.fit_int s0
  obtain ⟨a0_Nodes, len0_Nodes, cap0_Nodes, r0, rfl, s0_Nodes, s0⟩ := Shape.fit_sl s0
  obtain ⟨z0_Nodes, hz0_Nodes, w0_Nodes, hl0_Nodes, g0_Nodes⟩ := Shape.reads_of (f := TNode.fc) (c := 6) (good := TNode.Wf) rfl (fun _ h => TNode.cov h) s0_Nodes
  obtain rfl := Shape.fit_nil s0
  clear hA0 hval0
  refine (walk a0_Name a0_From a0_To a0_Joined a0_Rank a0_Mode a0_Nodes len0_Nodes cap0_Nodes z0_Nodes W w0_Name w0_From w0_To w0_Joined w0_Rank w0_Mode hz0_Nodes w0_Nodes hl0_Nodes g0_Nodes).mono fun e W' ⟨he, bel⟩ => ?_
  subst he
  exact ⟨_, rfl, _, _, _, [], _, [], hW', trodAll_mk1 (shut_bool Try.underlying4 _), (trodAll_cons_mk (Below.trod laidOut (by kernel_rfl) (of_decide_eq_true (by kernel_rfl)) k0 bel lt0) trodAll_mk0), rfl, bel.frame _, fun h => by cases h⟩

theorem over : Rows.fnExactRuleOkRow.holds Try.pinned (OpenSpec.ofChange Rows.fnExactRuleOkSpec) :=
  OpenClaim.holds_of_wide 8 Try.f8 rfl rfl rfl rfl rfl rfl rfl ⟨rfl, rfl, rfl, rfl, rfl⟩ rfl rfl rfl rfl rfl (by kernel_rfl) Try.func8 (by kernel_rfl)
    (of_decide_eq_true (by kernel_rfl)) (by unfold Func.isWrapper; first | (rw [if_pos (by decide +kernel)]; kernel_rfl) | (rw [if_neg (by decide +kernel)]; exact ⟨rfl, rfl⟩))
    (fun os started H enc _ => lifted os started H enc)

theorem proved : Rows.FnExactRuleOkSaid := over
#print axioms proved
end Go.Proofs.Ytkfgflmhefbinaa.fnExactRuleOk
