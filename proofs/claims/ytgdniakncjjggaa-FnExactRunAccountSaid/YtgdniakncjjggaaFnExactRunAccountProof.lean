/- Proves the given statement of the law FnExactRunAccount: for every input that the row lets in, the law's Go function returns true and every argument reads as before; no condition of mine. -/
import Derived.Test.YtgdniakncjjggaaAccS
import Derived.Test.YtgdniakncjjggaaAccI
import Derived.Test.YtgdniakncjjggaaTInt
import Derived.Test.YtgdniakncjjggaaKit
import Derived.Test.YtgdniakncjjggaaRows
import Derived.WalkKit
import Derived.ProofKit
import Derived.OpenShut
import Derived.ShutString
import Derived.ChangeOld
import Derived.Below
import Derived.Deep.RegionHeld3
import Derived.Deep.DeepCutAuto
import Derived.Lib.Hide
import Derived.Lib.SmallJoins
namespace Go.Proofs.Ytgdniakncjjggaa.fnExactRunAccount
open Go.ChangeShapes Go.WideShapes Go.ChangeAt Go.RowKit
open Go.ChangeMaps (open_string shut_string)
set_option linter.unusedVariables false

theorem own : ownKnob Try.prog.godebug = none := by kernel_rfl
theorem laidOut : laidOutB Try.prog = true := by kernel_rfl

/-- What the walk is told of a slice of integers that came in. -/
def IsRow (k : IntKind) (w : World) (a : Option Addr) (len cap : Nat) (zs : List Int) : Prop :=
  (a = none ∧ len = 0 ∧ cap = 0 ∧ zs = []) ∨
  ∃ x, a = some x ∧ len ≤ cap ∧ cap ≤ maxLen ∧ zs.length = cap ∧ (∀ i, i < zs.length → w.cell? (x.add i) = some (.int k (zs.getD i 0))) ∧ ∀ n ∈ zs, (Lit.int k n).wf = true
theorem is_row {H : Type} {enc : TypeId × Value → H} {P : Program} {W : World} {t e : TypeId} {k : IntKind} {a : Option Addr} {len cap : Nat} {d : DataW H} {p : List MemPlace} (ht : P.underlying t = some (.slice e)) (he : P.underlying e = some (.int k)) (hc : P.cellsOf e = 1)
    (h : DataW.Trod enc P W 0 (fun _ => true) true t (.slice a len cap) d p) : ∃ zs, IsRow k W a len cap zs := by
  obtain ⟨fuel, hf⟩ := h
  rcases open_ints ht he hc hf with ⟨hcs, _⟩ | ⟨x, l, c, zs, hcs, _, hl, hm, hz, _, hcell, hwz⟩
  · simp [Value.cells] at hcs
    obtain ⟨rfl, rfl, rfl⟩ := hcs
    exact ⟨[], .inl ⟨rfl, rfl, rfl, rfl⟩⟩
  · simp [Value.cells] at hcs
    obtain ⟨rfl, rfl, rfl⟩ := hcs
    exact ⟨zs, .inr ⟨_, rfl, hl, hm, by simpa using hz, hcell, hwz⟩⟩

/-! ### STEP 1: the walk -/
set_option maxHeartbeats 8000000 in
theorem walk (a0 : Option Addr) (len0 cap0 : Nat) (z0 : List Int) (a1 : Option Addr) (len1 cap1 : Nat) (z1 : List Int) (a2 : Int) (w : World) (hz0 : z0.length = len0) (w0 : RowN.Reads TInt.fc 1 w a0 z0) (hl0 : len0 ≤ 9223372036854775807) (g0 : ∀ x ∈ z0, TInt.Wf x) (hz1 : z1.length = len1) (w1 : RowN.Reads TInt.fc 1 w a1 z1) (hl1 : len1 ≤ 9223372036854775807) (g1 : ∀ x ∈ z1, TInt.Wf x) (w2 : (Lit.int .i64 a2).wf = true) :
    Calls Try.prog 6 #[.slice a0 len0 cap0, .slice a1 len1 cap1, .int .i64 a2] w fun e w' => e = .returned (.bool true) ∧ Below w.heap.size w w' := by
  have HR0 := Lib.hid w0
  have HM0 := Lib.hid hz0
  have HR1 := Lib.hid w1
  have HM1 := Lib.hid hz1
  clear w0 hz0 w1 hz1
  by_cases hbig : 1048576 < len0
  · go_enter Try.func6, Try.ntmps6
    go_wp2
    go_ret
    exact ⟨rfl, by (repeat (first | exact Below.refl _ _ | apply BelowKit.bl_alloc | apply BelowKit.bl_drewN | apply BelowKit.bl_drew | (refine BelowKit.bl_set ?_ _ ?_; rotate_left; (first | omega | (simp; omega) | simp)) | (refine BelowKit.bl_trans ?_ (‹Hid (Below _ _ _)›).out)))⟩
  have hs0 : len0 ≤ 1048576 := by omega
  by_cases hbig1 : 1048576 < len1
  · go_enter Try.func6, Try.ntmps6
    go_wp2
    go_ret
    exact ⟨rfl, by (repeat (first | exact Below.refl _ _ | apply BelowKit.bl_alloc | apply BelowKit.bl_drewN | apply BelowKit.bl_drew | (refine BelowKit.bl_set ?_ _ ?_; rotate_left; (first | omega | (simp; omega) | simp)) | (refine BelowKit.bl_trans ?_ (‹Hid (Below _ _ _)›).out)))⟩
  have hs1 : len1 ≤ 1048576 := by omega
  obtain ⟨m0, hm0⟩ : ∃ v, AccMath.runA z0 z1 a2 = v := ⟨_, rfl⟩
  have hbm0 : m0.length ≤ 1099511627776 := by rw [← hm0]; exact Nat.le_trans (AccMath.run_len _ _ _) (by omega)
  obtain ⟨nm0, hnm0⟩ : ∃ n, m0.length = n := ⟨_, rfl⟩
  rw [hnm0] at hbm0
  have HF0 := Lib.hid hm0
  have HN0 := Lib.hid hnm0
  clear hm0 hnm0
  go_enter Try.func6, Try.ntmps6
  go_wp2_with fail
  refine (TInt.to_c w a0 len0 cap0 z0 HM0.out (by omega) HR0.out).mono ?_
  rintro e w4 ⟨p1, c2, rfl, ho0, hb⟩
  rw [HM0.out] at ho0 ⊢
  have sw4 : w.heap.size ≤ w4.heap.size := hb.size
  have HC5 := Lib.hid hb
  clear hb
  have HO6 := Lib.hid (Own.ow_of ho0)
  clear ho0
  go_wp2_with fail
  refine (TInt.to_c w4 a1 len1 cap1 z1 HM1.out (by omega) (HR1.out.on HC5.out)).mono ?_
  rintro e w10 ⟨p7, c8, rfl, ho0, hb⟩
  rw [HM1.out] at ho0 ⊢
  have sw10 : w4.heap.size ≤ w10.heap.size := hb.size
  have HO11 := Lib.hid (HO6.out.on hb)
  have HC12 := Lib.hid (BelowKit.bl_trans HC5.out hb)
  clear HO6 HC5 hb
  have HO13 := Lib.hid (Own.ow_of ho0)
  clear ho0
  go_wp2_with fail
  refine (AccS.run_s w10 p1 len0 c2 z0 p7 len1 c8 z1 a2 HM0.out (by omega) (HO11.out.reads TInt.fw) HM1.out (by omega) (HO13.out.reads TInt.fw)).mono ?_
  rintro e w17 ⟨p14, c15, rfl, ho0, hb⟩
  try rw [HF0.out] at ho0
  try rw [HF0.out]
  try rw [HN0.out] at ho0
  try rw [HN0.out]
  have sw17 : w10.heap.size ≤ w17.heap.size := hb.size
  have HO18 := Lib.hid (HO11.out.on hb)
  have HO19 := Lib.hid (HO13.out.on hb)
  have HC20 := Lib.hid (BelowKit.bl_trans HC12.out hb)
  clear HO11 HO13 HC12 hb
  have HO21 := Lib.hid (Own.ow_of ho0)
  clear ho0
  go_wp2_with fail
  refine (TInt.to_c w17 a0 len0 cap0 z0 HM0.out (by omega) (HR0.out.on HC20.out)).mono ?_
  rintro e w25 ⟨p22, c23, rfl, ho0, hb⟩
  rw [HM0.out] at ho0 ⊢
  have sw25 : w17.heap.size ≤ w25.heap.size := hb.size
  have HO26 := Lib.hid (HO18.out.on hb)
  have HO27 := Lib.hid (HO19.out.on hb)
  have HO28 := Lib.hid (HO21.out.on hb)
  have HC29 := Lib.hid (BelowKit.bl_trans HC20.out hb)
  clear HO18 HO19 HO21 HC20 hb
  have HO30 := Lib.hid (Own.ow_of ho0)
  clear ho0
  go_wp2_with fail
  refine (TInt.to_c w25 a1 len1 cap1 z1 HM1.out (by omega) (HR1.out.on HC29.out)).mono ?_
  rintro e w34 ⟨p31, c32, rfl, ho0, hb⟩
  rw [HM1.out] at ho0 ⊢
  have sw34 : w25.heap.size ≤ w34.heap.size := hb.size
  have HO35 := Lib.hid (HO26.out.on hb)
  have HO36 := Lib.hid (HO27.out.on hb)
  have HO37 := Lib.hid (HO28.out.on hb)
  have HO38 := Lib.hid (HO30.out.on hb)
  have HC39 := Lib.hid (BelowKit.bl_trans HC29.out hb)
  clear HO26 HO27 HO28 HO30 HC29 hb
  have HO40 := Lib.hid (Own.ow_of ho0)
  clear ho0
  go_wp2_with fail
  refine (AccI.run_i w34 p22 len0 c23 z0 p31 len1 c32 z1 a2 HM0.out (by omega) (HO38.out.reads TInt.fw) HM1.out (by omega) (HO40.out.reads TInt.fw)).mono ?_
  rintro e w44 ⟨p41, c42, rfl, ho0, hb⟩
  try rw [HF0.out] at ho0
  try rw [HF0.out]
  try rw [HN0.out] at ho0
  try rw [HN0.out]
  have sw44 : w34.heap.size ≤ w44.heap.size := hb.size
  have HO45 := Lib.hid (HO35.out.on hb)
  have HO46 := Lib.hid (HO36.out.on hb)
  have HO47 := Lib.hid (HO37.out.on hb)
  have HO48 := Lib.hid (HO38.out.on hb)
  have HO49 := Lib.hid (HO40.out.on hb)
  have HC50 := Lib.hid (BelowKit.bl_trans HC39.out hb)
  clear HO35 HO36 HO37 HO38 HO40 HC39 hb
  have HO51 := Lib.hid (Own.ow_of ho0)
  clear ho0
  go_wp2_with fail
  refine (TInt.eq_c w44 nm0 c42 c15 p41 p14 m0 HN0.out (by omega) (HO51.out.reads TInt.fw) (HO47.out.reads TInt.fw)).mono ?_
  rintro e w52 ⟨rfl, hb⟩
  have sw52 : w44.heap.size ≤ w52.heap.size := hb.size
  have HO53 := Lib.hid (HO45.out.on hb)
  have HO54 := Lib.hid (HO46.out.on hb)
  have HO55 := Lib.hid (HO47.out.on hb)
  have HO56 := Lib.hid (HO48.out.on hb)
  have HO57 := Lib.hid (HO49.out.on hb)
  have HO58 := Lib.hid (HO51.out.on hb)
  have HC59 := Lib.hid (BelowKit.bl_trans HC50.out hb)
  clear HO45 HO46 HO47 HO48 HO49 HO51 HC50 hb
  go_wp2_with fail
  refine (TInt.to_c w52 a0 len0 cap0 z0 HM0.out (by omega) (HR0.out.on HC59.out)).mono ?_
  rintro e w63 ⟨p60, c61, rfl, ho0, hb⟩
  rw [HM0.out] at ho0 ⊢
  have sw63 : w52.heap.size ≤ w63.heap.size := hb.size
  have HO64 := Lib.hid (HO53.out.on hb)
  have HO65 := Lib.hid (HO54.out.on hb)
  have HO66 := Lib.hid (HO55.out.on hb)
  have HO67 := Lib.hid (HO56.out.on hb)
  have HO68 := Lib.hid (HO57.out.on hb)
  have HO69 := Lib.hid (HO58.out.on hb)
  have HC70 := Lib.hid (BelowKit.bl_trans HC59.out hb)
  clear HO53 HO54 HO55 HO56 HO57 HO58 HC59 hb
  have HO71 := Lib.hid (Own.ow_of ho0)
  clear ho0
  go_wp2_with fail
  refine (TInt.eq_c w63 len0 c23 c61 p22 p60 z0 HM0.out (by omega) (HO67.out.reads TInt.fw) (HO71.out.reads TInt.fw)).mono ?_
  rintro e w72 ⟨rfl, hb⟩
  have sw72 : w63.heap.size ≤ w72.heap.size := hb.size
  have HO73 := Lib.hid (HO64.out.on hb)
  have HO74 := Lib.hid (HO65.out.on hb)
  have HO75 := Lib.hid (HO66.out.on hb)
  have HO76 := Lib.hid (HO67.out.on hb)
  have HO77 := Lib.hid (HO68.out.on hb)
  have HO78 := Lib.hid (HO69.out.on hb)
  have HO79 := Lib.hid (HO71.out.on hb)
  have HC80 := Lib.hid (BelowKit.bl_trans HC70.out hb)
  clear HO64 HO65 HO66 HO67 HO68 HO69 HO71 HC70 hb
  go_wp2_with fail
  refine (TInt.to_c w72 a1 len1 cap1 z1 HM1.out (by omega) (HR1.out.on HC80.out)).mono ?_
  rintro e w84 ⟨p81, c82, rfl, ho0, hb⟩
  rw [HM1.out] at ho0 ⊢
  have sw84 : w72.heap.size ≤ w84.heap.size := hb.size
  have HO85 := Lib.hid (HO73.out.on hb)
  have HO86 := Lib.hid (HO74.out.on hb)
  have HO87 := Lib.hid (HO75.out.on hb)
  have HO88 := Lib.hid (HO76.out.on hb)
  have HO89 := Lib.hid (HO77.out.on hb)
  have HO90 := Lib.hid (HO78.out.on hb)
  have HO91 := Lib.hid (HO79.out.on hb)
  have HC92 := Lib.hid (BelowKit.bl_trans HC80.out hb)
  clear HO73 HO74 HO75 HO76 HO77 HO78 HO79 HC80 hb
  have HO93 := Lib.hid (Own.ow_of ho0)
  clear ho0
  go_wp2_with fail
  refine (TInt.eq_c w84 len1 c32 c82 p31 p81 z1 HM1.out (by omega) (HO89.out.reads TInt.fw) (HO93.out.reads TInt.fw)).mono ?_
  rintro e w94 ⟨rfl, hb⟩
  have sw94 : w84.heap.size ≤ w94.heap.size := hb.size
  have HO95 := Lib.hid (HO85.out.on hb)
  have HO96 := Lib.hid (HO86.out.on hb)
  have HO97 := Lib.hid (HO87.out.on hb)
  have HO98 := Lib.hid (HO88.out.on hb)
  have HO99 := Lib.hid (HO89.out.on hb)
  have HO100 := Lib.hid (HO90.out.on hb)
  have HO101 := Lib.hid (HO91.out.on hb)
  have HO102 := Lib.hid (HO93.out.on hb)
  have HC103 := Lib.hid (BelowKit.bl_trans HC92.out hb)
  clear HO85 HO86 HO87 HO88 HO89 HO90 HO91 HO93 HC92 hb
  go_wp2_with fail
  refine (TInt.mark_c w94 w17.heap.size w25.heap.size p22 len0 c23 z0 1 HM0.out (by omega) (by omega) (by omega) HO98.out (by omega)).mono ?_
  rintro e w104 ⟨rfl, ho, hm⟩
  have sw104 : w94.heap.size ≤ w104.heap.size := hm.low.size
  have HO105 := Lib.hid (HO95.out.mid hm (by omega))
  have HO106 := Lib.hid (HO96.out.mid hm (by omega))
  have HO107 := Lib.hid (HO97.out.mid hm (by omega))
  have HO109 := Lib.hid (HO99.out.mid hm (by omega))
  have HO110 := Lib.hid (HO100.out.mid hm (by omega))
  have HO111 := Lib.hid (HO101.out.mid hm (by omega))
  have HO112 := Lib.hid (HO102.out.mid hm (by omega))
  have HC113 := Lib.hid (HC103.out.trans (hm.low.mono (by omega)))
  clear HO95 HO96 HO97 HO99 HO100 HO101 HO102 HC103 hm
  have HO114 := Lib.hid ho
  clear ho HO98
  have HM115 : Hid ((TInt.marks 1 len0).length = len0) := Lib.hid (TInt.marks_len _ _)
  go_wp2_with fail
  refine (TInt.mark_c w104 w25.heap.size w34.heap.size p31 len1 c32 z1 (1 + (len0 : Int)) HM1.out (by omega) (by omega) (by omega) HO109.out (by omega)).mono ?_
  rintro e w116 ⟨rfl, ho, hm⟩
  have sw116 : w104.heap.size ≤ w116.heap.size := hm.low.size
  have HO117 := Lib.hid (HO105.out.mid hm (by omega))
  have HO118 := Lib.hid (HO106.out.mid hm (by omega))
  have HO119 := Lib.hid (HO107.out.mid hm (by omega))
  have HO120 := Lib.hid (HO114.out.mid hm (by omega))
  have HO122 := Lib.hid (HO110.out.mid hm (by omega))
  have HO123 := Lib.hid (HO111.out.mid hm (by omega))
  have HO124 := Lib.hid (HO112.out.mid hm (by omega))
  have HC125 := Lib.hid (HC113.out.trans (hm.low.mono (by omega)))
  clear HO105 HO106 HO107 HO114 HO110 HO111 HO112 HC113 hm
  have HO126 := Lib.hid ho
  clear ho HO109
  have HM127 : Hid ((TInt.marks (1 + (len0 : Int)) len1).length = len1) := Lib.hid (TInt.marks_len _ _)
  go_wp2_with fail
  refine (TInt.eq_c w116 nm0 c42 c15 p41 p14 m0 HN0.out (by omega) (HO122.out.reads TInt.fw) (HO119.out.reads TInt.fw)).mono ?_
  rintro e w128 ⟨rfl, hb⟩
  have sw128 : w116.heap.size ≤ w128.heap.size := hb.size
  have HO129 := Lib.hid (HO117.out.on hb)
  have HO130 := Lib.hid (HO118.out.on hb)
  have HO131 := Lib.hid (HO119.out.on hb)
  have HO132 := Lib.hid (HO120.out.on hb)
  have HO133 := Lib.hid (HO126.out.on hb)
  have HO134 := Lib.hid (HO122.out.on hb)
  have HO135 := Lib.hid (HO123.out.on hb)
  have HO136 := Lib.hid (HO124.out.on hb)
  have HC137 := Lib.hid (BelowKit.bl_trans HC125.out hb)
  clear HO117 HO118 HO119 HO120 HO126 HO122 HO123 HO124 HC125 hb
  go_wp2_with fail
  refine (TInt.mark_c w128 w34.heap.size w44.heap.size p41 nm0 c42 m0 1 HN0.out (by omega) (by omega) (by omega) HO134.out (by omega)).mono ?_
  rintro e w138 ⟨rfl, ho, hm⟩
  have sw138 : w128.heap.size ≤ w138.heap.size := hm.low.size
  have HO139 := Lib.hid (HO129.out.mid hm (by omega))
  have HO140 := Lib.hid (HO130.out.mid hm (by omega))
  have HO141 := Lib.hid (HO131.out.mid hm (by omega))
  have HO142 := Lib.hid (HO132.out.mid hm (by omega))
  have HO143 := Lib.hid (HO133.out.mid hm (by omega))
  have HO145 := Lib.hid (HO135.out.mid hm (by omega))
  have HO146 := Lib.hid (HO136.out.mid hm (by omega))
  have HC147 := Lib.hid (HC137.out.trans (hm.low.mono (by omega)))
  clear HO129 HO130 HO131 HO132 HO133 HO135 HO136 HC137 hm
  have HO148 := Lib.hid ho
  clear ho HO134
  have HM149 : Hid ((TInt.marks 1 nm0).length = nm0) := Lib.hid (TInt.marks_len _ _)
  go_wp2_with fail
  refine (TInt.held_c w138 p41 nm0 c42 1 (by omega) (by omega) (by omega) (HO148.out.reads TInt.fw)).mono ?_
  rintro e w150 ⟨rfl, hb⟩
  have sw150 : w138.heap.size ≤ w150.heap.size := hb.size
  have HO151 := Lib.hid (HO139.out.on hb)
  have HO152 := Lib.hid (HO140.out.on hb)
  have HO153 := Lib.hid (HO141.out.on hb)
  have HO154 := Lib.hid (HO142.out.on hb)
  have HO155 := Lib.hid (HO143.out.on hb)
  have HO156 := Lib.hid (HO148.out.on hb)
  have HO157 := Lib.hid (HO145.out.on hb)
  have HO158 := Lib.hid (HO146.out.on hb)
  have HC159 := Lib.hid (BelowKit.bl_trans HC147.out hb)
  clear HO139 HO140 HO141 HO142 HO143 HO148 HO145 HO146 HC147 hb
  go_wp2_with fail
  refine (TInt.to_c w150 a0 len0 cap0 z0 HM0.out (by omega) (HR0.out.on HC159.out)).mono ?_
  rintro e w163 ⟨p160, c161, rfl, ho0, hb⟩
  rw [HM0.out] at ho0 ⊢
  have sw163 : w150.heap.size ≤ w163.heap.size := hb.size
  have HO164 := Lib.hid (HO151.out.on hb)
  have HO165 := Lib.hid (HO152.out.on hb)
  have HO166 := Lib.hid (HO153.out.on hb)
  have HO167 := Lib.hid (HO154.out.on hb)
  have HO168 := Lib.hid (HO155.out.on hb)
  have HO169 := Lib.hid (HO156.out.on hb)
  have HO170 := Lib.hid (HO157.out.on hb)
  have HO171 := Lib.hid (HO158.out.on hb)
  have HC172 := Lib.hid (BelowKit.bl_trans HC159.out hb)
  clear HO151 HO152 HO153 HO154 HO155 HO156 HO157 HO158 HC159 hb
  have HO173 := Lib.hid (Own.ow_of ho0)
  clear ho0
  go_wp2_with fail
  refine (TInt.to_c w163 a1 len1 cap1 z1 HM1.out (by omega) (HR1.out.on HC172.out)).mono ?_
  rintro e w177 ⟨p174, c175, rfl, ho0, hb⟩
  rw [HM1.out] at ho0 ⊢
  have sw177 : w163.heap.size ≤ w177.heap.size := hb.size
  have HO178 := Lib.hid (HO164.out.on hb)
  have HO179 := Lib.hid (HO165.out.on hb)
  have HO180 := Lib.hid (HO166.out.on hb)
  have HO181 := Lib.hid (HO167.out.on hb)
  have HO182 := Lib.hid (HO168.out.on hb)
  have HO183 := Lib.hid (HO169.out.on hb)
  have HO184 := Lib.hid (HO170.out.on hb)
  have HO185 := Lib.hid (HO171.out.on hb)
  have HO186 := Lib.hid (HO173.out.on hb)
  have HC187 := Lib.hid (BelowKit.bl_trans HC172.out hb)
  clear HO164 HO165 HO166 HO167 HO168 HO169 HO170 HO171 HO173 HC172 hb
  have HO188 := Lib.hid (Own.ow_of ho0)
  clear ho0
  go_wp2_with fail
  refine (AccI.run_i w177 p160 len0 c161 z0 p174 len1 c175 z1 a2 HM0.out (by omega) (HO186.out.reads TInt.fw) HM1.out (by omega) (HO188.out.reads TInt.fw)).mono ?_
  rintro e w192 ⟨p189, c190, rfl, ho0, hb⟩
  try rw [HF0.out] at ho0
  try rw [HF0.out]
  try rw [HN0.out] at ho0
  try rw [HN0.out]
  have sw192 : w177.heap.size ≤ w192.heap.size := hb.size
  have HO193 := Lib.hid (HO178.out.on hb)
  have HO194 := Lib.hid (HO179.out.on hb)
  have HO195 := Lib.hid (HO180.out.on hb)
  have HO196 := Lib.hid (HO181.out.on hb)
  have HO197 := Lib.hid (HO182.out.on hb)
  have HO198 := Lib.hid (HO183.out.on hb)
  have HO199 := Lib.hid (HO184.out.on hb)
  have HO200 := Lib.hid (HO185.out.on hb)
  have HO201 := Lib.hid (HO186.out.on hb)
  have HO202 := Lib.hid (HO188.out.on hb)
  have HC203 := Lib.hid (BelowKit.bl_trans HC187.out hb)
  clear HO178 HO179 HO180 HO181 HO182 HO183 HO184 HO185 HO186 HO188 HC187 hb
  have HO204 := Lib.hid (Own.ow_of ho0)
  clear ho0
  go_wp2_with fail
  refine (TInt.eq_c w192 nm0 c190 c15 p189 p14 m0 HN0.out (by omega) (HO204.out.reads TInt.fw) (HO195.out.reads TInt.fw)).mono ?_
  rintro e w205 ⟨rfl, hb⟩
  have sw205 : w192.heap.size ≤ w205.heap.size := hb.size
  have HO206 := Lib.hid (HO193.out.on hb)
  have HO207 := Lib.hid (HO194.out.on hb)
  have HO208 := Lib.hid (HO195.out.on hb)
  have HO209 := Lib.hid (HO196.out.on hb)
  have HO210 := Lib.hid (HO197.out.on hb)
  have HO211 := Lib.hid (HO198.out.on hb)
  have HO212 := Lib.hid (HO199.out.on hb)
  have HO213 := Lib.hid (HO200.out.on hb)
  have HO214 := Lib.hid (HO201.out.on hb)
  have HO215 := Lib.hid (HO202.out.on hb)
  have HO216 := Lib.hid (HO204.out.on hb)
  have HC217 := Lib.hid (BelowKit.bl_trans HC203.out hb)
  clear HO193 HO194 HO195 HO196 HO197 HO198 HO199 HO200 HO201 HO202 HO204 HC203 hb
  go_wp2_with fail
  refine (TInt.held_c w205 p41 nm0 c42 1 (by omega) (by omega) (by omega) (HO211.out.reads TInt.fw)).mono ?_
  rintro e w218 ⟨rfl, hb⟩
  have sw218 : w205.heap.size ≤ w218.heap.size := hb.size
  have HO219 := Lib.hid (HO206.out.on hb)
  have HO220 := Lib.hid (HO207.out.on hb)
  have HO221 := Lib.hid (HO208.out.on hb)
  have HO222 := Lib.hid (HO209.out.on hb)
  have HO223 := Lib.hid (HO210.out.on hb)
  have HO224 := Lib.hid (HO211.out.on hb)
  have HO225 := Lib.hid (HO212.out.on hb)
  have HO226 := Lib.hid (HO213.out.on hb)
  have HO227 := Lib.hid (HO214.out.on hb)
  have HO228 := Lib.hid (HO215.out.on hb)
  have HO229 := Lib.hid (HO216.out.on hb)
  have HC230 := Lib.hid (BelowKit.bl_trans HC217.out hb)
  clear HO206 HO207 HO208 HO209 HO210 HO211 HO212 HO213 HO214 HO215 HO216 HC217 hb
  go_wp2
  go_ret
  exact ⟨rfl, by (repeat (first | exact Below.refl _ _ | apply BelowKit.bl_alloc | apply BelowKit.bl_drewN | apply BelowKit.bl_drew | (refine BelowKit.bl_set ?_ _ ?_; rotate_left; (first | omega | (simp; omega) | simp)) | (refine BelowKit.bl_trans ?_ (‹Hid (Below _ _ _)›).out)))⟩

/-! ### THE ROW's STEP -/
set_option maxRecDepth 100000 in
theorem lifted (os : Os) (started : os.Started) (H : Type) (enc : TypeId × Value → H) :
    ReturnsInHanded {} Try.checked os 6 .any (Rows.fnExactRunAccountSpec.pre6 enc Try.prog Try.f6 Rows.fnExactRunAccountRow.domain false) (Rows.fnExactRunAccountSpec.post enc Try.prog Try.f6 false true false false) := by
  refine returnsInHanded_of_change (C := Try.checked) own started (by kernel_rfl) Try.func6
    (ChangeSpec.witness6 (enc := enc) (C := Try.checked) false ⟨#[], #[.slice none 0 0, .slice none 0 0, .int .i64 0], []⟩ 8 (by kernel_rfl) (by kernel_rfl) (by kernel_rfl) (by kernel_rfl)) ?_
  intro W base args ds gs before hval0 hW hcnd _
  have hval : ∀ (j : Nat) t v, Try.f6.params[j]? = some t → args[j]? = some v → Value.okWide Try.prog W .any base t v := hval0
  have hW' := hW
  obtain ⟨p, q, hA0, hV, rfl, hfz, hnd⟩ := hW
  have hA : DataW.TrodAll enc Try.prog W 0 (fun _ => true) true Try.f6.params.toList args.toList ds p := hA0
  rw [Try.params6] at hA hval
  obtain ⟨v0, vs0, d0, ds0, p0, q0, hargs, rfl, rfl, h0, r0⟩ := trodAll_cons hA
  obtain ⟨v1, vs1, d1, ds1, p1, q1, rfl, rfl, rfl, h1, r1⟩ := trodAll_cons r0
  obtain ⟨v2, vs2, d2, ds2, p2, q2, rfl, rfl, rfl, h2, r2⟩ := trodAll_cons r1
  obtain ⟨rfl, rfl, rfl⟩ := trodAll_nil r2
  obtain rfl : args = #[v0, v1, v2] := by cases args; simp_all
  obtain ⟨rfl, rfl⟩ := trodVars_none hV
  have k0 := h0
  have lt0 : ∀ x ∈ p0, x.block < W.heap.size := by obtain ⟨m, hm⟩ := k0; exact DataW.trod_lt m _ _ _ hm
  obtain ⟨a0, len0, cap0, rfl⟩ := okWide_slice Try.underlying24 (hval 0 24 v0 rfl rfl)
  have s0 : Shape.FitL W [.sl [.int .i64]] [.slice a0 len0 cap0] := by
    obtain ⟨fu, hfu⟩ := h0
    exact Shape.trod_fit 8 24 _ (by kernel_rfl) _ _ _ hfu
  obtain ⟨_, _, _, _, e0, s0, _⟩ := Shape.fit_sl s0
  cases e0
  obtain ⟨z0, hz0, w0, hl0, g0⟩ := Shape.reads_of (f := TInt.fc) (c := 1) (good := TInt.Wf) rfl (fun _ h => TInt.cov h) s0
  have k1 := h1
  have lt1 : ∀ x ∈ p1, x.block < W.heap.size := by obtain ⟨m, hm⟩ := k1; exact DataW.trod_lt m _ _ _ hm
  obtain ⟨a1, len1, cap1, rfl⟩ := okWide_slice Try.underlying24 (hval 1 24 v1 rfl rfl)
  have s1 : Shape.FitL W [.sl [.int .i64]] [.slice a1 len1 cap1] := by
    obtain ⟨fu, hfu⟩ := h1
    exact Shape.trod_fit 8 24 _ (by kernel_rfl) _ _ _ hfu
  obtain ⟨_, _, _, _, e1, s1, _⟩ := Shape.fit_sl s1
  cases e1
  obtain ⟨z1, hz1, w1, hl1, g1⟩ := Shape.reads_of (f := TInt.fc) (c := 1) (good := TInt.Wf) rfl (fun _ h => TInt.cov h) s1
  obtain ⟨a2, rfl, rfl, rfl, w2⟩ := open_int Try.underlying3 (hval 2 3 v2 rfl rfl) h2
  clear hA0 hval0
  refine (walk a0 len0 cap0 z0 a1 len1 cap1 z1 a2 W hz0 w0 hl0 g0 hz1 w1 hl1 g1 w2).mono fun e W' ⟨he, bel⟩ => ?_
  subst he
  exact ⟨_, rfl, _, _, _, [], _, [], hW', trodAll_mk1 (shut_bool Try.underlying4 _), (trodAll_cons_mk (Below.trod laidOut (by kernel_rfl) (of_decide_eq_true (by kernel_rfl)) k0 bel lt0) (trodAll_cons_mk (Below.trod laidOut (by kernel_rfl) (of_decide_eq_true (by kernel_rfl)) k1 bel lt1) (trodAll_cons_mk (shut_int Try.underlying3 w2) trodAll_mk0))), rfl, bel.frame _, fun h => by cases h⟩

theorem over : Rows.fnExactRunAccountRow.holds Try.pinned (OpenSpec.ofChange Rows.fnExactRunAccountSpec) :=
  OpenClaim.holds_of_wide 6 Try.f6 rfl rfl rfl rfl rfl rfl rfl ⟨rfl, rfl, rfl, rfl, rfl⟩ rfl rfl rfl rfl rfl (by kernel_rfl) Try.func6 (by kernel_rfl)
    (of_decide_eq_true (by kernel_rfl)) (by unfold Func.isWrapper; first | (rw [if_pos (by decide +kernel)]; kernel_rfl) | (rw [if_neg (by decide +kernel)]; exact ⟨rfl, rfl⟩))
    (fun os started H enc _ => lifted os started H enc)

theorem proved : Rows.FnExactRunAccountSaid := over
#print axioms proved
end Go.Proofs.Ytgdniakncjjggaa.fnExactRunAccount
