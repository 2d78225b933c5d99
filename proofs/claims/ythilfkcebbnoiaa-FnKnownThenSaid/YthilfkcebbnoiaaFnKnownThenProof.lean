/- Proves the given statement of the law FnKnownThen: for every input that the row lets in, the law's Go function returns true and every argument reads as before; no condition of mine. -/
import Derived.Test.YthilfkcebbnoiaaDrawStore
import Derived.Test.YthilfkcebbnoiaaDrawRow
import Derived.Test.YthilfkcebbnoiaaFactLaws
import Derived.Test.YthilfkcebbnoiaaStoreAsOf
import Derived.Test.YthilfkcebbnoiaaStoreOk
import Derived.Test.YthilfkcebbnoiaaValueAt
import Derived.Test.YthilfkcebbnoiaaBelowKit
import Derived.Test.YthilfkcebbnoiaaRows
import Derived.WalkKit
import Derived.ProofKit
import Derived.OpenShut
import Derived.ShutString
import Derived.ChangeOld
import Derived.Below
namespace Go.Proofs.Ythilfkcebbnoiaa.fnKnownThen
open Go.ChangeShapes Go.WideShapes Go.ChangeAt Go.RowKit
open Go.ChangeMaps (open_string shut_string)
set_option linter.unusedVariables false

theorem own : ownKnob Try.prog.godebug = none := by kernel_rfl
theorem laidOut : laidOutB Try.prog = true := by kernel_rfl

/-- WHAT THE WALK IS TOLD OF A SLICE OF INTEGERS THAT CAME IN: it is nil; or it leads to a row of 'cap' cells, the numbers 'zs' (the first 'len' are its elements, the rest its spare room), each fitting its kind. -/
def IsRow (k : IntKind) (w : World) (a : Option Addr) (len cap : Nat) (zs : List Int) : Prop :=
  (a = none ∧ len = 0 ∧ cap = 0 ∧ zs = []) ∨
  ∃ x, a = some x ∧ len ≤ cap ∧ cap ≤ maxLen ∧ zs.length = cap ∧ (∀ i, i < zs.length → w.cell? (x.add i) = some (.int k (zs.getD i 0))) ∧ ∀ n ∈ zs, (Lit.int k n).wf = true

/-! ### STEP 1: THE WALK: the Go text returns true, AND WRITES NOTHING THAT WAS THERE: 'Below w.heap.size w w'' (Derived/Below.lean: '.refl', '.alloc', '.drew', '.setCell' at a new block, '.trans'). Open each 'IsRow' by 'rcases' AHEAD of 'go_enter'; part every test ahead of the walk. -/
theorem walk (a0 : Option Addr) (len0 cap0 : Nat) (z0 : List Int) (w : World) (w0 : IsRow .u8 w a0 len0 cap0 z0) :
    Calls Try.prog 3 #[.slice a0 len0 cap0] w fun e w' => e = .returned (.bool true) ∧ Below w.heap.size w w' := by
  obtain ⟨hcode, hs⟩ := CurKit.code_at w0
  clear w0
  have HK := Lib.hid hcode
  have HS := Lib.hid hs
  clear hcode
  unfold maxLen at hs
  by_cases hbig : 1048576 < len0
  · go_enter Try.func3, Try.ntmps3
    go_wp2
    go_ret
    exact ⟨rfl, Below.refl _ _⟩
  go_enter Try.func3, Try.ntmps3
  go_wp2_with (go_at_call 12; go_in)
  refine (DrawStore.draw_c _ a0 len0 cap0 HK.out HS.out).mono ?_
  rintro e w1 ⟨l, p, c, hd, rfl, ho, hb⟩
  obtain ⟨m, hm⟩ : ∃ m, l.length = m := ⟨_, rfl⟩
  rw [hm] at ho ⊢
  have hm9 : m ≤ 9 := by rw [← hm]; exact hd.len
  have HM := Lib.hid hm
  have HD := Lib.hid hd
  have HO1 := Lib.hid ho
  have HC1 := Lib.hid hb
  clear hm hd ho hb
  go_wp2_with fail
  have hb12 : Below w1.heap.size w1 (w1.alloc (.cells #[.slice p m c] 26)) := by (repeat (first | exact Below.refl _ _ | apply BelowKit.bl_alloc | apply BelowKit.bl_drewN | apply BelowKit.bl_drew | (refine BelowKit.bl_set ?_ _ ?_; rotate_left; (first | omega | (simp; omega) | simp)) | (refine BelowKit.bl_trans ?_ (‹Hid (Below _ _ _)›).out)))
  refine (DrawRow.places_c _ a0 len0 cap0 (fun j hj => by obtain ⟨blk, off, n, e, h1, h2, h3⟩ := HK.out j hj; exact ⟨blk, off, n, e, by have := HC1.out.size; simp; omega, ((BelowKit.bcell (BelowKit.bl_trans HC1.out hb12)).1 _ _ h1).trans h2, h3⟩) HS.out).mono ?_
  rintro e w2 ⟨l2, a2, cap2, hl2, hin, rfl, ho2, hb⟩
  obtain ⟨g2, rfl, _, hg2, c2, f2⟩ := ho2.at 0 (by omega)
  have i0 := hin.get 0 (by omega)
  obtain ⟨t, ht⟩ : ∃ t, l2[0] = t := ⟨_, rfl⟩
  rw [ht] at c2 i0
  obtain ⟨i00, i01⟩ := i0
  have cS : w2.cell? ⟨w1.heap.size, 0, none⟩ = some (.slice p m c) := ((BelowKit.bcell hb).1 _ _ (by simp)).trans (by simp [go_sem])
  have zS : w1.heap.size < w2.heap.size := by have := hb.size; simp at this; omega
  have hb2 := BelowKit.bl_trans hb12 hb
  have HO2 := Lib.hid (HO1.out.on hb2)
  have HC2 := Lib.hid (BelowKit.bl_trans HC1.out hb2)
  clear ht hin hl2 ho2 hb hb12 hb2 f2 HO1 HC1
  have b1 : 0 ≤ t % 120 := by omega
  have b2 : t % 120 < 120 := by omega
  go_wp2_with fail
  refine (StoreAsOf.asof_i _ p m c l (t % 120) HM.out (by omega) (RowN.reads_own Fact.fw HO2.out)).mono ?_
  rintro e w3 ⟨p3, c3, rfl, ho3, hb⟩
  obtain ⟨n, hn⟩ : ∃ n, (FactMath.keep (t % 120) l).length = n := ⟨_, rfl⟩
  have hn9 : n ≤ 9 := by rw [← hn]; exact Nat.le_trans (FactMath.keep_len _ _) (by rw [HM.out]; exact hm9)
  rw [hn] at ho3 ⊢
  have HN := Lib.hid hn
  have cS3 : w3.cell? ⟨w1.heap.size, 0, none⟩ = some (.slice p m c) := ((BelowKit.bcell hb).1 _ _ zS).trans cS
  have zS3 : w1.heap.size < w3.heap.size := Nat.lt_of_lt_of_le zS hb.size
  have HO3 := Lib.hid (HO2.out.on hb)
  have HP3 := Lib.hid ho3
  have HC3 := Lib.hid (BelowKit.bl_trans HC2.out hb)
  have HV : Hid (∀ key m : Int, FactMath.val key m 3599 (FactMath.keep (t % 120) l) = FactMath.val key m (t % 120) l) := Lib.hid fun key m => FactLaws.val_keep key m _ 3599 l fun x hx => by
    obtain ⟨n, h1, h2, h3⟩ := HD.out.each x hx
    rw [h3.n]
    omega
  have HOK := Lib.hid (FactLaws.okS_keep (FactMath.okS_yes (HD.out.ok (by omega))) (t % 120))
  clear hn ho3 hb cS zS HO2 HC2 c2 hg2 HD
  obtain ⟨k, hk⟩ : ∃ k, t % 120 = k := ⟨_, rfl⟩
  rw [hk] at HV HP3 HN HOK b1 b2 ⊢
  clear hk i00 i01
  go_wp2_with fail
  obtain ⟨U, hU⟩ : ∃ U : World, U = w3.alloc (.cells #[.slice p3 n c3] 26) := ⟨_, rfl⟩
  rw [← hU]
  have hbU : Below w3.heap.size w3 U := by rw [hU]; (repeat (first | exact Below.refl _ _ | apply BelowKit.bl_alloc | apply BelowKit.bl_drewN | apply BelowKit.bl_drew | (refine BelowKit.bl_set ?_ _ ?_; rotate_left; (first | omega | (simp; omega) | simp)) | (refine BelowKit.bl_trans ?_ (‹Hid (Below _ _ _)›).out)))
  have cN : U.cell? ⟨w3.heap.size, 0, none⟩ = some (.slice p3 n c3) := by rw [hU]; simp [go_sem]
  have zN : w3.heap.size < U.heap.size := by rw [hU]; simp
  have cSU : U.cell? ⟨w1.heap.size, 0, none⟩ = some (.slice p m c) := ((BelowKit.bcell hbU).1 _ _ zS3).trans cS3
  have zSU : w1.heap.size < U.heap.size := by omega
  have HOU := Lib.hid (HO3.out.on hbU)
  have HPU := Lib.hid (HP3.out.on hbU)
  have HCU := Lib.hid (BelowKit.bl_trans HC3.out hbU)
  clear hU hbU cS3 zS3 HO3 HP3 HC3
  go_loopw [7] (fun key wr => ∃ K : Nat, 1 ≤ K ∧ K ≤ 5 ∧ key = .int .i64 (K : Int) ∧ Hid (Below U.heap.size U wr)) (fun key _ => 5 - (intOf key).toNat)
  case atStart => exact ⟨1, by omega, by omega, rfl, Lib.hid (Below.refl _ _)⟩
  case round =>
    obtain ⟨K, hK1, hK5, rfl, HB⟩ := hrel
    by_cases hlt : K < 5
    · rename World => wA
      have dK : decide ((K : Int) ≤ 4) = true := decide_eq_true (by omega)
      go_wp2
      go_loopw [8] (fun mo wr => ∃ j : Nat, j ≤ 106 ∧ mo = .int .i64 (j : Int) ∧ Hid (Below U.heap.size U wr)) (fun mo _ => 107 - (intOf mo).toNat)
      case atStart => exact ⟨0, by omega, rfl, HB⟩
      case round =>
        obtain ⟨j, hj, rfl, HB2⟩ := hrel
        by_cases hj2 : j < 100
        · have e1 := ((BelowKit.bcell HB2.out).1 _ 0 zSU).trans cSU
          have e2 := ((BelowKit.bcell HB2.out).1 _ 0 zN).trans cN
          have z1 := Nat.lt_of_lt_of_le zSU HB2.out.size
          have z2 := Nat.lt_of_lt_of_le zN HB2.out.size
          obtain ⟨⟨x, o⟩, hx⟩ : ∃ V, FactMath.val (K : Int) (j : Int) k l = V := ⟨_, rfl⟩
          have HX := Lib.hid hx
          have HX2 := Lib.hid ((HV.out (K : Int) (j : Int)).trans hx)
          clear hx
          go_wp2_with fail
          refine (ValueAt.val_i _ p m c l (K : Int) (j : Int) k HM.out (by omega) (RowN.reads_own Fact.fw (HOU.out.on HB2.out))).mono ?_
          rintro e w5 ⟨rfl, hb⟩
          rw [HX.out]
          have e3 := ((BelowKit.bcell hb).1 _ 0 z2).trans e2
          have HB3 := Lib.hid (BelowKit.bl_trans HB2.out hb)
          have z3 := Nat.lt_of_lt_of_le z2 hb.size
          clear hb e1 e2 z1 z2 HB2
          go_wp2_with fail
          refine (ValueAt.val_i _ p3 n c3 (FactMath.keep k l) (K : Int) (j : Int) 3599 HN.out (by omega) (RowN.reads_own Fact.fw (HPU.out.on HB3.out))).mono ?_
          rintro e w6 ⟨rfl, hb⟩
          rw [HX2.out]
          have HB4 := Lib.hid (BelowKit.bl_trans HB3.out hb)
          clear hb e3 z3 HB3
          go_wp2
          go_roundw
          case rel => exact ⟨j + 7, by omega, by go_num, HB4⟩
          case measure => simp [intOf]; omega
        · go_wp2
          go_roundw
          case rel => exact ⟨K + 1, by omega, by omega, by go_num, HB2⟩
          case measure => simp [intOf]; omega
    · obtain rfl : K = 5 := by omega
      have e2 := ((BelowKit.bcell HB.out).1 _ 0 zN).trans cN
      go_wp2_with fail
      refine (StoreOk.ok_i _ p3 n c3 (FactMath.keep k l) HN.out (by omega) (RowN.reads_own Fact.fw (HPU.out.on HB.out))).mono ?_
      rintro e w6 ⟨rfl, hb⟩
      rw [HOK.out]
      have HB4 := Lib.hid (BelowKit.bl_trans HCU.out (BelowKit.bl_trans HB.out hb))
      clear hb
      go_wp2
      go_ret
      exact ⟨rfl, HB4.out⟩

/-! ### THE ROW's STEP: WRITTEN OUT: LEAVE IT -/
set_option maxRecDepth 100000 in
theorem lifted (os : Os) (started : os.Started) (H : Type) (enc : TypeId × Value → H) :
    ReturnsInHanded {} Try.checked os 3 .any (Rows.fnKnownThenSpec.pre6 enc Try.prog Try.f3 Rows.fnKnownThenRow.domain false) (Rows.fnKnownThenSpec.post enc Try.prog Try.f3 false true false false) := by
  refine returnsInHanded_of_change (C := Try.checked) own started (by kernel_rfl) Try.func3
    (ChangeSpec.witness6 (enc := enc) (C := Try.checked) false ⟨#[], #[.slice none 0 0], []⟩ 8 (by kernel_rfl) (by kernel_rfl) (by kernel_rfl) (by kernel_rfl)) ?_
  intro W base args ds gs before hval0 hW hcnd _
  have hval : ∀ (j : Nat) t v, Try.f3.params[j]? = some t → args[j]? = some v → Value.okWide Try.prog W .any base t v := hval0
  have hW' := hW
  obtain ⟨p, q, hA0, hV, rfl, hfz, hnd⟩ := hW
  have hA : DataW.TrodAll enc Try.prog W 0 (fun _ => true) true Try.f3.params.toList args.toList ds p := hA0
  rw [Try.params3] at hA hval
  obtain ⟨v0, vs0, d0, ds0, p0, q0, hargs, rfl, rfl, h0, r0⟩ := trodAll_cons hA
  obtain ⟨rfl, rfl, rfl⟩ := trodAll_nil r0
  obtain rfl : args = #[v0] := by cases args; simp_all
  obtain ⟨rfl, rfl⟩ := trodVars_none hV
  obtain ⟨a0, len0, cap0, rfl⟩ := okWide_slice Try.underlying22 (hval 0 22 v0 rfl rfl)
  have k0 := h0
  have lt0 : ∀ x ∈ p0, x.block < W.heap.size := by obtain ⟨m, hm⟩ := k0; exact DataW.trod_lt m _ _ _ hm
  obtain ⟨z0, w0⟩ : ∃ zs, IsRow .u8 W a0 len0 cap0 zs := by
    obtain ⟨fuel, hf⟩ := h0
    rcases open_ints Try.underlying22 Try.underlying5 (by kernel_rfl) hf with ⟨hcs, _⟩ | ⟨x, l, c, zs, hcs, _, hl, hm, hz, _, hcell, hwz⟩
    · simp [Value.cells] at hcs
      obtain ⟨rfl, rfl, rfl⟩ := hcs
      exact ⟨[], .inl ⟨rfl, rfl, rfl, rfl⟩⟩
    · simp [Value.cells] at hcs
      obtain ⟨rfl, rfl, rfl⟩ := hcs
      exact ⟨zs, .inr ⟨_, rfl, hl, hm, by simpa using hz, hcell, hwz⟩⟩
  clear hA0 hval0
  refine (walk a0 len0 cap0 z0 W w0).mono fun e W' ⟨he, bel⟩ => ?_
  subst he
  exact ⟨_, rfl, _, _, _, [], _, [], hW', trodAll_mk1 (shut_bool Try.underlying4 _), (trodAll_cons_mk (Below.trod laidOut (by kernel_rfl) (of_decide_eq_true (by kernel_rfl)) k0 bel lt0) trodAll_mk0), rfl, bel.frame _, fun h => by cases h⟩

theorem over : Rows.fnKnownThenRow.holds Try.pinned (OpenSpec.ofChange Rows.fnKnownThenSpec) :=
  OpenClaim.holds_of_wide 3 Try.f3 rfl rfl rfl rfl rfl rfl rfl ⟨rfl, rfl, rfl, rfl, rfl⟩ rfl rfl rfl rfl rfl (by kernel_rfl) Try.func3 (by kernel_rfl)
    (of_decide_eq_true (by kernel_rfl)) (by unfold Func.isWrapper; first | (rw [if_pos (by decide +kernel)]; kernel_rfl) | (rw [if_neg (by decide +kernel)]; exact ⟨rfl, rfl⟩))
    (fun os started H enc _ => lifted os started H enc)

theorem proved : Rows.FnKnownThenSaid := over
#print axioms proved
end Go.Proofs.Ythilfkcebbnoiaa.fnKnownThen
