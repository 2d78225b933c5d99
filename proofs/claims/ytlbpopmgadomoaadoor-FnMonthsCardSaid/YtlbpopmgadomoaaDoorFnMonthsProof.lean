/- Proves the given statement of the law FnMonths: for every input that the row lets in, the law's Go function returns true and every argument reads as before; no condition of mine; the card ties the listed tables of the library to the program's text. -/
import Derived.Test.YtlbpopmgadomoaaDoorMonParse
import Derived.Test.YtlbpopmgadomoaaDoorNamesLaid
import Derived.Test.YtlbpopmgadomoaaDoorBelowKit
import Derived.Test.YtlbpopmgadomoaaDoorDrawRow
import Derived.Test.YtlbpopmgadomoaaDoorItoa
import Derived.Test.YtlbpopmgadomoaaDoorMon
import Derived.Test.YtlbpopmgadomoaaDoorCards
import Derived.Test.YtlbpopmgadomoaaDoorTie
import Derived.WalkKit
import Derived.ProofKit
import Derived.OpenShut
import Derived.ChangeOld
import Derived.Below
import Derived.Deep.DeepHandedRow
import Derived.Lib.LaidTab
import Derived.Lib.ItoaNum
import Derived.Stop.LaidErr
import Derived.OpenVars
import Derived.ShutString
namespace Go.Proofs.YtlbpopmgadomoaaDoor.fnMonths
open Go.ChangeShapes Go.WideShapes Go.ChangeAt Go.RowKit
open Go.ChangeMaps (open_string shut_string)
set_option linter.unusedVariables false

theorem own : ownKnob Tryd.prog.godebug = none := by kernel_rfl
theorem laidOut : laidOutB Tryd.prog = true := by kernel_rfl

/-- WHAT THE WALK IS TOLD OF A SLICE OF INTEGERS THAT CAME IN: it is nil; or it leads to a row of 'cap' cells, the numbers 'zs' (the first 'len' are its elements, the rest its spare room), each fitting its kind. -/
def IsRow (k : IntKind) (w : World) (a : Option Addr) (len cap : Nat) (zs : List Int) : Prop :=
  (a = none ∧ len = 0 ∧ cap = 0 ∧ zs = []) ∨
  ∃ x, a = some x ∧ len ≤ cap ∧ cap ≤ maxLen ∧ zs.length = cap ∧ (∀ i, i < zs.length → w.cell? (x.add i) = some (.int k (zs.getD i 0))) ∧ ∀ n ∈ zs, (Lit.int k n).wf = true

theorem gTab : Tryd.prog.globalNamed "internal/strconv.uint64pow10" = some 1 := by kernel_rfl
theorem gTabType : (Tryd.prog.globals[1]?).map (fun x => x.type) = some 51 := by kernel_rfl
theorem cellsTab : Tryd.prog.cellsOf 51 = 20 := by kernel_rfl
theorem cellsElem : Tryd.prog.cellsOf 44 = 1 := by kernel_rfl
/-- What the row's list gives: the table of powers of ten. -/
theorem table {W : World} (h : laidMetH Tryd.prog Rows.fnMonthsRow.laid W) : Lib.TabIs Tryd.prog W "internal/strconv.uint64pow10" .u64 Lib.pow10Tab := by
  have h2 : laidMet Tryd.prog Rows.fnMonthsRow.laid W := h
  have e : Lib.pow10Tab = [1, 10, 100, 1000, 10000, 100000, 1000000, 10000000, 100000000, 1000000000, 10000000000, 100000000000, 1000000000000, 10000000000000, 100000000000000, 1000000000000000, 10000000000000000, 100000000000000000, 1000000000000000000, 10000000000000000000] := by decide
  rw [e]
  exact Lib.tabIs_of_head (rest := [("loop.example/g00980/impl.monthNames", Rows.laid_loop_example_g00980_impl_monthNames)]) gTab gTabType Tryd.underlying51 Tryd.underlying44 cellsElem cellsTab (h2.tail.tail)

/-- What the row's list gives: the names of months. -/
theorem names {W : World} (h : laidMetH Tryd.prog Rows.fnMonthsRow.laid W) : MonText.Names W := by
  have h2 : laidMet Tryd.prog Rows.fnMonthsRow.laid W := h
  exact NamesLaid.names_of (h2.tail.tail.tail)

theorem laidOutP : laidOutB Tryd.prog = true := by kernel_rfl

/-! ### STEP 1: THE WALK: the Go text returns true, AND WRITES NOTHING THAT WAS THERE: 'Below w.heap.size w w'' (Derived/Below.lean: '.refl', '.alloc', '.drew', '.setCell' at a new block, '.trans'). Open each 'IsRow' by 'rcases' AHEAD of 'go_enter'; part every test ahead of the walk. -/
theorem walk (a0 : Option Addr) (len0 cap0 : Nat) (z0 : List Int) (w : World) (htab : Lib.TabIs Tryd.prog w "internal/strconv.uint64pow10" .u64 Lib.pow10Tab) (hnm : MonText.Names w) (w0 : IsRow .u8 w a0 len0 cap0 z0) :
    Calls Tryd.prog 3 #[.slice a0 len0 cap0] w fun e w' => e = .returned (.bool true) ∧ Below w.heap.size w w' := by
  obtain ⟨hcode, hs⟩ := CurKit.code_at w0
  clear w0
  have HK := Lib.hid hcode
  have HS := Lib.hid hs
  have HT := Lib.hid htab
  have HN := Lib.hid hnm
  clear hcode htab hnm
  unfold maxLen at hs
  by_cases hbig : 1048576 < len0
  · go_enter Tryd.func3, Tryd.ntmps3
    go_wp2
    go_ret
    exact ⟨rfl, Below.refl _ _⟩
  · go_enter Tryd.func3, Tryd.ntmps3
    go_wp2_with (go_at_call 6; go_in)
    refine (DrawRow.places_c _ a0 len0 cap0 HK.out HS.out).mono ?_
    rintro e w1 ⟨l, a, cap, hl, hin, rfl, ho, hb1⟩
    have HB1 := Lib.hid hb1
    have T1 := Lib.hid (ItoaC.tab_below HT.out hb1)
    have N1 := Lib.hid (MonText.names_below HN.out hb1)
    obtain ⟨g, rfl, _, hg, c0, f0⟩ := ho.at 0 (by omega)
    obtain ⟨t, ht⟩ : ∃ t, l[0] = t := ⟨_, rfl⟩
    have i0 := hin.get 0 (by omega)
    rw [ht] at c0 i0
    obtain ⟨i00, i01⟩ := i0
    clear ht hin hl ho hb1 f0
    obtain ⟨m, rfl⟩ := Int.eq_ofNat_of_zero_le i00
    have hm : m % 3600 < 3600 := by omega
    have ex := MonText.mtx_yes (m % 3600) hm
    rw [show ((m % 3600 : Nat) : Int) = (m : Int) % 3600 by omega] at ex
    have X := Lib.hid ex
    obtain ⟨s, hs0⟩ : ∃ s : ByteArray, (⟨(MonMath.mt (m % 3600)).toArray⟩ : ByteArray) = s := ⟨_, rfl⟩
    have hs7 : s.size = 7 := by rw [← hs0]; rfl
    have hl : s.data.toList = MonMath.mt (m % 3600) := by rw [← hs0]
    have hp : MonMath.pm s.data.toList = some (m % 3600) := by rw [hl]; exact MonMath.pm_mt _ hm
    have P := Lib.hid (fun w h => MonParse.pm_i s w (by omega) h)
    rw [hp] at P
    rw [hs0] at X
    have Z7 := Lib.hid hs7
    have SZ : (s.size : Int) = 7 := by omega
    have MO := Lib.hid (show Mon.mof (1900 + (m : Int) % 3600 / 12) (1 + (m : Int) % 12) = (m : Int) % 3600 by
      rw [Mon.mof_yes (by omega) (by omega) (by omega) (by omega)]; omega)
    have OK := Lib.hid (show Mon.inB ((m : Int) % 3600) 0 3599 = true from Mon.inB_yes (by omega) (by omega))
    have e0 : (0 : Int) ≤ (m : Int) % 3600 := by omega
    have e1 : (m : Int) % 3600 < 3600 := by omega
    have ec : ((m % 3600 : Nat) : Int) = (m : Int) % 3600 := by omega
    have R := Lib.hid (show NumParse.resN (some (m % 3600)) = .tuple #[.int .i64 ((m : Int) % 3600), .bool true] by
      show Value.tuple #[.int .i64 ((m % 3600 : Nat) : Int), .bool true] = _
      rw [ec])
    clear hl hp ex hs7 ec
    have HSS := Lib.hid hs0
    clear hs0
    go_wp2_with fail
    refine (MonText.text_i _ _ T1.out N1.out).mono ?_
    rintro e w2 ⟨rfl, b2⟩
    rw [X.out]
    have T2 := Lib.hid (ItoaC.tab_below T1.out b2)
    have N2 := Lib.hid (MonText.names_below N1.out b2)
    have B2 := Lib.hid (BelowKit.bl_trans HB1.out b2)
    clear b2
    go_wp2_with fail
    refine (P.out _ N2.out).mono ?_
    rintro e w3 ⟨rfl, b3⟩
    rw [R.out]
    have T3 := Lib.hid (ItoaC.tab_below T2.out b3)
    have N3 := Lib.hid (MonText.names_below N2.out b3)
    have B3 := Lib.hid (BelowKit.bl_trans B2.out b3)
    clear b3
    by_cases hz : (m : Int) % 3600 = 0
    · have z1 : ((m : Int) % 3600 == 0) = true := by rw [beq_iff_eq]; exact hz
      have z2 := Lib.hid hz
      clear hz
      go_wp2_with fail
      refine (Mon.of_i _ _ _).mono ?_
      rintro e w' ⟨rfl, rfl⟩
      rw [MO.out]
      go_wp2_with fail
      refine (Mon.ok_i _ _).mono ?_
      rintro e w' ⟨rfl, rfl⟩
      rw [OK.out]
      go_wp2
      go_ret
      exact ⟨rfl, B3.out⟩
    · have z1 : ((m : Int) % 3600 == 0) = false := by rw [beq_eq_false_iff_ne]; exact hz
      have z2 : 1 ≤ (m : Int) % 3600 := by omega
      have ex := MonText.mtx_yes (m % 3600 - 1) (by omega)
      rw [show ((m % 3600 - 1 : Nat) : Int) = (m : Int) % 3600 - 1 by omega] at ex
      have hlt := MonMath.mt_less (m % 3600 - 1) (by omega)
      rw [show m % 3600 - 1 + 1 = m % 3600 by omega] at hlt
      obtain ⟨r, hr⟩ : ∃ r : ByteArray, (⟨(MonMath.mt (m % 3600 - 1)).toArray⟩ : ByteArray) = r := ⟨_, rfl⟩
      have hlt2 : Op.bytesLess r.toList s.toList = true := by
        rw [ByteArray.toList_eq, ByteArray.toList_eq, ← hr, ← HSS.out]
        exact hlt
      rw [hr] at ex
      have Y := Lib.hid ex
      clear hz hr hlt ex
      go_wp2_with fail
      refine (Mon.of_i _ _ _).mono ?_
      rintro e w' ⟨rfl, rfl⟩
      rw [MO.out]
      go_wp2_with fail
      refine (Mon.ok_i _ _).mono ?_
      rintro e w' ⟨rfl, rfl⟩
      rw [OK.out]
      go_wp2_with fail
      refine (MonText.text_i _ _ T3.out N3.out).mono ?_
      rintro e w4 ⟨rfl, b4⟩
      rw [Y.out]
      have B4 := Lib.hid (BelowKit.bl_trans B3.out b4)
      clear b4
      go_wp2
      go_ret
      exact ⟨rfl, B4.out⟩

/-- What the walk gives, for every argument and every world that holds the listed tables. -/
theorem contract (H : Type) (enc : TypeId × Value → H) (W : World) (base : Nat) (args : Array Value) (ds gs : List (DataW H)) (before : List MemPlace)
    (hval0 : ∀ (j : Nat) t v, Tryd.f3.params[j]? = some t → args[j]? = some v → Value.okWide Tryd.prog W .any base t v)
    (hW : DataW.Whole enc Tryd.prog Tryd.f3.params.toList Rows.fnMonthsSpec.vars false W args.toList ds gs before) (hL : laidMetH Tryd.prog Rows.fnMonthsRow.laid W) :
    Calls Tryd.prog 3 args W fun e W' => ∃ v, e = .returned v ∧ Rows.fnMonthsSpec.post enc Tryd.prog Tryd.f3 false true false false W args v W' := by
  have hval : ∀ (j : Nat) t v, Tryd.f3.params[j]? = some t → args[j]? = some v → Value.okWide Tryd.prog W .any base t v := hval0
  have hW' := hW
  obtain ⟨p, q, hA0, hV, rfl, hfz, hnd⟩ := hW
  have hA : DataW.TrodAll enc Tryd.prog W 0 (fun _ => true) true Tryd.f3.params.toList args.toList ds p := hA0
  rw [Tryd.params3] at hA hval
  obtain ⟨v0, vs0, d0, ds0, p0, q0, hargs, rfl, rfl, h0, r0⟩ := trodAll_cons hA
  obtain ⟨rfl, rfl, rfl⟩ := trodAll_nil r0
  obtain rfl : args = #[v0] := by cases args; simp_all
  have hV1 : DataW.TrodVars enc Tryd.prog W (fun _ => true) ["loop.example/g00980/impl.monthNames"] gs q := hV
  obtain ⟨gv, tv, csv, fv, dv, pv, rfl, hgv, htv, hvv, hdv, rfl⟩ := trodVars_one hV1
  obtain ⟨a0, len0, cap0, rfl⟩ := okWide_slice Tryd.underlying22 (hval 0 22 v0 rfl rfl)
  have k0 := h0
  have lt0 : ∀ x ∈ p0, x.block < W.heap.size := by obtain ⟨m, hm⟩ := k0; exact DataW.trod_lt m _ _ _ hm
  obtain ⟨z0, w0⟩ : ∃ zs, IsRow .u8 W a0 len0 cap0 zs := by
    obtain ⟨fuel, hf⟩ := h0
    rcases open_ints Tryd.underlying22 Tryd.underlying5 (by kernel_rfl) hf with ⟨hcs, _⟩ | ⟨x, l, c, zs, hcs, _, hl, hm, hz, _, hcell, hwz⟩
    · simp [Value.cells] at hcs
      obtain ⟨rfl, rfl, rfl⟩ := hcs
      exact ⟨[], .inl ⟨rfl, rfl, rfl, rfl⟩⟩
    · simp [Value.cells] at hcs
      obtain ⟨rfl, rfl, rfl⟩ := hcs
      exact ⟨zs, .inr ⟨_, rfl, hl, hm, by simpa using hz, hcell, hwz⟩⟩
  clear hA0 hval0
  refine (walk a0 len0 cap0 z0 W (table hL) (names hL) w0).mono fun e W' ⟨he, bel⟩ => ?_
  subst he
  exact ⟨_, rfl, _, _, _, [], _, _, hW', trodAll_mk1 (shut_bool Tryd.underlying4 _), (trodAll_cons_mk (Below.trod laidOut (by kernel_rfl) (of_decide_eq_true (by kernel_rfl)) k0 bel lt0) trodAll_mk0), Below.trodVars laidOutP bel (by kernel_rfl) hV1, bel.frame _, fun h => by cases h⟩

/-- A world for the witness: the settled one, the tables holding what their initialisers lay. -/
noncomputable def laidWorld (os : Os) : World :=
  { World.holding Tryd.prog os ⟨#[], #[], []⟩ with heap := (World.holding Tryd.prog os ⟨#[], #[], []⟩).heap |>.modify 2 (fun | .cells _ t frozen => .cells #[.int .u8 0, .int .u8 1, .int .u8 28, .int .u8 2, .int .u8 29, .int .u8 14, .int .u8 24, .int .u8 3, .int .u8 30, .int .u8 22, .int .u8 20, .int .u8 15, .int .u8 25, .int .u8 17, .int .u8 4, .int .u8 8, .int .u8 31, .int .u8 27, .int .u8 13, .int .u8 23, .int .u8 21, .int .u8 19, .int .u8 16, .int .u8 7, .int .u8 26, .int .u8 12, .int .u8 18, .int .u8 6, .int .u8 11, .int .u8 5, .int .u8 10, .int .u8 9] t frozen | o => o)|>.modify 3 (fun | .cells _ t frozen => .cells #[.int .u8 0, .int .u8 1, .int .u8 56, .int .u8 2, .int .u8 57, .int .u8 49, .int .u8 28, .int .u8 3, .int .u8 61, .int .u8 58, .int .u8 42, .int .u8 50, .int .u8 38, .int .u8 29, .int .u8 17, .int .u8 4, .int .u8 62, .int .u8 47, .int .u8 59, .int .u8 36, .int .u8 45, .int .u8 43, .int .u8 51, .int .u8 22, .int .u8 53, .int .u8 39, .int .u8 33, .int .u8 30, .int .u8 24, .int .u8 18, .int .u8 12, .int .u8 5, .int .u8 63, .int .u8 55, .int .u8 48, .int .u8 27, .int .u8 60, .int .u8 41, .int .u8 37, .int .u8 16, .int .u8 46, .int .u8 35, .int .u8 44, .int .u8 21, .int .u8 52, .int .u8 32, .int .u8 23, .int .u8 11, .int .u8 54, .int .u8 26, .int .u8 40, .int .u8 15, .int .u8 34, .int .u8 20, .int .u8 31, .int .u8 10, .int .u8 25, .int .u8 14, .int .u8 19, .int .u8 9, .int .u8 13, .int .u8 8, .int .u8 7, .int .u8 6] t frozen | o => o)|>.modify 1 (fun | .cells _ t frozen => .cells #[.int .u64 1, .int .u64 10, .int .u64 100, .int .u64 1000, .int .u64 10000, .int .u64 100000, .int .u64 1000000, .int .u64 10000000, .int .u64 100000000, .int .u64 1000000000, .int .u64 10000000000, .int .u64 100000000000, .int .u64 1000000000000, .int .u64 10000000000000, .int .u64 100000000000000, .int .u64 1000000000000000, .int .u64 10000000000000000, .int .u64 100000000000000000, .int .u64 1000000000000000000, .int .u64 10000000000000000000] t frozen | o => o)|>.modify 0 (fun | .cells _ t frozen => .cells #[.string ⟨#[48, 49]⟩, .string ⟨#[48, 50]⟩, .string ⟨#[48, 51]⟩, .string ⟨#[48, 52]⟩, .string ⟨#[48, 53]⟩, .string ⟨#[48, 54]⟩, .string ⟨#[48, 55]⟩, .string ⟨#[48, 56]⟩, .string ⟨#[48, 57]⟩, .string ⟨#[49, 48]⟩, .string ⟨#[49, 49]⟩, .string ⟨#[49, 50]⟩] t frozen | o => o) }
theorem laid_met (os : Os) : laidMet Tryd.prog Rows.fnMonthsRow.laid ((laidWorld os).forCall (fun _ _ => 0) ⟨#[], #[.slice none 0 0], []⟩).memory :=
  laidMet_of_run' 8 (by kernel_rfl) (by kernel_rfl)
theorem reads (os : Os) {H : Type} (enc : TypeId × Value → H) : ∃ places, DataW.whole enc Tryd.prog ((laidWorld os).forCall (fun _ _ => 0) ⟨#[], #[.slice none 0 0], []⟩).memory Tryd.f3.params.toList Rows.fnMonthsSpec.vars false #[Value.slice none 0 0].toList 8 = some ([.nil], [Rows.laid_loop_example_g00980_impl_monthNames], places) :=
  ⟨[.cell 0 0, .cell 0 1, .cell 0 2, .cell 0 3, .cell 0 4, .cell 0 5, .cell 0 6, .cell 0 7, .cell 0 8, .cell 0 9, .cell 0 10, .cell 0 11], by kernel_rfl⟩

set_option maxRecDepth 100000 in
theorem lifted (os : Os) (started : os.Started) (H : Type) (enc : TypeId × Value → H) (F : Stop.Interp) :
    ReturnsInHanded {} Tryd.checked os 3 .any ((OpenSpec.ofChange Rows.fnMonthsSpec).preRow enc Tryd.prog Tryd.f3 Rows.fnMonthsRow.domain false Rows.fnMonthsRow.laid) (((OpenSpec.ofChange Rows.fnMonthsSpec).at F).post enc Tryd.prog Tryd.f3 false true false false) := by
  obtain ⟨places, hx⟩ := reads os enc
  refine returnsInHanded_of_row (C := Tryd.checked) (s := OpenSpec.ofChange Rows.fnMonthsSpec) own started (by kernel_rfl) Tryd.func3
    (witness_row_at (enc := enc) (C := Tryd.checked) false (laidWorld os) #[.slice none 0 0] rfl (by kernel_rfl) (by kernel_rfl) (by kernel_rfl)
      (OpenSpec.preRow_of_cond 8 hx (by kernel_rfl) (fun k hk => by cases hk) (by kernel_rfl) (laid_met os))) ?_
  intro W base args ds gs before hval hW _ _ _ hL _ _
  exact contract H enc W base args ds gs before hval hW hL

theorem said : Rows.FnMonthsSaid :=
  OpenClaim.holds_of_cond 3 Tryd.f3 rfl rfl rfl rfl rfl rfl rfl ⟨rfl, rfl, rfl, rfl, rfl⟩ rfl rfl rfl rfl rfl (by kernel_rfl) Tryd.func3 (by kernel_rfl)
    (of_decide_eq_true (by kernel_rfl)) (by unfold Func.isWrapper; first | (rw [if_pos (by decide +kernel)]; kernel_rfl) | (rw [if_neg (by decide +kernel)]; exact ⟨rfl, rfl⟩))
    (fun os started H enc _ F => by rw [OpenClaim.pre_eq_preRow]; exact lifted os started H enc F)

theorem plain (f : FuncId) (fn : Func) (hf : Tryd.pinned.checked.prog.funcNamed "loop.example/g00980/laws.FnMonths" = some f) (hfn : Tryd.pinned.checked.prog.funcs[f]? = some fn) :
    false = Tryd.pinned.checked.prog.looks [] ∧ ∀ (j : Nat) t, fn.params[j]? = some t → Tryd.pinned.checked.prog.wantsStandIn t = false := by
  obtain rfl : f = 3 := Option.some.inj ((show Tryd.prog.funcNamed "loop.example/g00980/laws.FnMonths" = some 3 by kernel_rfl).symm.trans hf) |>.symm
  obtain rfl : fn = Tryd.f3 := (Option.some.inj (Tryd.func3.symm.trans hfn)).symm
  refine ⟨by kernel_rfl, fun j t ht => ?_⟩
  rw [Tryd.params3] at ht
  obtain rfl : t = 22 := by simpa using Array.mem_of_getElem? ht
  exact (show Tryd.prog.wantsStandIn 22 = false by kernel_rfl)

theorem proved : Rows.FnMonthsCardSaid :=
  Claim7.holds_tied_plain_at .later [] _ _ _ _ said (fun _ h => by cases h) (by kernel_rfl) (fun _ h => by cases h) fnMonths_row_tie rfl ⟨rfl, rfl⟩ (by kernel_rfl) rfl plain (by kernel_rfl)
#print axioms proved
end Go.Proofs.YtlbpopmgadomoaaDoor.fnMonths
