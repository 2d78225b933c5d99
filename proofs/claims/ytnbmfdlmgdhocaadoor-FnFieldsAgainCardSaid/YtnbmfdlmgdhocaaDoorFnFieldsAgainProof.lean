/- Proves the given statement of the law FnFieldsAgain: for every input that the row lets in, the law's Go function returns true and every argument reads as before; no condition of mine; the card ties the listed tables of the library to the program's text. -/
import Derived.Test.YtnbmfdlmgdhocaaDoorDrawSplit
import Derived.Test.YtnbmfdlmgdhocaaDoorItoa
import Derived.Test.YtnbmfdlmgdhocaaDoorSplitS
import Derived.Test.YtnbmfdlmgdhocaaDoorSame
import Derived.Test.YtnbmfdlmgdhocaaDoorSplitBack
import Derived.Test.YtnbmfdlmgdhocaaDoorHexBack
import Derived.Test.YtnbmfdlmgdhocaaDoorCards
import Derived.Test.YtnbmfdlmgdhocaaDoorTie
import Derived.WalkKit
import Derived.ProofKit
import Derived.OpenShut
import Derived.ChangeOld
import Derived.Below
import Derived.Deep.DeepHandedRow
import Derived.Lib.LaidTab
import Derived.Lib.ItoaNum
import Derived.Stop.LaidErr
import Derived.ShutString
namespace Go.Proofs.YtnbmfdlmgdhocaaDoor.fnFieldsAgain
open Go.ChangeShapes Go.WideShapes Go.ChangeAt Go.RowKit
open Go.ChangeMaps (open_string shut_string)
set_option linter.unusedVariables false

theorem own : ownKnob Tryd.prog.godebug = none := by kernel_rfl
theorem laidOut : laidOutB Tryd.prog = true := by kernel_rfl

/-- WHAT THE WALK IS TOLD OF A SLICE OF INTEGERS THAT CAME IN: it is nil; or it leads to a row of 'cap' cells, the numbers 'zs' (the first 'len' are its elements, the rest its spare room), each fitting its kind. -/
def IsRow (k : IntKind) (w : World) (a : Option Addr) (len cap : Nat) (zs : List Int) : Prop :=
  (a = none ∧ len = 0 ∧ cap = 0 ∧ zs = []) ∨
  ∃ x, a = some x ∧ len ≤ cap ∧ cap ≤ maxLen ∧ zs.length = cap ∧ (∀ i, i < zs.length → w.cell? (x.add i) = some (.int k (zs.getD i 0))) ∧ ∀ n ∈ zs, (Lit.int k n).wf = true

theorem gTab : Tryd.prog.globalNamed "internal/strconv.uint64pow10" = some 0 := by kernel_rfl
theorem gTabType : (Tryd.prog.globals[0]?).map (fun x => x.type) = some 62 := by kernel_rfl
theorem cellsTab : Tryd.prog.cellsOf 62 = 20 := by kernel_rfl
theorem cellsElem : Tryd.prog.cellsOf 55 = 1 := by kernel_rfl
/-- What the row's list gives: the table of powers of ten. -/
theorem table {W : World} (h : laidMetH Tryd.prog Rows.fnFieldsAgainRow.laid W) : Lib.TabIs Tryd.prog W "internal/strconv.uint64pow10" .u64 Lib.pow10Tab := by
  have h2 : laidMet Tryd.prog Rows.fnFieldsAgainRow.laid W := h
  have e : Lib.pow10Tab = [1, 10, 100, 1000, 10000, 100000, 1000000, 10000000, 100000000, 1000000000, 10000000000, 100000000000, 1000000000000, 10000000000000, 100000000000000, 1000000000000000, 10000000000000000, 100000000000000000, 1000000000000000000, 10000000000000000000] := by decide
  rw [e]
  exact Lib.tabIs_of_head (rest := []) gTab gTabType Tryd.underlying62 Tryd.underlying55 cellsElem cellsTab (h2.tail.tail)

/-! ### STEP 1: THE WALK: the Go text returns true, AND WRITES NOTHING THAT WAS THERE: 'Below w.heap.size w w'' (Derived/Below.lean: '.refl', '.alloc', '.drew', '.setCell' at a new block, '.trans'). Open each 'IsRow' by 'rcases' AHEAD of 'go_enter'; part every test ahead of the walk. -/
theorem walk (a0 : Option Addr) (len0 cap0 : Nat) (z0 : List Int) (w : World) (htab : Lib.TabIs Tryd.prog w "internal/strconv.uint64pow10" .u64 Lib.pow10Tab) (w0 : IsRow .u8 w a0 len0 cap0 z0) :
    Calls Tryd.prog 5 #[.slice a0 len0 cap0] w fun e w' => e = .returned (.bool true) ∧ Below w.heap.size w w' := by
  obtain ⟨hcode, hs⟩ := CurKit.code_at w0
  clear w0
  have HK := Lib.hid hcode
  have HS := Lib.hid hs
  have HT := Lib.hid htab
  clear hcode htab
  unfold maxLen at hs
  by_cases hbig : 1048576 < len0
  · go_enter Tryd.func5, Tryd.ntmps5
    go_wp2
    go_ret
    exact ⟨rfl, Below.refl _ _⟩
  · have CI : Hid (∀ (s : ByteArray) (w : World), s.size ≤ 1048576 → Calls Tryd.prog 15 #[.string s] w (SplitI.Fields w (SplitMath.split s))) := by
      show ∀ (s : ByteArray) (w : World), s.size ≤ 1048576 → Calls Tryd.prog 15 #[.string s] w (SplitI.Fields w (SplitMath.split s))
      intro s w hz
      by_cases h : 600 < s.size
      · exact SplitI.impl_long s w h hz
      · exact SplitI.impl_split s w (by omega)
    have CS : Hid (∀ (s : ByteArray) (w : World), s.size ≤ 1048576 → Calls Tryd.prog 16 #[.string s] w (SplitI.Fields w (SplitMath.split s))) := by
      show ∀ (s : ByteArray) (w : World), s.size ≤ 1048576 → Calls Tryd.prog 16 #[.string s] w (SplitI.Fields w (SplitMath.split s))
      intro s w hz
      by_cases h : 600 < s.size
      · exact SplitS.spec_long s w h hz
      · exact SplitS.spec_split s w (by omega)
    go_enter Tryd.func5, Tryd.ntmps5
    go_wp2_with (go_at_call 7; go_in)
    refine (DrawSplit.draw_c _ a0 len0 cap0 HK.out HS.out).mono ?_
    rintro e w1 ⟨s, hsz, rfl, b1⟩
    have T1 := Lib.hid (ItoaC.tab_below HT.out b1)
    have B1 := Lib.hid b1
    clear b1
    obtain ⟨r, hr⟩ : ∃ r, SplitMath.split s = r := ⟨_, rfl⟩
    have H1 := Lib.hid (fun w => CI.out s w (by omega))
    have H2 := Lib.hid (fun w => CS.out s w (by omega))
    rw [hr] at H1 H2
    cases r with
    | none =>
      clear hr
      have C3 := Lib.hid (fun w ht => ItoaC.impl_fmt (-3) w (by omega) (by omega) ht)
      rw [HexBack.fmt_neg3] at C3
      go_wp2_with fail
      refine (H1.out _).mono ?_
      rintro e w2 ⟨v2, rfl, o2, b2⟩
      obtain ⟨a2, cap2, rfl, _⟩ := o2.form
      have T2 := Lib.hid (ItoaC.tab_below T1.out b2)
      have B2 := Lib.hid (B1.out.trans (b2.mono B1.out.size))
      clear o2 b2
      go_wp2_with fail
      refine (H2.out _).mono ?_
      rintro e w3 ⟨v3, rfl, o3, b3⟩
      have T3 := Lib.hid (ItoaC.tab_below T2.out b3)
      have B3 := Lib.hid (B2.out.trans (b3.mono B2.out.size))
      clear o3 b3
      go_wp2_with fail
      refine (C3.out _ T3.out).mono ?_
      rintro e w4 ⟨rfl, b4⟩
      have B4 := Lib.hid (B3.out.trans (b4.mono B3.out.size))
      clear b4
      go_wp2
      go_ret
      exact ⟨rfl, B4.out⟩
    | some p =>
      obtain ⟨hg, h24, h600⟩ := SplitBack.split_facts s p hr
      obtain ⟨m, hm⟩ : ∃ m, p.length = m := ⟨_, rfl⟩
      have HG := Lib.hid hg
      have H6 := Lib.hid h600
      clear hr hg h600
      go_wp2_with fail
      refine (H1.out _).mono ?_
      rintro e w2 ⟨v2, rfl, o2, b2⟩
      have o2' : StrKit.OwnsS w2 w1.heap.size 9 v2 p := o2
      have B2 := Lib.hid (B1.out.trans (b2.mono B1.out.size))
      clear o2 b2
      go_wp2_with fail
      refine (H2.out _).mono ?_
      rintro e w3 ⟨v3, rfl, o3, b3⟩
      have o4 := o2'.below b3 o2'.lt
      have B3 := Lib.hid (B2.out.trans (b3.mono B2.out.size))
      clear o3 b3 o2'
      obtain ⟨a2, cap2, rfl, kk⟩ := o4.form
      have O4 := Lib.hid o4
      have KK := Lib.hid kk
      clear o4 kk
      rw [hm] at h24 O4 ⊢
      have HM := Lib.hid hm
      clear hm
      go_wp2_with fail
      go_loop [8, 9] (fun t q => ∃ (k : Nat) (acc : ByteArray), k ≤ m ∧ q = .int .i64 k ∧ t = .string acc ∧ acc.size ≤ 601 * k ∧ Hid (acc.data.toList = SplitBack.joinB (p.take k))) (fun _ q => m - (intOf q).toNat)
      case atStart => exact ⟨0, ⟨#[]⟩, Nat.zero_le _, rfl, rfl, Nat.le_refl _, rfl⟩
      case round =>
        obtain ⟨k, acc, hk, rfl, rfl, hacc, hj⟩ := hrel
        by_cases hlt : k < m
        · obtain ⟨g, rfl, _, _, q1, _⟩ := KK.out k (by rw [HM.out]; exact hlt)
          obtain ⟨f, hf⟩ : ∃ f, p[k]'(by rw [HM.out]; exact hlt) = f := ⟨_, rfl⟩
          rw [hf] at q1
          have hf6 : f.size ≤ 600 := by rw [← hf]; exact H6.out _ (List.getElem_mem _)
          have hfp : Hid (p.take (k + 1) = p.take k ++ [f]) := by
            show p.take (k + 1) = p.take k ++ [f]
            rw [List.take_succ_eq_append_getElem (by rw [HM.out]; exact hlt), hf]
          have haf : (acc ++ f).size ≤ 601 * k + 600 := by rw [DrawSplit.app_size]; omega
          clear hf
          go_wp2
          go_round
          case rel =>
            refine ⟨k + 1, _, by omega, by go_num, rfl, by rw [DrawSplit.app_size]; show (acc ++ f).size + 1 ≤ _; omega, ?_⟩
            show (acc ++ f ++ ⟨#[32]⟩).data.toList = _
            rw [hfp.out, SplitBack.joinB_snoc, ← hj.out]
            simp
          case measure => simp [intOf]; omega
        · have hkm : k = m := by omega
          have hall : acc.data.toList = SplitBack.joinB p := by rw [hj.out, hkm, ← HM.out, List.take_length]
          have H3 := Lib.hid (fun w => CI.out acc w (by omega))
          by_cases hlong : 600 < acc.size
          · rw [SplitMath.split_long acc hlong] at H3
            clear hall
            go_wp2_with fail
            refine (H3.out _).mono ?_
            rintro e w4 ⟨v4, rfl, o5, b4⟩
            have B4 := Lib.hid (B3.out.trans (b4.mono B3.out.size))
            clear o5 b4
            go_wp2
            go_ret
            exact ⟨rfl, B4.out⟩
          · rw [SplitBack.split_join acc p hall HG.out (by rw [HM.out]; exact h24) (by omega)] at H3
            clear hall
            go_wp2_with fail
            refine (H3.out _).mono ?_
            rintro e w4 ⟨v4, rfl, o5, b4⟩
            have o5' : StrKit.OwnsS w4 w3.heap.size 9 v4 p := o5
            have B4 := Lib.hid (B3.out.trans (b4.mono B3.out.size))
            have S := Lib.hid (Same.same_c w4 _ _ _ _ p (by rw [HM.out]; omega) (O4.out.below b4 O4.out.lt) o5')
            clear o5 o5' b4
            go_wp2_with fail
            refine S.out.mono ?_
            rintro e w5 ⟨rfl, n5, rfl⟩
            go_wp2
            go_ret
            exact ⟨rfl, B4.out.trans ⟨rfl, rfl, rfl, Nat.le_refl _, fun _ _ => rfl⟩⟩

/-- What the walk gives, for every argument and every world that holds the listed tables. -/
theorem contract (H : Type) (enc : TypeId × Value → H) (W : World) (base : Nat) (args : Array Value) (ds gs : List (DataW H)) (before : List MemPlace)
    (hval0 : ∀ (j : Nat) t v, Tryd.f5.params[j]? = some t → args[j]? = some v → Value.okWide Tryd.prog W .any base t v)
    (hW : DataW.Whole enc Tryd.prog Tryd.f5.params.toList Rows.fnFieldsAgainSpec.vars false W args.toList ds gs before) (hL : laidMetH Tryd.prog Rows.fnFieldsAgainRow.laid W) :
    Calls Tryd.prog 5 args W fun e W' => ∃ v, e = .returned v ∧ Rows.fnFieldsAgainSpec.post enc Tryd.prog Tryd.f5 false true false false W args v W' := by
  have hval : ∀ (j : Nat) t v, Tryd.f5.params[j]? = some t → args[j]? = some v → Value.okWide Tryd.prog W .any base t v := hval0
  have hW' := hW
  obtain ⟨p, q, hA0, hV, rfl, hfz, hnd⟩ := hW
  have hA : DataW.TrodAll enc Tryd.prog W 0 (fun _ => true) true Tryd.f5.params.toList args.toList ds p := hA0
  rw [Tryd.params5] at hA hval
  obtain ⟨v0, vs0, d0, ds0, p0, q0, hargs, rfl, rfl, h0, r0⟩ := trodAll_cons hA
  obtain ⟨rfl, rfl, rfl⟩ := trodAll_nil r0
  obtain rfl : args = #[v0] := by cases args; simp_all
  obtain ⟨rfl, rfl⟩ := trodVars_none hV
  obtain ⟨a0, len0, cap0, rfl⟩ := okWide_slice Tryd.underlying22 (hval 0 22 v0 rfl rfl)
  have k0 := h0
  have lt0 : ∀ x ∈ p0, x.block < W.heap.size := by obtain ⟨m, hm⟩ := k0; exact DataW.trod_lt m _ _ _ hm
  obtain ⟨z0, w0⟩ : ∃ zs, IsRow .u8 W a0 len0 cap0 zs := by
    obtain ⟨fuel, hf⟩ := h0
    rcases open_ints Tryd.underlying22 Tryd.underlying5 (by kernel_rfl) hf with ⟨hcs, _⟩ | ⟨x, l, c, zs, hcs, _, hl, hm, hz, _, hcell, hwz⟩
    · simp [Value.cells] at hcs
      obtain ⟨rfl, rfl, rfl⟩ := hcs
      exact ⟨[], .inl ⟨rfl, rfl, rfl, rfl⟩⟩
    · simp [Value.cells] at hcs
      obtain ⟨rfl, rfl, rfl⟩ := hcs
      exact ⟨zs, .inr ⟨_, rfl, hl, hm, by simpa using hz, hcell, hwz⟩⟩
  clear hA0 hval0
  refine (walk a0 len0 cap0 z0 W (table hL) w0).mono fun e W' ⟨he, bel⟩ => ?_
  subst he
  exact ⟨_, rfl, _, _, _, [], _, [], hW', trodAll_mk1 (shut_bool Tryd.underlying4 _), (trodAll_cons_mk (Below.trod laidOut (by kernel_rfl) (of_decide_eq_true (by kernel_rfl)) k0 bel lt0) trodAll_mk0), rfl, bel.frame _, fun h => by cases h⟩

/-- A world for the witness: the settled one, the tables holding what their initialisers lay. -/
noncomputable def laidWorld (os : Os) : World :=
  { World.holding Tryd.prog os ⟨#[], #[], []⟩ with heap := (World.holding Tryd.prog os ⟨#[], #[], []⟩).heap |>.modify 1 (fun | .cells _ t frozen => .cells #[.int .u8 0, .int .u8 1, .int .u8 28, .int .u8 2, .int .u8 29, .int .u8 14, .int .u8 24, .int .u8 3, .int .u8 30, .int .u8 22, .int .u8 20, .int .u8 15, .int .u8 25, .int .u8 17, .int .u8 4, .int .u8 8, .int .u8 31, .int .u8 27, .int .u8 13, .int .u8 23, .int .u8 21, .int .u8 19, .int .u8 16, .int .u8 7, .int .u8 26, .int .u8 12, .int .u8 18, .int .u8 6, .int .u8 11, .int .u8 5, .int .u8 10, .int .u8 9] t frozen | o => o)|>.modify 2 (fun | .cells _ t frozen => .cells #[.int .u8 0, .int .u8 1, .int .u8 56, .int .u8 2, .int .u8 57, .int .u8 49, .int .u8 28, .int .u8 3, .int .u8 61, .int .u8 58, .int .u8 42, .int .u8 50, .int .u8 38, .int .u8 29, .int .u8 17, .int .u8 4, .int .u8 62, .int .u8 47, .int .u8 59, .int .u8 36, .int .u8 45, .int .u8 43, .int .u8 51, .int .u8 22, .int .u8 53, .int .u8 39, .int .u8 33, .int .u8 30, .int .u8 24, .int .u8 18, .int .u8 12, .int .u8 5, .int .u8 63, .int .u8 55, .int .u8 48, .int .u8 27, .int .u8 60, .int .u8 41, .int .u8 37, .int .u8 16, .int .u8 46, .int .u8 35, .int .u8 44, .int .u8 21, .int .u8 52, .int .u8 32, .int .u8 23, .int .u8 11, .int .u8 54, .int .u8 26, .int .u8 40, .int .u8 15, .int .u8 34, .int .u8 20, .int .u8 31, .int .u8 10, .int .u8 25, .int .u8 14, .int .u8 19, .int .u8 9, .int .u8 13, .int .u8 8, .int .u8 7, .int .u8 6] t frozen | o => o)|>.modify 0 (fun | .cells _ t frozen => .cells #[.int .u64 1, .int .u64 10, .int .u64 100, .int .u64 1000, .int .u64 10000, .int .u64 100000, .int .u64 1000000, .int .u64 10000000, .int .u64 100000000, .int .u64 1000000000, .int .u64 10000000000, .int .u64 100000000000, .int .u64 1000000000000, .int .u64 10000000000000, .int .u64 100000000000000, .int .u64 1000000000000000, .int .u64 10000000000000000, .int .u64 100000000000000000, .int .u64 1000000000000000000, .int .u64 10000000000000000000] t frozen | o => o) }
theorem laid_met (os : Os) : laidMet Tryd.prog Rows.fnFieldsAgainRow.laid ((laidWorld os).forCall (fun _ _ => 0) ⟨#[], #[.slice none 0 0], []⟩).memory :=
  laidMet_of_run' 8 (by kernel_rfl) (by kernel_rfl)
theorem reads (os : Os) {H : Type} (enc : TypeId × Value → H) : ∃ places, DataW.whole enc Tryd.prog ((laidWorld os).forCall (fun _ _ => 0) ⟨#[], #[.slice none 0 0], []⟩).memory Tryd.f5.params.toList Rows.fnFieldsAgainSpec.vars false #[Value.slice none 0 0].toList 8 = some ([.nil], [], places) :=
  ⟨[], by kernel_rfl⟩

set_option maxRecDepth 100000 in
theorem lifted (os : Os) (started : os.Started) (H : Type) (enc : TypeId × Value → H) (F : Stop.Interp) :
    ReturnsInHanded {} Tryd.checked os 5 .any ((OpenSpec.ofChange Rows.fnFieldsAgainSpec).preRow enc Tryd.prog Tryd.f5 Rows.fnFieldsAgainRow.domain false Rows.fnFieldsAgainRow.laid) (((OpenSpec.ofChange Rows.fnFieldsAgainSpec).at F).post enc Tryd.prog Tryd.f5 false true false false) := by
  obtain ⟨places, hx⟩ := reads os enc
  refine returnsInHanded_of_row (C := Tryd.checked) (s := OpenSpec.ofChange Rows.fnFieldsAgainSpec) own started (by kernel_rfl) Tryd.func5
    (witness_row_at (enc := enc) (C := Tryd.checked) false (laidWorld os) #[.slice none 0 0] rfl (by kernel_rfl) (by kernel_rfl) (by kernel_rfl)
      (OpenSpec.preRow_of_cond 8 hx (by kernel_rfl) (fun k hk => by cases hk) (by kernel_rfl) (laid_met os))) ?_
  intro W base args ds gs before hval hW _ _ _ hL _ _
  exact contract H enc W base args ds gs before hval hW hL

theorem said : Rows.FnFieldsAgainSaid :=
  OpenClaim.holds_of_cond 5 Tryd.f5 rfl rfl rfl rfl rfl rfl rfl ⟨rfl, rfl, rfl, rfl, rfl⟩ rfl rfl rfl rfl rfl (by kernel_rfl) Tryd.func5 (by kernel_rfl)
    (of_decide_eq_true (by kernel_rfl)) (by unfold Func.isWrapper; first | (rw [if_pos (by decide +kernel)]; kernel_rfl) | (rw [if_neg (by decide +kernel)]; exact ⟨rfl, rfl⟩))
    (fun os started H enc _ F => by rw [OpenClaim.pre_eq_preRow]; exact lifted os started H enc F)

theorem plain (f : FuncId) (fn : Func) (hf : Tryd.pinned.checked.prog.funcNamed "loop.example/g00980/laws.FnFieldsAgain" = some f) (hfn : Tryd.pinned.checked.prog.funcs[f]? = some fn) :
    false = Tryd.pinned.checked.prog.looks [] ∧ ∀ (j : Nat) t, fn.params[j]? = some t → Tryd.pinned.checked.prog.wantsStandIn t = false := by
  obtain rfl : f = 5 := Option.some.inj ((show Tryd.prog.funcNamed "loop.example/g00980/laws.FnFieldsAgain" = some 5 by kernel_rfl).symm.trans hf) |>.symm
  obtain rfl : fn = Tryd.f5 := (Option.some.inj (Tryd.func5.symm.trans hfn)).symm
  refine ⟨by kernel_rfl, fun j t ht => ?_⟩
  rw [Tryd.params5] at ht
  obtain rfl : t = 22 := by simpa using Array.mem_of_getElem? ht
  exact (show Tryd.prog.wantsStandIn 22 = false by kernel_rfl)

theorem proved : Rows.FnFieldsAgainCardSaid :=
  Claim7.holds_tied_plain_at .later [] _ _ _ _ said (fun _ h => by cases h) (by kernel_rfl) (fun _ h => by cases h) fnFieldsAgain_row_tie rfl ⟨rfl, rfl⟩ (by kernel_rfl) rfl plain (by kernel_rfl)
#print axioms proved
end Go.Proofs.YtnbmfdlmgdhocaaDoor.fnFieldsAgain
