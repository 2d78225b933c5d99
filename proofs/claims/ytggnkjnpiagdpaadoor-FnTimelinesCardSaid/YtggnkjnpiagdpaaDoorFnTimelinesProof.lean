/- Proves the given statement of the law FnTimelines: for every input that the row lets in, the law's Go function returns true and every argument reads as before; no condition of mine; the card ties the listed tables of the library to the program's text. -/
import Derived.Test.YtggnkjnpiagdpaaDoorLineI
import Derived.Test.YtggnkjnpiagdpaaDoorLineTxI
import Derived.Test.YtggnkjnpiagdpaaDoorTimeLaws
import Derived.Test.YtggnkjnpiagdpaaDoorSegI
import Derived.Test.YtggnkjnpiagdpaaDoorDrawStore
import Derived.Test.YtggnkjnpiagdpaaDoorDrawRow
import Derived.Test.YtggnkjnpiagdpaaDoorFactLaws
import Derived.Test.YtggnkjnpiagdpaaDoorValueAt
import Derived.Test.YtggnkjnpiagdpaaDoorStoreOk
import Derived.Test.YtggnkjnpiagdpaaDoorNamesLaid
import Derived.Test.YtggnkjnpiagdpaaDoorItoa
import Derived.Test.YtggnkjnpiagdpaaDoorBelowKit
import Derived.Test.YtggnkjnpiagdpaaDoorFresh
import Derived.Test.YtggnkjnpiagdpaaDoorGrown
import Derived.Test.YtggnkjnpiagdpaaDoorCards
import Derived.Test.YtggnkjnpiagdpaaDoorTie
import Derived.WalkKit
import Derived.ProofKit
import Derived.OpenShut
import Derived.ChangeOld
import Derived.Below
import Derived.Deep.DeepHandedRow
import Derived.Lib.LaidTab
import Derived.Lib.ItoaNum
import Derived.Stop.LaidErr
import Derived.OpenVars
import Derived.ShutString
namespace Go.Proofs.YtggnkjnpiagdpaaDoor.fnTimelines
open Go.ChangeShapes Go.WideShapes Go.ChangeAt Go.RowKit
open Go.ChangeMaps (open_string shut_string)
set_option linter.unusedVariables false

theorem own : ownKnob Tryd.prog.godebug = none := by kernel_rfl
theorem laidOut : laidOutB Tryd.prog = true := by kernel_rfl

/-- WHAT THE WALK IS TOLD OF A SLICE OF INTEGERS THAT CAME IN: it is nil; or it leads to a row of 'cap' cells, the numbers 'zs' (the first 'len' are its elements, the rest its spare room), each fitting its kind. -/
def IsRow (k : IntKind) (w : World) (a : Option Addr) (len cap : Nat) (zs : List Int) : Prop :=
  (a = none ∧ len = 0 ∧ cap = 0 ∧ zs = []) ∨
  ∃ x, a = some x ∧ len ≤ cap ∧ cap ≤ maxLen ∧ zs.length = cap ∧ (∀ i, i < zs.length → w.cell? (x.add i) = some (.int k (zs.getD i 0))) ∧ ∀ n ∈ zs, (Lit.int k n).wf = true

theorem gTab : Tryd.prog.globalNamed "internal/strconv.uint64pow10" = some 2 := by kernel_rfl
theorem gTabType : (Tryd.prog.globals[2]?).map (fun x => x.type) = some 97 := by kernel_rfl
theorem cellsTab : Tryd.prog.cellsOf 97 = 20 := by kernel_rfl
theorem cellsElem : Tryd.prog.cellsOf 90 = 1 := by kernel_rfl
/-- What the row's list gives: the table of powers of ten. -/
theorem table {W : World} (h : laidMetH Tryd.prog Rows.fnTimelinesRow.laid W) : Lib.TabIs Tryd.prog W "internal/strconv.uint64pow10" .u64 Lib.pow10Tab := by
  have h2 : laidMet Tryd.prog Rows.fnTimelinesRow.laid W := h
  have e : Lib.pow10Tab = [1, 10, 100, 1000, 10000, 100000, 1000000, 10000000, 100000000, 1000000000, 10000000000, 100000000000, 1000000000000, 10000000000000, 100000000000000, 1000000000000000, 10000000000000000, 100000000000000000, 1000000000000000000, 10000000000000000000] := by decide
  rw [e]
  exact Lib.tabIs_of_head (rest := [("loop.example/g00980/impl.monthNames", Rows.laid_loop_example_g00980_impl_monthNames)]) gTab gTabType Tryd.underlying97 Tryd.underlying90 cellsElem cellsTab (h2.tail.tail)

/-- What the row's list gives: the names of months. -/
theorem names {W : World} (h : laidMetH Tryd.prog Rows.fnTimelinesRow.laid W) : MonText.Names W := by
  have h2 : laidMet Tryd.prog Rows.fnTimelinesRow.laid W := h
  exact NamesLaid.names_of (h2.tail.tail.tail)

theorem laidOutP : laidOutB Tryd.prog = true := by kernel_rfl

/-! ### STEP 1: THE WALK: the Go text returns true, AND WRITES NOTHING THAT WAS THERE: 'Below w.heap.size w w'' (Derived/Below.lean: '.refl', '.alloc', '.drew', '.setCell' at a new block, '.trans'). Open each 'IsRow' by 'rcases' AHEAD of 'go_enter'; part every test ahead of the walk. -/
set_option maxHeartbeats 8000000 in
set_option maxRecDepth 100000 in
theorem walk (a0 : Option Addr) (len0 cap0 : Nat) (z0 : List Int) (w : World) (htab : Lib.TabIs Tryd.prog w "internal/strconv.uint64pow10" .u64 Lib.pow10Tab) (hnm : MonText.Names w) (w0 : IsRow .u8 w a0 len0 cap0 z0) :
    Calls Tryd.prog 3 #[.slice a0 len0 cap0] w fun e w' => e = .returned (.bool true) ∧ Below w.heap.size w w' := by
  have HTAB := Lib.hid htab
  have HNM := Lib.hid hnm
  clear htab hnm
  obtain ⟨hcode, hs⟩ := CurKit.code_at w0
  clear w0
  have HK := Lib.hid hcode
  have HS := Lib.hid hs
  clear hcode
  unfold maxLen at hs
  by_cases hbig : 1048576 < len0
  · go_enter Tryd.func3, Tryd.ntmps3
    go_wp2
    go_ret
    exact ⟨rfl, Below.refl _ _⟩
  go_enter Tryd.func3, Tryd.ntmps3
  go_wp2_with (go_at_call 5; go_in)
  refine (DrawStore.draw_c _ a0 len0 cap0 HK.out HS.out).mono ?_
  rintro e w1 ⟨l, p, c, hd, rfl, ho, hb⟩
  obtain ⟨m, hm⟩ : ∃ m, l.length = m := ⟨_, rfl⟩
  rw [hm] at ho ⊢
  have hm9 : m ≤ 9 := by rw [← hm]; exact hd.len
  have HM := Lib.hid hm
  have HD := Lib.hid hd
  have HO1 := Lib.hid ho
  have HC1 := Lib.hid hb
  clear hm hd ho hb
  go_wp2_with fail
  have hb12 : Below w1.heap.size w1 (w1.alloc (.cells #[.slice p m c] 26)) := by (repeat (first | exact Below.refl _ _ | apply BelowKit.bl_alloc | apply BelowKit.bl_drewN | apply BelowKit.bl_drew | (refine BelowKit.bl_set ?_ _ ?_; rotate_left; (first | omega | (simp; omega) | simp)) | (refine BelowKit.bl_trans ?_ (‹Hid (Below _ _ _)›).out)))
  refine (DrawRow.places_c _ a0 len0 cap0 (fun j hj => by obtain ⟨blk, off, n, e, h1, h2, h3⟩ := HK.out j hj; exact ⟨blk, off, n, e, by have := HC1.out.size; simp; omega, ((BelowKit.bcell (BelowKit.bl_trans HC1.out hb12)).1 _ _ h1).trans h2, h3⟩) HS.out).mono ?_
  rintro e w2 ⟨l2, a2, cap2, hl2, hin, rfl, ho2, hb⟩
  obtain ⟨g2, rfl, _, hg2, c2, f2⟩ := ho2.at 0 (by omega)
  have i0 := hin.get 0 (by omega)
  obtain ⟨t, ht⟩ : ∃ t, l2[0] = t := ⟨_, rfl⟩
  rw [ht] at c2 i0
  obtain ⟨i00, i01⟩ := i0
  have cS : w2.cell? ⟨w1.heap.size, 0, none⟩ = some (.slice p m c) := ((BelowKit.bcell hb).1 _ _ (by simp)).trans (by simp [go_sem])
  have zS : w1.heap.size < w2.heap.size := by have := hb.size; simp at this; omega
  have hb2 := BelowKit.bl_trans hb12 hb
  have HO2 := Lib.hid (HO1.out.on hb2)
  have HC2 := Lib.hid (BelowKit.bl_trans HC1.out hb2)
  clear ht hin hl2 ho2 hb hb12 hb2 f2 HO1 HC1
  obtain ⟨key, hkey⟩ : ∃ k, 1 + t % 4 = k := ⟨_, rfl⟩
  have HKEY := Lib.hid hkey
  have HOK : FactMath.okS l = true := FactMath.okS_yes (HD.out.ok (by omega))
  have hL := TimeLaws.line_to (l := l) (key := key) (kn := 150) (t := 120) HOK (Mon.inB_yes (by omega) (by omega)) (by omega) (by omega)
  rw [show (120 : Int).toNat = 120 from rfl] at hL
  have HLE := Lib.hid hL
  have HLN : (LineMath.lineTo key 150 0 l 120).length ≤ 120 := LineMath.lineTo_len _ _ _ _ _
  have HVB : Hid (∀ m : Int, -1000000000 ≤ (FactMath.val key m 150 l).1 ∧ (FactMath.val key m 150 l).1 ≤ 1000000000) := Lib.hid (fun m => TimeLaws.val_in HOK m)
  have HTI0 : Hid (∀ j : Nat, -1000000000 * (j : Int) ≤ LineLaws.tot (fun m => FactMath.val key m 150 l) 20 70 0 j ∧ LineLaws.tot (fun m => FactMath.val key m 150 l) 20 70 0 j ≤ 1000000000 * (j : Int)) := Lib.hid (TimeLaws.tot_in HOK 20 70)
  have HTS0 : Hid (∀ j : Nat, LineLaws.tot (fun m => FactMath.val key m 150 l) 20 70 0 (j + 1) = LineLaws.tot (fun m => FactMath.val key m 150 l) 20 70 0 j + if (20 : Int) ≤ (j : Int) ∧ (j : Int) < 70 then (FactMath.val key (j : Int) 150 l).1 else 0) := Lib.hid (TimeLaws.tot_step 20 70)
  have HT00 : Hid (LineLaws.tot (fun m => FactMath.val key m 150 l) 20 70 0 0 = 0) := Lib.hid rfl
  have HSEEN := Lib.hid (fun (j : Nat) hj => TimeLaws.line_seen (l := l) (key := key) (kn := 150) (n := 120) (by omega) j hj)
  have HLOK := Lib.hid (TimeLaws.line_ok (l := l) (key := key) (kn := 150) (n := 120) (by omega))
  have HLV := Lib.hid (TimeLaws.line_vals (key := key) (kn := 150) (n := 120) HOK)
  have HLS0 := Lib.hid (TimeLaws.line_sum (key := key) (kn := 150) (n := 120) (a := 20) (b := 70) HOK (by omega) (by omega) (by omega) (by omega) (by omega))
  clear hkey hL HOK HD
  go_wp2_with fail
  rw [HKEY.out]
  refine (LineI.line_i _ p m c l key 150 0 120 HM.out (by omega) (RowN.reads_own Fact.fw HO2.out)).mono ?_
  rintro e w3 ⟨p3, c3, rfl, ho3, hb⟩
  rw [HLE.out] at ho3 ⊢
  obtain ⟨L, hLL⟩ : ∃ L, LineMath.lineTo key 150 0 l 120 = L := ⟨_, rfl⟩
  rw [hLL] at ho3 HLN HSEEN HLOK HLV HLS0 ⊢
  obtain ⟨n, hn⟩ : ∃ n, L.length = n := ⟨_, rfl⟩
  rw [hn] at ho3 HLN ⊢
  have HN := Lib.hid hn
  have cS3 : w3.cell? ⟨w1.heap.size, 0, none⟩ = some (.slice p m c) := ((BelowKit.bcell hb).1 _ _ zS).trans cS
  have zS3 : w1.heap.size < w3.heap.size := Nat.lt_of_lt_of_le zS hb.size
  have HO3 := Lib.hid (HO2.out.on hb)
  have HP3 := Lib.hid ho3
  have HC3 := Lib.hid (BelowKit.bl_trans HC2.out hb)
  obtain ⟨TT, hTT⟩ : ∃ TT : Nat → Int, (fun j => LineLaws.tot (fun m => FactMath.val key m 150 l) 20 70 0 j) = TT := ⟨_, rfl⟩
  have HTI : Hid (∀ j : Nat, -1000000000 * (j : Int) ≤ TT j ∧ TT j ≤ 1000000000 * (j : Int)) := Lib.hid (by rw [← hTT]; exact HTI0.out)
  have HTS : Hid (∀ j : Nat, TT (j + 1) = TT j + if (20 : Int) ≤ (j : Int) ∧ (j : Int) < 70 then (FactMath.val key (j : Int) 150 l).1 else 0) := Lib.hid (by rw [← hTT]; exact HTS0.out)
  have HT0 : Hid (TT 0 = 0) := Lib.hid (by rw [← hTT]; exact HT00.out)
  have HLS : Hid (SegMath.sumO L 20 70 = TT 120) := Lib.hid (by rw [← hTT]; exact HLS0.out)
  clear HTI0 HTS0 HT00 HLS0 hTT hLL hn ho3 hb cS zS HO2 HC2 c2 hg2 HLE HKEY i00 i01
  go_wp2
  go_loopw [7, 8] (fun sv mo wr => ∃ j : Nat, j ≤ 120 ∧ mo = .int .i64 (j : Int) ∧ sv = .int .i64 (TT j) ∧ Hid (Below w3.heap.size w3 wr)) (fun _ mo _ => 120 - (intOf mo).toNat)
  case atStart => exact ⟨0, by omega, rfl, by rw [HT0.out], Lib.hid (Below.refl _ _)⟩
  case round =>
    obtain ⟨j, hj, rfl, rfl, HB2⟩ := hrel
    have e1 := ((BelowKit.bcell HB2.out).1 _ 0 zS3).trans cS3
    have z1 := Nat.lt_of_lt_of_le zS3 HB2.out.size
    by_cases hj2 : j < 120
    · have HSJ := Lib.hid (HSEEN.out j hj2)
      have HST := Lib.hid (HTS.out j)
      obtain ⟨v0, v1⟩ := HVB.out (j : Int)
      obtain ⟨s0, s1⟩ := HTI.out j
      obtain ⟨S, hS⟩ : ∃ S, TT j = S := ⟨_, rfl⟩
      rw [hS] at HST s0 s1 ⊢
      obtain ⟨⟨x, o⟩, hx⟩ : ∃ V, FactMath.val key (j : Int) 150 l = V := ⟨_, rfl⟩
      have HX := Lib.hid hx
      rw [hx] at HSJ HST v0 v1
      simp only [] at v0 v1
      clear hx hS
      have W1 : IntKind.i64.wrap (S + x) = S + x := IntWalk.i64_in _ (by omega)
      go_wp2_with fail
      refine (ValueAt.val_s _ p m c l key (j : Int) 150 HM.out (by omega) (RowN.reads_own Fact.fw (HO3.out.on HB2.out))).mono ?_
      rintro e w5 ⟨rfl, hb⟩
      rw [HX.out]
      have HB3 := Lib.hid (BelowKit.bl_trans HB2.out hb)
      clear hb e1 z1 HB2
      go_wp2_with fail
      refine (SegI.at_i _ p3 n c3 L (j : Int) HN.out (by omega) (RowN.reads_own TSegment.fw (HP3.out.on HB3.out))).mono ?_
      rintro e w6 ⟨rfl, hb⟩
      have HB4 := Lib.hid (BelowKit.bl_trans HB3.out hb)
      clear hb HB3
      by_cases hin : (20 : Int) ≤ (j : Int) ∧ (j : Int) < 70
      case pos =>
        have HSN := Lib.hid (show TT (j + 1) = S + x by rw [HST.out, if_pos hin])
        obtain ⟨n1, n2⟩ := hin
        clear HST HX
        cases o with
        | false =>
          have hsg := LineLaws.segT_none (j : Int) L 0 (by rw [HSJ.out]; rfl)
          rw [hsg]
          clear hsg HSJ
          go_wp2
          go_roundw
          case rel => exact ⟨j + 1, by omega, by go_num, by rw [HSN.out], HB4⟩
          case measure => simp [intOf]; omega
        | true =>
          obtain ⟨i, hi, hsg, hval⟩ := TimeLaws.at_some (L := L) (m := (j : Int)) (v := x) (by rw [HSJ.out]; rfl)
          rw [hsg]
          obtain ⟨g, e3, r9, hgl, r0, r1, q2, r3, r4, r5⟩ := TSegment.own (HP3.out.on HB4.out) i hi
          clear r0 r1 r3 r4 r5 r9
          rw [hval] at q2
          subst e3
          have b1 : (0 : Int) ≤ (i : Int) := by omega
          have b2 : (i : Int) < (n : Int) := by have := HN.out; omega
          clear hsg hval hi HSJ
          go_wp2
          go_roundw
          case rel => exact ⟨j + 1, by omega, by go_num, by rw [HSN.out], HB4⟩
          case measure => simp [intOf]; omega
      case neg =>
        have HSN := Lib.hid (show TT (j + 1) = S by rw [HST.out, if_neg hin]; omega)
        have hin2 : (j : Int) < 20 ∨ 70 ≤ (j : Int) := by omega
        clear HST HX hin W1
        cases o with
        | false =>
          have hsg := LineLaws.segT_none (j : Int) L 0 (by rw [HSJ.out]; rfl)
          rw [hsg]
          clear hsg HSJ
          rcases hin2 with n1 | n1
          all_goals
            go_wp2
            go_roundw
            case rel => exact ⟨j + 1, by omega, by go_num, by rw [HSN.out], HB4⟩
            case measure => simp [intOf]; omega
        | true =>
          obtain ⟨i, hi, hsg, hval⟩ := TimeLaws.at_some (L := L) (m := (j : Int)) (v := x) (by rw [HSJ.out]; rfl)
          rw [hsg]
          obtain ⟨g, e3, r9, hgl, r0, r1, q2, r3, r4, r5⟩ := TSegment.own (HP3.out.on HB4.out) i hi
          clear r0 r1 r3 r4 r5 r9
          rw [hval] at q2
          subst e3
          have b1 : (0 : Int) ≤ (i : Int) := by omega
          have b2 : (i : Int) < (n : Int) := by have := HN.out; omega
          clear hsg hval hi HSJ
          rcases hin2 with n1 | n1
          all_goals
            go_wp2
            go_roundw
            case rel => exact ⟨j + 1, by omega, by go_num, by rw [HSN.out], HB4⟩
            case measure => simp [intOf]; omega
    · obtain rfl : j = 120 := by omega
      clear e1 z1
      go_wp2_with fail
      refine (SegI.ok_i _ p3 n c3 L HN.out (by omega) (RowN.reads_own TSegment.fw (HP3.out.on HB2.out))).mono ?_
      rintro e w5 ⟨rfl, hb⟩
      rw [HLOK.out]
      have HB3 := Lib.hid (BelowKit.bl_trans HB2.out hb)
      clear hb HB2
      go_wp2_with fail
      refine (SegI.sum_i _ p3 n c3 L 20 70 HN.out (by omega) (RowN.reads_own TSegment.fw (HP3.out.on HB3.out))).mono ?_
      rintro e w6 ⟨rfl, hb⟩
      rw [HLS.out]
      have HB4 := Lib.hid (BelowKit.bl_trans HB3.out hb)
      clear hb HB3
      have HC4 := Lib.hid (BelowKit.bl_trans HC3.out HB4.out)
      by_cases hn0 : n = 0
      case pos =>
        subst hn0
        have hl0 : L = [] := List.eq_nil_of_length_eq_zero HN.out
        have HE := Lib.hid (show LineTx.lineTx L = ⟨#[]⟩ by rw [hl0]; exact TimeLaws.text_nil)
        clear hl0
        go_wp2_with fail
        refine (LineTxI.format_i _ p3 0 c3 L HN.out (by omega) HLV.out (RowN.reads_own TSegment.fw (HP3.out.on HB4.out)) (ItoaC.tab_below HTAB.out HC4.out) (MonText.names_below HNM.out HC4.out)).mono ?_
        rintro e w7 ⟨rfl, hb⟩
        rw [HE.out]
        have HC5 := Lib.hid (BelowKit.bl_trans HC4.out hb)
        clear hb
        go_wp2
        go_ret
        exact ⟨rfl, HC5.out⟩
      case neg =>
        have HE := Lib.hid (TimeLaws.text_ne HLOK.out (by rw [HN.out]; omega))
        obtain ⟨T, hT⟩ : ∃ T, LineTx.lineTx L = T := ⟨_, rfl⟩
        rw [hT] at HE
        have HT := Lib.hid hT
        clear hT
        have d1 : ((n : Int) == 0) = false := beq_eq_false_iff_ne.2 (by omega)
        have D2 : Hid (T.toList.isEmpty = false) := Lib.hid (by
          rw [ByteArray.toList_eq, List.isEmpty_eq_false_iff]
          intro e
          refine HE.out ?_
          have h2 : T.data.toList.length = T.size := by simp
          rw [e] at h2
          exact h2.symm)
        go_wp2_with fail
        refine (LineTxI.format_i _ p3 n c3 L HN.out (by omega) HLV.out (RowN.reads_own TSegment.fw (HP3.out.on HB4.out)) (ItoaC.tab_below HTAB.out HC4.out) (MonText.names_below HNM.out HC4.out)).mono ?_
        rintro e w7 ⟨rfl, hb⟩
        rw [HT.out]
        have HC5 := Lib.hid (BelowKit.bl_trans HC4.out hb)
        clear hb
        go_wp2
        go_ret
        exact ⟨by show Ending.returned (.bool (!T.toList.isEmpty)) = _; rw [D2.out]; rfl, HC5.out⟩

/-- What the walk gives, for every argument and every world that holds the listed tables. -/
theorem contract (H : Type) (enc : TypeId × Value → H) (W : World) (base : Nat) (args : Array Value) (ds gs : List (DataW H)) (before : List MemPlace)
    (hval0 : ∀ (j : Nat) t v, Tryd.f3.params[j]? = some t → args[j]? = some v → Value.okWide Tryd.prog W .any base t v)
    (hW : DataW.Whole enc Tryd.prog Tryd.f3.params.toList Rows.fnTimelinesSpec.vars false W args.toList ds gs before) (hL : laidMetH Tryd.prog Rows.fnTimelinesRow.laid W) :
    Calls Tryd.prog 3 args W fun e W' => ∃ v, e = .returned v ∧ Rows.fnTimelinesSpec.post enc Tryd.prog Tryd.f3 false true false false W args v W' := by
  have hval : ∀ (j : Nat) t v, Tryd.f3.params[j]? = some t → args[j]? = some v → Value.okWide Tryd.prog W .any base t v := hval0
  have hW' := hW
  obtain ⟨p, q, hA0, hV, rfl, hfz, hnd⟩ := hW
  have hA : DataW.TrodAll enc Tryd.prog W 0 (fun _ => true) true Tryd.f3.params.toList args.toList ds p := hA0
  rw [Tryd.params3] at hA hval
  obtain ⟨v0, vs0, d0, ds0, p0, q0, hargs, rfl, rfl, h0, r0⟩ := trodAll_cons hA
  obtain ⟨rfl, rfl, rfl⟩ := trodAll_nil r0
  obtain rfl : args = #[v0] := by cases args; simp_all
  have hV1 : DataW.TrodVars enc Tryd.prog W (fun _ => true) ["loop.example/g00980/impl.monthNames"] gs q := hV
  obtain ⟨gv, tv, csv, fv, dv, pv, rfl, hgv, htv, hvv, hdv, rfl⟩ := trodVars_one hV1
  obtain ⟨a0, len0, cap0, rfl⟩ := okWide_slice Tryd.underlying22 (hval 0 22 v0 rfl rfl)
  have k0 := h0
  have lt0 : ∀ x ∈ p0, x.block < W.heap.size := by obtain ⟨m, hm⟩ := k0; exact DataW.trod_lt m _ _ _ hm
  obtain ⟨z0, w0⟩ : ∃ zs, IsRow .u8 W a0 len0 cap0 zs := by
    obtain ⟨fuel, hf⟩ := h0
    rcases open_ints Tryd.underlying22 Tryd.underlying5 (by kernel_rfl) hf with ⟨hcs, _⟩ | ⟨x, l, c, zs, hcs, _, hl, hm, hz, _, hcell, hwz⟩
    · simp [Value.cells] at hcs
      obtain ⟨rfl, rfl, rfl⟩ := hcs
      exact ⟨[], .inl ⟨rfl, rfl, rfl, rfl⟩⟩
    · simp [Value.cells] at hcs
      obtain ⟨rfl, rfl, rfl⟩ := hcs
      exact ⟨zs, .inr ⟨_, rfl, hl, hm, by simpa using hz, hcell, hwz⟩⟩
  clear hA0 hval0
  refine (walk a0 len0 cap0 z0 W (table hL) (names hL) w0).mono fun e W' ⟨he, bel⟩ => ?_
  subst he
  exact ⟨_, rfl, _, _, _, [], _, _, hW', trodAll_mk1 (shut_bool Tryd.underlying4 _), (trodAll_cons_mk (Below.trod laidOut (by kernel_rfl) (of_decide_eq_true (by kernel_rfl)) k0 bel lt0) trodAll_mk0), Below.trodVars laidOutP bel (by kernel_rfl) hV1, bel.frame _, fun h => by cases h⟩

/-- A world for the witness: the settled one, the tables holding what their initialisers lay. -/
noncomputable def laidWorld (os : Os) : World :=
  { World.holding Tryd.prog os ⟨#[], #[], []⟩ with heap := (World.holding Tryd.prog os ⟨#[], #[], []⟩).heap |>.modify 3 (fun | .cells _ t frozen => .cells #[.int .u8 0, .int .u8 1, .int .u8 28, .int .u8 2, .int .u8 29, .int .u8 14, .int .u8 24, .int .u8 3, .int .u8 30, .int .u8 22, .int .u8 20, .int .u8 15, .int .u8 25, .int .u8 17, .int .u8 4, .int .u8 8, .int .u8 31, .int .u8 27, .int .u8 13, .int .u8 23, .int .u8 21, .int .u8 19, .int .u8 16, .int .u8 7, .int .u8 26, .int .u8 12, .int .u8 18, .int .u8 6, .int .u8 11, .int .u8 5, .int .u8 10, .int .u8 9] t frozen | o => o)|>.modify 4 (fun | .cells _ t frozen => .cells #[.int .u8 0, .int .u8 1, .int .u8 56, .int .u8 2, .int .u8 57, .int .u8 49, .int .u8 28, .int .u8 3, .int .u8 61, .int .u8 58, .int .u8 42, .int .u8 50, .int .u8 38, .int .u8 29, .int .u8 17, .int .u8 4, .int .u8 62, .int .u8 47, .int .u8 59, .int .u8 36, .int .u8 45, .int .u8 43, .int .u8 51, .int .u8 22, .int .u8 53, .int .u8 39, .int .u8 33, .int .u8 30, .int .u8 24, .int .u8 18, .int .u8 12, .int .u8 5, .int .u8 63, .int .u8 55, .int .u8 48, .int .u8 27, .int .u8 60, .int .u8 41, .int .u8 37, .int .u8 16, .int .u8 46, .int .u8 35, .int .u8 44, .int .u8 21, .int .u8 52, .int .u8 32, .int .u8 23, .int .u8 11, .int .u8 54, .int .u8 26, .int .u8 40, .int .u8 15, .int .u8 34, .int .u8 20, .int .u8 31, .int .u8 10, .int .u8 25, .int .u8 14, .int .u8 19, .int .u8 9, .int .u8 13, .int .u8 8, .int .u8 7, .int .u8 6] t frozen | o => o)|>.modify 2 (fun | .cells _ t frozen => .cells #[.int .u64 1, .int .u64 10, .int .u64 100, .int .u64 1000, .int .u64 10000, .int .u64 100000, .int .u64 1000000, .int .u64 10000000, .int .u64 100000000, .int .u64 1000000000, .int .u64 10000000000, .int .u64 100000000000, .int .u64 1000000000000, .int .u64 10000000000000, .int .u64 100000000000000, .int .u64 1000000000000000, .int .u64 10000000000000000, .int .u64 100000000000000000, .int .u64 1000000000000000000, .int .u64 10000000000000000000] t frozen | o => o)|>.modify 0 (fun | .cells _ t frozen => .cells #[.string ⟨#[48, 49]⟩, .string ⟨#[48, 50]⟩, .string ⟨#[48, 51]⟩, .string ⟨#[48, 52]⟩, .string ⟨#[48, 53]⟩, .string ⟨#[48, 54]⟩, .string ⟨#[48, 55]⟩, .string ⟨#[48, 56]⟩, .string ⟨#[48, 57]⟩, .string ⟨#[49, 48]⟩, .string ⟨#[49, 49]⟩, .string ⟨#[49, 50]⟩] t frozen | o => o) }
theorem laid_met (os : Os) : laidMet Tryd.prog Rows.fnTimelinesRow.laid ((laidWorld os).forCall (fun _ _ => 0) ⟨#[], #[.slice none 0 0], []⟩).memory :=
  laidMet_of_run' 8 (by kernel_rfl) (by kernel_rfl)
theorem reads (os : Os) {H : Type} (enc : TypeId × Value → H) : ∃ places, DataW.whole enc Tryd.prog ((laidWorld os).forCall (fun _ _ => 0) ⟨#[], #[.slice none 0 0], []⟩).memory Tryd.f3.params.toList Rows.fnTimelinesSpec.vars false #[Value.slice none 0 0].toList 8 = some ([.nil], [Rows.laid_loop_example_g00980_impl_monthNames], places) :=
  ⟨[.cell 0 0, .cell 0 1, .cell 0 2, .cell 0 3, .cell 0 4, .cell 0 5, .cell 0 6, .cell 0 7, .cell 0 8, .cell 0 9, .cell 0 10, .cell 0 11], by kernel_rfl⟩

set_option maxRecDepth 100000 in
theorem lifted (os : Os) (started : os.Started) (H : Type) (enc : TypeId × Value → H) (F : Stop.Interp) :
    ReturnsInHanded {} Tryd.checked os 3 .any ((OpenSpec.ofChange Rows.fnTimelinesSpec).preRow enc Tryd.prog Tryd.f3 Rows.fnTimelinesRow.domain false Rows.fnTimelinesRow.laid) (((OpenSpec.ofChange Rows.fnTimelinesSpec).at F).post enc Tryd.prog Tryd.f3 false true false false) := by
  obtain ⟨places, hx⟩ := reads os enc
  refine returnsInHanded_of_row (C := Tryd.checked) (s := OpenSpec.ofChange Rows.fnTimelinesSpec) own started (by kernel_rfl) Tryd.func3
    (witness_row_at (enc := enc) (C := Tryd.checked) false (laidWorld os) #[.slice none 0 0] rfl (by kernel_rfl) (by kernel_rfl) (by kernel_rfl)
      (OpenSpec.preRow_of_cond 8 hx (by kernel_rfl) (fun k hk => by cases hk) (by kernel_rfl) (laid_met os))) ?_
  intro W base args ds gs before hval hW _ _ _ hL _ _
  exact contract H enc W base args ds gs before hval hW hL

theorem said : Rows.FnTimelinesSaid :=
  OpenClaim.holds_of_cond 3 Tryd.f3 rfl rfl rfl rfl rfl rfl rfl ⟨rfl, rfl, rfl, rfl, rfl⟩ rfl rfl rfl rfl rfl (by kernel_rfl) Tryd.func3 (by kernel_rfl)
    (of_decide_eq_true (by kernel_rfl)) (by unfold Func.isWrapper; first | (rw [if_pos (by decide +kernel)]; kernel_rfl) | (rw [if_neg (by decide +kernel)]; exact ⟨rfl, rfl⟩))
    (fun os started H enc _ F => by rw [OpenClaim.pre_eq_preRow]; exact lifted os started H enc F)

theorem plain (f : FuncId) (fn : Func) (hf : Tryd.pinned.checked.prog.funcNamed "loop.example/g00980/laws.FnTimelines" = some f) (hfn : Tryd.pinned.checked.prog.funcs[f]? = some fn) :
    false = Tryd.pinned.checked.prog.looks [] ∧ ∀ (j : Nat) t, fn.params[j]? = some t → Tryd.pinned.checked.prog.wantsStandIn t = false := by
  obtain rfl : f = 3 := Option.some.inj ((show Tryd.prog.funcNamed "loop.example/g00980/laws.FnTimelines" = some 3 by kernel_rfl).symm.trans hf) |>.symm
  obtain rfl : fn = Tryd.f3 := (Option.some.inj (Tryd.func3.symm.trans hfn)).symm
  refine ⟨by kernel_rfl, fun j t ht => ?_⟩
  rw [Tryd.params3] at ht
  obtain rfl : t = 22 := by simpa using Array.mem_of_getElem? ht
  exact (show Tryd.prog.wantsStandIn 22 = false by kernel_rfl)

theorem proved : Rows.FnTimelinesCardSaid :=
  Claim7.holds_tied_plain_at .later [] _ _ _ _ said (fun _ h => by cases h) (by kernel_rfl) (fun _ h => by cases h) fnTimelines_row_tie rfl ⟨rfl, rfl⟩ (by kernel_rfl) rfl plain (by kernel_rfl)
#print axioms proved
end Go.Proofs.YtggnkjnpiagdpaaDoor.fnTimelines
