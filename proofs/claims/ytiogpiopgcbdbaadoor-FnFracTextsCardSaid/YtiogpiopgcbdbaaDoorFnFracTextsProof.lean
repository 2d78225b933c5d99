/- Proves the given statement of the law FnFracTexts: for every input that the row lets in, the law's Go function returns true and every argument reads as before; no condition of mine; the card ties the listed tables of the library to the program's text. -/
import Derived.Test.YtiogpiopgcbdbaaDoorDrawFrac
import Derived.Test.YtiogpiopgcbdbaaDoorKit
import Derived.Test.YtiogpiopgcbdbaaDoorFracEq
import Derived.Test.YtiogpiopgcbdbaaDoorFracTxL
import Derived.Test.YtiogpiopgcbdbaaDoorParseFI
import Derived.Test.YtiogpiopgcbdbaaDoorErrsLaid
import Derived.Test.YtiogpiopgcbdbaaDoorCards
import Derived.Test.YtiogpiopgcbdbaaDoorTie
import Derived.WalkKit
import Derived.ProofKit
import Derived.OpenShut
import Derived.ChangeOld
import Derived.Below
import Derived.Deep.DeepHandedRow
import Derived.Deep.DeepCutAuto
import Derived.Lib.LaidTab
import Derived.Lib.ItoaNum
import Derived.Stop.LaidErr
import Derived.ShutString
namespace Go.Proofs.YtiogpiopgcbdbaaDoor.fnFracTexts
open Go.ChangeShapes Go.WideShapes Go.ChangeAt Go.RowKit
open Go.ChangeMaps (open_string shut_string)
set_option linter.unusedVariables false

theorem own : ownKnob Tryd.prog.godebug = none := by kernel_rfl
theorem laidOut : laidOutB Tryd.prog = true := by kernel_rfl

/-- WHAT THE WALK IS TOLD OF A SLICE OF INTEGERS THAT CAME IN: it is nil; or it leads to a row of 'cap' cells, the numbers 'zs' (the first 'len' are its elements, the rest its spare room), each fitting its kind. -/
def IsRow (k : IntKind) (w : World) (a : Option Addr) (len cap : Nat) (zs : List Int) : Prop :=
  (a = none ∧ len = 0 ∧ cap = 0 ∧ zs = []) ∨
  ∃ x, a = some x ∧ len ≤ cap ∧ cap ≤ maxLen ∧ zs.length = cap ∧ (∀ i, i < zs.length → w.cell? (x.add i) = some (.int k (zs.getD i 0))) ∧ ∀ n ∈ zs, (Lit.int k n).wf = true

theorem gTab : Tryd.prog.globalNamed "internal/strconv.uint64pow10" = some 3 := by kernel_rfl
theorem gTabType : (Tryd.prog.globals[3]?).map (fun x => x.type) = some 161 := by kernel_rfl
theorem cellsTab : Tryd.prog.cellsOf 161 = 20 := by kernel_rfl
theorem cellsElem : Tryd.prog.cellsOf 134 = 1 := by kernel_rfl
/-- What the row's list gives: the table of powers of ten. -/
theorem table {W : World} (h : laidMetH Tryd.prog Rows.fnFracTextsRow.laid W) : Lib.TabIs Tryd.prog W "internal/strconv.uint64pow10" .u64 Lib.pow10Tab := by
  have h2 : laidMet Tryd.prog Rows.fnFracTextsRow.laid W := h
  have e : Lib.pow10Tab = [1, 10, 100, 1000, 10000, 100000, 1000000, 10000000, 100000000, 1000000000, 10000000000, 100000000000, 1000000000000, 10000000000000, 100000000000000, 1000000000000000, 10000000000000000, 100000000000000000, 1000000000000000000, 10000000000000000000] := by decide
  rw [e]
  exact Lib.tabIs_of_head (rest := [("strconv.ErrRange", Rows.laid_strconv_ErrRange), ("strconv.ErrSyntax", Rows.laid_strconv_ErrSyntax)]) gTab gTabType Tryd.underlying161 Tryd.underlying134 cellsElem cellsTab (h2.tail.tail)

/-- What the row's list and the shapes give: the library's variables. -/
theorem vars {W : World} (h : laidMetH Tryd.prog Rows.fnFracTextsRow.laid W) (hs : W.ShapedOpen Tryd.prog) : ParseFI.Vars W := by
  have h2 : laidMet Tryd.prog Rows.fnFracTextsRow.laid W := h
  exact ⟨table h, ErrsLaid.syn_of (h2.tail.tail.tail.tail), ErrsLaid.rng_of (h2.tail.tail.tail), Tryd.laysM145.s1_3 W hs⟩

/-! ### STEP 1: THE WALK: the Go text returns true, AND WRITES NOTHING THAT WAS THERE: 'Below w.heap.size w w'' (Derived/Below.lean: '.refl', '.alloc', '.drew', '.setCell' at a new block, '.trans'). Open each 'IsRow' by 'rcases' AHEAD of 'go_enter'; part every test ahead of the walk. -/
theorem walk (a0 : Option Addr) (len0 cap0 : Nat) (z0 : List Int) (w : World) (hvars : ParseFI.Vars w) (w0 : IsRow .u8 w a0 len0 cap0 z0) :
    Calls Tryd.prog 3 #[.slice a0 len0 cap0] w fun e w' => e = .returned (.bool true) ∧ Below w.heap.size w w' := by
  obtain ⟨hcode, hs⟩ := CurKit.code_at w0
  clear w0
  have HK := Lib.hid hcode
  have HS := Lib.hid hs
  have HV := Lib.hid hvars
  clear hcode hvars
  unfold maxLen at hs
  by_cases hbig : 1048576 < len0
  · go_enter Tryd.func3, Tryd.ntmps3
    go_wp2
    go_ret
    exact ⟨rfl, Below.refl _ _⟩
  · go_enter Tryd.func3, Tryd.ntmps3
    go_wp2_with (go_at_call 8; go_in)
    refine (DrawFrac.draw_c _ a0 len0 cap0 HK.out HS.out).mono ?_
    rintro e w1 ⟨n, d, hsm, rfl, hb⟩
    have HOK := Lib.hid hsm.ok
    have HB1 := Lib.hid hb
    obtain ⟨T, hT⟩ : ∃ T, FracTxM.fracT n d = T := ⟨_, rfl⟩
    have hTl : T.length ≤ 25 := by rw [← hT]; exact (FracTxM.parts hsm.ok).2.2.2.2
    have F1 := Lib.hid (fun W hW => FracTxI.format_i n d W hW)
    have P1 := Lib.hid (fun W hW => ParseFI.parse_i (FracTxS.str T) W (by rw [FracTxS.str_size]; omega) hW)
    have P2 := Lib.hid (fun W hW => ParseFI.parse_i (FracTxS.str (T ++ [47, 49])) W (by rw [FracTxS.str_size]; simp; omega) hW)
    rw [ParseFI.str_list, ← hT, FracTxM.parse_frac hsm.ok] at P1
    rw [ParseFI.str_list, ← hT, FracTxL.slash_no hsm.ok] at P2
    rw [hT] at F1 P1 P2
    obtain ⟨S, hS⟩ : ∃ S, FracTxM.fracT (-1000000000000) 1 = S := ⟨_, rfl⟩
    have hSl : S.length ≤ 25 := by rw [← hS]; exact (FracTxM.parts FracTxL.big_ok).2.2.2.2
    have F3 := Lib.hid (fun W hW => FracTxI.format_i (-1000000000000) 1 W hW)
    have P3 := Lib.hid (fun W hW => ParseFI.parse_i (FracTxS.str S) W (by rw [FracTxS.str_size]; omega) hW)
    rw [ParseFI.str_list, ← hS, FracTxM.parse_frac FracTxL.big_ok] at P3
    rw [hS] at F3 P3
    have HA := Lib.hid (show FracTxS.str T ++ (⟨#[47, 49]⟩ : ByteArray) = FracTxS.str (T ++ [47, 49]) by apply ByteArray.ext; simp [FracTxS.str])
    have hsz : (FracTxS.str T).size ≤ 25 := by rw [FracTxS.str_size]; exact hTl
    obtain ⟨t, ht⟩ : ∃ t, FracTxS.str T = t := ⟨_, rfl⟩
    have HT := Lib.hid ht
    rw [ht] at P1 HA hsz
    clear hsm hb hT hS hTl hSl ht
    go_wp2_with fail
    refine (F1.out _ ((HV.out.on HB1.out).on (by (repeat (first | exact Below.refl _ _ | apply BelowKit.bl_alloc | apply BelowKit.bl_drewN | apply BelowKit.bl_drew | (refine BelowKit.bl_set ?_ _ ?_; rotate_left; (first | omega | (simp; omega) | simp)) | (refine BelowKit.bl_trans ?_ (‹Hid (Below _ _ _)›).out))))).tab).mono ?_
    rintro e w2 ⟨rfl, hb⟩
    rw [HT.out]
    have A1 := Lib.hid ((FracBlk.FB.new w1 25 n d).on hb)
    have B2 := Lib.hid (show Below w.heap.size w w2 from BelowKit.bl_trans (BelowKit.bl_alloc HB1.out) hb)
    clear hb F1
    go_wp2_with fail
    refine (P1.out _ (HV.out.on B2.out)).mono ?_
    rintro e w3 ⟨rfl, hb⟩
    have A1b := Lib.hid (A1.out.on hb)
    have B3 := Lib.hid (BelowKit.bl_trans B2.out hb)
    clear hb P1 A1 B2
    have hTs : ¬ 9223372036854775807 < t.size + 2 := by omega
    go_wp2_with fail
    rw [HA.out]
    have A1c := Lib.hid (A1b.out.alloc (.cells #[.int .i64 n, .int .i64 d] 25))
    have A2 := Lib.hid (FracBlk.FB.new w3 25 n d)
    refine (P2.out _ (HV.out.on (by (repeat (first | exact Below.refl _ _ | apply BelowKit.bl_alloc | apply BelowKit.bl_drewN | apply BelowKit.bl_drew | (refine BelowKit.bl_set ?_ _ ?_; rotate_left; (first | omega | (simp; omega) | simp)) | (refine BelowKit.bl_trans ?_ (‹Hid (Below _ _ _)›).out)))))).mono ?_
    rintro e w4 ⟨rfl, hb⟩
    have A1d := Lib.hid (A1c.out.on hb)
    have A2b := Lib.hid (A2.out.on hb)
    have B4 := Lib.hid (show Below w.heap.size w w4 from BelowKit.bl_trans (BelowKit.bl_alloc B3.out) hb)
    obtain ⟨g2, hg2⟩ : ∃ g, w3.heap.size = g := ⟨_, rfl⟩
    rw [hg2] at A2b ⊢
    clear hb P2 A1b A1c A2 B3 hg2 hTs
    obtain ⟨g1, hg1⟩ : ∃ g, w1.heap.size = g := ⟨_, rfl⟩
    rw [hg1] at A1d ⊢
    clear hg1
    go_wp2_with fail
    have A3 := Lib.hid (FracBlk.FB.new (w4.alloc (.cells #[.int .i64 0, .int .i64 0] 25)) 25 (-1000000000000) 1)
    have A1e := Lib.hid ((A1d.out.alloc (.cells #[.int .i64 0, .int .i64 0] 25)).alloc (.cells #[.int .i64 (-1000000000000), .int .i64 1] 25))
    have A2c := Lib.hid ((A2b.out.alloc (.cells #[.int .i64 0, .int .i64 0] 25)).alloc (.cells #[.int .i64 (-1000000000000), .int .i64 1] 25))
    refine (F3.out _ (HV.out.on (by (repeat (first | exact Below.refl _ _ | apply BelowKit.bl_alloc | apply BelowKit.bl_drewN | apply BelowKit.bl_drew | (refine BelowKit.bl_set ?_ _ ?_; rotate_left; (first | omega | (simp; omega) | simp)) | (refine BelowKit.bl_trans ?_ (‹Hid (Below _ _ _)›).out))))).tab).mono ?_
    rintro e w5 ⟨rfl, hb⟩
    have A1f := Lib.hid (A1e.out.on hb)
    have A2d := Lib.hid (A2c.out.on hb)
    have A3b := Lib.hid (A3.out.on hb)
    have B5 := Lib.hid (show Below w.heap.size w w5 from BelowKit.bl_trans (BelowKit.bl_alloc (BelowKit.bl_alloc B4.out)) hb)
    have hz4 : (w4.alloc (.cells #[.int .i64 0, .int .i64 0] 25)).heap.size = w4.heap.size + 1 := by simp
    rw [hz4] at A3b
    obtain ⟨g3, hg3⟩ : ∃ g, w4.heap.size + 1 = g := ⟨_, rfl⟩
    rw [hg3] at A3b ⊢
    clear hb F3 A1d A1e A2b A2c A3 B4 hz4 hg3
    go_wp2_with fail
    refine (P3.out _ (HV.out.on B5.out)).mono ?_
    rintro e w6 ⟨rfl, hb⟩
    have hfin : Below w6.heap.size w6 (w6.alloc (.cells #[.int .i64 (-1000000000000), .int .i64 1] 25)) := by (repeat (first | exact Below.refl _ _ | apply BelowKit.bl_alloc | apply BelowKit.bl_drewN | apply BelowKit.bl_drew | (refine BelowKit.bl_set ?_ _ ?_; rotate_left; (first | omega | (simp; omega) | simp)) | (refine BelowKit.bl_trans ?_ (‹Hid (Below _ _ _)›).out)))
    have A4 := FracBlk.FB.new w6 25 (-1000000000000) 1
    have hA1 := (A1f.out.on hb).on hfin
    have hA2 := (A2d.out.on hb).on hfin
    have hA3 := (A3b.out.on hb).on hfin
    have B6 := Lib.hid (BelowKit.bl_trans (BelowKit.bl_trans B5.out hb) hfin)
    have x0 := hA1.c0
    have x1 := hA1.c1
    have y0 := hA2.c0
    have y1 := hA2.c1
    have u0' := hA3.c0
    have u1' := hA3.c1
    have v0' := A4.c0
    have v1' := A4.c1
    clear hb P3 A1f A2d A3b B5 hA1 hA2 hA3 A4 hfin
    go_upto_region 9 with fail
    obtain ⟨W, hW⟩ : ∃ W, w6.alloc (.cells #[.int .i64 (-1000000000000), .int .i64 1] 25) = W := ⟨_, rfl⟩
    rw [hW] at x0 x1 y0 y1 u0' u1' v0' v1' B6 ⊢
    obtain ⟨g4, hg4⟩ : ∃ g, w6.heap.size = g := ⟨_, rfl⟩
    rw [hg4] at v0' v1' ⊢
    clear hW hg4
    have heq := fun W => FracEq.eql n d n d W
    have hsame : (n == n && d == d) = true := by simp
    simp only [hsame] at heq
    have heq2 := fun W => FracEq.eql (-1000000000000) 1 (-1000000000000) 1 W
    have hsame2 : (((-1000000000000 : Int) == -1000000000000) && ((1 : Int) == 1)) = true := by decide
    simp only [hsame2] at heq2
    have hgrd := fun W x y a b c e => FracEq.guard .eql x y #[.int .i64 a, .int .i64 b] #[.int .i64 c, .int .i64 e] W
    clear hsame hsame2
    go_wp2
    go_ret
    exact ⟨rfl, B6.out⟩

set_option maxRecDepth 100000 in
/-- What the walk gives, for every argument and every world that holds the listed tables. -/
theorem contract (H : Type) (enc : TypeId × Value → H) (W : World) (base : Nat) (args : Array Value) (ds gs : List (DataW H)) (before : List MemPlace)
    (hval0 : ∀ (j : Nat) t v, Tryd.f3.params[j]? = some t → args[j]? = some v → Value.okWide Tryd.prog W .any base t v)
    (hW : DataW.Whole enc Tryd.prog Tryd.f3.params.toList Rows.fnFracTextsSpec.vars false W args.toList ds gs before) (hL : laidMetH Tryd.prog Rows.fnFracTextsRow.laid W) (hSh : W.ShapedOpen Tryd.prog) :
    Calls Tryd.prog 3 args W fun e W' => ∃ v, e = .returned v ∧ Rows.fnFracTextsSpec.post enc Tryd.prog Tryd.f3 false true false false W args v W' := by
  have hval : ∀ (j : Nat) t v, Tryd.f3.params[j]? = some t → args[j]? = some v → Value.okWide Tryd.prog W .any base t v := hval0
  have hW' := hW
  obtain ⟨p, q, hA0, hV, rfl, hfz, hnd⟩ := hW
  have hA : DataW.TrodAll enc Tryd.prog W 0 (fun _ => true) true Tryd.f3.params.toList args.toList ds p := hA0
  rw [Tryd.params3] at hA hval
  obtain ⟨v0, vs0, d0, ds0, p0, q0, hargs, rfl, rfl, h0, r0⟩ := trodAll_cons hA
  obtain ⟨rfl, rfl, rfl⟩ := trodAll_nil r0
  obtain rfl : args = #[v0] := by cases args; simp_all
  obtain ⟨rfl, rfl⟩ := trodVars_none hV
  obtain ⟨a0, len0, cap0, rfl⟩ := okWide_slice Tryd.underlying22 (hval 0 22 v0 rfl rfl)
  have k0 := h0
  have lt0 : ∀ x ∈ p0, x.block < W.heap.size := by obtain ⟨m, hm⟩ := k0; exact DataW.trod_lt m _ _ _ hm
  obtain ⟨z0, w0⟩ : ∃ zs, IsRow .u8 W a0 len0 cap0 zs := by
    obtain ⟨fuel, hf⟩ := h0
    rcases open_ints Tryd.underlying22 Tryd.underlying5 (by kernel_rfl) hf with ⟨hcs, _⟩ | ⟨x, l, c, zs, hcs, _, hl, hm, hz, _, hcell, hwz⟩
    · simp [Value.cells] at hcs
      obtain ⟨rfl, rfl, rfl⟩ := hcs
      exact ⟨[], .inl ⟨rfl, rfl, rfl, rfl⟩⟩
    · simp [Value.cells] at hcs
      obtain ⟨rfl, rfl, rfl⟩ := hcs
      exact ⟨zs, .inr ⟨_, rfl, hl, hm, by simpa using hz, hcell, hwz⟩⟩
  clear hA0 hval0
  refine (walk a0 len0 cap0 z0 W (vars hL hSh) w0).mono fun e W' ⟨he, bel⟩ => ?_
  subst he
  exact ⟨_, rfl, _, _, _, [], _, [], hW', trodAll_mk1 (shut_bool Tryd.underlying4 _), (trodAll_cons_mk (Below.trod laidOut (by kernel_rfl) (of_decide_eq_true (by kernel_rfl)) k0 bel lt0) trodAll_mk0), rfl, bel.frame _, fun h => by cases h⟩

noncomputable def low : Nat := (World.holding Tryd.prog default ⟨#[], #[], []⟩).heap.size
/-- A world for the witness: the settled one, the listed variables holding what their initialisers lay. -/
noncomputable def laidWorld (os : Os) : World :=
  { World.holding Tryd.prog os ⟨#[.cells #[.string ⟨#[118, 97, 108, 117, 101, 32, 111, 117, 116, 32, 111, 102, 32, 114, 97, 110, 103, 101]⟩] 157, .cells #[.string ⟨#[105, 110, 118, 97, 108, 105, 100, 32, 115, 121, 110, 116, 97, 120]⟩] 157], #[], []⟩ with heap := (World.holding Tryd.prog os ⟨#[.cells #[.string ⟨#[118, 97, 108, 117, 101, 32, 111, 117, 116, 32, 111, 102, 32, 114, 97, 110, 103, 101]⟩] 157, .cells #[.string ⟨#[105, 110, 118, 97, 108, 105, 100, 32, 115, 121, 110, 116, 97, 120]⟩] 157], #[], []⟩).heap |>.modify 4 (fun | .cells _ t frozen => .cells #[.int .u8 0, .int .u8 1, .int .u8 28, .int .u8 2, .int .u8 29, .int .u8 14, .int .u8 24, .int .u8 3, .int .u8 30, .int .u8 22, .int .u8 20, .int .u8 15, .int .u8 25, .int .u8 17, .int .u8 4, .int .u8 8, .int .u8 31, .int .u8 27, .int .u8 13, .int .u8 23, .int .u8 21, .int .u8 19, .int .u8 16, .int .u8 7, .int .u8 26, .int .u8 12, .int .u8 18, .int .u8 6, .int .u8 11, .int .u8 5, .int .u8 10, .int .u8 9] t frozen | o => o)|>.modify 5 (fun | .cells _ t frozen => .cells #[.int .u8 0, .int .u8 1, .int .u8 56, .int .u8 2, .int .u8 57, .int .u8 49, .int .u8 28, .int .u8 3, .int .u8 61, .int .u8 58, .int .u8 42, .int .u8 50, .int .u8 38, .int .u8 29, .int .u8 17, .int .u8 4, .int .u8 62, .int .u8 47, .int .u8 59, .int .u8 36, .int .u8 45, .int .u8 43, .int .u8 51, .int .u8 22, .int .u8 53, .int .u8 39, .int .u8 33, .int .u8 30, .int .u8 24, .int .u8 18, .int .u8 12, .int .u8 5, .int .u8 63, .int .u8 55, .int .u8 48, .int .u8 27, .int .u8 60, .int .u8 41, .int .u8 37, .int .u8 16, .int .u8 46, .int .u8 35, .int .u8 44, .int .u8 21, .int .u8 52, .int .u8 32, .int .u8 23, .int .u8 11, .int .u8 54, .int .u8 26, .int .u8 40, .int .u8 15, .int .u8 34, .int .u8 20, .int .u8 31, .int .u8 10, .int .u8 25, .int .u8 14, .int .u8 19, .int .u8 9, .int .u8 13, .int .u8 8, .int .u8 7, .int .u8 6] t frozen | o => o)|>.modify 3 (fun | .cells _ t frozen => .cells #[.int .u64 1, .int .u64 10, .int .u64 100, .int .u64 1000, .int .u64 10000, .int .u64 100000, .int .u64 1000000, .int .u64 10000000, .int .u64 100000000, .int .u64 1000000000, .int .u64 10000000000, .int .u64 100000000000, .int .u64 1000000000000, .int .u64 10000000000000, .int .u64 100000000000000, .int .u64 1000000000000000, .int .u64 10000000000000000, .int .u64 100000000000000000, .int .u64 1000000000000000000, .int .u64 10000000000000000000] t frozen | o => o)|>.modify 2 (fun | .cells _ t frozen => .cells #[.iface 155 (.pointer (some ⟨low + 0, 0, none⟩))] t frozen | o => o)|>.modify 1 (fun | .cells _ t frozen => .cells #[.iface 155 (.pointer (some ⟨low + 1, 0, none⟩))] t frozen | o => o) }
theorem laid_met (os : Os) : laidMet Tryd.prog Rows.fnFracTextsRow.laid ((laidWorld os).forCall (fun _ _ => 0) ⟨#[], #[.slice none 0 0], []⟩).memory :=
  laidMet_of_run' 8 (by kernel_rfl) (by kernel_rfl)
theorem reads (os : Os) {H : Type} (enc : TypeId × Value → H) : ∃ places, DataW.whole enc Tryd.prog ((laidWorld os).forCall (fun _ _ => 0) ⟨#[], #[.slice none 0 0], []⟩).memory Tryd.f3.params.toList Rows.fnFracTextsSpec.vars false #[Value.slice none 0 0].toList 8 = some ([.nil], [], places) :=
  ⟨[], by kernel_rfl⟩

set_option maxRecDepth 100000 in
theorem lifted (os : Os) (started : os.Started) (H : Type) (enc : TypeId × Value → H) (F : Stop.Interp) :
    ReturnsInHanded {} Tryd.checked os 3 .any ((OpenSpec.ofChange Rows.fnFracTextsSpec).preRow enc Tryd.prog Tryd.f3 Rows.fnFracTextsRow.domain false Rows.fnFracTextsRow.laid) (((OpenSpec.ofChange Rows.fnFracTextsSpec).at F).post enc Tryd.prog Tryd.f3 false true false false) := by
  obtain ⟨places, hx⟩ := reads os enc
  refine returnsInHanded_of_row (C := Tryd.checked) (s := OpenSpec.ofChange Rows.fnFracTextsSpec) own started (by kernel_rfl) Tryd.func3
    (witness_row_at (enc := enc) (C := Tryd.checked) false (laidWorld os) #[.slice none 0 0] rfl (by kernel_rfl) (by kernel_rfl) (by kernel_rfl)
      (OpenSpec.preRow_of_cond 8 hx (by kernel_rfl) (fun k hk => by cases hk) (by kernel_rfl) (laid_met os))) ?_
  intro W base args ds gs before hval hW _ _ _ hL hSh _
  exact contract H enc W base args ds gs before hval hW hL hSh

theorem said : Rows.FnFracTextsSaid :=
  OpenClaim.holds_of_cond 3 Tryd.f3 rfl rfl rfl rfl rfl rfl rfl ⟨rfl, rfl, rfl, rfl, rfl⟩ rfl rfl rfl rfl rfl (by kernel_rfl) Tryd.func3 (by kernel_rfl)
    (of_decide_eq_true (by kernel_rfl)) (by unfold Func.isWrapper; first | (rw [if_pos (by decide +kernel)]; kernel_rfl) | (rw [if_neg (by decide +kernel)]; exact ⟨rfl, rfl⟩))
    (fun os started H enc _ F => by rw [OpenClaim.pre_eq_preRow]; exact lifted os started H enc F)

theorem plain (f : FuncId) (fn : Func) (hf : Tryd.pinned.checked.prog.funcNamed "loop.example/g00980/laws.FnFracTexts" = some f) (hfn : Tryd.pinned.checked.prog.funcs[f]? = some fn) :
    true = Tryd.pinned.checked.prog.looks [] ∧ ∀ (j : Nat) t, fn.params[j]? = some t → Tryd.pinned.checked.prog.wantsStandIn t = false := by
  obtain rfl : f = 3 := Option.some.inj ((show Tryd.prog.funcNamed "loop.example/g00980/laws.FnFracTexts" = some 3 by kernel_rfl).symm.trans hf) |>.symm
  obtain rfl : fn = Tryd.f3 := (Option.some.inj (Tryd.func3.symm.trans hfn)).symm
  refine ⟨by kernel_rfl, fun j t ht => ?_⟩
  rw [Tryd.params3] at ht
  obtain rfl : t = 22 := by simpa using Array.mem_of_getElem? ht
  exact (show Tryd.prog.wantsStandIn 22 = false by kernel_rfl)

theorem proved : Rows.FnFracTextsCardSaid :=
  Claim7.holds_tied_plain_at .later [] _ _ _ _ said (fun _ h => by cases h) (by kernel_rfl) (fun _ h => by cases h) fnFracTexts_row_tie rfl ⟨rfl, rfl⟩ (by kernel_rfl) rfl plain (by kernel_rfl)
#print axioms proved
end Go.Proofs.YtiogpiopgcbdbaaDoor.fnFracTexts
