/- slices.ContainsFunc over indexes and over fractions: the program's two tests. -/
import Derived.Test.YtkfgflmhefbinaaRows
import Derived.Test.YtkfgflmhefbinaaStepI
import Derived.Test.YtkfgflmhefbinaaFracC
import Derived.Test.YtkfgflmhefbinaaKit
import Derived.WalkKit
import Derived.Below
import Derived.WalkSmall
import Derived.Lib.Hide
namespace Go.Proofs.Ytkfgflmhefbinaa.TestI
open Go.RowKit RowN TNode NodeMath FracMath StepI
/-- Some operand lies at or behind the node. -/
def Out (at_ : Int) (x : Int) : Prop := x < 0 ∨ at_ ≤ x
def befB (l : List Int) (at_ : Int) : Bool := decide (∀ x ∈ l, 0 ≤ x ∧ x < at_)
/-- What an index function answers: where no element of the first j ones is bad. -/
def Found {α : Type} (bad : α → Prop) (l : List α) (r : Int) : Prop := (0 ≤ r ∧ ∃ x ∈ l, bad x) ∨ (r = -1 ∧ ∀ x ∈ l, ¬ bad x)
def IsFound {α : Type} (bad : α → Prop) (l : List α) (w : World) (e : Ending) (w' : World) : Prop := ∃ r : Int, e = .returned (.int .i64 r) ∧ Found bad l r ∧ Below w.heap.size w w'
theorem all_of {α : Type} {bad : α → Prop} {l : List α} {m : Nat} (hm : l.length = m) (h : ∀ i (h : i < l.length), i < m → ¬ bad l[i]) : ∀ x ∈ l, ¬ bad x := fun x hx => by
  obtain ⟨i, hi, rfl⟩ := List.mem_iff_getElem.1 hx
  exact h i hi (by omega)
theorem bef_found {l : List Int} {at_ r : Int} (h : Found (Out at_) l r) : (0 ≤ r ∧ befB l at_ = false) ∨ (r = -1 ∧ befB l at_ = true) := by
  rcases h with ⟨h1, x, hx, hb⟩ | ⟨h1, h2⟩
  · refine .inl ⟨h1, decide_eq_false fun e => ?_⟩
    have := e x hx
    unfold Out at hb
    omega
  · refine .inr ⟨h1, decide_eq_true fun x hx => ?_⟩
    have := h2 x hx
    unfold Out at this
    omega
theorem out_i (w : World) (x at_ : Int) (b : Nat) (hb : w.cell? ⟨b, 0, none⟩ = some (.int .i64 at_)) :
    Calls Try.prog 136 #[.int .i64 x, .pointer (some ⟨b, 0, none⟩)] w (fun e w' => e = .returned (.bool (decide (x < 0 ∨ at_ ≤ x))) ∧ w = w') := by
  by_cases h1 : x < 0
  · rw [show decide (x < 0 ∨ at_ ≤ x) = true from decide_eq_true (.inl h1)]
    have d1 : decide (x < 0) = true := decide_eq_true h1
    clear h1
    go_enter Try.func136, Try.ntmps136
    go_wp2
    go_ret
    exact ⟨rfl, rfl⟩
  · have d1 : decide (x < 0) = false := decide_eq_false h1
    rw [show decide (x < 0 ∨ at_ ≤ x) = decide (at_ ≤ x) by simp [h1]]
    clear h1
    go_enter Try.func136, Try.ntmps136
    go_wp2
    go_ret
    exact ⟨rfl, rfl⟩
set_option maxHeartbeats 1000000 in
theorem find_i (w : World) (p : Option Addr) (m cap : Nat) (l : List Int) (at_ : Int) (b : Nat) (hm : l.length = m) (hs : m ≤ 1048576) (h : Reads fI 1 w p l) (hb : w.cell? ⟨b, 0, none⟩ = some (.int .i64 at_)) :
    Calls Try.prog 143 #[.slice p m cap, .func (.func 136) #[] #[.pointer (some ⟨b, 0, none⟩)]] w (IsFound (Out at_) l w) := by
  have KK := Lib.hid h
  have HM := Lib.hid hm
  have HBC := Lib.hid hb
  clear h hm hb
  go_enter Try.func143, Try.ntmps143
  go_wp2
  go_loopw [8] (fun i wr => ∃ j : Nat, j ≤ m ∧ i = .int .i64 (j : Int) ∧ Hid (∀ i (h : i < l.length), i < j → ¬ Out at_ l[i]) ∧ w = wr) (fun i _ => m - (intOf i).toNat)
  case atStart => exact ⟨0, Nat.zero_le _, rfl, Lib.hid (fun i _ hi => by omega), rfl⟩
  case round =>
    obtain ⟨j, hj, rfl, HP, rfl⟩ := hrel
    by_cases hlt : j < m
    · have HLT := Lib.hid (show j < l.length by rw [HM.out]; exact hlt)
      obtain ⟨g, o, rfl, hgl, q⟩ := KK.out j HLT.out
      have q0 := q 0 (by omega)
      simp only [fI, Nat.mul_one, Nat.add_zero, List.getElem?_cons_zero] at q0
      clear q
      have b1 : (0 : Int) ≤ (j : Int) := by omega
      have b2 : (j : Int) < (m : Int) := by omega
      have HX : Hid (Out at_ (l[j]'HLT.out) → ∃ x ∈ l, Out at_ x) := Lib.hid (fun e => ⟨_, List.getElem_mem HLT.out, e⟩)
      have HZ : Hid (¬ Out at_ (l[j]'HLT.out) → ∀ i (h : i < l.length), i < j + 1 → ¬ Out at_ l[i]) := Lib.hid (fun e i h hi => by
        by_cases h2 : i = j
        · subst h2; exact e
        · exact HP.out i h (by omega))
      clear HP
      generalize (l[j]'HLT.out) = x at q0 HX HZ
      obtain ⟨d, hd⟩ : ∃ d, decide (x < 0 ∨ at_ ≤ x) = d := ⟨_, rfl⟩
      have HD := Lib.hid hd
      clear hd
      go_wp2_with fail
      refine (out_i _ x at_ b HBC.out).mono ?_
      rintro e w1 ⟨rfl, rfl⟩
      rw [HD.out]
      cases d with
      | true =>
        have E := Lib.hid (HX.out (of_decide_eq_true (p := x < 0 ∨ at_ ≤ x) HD.out))
        clear HX HZ HD
        go_wp2
        go_ret
        exact ⟨(j : Int), rfl, .inl ⟨b1, E.out⟩, Below.refl _ _⟩
      | false =>
        have E := Lib.hid (HZ.out (of_decide_eq_false (p := x < 0 ∨ at_ ≤ x) HD.out))
        clear HX HZ HD
        go_wp2
        go_roundw
        case rel => exact ⟨j + 1, by omega, by go_num, E, trivial⟩
        case measure => simp [intOf]; omega
    · obtain rfl : j = m := by omega
      have E := Lib.hid (all_of HM.out HP.out)
      clear HP
      go_wp2
      go_ret
      exact ⟨-1, rfl, .inr ⟨rfl, E.out⟩, Below.refl _ _⟩
theorem has_i (w : World) (p : Option Addr) (m cap : Nat) (l : List Int) (at_ : Int) (b : Nat) (hm : l.length = m) (hs : m ≤ 1048576) (h : Reads fI 1 w p l) (hb : w.cell? ⟨b, 0, none⟩ = some (.int .i64 at_)) :
    Calls Try.prog 135 #[.slice p m cap, .func (.func 136) #[] #[.pointer (some ⟨b, 0, none⟩)]] w (IsV (.bool (!(befB l at_))) w) := by
  have KK := Lib.hid h
  have HBC := Lib.hid hb
  clear h hb
  go_enter Try.func135, Try.ntmps135
  go_wp2_with fail
  refine (find_i _ p m cap l at_ b hm hs KK.out HBC.out).mono ?_
  rintro e w1 ⟨r, rfl, hf, hb⟩
  have HB := Lib.hid hb
  clear hb
  rcases bef_found hf with ⟨h1, h2⟩ | ⟨h1, h2⟩
  · have E := Lib.hid h2
    have d1 : decide (0 ≤ r) = true := decide_eq_true h1
    clear h1 h2 hf
    go_wp2
    go_ret
    rw [E.out]
    exact ⟨rfl, HB.out⟩
  · have E := Lib.hid h2
    subst h1
    clear h2 hf
    go_wp2
    go_ret
    rw [E.out]
    exact ⟨rfl, HB.out⟩
theorem before_i (w : World) (p : Option Addr) (m cap : Nat) (l : List Int) (at_ : Int) (hm : l.length = m) (hs : m ≤ 1048576) (h : Reads fI 1 w p l) :
    Calls Try.prog 127 #[.int .i64 at_, .slice p m cap] w (IsV (.bool (befB l at_)) w) := by
  have KK := Lib.hid h
  clear h
  go_enter Try.func127, Try.ntmps127
  go_wp2_with fail
  refine (has_i _ p m cap l at_ w.heap.size hm hs (KK.out.on (by (repeat (first | exact Below.refl _ _ | apply BelowKit.bl_alloc | apply BelowKit.bl_drewN | apply BelowKit.bl_drew | (refine BelowKit.bl_set ?_ _ ?_; rotate_left; (first | omega | (simp; omega) | simp)) | (refine BelowKit.bl_trans ?_ (‹Hid (Below _ _ _)›).out))))) (by simp [go_sem])).mono ?_
  rintro e w1 ⟨rfl, hb⟩
  have HB := Lib.hid (BelowKit.bl_trans (BelowKit.bl_alloc (Below.refl _ _)) hb)
  clear hb
  obtain ⟨d, hd⟩ : ∃ d, befB l at_ = d := ⟨_, rfl⟩
  rw [hd]
  have E := Lib.hid hd
  clear hd
  cases d with
  | true =>
    go_wp2
    go_ret
    rw [E.out]
    exact ⟨rfl, HB.out⟩
  | false =>
    go_wp2
    go_ret
    rw [E.out]
    exact ⟨rfl, HB.out⟩
def Bad (x : Fr) : Prop := okB x.Num x.Den = false
theorem vs_found {l : List Fr} {r : Int} (hl : l.length = 8) (h : Found Bad l r) : (0 ≤ r ∧ okVs l = false) ∨ (r = -1 ∧ okVs l = true) := by
  rcases h with ⟨h1, x, hx, hb⟩ | ⟨h1, h2⟩
  · refine .inl ⟨h1, okVs_no fun e => ?_⟩
    obtain ⟨i, hi, rfl⟩ := List.mem_iff_getElem.1 hx
    have := e.2 i hi
    unfold okV at this
    unfold Bad at hb
    rw [hb] at this
    cases this
  · refine .inr ⟨h1, okVs_yes ⟨hl, fun i hi => ?_⟩⟩
    have := h2 _ (List.getElem_mem hi)
    unfold Bad at this
    unfold okV
    simpa using this
theorem bad_i (w : World) (x y : Int) : Calls Try.prog 130 #[.agg #[.int .i64 x, .int .i64 y]] w (IsV (.bool (!(okB x y))) w) := by
  go_enter Try.func130, Try.ntmps130
  go_wp2_with fail
  refine (FracValid.valid_i x y _).mono ?_
  rintro e w1 ⟨rfl, hb⟩
  have HB := Lib.hid (BelowKit.bl_trans (BelowKit.bl_alloc (Below.refl _ _)) hb)
  clear hb
  go_wp2
  go_ret
  exact ⟨rfl, HB.out⟩
set_option maxHeartbeats 1000000 in
theorem findF_i (w : World) (p : Option Addr) (m cap : Nat) (l : List Fr) (hm : l.length = m) (hs : m ≤ 1048576) (h : Reads TFrac.fc 2 w p l) :
    Calls Try.prog 137 #[.slice p m cap, .func (.func 130) #[] #[]] w (IsFound Bad l w) := by
  have KK := Lib.hid h
  have HM := Lib.hid hm
  clear h hm
  go_enter Try.func137, Try.ntmps137
  go_wp2
  go_loopw [8] (fun i wr => ∃ j : Nat, j ≤ m ∧ i = .int .i64 (j : Int) ∧ Hid (∀ i (h : i < l.length), i < j → ¬ Bad l[i]) ∧ Hid (Below w.heap.size w wr)) (fun i _ => m - (intOf i).toNat)
  case atStart => exact ⟨0, Nat.zero_le _, rfl, Lib.hid (fun i _ hi => by omega), Lib.hid (Below.refl _ _)⟩
  case round =>
    obtain ⟨j, hj, rfl, HP, HB⟩ := hrel
    by_cases hlt : j < m
    · have HLT := Lib.hid (show j < l.length by rw [HM.out]; exact hlt)
      obtain ⟨g, o, rfl, hgl, q0, q1⟩ := TFrac.read (KK.out.on HB.out) j HLT.out
      have b1 : (0 : Int) ≤ (j : Int) := by omega
      have b2 : (j : Int) < (m : Int) := by omega
      have HX : Hid (okB (l[j]'HLT.out).Num (l[j]'HLT.out).Den = false → ∃ x ∈ l, Bad x) := Lib.hid (fun e => ⟨_, List.getElem_mem HLT.out, e⟩)
      have HZ : Hid (okB (l[j]'HLT.out).Num (l[j]'HLT.out).Den = true → ∀ i (h : i < l.length), i < j + 1 → ¬ Bad l[i]) := Lib.hid (fun e i h hi => by
        by_cases h2 : i = j
        · subst h2; unfold Bad; rw [e]; simp
        · exact HP.out i h (by omega))
      clear HP
      generalize (l[j]'HLT.out) = x at q0 q1 HX HZ
      obtain ⟨x0, x1⟩ := x
      simp only [] at q0 q1 HX HZ
      obtain ⟨d, hd⟩ : ∃ d, okB x0 x1 = d := ⟨_, rfl⟩
      have HD := Lib.hid hd
      clear hd
      go_wp2_with fail
      refine (bad_i _ x0 x1).mono ?_
      rintro e w1 ⟨rfl, hb⟩
      rw [HD.out]
      have HB1 := Lib.hid (BelowKit.bl_trans HB.out hb)
      clear hb q0 q1
      cases d with
      | false =>
        have E := Lib.hid (HX.out HD.out)
        clear HX HZ HD
        go_wp2
        go_ret
        exact ⟨(j : Int), rfl, .inl ⟨b1, E.out⟩, HB1.out⟩
      | true =>
        have E := Lib.hid (HZ.out HD.out)
        clear HX HZ HD
        go_wp2
        go_roundw
        case rel => exact ⟨j + 1, by omega, by go_num, E, HB1⟩
        case measure => simp [intOf]; omega
    · obtain rfl : j = m := by omega
      have E := Lib.hid (all_of HM.out HP.out)
      clear HP
      go_wp2
      go_ret
      exact ⟨-1, rfl, .inr ⟨rfl, E.out⟩, HB.out⟩
theorem hasF_i (w : World) (p : Option Addr) (m cap : Nat) (l : List Fr) (hm : l.length = m) (h8 : m = 8) (h : Reads TFrac.fc 2 w p l) :
    Calls Try.prog 129 #[.slice p m cap, .func (.func 130) #[] #[]] w (IsV (.bool (!(okVs l))) w) := by
  have KK := Lib.hid h
  have H8 := Lib.hid (show l.length = 8 by omega)
  have HS := Lib.hid (show m ≤ 1048576 by omega)
  clear h h8
  go_enter Try.func129, Try.ntmps129
  go_wp2_with fail
  refine (findF_i _ p m cap l hm HS.out KK.out).mono ?_
  rintro e w1 ⟨r, rfl, hf, hb⟩
  have HB := Lib.hid hb
  clear hb
  rcases vs_found H8.out hf with ⟨h1, h2⟩ | ⟨h1, h2⟩
  · have E := Lib.hid h2
    have d1 : decide (0 ≤ r) = true := decide_eq_true h1
    clear h1 h2 hf
    go_wp2
    go_ret
    rw [E.out]
    exact ⟨rfl, HB.out⟩
  · have E := Lib.hid h2
    subst h1
    clear h2 hf
    go_wp2
    go_ret
    rw [E.out]
    exact ⟨rfl, HB.out⟩
theorem vars_i (w : World) (p : Option Addr) (m cap : Nat) (l : List Fr) (hm : l.length = m) (h : Reads TFrac.fc 2 w p l) :
    Calls Try.prog 114 #[.slice p m cap] w (IsV (.bool (okVs l)) w) := by
  by_cases h8 : m = 8
  · have KK := Lib.hid h
    have H8 := Lib.hid h8
    have d1 : ((m : Int) == 8) = true := by rw [h8]; rfl
    clear h h8
    go_enter Try.func114, Try.ntmps114
    go_wp2_with fail
    refine (hasF_i _ p m cap l hm H8.out KK.out).mono ?_
    rintro e w1 ⟨rfl, hb⟩
    have HB := Lib.hid hb
    clear hb
    obtain ⟨d, hd⟩ : ∃ d, okVs l = d := ⟨_, rfl⟩
    rw [hd]
    have E := Lib.hid hd
    clear hd
    cases d with
    | true =>
      go_wp2
      go_ret
      rw [E.out]
      exact ⟨rfl, HB.out⟩
    | false =>
      go_wp2
      go_ret
      rw [E.out]
      exact ⟨rfl, HB.out⟩
  · rw [okVs_no (fun e => h8 (by rw [← hm]; exact e.1))]
    have d1 : ((m : Int) == 8) = false := beq_eq_false_iff_ne.2 (by omega)
    clear h h8 hm
    go_enter Try.func114, Try.ntmps114
    go_wp2
    go_ret
    exact ⟨rfl, Below.refl _ _⟩
end Go.Proofs.Ytkfgflmhefbinaa.TestI
