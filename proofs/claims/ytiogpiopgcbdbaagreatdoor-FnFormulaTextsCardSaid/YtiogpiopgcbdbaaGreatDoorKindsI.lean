/- Contracts of the program's operationWords and operationKinds: maps that the call makes, one filled by a range over the other. -/
import Derived.Test.YtiogpiopgcbdbaaGreatDoorRows
import Derived.Test.YtiogpiopgcbdbaaGreatDoorNine
import Derived.Test.YtiogpiopgcbdbaaGreatDoorKit
import Derived.Maps.RangeWalk
import Derived.Maps.OwnSet
import Derived.WalkKit
import Derived.Below
import Derived.Lib.Hide
namespace Go.Proofs.YtiogpiopgcbdbaaGreatDoor.KindsI
open Go.RowKit TNode NodeMath SizeM ReadM MapM Go.Maps
theorem lawI : Keyed Tryz.prog 3 := int_keyed Tryz.underlying3
theorem lawS : Keyed Tryz.prog 9 := string_keyed Tryz.underlying9
theorem zeroI (w : World) : (zeroValue 3).run Tryz.prog w = .ok (.int .i64 0) w := by kernel_rfl
theorem zeroS (w : World) : (zeroValue 9).run Tryz.prog w = .ok (.string ⟨#[]⟩) w := by kernel_rfl
theorem rS (s : ByteArray) (l : List UInt8) (h : s.data.toList = l) (hl : s.size ≤ 1048576) : (plainElem Tryz.prog 9) (.string s) = some (vS l, []) := by
  subst h
  exact plainElem_string Tryz.underlying9 (by unfold maxLen; omega)
theorem wf7 (k : Int) (h : 3 ≤ k ∧ k ≤ 9) : (Lit.int .i64 k).wf = true := by
  have hk : k = 3 ∨ k = 4 ∨ k = 5 ∨ k = 6 ∨ k = 7 ∨ k = 8 ∨ k = 9 := by omega
  rcases hk with rfl | rfl | rfl | rfl | rfl | rfl | rfl <;> decide
theorem rI (k : Int) (h : 3 ≤ k ∧ k ≤ 9) : (plainElem Tryz.prog 3) (.int .i64 k) = some (vI k, []) := plainElem_int Tryz.underlying3 (wf7 k h)
theorem kIm (k : Int) (h : 3 ≤ k ∧ k ≤ 9) : keyOf Tryz.prog 3 (.int .i64 k) = some (kI k) := keyOf_int_mk Tryz.underlying3 (wf7 k h)
theorem kSm (s : ByteArray) (l : List UInt8) (h : s.data.toList = l) (hl : s.size ≤ 1048576) : keyOf Tryz.prog 9 (.string s) = some (kS l) := by
  subst h
  exact Go.WideMaps.keyOf_string_mk Tryz.underlying9 (by unfold maxLen; omega)
abbrev OwnW (w : World) (b n : Nat) (D : DU) : Prop := w.ownsMap Tryz.prog 3 (plainElem Tryz.prog 9) b n D
abbrev OwnK (w : World) (b n : Nat) (D : DU) : Prop := w.ownsMap Tryz.prog 9 (plainElem Tryz.prog 3) b n D
theorem own_on {k : TypeId} {R : Value → Option (DU × List MemPlace)} {w w' : World} {b n : Nat} {D : DU} (h : w.ownsMap Tryz.prog k R b n D) (hb : w'.heap[b]? = w.heap[b]?) : w'.ownsMap Tryz.prog k R b n D := by
  obtain ⟨es, clock, he, rest⟩ := h
  exact ⟨es, clock, hb.trans he, rest⟩
theorem own_below {k : TypeId} {R : Value → Option (DU × List MemPlace)} {w w' : World} {b n : Nat} {D : DU} (h : w.ownsMap Tryz.prog k R b n D) (hb : Below w.heap.size w w') : w'.ownsMap Tryz.prog k R b n D := own_on h (hb.block b h.lt)
theorem put {w : World} {b n : Nat} {D : DU} (h : OwnW w b n D) (k : Int) (s : ByteArray) (l : List UInt8) (hk : 3 ≤ k ∧ k ≤ 9) (hs : s.data.toList = l) (hl : s.size ≤ 1048576) (hn : n < 100) :
    ∃ w', (Instr.mapUpdate 85 (.map (some b)) (.int .i64 k) (.string s)).run Tryz.prog w = .ok () w' ∧ OwnW w' b (n + 1) (D.put (kI k) (vS l)) ∧ w.grownBy w' (some b) :=
  World.ownsMap.update h lawI Tryz.underlying85 (by unfold maxLen; omega) (kIm k hk) (rS s l hs hl)
set_option maxHeartbeats 1000000 in
theorem words_map (w : World) : Calls Tryz.prog 31 #[] w (fun e w' => ∃ b, e = .returned (.map (some b)) ∧ w.heap.size ≤ b ∧ OwnW w' b 7 Dw ∧ Below w.heap.size w w') := by
  have hmm := @run_makeMap Tryz.prog
  have o0 : OwnW (w.alloc (.map #[] 0)) w.heap.size 0 D0 := World.ownsMap_made _ _ _ _
  have hb0 : Below w.heap.size w (w.alloc (.map #[] 0)) := by (repeat (first | exact Below.refl _ _ | apply BelowKit.bl_alloc | apply BelowKit.bl_drewN | apply BelowKit.bl_drew | (refine BelowKit.bl_set ?_ _ ?_; rotate_left; (first | omega | (simp; omega) | simp)) | (refine BelowKit.bl_trans ?_ (‹Hid (Below _ _ _)›).out)))
  obtain ⟨w1, h1, o1, g1⟩ := put o0 3 ⟨#[43]⟩ [43] (by omega) rfl (by decide) (by omega)
  obtain ⟨w2, h2, o2, g2⟩ := put o1 4 ⟨#[45]⟩ [45] (by omega) rfl (by decide) (by omega)
  obtain ⟨w3, h3, o3, g3⟩ := put o2 5 ⟨#[42]⟩ [42] (by omega) rfl (by decide) (by omega)
  obtain ⟨w4, h4, o4, g4⟩ := put o3 6 ⟨#[47]⟩ [47] (by omega) rfl (by decide) (by omega)
  obtain ⟨w5, h5, o5, g5⟩ := put o4 7 ⟨#[109, 105, 110]⟩ [109, 105, 110] (by omega) rfl (by decide) (by omega)
  obtain ⟨w6, h6, o6, g6⟩ := put o5 8 ⟨#[109, 97, 120]⟩ [109, 97, 120] (by omega) rfl (by decide) (by omega)
  obtain ⟨w7, h7, o7, g7⟩ := put o6 9 ⟨#[112, 105, 99, 107]⟩ [112, 105, 99, 107] (by omega) rfl (by decide) (by omega)
  have hB : Below w.heap.size w w7 := by
    have hk : ∀ k, some w.heap.size = some k → w.heap.size ≤ k := fun k h => by cases h; exact Nat.le_refl _
    have h1' := hb0.grown g1 hb0.size hk
    have h2' := h1'.grown g2 h1'.size hk
    have h3' := h2'.grown g3 h2'.size hk
    have h4' := h3'.grown g4 h3'.size hk
    have h5' := h4'.grown g5 h4'.size hk
    have h6' := h5'.grown g6 h5'.size hk
    exact h6'.grown g7 h6'.size hk
  have HB := Lib.hid hB
  have HO := Lib.hid (show OwnW w7 w.heap.size 7 Dw from o7)
  clear o0 o1 o2 o3 o4 o5 o6 o7 hb0 g1 g2 g3 g4 g5 g6 g7 hB
  go_enter Tryz.func31, Tryz.ntmps31
  go_wp2
  go_ret
  exact ⟨_, rfl, Nat.le_refl _, HO.out, HB.out⟩
set_option maxHeartbeats 4000000 in
set_option maxRecDepth 100000 in
theorem kinds_map (w : World) : Calls Tryz.prog 19 #[] w (fun e w' => ∃ b n D, e = .returned (.map (some b)) ∧ w.heap.size ≤ b ∧ OwnK w' b n D ∧ KD D ∧ Below w.heap.size w w') := by
  have hmm := @run_makeMap Tryz.prog
  have o0 : OwnK (w.alloc (.map #[] 0)) w.heap.size 0 D0 := World.ownsMap_made _ _ _ _
  have HO0 := Lib.hid o0
  clear o0
  go_enter Tryz.func19, Tryz.ntmps19
  go_wp2_with fail
  refine (words_map _).mono ?_
  rintro e w1 ⟨b, rfl, hbb, how, hb⟩
  have hb1 : w.heap.size < b := by simp at hbb; omega
  have HO1 := Lib.hid (own_below HO0.out hb)
  have HB1 := Lib.hid (BelowKit.bl_trans (BelowKit.bl_alloc (Below.refl _ _)) hb)
  have how' := how
  have hlt := how.lt
  clear hbb hb HO0 how
  go_wp2_with (at_range; refine wpList_range_own _ rfl _ 85 rfl 3 9 lawI Tryz.underlying85 _ b 7 _ rfl how' ?_; intro w0 hrg0 hg0 hs0)
  go_frame
  obtain ⟨r, hr⟩ : ∃ r, w1.heap.size = r := ⟨_, rfl⟩
  rw [hr] at hrg0 hlt ⊢
  have HB2 := Lib.hid (HB1.out.grown hg0 HB1.out.size (by simp))
  have HO2 := Lib.hid (World.ownsMap.kept HO1.out hg0 (by simp))
  have HRG := Lib.hid hrg0
  have hwr : w.heap.size < r := by omega
  clear how' hg0 hs0 hrg0 HB1 HO1 hr
  go_loopw [] (fun wr => ∃ (left : Lit → Bool) (cnt n : Nat) (D : DU), Hid (wr.ranges Tryz.prog 3 (plainElem Tryz.prog 9) b r 7 Dw left cnt) ∧ n + cnt ≤ 7 ∧ Hid (Kd D left ∧ ∀ kl, left kl = true → has Dw kl = true) ∧ Hid (OwnK wr w.heap.size n D) ∧ Hid (Below w.heap.size w wr)) (fun wr => wr.rangeLeft b r)
  case atStart => exact ⟨has Dw, 7, 0, D0, HRG, by omega, Lib.hid ⟨Kd.start, fun _ h => h⟩, HO2, HB2⟩
  case round =>
    clear HRG HO2 HB2
    obtain ⟨left, cnt, n, D, HR, hn, HK, HO, HB⟩ := hrel
    have HN := Lib.hid (fun (x : Int) (c : ByteArray) (kl : Lit) (y : DU × List MemPlace) (hk : keyOf Tryz.prog 3 (.int .i64 x) = some kl) (hl : left kl = true) (hR : (plainElem Tryz.prog 9) (.string c) = some y) (hat : ∀ zd, Dw.atKey kl zd = y.1) =>
      (show 3 ≤ x ∧ x ≤ 9 ∧ kl = kI x ∧ c.data.toList = nameW x from by
        obtain ⟨x', e1, e2, _⟩ := keyOf_int_inv Tryz.underlying3 hk
        cases e1
        subst e2
        obtain ⟨k, h3, h9, e⟩ := Dw_has (HK.out.2 _ hl)
        cases e
        refine ⟨h3, h9, rfl, ?_⟩
        have h1 := hat (vI 0)
        rw [Dw_at ⟨h3, h9⟩] at h1
        unfold plainElem at hR
        rw [Tryz.underlying9] at hR
        simp only [] at hR
        split at hR
        · cases hR
          simp only [DataW.lit.injEq, Lit.string.injEq] at h1
          exact h1.symm
        · cases hR))
    have hrg := HR.out
    go_wp2_with (at_next; refine wpList_next_ranges _ rfl _ rfl 3 lawI (plainElem Tryz.prog 9) (Value.int .i64) Value.string (fun key kl hkey => by obtain ⟨x, rfl, _⟩ := keyOf_int_inv Tryz.underlying3 hkey; exact ⟨x, rfl⟩) (fun v y hv => by unfold plainElem at hv; rw [Tryz.underlying9] at hv; cases v <;> simp at hv; exact ⟨_, rfl⟩) b r 7 _ _ _ rfl hrg ?_ ?_)
    · intro _ hl0
      have HKD := Lib.hid (HK.out.1.done hl0)
      clear hrg HN HR HK
      go_wp2
      go_ret
      exact ⟨_, n, D, rfl, Nat.le_refl _, HO.out, HKD.out, HB.out⟩
    · intro x c kl d ps w2 cnt2 hkey hlk hRc hat hrg2 hlt2 hg2 hs2 hen
      obtain ⟨h3, h9, rfl, hcn⟩ := HN.out x c kl (d, ps) hkey hlk hRc hat
      have HO2 : OwnK w2 w.heap.size n D := World.ownsMap.kept HO.out hg2 (by simp; omega)
      have HKD := Lib.hid (And.intro (HK.out.1.step (HO2.isMap) ⟨h3, h9⟩) (fun (kl : Lit) (h : (left kl && !kl.sameKey (kI x)) = true) => HK.out.2 kl (by rw [Bool.and_eq_true] at h; exact h.1)))
      have hcs : c.size ≤ 1048576 := by
        have : c.data.toList.length = c.size := by simp
        rw [hcn] at this
        have := name_len x
        omega
      obtain ⟨w3, h3r, o3, g3⟩ := World.ownsMap.update HO2 lawS Tryz.underlying53 (by unfold maxLen; omega) (kSm c _ hcn hcs) (rI x ⟨h3, h9⟩)
      have hrg3 := hrg2.kept g3 (by simp; omega) (by simp; omega)
      have HB3 := Lib.hid ((HB.out.grown hg2 HB.out.size (fun k h => by cases h; omega)).grown g3 (Nat.le_trans HB.out.size hg2.size) (fun k h => by cases h; exact Nat.le_refl _))
      have hm : wr.rangeLeft b r = cnt := hrg.left_eq
      have hm3 : w3.rangeLeft b r = cnt2 := hrg3.left_eq
      have HR3 := Lib.hid hrg3
      have HO3 := Lib.hid o3
      clear hrg hrg2 hrg3 HN HK HR HO HB HO2 hkey hlk hRc hat hg2 hs2 o3 g3 hcn hcs
      go_wp2
      go_roundw
      case rel => exact ⟨_, cnt2, n + 1, _, HR3, by omega, HKD, HO3, HB3⟩
      case measure => rw [hm, hm3]; exact hlt2
end Go.Proofs.YtiogpiopgcbdbaaGreatDoor.KindsI
