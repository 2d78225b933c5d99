/- The contract of slices.insertionSortCmpFunc on a stretch of the row: sorted by the order with which the comparison agrees. -/
import Derived.Test.YtdmnagpnhphifaaRows
import Derived.Test.YtdmnagpnhphifaaStab
import Derived.Test.YtdmnagpnhphifaaStabKit
import Derived.Test.YtdmnagpnhphifaaQuiet
import Derived.RegionTactic
import Derived.BigRegion
import Derived.BigQuiet
import Derived.Deep.QuietTactic
import Derived.Deep.LoopGhost
import Derived.ChangeAlike
import Derived.Shelf.Abstract
namespace Go.Proofs.Ytdmnagpnhphifaa.StabIns
open Go.RowKit Row1 CurKit Stab StabKit

/-- The stretch X of the row is now sorted. -/
def Sorted (T : Nat) (w0 : World) (g n : Nat) (R : Int → Int → Prop) (P X S : List Int) (e : Ending) (w' : World) : Prop :=
  e = .returned (.tuple #[]) ∧ ∃ Z : List Int, Z.Perm X ∧ Z.Pairwise R ∧ SW T w0 g n (P ++ (Z ++ S)) w'

/-- The first k elements of X are sorted; the rest waits. -/
structure Outer (T : Nat) (w0 : World) (g n : Nat) (R : Int → Int → Prop) (P X S : List Int) (k : Nat) (w : World) : Prop where
  ex : ∃ Z : List Int, Z.Perm (X.take k) ∧ Z.Pairwise R ∧ SW T w0 g n (P ++ (Z ++ (X.drop k ++ S))) w
/-- The element v goes down through Z = Z1 ++ Z2. -/
structure Inner (T : Nat) (w0 : World) (g n : Nat) (R : Int → Int → Prop) (P Z1 Z2 U : List Int) (v : Int) (w : World) : Prop where
  srt : (Z1 ++ Z2).Pairwise R
  top : Z2 = [] ∨ R v (Z2.getD 0 0)
  sw : SW T w0 g n (P ++ (Z1 ++ (v :: (Z2 ++ U)))) w
theorem Inner.down {T : Nat} {w0 w : World} {g n : Nat} {R : Int → Int → Prop} {P Z1 Z2 U : List Int} {v : Int} (h : Inner T w0 g n R P Z1 Z2 U v w) (hz : 0 < Z1.length) :
    ∃ (Q : List Int) (z : Int), Z1 = Q ++ [z] ∧ Z1.getD (Z1.length - 1) 0 = z := by
  rcases List.eq_nil_or_concat Z1 with rfl | ⟨Q, z, rfl⟩
  · simp at hz
  · exact ⟨Q, z, by simp, by simp [List.getD]⟩
theorem Outer.done {T : Nat} {w0 w : World} {g n : Nat} {R : Int → Int → Prop} {P X S : List Int} {k : Nat} (h : Outer T w0 g n R P X S k w) (hk : X.length ≤ k) :
    ∃ Z : List Int, Z.Perm X ∧ Z.Pairwise R ∧ SW T w0 g n (P ++ (Z ++ S)) w := by
  obtain ⟨Z, h1, h2, h3⟩ := h.ex
  rw [List.take_of_length_le hk] at h1
  rw [List.drop_of_length_le hk] at h3
  exact ⟨Z, h1, h2, h3⟩
/-- The inner loop has come to its end. -/
theorem Inner.done {T : Nat} {w0 w : World} {g n : Nat} {R : Int → Int → Prop} {P Z1 Z2 X S : List Int} {k : Nat} (ht : Trans R) (hk : k < X.length)
    (h : Inner T w0 g n R P Z1 Z2 (X.drop (k + 1) ++ S) X[k] w) (hp : (Z1 ++ Z2).Perm (X.take k)) (h1 : Z1 = [] ∨ R (Z1.getD (Z1.length - 1) 0) X[k]) : Outer T w0 g n R P X S (k + 1) w := by
  refine ⟨Z1 ++ (X[k] :: Z2), ?_, sorted_mid ht h.srt h1 h.top, h.sw.cast (by rw [List.append_assoc]; rfl)⟩
  rw [List.take_succ_eq_append_getElem hk]
  refine List.Perm.trans ?_ (List.Perm.trans (hp.append_right [X[k]]) (List.Perm.refl _))
  rw [List.append_assoc]
  exact List.Perm.append_left _ (List.perm_append_comm (l₁ := [X[k]]) (l₂ := Z2)) |>.trans (by rfl)

theorem pw_take {R : Int → Int → Prop} {X : List Int} (h : X.length ≤ 1) : X.Pairwise R := by
  match X, h with
  | [], _ => exact List.Pairwise.nil
  | [_], _ => simp

set_option maxRecDepth 100000 in
set_option maxHeartbeats 4000000 in
theorem ins_c (fn : FuncId) (cb : Array Value) (eg : ∀ args w, (callFunc fn args).run Try.prog w = .ok (.enter fn args) w) (R : Int → Int → Prop) (ht : Trans R) (ok : Int → Prop) (cf : Int → Int → Int)
    (w0 w : World) (g n a b : Nat) (hcmp : CmpAt Try.prog w0 g fn cb ok cf) (P X S : List Int) (hok : ∀ x ∈ X, ok x) (hag : X.Pairwise (Agree R cf)) (ha : a = P.length) (hb : b = P.length + X.length) (hn : n ≤ 1099511627776)
    (h : SW 3 w0 g n (P ++ (X ++ S)) w) :
    Calls Try.prog 52 #[.slice (some ⟨g, 0, none⟩) n n, .int .i64 a, .int .i64 b, .func (.func fn) #[] cb] w (Sorted 3 w0 g n R P X S) := by
  have hlen := h.len
  obtain ⟨N, hN⟩ : ∃ N, X.length = N := ⟨_, rfl⟩
  have hbn : b ≤ n := by simp only [List.length_append] at hlen; omega
  have hbN : b = a + N := by omega
  have HO := Lib.hid (show Outer 3 w0 g n R P X S 1 w from ⟨X.take 1, List.Perm.refl _, pw_take (by simp; omega), h.cast (by rw [← List.append_assoc (X.take 1), List.take_append_drop])⟩)
  have HC := Lib.hid hcmp
  have HK := Lib.hid hok
  have HG := Lib.hid hag
  have HT := Lib.hid ht
  have HA := Lib.hid ha
  have HN := Lib.hid hN
  clear hlen h hcmp hok hag ht ha hb hN
  subst hbN
  go_enter Try.func52, Try.ntmps52
  go_wp2
  go_loopg [8] N (fun g1 vi wr => ∃ k : Nat, 1 ≤ k ∧ k ≤ N + 1 ∧ N - k ≤ g1 ∧ vi = .int .i64 ((a : Int) + (k : Int)) ∧ Hid (Outer 3 w0 g n R P X S k wr))
  case atStart => exact ⟨1, by omega, by omega, by omega, rfl, HO⟩
  case round =>
    obtain ⟨k, hk1, hk2, hg1, rfl, hout⟩ := hrel
    by_cases hlt : k < N
    · have hltz : (a : Int) + (k : Int) < (a : Int) + (N : Int) := by omega
      have hkX : k < X.length := by rw [HN.out]; exact hlt
      obtain ⟨v, hv⟩ : ∃ v, X[k]'hkX = v := ⟨_, rfl⟩
      have HV := Lib.hid hv
      have hinn : ∃ Z1 : List Int, Z1.length = k ∧ Hid (Inner 3 w0 g n R P Z1 [] (X.drop (k + 1) ++ S) v wr ∧ (Z1 ++ []).Perm (X.take k)) := by
        obtain ⟨Z, h1, h2, h3⟩ := hout.out.ex
        refine ⟨Z, by rw [h1.length_eq]; simp; omega, ⟨by rw [List.append_nil]; exact h2, .inl rfl, h3.cast ?_⟩, by rw [List.append_nil]; exact h1⟩
        rw [List.drop_eq_getElem_cons hkX, hv]
        rfl
      obtain ⟨Z1, hz1, hinn⟩ := hinn
      obtain ⟨wo, rfl⟩ : ∃ wo : World, wo = wr := ⟨_, rfl⟩
      clear hv hout
      go_wp2
      go_loopg [9] k (fun g2 vj wr2 => ∃ (q : Nat) (Z1 Z2 : List Int), q ≤ k ∧ q ≤ g2 ∧ vj = .int .i64 ((a : Int) + (q : Int)) ∧ Hid (Z1.length = q) ∧ Hid (Inner 3 w0 g n R P Z1 Z2 (X.drop (k + 1) ++ S) v wr2 ∧ (Z1 ++ Z2).Perm (X.take k)))
      case atStart => exact ⟨k, Z1, [], Nat.le_refl _, Nat.le_refl _, rfl, hz1, hinn⟩
      case round =>
        clear hinn hz1
        obtain ⟨q, Z1, Z2, hqk, hqg, rfl, hzl, hin⟩ := hrel
        have hkX2 : k < X.length := by rw [HN.out]; exact hlt
        cases q with
        | zero =>
          have HO2 := Lib.hid (show Outer 3 w0 g n R P X S (k + 1) wr from
            Inner.done (k := k) HT.out hkX2 (by rw [HV.out]; exact hin.out.1) hin.out.2 (.inl (List.eq_nil_of_length_eq_zero hzl.out)))
          have hd : decide ((a : Int) < (a : Int)) = false := by simp
          clear hin
          go_wp2_with fail
          go_quiet (fail)
          have HO3 := Lib.hid (show Outer 3 w0 g n R P X S (k + 1) (wr.drewN nq) from ⟨by obtain ⟨Z, h1, h2, h3⟩ := HO2.out.ex; exact ⟨Z, h1, h2, h3.drewN _⟩⟩)
          clear HO2
          go_wp2
          go_roundg (N - (k + 1))
          case measure => omega
          case rel => exact ⟨k + 1, by omega, by omega, Nat.le_refl _, by go_num, HO3⟩
        | succ q =>
          obtain ⟨Q, z, hQ, hz⟩ := hin.out.1.down (by rw [hzl.out]; omega)
          have hQl : Q.length = q := by have := hzl.out; rw [hQ] at this; simp at this; exact this
          have hzX : z ∈ X.take k := hin.out.2.mem_iff.1 (by rw [hQ]; simp)
          have hvX : v ∈ X := by rw [← HV.out]; exact List.getElem_mem hkX2
          have hzX2 : z ∈ X := List.mem_of_mem_take hzX
          have hagr : Agree R cf z v := by
            have hsplit : X = X.take k ++ (v :: X.drop (k + 1)) := by
              rw [← HV.out, ← List.drop_eq_getElem_cons hkX2, List.take_append_drop]
            have hp := HG.out
            rw [hsplit] at hp
            exact (List.pairwise_append.1 hp).2.2 z hzX v (by simp)
          have hla : P.length = a := HA.out.symm
          have sw := hin.out.1.sw
          obtain ⟨l, hl⟩ : ∃ l, P ++ (Z1 ++ (v :: (Z2 ++ (X.drop (k + 1) ++ S)))) = l := ⟨_, rfl⟩
          have hlv : l.getD (a + q + 1) 0 = v := by
            rw [← hl, hQ]; simp only [List.getD]
            rw [List.getElem?_append_right (by omega), List.getElem?_append_right (by simp; omega), show a + q + 1 - P.length - (Q ++ [z]).length = 0 by simp; omega]; rfl
          have hlz : l.getD (a + q) 0 = z := by
            rw [← hl, hQ]; simp only [List.getD]
            rw [List.getElem?_append_right (by omega), List.getElem?_append_left (by simp; omega), List.getElem?_append_right (by omega), show a + q - P.length - Q.length = 0 by omega]; rfl
          rw [hl] at sw
          have c1 := sw.c (a + q + 1) (by omega)
          have c2 := sw.c (a + q) (by omega)
          rw [hlv] at c1
          rw [hlz] at c2
          obtain ⟨jp, hjp⟩ : ∃ jp, a + q = jp := ⟨_, rfl⟩
          rw [hjp] at c1 c2
          obtain ⟨jv, hjv⟩ : ∃ jv, jp + 1 = jv := ⟨_, rfl⟩
          rw [hjv] at c1
          have E1 := Lib.hid (show (a : Int) + ((q + 1 : Nat) : Int) = (jp : Int) + 1 by omega)
          rw [E1.out]
          have ea : ((jp : Int) + 1).toNat = jv := by omega
          have pa : (0 : Int) ≤ (jp : Int) + 1 := by omega
          have ba : (jp : Int) + 1 < (n : Int) := by omega
          have ra : IntKind.i64.wrap ((jp : Int) + 1) = (jp : Int) + 1 := IntWalk.i64_in _ (by omega)
          have pc : (0 : Int) ≤ (jp : Int) := by omega
          have bc : (jp : Int) < (n : Int) := by omega
          have rc : IntKind.i64.wrap (jp : Int) = (jp : Int) := IntWalk.i64_in _ (by omega)
          have hja : (a : Int) < (jp : Int) + 1 := by omega
          have hjd : decide ((a : Int) < (jp : Int) + 1) = true := decide_eq_true (by omega)
          have hc := fun m => HC.out.on sw v z (HK.out v hvX) (HK.out z hzX2) m
          have HW := Lib.hid sw
          have HZ := Lib.hid hin.out
          have HQ := Lib.hid hQ
          have HL := Lib.hid hl
          have HLL := Lib.hid (And.intro hlv hlz)
          have HAG := Lib.hid hagr
          have HJ := Lib.hid (And.intro hjp hjv)
          have HQL := Lib.hid hQl
          have HPL := Lib.hid hla
          have HZZ := Lib.hid hz
          clear hin sw hQ hl hlv hlz hagr hjp hjv hQl hla hz hzX hvX hzX2
          by_cases hlt0 : cf v z < 0
          · have hRv : Hid (R v z) := HAG.out.1 hlt0
            obtain ⟨c, hcv⟩ : ∃ c, cf v z = c := ⟨_, rfl⟩
            rw [hcv] at hc hlt0
            have hcd : decide (c < 0) = true := decide_eq_true hlt0
            clear hcv
            go_wp2_with fail
            go_quiet ((go_at_fn fn; exact hc _))
            have HW2 := Lib.hid (HW.out.drewN nq)
            clear hc c1 c2
            generalize wr.drewN nq = w2 at HW2 ⊢
            have d1 := HW2.out.c jv (by have := HJ.out; omega)
            have d2 := HW2.out.c jp (by have := HJ.out; omega)
            have f1 := HW2.out.f jv (by have := HJ.out; omega)
            have f2 := HW2.out.f jp (by have := HJ.out; omega)
            rw [← HJ.out.2, ← HJ.out.1, HLL.out.1, HJ.out.1, HJ.out.2] at d1
            rw [← HJ.out.1, HLL.out.2, HJ.out.1] at d2
            obtain ⟨u, d3⟩ := HW2.out.c2 jv jp (by have := HJ.out; omega) (.int .i64 z)
            have HSW := Lib.hid (HW2.out.swapped jv jp v z (by rw [← HJ.out.2, ← HJ.out.1]; exact HLL.out.1) (by rw [← HJ.out.1]; exact HLL.out.2))
            clear HW2 HW
            go_wp2_with fail
            go_region
            have HR := Lib.hid HSW.out.drew
            clear HSW d1 d2 d3 f1 f2
            generalize ((w2.setCell ⟨g, jv, none⟩ (.int .i64 z)).setCell ⟨g, jp, none⟩ (.int .i64 v)).drew = w3 at HR ⊢
            have HI := Lib.hid (show Inner 3 w0 g n R P Q (z :: Z2) (X.drop (k + 1) ++ S) v w3 ∧ (Q ++ (z :: Z2)).Perm (X.take k) from by
              have e : Q ++ (z :: Z2) = Z1 ++ Z2 := by rw [HQ.out, List.append_assoc]; rfl
              refine ⟨⟨by rw [e]; exact HZ.out.1.srt, .inr hRv.out, HR.out.cast ?_⟩, by rw [e]; exact HZ.out.2⟩
              rw [← HL.out, HQ.out, ← HJ.out.2]
              have h := swp_next' (P ++ Q) (Z2 ++ (X.drop (k + 1) ++ S)) z v jp (by have := HJ.out; have := HQL.out; have := HPL.out; simp; omega)
              simpa [List.append_assoc] using h)
            clear HR HZ HQ HL hRv
            go_wp2
            go_roundg q
            case measure => omega
            case rel => exact ⟨q, Q, z :: Z2, by omega, Nat.le_refl _, congrArg (Value.int .i64) (by have := HJ.out; omega), HQL, HI⟩
          · have hRv : Hid (R z v) := HAG.out.2 hlt0
            obtain ⟨c, hcv⟩ : ∃ c, cf v z = c := ⟨_, rfl⟩
            rw [hcv] at hc hlt0
            have hcd : decide (c < 0) = false := decide_eq_false hlt0
            clear hcv
            go_wp2_with fail
            go_quiet ((go_at_fn fn; exact hc _))
            have HO2 := Lib.hid (show Outer 3 w0 g n R P X S (k + 1) (wr.drewN nq) from by
              have h := Inner.done (k := k) HT.out hkX2 (by rw [HV.out]; exact HZ.out.1) HZ.out.2 (.inr (by rw [HZZ.out, HV.out]; exact hRv.out))
              obtain ⟨Z, h1, h2, h3⟩ := h.ex
              exact ⟨Z, h1, h2, h3.drewN _⟩)
            clear hc c1 c2 HW HZ
            go_wp2
            go_roundg (N - (k + 1))
            case measure => omega
            case rel => exact ⟨k + 1, by omega, by omega, Nat.le_refl _, by go_num, HO2⟩
    · have hge : ¬ (a : Int) + (k : Int) < (a : Int) + (N : Int) := by omega
      have HD := Lib.hid (hout.out.done (by rw [HN.out]; omega))
      clear hout
      go_wp2
      go_end0
      exact ⟨rfl, HD.out⟩
end Go.Proofs.Ytdmnagpnhphifaa.StabIns
