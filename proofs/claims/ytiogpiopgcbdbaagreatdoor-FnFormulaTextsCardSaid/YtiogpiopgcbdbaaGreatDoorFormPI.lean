/- Contract of the program's ParseFormula. -/
import Derived.Test.YtiogpiopgcbdbaaGreatDoorReadN
import Derived.Test.YtiogpiopgcbdbaaGreatDoorSplitI
namespace Go.Proofs.YtiogpiopgcbdbaaGreatDoor.FormPI
open Go.RowKit RowN TNode NodeMath FracMath SizeM ReadM WordM OpsM FracTxM FracTxS MapM KindsI SplitMath SplitI StrKit ReadI ReadN ParseM
theorem split_i (s : ByteArray) (w : World) (hm : s.size ≤ 1048576) : Calls Tryz.prog 18 #[.string s] w (Fields w (split s)) := by
  by_cases h : 600 < s.size
  · exact SplitI.impl_long s w h hm
  · exact SplitI.impl_split s w (by omega)
theorem owns_reads {w : World} {B : Nat} {a : Option Addr} {n c : Nat} {l : List ByteArray} (h : OwnsS w B 9 (.slice a n c) l) : l.length = n ∧ n ≤ c ∧ Reads fB 1 w a l ∧ ∀ g o, a = some ⟨g, o, none⟩ → g < w.heap.size := by
  rcases h.2 with ⟨e, h0⟩ | ⟨g, cap, cur, e, hbg, hg, hnc, hcm, hcs, htake⟩
  · cases e
    refine ⟨h0, Nat.le_refl _, ?_, fun g o e => by cases e⟩
    rw [List.eq_nil_of_length_eq_zero h0]
    exact Reads.nil _ _
  · cases e
    refine ⟨rfl, hnc, fun j hj => ?_, fun g' o e => by cases e; exact (Array.getElem?_eq_some_iff.1 hg).1⟩
    obtain ⟨g', e', _, h2, h3, _⟩ := h.at j hj
    cases e'
    refine ⟨g, 0, rfl, h2, fun i hi => ?_⟩
    obtain rfl : i = 0 := by omega
    rw [show 0 + j * 1 + 0 = j by omega, h3]
    rfl
set_option maxRecDepth 100000 in
set_option maxHeartbeats 8000000 in
theorem parse_fi (s : ByteArray) (w : World) (hm : s.size ≤ 1048576) (hv : ParseFI.Vars w) : Calls Tryz.prog 8 #[.string s] w (IsForm (parseF s) w) := by
  obtain ⟨R, hR⟩ : ∃ R, parseF s = R := ⟨_, rfl⟩
  obtain ⟨r, hr⟩ : ∃ r, split s = r := ⟨_, rfl⟩
  have HSP := Lib.hid (split_i s w hm)
  rw [hR]
  rw [hr] at HSP
  have HR := Lib.hid hR
  have HRR := Lib.hid hr
  have HV := Lib.hid hv
  clear hR hr hv
  go_enter Tryz.func8, Tryz.ntmps8
  go_wp2_with fail
  refine HSP.out.mono ?_
  rintro e w1 ⟨v, rfl, hown, hb⟩
  have HB1 := Lib.hid hb
  have HO := Lib.hid hown
  clear HSP hown hb
  cases r with
  | none =>
    obtain ⟨a, cap, rfl, _⟩ := HO.out.form
    have E := Lib.hid (show R = ([], false) from HR.out.symm.trans (parseF_none HRR.out))
    go_wp2
    go_ret2
    rw [E.out]
    exact ⟨_, _, rfl, Owns.nil _ _ _, HB1.out⟩
  | some ws =>
    have HBD := Lib.hid (split_bd HRR.out)
    have hget : (some ws).getD [] = ws := rfl
    rw [hget] at HO
    obtain ⟨a, cap, rfl, _⟩ := HO.out.form
    obtain ⟨hlen, hcap, hrd, hlow⟩ := owns_reads HO.out
    obtain ⟨N, hN⟩ : ∃ N, ws.length = N := ⟨_, rfl⟩
    rw [hN] at hlen hcap HO ⊢
    have HN := Lib.hid hN
    have HRDS := Lib.hid hrd
    have HLOW := Lib.hid hlow
    clear hN hlen hrd hlow
    go_wp2_with fail
    refine (kinds_map _).mono ?_
    rintro e w2 ⟨kb, nk, D, rfl, hkb, hok, hkd, hb2⟩
    have HB2 := Lib.hid (BelowKit.bl_trans HB1.out hb2)
    have HKD := Lib.hid hkd
    have hsz := hb2.size
    have hkl := hok.lt
    have hbA : Below w2.heap.size w2 (w2.alloc (.cells #[.slice a N cap, .map (some kb), .slice none 0 0] 56)) := by (repeat (first | exact Below.refl _ _ | apply BelowKit.bl_alloc | apply BelowKit.bl_drewN | apply BelowKit.bl_drew | (refine BelowKit.bl_set ?_ _ ?_; rotate_left; (first | omega | (simp; omega) | simp)) | (refine BelowKit.bl_trans ?_ (‹Hid (Below _ _ _)›).out)))
    have hrdr : Rdr (w2.alloc (.cells #[.slice a N cap, .map (some kb), .slice none 0 0] 56)) w2.heap.size a N cap kb nk D (.slice none 0 0) ws [] :=
      ⟨heap_alloc_new w2 _, Owns.nil _ _ _, by simp [Value.ownBlock], HN.out, hcap, (HRDS.out.on hb2).on hbA, fun g o e => by have := HLOW.out g o e; omega, own_below hok hbA, hkl⟩
    have HBB := Lib.hid (BelowKit.bl_trans HB2.out hbA)
    have hwb : w.heap.size ≤ w2.heap.size := by have := HB1.out.size; omega
    have HC := Lib.hid (node_c w2.heap.size kb nk D hkd (N + 1) ws [] (w2.alloc (.cells #[.slice a N cap, .map (some kb), .slice none 0 0] 56)) a N cap (.slice none 0 0) (by have := HN.out; omega) hrdr (fun p hp => HBD.out.2 p hp) (by have := HBD.out.1; simp; omega) (fun W' h => HV.out.on (HBB.out.trans (h.mono hwb))))
    clear hkb hok hkd hb2 hsz hkl hbA hrdr hcap
    go_wp2_with fail
    obtain ⟨W3, hW3⟩ : ∃ W3, w2.alloc (.cells #[.slice a N cap, .map (some kb), .slice none 0 0] 56) = W3 := ⟨_, rfl⟩
    obtain ⟨b, hbb⟩ : ∃ b, w2.heap.size = b := ⟨_, rfl⟩
    rw [hW3, hbb] at HC ⊢
    rw [hW3] at HBB
    rw [hbb] at hwb
    clear hW3 hbb
    refine HC.out.mono ?_
    rintro e w4 ⟨v4, ws4, o4, ⟨a4, n4, c4, hr4⟩, hf4, _, ⟨hn, rfl⟩ | ⟨hs, _, rfl⟩⟩
    · have E := Lib.hid (show R = ([], false) from HR.out.symm.trans (parseF_bad HRR.out (by rw [HN.out]; exact hn)))
      have HB4 := Lib.hid (HBB.out.trans (hf4.bel.mono hwb))
      clear hn hr4 hf4 HC
      go_wp2
      go_ret2
      rw [E.out]
      exact ⟨_, _, rfl, Owns.nil _ _ _, HB4.out⟩
    · have HB4 := Lib.hid (HBB.out.trans (hf4.bel.mono hwb))
      have hok4 := read_okF hs (by rw [dat_len]; exact HBD.out.1)
      obtain ⟨p4, k4, rfl, _⟩ := hr4.own.form fw
      have b0 : w4.cell? ⟨b, 0, none⟩ = some (.slice a4 n4 c4) := cell_of_row w4 b 0 _ _ _ hr4.blk
      have b2 : w4.cell? ⟨b, 2, none⟩ = some (.slice p4 o4.length k4) := cell_of_row w4 b 2 _ _ _ hr4.blk
      have hl4 := hr4.len
      have HOW := Lib.hid (hr4.own.base hwb)
      by_cases hne : ws4 = []
      · subst hne
        obtain rfl : n4 = 0 := by simpa using hl4.symm
        have E := Lib.hid (show R = (o4, true) from HR.out.symm.trans ((parseF_yes HRR.out (by rw [HN.out]; exact hs)).trans (by rw [hok4, if_pos rfl])))
        clear hs hr4 hf4 HC hok4 hl4
        go_wp2
        go_ret2
        rw [E.out]
        exact ⟨_, _, rfl, HOW.out, HB4.out⟩
      · have E := Lib.hid (show R = ([], false) from HR.out.symm.trans (parseF_more HRR.out (by rw [HN.out]; exact hs) (fun h => hne (List.eq_nil_of_length_eq_zero (by rw [← dat_len, h]; rfl)))))
        have hpos := List.length_pos_iff.2 hne
        have d1 : (0 : Int) < (n4 : Int) := by omega
        clear hs hr4 hf4 HC hok4 hl4 hpos hne
        go_wp2
        go_ret2
        rw [E.out]
        exact ⟨_, _, rfl, Owns.nil _ _ _, HB4.out⟩
end Go.Proofs.YtiogpiopgcbdbaaGreatDoor.FormPI
