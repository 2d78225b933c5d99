/- Contract of the program's ParseFrac: strings.Cut and strconv.Atoi by the library's contracts. -/
import Derived.Test.YtiogpiopgcbdbaaGreatDoorRows
import Derived.Test.YtiogpiopgcbdbaaGreatDoorFracTxI
import Derived.Test.YtiogpiopgcbdbaaGreatDoorNine
namespace Go.Proofs.YtiogpiopgcbdbaaGreatDoor.ParseFI
open Go.RowKit FracMath HexMath NumMath NumParse NumBack FracTxM FracTxS FracMake AtoiM
theorem gSyn : Tryz.prog.globalNamed "strconv.ErrSyntax" = some 1 := by kernel_rfl
theorem gRng : Tryz.prog.globalNamed "strconv.ErrRange" = some 2 := by kernel_rfl
/-- What the library's variables hold: the table of powers, two errors, a number. -/
structure Vars (w : World) : Prop where
  tab : ItoaC.Tab w
  syn : ∃ tp p, w.var? Tryz.prog "strconv.ErrSyntax" = some #[.iface tp p]
  rng : ∃ tp p, w.var? Tryz.prog "strconv.ErrRange" = some #[.iface tp p]
  mx : ∃ m, w.cell? ⟨0, 0, none⟩ = some (.int .i64 m)
theorem var_lt {w : World} {s : String} {g : Nat} {t : TypeId} {p : Value} (hg : Tryz.prog.globalNamed s = some g) (h : w.var? Tryz.prog s = some #[.iface t p]) : g < w.heap.size := by
  rcases Nat.lt_or_ge g w.heap.size with h1 | h1
  · exact h1
  · unfold World.var? at h
    rw [hg] at h
    simp [Array.getElem?_eq_none h1] at h
theorem Vars.on {w w' : World} (h : Vars w) (hb : Below w.heap.size w w') : Vars w' := by
  obtain ⟨h1, ⟨t2, p2, h2⟩, ⟨t3, p3, h3⟩, ⟨m, h4⟩⟩ := h
  exact ⟨ItoaC.tab_below h1 hb, ⟨t2, p2, var?_below hb gSyn (var_lt gSyn h2) h2⟩, ⟨t3, p3, var?_below hb gRng (var_lt gRng h3) h3⟩, ⟨m, ((BelowKit.bcell hb).1 _ _ (Lib.lt_of_cell h4)).trans h4⟩⟩
/-- How strconv.Atoi ends. -/
def IsAtoi (l : List UInt8) (w : World) (e : Ending) (w' : World) : Prop :=
  ((∃ v, Lib.atoiAll l = .ok v ∧ e = .returned (.tuple #[.int .i64 v, .nilIface])) ∨ ((∀ v, Lib.atoiAll l ≠ .ok v) ∧ ∃ n t p, e = .returned (.tuple #[.int .i64 n, .iface t p]))) ∧ Below w.heap.size w w'
theorem atoi_c (s : ByteArray) (l : List UInt8) (hl : s.data.toList = l) (w : World) (hs : s.size ≤ 1048576) (hv : Vars w) : Calls Tryz.prog 66 #[.string s] w (IsAtoi l w) := by
  subst hl
  rcases h : Lib.atoiAll s.data.toList with v | _ | _
  · refine (Tryz.strconv_Atoi_ok s (by omega) v h w).mono ?_
    rintro e w' ⟨rfl, hw⟩
    refine ⟨.inl ⟨v, h, rfl⟩, ?_⟩
    rcases hw with rfl | ⟨t, rfl⟩
    · exact Below.refl _ _
    · exact Lib.bytesWorld_below _ _ _
  · obtain ⟨tp, p, h2⟩ := hv.syn
    refine (Tryz.strconv_Atoi_syntax_var s (by omega) h tp p w h2).mono ?_
    rintro e w' ⟨N, rfl, _, _, hb⟩
    exact ⟨.inr ⟨fun v hv => (by rw [h] at hv; cases hv), _, _, _, rfl⟩, hb⟩
  · obtain ⟨tp, p, h2⟩ := hv.rng
    refine (Tryz.strconv_Atoi_range_var s (by omega) h tp p w h2).mono ?_
    rintro e w' ⟨N, rfl, _, _, hb⟩
    exact ⟨.inr ⟨fun v hv => (by rw [h] at hv; cases hv), _, _, _, rfl⟩, hb⟩
theorem cut_c (s : ByteArray) (w : World) (hs : s.size ≤ 1048576) (hv : Vars w) : Calls Tryz.prog 65 #[.string s, .string ⟨#[47]⟩] w fun e w' =>
    e = .returned (.tuple #[.string (str (Lib.cut s.data.toList [47]).1), .string (str (Lib.cut s.data.toList [47]).2.1), .bool (Lib.cut s.data.toList [47]).2.2]) ∧ Below w.heap.size w w' := by
  obtain ⟨m, hm⟩ := hv.mx
  refine (Tryz.strings_Cut s ⟨#[47]⟩ m w (by omega) hm).mono ?_
  rintro e w' ⟨rfl, n, rfl⟩
  exact ⟨rfl, BelowKit.bl_drewN (Below.refl _ _)⟩
theorem cut_len (l : List UInt8) : (Lib.cut l [47]).1.length ≤ l.length ∧ (Lib.cut l [47]).2.1.length ≤ l.length := by
  unfold Lib.cut
  split
  · refine ⟨?_, ?_⟩ <;> simp <;> omega
  · simp
theorem str_list (l : List UInt8) : (str l).data.toList = l := by simp [str]
set_option maxHeartbeats 4000000 in
theorem parse_i (s : ByteArray) (w : World) (hm : s.size ≤ 1048576) (hv : Vars w) :
    Calls Tryz.prog 47 #[.string s] w (IsFrac (parseT s.data.toList) w) := by
  obtain ⟨R, hR⟩ : ∃ R, parseT s.data.toList = R := ⟨_, rfl⟩
  obtain ⟨l, hl⟩ : ∃ l, s.data.toList = l := ⟨_, rfl⟩
  have hlen : l.length ≤ 1048576 := by rw [← hl]; simpa using hm
  have HV := Lib.hid hv
  rw [hR]
  rw [hl] at hR
  have HR := Lib.hid hR
  have HL := Lib.hid hl
  have HC := Lib.hid (fun W hW => cut_c s W hm hW)
  rw [hl] at HC
  obtain ⟨U, hU⟩ : ∃ U, upper l = U := ⟨_, rfl⟩
  obtain ⟨D, hD⟩ : ∃ D, lower l = D := ⟨_, rfl⟩
  have hUl : U.length ≤ 1048576 := by rw [← hU]; exact Nat.le_trans (cut_len l).1 hlen
  have hDl : D.length ≤ 1048576 := by
    rw [← hD]; unfold lower
    split
    · exact Nat.le_trans (cut_len l).2 hlen
    · simp
  have HNU := Lib.hid (fun h => no_num (l := l) (by rw [hU]; exact h))
  have HND := Lib.hid (fun h => no_den (l := l) (by rw [hD]; exact h))
  have HBN := Lib.hid (fun n d h1 h2 h3 => both_no (l := l) (n := n) (d := d) (by rw [hU]; exact h1) (by rw [hD]; exact h2) h3)
  have HBY := Lib.hid (fun n d h1 h3 => both_yes (l := l) (n := n) (d := d) (by rw [hU]; exact h1) h3)
  have HAU := Lib.hid (fun W hW => atoi_c (str U) U (str_list U) W (by rw [str_size]; exact hUl) hW)
  have HAD := Lib.hid (fun W hW => atoi_c (str D) D (str_list D) W (by rw [str_size]; exact hDl) hW)
  unfold upper at hU
  unfold lower at hD
  obtain ⟨⟨c1, c2, c3⟩, hc⟩ : ∃ c, Lib.cut l [47] = c := ⟨_, rfl⟩
  rw [hc] at hU hD HC
  simp only [] at hU hD HC
  subst hU
  clear hR hl hm hv hc hUl hDl hlen
  go_enter Tryz.func47, Tryz.ntmps47
  go_wp2_with fail
  refine (HC.out _ (HV.out.on (by (repeat (first | exact Below.refl _ _ | apply BelowKit.bl_alloc | apply BelowKit.bl_drewN | apply BelowKit.bl_drew | (refine BelowKit.bl_set ?_ _ ?_; rotate_left; (first | omega | (simp; omega) | simp)) | (refine BelowKit.bl_trans ?_ (‹Hid (Below _ _ _)›).out)))))).mono ?_
  rintro e w1 ⟨rfl, hb⟩
  have r0 : w1.cell? ⟨w.heap.size, 0, none⟩ = some (.int .i64 0) := ((BelowKit.bcell hb).1 _ _ (by simp)).trans (by simp [go_sem])
  have r1 : w1.cell? ⟨w.heap.size, 1, none⟩ = some (.int .i64 0) := ((BelowKit.bcell hb).1 _ _ (by simp)).trans (by simp [go_sem])
  have f0 : w1.frozen? ⟨w.heap.size, 0, none⟩ = false := ((BelowKit.bcell hb).2 _ _ (by simp)).trans (by simp [go_sem])
  have f1 : w1.frozen? ⟨w.heap.size, 1, none⟩ = false := ((BelowKit.bcell hb).2 _ _ (by simp)).trans (by simp [go_sem])
  have z1 : w.heap.size < w1.heap.size := by have := hb.size; simp at this; omega
  have HB := Lib.hid (BelowKit.bl_trans (BelowKit.bl_alloc (Below.refl _ _)) hb)
  clear hb
  have HD1 : Hid (c3 = true → D = c2) := Lib.hid (fun h => by rw [h, if_pos rfl] at hD; exact hD.symm)
  have HD0 : Hid (c3 = false → D = [49]) := Lib.hid (fun h => by rw [h, if_neg (by simp)] at hD; exact hD.symm)
  clear hD
  have hb3 : c3 = true ∨ c3 = false := by cases c3 <;> simp
  rcases hb3 with rfl | rfl
  case' inl => obtain rfl := HD1.out rfl
  case' inr => obtain rfl := HD0.out rfl
  all_goals
    clear HD1 HD0 HC
    go_wp2_with fail
    refine (HAU.out _ (HV.out.on HB.out)).mono ?_
    rintro e w2 ⟨he, hb2⟩
    have HB2 := Lib.hid (BelowKit.bl_trans HB.out hb2)
    have r02 := ((BelowKit.bcell hb2).1 _ _ z1).trans r0
    have r12 := ((BelowKit.bcell hb2).1 _ _ z1).trans r1
    have f02 := ((BelowKit.bcell hb2).2 _ _ z1).trans f0
    have f12 := ((BelowKit.bcell hb2).2 _ _ z1).trans f1
    have z2 := Nat.lt_of_lt_of_le z1 hb2.size
    clear r0 r1 f0 f1 z1 hb2 HAU HB
    rcases he with ⟨n, hn, rfl⟩ | ⟨hn, n, t, p, rfl⟩
    · have HN := Lib.hid hn
      clear hn
      go_wp2_with fail
      refine (HAD.out _ (HV.out.on HB2.out)).mono ?_
      rintro e w3 ⟨he, hb3⟩
      have HB3 := Lib.hid (BelowKit.bl_trans HB2.out hb3)
      have r0 := ((BelowKit.bcell hb3).1 _ _ z2).trans r02
      have r1 := ((BelowKit.bcell hb3).1 _ _ z2).trans r12
      have f0 := ((BelowKit.bcell hb3).2 _ _ z2).trans f02
      have f1 := ((BelowKit.bcell hb3).2 _ _ z2).trans f12
      have z3 := Nat.lt_of_lt_of_le z2 hb3.size
      clear r02 r12 f02 f12 z2 hb3 HAD HB2
      rcases he with ⟨d, hd, rfl⟩ | ⟨hd, d, t, p, rfl⟩
      · have HDN := Lib.hid hd
        obtain ⟨T, hT⟩ : ∃ T, fracT n d = T := ⟨_, rfl⟩
        have HT := Lib.hid hT
        have HF := Lib.hid (fun W hW => FracTxI.format_i n d W hW)
        rw [hT] at HF
        clear hd hT
        go_wp2_with fail
        refine (HF.out _ (HV.out.on (by (repeat (first | exact Below.refl _ _ | apply BelowKit.bl_alloc | apply BelowKit.bl_drewN | apply BelowKit.bl_drew | (refine BelowKit.bl_set ?_ _ ?_; rotate_left; (first | omega | (simp; omega) | simp)) | (refine BelowKit.bl_trans ?_ (‹Hid (Below _ _ _)›).out))))).tab).mono ?_
        rintro e w4 ⟨rfl, hb4⟩
        have HB4 := Lib.hid (show Below w.heap.size w w4 from BelowKit.bl_trans (by (repeat (first | exact Below.refl _ _ | apply BelowKit.bl_alloc | apply BelowKit.bl_drewN | apply BelowKit.bl_drew | (refine BelowKit.bl_set ?_ _ ?_; rotate_left; (first | omega | (simp; omega) | simp)) | (refine BelowKit.bl_trans ?_ (‹Hid (Below _ _ _)›).out)))) hb4)
        have hbA : Below w3.heap.size w3 w4 := BelowKit.bl_trans (BelowKit.bl_alloc (Below.refl _ _)) hb4
        have q0 : w4.cell? ⟨w.heap.size, 0, none⟩ = some (.int .i64 0) := ((BelowKit.bcell hbA).1 _ _ z3).trans r0
        have q1 : w4.cell? ⟨w.heap.size, 1, none⟩ = some (.int .i64 0) := ((BelowKit.bcell hbA).1 _ _ z3).trans r1
        have p0 : w4.frozen? ⟨w.heap.size, 0, none⟩ = false := ((BelowKit.bcell hbA).2 _ _ z3).trans f0
        have p1 : w4.frozen? ⟨w.heap.size, 1, none⟩ = false := ((BelowKit.bcell hbA).2 _ _ z3).trans f1
        have n0 : w4.cell? ⟨w3.heap.size, 0, none⟩ = some (.int .i64 n) := ((BelowKit.bcell hb4).1 _ _ (by simp)).trans (by simp [go_sem])
        have n1 : w4.cell? ⟨w3.heap.size, 1, none⟩ = some (.int .i64 d) := ((BelowKit.bcell hb4).1 _ _ (by simp)).trans (by simp [go_sem])
        have z4 : w3.heap.size < w4.heap.size := by have := hb4.size; simp at this; omega
        have hne : w.heap.size ≠ w3.heap.size := by omega
        obtain ⟨g, hg⟩ : ∃ g, w3.heap.size = g := ⟨_, rfl⟩
        obtain ⟨tt, htt⟩ : ∃ t, str T = t := ⟨_, rfl⟩
        have HTT := Lib.hid (show tt.toList = T by rw [← htt, ByteArray.toList_eq]; exact str_list T)
        have HSL := Lib.hid (show s.toList = l by rw [ByteArray.toList_eq]; exact HL.out)
        rw [htt]
        rw [hg] at n0 n1 z4 hne ⊢
        clear hb4 hbA r0 r1 f0 f1 z3 HB3 hg htt HF HNU HND
        by_cases hc : (tt.toList == s.toList) = true
        · have E := Lib.hid (show R = (n, d, true) from HR.out.symm.trans (HBY.out n d HN.out (by rw [HT.out, ← HTT.out, ← HSL.out]; exact beq_iff_eq.1 hc)))
          go_wp2
          refine bodyPost_ret (v := .tuple #[.agg #[.int .i64 n, .int .i64 d], .bool true]) (by simp [results, Tryz.results47, q0, q1, go_sem]) rfl ⟨by rw [E.out], ?_⟩
          (repeat (first | exact Below.refl _ _ | apply BelowKit.bl_alloc | apply BelowKit.bl_drewN | apply BelowKit.bl_drew | (refine BelowKit.bl_set ?_ _ ?_; rotate_left; (first | omega | (simp; omega) | simp)) | (refine BelowKit.bl_trans ?_ (‹Hid (Below _ _ _)›).out)))
        · have hc' : (tt.toList == s.toList) = false := by simpa using hc
          have E := Lib.hid (show R = (0, 0, false) from HR.out.symm.trans (HBN.out n d HN.out HDN.out (by rw [HT.out, ← HTT.out, ← HSL.out]; intro h; rw [h] at hc'; simp at hc')))
          clear hc
          go_wp2
          refine bodyPost_ret (v := .tuple #[.agg #[.int .i64 0, .int .i64 0], .bool false]) (by simp [results, Tryz.results47, q0, q1, go_sem]) rfl ⟨by rw [E.out], ?_⟩
          (repeat (first | exact Below.refl _ _ | apply BelowKit.bl_alloc | apply BelowKit.bl_drewN | apply BelowKit.bl_drew | (refine BelowKit.bl_set ?_ _ ?_; rotate_left; (first | omega | (simp; omega) | simp)) | (refine BelowKit.bl_trans ?_ (‹Hid (Below _ _ _)›).out)))
      · have E := Lib.hid (show R = (0, 0, false) from HR.out.symm.trans (HND.out hd))
        clear hd
        go_wp2
        refine bodyPost_ret (v := .tuple #[.agg #[.int .i64 0, .int .i64 0], .bool false]) (by simp [results, Tryz.results47, r0, r1, go_sem]) rfl ⟨by rw [E.out], ?_⟩
        (repeat (first | exact Below.refl _ _ | apply BelowKit.bl_alloc | apply BelowKit.bl_drewN | apply BelowKit.bl_drew | (refine BelowKit.bl_set ?_ _ ?_; rotate_left; (first | omega | (simp; omega) | simp)) | (refine BelowKit.bl_trans ?_ (‹Hid (Below _ _ _)›).out)))
    · have E := Lib.hid (show R = (0, 0, false) from HR.out.symm.trans (HNU.out hn))
      clear hn
      go_wp2_with fail
      refine (HAD.out _ (HV.out.on HB2.out)).mono ?_
      rintro e w3 ⟨he, hb3⟩
      have HB3 := Lib.hid (BelowKit.bl_trans HB2.out hb3)
      have r0 := ((BelowKit.bcell hb3).1 _ _ z2).trans r02
      have r1 := ((BelowKit.bcell hb3).1 _ _ z2).trans r12
      have f0 := ((BelowKit.bcell hb3).2 _ _ z2).trans f02
      have f1 := ((BelowKit.bcell hb3).2 _ _ z2).trans f12
      have z3 := Nat.lt_of_lt_of_le z2 hb3.size
      clear r02 r12 f02 f12 z2 hb3 HAD HB2
      rcases he with ⟨d, _, rfl⟩ | ⟨_, d, t', p', rfl⟩
      · go_wp2
        refine bodyPost_ret (v := .tuple #[.agg #[.int .i64 0, .int .i64 0], .bool false]) (by simp [results, Tryz.results47, r0, r1, go_sem]) rfl ⟨by rw [E.out], ?_⟩
        (repeat (first | exact Below.refl _ _ | apply BelowKit.bl_alloc | apply BelowKit.bl_drewN | apply BelowKit.bl_drew | (refine BelowKit.bl_set ?_ _ ?_; rotate_left; (first | omega | (simp; omega) | simp)) | (refine BelowKit.bl_trans ?_ (‹Hid (Below _ _ _)›).out)))
      · go_wp2
        refine bodyPost_ret (v := .tuple #[.agg #[.int .i64 0, .int .i64 0], .bool false]) (by simp [results, Tryz.results47, r0, r1, go_sem]) rfl ⟨by rw [E.out], ?_⟩
        (repeat (first | exact Below.refl _ _ | apply BelowKit.bl_alloc | apply BelowKit.bl_drewN | apply BelowKit.bl_drew | (refine BelowKit.bl_set ?_ _ ?_; rotate_left; (first | omega | (simp; omega) | simp)) | (refine BelowKit.bl_trans ?_ (‹Hid (Below _ _ _)›).out)))
end Go.Proofs.YtiogpiopgcbdbaaGreatDoor.ParseFI
