/- One round of the law, case 1. Written by gen_dercase.py. -/
import Derived.Test.YtlljhcfiojfimaaRows
import Derived.Test.YtlljhcfiojfimaaDer0
import Derived.Test.YtlljhcfiojfimaaGrown
import Derived.Test.YtlljhcfiojfimaaCmpG
import Derived.Test.YtlljhcfiojfimaaFracEq
import Derived.Test.YtlljhcfiojfimaaBelowKit
import Derived.WalkKit
import Derived.BigQuiet
import Derived.Lib.Hide
namespace Go.Proofs.Ytlljhcfiojfimaa.Der1
open Go.RowKit
set_option maxRecDepth 1000000 in
set_option maxHeartbeats 16000000 in
theorem case_1 {Q : Exit → Act → World → Prop} {w : World} {N G M cr j : Nat} {c0 c1 c2 c3 c4 c6 c7 c8 c9 c10 c13 c14 c15 c16 c17 c18 c19 c20 c21 c22 c23 c24 c25 c26 c27 c28 c29 c30 c31 c32 c33 c34 c35 c36 c37 c38 c39 c40 c41 c42 c43 c44 c45 c46 c47 c48 c49 c50 c51 c52 c53 c54 c55 c56 c57 c58 c59 c60 c61 c62 c63 c64 c65 c66 c67 c68 c69 c70 c71 c72 c73 c74 c75 c76 c77 c78 c170 c171 z79 z80 z81 z82 z83 z84 z85 z86 z87 z88 z89 z90 z91 z92 z93 z94 z95 z96 z97 z98 z99 z100 z101 z102 z103 z104 z105 z106 z107 z108 z109 z110 z111 z112 z113 z114 z115 z116 z117 z118 z119 z120 z121 z122 z123 z124 z125 z126 z127 z128 z129 z130 z131 z132 z133 z134 z135 z136 z137 z138 z139 z140 z141 z142 z143 z144 z145 z146 z147 z148 z149 z150 z151 z152 z153 z154 z155 z156 z157 z158 z159 z160 z161 z162 z163 z164 z165 z166 z167 z168 z169 : Value} {y1 y2 : Int} (N0 : w.cell? ⟨N, 0, none⟩ = some (.int .i64 1)) (N4 : w.cell? ⟨N, 4, none⟩ = some (.int .i64 y1)) (N5 : w.cell? ⟨N, 5, none⟩ = some (.int .i64 y2)) (NG : G < w.heap.size) (D0 : w.cell? ⟨G, j * 2, none⟩ = some (.int .i64 y1)) (D1 : w.cell? ⟨G, j * 2 + 1, none⟩ = some (.int .i64 y2))
    (NZ : N < w.heap.size) (hjM : j < M)
    (hQ : ∀ (W : World) (y79 y80 y81 y82 y83 y84 y85 y86 y87 y88 y89 y90 y91 y92 y93 y94 y95 y96 y97 y98 y99 y100 y101 y102 y103 y104 y105 y106 y107 y108 y109 y110 y111 y112 y113 y114 y115 y116 y117 y118 y119 y120 y121 y122 y123 y124 y125 y126 y127 y128 y129 y130 y131 y132 y133 y134 y135 y136 y137 y138 y139 y140 y141 y142 y143 y144 y145 y146 y147 y148 y149 y150 y151 y152 y153 y154 y155 y156 y157 y158 y159 y160 y161 y162 y163 y164 y165 y166 y167 y168 : Value), Below w.heap.size w W → Q .normal ⟨#[c0, c1, c2, c3, c4, .slice (some ⟨G, 0, none⟩) M cr, c6, c7, c8, c9, c10, .int .i64 (j : Int), .pointer (some ⟨N, 0, none⟩), c13, c14, c15, c16, c17, c18, c19, c20, c21, c22, c23, c24, c25, c26, c27, c28, c29, c30, c31, c32, c33, c34, c35, c36, c37, c38, c39, c40, c41, c42, c43, c44, c45, c46, c47, c48, c49, c50, c51, c52, c53, c54, c55, c56, c57, c58, c59, c60, c61, c62, c63, c64, c65, c66, c67, c68, c69, c70, c71, c72, c73, c74, c75, c76, c77, c78, y79, y80, y81, y82, y83, y84, y85, y86, y87, y88, y89, y90, y91, y92, y93, y94, y95, y96, y97, y98, y99, y100, y101, y102, y103, y104, y105, y106, y107, y108, y109, y110, y111, y112, y113, y114, y115, y116, y117, y118, y119, y120, y121, y122, y123, y124, y125, y126, y127, y128, y129, y130, y131, y132, y133, y134, y135, y136, y137, y138, y139, y140, y141, y142, y143, y144, y145, y146, y147, y148, y149, y150, y151, y152, y153, y154, y155, y156, y157, y158, y159, y160, y161, y162, y163, y164, y165, y166, y167, y168, .bool false, c170, c171], []⟩ W) :
    Code.wp Try.prog Der0.reg Q ⟨#[c0, c1, c2, c3, c4, .slice (some ⟨G, 0, none⟩) M cr, c6, c7, c8, c9, c10, .int .i64 (j : Int), .pointer (some ⟨N, 0, none⟩), c13, c14, c15, c16, c17, c18, c19, c20, c21, c22, c23, c24, c25, c26, c27, c28, c29, c30, c31, c32, c33, c34, c35, c36, c37, c38, c39, c40, c41, c42, c43, c44, c45, c46, c47, c48, c49, c50, c51, c52, c53, c54, c55, c56, c57, c58, c59, c60, c61, c62, c63, c64, c65, c66, c67, c68, c69, c70, c71, c72, c73, c74, c75, c76, c77, c78, z79, z80, z81, z82, z83, z84, z85, z86, z87, z88, z89, z90, z91, z92, z93, z94, z95, z96, z97, z98, z99, z100, z101, z102, z103, z104, z105, z106, z107, z108, z109, z110, z111, z112, z113, z114, z115, z116, z117, z118, z119, z120, z121, z122, z123, z124, z125, z126, z127, z128, z129, z130, z131, z132, z133, z134, z135, z136, z137, z138, z139, z140, z141, z142, z143, z144, z145, z146, z147, z148, z149, z150, z151, z152, z153, z154, z155, z156, z157, z158, z159, z160, z161, z162, z163, z164, z165, z166, z167, z168, z169, c170, c171], []⟩ w := by
  conv => arg 2; whnf
  have HQ := Lib.hid hQ
  have bb1 : (0 : Int) ≤ (j : Int) := by omega
  have bb2 : (j : Int) < (M : Int) := by omega
  have hgrd := fun W x y a b c e => FracEq.guard .neq x y #[.int .i64 a, .int .i64 b] #[.int .i64 c, .int .i64 e] W
  have hneq := fun W => FracEq.neq y1 y2 y1 y2 W
  have hsame : (!(y1 == y1 && y2 == y2)) = false := by simp
  simp only [hsame] at hneq
  clear hsame
  have g0 := Grown.G.keep N0 NZ
  have g1 := Grown.G.keep N4 NZ
  have g2 := Grown.G.keep N5 NZ
  have g3 := Grown.G.keep D0 NG
  have g4 := Grown.G.keep D1 NG
  clear hQ hjM
  refine Grown.wp_region_grown (by kernel_rfl) (by kernel_rfl) ?_
  simp only [List.append_eq, List.cons_append, List.nil_append]
  repeat (go_big_quiet_step (fail))
  refine wpQuiet_nil ?_
  rintro w5 ⟨X, rfl⟩
  exact HQ.out X.w _ _ _ _ _ _ _ _ _ _ _ _ _ _ _ _ _ _ _ _ _ _ _ _ _ _ _ _ _ _ _ _ _ _ _ _ _ _ _ _ _ _ _ _ _ _ _ _ _ _ _ _ _ _ _ _ _ _ _ _ _ _ _ _ _ _ _ _ _ _ _ _ _ _ _ _ _ _ _ _ _ _ _ _ _ _ _ _ _ _ X.bel
end Go.Proofs.Ytlljhcfiojfimaa.Der1
