/- Contracts of both sides' functions on rules and books in the shape that gen_exact.py wants. -/
import Derived.Test.YtkfgflmhefbinaaRows
import Derived.Test.YtkfgflmhefbinaaRuleX
import Derived.Test.YtkfgflmhefbinaaRuleI
import Derived.Test.YtkfgflmhefbinaaRuleS
import Derived.Test.YtkfgflmhefbinaaBookI
import Derived.Test.YtkfgflmhefbinaaBookS
import Derived.Test.YtkfgflmhefbinaaBestI
import Derived.Test.YtkfgflmhefbinaaGapI
import Derived.Test.YtkfgflmhefbinaaGapS
import Derived.Test.YtkfgflmhefbinaaAddI
import Derived.Test.YtkfgflmhefbinaaAddS
namespace Go.Proofs.Ytkfgflmhefbinaa.RuleF
open Go.RowKit RowN TRule TBook BookMath BookLaws
theorem rule_i (w : World) (x0 x1 x2 x3 x4 x5 : Int) (p : Option Addr) (n c : Nat) (l : List TNode.El) (hm : l.length = n) (hs : n ≤ 1099511627776) (h : Reads TNode.fc 6 w p l) :
    Calls Try.prog 31 #[.agg #[.int .i64 x0, .int .i64 x1, .int .i64 x2, .int .i64 x3, .int .i64 x4, .int .i64 x5, .slice p n c]] w (IsBo (ruleB ⟨x0, x1, x2, x3, x4, x5, l⟩) w) := by
  subst hm
  exact RuleI.rule_i ⟨⟨x0, x1, x2, x3, x4, x5, l⟩, p, c⟩ w hs h
theorem rule_s (w : World) (x0 x1 x2 x3 x4 x5 : Int) (p : Option Addr) (n c : Nat) (l : List TNode.El) (hm : l.length = n) (hs : n ≤ 1099511627776) (h : Reads TNode.fc 6 w p l) :
    Calls Try.prog 29 #[.agg #[.int .i64 x0, .int .i64 x1, .int .i64 x2, .int .i64 x3, .int .i64 x4, .int .i64 x5, .slice p n c]] w (IsBo (ruleB ⟨x0, x1, x2, x3, x4, x5, l⟩) w) := by
  subst hm
  exact RuleS.rule_s ⟨⟨x0, x1, x2, x3, x4, x5, l⟩, p, c⟩ w hs h
section
variable (w : World) (a : Option Addr) (m cap : Nat) (rs : List Ru)
theorem book_i (hm : rs.length = m) (hs : m ≤ 1099511627776) (hcap : m ≤ cap) (hn : Few rs) (h : RdD w a rs) : Calls Try.prog 21 #[.agg #[.slice a m cap]] w (IsBo (bookB rs) w) := BookI.book_i w a m cap rs hm hcap hs hn h
theorem book_s (hm : rs.length = m) (hs : m ≤ 1099511627776) (_ : m ≤ cap) (hn : Few rs) (h : RdD w a rs) : Calls Try.prog 34 #[.agg #[.slice a m cap]] w (IsBo (bookB rs) w) := BookS.book_s w a m cap rs hm hs hn h
theorem for_i (nm mo jo : Int) (hm : rs.length = m) (hs : m ≤ 1048576) (hcap : m ≤ cap) (hn : Few rs) (h : RdD w a rs) : Calls Try.prog 18 #[.agg #[.slice a m cap], .int .i64 nm, .int .i64 mo, .int .i64 jo] w (BestI.IsIn (ruleFor rs nm mo jo) w) := BestI.ruleFor_i w a m cap rs nm mo jo hm hcap hs hn h
theorem for_s (nm mo jo : Int) (hm : rs.length = m) (hs : m ≤ 1048576) (_ : m ≤ cap) (hn : Few rs) (h : RdD w a rs) : Calls Try.prog 24 #[.agg #[.slice a m cap], .int .i64 nm, .int .i64 mo, .int .i64 jo] w (BestI.IsIn (ruleFor rs nm mo jo) w) := BookS.ruleFor_s w a m cap rs nm mo jo hm (by omega) hn h
theorem gaps_i (nm jo f t : Int) (hm : rs.length = m) (hs : m ≤ 1048576) (hcap : m ≤ cap) (hn : Few rs) (h : RdD w a rs) : Calls Try.prog 19 #[.agg #[.slice a m cap], .int .i64 nm, .int .i64 jo, .int .i64 f, .int .i64 t] w (TInt.IsRow (gaps rs nm jo f t) w) := GapI.gaps_i w a m cap rs nm jo f t hm hcap hs hn h
theorem gaps_s (nm jo f t : Int) (hm : rs.length = m) (hs : m ≤ 1048576) (_ : m ≤ cap) (hn : Few rs) (h : RdD w a rs) : Calls Try.prog 41 #[.agg #[.slice a m cap], .int .i64 nm, .int .i64 jo, .int .i64 f, .int .i64 t] w (TInt.IsRow (gaps rs nm jo f t) w) := GapS.gaps_s w a m cap rs nm jo f t hm hs hn h
theorem prot_i (nm mo jo : Int) (hm : rs.length = m) (hs : m ≤ 1048576) (hcap : m ≤ cap) (hn : Few rs) (h : RdD w a rs) : Calls Try.prog 20 #[.agg #[.slice a m cap], .int .i64 nm, .int .i64 mo, .int .i64 jo] w (IsBo (prot rs nm mo jo) w) := GapI.prot_i w a m cap rs nm mo jo hm hcap hs hn h
theorem prot_s (nm mo jo : Int) (hm : rs.length = m) (hs : m ≤ 1048576) (_ : m ≤ cap) (hn : Few rs) (h : RdD w a rs) : Calls Try.prog 45 #[.agg #[.slice a m cap], .int .i64 nm, .int .i64 mo, .int .i64 jo] w (IsBo (prot rs nm mo jo) w) := GapS.prot_s w a m cap rs nm mo jo hm hs hn h
def Nodes20 (rs : List Ru) : Prop := ∀ j (h : j < rs.length), rs[j].Nodes.length ≤ 1048576
theorem fig_i (nm mo jo : Int) (q : Option Addr) (m8 cap8 : Nat) (vs : List TFrac.El) (hm : rs.length = m) (hs : m ≤ 1048576) (hcap : m ≤ cap) (hn : Nodes20 rs) (h : RdD w a rs) (hm8 : vs.length = m8) (hs8 : m8 ≤ 1048576) (h8 : Reads TFrac.fc 2 w q vs) :
    Calls Try.prog 23 #[.agg #[.slice a m cap], .int .i64 nm, .int .i64 mo, .int .i64 jo, .slice q m8 cap8] w (GapI.IsFig (fig rs nm mo jo vs) w) := GapI.fig_i w a m cap rs nm mo jo q m8 cap8 vs hm hcap hs hn h hm8 hs8 h8
theorem fig_s (nm mo jo : Int) (q : Option Addr) (m8 cap8 : Nat) (vs : List TFrac.El) (hm : rs.length = m) (hs : m ≤ 1048576) (_ : m ≤ cap) (hn : Nodes20 rs) (h : RdD w a rs) (hm8 : vs.length = m8) (hs8 : m8 ≤ 1048576) (h8 : Reads TFrac.fc 2 w q vs) :
    Calls Try.prog 47 #[.agg #[.slice a m cap], .int .i64 nm, .int .i64 mo, .int .i64 jo, .slice q m8 cap8] w (GapS.IsFig (fig rs nm mo jo vs) w) := GapS.fig_s w a m cap rs nm mo jo q m8 cap8 vs hm hs hn h hm8 hs8 h8
theorem add_i (x0 x1 x2 x3 x4 x5 : Int) (p : Option Addr) (n c : Nat) (l : List TNode.El) (hm : rs.length = m) (hs : m ≤ 1048576) (_ : m ≤ cap) (hn : Few rs) (h : RdD w a rs) (hl : l.length = n) (hs2 : n ≤ 1099511627776) (h2 : Reads TNode.fc 6 w p l) :
    Calls Try.prog 27 #[.agg #[.slice a m cap], .agg #[.int .i64 x0, .int .i64 x1, .int .i64 x2, .int .i64 x3, .int .i64 x4, .int .i64 x5, .slice p n c]] w (RuleRow.IsAdd (added rs ⟨x0, x1, x2, x3, x4, x5, l⟩).1 (added rs ⟨x0, x1, x2, x3, x4, x5, l⟩).2 w) := by
  subst hl
  exact AddI.add_i w a m cap rs ⟨⟨x0, x1, x2, x3, x4, x5, l⟩, p, c⟩ hm hs hn hs2 h h2
theorem add_s (x0 x1 x2 x3 x4 x5 : Int) (p : Option Addr) (n c : Nat) (l : List TNode.El) (hm : rs.length = m) (hs : m ≤ 1048576) (_ : m ≤ cap) (hn : Few rs) (h : RdD w a rs) (hl : l.length = n) (hs2 : n ≤ 1099511627776) (h2 : Reads TNode.fc 6 w p l) :
    Calls Try.prog 37 #[.agg #[.slice a m cap], .agg #[.int .i64 x0, .int .i64 x1, .int .i64 x2, .int .i64 x3, .int .i64 x4, .int .i64 x5, .slice p n c]] w (RuleRow.IsAdd (added rs ⟨x0, x1, x2, x3, x4, x5, l⟩).1 (added rs ⟨x0, x1, x2, x3, x4, x5, l⟩).2 w) := by
  subst hl
  exact AddS.add_s w a m cap rs ⟨⟨x0, x1, x2, x3, x4, x5, l⟩, p, c⟩ hm hs hn hs2 h h2
end
end Go.Proofs.Ytkfgflmhefbinaa.RuleF
