/- Two rows of one-cell elements that grow side by side: an append says which block its answer owns. Imports nothing of the dump. -/
import Derived.Test.YtdmnagpnhphifaaRow1
import Derived.Maps.AppendAt
namespace Go.Proofs.Ytdmnagpnhphifaa.Row2
open Go.RowKit Row1
variable {α : Type} {f : α → Value}

theorem run_append1_at {P : Program} {t T : TypeId} {z : Value} {cb : Nat} (st : ElT P t T z cb) (hf : One f) (w : World) (ty : TypeId) (B : Nat) (v : Value) (l : List α) (hown : Owns f w B T v l)
    (g c : Nat) (news : List α) (hg : w.heap[g]? = some (.cells (news.map f).toArray T (0, 0))) (hlen : l.length + news.length ≤ 1099511627776) (hbase : B ≤ w.heap.size) :
    ∃ v' w', (Builtin.append_ #[t, t] ty #[v, .slice (some ⟨g, 0, none⟩) news.length c]).run P w = .ok v' w' ∧ Owns f w' B T v' (l ++ news) ∧ w.grownBy w' v.ownBlock ∧ (v'.ownBlock = v.ownBlock ∨ v'.ownBlock = some w.heap.size) := by
  obtain ⟨i0, hi, hz0, hz1, hz2⟩ := info_parts st.hi
  have hmul : (l.length + news.length) * cb ≤ 140737488355328 := Nat.le_trans (Nat.mul_le_mul hlen st.hc) (by omega)
  obtain ⟨v', w', hr, h2, h3, _, h5⟩ := run_append_own_at (P := P) w B t ty T i0 _ 1 cb st.ht hi hz0 hz1 hz2 (by rw [st.hz]; rfl) (by omega) v l.length (l.map f) hown ⟨g, 0, none⟩ news.length c (news.map f)
    (by simp) (by simpa using World.news_of_block hg) (fun u hu => by obtain ⟨b, _, rfl⟩ := List.mem_map.1 hu; exact hf b) (by unfold maxLen; omega) (by omega) hbase
  refine ⟨v', w', hr, ?_, h3, h5⟩
  unfold Owns
  rw [List.length_append, List.map_append]
  exact h2
theorem wpList_append1_at {P : Program} {t T : TypeId} {z : Value} {cb : Nat} (st : ElT P t T z cb) (hf : One f) (w : World) {ops : Array Oper} {rest : List Oper} {o : Oper} {a : Act} {Q : Exit → Act → World → Prop} (hgd : o.guard = none) (s x : Operand)
    (ho : o.op = .call { callee := .builtin .append, args := #[s, x], argTypes := #[t, t] })
    (B : Nat) (v : Value) (l : List α) (hs : a.eval s = v) (hown : Owns f w B T v l) (g c n : Nat) (news : List α) (hn : n = news.length) (hx : a.eval x = .slice (some ⟨g, 0, none⟩) n c)
    (hg : w.heap[g]? = some (.cells (news.map f).toArray T (0, 0))) (hlen : l.length + news.length ≤ 1099511627776) (hbase : B ≤ w.heap.size)
    (h : ∀ v' w', Owns f w' B T v' (l ++ news) → w.grownBy w' v.ownBlock → (v'.ownBlock = v.ownBlock ∨ v'.ownBlock = some w.heap.size) → wpList P ops Q rest (a.put o.dst v') w') : wpList P ops Q (o :: rest) a w :=
  wpList_plain hgd fun _ hK => by
    subst hn
    obtain ⟨v', w', hr, h2, h3, h5⟩ := run_append1_at st hf w o.type B v l hown g c news hg hlen hbase
    unfold Oper.wp execOp
    simp only [ho, resolve, invoke, builtin, Sem.run_bind, Sem.run_pure, Result.andThen_ok, List.map_toArray, List.map_cons, List.map_nil, hs, hx, hr]
    exact hK _ _ (h v' w' h2 h3 h5)

/-- Two rows in blocks of their own. -/
structure Two (f : α → Value) (T B : Nat) (w : World) (v u : Value) (l m : List α) : Prop where
  a : Owns f w B T v l
  b : Owns f w B T u m
  ne : ∀ k, v.ownBlock = some k → ¬ u.ownBlock = some k
theorem Two.alloc {T B : Nat} {w : World} {v u : Value} {l m : List α} (h : Two f T B w v u l m) (o : Obj) : Two f T B (w.alloc o) v u l m := ⟨h.a.alloc o, h.b.alloc o, h.ne⟩
theorem Two.drewN {T B : Nat} {w : World} {v u : Value} {l m : List α} (h : Two f T B w v u l m) (n : Nat) : Two f T B (w.drewN n) v u l m := ⟨h.a.drewN n, h.b.drewN n, h.ne⟩
theorem Two.swap {T B : Nat} {w : World} {v u : Value} {l m : List α} (h : Two f T B w v u l m) : Two f T B w u v m l := ⟨h.b, h.a, fun k h1 h2 => h.ne k h2 h1⟩
theorem Two.growA {T B : Nat} {w w' : World} {v v' u : Value} {l l' m : List α} (h : Two f T B w v u l m) (ho : Owns f w' B T v' l') (hg : w.grownBy w' v.ownBlock) (hv : v'.ownBlock = v.ownBlock ∨ v'.ownBlock = some w.heap.size) : Two f T B w' v' u l' m := by
  refine ⟨ho, h.b.kept hg ?_, ?_⟩
  · cases hu : u.ownBlock with
    | none => exact .inl rfl
    | some k => exact .inr (fun e => h.ne k e.symm hu)
  · intro k h1 h2
    rcases hv with hv | hv
    · exact h.ne k (hv ▸ h1) h2
    · rw [hv] at h1
      have := h.b.lt k h2
      cases h1
      omega
theorem Two.growB {T B : Nat} {w w' : World} {v u u' : Value} {l m m' : List α} (h : Two f T B w v u l m) (ho : Owns f w' B T u' m') (hg : w.grownBy w' u.ownBlock) (hv : u'.ownBlock = u.ownBlock ∨ u'.ownBlock = some w.heap.size) : Two f T B w' v u' l m' := (h.swap.growA ho hg hv).swap
theorem Two.setA {T B : Nat} {w : World} {p n c : Nat} {u : Value} {l m : List α} (h : Two f T B w (.slice (some ⟨p, 0, none⟩) n c) u l m) (hn : n = l.length) (j : Nat) (x : α) : Two f T B (w.setCell ⟨p, j, none⟩ (f x)) (.slice (some ⟨p, 0, none⟩) n c) u (l.set j x) m :=
  ⟨h.a.stored hn j x, h.b.beside (h.ne p rfl) _, h.ne⟩
theorem Two.setB {T B : Nat} {w : World} {p n c : Nat} {v : Value} {l m : List α} (h : Two f T B w v (.slice (some ⟨p, 0, none⟩) n c) l m) (hn : n = m.length) (j : Nat) (x : α) : Two f T B (w.setCell ⟨p, j, none⟩ (f x)) v (.slice (some ⟨p, 0, none⟩) n c) l (m.set j x) :=
  (h.swap.setA hn j x).swap
end Go.Proofs.Ytdmnagpnhphifaa.Row2
