/- Slices that the call made itself: what they hold, and what an append onto one leaves; for any program. -/
import Derived.Maps.AppendAt
import Derived.Laws.OwnMore
import Derived.Below
import Derived.Tactics
namespace Go.Proofs.YtglhebpblncjaaaDoor
open Go.RowKit

/-- From the address A on lie the values xs, one cell each. -/
def Lies (w : World) (A : Option Addr) (xs : List Value) : Prop := ∀ i u, xs[i]? = some u → ∃ x : Addr, A = some x ∧ w.cell? (x.add i) = some u

theorem Lies.keep {w w' : World} {A : Option Addr} {xs : List Value} (h : Lies w A xs) (hk : ∀ p : Addr, p.block < w.heap.size → w'.cell? p = w.cell? p) : Lies w' A xs := fun i u hu => by
  obtain ⟨x, rfl, hx⟩ := h i u hu
  exact ⟨x, rfl, (hk _ (World.block_lt_of_cell? _ _ hx)).trans hx⟩
theorem Lies.below {w w' : World} {A : Option Addr} {xs : List Value} (h : Lies w A xs) (hb : Below w.heap.size w w') : Lies w' A xs := h.keep fun _ hp => hb.cell hp
theorem Lies.alloc {w : World} {A : Option Addr} {xs : List Value} (h : Lies w A xs) (o : Obj) : Lies (w.alloc o) A xs := h.keep fun p hp => World.cell?_alloc_lt w o p hp
theorem Lies.one (w : World) (u : Value) (e : TypeId) : Lies (w.alloc (.cells #[u] e)) (some ⟨w.heap.size, 0, none⟩) [u] := fun i v hv => by
  match i, hv with
  | 0, hv =>
    simp at hv
    subst hv
    refine ⟨_, rfl, ?_⟩
    rw [Go.WideShapes.add_plain]
    exact cell_of_row (w.alloc (.cells #[u] e)) w.heap.size (0 + 0) _ _ _ (heap_alloc_new w _)
/-- The cell of an element, as a walk spells it. -/
theorem Lies.at_ {w : World} {A : Option Addr} {xs : List Value} (h : Lies w A xs) {i : Nat} {u : Value} (hi : xs[i]? = some u) : ∃ b off, A = some ⟨b, off, none⟩ ∧ w.cell? ⟨b, off + i, none⟩ = some u := by
  have hl : i < xs.length := by
    rcases Nat.lt_or_ge i xs.length with h1 | h1
    · exact h1
    · rw [List.getElem?_eq_none h1] at hi; cases hi
  obtain ⟨x, rfl, hx⟩ := h 0 _ (List.getElem?_eq_getElem (by omega : 0 < xs.length))
  obtain ⟨b, off, sp⟩ := x
  have hs : sp = none := by simpa [Addr.add] using World.cell?_spot hx
  subst hs
  obtain ⟨y, e, hy⟩ := h i u hi
  obtain rfl := Option.some.inj e
  exact ⟨b, off, rfl, by rw [← Go.WideShapes.add_plain]; exact hy⟩

/-- A slice that the call owns, written out. -/
theorem own_shape {w : World} {base : Nat} {e : TypeId} {v : Value} {n : Nat} {xs : List Value} (h : w.ownsRow base e 1 v n xs) :
    ∃ A c, v = .slice A n c ∧ Lies w A xs ∧ (A = none → c = 0) ∧ n ≤ c ∧ c ≤ maxLen := by
  rcases h.2 with ⟨rfl, rfl⟩ | ⟨g, cap, cur, rfl, _, hh, hn, hm, _, _⟩
  · have hx : xs = [] := List.eq_nil_of_length_eq_zero (by simpa using h.1)
    subst hx
    exact ⟨none, 0, rfl, fun i u hu => by simp at hu, fun _ => rfl, Nat.le_refl _, Nat.zero_le _⟩
  · exact ⟨_, cap, rfl, fun i u hu => ⟨_, rfl, h.cells (g := g) rfl i u hu⟩, (fun h => by cases h), hn, hm⟩

theorem own_len {w : World} {base : Nat} {e : TypeId} {v : Value} {n : Nat} {xs : List Value} (h : w.ownsRow base e 1 v n xs) : xs.length = n := by simpa using h.1

/-- append(v, source...), v the call's own, the source nil or not. -/
theorem run_app {P : Program} (w : World) (base : Nat) (t ty e : TypeId) (i : TypeInfo) (z : Value) (bytes : Nat) (ht : P.underlying t = some (.slice e)) (hi : P.info? e = some i) (hz : i.zero = some z)
    (hsize : i.size = 1) (hby : i.bytes = bytes) (hzs : z.cells.size = 1) (v : Value) (n : Nat) (xs : List Value) (hown : w.ownsRow base e 1 v n xs)
    (A : Option Addr) (m c : Nat) (news : List Value) (hl : news.length = m) (hlies : Lies w A news) (hnil : A = none → c = 0) (h1 : ∀ u ∈ news, u.oneCell' = true)
    (h63 : n + m ≤ maxLen) (hbytes : (n + m) * bytes ≤ 140737488355328) (hbase : base ≤ w.heap.size) :
    ∃ v' w', (Builtin.append_ #[t, t] ty #[v, .slice A m c]).run P w = .ok v' w' ∧ w'.ownsRow base e 1 v' (n + m) (xs ++ news) ∧ w.grownBy w' v.ownBlock ∧ (v'.ownBlock = v.ownBlock ∨ v'.ownBlock = some w.heap.size) := by
  cases A with
  | none =>
    have hn : news = [] := by
      cases news with
      | nil => rfl
      | cons u r =>
        obtain ⟨x, hx, _⟩ := hlies 0 u rfl
        cases hx
    subst hn
    obtain rfl : m = 0 := by simpa using hl.symm
    obtain rfl := hnil rfl
    exact ⟨v, w, run_append_owned_none w base t ty e i 1 ht hi v n xs hown, by simpa using hown, ⟨rfl, rfl, rfl, Nat.le_refl _, fun _ _ _ => rfl⟩, .inl rfl⟩
  | some ad =>
    obtain ⟨v', w', hr, h2, h3, _, h5⟩ := run_append_own_at (P := P) w base t ty e i z 1 bytes ht hi hz hsize hby hzs (by omega) v n xs hown ad m c news (by simpa using hl)
      (fun j u hu => by obtain ⟨x, hx, hc⟩ := hlies j u hu; obtain rfl := Option.some.inj hx; exact hc) h1 h63 hbytes hbase
    exact ⟨v', w', hr, h2, h3, h5⟩

/-- At an append whose run is known: the walk goes on in the world that it leaves. -/
theorem wpList_app {P : Program} {w w' : World} {ops : Array Oper} {rest : List Oper} {o : Oper} {a : Act} {Q : Exit → Act → World → Prop} {s x : Operand} {t : TypeId} {v v' y : Value}
    (hrun : (Builtin.append_ #[t, t] t #[v, y]).run P w = .ok v' w') (hgd : o.guard = none) (hty : o.type = t)
    (ho : o.op = .call { callee := .builtin .append, args := #[s, x], argTypes := #[t, t] }) (hs : a.eval s = v) (hx : a.eval x = y)
    (h : wpList P ops Q rest (a.put o.dst v') w') : wpList P ops Q (o :: rest) a w := by
  refine wpList_plain hgd fun K hK => ?_
  subst hty
  unfold Oper.wp execOp
  simp only [ho, resolve, invoke, builtin, Sem.run_bind, Sem.run_pure, Result.andThen_ok, List.map_toArray, List.map_cons, List.map_nil, hs, hx, hrun]
  exact hK _ _ h

theorem app_below {w0 w w' : World} {B base : Nat} {e : TypeId} {v : Value} {n : Nat} {xs : List Value} (h : Below B w0 w) (hB : B ≤ w.heap.size) (hg : w.grownBy w' v.ownBlock) (own : w.ownsRow base e 1 v n xs) (hb : B ≤ base) : Below B w0 w' :=
  h.grown hg hB (fun g e => Nat.le_trans hb (own.lt g e).1)
end Go.Proofs.YtglhebpblncjaaaDoor
