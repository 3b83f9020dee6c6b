/- A map from ints to ints that a call owns, as a function: what is looked up, put, and deleted. -/
import Derived.Test.YtplhdmaiammckaaRkHeap
import Derived.Test.YtplhdmaiammckaaBase
import Derived.Maps.OwnSet
namespace Go.Proofs.Ytplhdmaiammckaa
open Go.RowKit
open Go.Maps (Keyed IsMap Tidy)
set_option linter.unusedVariables false

abbrev I64 (n : Int) : Prop := -9223372036854775808 ≤ n ∧ n ≤ 9223372036854775807
theorem wf_i64 {a : Int} (h : I64 a) : (Lit.int .i64 a).wf = true := WalkArith.wf_i64 h
theorem law_int : Keyed Try.prog 3 := Go.Maps.int_keyed Try.underlying3
theorem zero_int (w : World) : (zeroValue 3).run Try.prog w = .ok (.int .i64 0) w := by kernel_rfl
/-- Block m is a map of n entries, which has at k what f has. -/
def MapI (w : World) (m n : Nat) (f : Int → Option Int) : Prop :=
  ∃ D : DataW Unit, w.ownsMap Try.prog 3 (plainElem Try.prog 3) m n D ∧ Maps.size D = n ∧ ∀ k, I64 k → Maps.has D (.int .i64 k) = (f k).isSome ∧ D.atKey (.int .i64 k) (.lit (.int .i64 0)) = .lit (.int .i64 ((f k).getD 0))
/-- Its bound is how many it has. -/
theorem tight {w : World} {m n : Nat} {D : DataW Unit} (h : w.ownsMap Try.prog 3 (plainElem Try.prog 3) m n D) : w.ownsMap Try.prog 3 (plainElem Try.prog 3) m (Maps.size D) D := by
  obtain ⟨es, clock, hb, F, _, rfl⟩ := h
  have e1 : Maps.size (DataW.map ((es.toList.map (WideElems.rg Try.prog 3 (plainElem (H := Unit) Try.prog 3))).foldr DataW.insert [])) = es.size := by simp [Maps.size, length_sorted]
  exact ⟨es, clock, hb, F, by rw [e1]; exact Nat.le_refl _, rfl⟩
theorem MapI.new (w : World) : MapI (w.alloc (.map #[] 0)) w.heap.size 0 (fun _ => none) :=
  ⟨.map [], World.ownsMap_made _ _ _ _, rfl, fun k _ => ⟨rfl, rfl⟩⟩
theorem MapI.lt {w : World} {m n : Nat} {f : Int → Option Int} (h : MapI w m n f) : m < w.heap.size := by
  obtain ⟨D, h1, _⟩ := h
  exact h1.lt
theorem MapI.keep {w w' : World} {m n : Nat} {f : Int → Option Int} (h : MapI w m n f) (hk : w'.heap[m]? = w.heap[m]?) : MapI w' m n f := by
  obtain ⟨D, ⟨es, clock, hb, r⟩, h2, h3⟩ := h
  exact ⟨D, ⟨es, clock, hk.trans hb, r⟩, h2, h3⟩
theorem MapI.look {w : World} {m n : Nat} {f : Int → Option Int} (h : MapI w m n f) {k : Int} (hk : I64 k) (t : TypeId) (ht : Try.prog.underlying t = some (.map 3 3)) :
    (Instr.lookup t (.map (some m)) (.int .i64 k) true).run Try.prog w = .ok (.tuple #[.int .i64 ((f k).getD 0), .bool (f k).isSome]) w := by
  obtain ⟨D, h1, h2, h3⟩ := h
  obtain ⟨v, ps, hr, hv⟩ := h1.look_ok law_int ht (zero_int _) (plainElem_int Try.underlying3 (by decide)) (Maps.keyOf_int_mk Try.underlying3 (wf_i64 hk))
  obtain ⟨e1, e2⟩ := h3 k hk
  rw [e2] at hv
  obtain ⟨c, rfl, hc, _⟩ := plainElem_int_inv Try.underlying3 hv
  simp only [Prod.mk.injEq, DataW.lit.injEq, Lit.int.injEq, true_and] at hc
  rw [hr, e1, hc.1]
theorem key_int (k : Int) : WideAt.IsKeyLit (.int .i64 k) := by simp [WideAt.IsKeyLit]
theorem MapI.put {w : World} {m n : Nat} {f : Int → Option Int} (h : MapI w m n f) {k v : Int} (hk : I64 k) (hv : I64 v) (hn : n < 1000000) (t : TypeId) (ht : Try.prog.underlying t = some (.map 3 3)) :
    ∃ w', (Instr.mapUpdate t (.map (some m)) (.int .i64 k) (.int .i64 v)).run Try.prog w = .ok () w' ∧ MapI w' m (if (f k).isSome then n else n + 1) (upd f k (some v)) ∧ w.mapTurned w' m := by
  obtain ⟨D, h1, h2, h3⟩ := h
  obtain ⟨w', hr, h4, h5⟩ := h1.store law_int ht (by unfold maxLen; omega) (Maps.keyOf_int_mk Try.underlying3 (wf_i64 hk)) (plainElem_int Try.underlying3 (wf_i64 hv))
  have hs := Maps.size_put (k := .int .i64 k) (h1.tidy law_int) (.lit (.int .i64 v))
  rw [(h3 k hk).1, h2] at hs
  refine ⟨w', hr, ⟨_, by have := tight h4; rw [hs] at this; exact this, hs, fun j hj => ?_⟩, h5⟩
  by_cases e : j = k
  · subst e
    rw [upd_same]
    exact ⟨Maps.has_put_same h1.isMap (key_int _) _, Maps.atKey_put_same h1.isMap (key_int _) _ _⟩
  · have hne : Lit.int .i64 j ≠ .int .i64 k := fun e1 => e (by simpa using e1)
    rw [upd_other _ _ _ _ e]
    exact ⟨(Maps.has_put_other hne _).trans (h3 j hj).1, (Maps.atKey_put_other hne _ _).trans (h3 j hj).2⟩
theorem MapI.del {w : World} {m n : Nat} {f : Int → Option Int} (h : MapI w m n f) {k : Int} (hk : I64 k) (t : TypeId) (ht : Try.prog.underlying t = some (.map 3 3)) (ty : TypeId) :
    ∃ w', (Builtin.delete_ #[t, 3] ty #[.map (some m), .int .i64 k]).run Try.prog w = .ok (.tuple #[]) w' ∧ MapI w' m (if (f k).isSome then n - 1 else n) (upd f k none) ∧ w.mapTurned w' m := by
  obtain ⟨D, h1, h2, h3⟩ := h
  obtain ⟨w', hr, h4, h5⟩ := h1.drop law_int ht (Maps.keyOf_int_mk Try.underlying3 (wf_i64 hk)) ty
  have hs := Maps.size_del (k := .int .i64 k) (h1.tidy law_int)
  rw [(h3 k hk).1, h2] at hs
  have hs' : Maps.size (D.del (.int .i64 k)) = if (f k).isSome then n - 1 else n := by
    cases hf : (f k).isSome <;> rw [hf] at hs <;> simp at hs ⊢ <;> omega
  refine ⟨w', hr, ⟨_, by have := tight h4; rw [hs'] at this; exact this, hs', fun j hj => ?_⟩, h5⟩
  by_cases e : j = k
  · subst e
    rw [upd_same]
    exact ⟨Maps.has_del_same, Maps.atKey_del_same _⟩
  · have hne : Lit.int .i64 j ≠ .int .i64 k := fun e1 => e (by simpa using e1)
    rw [upd_other _ _ _ _ e]
    exact ⟨(Maps.has_del_other hne).trans (h3 j hj).1, (Maps.atKey_del_other hne _).trans (h3 j hj).2⟩
theorem turned_block {w w' : World} {m : Nat} (h : w.mapTurned w' m) : w'.heap.size = w.heap.size ∧ ∀ k, k ≠ m → w'.heap[k]? = w.heap[k]? := by
  obtain ⟨es, clock, es', clock', hb, rfl⟩ := h
  exact ⟨by simp [Go.ChangeMaps.setBlock], fun k hk => Go.ChangeMaps.heap_setBlock_other hb _ hk⟩
end Go.Proofs.Ytplhdmaiammckaa
