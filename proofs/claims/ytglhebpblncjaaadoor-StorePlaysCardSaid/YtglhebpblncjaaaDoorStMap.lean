/- A map from ints to counted blocks that a call owns, as a function: what is looked up, put, and deleted. -/
import Derived.Test.YtglhebpblncjaaaDoorBase
import Derived.Maps.OwnSet
namespace Go.Proofs.YtglhebpblncjaaaDoor
open Go.RowKit
open Go.Maps (Keyed IsMap Tidy)
set_option linter.unusedVariables false

abbrev I64 (n : Int) : Prop := -9223372036854775808 ≤ n ∧ n ≤ 9223372036854775807
theorem wf_i64 {a : Int} (h : I64 a) : (Lit.int .i64 a).wf = true := WalkArith.wf_i64 h
/-- A function, at one place another one. -/
def upd {α : Type} (S : Int → α) (k : Int) (v : α) : Int → α := fun i => if i = k then v else S i
theorem upd_same {α : Type} (S : Int → α) (k : Int) (v : α) : upd S k v k = v := by unfold upd; simp
theorem upd_other {α : Type} (S : Int → α) (k : Int) (v : α) (i : Int) (h : i ≠ k) : upd S k v i = S i := by unfold upd; simp [h]
/-- What is kept of an event: its slot, its generation, how often it is counted. -/
structure Ct where
  s : Nat
  g : Int
  t : Int
def zc : Ct := ⟨0, 0, 0⟩
def ctv (c : Ct) : Value := .agg #[.int .u32 (c.s : Int), .int .u32 c.g, .int .i64 c.t]
def ctd (c : Ct) : DataW Unit := .agg [.lit (.int .u32 (c.s : Int)), .lit (.int .u32 c.g), .lit (.int .i64 c.t)]
/-- How such a value reads. -/
def ctR (v : Value) : Option (DataW Unit × List MemPlace) :=
  match v with
  | .agg cs =>
    match cs.toList with
    | [.int .u32 s, .int .u32 g, .int .i64 t] => some (.agg [.lit (.int .u32 s), .lit (.int .u32 g), .lit (.int .i64 t)], [])
    | _ => none
  | _ => none
theorem ctR_mk (c : Ct) : ctR (ctv c) = some (ctd c, []) := rfl
theorem ctR_inv {v : Value} {c : Ct} {ps : List MemPlace} (h : ctR v = some (ctd c, ps)) : v = ctv c := by
  unfold ctR at h
  split at h
  · rename_i cs
    split at h
    · rename_i s g t e
      simp only [Option.some.injEq, Prod.mk.injEq, ctd, DataW.agg.injEq, List.cons.injEq, DataW.lit.injEq, Lit.int.injEq, true_and, and_true] at h
      obtain ⟨⟨h1, h2, h3⟩, h4⟩ := h
      have ec : cs = #[.int .u32 s, .int .u32 g, .int .i64 t] := Array.toList_inj.1 e
      rw [ec, h1, h2, h3]
      rfl
    · cases h
  · cases h
theorem law_int : Keyed Tryd.prog 3 := Go.Maps.int_keyed Tryd.underlying3
theorem zero_ci : (Tryd.prog.info? 80).map (fun i => i.zero) = some (some (ctv zc)) := by kernel_rfl
theorem zero_ct (w : World) : (zeroValue 80).run Tryd.prog w = .ok (ctv zc) w := by
  cases h : Tryd.prog.info? 80 with
  | none => have := zero_ci; rw [h] at this; cases this
  | some i =>
    have e : i.zero = some (ctv zc) := by have := zero_ci; rw [h] at this; simpa using this
    simp [zeroValue, typeInfo, h, e]
theorem under_mc : Tryd.prog.underlying 68 = some (.map 3 80) := Tryd.underlying68
/-- Block m is a map of n entries, which has at k what f has. -/
def MapC (w : World) (m n : Nat) (f : Int → Option Ct) : Prop :=
  ∃ D : DataW Unit, w.ownsMap Tryd.prog 3 ctR m n D ∧ Maps.size D = n ∧ ∀ k, I64 k → Maps.has D (.int .i64 k) = (f k).isSome ∧ D.atKey (.int .i64 k) (ctd zc) = ctd ((f k).getD zc)
/-- Its bound is how many it has. -/
theorem tight {w : World} {m n : Nat} {D : DataW Unit} (h : w.ownsMap Tryd.prog 3 ctR m n D) : w.ownsMap Tryd.prog 3 ctR m (Maps.size D) D := by
  obtain ⟨es, clock, hb, F, _, rfl⟩ := h
  have e1 : Maps.size (DataW.map ((es.toList.map (WideElems.rg Tryd.prog 3 ctR)).foldr DataW.insert [])) = es.size := by simp [Maps.size, length_sorted]
  exact ⟨es, clock, hb, F, by rw [e1]; exact Nat.le_refl _, rfl⟩
theorem MapC.new (w : World) : MapC (w.alloc (.map #[] 0)) w.heap.size 0 (fun _ => none) :=
  ⟨.map [], World.ownsMap_made _ _ _ _, rfl, fun k _ => ⟨rfl, rfl⟩⟩
theorem MapC.lt {w : World} {m n : Nat} {f : Int → Option Ct} (h : MapC w m n f) : m < w.heap.size := by
  obtain ⟨D, h1, _⟩ := h
  exact h1.lt
theorem MapC.keep {w w' : World} {m n : Nat} {f : Int → Option Ct} (h : MapC w m n f) (hk : w'.heap[m]? = w.heap[m]?) : MapC w' m n f := by
  obtain ⟨D, ⟨es, clock, hb, r⟩, h2, h3⟩ := h
  exact ⟨D, ⟨es, clock, hk.trans hb, r⟩, h2, h3⟩
theorem MapC.look {w : World} {m n : Nat} {f : Int → Option Ct} (h : MapC w m n f) {k : Int} (hk : I64 k) :
    (Instr.lookup 68 (.map (some m)) (.int .i64 k) true).run Tryd.prog w = .ok (.tuple #[ctv ((f k).getD zc), .bool (f k).isSome]) w := by
  obtain ⟨D, h1, h2, h3⟩ := h
  obtain ⟨v, ps, hr, hv⟩ := h1.look_ok law_int under_mc (zero_ct _) (ctR_mk zc) (Maps.keyOf_int_mk Tryd.underlying3 (wf_i64 hk))
  obtain ⟨e1, e2⟩ := h3 k hk
  rw [e2] at hv
  rw [hr, e1, ctR_inv hv]
theorem MapC.look1 {w : World} {m n : Nat} {f : Int → Option Ct} (h : MapC w m n f) {k : Int} (hk : I64 k) :
    (Instr.lookup 68 (.map (some m)) (.int .i64 k) false).run Tryd.prog w = .ok (ctv ((f k).getD zc)) w := by
  obtain ⟨D, h1, h2, h3⟩ := h
  obtain ⟨v, ps, hr, hv⟩ := h1.lookup law_int under_mc (zero_ct _) (ctR_mk zc) (Maps.keyOf_int_mk Tryd.underlying3 (wf_i64 hk))
  obtain ⟨e1, e2⟩ := h3 k hk
  rw [e2] at hv
  rw [hr, ctR_inv hv]
theorem MapC.len {w : World} {m n : Nat} {f : Int → Option Ct} (h : MapC w m n f) (ty : TypeId) : (Builtin.len_ #[68] ty #[.map (some m)]).run Tryd.prog w = .ok (.int .i64 n) w := by
  obtain ⟨D, h1, h2, h3⟩ := h
  have := h1.len under_mc ty
  rw [h2] at this
  exact this
theorem key_int (k : Int) : WideAt.IsKeyLit (.int .i64 k) := by simp [WideAt.IsKeyLit]
theorem MapC.put {w : World} {m n : Nat} {f : Int → Option Ct} (h : MapC w m n f) {k : Int} (c : Ct) (hk : I64 k) (hn : n < 1000000) :
    ∃ w', (Instr.mapUpdate 68 (.map (some m)) (.int .i64 k) (ctv c)).run Tryd.prog w = .ok () w' ∧ MapC w' m (if (f k).isSome then n else n + 1) (upd f k (some c)) ∧ w.mapTurned w' m := by
  obtain ⟨D, h1, h2, h3⟩ := h
  obtain ⟨w', hr, h4, h5⟩ := h1.store law_int under_mc (by unfold maxLen; omega) (Maps.keyOf_int_mk Tryd.underlying3 (wf_i64 hk)) (ctR_mk c)
  have hs := Maps.size_put (k := .int .i64 k) (h1.tidy law_int) (ctd c)
  rw [(h3 k hk).1, h2] at hs
  refine ⟨w', hr, ⟨_, by have := tight h4; rw [hs] at this; exact this, hs, fun j hj => ?_⟩, h5⟩
  by_cases e : j = k
  · subst e
    rw [upd_same]
    exact ⟨Maps.has_put_same h1.isMap (key_int _) _, Maps.atKey_put_same h1.isMap (key_int _) _ _⟩
  · have hne : Lit.int .i64 j ≠ .int .i64 k := fun e1 => e (by simpa using e1)
    rw [upd_other _ _ _ _ e]
    exact ⟨(Maps.has_put_other hne _).trans (h3 j hj).1, (Maps.atKey_put_other hne _ _).trans (h3 j hj).2⟩
theorem MapC.del {w : World} {m n : Nat} {f : Int → Option Ct} (h : MapC w m n f) {k : Int} (hk : I64 k) (ty : TypeId) :
    ∃ w', (Builtin.delete_ #[68, 3] ty #[.map (some m), .int .i64 k]).run Tryd.prog w = .ok (.tuple #[]) w' ∧ MapC w' m (if (f k).isSome then n - 1 else n) (upd f k none) ∧ w.mapTurned w' m := by
  obtain ⟨D, h1, h2, h3⟩ := h
  obtain ⟨w', hr, h4, h5⟩ := h1.drop law_int under_mc (Maps.keyOf_int_mk Tryd.underlying3 (wf_i64 hk)) ty
  have hs := Maps.size_del (k := .int .i64 k) (h1.tidy law_int)
  rw [(h3 k hk).1, h2] at hs
  have hs' : Maps.size (D.del (.int .i64 k)) = if (f k).isSome then n - 1 else n := by
    cases hf : (f k).isSome <;> rw [hf] at hs <;> simp at hs ⊢ <;> omega
  refine ⟨w', hr, ⟨_, by have := tight h4; rw [hs'] at this; exact this, hs', fun j hj => ?_⟩, h5⟩
  by_cases e : j = k
  · subst e
    rw [upd_same]
    exact ⟨Maps.has_del_same, Maps.atKey_del_same _⟩
  · have hne : Lit.int .i64 j ≠ .int .i64 k := fun e1 => e (by simpa using e1)
    rw [upd_other _ _ _ _ e]
    exact ⟨(Maps.has_del_other hne).trans (h3 j hj).1, (Maps.atKey_del_other hne _).trans (h3 j hj).2⟩
theorem turned_block {w w' : World} {m : Nat} (h : w.mapTurned w' m) : w'.heap.size = w.heap.size ∧ ∀ k, k ≠ m → w'.heap[k]? = w.heap[k]? := by
  obtain ⟨es, clock, es', clock', hb, rfl⟩ := h
  exact ⟨by simp [Go.ChangeMaps.setBlock], fun k hk => Go.ChangeMaps.heap_setBlock_other hb _ hk⟩
end Go.Proofs.YtglhebpblncjaaaDoor
