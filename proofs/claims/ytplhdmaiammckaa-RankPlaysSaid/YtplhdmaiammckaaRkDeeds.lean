/- A slice of deeds on a rank that comes in, opened: each deed's cells, and its numbers. -/
import Derived.Test.YtplhdmaiammckaaRkOpen
import Derived.Deep.Slices
import Derived.Deep.Fields
namespace Go.Proofs.Ytplhdmaiammckaa
open Go.ChangeShapes Go.WideShapes Go.ChangeAt Go.RowKit Go.Deep
set_option linter.unusedVariables false

theorem list_of {α : Type} (Q : Nat → α → Prop) : ∀ n : Nat, (∀ i, i < n → ∃ x, Q i x) → ∃ l : List α, l.length = n ∧ ∀ i x, l[i]? = some x → Q i x
  | 0, _ => ⟨[], rfl, fun i x h => by simp at h⟩
  | n + 1, h => by
    obtain ⟨l, hl, hq⟩ := list_of Q n fun i hi => h i (by omega)
    obtain ⟨x, hx⟩ := h n (by omega)
    refine ⟨l ++ [x], by simp [hl], fun i y hy => ?_⟩
    rw [List.getElem?_append] at hy
    split at hy
    · exact hq i y hy
    · have : i - l.length = 0 := by
        rcases Nat.eq_zero_or_pos (i - l.length) with h0 | h0
        · exact h0
        · rw [List.getElem?_eq_none (by simp; omega)] at hy; cases hy
      rw [this] at hy
      cases hy
      obtain rfl : i = n := by omega
      exact hx
/-- A deed. -/
structure Dd where
  k : Int
  a : Int
  s : Int
  r : Int
structure DdOk (d : Dd) : Prop where
  k0 : 0 ≤ d.k ∧ d.k ≤ 255
  a0 : 0 ≤ d.a ∧ d.a ≤ 255
  s0 : -9223372036854775808 ≤ d.s ∧ d.s ≤ 9223372036854775807
  r0 : -9223372036854775808 ≤ d.r ∧ d.r ≤ 9223372036854775807
/-- The four cells of a deed. -/
def dcells (d : Dd) : Array Value := #[.int .u8 d.k, .int .u8 d.a, .int .i64 d.s, .int .i64 d.r]
def Deeds (w : World) (A : Option Addr) (l : List Dd) : Prop :=
  ∀ i d, l[i]? = some d → ∃ (b off : Nat), A = some ⟨b, off, none⟩ ∧ (∀ j v, (dcells d)[j]? = some v → w.cell? ⟨b, off + i * 4 + j, none⟩ = some v) ∧ DdOk d
theorem Deeds.below {w w' : World} {A : Option Addr} {l : List Dd} (h : Deeds w A l) (hb : Below w.heap.size w w') : Deeds w' A l := by
  intro i d hd
  obtain ⟨b, off, e, hc, h4⟩ := h i d hd
  exact ⟨b, off, e, fun j v hv => (hb.cell (World.block_lt_of_cell? _ _ (hc j v hv))).trans (hc j v hv), h4⟩
section
variable {H : Type} {enc : TypeId × Value → H} {W : World} {held : Bool}
theorem u8_open {t : TypeId} (ht : Try.prog.underlying t = some (.int .u8)) {fuel : Nat} {cs : List Value} {x : DataW H × List MemPlace} (h : DataW.trod enc Try.prog W 0 (fun _ => true) held fuel t cs = some x) : ∃ n, cs = [.int .u8 n] ∧ 0 ≤ n ∧ n ≤ 255 := by
  obtain ⟨n, e, _, hw⟩ := DataW.trod_int ht h
  exact ⟨n, e, by simpa [Lit.wf, IntKind.min, IntKind.max, IntKind.signed, IntKind.bits] using hw⟩
theorem i64_open {t : TypeId} (ht : Try.prog.underlying t = some (.int .i64)) {fuel : Nat} {cs : List Value} {x : DataW H × List MemPlace} (h : DataW.trod enc Try.prog W 0 (fun _ => true) held fuel t cs = some x) : ∃ n, cs = [.int .i64 n] ∧ -9223372036854775808 ≤ n ∧ n ≤ 9223372036854775807 := by
  obtain ⟨n, e, _, hw⟩ := DataW.trod_int ht h
  exact ⟨n, e, by simpa [Lit.wf, IntKind.min, IntKind.max, IntKind.signed, IntKind.bits] using hw⟩
set_option maxRecDepth 1000000 in
theorem deed_open {fuel : Nat} {cs : List Value} {x : DataW H × List MemPlace} (h : DataW.trod enc Try.prog W 0 (fun _ => true) held fuel 31 cs = some x) :
    ∃ (d : Dd), cs = (dcells d).toList ∧ DdOk d := by
  obtain ⟨ys, n, _, _, hlen, hyl, hf⟩ := DataW.trod_struct Try.underlying31 h
  have hC : Try.prog.cellsOf 31 = 4 := by kernel_rfl
  rw [hC] at hlen
  match cs, hlen with
  | [u0, u1, u2, u3], _ =>
    have c8 : Try.prog.cellsOf 5 = 1 := by kernel_rfl
    have ci : Try.prog.cellsOf 3 = 1 := by kernel_rfl
    have cj : Try.prog.cellsOf 2 = 1 := by kernel_rfl
    have h0 : DataW.trod enc Try.prog W 0 (fun _ => true) held n 5 ((([u0, u1, u2, u3] : List Value).drop 0).take (Try.prog.cellsOf 5)) = ys[0]? := hf 0 _ rfl
    have h1 : DataW.trod enc Try.prog W 0 (fun _ => true) held n 5 ((([u0, u1, u2, u3] : List Value).drop 1).take (Try.prog.cellsOf 5)) = ys[1]? := hf 1 _ rfl
    have h2 : DataW.trod enc Try.prog W 0 (fun _ => true) held n 2 ((([u0, u1, u2, u3] : List Value).drop 2).take (Try.prog.cellsOf 2)) = ys[2]? := hf 2 _ rfl
    have h3 : DataW.trod enc Try.prog W 0 (fun _ => true) held n 3 ((([u0, u1, u2, u3] : List Value).drop 3).take (Try.prog.cellsOf 3)) = ys[3]? := hf 3 _ rfl
    rw [c8] at h0 h1
    rw [cj] at h2
    rw [ci] at h3
    simp only [List.drop_zero, List.take_succ_cons, List.take_zero, List.drop_succ_cons] at h0 h1 h2 h3
    have hy : ys.length = 4 := hyl
    rw [List.getElem?_eq_getElem (by omega)] at h0 h1 h2 h3
    obtain ⟨k, e0, k0⟩ := u8_open Try.underlying5 h0
    obtain ⟨a, e1, a0⟩ := u8_open Try.underlying5 h1
    obtain ⟨s, e2, s0⟩ := i64_open Try.underlying2 h2
    obtain ⟨r, e3, r0⟩ := i64_open Try.underlying3 h3
    simp at e0 e1 e2 e3
    subst e0 e1 e2 e3
    exact ⟨⟨k, a, s, r⟩, rfl, ⟨k0, a0, s0, r0⟩⟩
theorem deeds_open {t : TypeId} (ht : t = 22) {fuel : Nat} {v : Value} {x : DataW H × List MemPlace} (h : DataW.trod enc Try.prog W 0 (fun _ => true) held fuel t [v] = some x) :
    ∃ A c l, v = .slice A (List.length l) c ∧ Deeds W A l ∧ l.length ≤ c ∧ c ≤ maxLen := by
  subst ht
  rcases open_slice Try.underlying22 h with ⟨hcs, _⟩ | ⟨a, len, cap, m, n, D, Pl, hcs, _, hl, hm, hmm, _, hi⟩
  · simp at hcs
    exact ⟨none, 0, [], hcs, (fun i d hd => by simp at hd), Nat.le_refl _, Nat.zero_le _⟩
  · simp at hcs
    have h2 : Try.prog.cellsOf 31 = 4 := by kernel_rfl
    rw [h2] at hi
    obtain ⟨l, hll, hq⟩ := list_of (fun i (d : Dd) => (∀ j v, (dcells d)[j]? = some v → W.cell? (a.add (i * 4 + j)) = some v) ∧ DdOk d) len fun i hil => by
      obtain ⟨cs', hc, ht'⟩ := hi i (by rw [hmm]; simp; omega)
      obtain ⟨d, e, q4⟩ := deed_open ht'
      refine ⟨d, fun j v hv => ?_, q4⟩
      obtain ⟨_, _, hat⟩ := World.cells?_some hc
      have hj : j < 4 := by
        rcases Nat.lt_or_ge j 4 with h | h
        · exact h
        · rw [Array.getElem?_eq_none (by simpa [dcells] using h)] at hv; cases hv
      have g0 := hat j hj
      rw [e, Go.Deep.add_add, Array.getElem?_toList] at g0
      rw [g0]
      exact hv
    refine ⟨some a, cap, l, by rw [hcs, hll], fun i d hd => ?_, by omega, hm⟩
    obtain ⟨q0, q4⟩ := hq i d hd
    obtain ⟨b, off, sp⟩ := a
    have hs : sp = none := by
      have h0 : 0 < l.length := by
        rcases Nat.eq_zero_or_pos l.length with h | h
        · rw [List.eq_nil_of_length_eq_zero h] at hd; simp at hd
        · exact h
      obtain ⟨e0, _⟩ := hq 0 _ (List.getElem?_eq_getElem h0)
      simpa [Addr.add] using World.cell?_spot (e0 0 _ rfl)
    subst hs
    refine ⟨b, off, rfl, fun j v hv => ?_, q4⟩
    have := q0 j v hv
    rw [show (⟨b, off, none⟩ : Addr).add (i * 4 + j) = ⟨b, off + (i * 4 + j), none⟩ by simp [Addr.add], ← Nat.add_assoc] at this
    exact this
end
end Go.Proofs.Ytplhdmaiammckaa
