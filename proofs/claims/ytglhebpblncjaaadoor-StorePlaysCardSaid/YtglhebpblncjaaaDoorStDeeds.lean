/- A slice of deeds on a store that comes in, opened: each deed's cells, and its numbers. -/
import Derived.Test.YtglhebpblncjaaaDoorStOpen
import Derived.Deep.Slices
import Derived.Deep.Fields
namespace Go.Proofs.YtglhebpblncjaaaDoor
open Go.ChangeShapes Go.WideShapes Go.ChangeAt Go.RowKit Go.Deep
set_option linter.unusedVariables false

theorem list_of {α : Type} (Q : Nat → α → Prop) : ∀ n : Nat, (∀ i, i < n → ∃ x, Q i x) → ∃ l : List α, l.length = n ∧ ∀ i x, l[i]? = some x → Q i x
  | 0, _ => ⟨[], rfl, fun i x h => by simp at h⟩
  | n + 1, h => by
    obtain ⟨l, hl, hq⟩ := list_of Q n fun i hi => h i (by omega)
    obtain ⟨x, hx⟩ := h n (by omega)
    refine ⟨l ++ [x], by simp [hl], fun i y hy => ?_⟩
    rw [List.getElem?_append] at hy
    split at hy
    · exact hq i y hy
    · have : i - l.length = 0 := by
        rcases Nat.eq_zero_or_pos (i - l.length) with h0 | h0
        · exact h0
        · rw [List.getElem?_eq_none (by simp; omega)] at hy; cases hy
      rw [this] at hy
      cases hy
      obtain rfl : i = n := by omega
      exact hx
/-- A deed. -/
structure Dd where
  k : Int
  a : Int
  ix : Int
  kd : Int
  t : Int
  ls : List Int
structure DdOk (d : Dd) : Prop where
  k0 : 0 ≤ d.k ∧ d.k ≤ 255
  a0 : 0 ≤ d.a ∧ d.a ≤ 255
  i0 : -9223372036854775808 ≤ d.ix ∧ d.ix ≤ 9223372036854775807
  d0 : -9223372036854775808 ≤ d.kd ∧ d.kd ≤ 9223372036854775807
  t0 : -9223372036854775808 ≤ d.t ∧ d.t ≤ 9223372036854775807
/-- The six cells of a deed. -/
def dcells (d : Dd) (LA : Option Addr) (lc : Nat) : Array Value := #[.int .u8 d.k, .int .u8 d.a, .int .i64 d.ix, .int .i64 d.kd, .int .i64 d.t, .slice LA d.ls.length lc]
def Deeds (w : World) (A : Option Addr) (l : List Dd) : Prop :=
  ∀ i d, l[i]? = some d → ∃ (b off : Nat) (LA : Option Addr) (lc : Nat), A = some ⟨b, off, none⟩ ∧ (∀ j v, (dcells d LA lc)[j]? = some v → w.cell? ⟨b, off + i * 6 + j, none⟩ = some v) ∧ d.ls.length ≤ lc ∧ lc ≤ maxLen ∧ Lies w LA (ints d.ls) ∧ DdOk d
theorem Deeds.below {w w' : World} {A : Option Addr} {l : List Dd} (h : Deeds w A l) (hb : Below w.heap.size w w') : Deeds w' A l := by
  intro i d hd
  obtain ⟨b, off, LA, lc, e, hc, h1, h2, h3, h4⟩ := h i d hd
  exact ⟨b, off, LA, lc, e, fun j v hv => (hb.cell (World.block_lt_of_cell? _ _ (hc j v hv))).trans (hc j v hv), h1, h2, h3.below hb, h4⟩
section
variable {H : Type} {enc : TypeId × Value → H} {W : World} {held : Bool}
theorem u8_open {t : TypeId} (ht : Tryd.prog.underlying t = some (.int .u8)) {fuel : Nat} {cs : List Value} {x : DataW H × List MemPlace} (h : DataW.trod enc Tryd.prog W 0 (fun _ => true) held fuel t cs = some x) : ∃ n, cs = [.int .u8 n] ∧ 0 ≤ n ∧ n ≤ 255 := by
  obtain ⟨n, e, _, hw⟩ := DataW.trod_int ht h
  exact ⟨n, e, by simpa [Lit.wf, IntKind.min, IntKind.max, IntKind.signed, IntKind.bits] using hw⟩
theorem i64_open {t : TypeId} (ht : Tryd.prog.underlying t = some (.int .i64)) {fuel : Nat} {cs : List Value} {x : DataW H × List MemPlace} (h : DataW.trod enc Tryd.prog W 0 (fun _ => true) held fuel t cs = some x) : ∃ n, cs = [.int .i64 n] ∧ -9223372036854775808 ≤ n ∧ n ≤ 9223372036854775807 := by
  obtain ⟨n, e, _, hw⟩ := DataW.trod_int ht h
  exact ⟨n, e, by simpa [Lit.wf, IntKind.min, IntKind.max, IntKind.signed, IntKind.bits] using hw⟩
theorem ints_open {fuel : Nat} {v : Value} {x : DataW H × List MemPlace} (h : DataW.trod enc Tryd.prog W 0 (fun _ => true) held fuel 33 [v] = some x) :
    ∃ LA lc ls, v = .slice LA (List.length ls) lc ∧ ls.length ≤ lc ∧ lc ≤ maxLen ∧ Lies W LA (ints ls) := by
  rcases open_ints Tryd.underlying33 Tryd.underlying2 (by kernel_rfl) h with ⟨hcs, _⟩ | ⟨x, l, c, zs, hcs, _, hl, hm, hz, _, hcell, hwz⟩
  · simp at hcs
    exact ⟨none, 0, [], hcs, Nat.le_refl _, Nat.zero_le _, fun i u hu => by simp [ints] at hu⟩
  · simp at hcs
    have hz' : zs.length = c := by simpa using hz
    have hlt : (zs.take l).length = l := by rw [List.length_take]; omega
    refine ⟨some x, c, zs.take l, by rw [hlt]; exact hcs, by omega, by omega, fun i u hu => ⟨x, rfl, ?_⟩⟩
    have hi : i < (zs.take l).length := by
      rcases Nat.lt_or_ge i (zs.take l).length with h1 | h1
      · exact h1
      · rw [List.getElem?_eq_none (by simpa [ints] using h1)] at hu; cases hu
    have hi2 : i < zs.length := by omega
    have hc := hcell i hi2
    rw [hc]
    unfold ints at hu
    rw [List.getElem?_map, List.getElem?_eq_getElem hi] at hu
    simp at hu
    subst hu
    simp [List.getD, hi2]
set_option maxRecDepth 1000000 in
theorem deed_open {fuel : Nat} {cs : List Value} {x : DataW H × List MemPlace} (h : DataW.trod enc Tryd.prog W 0 (fun _ => true) held fuel 37 cs = some x) :
    ∃ (d : Dd) (LA : Option Addr) (lc : Nat), cs = (dcells d LA lc).toList ∧ d.ls.length ≤ lc ∧ lc ≤ maxLen ∧ Lies W LA (ints d.ls) ∧ DdOk d := by
  obtain ⟨ys, n, _, _, hlen, hyl, hf⟩ := DataW.trod_struct Tryd.underlying37 h
  have hC : Tryd.prog.cellsOf 37 = 6 := by kernel_rfl
  rw [hC] at hlen
  match cs, hlen with
  | [u0, u1, u2, u3, u4, u5], _ =>
    have c8 : Tryd.prog.cellsOf 5 = 1 := by kernel_rfl
    have ci : Tryd.prog.cellsOf 3 = 1 := by kernel_rfl
    have cj : Tryd.prog.cellsOf 2 = 1 := by kernel_rfl
    have cl : Tryd.prog.cellsOf 33 = 1 := by kernel_rfl
    have ce : Tryd.prog.cellsOf 35 = 3 := by kernel_rfl
    have h0 : DataW.trod enc Tryd.prog W 0 (fun _ => true) held n 5 ((([u0, u1, u2, u3, u4, u5] : List Value).drop 0).take (Tryd.prog.cellsOf 5)) = ys[0]? := hf 0 _ rfl
    have h1 : DataW.trod enc Tryd.prog W 0 (fun _ => true) held n 5 ((([u0, u1, u2, u3, u4, u5] : List Value).drop 1).take (Tryd.prog.cellsOf 5)) = ys[1]? := hf 1 _ rfl
    have h2 : DataW.trod enc Tryd.prog W 0 (fun _ => true) held n 3 ((([u0, u1, u2, u3, u4, u5] : List Value).drop 2).take (Tryd.prog.cellsOf 3)) = ys[2]? := hf 2 _ rfl
    have h3 : DataW.trod enc Tryd.prog W 0 (fun _ => true) held n 35 ((([u0, u1, u2, u3, u4, u5] : List Value).drop 3).take (Tryd.prog.cellsOf 35)) = ys[3]? := hf 3 _ rfl
    rw [c8] at h0 h1
    rw [ci] at h2
    rw [ce] at h3
    simp only [List.drop_zero, List.take_succ_cons, List.take_zero, List.drop_succ_cons] at h0 h1 h2 h3
    have hy : ys.length = 4 := hyl
    rw [List.getElem?_eq_getElem (by omega)] at h0 h1 h2 h3
    obtain ⟨k, e0, k0⟩ := u8_open Tryd.underlying5 h0
    obtain ⟨a, e1, a0⟩ := u8_open Tryd.underlying5 h1
    obtain ⟨ix, e2, i0⟩ := i64_open Tryd.underlying3 h2
    obtain ⟨zs, m, _, _, hzl, hzn, hg⟩ := DataW.trod_struct Tryd.underlying35 h3
    have g0 : DataW.trod enc Tryd.prog W 0 (fun _ => true) held m 3 ((([u3, u4, u5] : List Value).drop 0).take (Tryd.prog.cellsOf 3)) = zs[0]? := hg 0 _ rfl
    have g1 : DataW.trod enc Tryd.prog W 0 (fun _ => true) held m 2 ((([u3, u4, u5] : List Value).drop 1).take (Tryd.prog.cellsOf 2)) = zs[1]? := hg 1 _ rfl
    have g2 : DataW.trod enc Tryd.prog W 0 (fun _ => true) held m 33 ((([u3, u4, u5] : List Value).drop 2).take (Tryd.prog.cellsOf 33)) = zs[2]? := hg 2 _ rfl
    rw [ci] at g0
    rw [cj] at g1
    rw [cl] at g2
    simp only [List.drop_zero, List.take_succ_cons, List.take_zero, List.drop_succ_cons] at g0 g1 g2
    have hz : zs.length = 3 := hzn
    rw [List.getElem?_eq_getElem (by omega)] at g0 g1 g2
    obtain ⟨kd, f0, d0⟩ := i64_open Tryd.underlying3 g0
    obtain ⟨t, f1, t0⟩ := i64_open Tryd.underlying2 g1
    obtain ⟨LA, lc, ls, e4, hl, hc, hL⟩ := ints_open g2
    simp at e0 e1 e2 f0 f1
    subst e0 e1 e2 e4 f0 f1
    exact ⟨⟨k, a, ix, kd, t, ls⟩, LA, lc, rfl, hl, hc, hL, ⟨k0, a0, i0, d0, t0⟩⟩
theorem deeds_open {t : TypeId} (ht : t = 23) {fuel : Nat} {v : Value} {x : DataW H × List MemPlace} (h : DataW.trod enc Tryd.prog W 0 (fun _ => true) held fuel t [v] = some x) :
    ∃ A c l, v = .slice A (List.length l) c ∧ Deeds W A l ∧ l.length ≤ c ∧ c ≤ maxLen := by
  subst ht
  rcases open_slice Tryd.underlying23 h with ⟨hcs, _⟩ | ⟨a, len, cap, m, n, D, Pl, hcs, _, hl, hm, hmm, _, hi⟩
  · simp at hcs
    exact ⟨none, 0, [], hcs, (fun i d hd => by simp at hd), Nat.le_refl _, Nat.zero_le _⟩
  · simp at hcs
    have h2 : Tryd.prog.cellsOf 37 = 6 := by kernel_rfl
    rw [h2] at hi
    obtain ⟨l, hll, hq⟩ := list_of (fun i (d : Dd) => ∃ LA lc, (∀ j v, (dcells d LA lc)[j]? = some v → W.cell? (a.add (i * 6 + j)) = some v) ∧ d.ls.length ≤ lc ∧ lc ≤ maxLen ∧ Lies W LA (ints d.ls) ∧ DdOk d) len fun i hil => by
      obtain ⟨cs', hc, ht'⟩ := hi i (by rw [hmm]; simp; omega)
      obtain ⟨d, LA, lc, e, q1, q2, q3, q4⟩ := deed_open ht'
      refine ⟨d, LA, lc, fun j v hv => ?_, q1, q2, q3, q4⟩
      obtain ⟨_, _, hat⟩ := World.cells?_some hc
      have hj : j < 6 := by
        rcases Nat.lt_or_ge j 6 with h | h
        · exact h
        · rw [Array.getElem?_eq_none (by simpa [dcells] using h)] at hv; cases hv
      have g0 := hat j hj
      rw [e, Go.Deep.add_add, Array.getElem?_toList] at g0
      rw [g0]
      exact hv
    refine ⟨some a, cap, l, by rw [hcs, hll], fun i d hd => ?_, by omega, hm⟩
    obtain ⟨LA, lc, q0, q1, q2, q3, q4⟩ := hq i d hd
    obtain ⟨b, off, sp⟩ := a
    have hs : sp = none := by
      have h0 : 0 < l.length := by
        rcases Nat.eq_zero_or_pos l.length with h | h
        · rw [List.eq_nil_of_length_eq_zero h] at hd; simp at hd
        · exact h
      obtain ⟨_, _, e0, _⟩ := hq 0 _ (List.getElem?_eq_getElem h0)
      simpa [Addr.add] using World.cell?_spot (e0 0 _ rfl)
    subst hs
    refine ⟨b, off, LA, lc, rfl, fun j v hv => ?_, q1, q2, q3, q4⟩
    have := q0 j v hv
    rw [show (⟨b, off, none⟩ : Addr).add (i * 6 + j) = ⟨b, off + (i * 6 + j), none⟩ from add_plain _ _ _, ← Nat.add_assoc] at this
    exact this
end
end Go.Proofs.YtglhebpblncjaaaDoor
