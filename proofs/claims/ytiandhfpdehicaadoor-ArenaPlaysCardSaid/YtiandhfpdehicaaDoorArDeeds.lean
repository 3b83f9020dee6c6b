/- A slice of deeds that comes in, opened: each deed's cells, and its numbers. -/
import Derived.Test.YtiandhfpdehicaaDoorArRow
import Derived.Test.YtiandhfpdehicaaDoorArTwo
import Derived.Deep.Slices
import Derived.Deep.Fields
import Derived.Lib.SmallJoins
namespace Go.Proofs.YtiandhfpdehicaaDoor
open Go.ChangeShapes Go.WideShapes Go.ChangeAt Go.RowKit Go.Deep
set_option linter.unusedVariables false

theorem list_of {α : Type} (Q : Nat → α → Prop) : ∀ n : Nat, (∀ i, i < n → ∃ x, Q i x) → ∃ l : List α, l.length = n ∧ ∀ i x, l[i]? = some x → Q i x
  | 0, _ => ⟨[], rfl, fun i x h => by simp at h⟩
  | n + 1, h => by
    obtain ⟨l, hl, hq⟩ := list_of Q n fun i hi => h i (by omega)
    obtain ⟨x, hx⟩ := h n (by omega)
    refine ⟨l ++ [x], by simp [hl], fun i y hy => ?_⟩
    rw [List.getElem?_append] at hy
    split at hy
    · exact hq i y hy
    · have : i - l.length = 0 := by
        rcases Nat.eq_zero_or_pos (i - l.length) with h0 | h0
        · exact h0
        · rw [List.getElem?_eq_none (by simp; omega)] at hy; cases hy
      rw [this] at hy
      cases hy
      obtain rfl : i = n := by omega
      exact hx
/-- A deed. -/
structure Dd where
  k : Int
  a : Int
  ln : Int
  n : Int
  ls : List Int
  hs : Int
  hg : Int
structure DdOk (d : Dd) : Prop where
  k0 : 0 ≤ d.k
  k1 : d.k ≤ 255
  a0 : 0 ≤ d.a
  a1 : d.a ≤ 255
  l0 : 0 ≤ d.ln
  l1 : d.ln ≤ 255
  n0 : -9223372036854775808 ≤ d.n
  n1 : d.n ≤ 9223372036854775807
  s0 : 0 ≤ d.hs
  s1 : d.hs ≤ 4294967295
  g0 : 0 ≤ d.hg
  g1 : d.hg ≤ 4294967295
/-- The seven cells of a deed. -/
def dcells (d : Dd) (LA : Option Addr) (lc : Nat) : Array Value := #[.int .u8 d.k, .int .u8 d.a, .int .u8 d.ln, .int .i64 d.n, .slice LA d.ls.length lc, .int .u32 d.hs, .int .u32 d.hg]
def Deeds (w : World) (A : Option Addr) (l : List Dd) : Prop :=
  ∀ i d, l[i]? = some d → ∃ (b off : Nat) (LA : Option Addr) (lc : Nat), A = some ⟨b, off, none⟩ ∧ (∀ j v, (dcells d LA lc)[j]? = some v → w.cell? ⟨b, off + i * 7 + j, none⟩ = some v) ∧ d.ls.length ≤ lc ∧ lc ≤ maxLen ∧ Lies w LA (ints d.ls) ∧ DdOk d
theorem Deeds.below {w w' : World} {A : Option Addr} {l : List Dd} (h : Deeds w A l) (hb : Below w.heap.size w w') : Deeds w' A l := by
  intro i d hd
  obtain ⟨b, off, LA, lc, e, hc, h1, h2, h3, h4⟩ := h i d hd
  exact ⟨b, off, LA, lc, e, fun j v hv => (hb.cell (World.block_lt_of_cell? _ _ (hc j v hv))).trans (hc j v hv), h1, h2, h3.below hb, h4⟩
section
variable {H : Type} {enc : TypeId × Value → H} {W : World} {held : Bool}
theorem u8_open {t : TypeId} (ht : Tryd.prog.underlying t = some (.int .u8)) {fuel : Nat} {cs : List Value} {x : DataW H × List MemPlace} (h : DataW.trod enc Tryd.prog W 0 (fun _ => true) held fuel t cs = some x) : ∃ n, cs = [.int .u8 n] ∧ 0 ≤ n ∧ n ≤ 255 := by
  obtain ⟨n, e, _, hw⟩ := DataW.trod_int ht h
  exact ⟨n, e, by simpa [Lit.wf, IntKind.min, IntKind.max, IntKind.signed, IntKind.bits] using hw⟩
theorem i64_open {t : TypeId} (ht : Tryd.prog.underlying t = some (.int .i64)) {fuel : Nat} {cs : List Value} {x : DataW H × List MemPlace} (h : DataW.trod enc Tryd.prog W 0 (fun _ => true) held fuel t cs = some x) : ∃ n, cs = [.int .i64 n] ∧ -9223372036854775808 ≤ n ∧ n ≤ 9223372036854775807 := by
  obtain ⟨n, e, _, hw⟩ := DataW.trod_int ht h
  exact ⟨n, e, by simpa [Lit.wf, IntKind.min, IntKind.max, IntKind.signed, IntKind.bits] using hw⟩
theorem u32_open {t : TypeId} (ht : Tryd.prog.underlying t = some (.int .u32)) {fuel : Nat} {cs : List Value} {x : DataW H × List MemPlace} (h : DataW.trod enc Tryd.prog W 0 (fun _ => true) held fuel t cs = some x) : ∃ n, cs = [.int .u32 n] ∧ 0 ≤ n ∧ n ≤ 4294967295 := by
  obtain ⟨n, e, _, hw⟩ := DataW.trod_int ht h
  exact ⟨n, e, by simpa [Lit.wf, IntKind.min, IntKind.max, IntKind.signed, IntKind.bits] using hw⟩
theorem ints_open {fuel : Nat} {v : Value} {x : DataW H × List MemPlace} (h : DataW.trod enc Tryd.prog W 0 (fun _ => true) held fuel 29 [v] = some x) :
    ∃ LA lc ls, v = .slice LA (List.length ls) lc ∧ ls.length ≤ lc ∧ lc ≤ maxLen ∧ Lies W LA (ints ls) := by
  rcases open_ints Tryd.underlying29 Tryd.underlying3 (by kernel_rfl) h with ⟨hcs, _⟩ | ⟨x, l, c, zs, hcs, _, hl, hm, hz, _, hcell, hwz⟩
  · simp at hcs
    exact ⟨none, 0, [], hcs, Nat.le_refl _, Nat.zero_le _, fun i u hu => by simp [ints] at hu⟩
  · simp at hcs
    have hz' : zs.length = c := by simpa using hz
    have hlt : (zs.take l).length = l := by rw [List.length_take]; omega
    refine ⟨some x, c, zs.take l, by rw [hlt]; exact hcs, by omega, by omega, fun i u hu => ⟨x, rfl, ?_⟩⟩
    have hi : i < (zs.take l).length := by
      rcases Nat.lt_or_ge i (zs.take l).length with h1 | h1
      · exact h1
      · rw [List.getElem?_eq_none (by simpa [ints] using h1)] at hu; cases hu
    have hi2 : i < zs.length := by omega
    have hc := hcell i hi2
    rw [hc]
    unfold ints at hu
    rw [List.getElem?_map, List.getElem?_eq_getElem hi] at hu
    simp at hu
    subst hu
    simp [List.getD, hi2]
set_option maxRecDepth 1000000 in
theorem deed_open {fuel : Nat} {cs : List Value} {x : DataW H × List MemPlace} (h : DataW.trod enc Tryd.prog W 0 (fun _ => true) held fuel 34 cs = some x) :
    ∃ (d : Dd) (LA : Option Addr) (lc : Nat), cs = (dcells d LA lc).toList ∧ d.ls.length ≤ lc ∧ lc ≤ maxLen ∧ Lies W LA (ints d.ls) ∧ DdOk d := by
  obtain ⟨ys, n, _, _, hlen, hyl, hf⟩ := DataW.trod_struct Tryd.underlying34 h
  have hC : Tryd.prog.cellsOf 34 = 7 := by kernel_rfl
  rw [hC] at hlen
  match cs, hlen with
  | [u0, u1, u2, u3, u4, u5, u6], _ =>
    have c8 : Tryd.prog.cellsOf 5 = 1 := by kernel_rfl
    have ci : Tryd.prog.cellsOf 3 = 1 := by kernel_rfl
    have cl : Tryd.prog.cellsOf 29 = 1 := by kernel_rfl
    have ch : Tryd.prog.cellsOf 32 = 2 := by kernel_rfl
    have cg : Tryd.prog.cellsOf 30 = 1 := by kernel_rfl
    have h0 : DataW.trod enc Tryd.prog W 0 (fun _ => true) held n 5 ((([u0, u1, u2, u3, u4, u5, u6] : List Value).drop 0).take (Tryd.prog.cellsOf 5)) = ys[0]? := hf 0 _ rfl
    have h1 : DataW.trod enc Tryd.prog W 0 (fun _ => true) held n 5 ((([u0, u1, u2, u3, u4, u5, u6] : List Value).drop 1).take (Tryd.prog.cellsOf 5)) = ys[1]? := hf 1 _ rfl
    have h2 : DataW.trod enc Tryd.prog W 0 (fun _ => true) held n 5 ((([u0, u1, u2, u3, u4, u5, u6] : List Value).drop 2).take (Tryd.prog.cellsOf 5)) = ys[2]? := hf 2 _ rfl
    have h3 : DataW.trod enc Tryd.prog W 0 (fun _ => true) held n 3 ((([u0, u1, u2, u3, u4, u5, u6] : List Value).drop 3).take (Tryd.prog.cellsOf 3)) = ys[3]? := hf 3 _ rfl
    have h4 : DataW.trod enc Tryd.prog W 0 (fun _ => true) held n 29 ((([u0, u1, u2, u3, u4, u5, u6] : List Value).drop 4).take (Tryd.prog.cellsOf 29)) = ys[4]? := hf 4 _ rfl
    have h5 : DataW.trod enc Tryd.prog W 0 (fun _ => true) held n 32 ((([u0, u1, u2, u3, u4, u5, u6] : List Value).drop 5).take (Tryd.prog.cellsOf 32)) = ys[5]? := hf 5 _ rfl
    rw [c8] at h0 h1 h2
    rw [ci] at h3
    rw [cl] at h4
    rw [ch] at h5
    simp only [List.drop_zero, List.take_succ_cons, List.take_zero, List.drop_succ_cons] at h0 h1 h2 h3 h4 h5
    have hy : ys.length = 6 := hyl
    rw [List.getElem?_eq_getElem (by omega)] at h0 h1 h2 h3 h4 h5
    obtain ⟨k, e0, k0, k1⟩ := u8_open Tryd.underlying5 h0
    obtain ⟨a, e1, a0, a1⟩ := u8_open Tryd.underlying5 h1
    obtain ⟨ln, e2, l0, l1⟩ := u8_open Tryd.underlying5 h2
    obtain ⟨nn, e3, n0, n1⟩ := i64_open Tryd.underlying3 h3
    obtain ⟨LA, lc, ls, e4, hl, hc, hL⟩ := ints_open h4
    obtain ⟨zs, m, _, _, hzl, hzn, hg⟩ := DataW.trod_struct Tryd.underlying32 h5
    have g0 : DataW.trod enc Tryd.prog W 0 (fun _ => true) held m 30 ((([u5, u6] : List Value).drop 0).take (Tryd.prog.cellsOf 30)) = zs[0]? := hg 0 _ rfl
    have g1 : DataW.trod enc Tryd.prog W 0 (fun _ => true) held m 30 ((([u5, u6] : List Value).drop 1).take (Tryd.prog.cellsOf 30)) = zs[1]? := hg 1 _ rfl
    rw [cg] at g0 g1
    simp only [List.drop_zero, List.take_succ_cons, List.take_zero, List.drop_succ_cons] at g0 g1
    have hz : zs.length = 2 := hzn
    rw [List.getElem?_eq_getElem (by omega)] at g0 g1
    obtain ⟨hs, f0, s0, s1⟩ := u32_open Tryd.underlying30 g0
    obtain ⟨hh, f1, t0, t1⟩ := u32_open Tryd.underlying30 g1
    simp at e0 e1 e2 e3 f0 f1
    subst e0 e1 e2 e3 e4 f0 f1
    exact ⟨⟨k, a, ln, nn, ls, hs, hh⟩, LA, lc, rfl, hl, hc, hL, ⟨k0, k1, a0, a1, l0, l1, n0, n1, s0, s1, t0, t1⟩⟩
theorem deeds_open {t : TypeId} (ht : t = 22) {fuel : Nat} {v : Value} {x : DataW H × List MemPlace} (h : DataW.trod enc Tryd.prog W 0 (fun _ => true) held fuel t [v] = some x) :
    ∃ A c l, v = .slice A (List.length l) c ∧ Deeds W A l ∧ l.length ≤ c ∧ c ≤ maxLen := by
  subst ht
  rcases open_slice Tryd.underlying22 h with ⟨hcs, _⟩ | ⟨a, len, cap, m, n, D, Pl, hcs, _, hl, hm, hmm, _, hi⟩
  · simp at hcs
    exact ⟨none, 0, [], hcs, (fun i d hd => by simp at hd), Nat.le_refl _, Nat.zero_le _⟩
  · simp at hcs
    have h2 : Tryd.prog.cellsOf 34 = 7 := by kernel_rfl
    rw [h2] at hi
    obtain ⟨l, hll, hq⟩ := list_of (fun i (d : Dd) => ∃ LA lc, (∀ j v, (dcells d LA lc)[j]? = some v → W.cell? (a.add (i * 7 + j)) = some v) ∧ d.ls.length ≤ lc ∧ lc ≤ maxLen ∧ Lies W LA (ints d.ls) ∧ DdOk d) len fun i hil => by
      obtain ⟨cs', hc, ht'⟩ := hi i (by rw [hmm]; simp; omega)
      obtain ⟨d, LA, lc, e, q1, q2, q3, q4⟩ := deed_open ht'
      refine ⟨d, LA, lc, fun j v hv => ?_, q1, q2, q3, q4⟩
      obtain ⟨_, _, hat⟩ := World.cells?_some hc
      have hj : j < 7 := by
        rcases Nat.lt_or_ge j 7 with h | h
        · exact h
        · rw [Array.getElem?_eq_none (by simpa [dcells] using h)] at hv; cases hv
      have g0 := hat j hj
      rw [e, Go.Deep.add_add, Array.getElem?_toList] at g0
      rw [g0]
      exact hv
    refine ⟨some a, cap, l, by rw [hcs, hll], fun i d hd => ?_, by omega, hm⟩
    obtain ⟨LA, lc, q0, q1, q2, q3, q4⟩ := hq i d hd
    obtain ⟨b, off, sp⟩ := a
    have hs : sp = none := by
      have h0 : 0 < l.length := by
        rcases Nat.eq_zero_or_pos l.length with h | h
        · rw [List.eq_nil_of_length_eq_zero h] at hd; simp at hd
        · exact h
      obtain ⟨_, _, e0, _⟩ := hq 0 _ (List.getElem?_eq_getElem h0)
      simpa [Addr.add] using World.cell?_spot (e0 0 _ rfl)
    subst hs
    refine ⟨b, off, LA, lc, rfl, fun j v hv => ?_, q1, q2, q3, q4⟩
    have := q0 j v hv
    rw [add_plain, ← Nat.add_assoc] at this
    exact this
end
end Go.Proofs.YtiandhfpdehicaaDoor
