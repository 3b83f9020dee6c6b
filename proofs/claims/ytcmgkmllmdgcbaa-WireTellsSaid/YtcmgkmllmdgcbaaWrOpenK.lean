/- How a slice of kinds that comes in is opened for the walks of layer 5. -/
import Derived.Test.YtcmgkmllmdgcbaaWrOpen
import Derived.Test.YtcmgkmllmdgcbaaScBase
import Derived.Deep.Slices
import Derived.Deep.Fields
import Derived.Lib.SmallJoins
namespace Go.Proofs.Ytcmgkmllmdgcbaa
open Go.ChangeShapes Go.WideShapes Go.ChangeAt Go.RowKit Go.Deep
set_option linter.unusedVariables false
set_option maxRecDepth 1000000

theorem list_of {α : Type} (Q : Nat → α → Prop) : ∀ n : Nat, (∀ i, i < n → ∃ x, Q i x) → ∃ l : List α, l.length = n ∧ ∀ i x, l[i]? = some x → Q i x
  | 0, _ => ⟨[], rfl, fun i x h => by simp at h⟩
  | n + 1, h => by
    obtain ⟨l, hl, hq⟩ := list_of Q n fun i hi => h i (by omega)
    obtain ⟨x, hx⟩ := h n (by omega)
    refine ⟨l ++ [x], by simp [hl], fun i y hy => ?_⟩
    rw [List.getElem?_append] at hy
    split at hy
    · exact hq i y hy
    · have : i - l.length = 0 := by
        rcases Nat.eq_zero_or_pos (i - l.length) with h0 | h0
        · exact h0
        · rw [List.getElem?_eq_none (by simp; omega)] at hy; cases hy
      rw [this] at hy
      cases hy
      obtain rfl : i = n := by omega
      exact hx
section
variable {H : Type} {enc : TypeId × Value → H} {W : World} {held : Bool}
/-- Texts that came in. -/
theorem strs_open {fuel : Nat} {v : Value} {x : DataW H × List MemPlace} (h : DataW.trod enc Try.prog W 0 (fun _ => true) held fuel 61 [v] = some x) :
    ∃ A c l, v = .slice A (List.length l) c ∧ Strs W A c l ∧ ∀ f ∈ l, f.length ≤ maxLen := by
  rcases open_slice Try.underlying61 h with ⟨hcs, _⟩ | ⟨a, len, cap, m, n, D, Pl, hcs, _, hl, hm, hmm, _, hi⟩
  · simp at hcs
    exact ⟨none, 0, [], hcs, Strs.nil W, fun f hf => by cases hf⟩
  · simp at hcs
    obtain ⟨l, hll, hq⟩ := list_of (fun i s => W.cell? (a.add i) = some (.string (str s)) ∧ s.length ≤ maxLen) len fun i hil => by
      obtain ⟨cs', hc, ht'⟩ := hi i (by rw [hmm]; simp; omega)
      have h1 : Try.prog.cellsOf 9 = 1 := by kernel_rfl
      rw [h1, Nat.mul_one] at hc
      obtain ⟨s, e, _, hs⟩ := DataW.trod_string Try.underlying9 ht'
      obtain ⟨_, _, hat⟩ := World.cells?_some hc
      have h2 := hat 0 (by omega)
      rw [e, Go.Deep.add_add, Nat.add_zero] at h2
      refine ⟨s.data.toList, by rw [str_of]; simpa using h2, ?_⟩
      rw [← Lib.size_eq]; exact hs
    refine ⟨some a, cap, l, by rw [hcs, hll], ⟨fun i u hu => ⟨a, rfl, ?_⟩, (fun h => by cases h), by omega, hm⟩, fun f hf => ?_⟩
    · rw [List.getElem?_map] at hu
      obtain ⟨s, hs, rfl⟩ := Option.map_eq_some_iff.1 hu
      exact (hq i s hs).1
    · obtain ⟨i, hi, rfl⟩ := List.getElem_of_mem hf
      exact (hq i _ (List.getElem?_eq_getElem hi)).2
/-- A kind that came in, by its two cells. -/
theorem kind_open {fuel : Nat} {cs : List Value} {x : DataW H × List MemPlace} (h : DataW.trod enc Try.prog W 0 (fun _ => true) held fuel 63 cs = some x) :
    ∃ (k : Kd) (B : Option Addr) (d : Nat), cs = [.string (str k.1), .slice B k.2.length d] ∧ Strs W B d k.2 ∧ k.1.length ≤ maxLen ∧ ∀ f ∈ k.2, f.length ≤ maxLen := by
  obtain ⟨ys, n, _, _, hlen, hyl, hf⟩ := DataW.trod_struct Try.underlying63 h
  have hC : Try.prog.cellsOf 63 = 2 := by kernel_rfl
  rw [hC] at hlen
  match cs, hlen with
  | [u, v], _ =>
    have h0 : DataW.trod enc Try.prog W 0 (fun _ => true) held n 9 ((([u, v] : List Value).drop 0).take (Try.prog.cellsOf 9)) = ys[0]? := hf 0 _ rfl
    have h1 : DataW.trod enc Try.prog W 0 (fun _ => true) held n 61 ((([u, v] : List Value).drop 1).take (Try.prog.cellsOf 61)) = ys[1]? := hf 1 _ rfl
    have c9 : Try.prog.cellsOf 9 = 1 := by kernel_rfl
    have c38 : Try.prog.cellsOf 61 = 1 := by kernel_rfl
    rw [c9] at h0
    rw [c38] at h1
    simp only [List.drop_zero, List.take_succ_cons, List.take_zero, List.drop_succ_cons] at h0 h1
    have hy : ys.length = 2 := hyl
    rw [List.getElem?_eq_getElem (by omega)] at h0 h1
    obtain ⟨s, e0, _, hs⟩ := DataW.trod_string Try.underlying9 h0
    obtain ⟨A, c, l, e1, hst, hll⟩ := strs_open h1
    simp at e0
    refine ⟨(s.data.toList, l), A, c, by rw [e0, e1, str_of], hst, ?_, hll⟩
    rw [← Lib.size_eq]; exact hs
theorem kinds_open {fuel : Nat} {v : Value} {x : DataW H × List MemPlace} (h : DataW.trod enc Try.prog W 0 (fun _ => true) held fuel 26 [v] = some x) :
    ∃ A c ks, v = .slice A (List.length ks) c ∧ Kinds W A c ks ∧ ∀ k ∈ ks, k.1.length ≤ maxLen ∧ ∀ f ∈ k.2, f.length ≤ maxLen := by
  rcases open_slice Try.underlying26 h with ⟨hcs, _⟩ | ⟨a, len, cap, m, n, D, Pl, hcs, _, hl, hm, hmm, _, hi⟩
  · simp at hcs
    exact ⟨none, 0, [], hcs, Kinds.nil W, fun f hf => by cases hf⟩
  · simp at hcs
    have h2 : Try.prog.cellsOf 63 = 2 := by kernel_rfl
    rw [h2] at hi
    obtain ⟨l, hll, hq⟩ := list_of (fun i (k : Kd) => (∃ B d, W.cell? (a.add (i * 2)) = some (.string (str k.1)) ∧ W.cell? (a.add (i * 2 + 1)) = some (.slice B k.2.length d) ∧ Strs W B d k.2) ∧ k.1.length ≤ maxLen ∧ ∀ f ∈ k.2, f.length ≤ maxLen) len fun i hil => by
      obtain ⟨cs', hc, ht'⟩ := hi i (by rw [hmm]; simp; omega)
      obtain ⟨k, B, d, e, hst, hb⟩ := kind_open ht'
      obtain ⟨_, _, hat⟩ := World.cells?_some hc
      have g0 := hat 0 (by omega)
      have g1 := hat 1 (by omega)
      rw [e, Go.Deep.add_add] at g0 g1
      exact ⟨k, ⟨B, d, by simpa using g0, by simpa using g1, hst⟩, hb⟩
    refine ⟨some a, cap, l, by rw [hcs, hll], ⟨fun i k hk => ?_, (fun h => by cases h), by omega, hm⟩, fun k hk => ?_⟩
    · obtain ⟨⟨B, d, g0, g1, hst⟩, _⟩ := hq i k hk
      obtain ⟨b, off, sp⟩ := a
      have hs : sp = none := by
        have h0 : 0 < l.length := by
          rcases Nat.eq_zero_or_pos l.length with h | h
          · rw [List.eq_nil_of_length_eq_zero h] at hk; simp at hk
          · exact h
        obtain ⟨⟨_, _, e0, _⟩, _⟩ := hq 0 _ (List.getElem?_eq_getElem h0)
        simpa [Addr.add] using World.cell?_spot e0
      subst hs
      rw [add_plain] at g0 g1
      exact ⟨b, off, B, d, rfl, g0, by rw [Nat.add_assoc]; exact g1, hst⟩
    · obtain ⟨i, hi, rfl⟩ := List.getElem_of_mem hk
      exact (hq i _ (List.getElem?_eq_getElem hi)).2
/-- Kinds that came in, and how long the datum is. -/
theorem kinds_in {r : Reach} {b0 : Nat} {v : Value} {d : DataW H} {p : List MemPlace} (hv : Value.okWide Try.prog W r b0 26 v) (h : DataW.Trod enc Try.prog W 0 (fun _ => true) held 26 v d p) :
    ∃ A c ks, v = .slice A (List.length ks) c ∧ Kinds W A c ks ∧ (List.length ks = 0 ∨ ∃ el sp, d = .slice el sp ∧ List.length el = List.length ks) := by
  obtain ⟨a, len, cap, rfl⟩ := okWide_slice Try.underlying26 hv
  obtain ⟨fuel, hf⟩ := h
  obtain ⟨A, c, ks, e, hK, _⟩ := kinds_open (v := .slice a len cap) hf
  refine ⟨A, c, ks, e, hK, ?_⟩
  injection e with e1 e2 e3
  rcases open_slice Try.underlying26 hf with ⟨hcs, _⟩ | ⟨y, len', cap', m, n, D, Pl, hcs, _, _, _, _, hx, _⟩
  · have := (List.cons.inj hcs).1
    injection this with f1 f2 f3
    left
    omega
  · have := (List.cons.inj hcs).1
    injection this with f1 f2 f3
    right
    refine ⟨_, _, (congrArg Prod.fst hx), ?_⟩
    simp
    omega
end
end Go.Proofs.Ytcmgkmllmdgcbaa
