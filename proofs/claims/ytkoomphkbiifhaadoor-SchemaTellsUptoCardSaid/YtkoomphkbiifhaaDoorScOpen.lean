/- How the statements' struct of kinds is opened for the walks: its kinds in memory, its bool, its row of bytes. -/
import Derived.Test.YtkoomphkbiifhaaDoorScRow
import Derived.Test.YtkoomphkbiifhaaDoorScBase
import Derived.Deep.Slices
import Derived.Deep.Fields
import Derived.Lib.SmallJoins
namespace Go.Proofs.YtkoomphkbiifhaaDoor
open Go.ChangeShapes Go.WideShapes Go.ChangeAt Go.RowKit Go.Deep
set_option linter.unusedVariables false
set_option maxRecDepth 1000000

theorem list_of {α : Type} (Q : Nat → α → Prop) : ∀ n : Nat, (∀ i, i < n → ∃ x, Q i x) → ∃ l : List α, l.length = n ∧ ∀ i x, l[i]? = some x → Q i x
  | 0, _ => ⟨[], rfl, fun i x h => by simp at h⟩
  | n + 1, h => by
    obtain ⟨l, hl, hq⟩ := list_of Q n fun i hi => h i (by omega)
    obtain ⟨x, hx⟩ := h n (by omega)
    refine ⟨l ++ [x], by simp [hl], fun i y hy => ?_⟩
    rw [List.getElem?_append] at hy
    split at hy
    · exact hq i y hy
    · have : i - l.length = 0 := by
        rcases Nat.eq_zero_or_pos (i - l.length) with h0 | h0
        · exact h0
        · rw [List.getElem?_eq_none (by simp; omega)] at hy; cases hy
      rw [this] at hy
      cases hy
      obtain rfl : i = n := by omega
      exact hx
section
variable {H : Type} {enc : TypeId × Value → H} {W : World} {held : Bool}
/-- Texts that came in. -/
theorem strs_open {fuel : Nat} {v : Value} {x : DataW H × List MemPlace} (h : DataW.trod enc Tryd.prog W 0 (fun _ => true) held fuel 38 [v] = some x) :
    ∃ A c l, v = .slice A (List.length l) c ∧ Strs W A c l ∧ ∀ f ∈ l, f.length ≤ maxLen := by
  rcases open_slice Tryd.underlying38 h with ⟨hcs, _⟩ | ⟨a, len, cap, m, n, D, Pl, hcs, _, hl, hm, hmm, _, hi⟩
  · simp at hcs
    exact ⟨none, 0, [], hcs, Strs.nil W, fun f hf => by cases hf⟩
  · simp at hcs
    obtain ⟨l, hll, hq⟩ := list_of (fun i s => W.cell? (a.add i) = some (.string (str s)) ∧ s.length ≤ maxLen) len fun i hil => by
      obtain ⟨cs', hc, ht'⟩ := hi i (by rw [hmm]; simp; omega)
      have h1 : Tryd.prog.cellsOf 9 = 1 := by kernel_rfl
      rw [h1, Nat.mul_one] at hc
      obtain ⟨s, e, _, hs⟩ := DataW.trod_string Tryd.underlying9 ht'
      obtain ⟨_, _, hat⟩ := World.cells?_some hc
      have h2 := hat 0 (by omega)
      rw [e, Go.Deep.add_add, Nat.add_zero] at h2
      refine ⟨s.data.toList, by rw [str_of]; simpa using h2, ?_⟩
      rw [← Lib.size_eq]; exact hs
    refine ⟨some a, cap, l, by rw [hcs, hll], ⟨fun i u hu => ⟨a, rfl, ?_⟩, (fun h => by cases h), by omega, hm⟩, fun f hf => ?_⟩
    · rw [List.getElem?_map] at hu
      obtain ⟨s, hs, rfl⟩ := Option.map_eq_some_iff.1 hu
      exact (hq i s hs).1
    · obtain ⟨i, hi, rfl⟩ := List.getElem_of_mem hf
      exact (hq i _ (List.getElem?_eq_getElem hi)).2
/-- A kind that came in, by its two cells. -/
theorem kind_open {fuel : Nat} {cs : List Value} {x : DataW H × List MemPlace} (h : DataW.trod enc Tryd.prog W 0 (fun _ => true) held fuel 40 cs = some x) :
    ∃ (k : Kd) (B : Option Addr) (d : Nat), cs = [.string (str k.1), .slice B k.2.length d] ∧ Strs W B d k.2 ∧ k.1.length ≤ maxLen ∧ ∀ f ∈ k.2, f.length ≤ maxLen := by
  obtain ⟨ys, n, _, _, hlen, hyl, hf⟩ := DataW.trod_struct Tryd.underlying40 h
  have hC : Tryd.prog.cellsOf 40 = 2 := by kernel_rfl
  rw [hC] at hlen
  match cs, hlen with
  | [u, v], _ =>
    have h0 : DataW.trod enc Tryd.prog W 0 (fun _ => true) held n 9 ((([u, v] : List Value).drop 0).take (Tryd.prog.cellsOf 9)) = ys[0]? := hf 0 _ rfl
    have h1 : DataW.trod enc Tryd.prog W 0 (fun _ => true) held n 38 ((([u, v] : List Value).drop 1).take (Tryd.prog.cellsOf 38)) = ys[1]? := hf 1 _ rfl
    have c9 : Tryd.prog.cellsOf 9 = 1 := by kernel_rfl
    have c38 : Tryd.prog.cellsOf 38 = 1 := by kernel_rfl
    rw [c9] at h0
    rw [c38] at h1
    simp only [List.drop_zero, List.take_succ_cons, List.take_zero, List.drop_succ_cons] at h0 h1
    have hy : ys.length = 2 := hyl
    rw [List.getElem?_eq_getElem (by omega)] at h0 h1
    obtain ⟨s, e0, _, hs⟩ := DataW.trod_string Tryd.underlying9 h0
    obtain ⟨A, c, l, e1, hst, hll⟩ := strs_open h1
    simp at e0
    refine ⟨(s.data.toList, l), A, c, by rw [e0, e1, str_of], hst, ?_, hll⟩
    rw [← Lib.size_eq]; exact hs
theorem kinds_open {fuel : Nat} {v : Value} {x : DataW H × List MemPlace} (h : DataW.trod enc Tryd.prog W 0 (fun _ => true) held fuel 22 [v] = some x) :
    ∃ A c ks, v = .slice A (List.length ks) c ∧ Kinds W A c ks ∧ ∀ k ∈ ks, k.1.length ≤ maxLen ∧ ∀ f ∈ k.2, f.length ≤ maxLen := by
  rcases open_slice Tryd.underlying22 h with ⟨hcs, _⟩ | ⟨a, len, cap, m, n, D, Pl, hcs, _, hl, hm, hmm, _, hi⟩
  · simp at hcs
    exact ⟨none, 0, [], hcs, Kinds.nil W, fun f hf => by cases hf⟩
  · simp at hcs
    have h2 : Tryd.prog.cellsOf 40 = 2 := by kernel_rfl
    rw [h2] at hi
    obtain ⟨l, hll, hq⟩ := list_of (fun i (k : Kd) => (∃ B d, W.cell? (a.add (i * 2)) = some (.string (str k.1)) ∧ W.cell? (a.add (i * 2 + 1)) = some (.slice B k.2.length d) ∧ Strs W B d k.2) ∧ k.1.length ≤ maxLen ∧ ∀ f ∈ k.2, f.length ≤ maxLen) len fun i hil => by
      obtain ⟨cs', hc, ht'⟩ := hi i (by rw [hmm]; simp; omega)
      obtain ⟨k, B, d, e, hst, hb⟩ := kind_open ht'
      obtain ⟨_, _, hat⟩ := World.cells?_some hc
      have g0 := hat 0 (by omega)
      have g1 := hat 1 (by omega)
      rw [e, Go.Deep.add_add] at g0 g1
      exact ⟨k, ⟨B, d, by simpa using g0, by simpa using g1, hst⟩, hb⟩
    refine ⟨some a, cap, l, by rw [hcs, hll], ⟨fun i k hk => ?_, (fun h => by cases h), by omega, hm⟩, fun k hk => ?_⟩
    · obtain ⟨⟨B, d, g0, g1, hst⟩, _⟩ := hq i k hk
      obtain ⟨b, off, sp⟩ := a
      have hs : sp = none := by
        have h0 : 0 < l.length := by
          rcases Nat.eq_zero_or_pos l.length with h | h
          · rw [List.eq_nil_of_length_eq_zero h] at hk; simp at hk
          · exact h
        obtain ⟨⟨_, _, e0, _⟩, _⟩ := hq 0 _ (List.getElem?_eq_getElem h0)
        simpa [Addr.add] using World.cell?_spot e0
      subst hs
      rw [add_plain] at g0 g1
      exact ⟨b, off, B, d, rfl, g0, by rw [Nat.add_assoc]; exact g1, hst⟩
    · obtain ⟨i, hi, rfl⟩ := List.getElem_of_mem hk
      exact (hq i _ (List.getElem?_eq_getElem hi)).2
/-- The statements' struct of kinds. -/
theorem some_open {r : Reach} {b0 : Nat} {v : Value} {d : DataW H} {p : List MemPlace} (hv : Value.okWide Tryd.prog W r b0 25 v) (h : DataW.Trod enc Tryd.prog W 0 (fun _ => true) held 25 v d p) :
    ∃ A c ks o a len cap zs, v = .agg #[.slice A (List.length ks) c, .bool o, .slice a len cap] ∧ Kinds W A c ks ∧ (∀ k ∈ ks, k.1.length ≤ maxLen ∧ ∀ f ∈ k.2, f.length ≤ maxLen) ∧ IsRow .u8 W a len cap zs ∧ ∀ z ∈ zs, 0 ≤ z ∧ z ≤ 255 := by
  obtain ⟨v0, v1, v2, y0, y1, y2, n, rfl, _, _, h0, h1, h2⟩ := Go.Joins.open_agg3 Tryd.underlying25 (by kernel_rfl) (by kernel_rfl) hv h
  obtain ⟨A, c, ks, rfl, hK, hb⟩ := kinds_open h0
  obtain ⟨o, e1, _⟩ := DataW.trod_bool Tryd.underlying4 h1
  simp at e1
  subst e1
  rcases DataW.trod_slice Tryd.underlying23 h2 with ⟨e2, _⟩ | ⟨a, len, cap, _, _, _, _, e2, _⟩
  · simp at e2
    subst e2
    exact ⟨A, c, ks, o, none, 0, 0, [], rfl, hK, hb, ⟨Nat.le_refl _, rfl, Nat.zero_le _, fun i hi => absurd hi (by simp)⟩, fun z hz => by cases hz⟩
  · simp at e2
    subst e2
    obtain ⟨zs, hr, hw⟩ := row_open (t := 23) Tryd.underlying23 Tryd.underlying5 (by kernel_rfl) (d := y2.1) (p := y2.2) ⟨n, by simpa [Value.cells] using h2⟩
    exact ⟨A, c, ks, o, some a, len, cap, zs, rfl, hK, hb, hr, fun z hz => by simpa [Lit.wf, IntKind.min, IntKind.max, IntKind.signed, IntKind.bits] using hw z hz⟩
end
end Go.Proofs.YtkoomphkbiifhaaDoor
