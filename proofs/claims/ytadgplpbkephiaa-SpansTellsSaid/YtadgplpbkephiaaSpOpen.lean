/- What comes in: slices of numbers, intervals, an array of five bytes. -/
import Derived.Test.YtadgplpbkephiaaRows
import Derived.Test.YtadgplpbkephiaaBase
import Derived.Test.YtadgplpbkephiaaApp
import Derived.Test.YtadgplpbkephiaaSpDef
import Derived.Deep.Slices
import Derived.Deep.Fields
import Derived.ProofKit
import Derived.OpenShut
import Derived.ChangeOld
import Derived.Below
import Derived.Carry
import Derived.ChangeSlices
import Derived.Lib.SmallJoins
namespace Go.Proofs.Ytadgplpbkephiaa
open Go.ChangeShapes Go.WideShapes Go.ChangeAt Go.RowKit Go.Deep
set_option linter.unusedVariables false

theorem laidOut : laidOutB Try.prog = true := by kernel_rfl
/-- What is known of a slice that came in: its numbers. -/
theorem row_of {H : Type} {enc : TypeId × Value → H} {W : World} {held : Bool} {t e : TypeId} {k : IntKind} {a : Option Addr} {len cap : Nat} {x : DataW H × List MemPlace} {fuel : Nat}
    (ht : Try.prog.underlying t = some (.slice e)) (he : Try.prog.underlying e = some (.int k)) (hc : Try.prog.cellsOf e = 1) (h : DataW.trod enc Try.prog W 0 (fun _ => true) held fuel t [.slice a len cap] = some x) :
    ∃ zs : List Int, zs.length = len ∧ len ≤ cap ∧ cap ≤ maxLen ∧ (a = none → cap = 0) ∧ Lies W a (zs.map (Value.int k)) ∧ ∀ n ∈ zs, (Lit.int k n).wf = true := by
  rcases open_ints ht he hc h with ⟨hcs, _⟩ | ⟨y, l, c, zs, hcs, _, hl, hm, hz, _, hcell, hwz⟩
  · simp at hcs
    obtain ⟨rfl, rfl, rfl⟩ := hcs
    exact ⟨[], rfl, Nat.le_refl _, Nat.zero_le _, fun _ => rfl, fun i u hu => by simp at hu, fun n hn => by cases hn⟩
  · simp at hcs
    obtain ⟨rfl, rfl, rfl⟩ := hcs
    have hz' : zs.length = cap := by simpa using hz
    refine ⟨zs.take len, by rw [List.length_take]; omega, hl, hm, (fun h => by cases h), fun i u hu => ⟨y, rfl, ?_⟩, fun n hn => hwz n (List.mem_of_mem_take hn)⟩
    rw [List.getElem?_map, List.getElem?_take] at hu
    by_cases hi : i < len
    · rw [if_pos hi, List.getElem?_eq_getElem (by omega)] at hu
      have := hcell i (by omega)
      simp only [Option.map_some, Option.some.injEq] at hu
      subst hu
      rw [this, List.getD_eq_getElem?_getD, List.getElem?_eq_getElem (by omega)]
      rfl
    · rw [if_neg hi] at hu
      cases hu
theorem row_in {H : Type} {enc : TypeId × Value → H} {W : World} {held : Bool} {t e : TypeId} {k : IntKind} {a : Option Addr} {len cap : Nat} {d : DataW H} {p : List MemPlace}
    (ht : Try.prog.underlying t = some (.slice e)) (he : Try.prog.underlying e = some (.int k)) (hc : Try.prog.cellsOf e = 1) (h : DataW.Trod enc Try.prog W 0 (fun _ => true) held t (.slice a len cap) d p) :
    ∃ zs : List Int, zs.length = len ∧ len ≤ cap ∧ cap ≤ maxLen ∧ (a = none → cap = 0) ∧ Lies W a (zs.map (Value.int k)) ∧ ∀ n ∈ zs, (Lit.int k n).wf = true := by
  obtain ⟨fuel, hf⟩ := h
  exact row_of ht he hc hf
theorem list_of {α : Type} (Q : Nat → α → Prop) : ∀ n : Nat, (∀ i, i < n → ∃ x, Q i x) → ∃ l : List α, l.length = n ∧ ∀ i x, l[i]? = some x → Q i x
  | 0, _ => ⟨[], rfl, fun i x h => by simp at h⟩
  | n + 1, h => by
    obtain ⟨l, hl, hq⟩ := list_of Q n fun i hi => h i (by omega)
    obtain ⟨x, hx⟩ := h n (by omega)
    refine ⟨l ++ [x], by simp [hl], fun i y hy => ?_⟩
    rw [List.getElem?_append] at hy
    split at hy
    · exact hq i y hy
    · have : i - l.length = 0 := by
        rcases Nat.eq_zero_or_pos (i - l.length) with h0 | h0
        · exact h0
        · rw [List.getElem?_eq_none (by simp; omega)] at hy; cases hy
      rw [this] at hy
      cases hy
      obtain rfl : i = n := by omega
      exact hx
section
variable {H : Type} {enc : TypeId × Value → H} {W : World} {held : Bool}
theorem i64_open {t : TypeId} (ht : Try.prog.underlying t = some (.int .i64)) {fuel : Nat} {cs : List Value} {x : DataW H × List MemPlace} (h : DataW.trod enc Try.prog W 0 (fun _ => true) held fuel t cs = some x) : ∃ n, cs = [.int .i64 n] := by
  obtain ⟨n, e, _, _⟩ := DataW.trod_int ht h
  exact ⟨n, e⟩
theorem span_open {fuel : Nat} {cs : List Value} {x : DataW H × List MemPlace} (h : DataW.trod enc Try.prog W 0 (fun _ => true) held fuel 43 cs = some x) : ∃ p : Sp, cs = [.int .i64 p.1, .int .i64 p.2] := by
  have hu : Try.prog.underlying 43 = some (.array 2 2) := by kernel_rfl
  obtain ⟨xs, m, _, _, hlen, hn, hel⟩ := DataW.trod_array hu h
  have hc : Try.prog.cellsOf 2 = 1 := by kernel_rfl
  have hct : Try.prog.cellsOf 43 = 2 := by kernel_rfl
  rw [hct] at hlen
  match cs, hlen with
  | [u0, u1], _ =>
    have h0 := hel 0 (by omega)
    have h1 := hel 1 (by omega)
    rw [hc] at h0 h1
    simp only [Nat.zero_mul, Nat.one_mul, List.drop_zero, List.drop_succ_cons, List.take_succ_cons, List.take_zero] at h0 h1
    rw [List.getElem?_eq_getElem (by omega)] at h0 h1
    obtain ⟨a, e0⟩ := i64_open Try.underlying2 h0
    obtain ⟨b, e1⟩ := i64_open Try.underlying2 h1
    simp at e0 e1
    subst e0 e1
    exact ⟨(a, b), rfl⟩
theorem spans_open {t : TypeId} (ht : t = 22) {fuel : Nat} {v : Value} {x : DataW H × List MemPlace} (h : DataW.trod enc Try.prog W 0 (fun _ => true) held fuel t [v] = some x) :
    ∃ A n c S, v = .slice A n c ∧ Sl W A n c S := by
  subst ht
  rcases open_slice Try.underlying22 h with ⟨hcs, _⟩ | ⟨a, len, cap, m, n, D, Pl, hcs, _, hl, hm, hmm, _, hi⟩
  · simp at hcs
    exact ⟨none, 0, 0, [], hcs, sl_nil W⟩
  · simp at hcs
    have h2 : Try.prog.cellsOf 43 = 2 := by kernel_rfl
    rw [h2] at hi
    have key : ∀ i, i < cap → ∃ p : Sp, W.cell? (a.add (i * 2)) = some (.int .i64 p.1) ∧ W.cell? (a.add (i * 2 + 1)) = some (.int .i64 p.2) := fun i hic => by
      obtain ⟨cs', hc, ht'⟩ := hi i (by rw [hmm]; simpa using hic)
      obtain ⟨p, e⟩ := span_open ht'
      obtain ⟨_, _, hat⟩ := World.cells?_some hc
      have g0 := hat 0 (by omega)
      have g1 := hat 1 (by omega)
      rw [e, Go.Deep.add_add] at g0 g1
      exact ⟨p, g0, g1⟩
    obtain ⟨S, hS, hq⟩ := list_of (fun i (p : Sp) => W.cell? (a.add (i * 2)) = some (.int .i64 p.1) ∧ W.cell? (a.add (i * 2 + 1)) = some (.int .i64 p.2)) len fun i hil => key i (by omega)
    refine ⟨some a, len, cap, S, hcs, hS, fun j u hu => ⟨a, rfl, ?_⟩, (fun e => by cases e), hl, hm, fun h0 => ?_⟩
    · have hj : j < S.length * 2 := by
        rw [← icells_len]
        rcases Nat.lt_or_ge j (icells S).length with h3 | h3
        · exact h3
        · rw [List.getElem?_eq_none h3] at hu; cases hu
      have hi2 : j / 2 < S.length := by omega
      obtain ⟨g1, g2⟩ := icells_get S (j / 2) hi2
      obtain ⟨q1, q2⟩ := hq (j / 2) (sp S (j / 2)) (by rw [sp_lt hi2, List.getElem?_eq_getElem hi2])
      rcases (by omega : j = j / 2 * 2 ∨ j = j / 2 * 2 + 1) with e | e
      · rw [e, g1] at hu
        rw [e, q1]; exact hu
      · rw [e, g2] at hu
        rw [e, q2]; exact hu
    · obtain ⟨p, g0, -⟩ := key 0 h0
      obtain ⟨b, off, s⟩ := a
      have hs : s = none := by simpa [Addr.add] using World.cell?_spot g0
      subst hs
      exact ⟨b, off, rfl⟩
end
theorem spans_in {H : Type} {enc : TypeId × Value → H} {W : World} {held : Bool} {b0 : Nat} {v : Value} {d : DataW H} {p : List MemPlace}
    (hval : Value.okWide Try.prog W .any b0 24 v) (h : DataW.Trod enc Try.prog W 0 (fun _ => true) held 24 v d p) : ∃ A n c S, v = .agg #[.slice A n c] ∧ Sl W A n c S := by
  simp only [Value.okWide, Try.underlying24] at hval
  obtain ⟨cs, rfl, hsz, -⟩ := hval
  obtain ⟨fuel, hf⟩ := h
  have hf' : DataW.trod enc Try.prog W 0 (fun _ => true) held fuel 24 cs.toList = some (d, p) := hf
  obtain ⟨ys, n, _, _, hlen, hyl, hg⟩ := DataW.trod_struct Try.underlying24 hf'
  have hC : Try.prog.cellsOf 24 = 1 := by kernel_rfl
  rw [hC] at hlen
  obtain ⟨ls⟩ := cs
  match ls, hlen with
  | [u0], _ =>
    have c1 : Try.prog.cellsOf 22 = 1 := by kernel_rfl
    have h0 : DataW.trod enc Try.prog W 0 (fun _ => true) held n 22 ((([u0] : List Value).drop 0).take (Try.prog.cellsOf 22)) = ys[0]? := hg 0 _ rfl
    rw [c1] at h0
    simp only [List.drop_zero, List.take_succ_cons, List.take_zero] at h0
    have hy : ys.length = 1 := hyl
    rw [List.getElem?_eq_getElem (by omega)] at h0
    obtain ⟨A, n', c, S, rfl, hS⟩ := spans_open rfl h0
    exact ⟨A, n', c, S, rfl, hS⟩
theorem arr5_open {H : Type} {enc : TypeId × Value → H} {W : World} {held : Bool} {b0 : Nat} {t e : TypeId} {v : Value} {d : DataW H} {p : List MemPlace}
    (ht : Try.prog.underlying t = some (.array 5 e)) (he : Try.prog.underlying e = some (.int .u8)) (hc : Try.prog.cellsOf e = 1) (hct : Try.prog.cellsOf t = 5)
    (hval : Value.okWide Try.prog W .any b0 t v) (h : DataW.Trod enc Try.prog W 0 (fun _ => true) held t v d p) :
    ∃ a b c d e : Nat, (a ≤ 255 ∧ b ≤ 255 ∧ c ≤ 255 ∧ d ≤ 255 ∧ e ≤ 255) ∧ v = .agg #[.int .u8 a, .int .u8 b, .int .u8 c, .int .u8 d, .int .u8 e] := by
  simp only [Value.okWide, ht] at hval
  obtain ⟨cs, rfl, hsz, _⟩ := hval
  obtain ⟨fuel, hf⟩ := h
  have hf' : DataW.trod enc Try.prog W 0 (fun _ => true) held fuel t cs.toList = some (d, p) := hf
  obtain ⟨xs, m, _, _, hlen, hn, hel⟩ := DataW.trod_array ht hf'
  rw [hct] at hsz
  have el : ∀ i, i < 5 → ∃ n : Nat, n ≤ 255 ∧ cs.toList[i]? = some (.int .u8 (n : Int)) := by
    intro i hi
    have hk := hel i hi
    rw [hc, Nat.mul_one, List.getElem?_eq_getElem (by omega)] at hk
    obtain ⟨n, e1, e2, hw⟩ := DataW.trod_int he hk
    have hb := bounds_u8 hw
    have e4 : (cs.toList.drop i)[0]? = some (.int .u8 n) := by
      have : ((cs.toList.drop i).take 1)[0]? = some (.int .u8 n) := by rw [e1]; rfl
      rwa [List.getElem?_take_of_lt (by omega)] at this
    rw [List.getElem?_drop, Nat.add_zero] at e4
    refine ⟨n.toNat, by omega, ?_⟩
    rw [e4, show (n.toNat : Int) = n by omega]
  obtain ⟨n0, b0, h0⟩ := el 0 (by omega)
  obtain ⟨n1, b1, h1⟩ := el 1 (by omega)
  obtain ⟨n2, b2, h2⟩ := el 2 (by omega)
  obtain ⟨n3, b3, h3⟩ := el 3 (by omega)
  obtain ⟨n4, b4, h4⟩ := el 4 (by omega)
  refine ⟨n0, n1, n2, n3, n4, ⟨b0, b1, b2, b3, b4⟩, ?_⟩
  congr 1
  apply Array.toList_inj.1
  apply List.ext_getElem?
  intro i
  match i with
  | 0 => rw [h0]; rfl
  | 1 => rw [h1]; rfl
  | 2 => rw [h2]; rfl
  | 3 => rw [h3]; rfl
  | 4 => rw [h4]; rfl
  | j + 5 => rw [List.getElem?_eq_none (by simp; omega), List.getElem?_eq_none (by simp)]
end Go.Proofs.Ytadgplpbkephiaa
