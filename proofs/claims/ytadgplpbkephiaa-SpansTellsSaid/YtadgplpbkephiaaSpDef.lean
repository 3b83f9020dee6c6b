/- Intervals in memory: a slice of them that lies there, and one of the call's own. -/
import Derived.Test.YtadgplpbkephiaaSpMath
import Derived.Test.YtadgplpbkephiaaBase
import Derived.Test.YtadgplpbkephiaaAppStep
import Derived.Maps.AppendAt
import Derived.Laws.OwnMore
import Derived.Laws.StructEq
import Derived.OwnWalk
import Derived.Deep.RegionLaw
import Derived.Deep.QuietTactic
import Derived.Deep.DeepCutAuto
import Derived.BigQuiet
import Derived.BigRegion
import Derived.Lib.MinMax
import Derived.WalkSmall
namespace Go.Proofs.Ytadgplpbkephiaa
open Go.RowKit
set_option linter.unusedVariables false

/-- The cells of intervals. -/
def icells (l : List Sp) : List Value := l.flatMap fun h => [.int .i64 h.1, .int .i64 h.2]
theorem icells_cons (b : Sp) (r : List Sp) : icells (b :: r) = .int .i64 b.1 :: .int .i64 b.2 :: icells r := rfl
theorem icells_len (l : List Sp) : (icells l).length = l.length * 2 := by
  induction l with
  | nil => rfl
  | cons b r ih => rw [icells_cons]; simp [ih]; omega
theorem icells_append (l r : List Sp) : icells (l ++ r) = icells l ++ icells r := by simp [icells]
theorem icells_get (l : List Sp) (i : Nat) (hi : i < l.length) : (icells l)[i * 2]? = some (.int .i64 (sp l i).1) ∧ (icells l)[i * 2 + 1]? = some (.int .i64 (sp l i).2) := by
  induction l generalizing i with
  | nil => simp at hi
  | cons b r ih =>
    cases i with
    | zero => exact ⟨rfl, rfl⟩
    | succ i =>
      have h1 := ih i (by simpa using hi)
      rw [icells_cons, sp_cons, show (i + 1) * 2 = i * 2 + 1 + 1 by omega, List.getElem?_cons_succ, List.getElem?_cons_succ, List.getElem?_cons_succ, List.getElem?_cons_succ]
      exact h1
theorem icells_take (l : List Sp) (n : Nat) : icells (l.take n) = (icells l).take (n * 2) := by
  induction l generalizing n with
  | nil => simp [icells]
  | cons b r ih =>
    cases n with
    | zero => simp [icells]
    | succ n => rw [List.take_succ_cons, icells_cons, ih, icells_cons, show (n + 1) * 2 = n * 2 + 1 + 1 by omega, List.take_succ_cons, List.take_succ_cons]
theorem icells_drop (l : List Sp) (n : Nat) : icells (l.drop n) = (icells l).drop (n * 2) := by
  induction l generalizing n with
  | nil => simp [icells]
  | cons b r ih =>
    cases n with
    | zero => simp
    | succ n => rw [List.drop_succ_cons, ih, icells_cons, show (n + 1) * 2 = n * 2 + 1 + 1 by omega, List.drop_succ_cons, List.drop_succ_cons]
theorem icells_one (l : List Sp) : ∀ u ∈ icells l, u.oneCell' = true := by
  intro u hu
  simp only [icells, List.mem_flatMap] at hu
  obtain ⟨b, _, hb⟩ := hu
  simp at hb
  rcases hb with rfl | rfl <;> rfl
/-- A slice of intervals: what lies in it. -/
structure Sl (w : World) (A : Option Addr) (n c : Nat) (S : List Sp) : Prop where
  len : S.length = n
  lies : Lies w A (icells S)
  nil : A = none → c = 0
  le : n ≤ c
  max : c ≤ maxLen
  shp : 0 < c → ∃ b off, A = some ⟨b, off, none⟩
theorem Sl.below {w w' : World} {A : Option Addr} {n c : Nat} {S : List Sp} (h : Sl w A n c S) (hb : Below w.heap.size w w') : Sl w' A n c S := ⟨h.len, h.lies.below hb, h.nil, h.le, h.max, h.shp⟩
theorem Sl.drew {w : World} {A : Option Addr} {n c : Nat} {S : List Sp} (h : Sl w A n c S) : Sl w.drew A n c S := h.below (Below.refl _ _).drew
theorem Sl.bel {w w0 w' : World} {A : Option Addr} {n c : Nat} {S : List Sp} (h : Sl w A n c S) (hb : Below w0.heap.size w w') (hz : w.heap.size ≤ w0.heap.size) : Sl w' A n c S := h.below (hb.mono hz)
/-- The cells of the one at i. -/
theorem Sl.cel {w : World} {A : Option Addr} {n c : Nat} {S : List Sp} (h : Sl w A n c S) (i : Nat) (hi : i < n) :
    ∃ b off, A = some ⟨b, off, none⟩ ∧ b < w.heap.size ∧ w.cell? ⟨b, off + i * 2, none⟩ = some (.int .i64 (sp S i).1) ∧ w.cell? ⟨b, off + i * 2 + 1, none⟩ = some (.int .i64 (sp S i).2) := by
  obtain ⟨g1, g2⟩ := icells_get S i (by have := h.len; omega)
  obtain ⟨b, off, e, hc⟩ := h.lies.at_ g1
  obtain ⟨b', off', e', hc'⟩ := h.lies.at_ g2
  rw [e] at e'
  cases e'
  exact ⟨b, off, e, World.block_lt_of_cell? _ _ hc, hc, by rw [Nat.add_assoc]; exact hc'⟩
/-- All cells, for one base. -/
theorem Sl.all {w : World} {A : Option Addr} {n c : Nat} {S : List Sp} (h : Sl w A n c S) (hn : 0 < n) :
    ∃ b off, A = some ⟨b, off, none⟩ ∧ b < w.heap.size ∧ ∀ i, i < n → w.cell? ⟨b, off + i * 2, none⟩ = some (.int .i64 (sp S i).1) ∧ w.cell? ⟨b, off + i * 2 + 1, none⟩ = some (.int .i64 (sp S i).2) := by
  obtain ⟨b, off, e, hb, -⟩ := h.cel 0 hn
  refine ⟨b, off, e, hb, fun i hi => ?_⟩
  obtain ⟨b', off', e', -, h1, h2⟩ := h.cel i hi
  rw [e] at e'
  cases e'
  exact ⟨h1, h2⟩
/-- What is cut ahead. -/
theorem Sl.pre {w : World} {A : Option Addr} {n c : Nat} {S : List Sp} (h : Sl w A n c S) (i : Nat) (hi : i ≤ n) : Sl w A i c (S.take i) := by
  have := h.len
  have := h.le
  refine ⟨by rw [List.length_take]; omega, fun j u hu => ?_, h.nil, by omega, h.max, h.shp⟩
  rw [icells_take, List.getElem?_take] at hu
  split at hu
  · exact h.lies j u hu
  · cases hu
/-- What is cut behind. -/
theorem Sl.suf {w : World} {b off n c : Nat} {S : List Sp} (h : Sl w (some ⟨b, off, none⟩) n c S) (i : Nat) (hi : i ≤ n) {ad : Addr} (had : i < c → ad = ⟨b, off + i * 2, none⟩) : Sl w (some ad) (n - i) (c - i) (S.drop i) := by
  have h1 := h.len
  have h2 := h.le
  have h3 := h.max
  refine ⟨by rw [List.length_drop]; omega, fun j u hu => ?_, (fun e => by cases e), by omega, by omega, fun h0 => ⟨b, off + i * 2, by rw [had (by omega)]⟩⟩
  have hj : i < n := by
    rcases Nat.lt_or_ge i n with h4 | h4
    · exact h4
    · rw [List.drop_of_length_le (by omega)] at hu
      simp [icells] at hu
  rw [icells_drop, List.getElem?_drop] at hu
  obtain ⟨x, e, hx⟩ := h.lies _ u hu
  obtain rfl := Option.some.inj e
  refine ⟨ad, rfl, ?_⟩
  rw [had (by omega), Go.WideShapes.add_plain]
  rw [Go.WideShapes.add_plain] at hx
  rw [show off + i * 2 + j = off + (i * 2 + j) by omega]
  exact hx
theorem Sl.empty {w : World} {c : Nat} {n : Nat} {S : List Sp} (h : Sl w none n c S) : S = [] ∧ c = 0 ∧ n = 0 := by
  have h1 := h.nil rfl
  have h2 := h.le
  have h3 := h.len
  exact ⟨List.eq_nil_of_length_eq_zero (by omega), h1, by omega⟩
theorem sl_nil (w : World) : Sl w none 0 0 [] := ⟨rfl, fun i u hu => by simp [icells] at hu, fun _ => rfl, Nat.le_refl _, Nat.zero_le _, fun h => absurd h (Nat.lt_irrefl _)⟩
/-- A slice of intervals of the call's own. -/
def Ow (w : World) (base : Nat) (v : Value) (S : List Sp) : Prop := w.ownsRow base 43 2 v S.length (icells S)
theorem ow_nil (w : World) (base : Nat) : Ow w base (.slice none 0 0) [] := World.ownsRow_nil w base _ 2
theorem Ow.shape {w : World} {base : Nat} {v : Value} {S : List Sp} (h : Ow w base v S) : ∃ A c, v = .slice A S.length c ∧ Sl w A S.length c S := by
  have h0 : w.ownsRow base 43 2 v S.length (icells S) := h
  rcases h.2 with ⟨rfl, h1⟩ | ⟨g, cap, cur, rfl, _, hh, hn, hm, _, _⟩
  · have hx : S = [] := List.eq_nil_of_length_eq_zero h1
    subst hx
    exact ⟨none, 0, rfl, sl_nil w⟩
  · exact ⟨_, cap, rfl, rfl, fun i u hu => ⟨_, rfl, h0.cells (g := g) rfl i u hu⟩, (fun h => by cases h), hn, hm, fun _ => ⟨_, _, rfl⟩⟩
theorem Ow.bel {w0 w w' : World} {B base : Nat} {v : Value} {S : List Sp} (h : Below B w0 w) (hB : B ≤ w.heap.size) (hg : w.grownBy w' v.ownBlock) (own : Ow w base v S) (hb : B ≤ base) : Below B w0 w' :=
  h.grown hg hB (fun g e => Nat.le_trans hb (World.ownsRow.lt own g e).1)
theorem info_sp : (Try.prog.info? 43).map (fun i => (i.zero, i.size, i.bytes)) = some (some (.agg #[.int .i64 0, .int .i64 0]), 2, 16) := by kernel_rfl
/-- Intervals are appended. -/
theorem sp_app {W : World} {base : Nat} {v : Value} {S : List Sp} (h : Ow W base v S) (hbase : base ≤ W.heap.size) {A : Option Addr} {m c : Nat} {T : List Sp} (hs : Sl W A m c T) (hl : S.length + m ≤ 200000) :
    ∃ v' w', (Builtin.append_ #[22, 22] 22 #[v, .slice A m c]).run Try.prog W = .ok v' w' ∧ Ow w' base v' (S ++ T) ∧ W.grownBy w' v.ownBlock ∧ (v'.ownBlock = v.ownBlock ∨ v'.ownBlock = some W.heap.size) := by
  obtain ⟨i0, hi, hz0, hz1, hz2⟩ := info_parts info_sp
  have hml := hs.len
  cases A with
  | none =>
    obtain ⟨rfl, rfl, rfl⟩ := hs.empty
    exact ⟨v, W, run_append_owned_none W base _ 22 43 i0 2 Try.underlying22 hi v S.length (icells S) h, by rw [List.append_nil]; exact h, ⟨rfl, rfl, rfl, Nat.le_refl _, fun _ _ _ => rfl⟩, .inl rfl⟩
  | some ad =>
    obtain ⟨v', w', r1, r2, r3, _, r4⟩ := run_append_own_at (P := Try.prog) W base 22 22 43 i0 (.agg #[.int .i64 0, .int .i64 0]) 2 16 Try.underlying22 hi hz0 hz1 hz2 rfl (by omega) v S.length (icells S) h
      ad m c (icells T) (by rw [icells_len]; omega) (fun j u hu => by obtain ⟨x, e, hx⟩ := hs.lies j u hu; obtain rfl := Option.some.inj e; exact hx) (icells_one T) (by unfold maxLen; omega) (by omega) hbase
    refine ⟨v', w', r1, ?_, r3, r4⟩
    unfold Ow
    rw [icells_append, List.length_append, hml]
    exact r2
/-- A new block of one interval. -/
theorem sl_one (w : World) (n m : Int) : Sl (w.alloc (.cells #[.int .i64 n, .int .i64 m] 43)) (some ⟨w.heap.size, 0, none⟩) 1 1 [(n, m)] := by
  refine ⟨rfl, fun j u hu => ⟨_, rfl, ?_⟩, (fun e => by cases e), Nat.le_refl _, by unfold maxLen; omega, fun _ => ⟨_, _, rfl⟩⟩
  have hq : Has (w.alloc (.cells #[.int .i64 n, .int .i64 m] 43)) w.heap.size 43 #[.int .i64 n, .int .i64 m] := heap_alloc_new w _
  rw [Go.WideShapes.add_plain, Nat.zero_add, hq.cell]
  simpa [icells] using hu
end Go.Proofs.Ytadgplpbkephiaa
