/- A slice of numbers of the call's own, beside a variable that holds intervals. -/
import Derived.Test.YtadgplpbkephiaaSpExactW
import Derived.Test.YtadgplpbkephiaaSpAddN
namespace Go.Proofs.Ytadgplpbkephiaa
open Go.RowKit
set_option linter.unusedVariables false

/-- A slice of numbers of the call's own. -/
def On (w : World) (base : Nat) (v : Value) (l : List Int) : Prop := w.ownsRow base 2 1 v l.length (l.map (Value.int .i64))
theorem on_nil (w : World) (base : Nat) : On w base (.slice none 0 0) [] := World.ownsRow_nil w base _ 1
theorem On.li {w : World} {base : Nat} {v : Value} {l : List Int} (h : On w base v l) : ∃ A c, v = .slice A l.length c ∧ Li w A l.length c l := by
  obtain ⟨A, c, rfl, h1, h2, h3, h4⟩ := own_shape h
  exact ⟨A, c, rfl, rfl, h1, h3, h4⟩
theorem row_keep {w w' : World} {base : Nat} {e : TypeId} {size : Nat} {v : Value} {n : Nat} {xs : List Value} (h : w.ownsRow base e size v n xs) (hk : ∀ k, v.ownBlock = some k → w'.heap[k]? = w.heap[k]?) : w'.ownsRow base e size v n xs := by
  refine ⟨h.1, ?_⟩
  rcases h.2 with h2 | ⟨g, cap, cur, hv, hb, hg, r⟩
  · exact .inl h2
  · exact .inr ⟨g, cap, cur, hv, hb, (hk g (by rw [hv]; rfl)).trans hg, r⟩
theorem On.below {w w' : World} {base : Nat} {v : Value} {l : List Int} (h : On w base v l) (hb : Below w.heap.size w w') : On w' base v l := row_keep h fun k e => hb.block k (World.ownsRow.lt h k e).2
theorem On.set {w : World} {base : Nat} {v : Value} {l : List Int} (h : On w base v l) {g : Nat} (hg : g < base) (u : Value) : On (w.setCell ⟨g, 0, none⟩ u) base v l := row_keep h fun k e => Below.heap_setCell _ _ _ _ (fun e1 => by have := (World.ownsRow.lt h k e).1; simp only at e1; omega)
theorem info_i64 : (Try.prog.info? 2).map (fun i => (i.zero, i.size, i.bytes)) = some (some (.int .i64 0), 1, 8) := by kernel_rfl
/-- Numbers are appended. -/
theorem num_app {W : World} {base : Nat} {v : Value} {l : List Int} (h : On W base v l) (hbase : base ≤ W.heap.size) {A : Option Addr} {m c : Nat} {T : List Int} (hs : Li W A m c T) (hnil : A = none → c = 0) (hl : l.length + m ≤ 200000) :
    ∃ v' w', (Builtin.append_ #[25, 25] 25 #[v, .slice A m c]).run Try.prog W = .ok v' w' ∧ On w' base v' (l ++ T) ∧ W.grownBy w' v.ownBlock ∧ (v'.ownBlock = v.ownBlock ∨ v'.ownBlock = some W.heap.size) := by
  obtain ⟨i0, hi, hz0, hz1, hz2⟩ := info_parts info_i64
  have hml := hs.len
  obtain ⟨v', w', r1, r2, r3, r4⟩ := run_app (P := Try.prog) W base 25 25 2 i0 (.int .i64 0) 8 Try.underlying25 hi hz0 hz1 hz2 rfl v l.length (l.map (Value.int .i64)) h A m c (T.map (Value.int .i64)) (by simpa using hml) hs.lies hnil
    (fun u hu => by obtain ⟨x, _, rfl⟩ := List.mem_map.1 hu; rfl) (by unfold maxLen; omega) (by omega) hbase
  refine ⟨v', w', r1, ?_, r3, r4⟩
  unfold On
  rw [List.map_append, List.length_append, hml]
  exact r2
theorem Sl.grow {w w' : World} {A : Option Addr} {n c : Nat} {S : List Sp} (h : Sl w A n c S) {o : Option Nat} (hg : w.grownBy w' o) (hA : 0 < n → ∀ b off, A = some ⟨b, off, none⟩ → o ≠ some b) : Sl w' A n c S := by
  refine ⟨h.len, fun i u hu => ?_, h.nil, h.le, h.max, h.shp⟩
  obtain ⟨b, off, e, hc⟩ := h.lies.at_ hu
  obtain ⟨x, e', hx⟩ := h.lies i u hu
  refine ⟨x, e', ?_⟩
  have hn : 0 < n := by
    have := h.len
    rcases Nat.eq_zero_or_pos n with h0 | h0
    · have : S = [] := List.eq_nil_of_length_eq_zero (by omega)
      subst this; simp [icells] at hu
    · exact h0
  have hne := hA hn b off e
  rw [e] at e'
  obtain rfl := Option.some.inj e'
  refine hg.cell hx fun e2 => hne ?_
  rw [← e2]
  unfold Addr.add
  split <;> rfl
theorem Bx.grow {w w' : World} {g : Nat} {t : TypeId} {A : Option Addr} {n c : Nat} {S : List Sp} (h : Bx w g t A n c S) {o : Option Nat} (hg : w.grownBy w' o) (h1 : o ≠ some g) (hA : 0 < n → ∀ b off, A = some ⟨b, off, none⟩ → o ≠ some b) : Bx w' g t A n c S :=
  ⟨(hg.block g h.box.lt fun e => h1 e.symm).trans h.box, h.sl.grow hg hA⟩
/-- The intervals lie elsewhere. -/
def Dj (v : Value) (A : Option Addr) (n : Nat) : Prop := 0 < n → ∀ b off, A = some ⟨b, off, none⟩ → v.ownBlock ≠ some b
/-- What holds of intervals that numbers were added to. -/
structure Kept (S : List Sp) (q : List Int) : Prop where
  rgt : Rgt S
  had : ∀ x ∈ q, hs S x = true
  ends : ∀ p ∈ S, p.1 ∈ q ∧ p.2 ∈ q
theorem kept_nil : Kept [] [] := ⟨rgt_nil, fun x hx => by simp at hx, fun p hp => by simp at hp⟩
theorem Kept.next {S : List Sp} {q : List Int} (h : Kept S q) (y : Int) : Kept (addS S y) (q ++ [y]) := by
  refine ⟨add_rgt y h.rgt, fun x hx => add_keeps h.rgt ?_, fun p hp => ?_⟩
  · rcases List.mem_append.1 hx with hx | hx
    · exact .inr (h.had x hx)
    · simp at hx; exact .inl hx
  · obtain ⟨h1, h2⟩ := add_ends h.rgt hp
    constructor
    · rcases h1 with h1 | ⟨a, ha, e⟩
      · simp [h1]
      · rw [← e]; simp [(h.ends a ha).1]
    · rcases h2 with h2 | ⟨a, ha, e⟩
      · simp [h2]
      · rw [← e]; simp [(h.ends a ha).2]
theorem Kept.all {S : List Sp} {q : List Int} (h : Kept S q) : cov S q = true := cov_at fun i x hx => h.had x (List.mem_of_getElem? hx)
theorem Kept.none {S : List Sp} (h : Kept S []) : S = [] := by
  cases S with
  | nil => rfl
  | cons p r => exact absurd (h.ends p List.mem_cons_self).1 (by simp)
end Go.Proofs.Ytadgplpbkephiaa
