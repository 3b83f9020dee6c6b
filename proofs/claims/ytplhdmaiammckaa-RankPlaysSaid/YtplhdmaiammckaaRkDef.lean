/- A rank in memory: its entries, and its map of places. -/
import Derived.Test.YtplhdmaiammckaaRkMap
import Derived.Maps.AppendAt
import Derived.Laws.OwnMore
import Derived.Deep.RegionLaw
import Derived.Deep.QuietTactic
import Derived.Deep.DeepCutAuto
import Derived.BigQuiet
import Derived.BigRegion
import Derived.Handy
namespace Go.Proofs.Ytplhdmaiammckaa
open Go.RowKit
set_option linter.unusedVariables false

/-- The cells of entries. -/
def ecells (l : List Ent) : List Value := l.flatMap fun h => [.int .i64 h.1, .int .i64 h.2]
theorem ecells_len (l : List Ent) : (ecells l).length = l.length * 2 := by
  induction l with
  | nil => rfl
  | cons b r ih => simp only [ecells, List.flatMap_cons] at *; simp; simp at ih; omega
theorem ecells_snoc (l : List Ent) (h : Ent) : ecells (l ++ [h]) = ecells l ++ [.int .i64 h.1, .int .i64 h.2] := by simp [ecells]
theorem ecells_get (l : List Ent) (i : Nat) (hi : i < l.length) : (ecells l)[i * 2]? = some (.int .i64 (ent l i).1) ∧ (ecells l)[i * 2 + 1]? = some (.int .i64 (ent l i).2) := by
  rw [ent_lt hi]
  induction l generalizing i with
  | nil => simp at hi
  | cons b r ih =>
    have e : ecells (b :: r) = [.int .i64 b.1, .int .i64 b.2] ++ ecells r := rfl
    cases i with
    | zero => exact ⟨rfl, rfl⟩
    | succ i =>
      have h1 := ih i (by simpa using hi)
      rw [e, show (i + 1) * 2 = i * 2 + 2 by omega]
      simpa [List.getElem?_append, show i * 2 + 2 + 1 = (i * 2 + 1) + 2 by omega] using h1
theorem ecells_set (l : List Ent) (i : Nat) (p : Ent) : ecells (l.set i p) = ((ecells l).set (i * 2) (.int .i64 p.1)).set (i * 2 + 1) (.int .i64 p.2) := by
  induction l generalizing i with
  | nil => simp [ecells]
  | cons b r ih =>
    have e : ∀ c, ecells (c :: r) = .int .i64 c.1 :: .int .i64 c.2 :: ecells r := fun _ => rfl
    cases i with
    | zero => simp [e]
    | succ i =>
      have e2 : ecells (b :: r.set i p) = .int .i64 b.1 :: .int .i64 b.2 :: ecells (r.set i p) := rfl
      rw [List.set_cons_succ, e2, ih, e, show (i + 1) * 2 = i * 2 + 2 by omega, show i * 2 + 2 + 1 = (i * 2 + 1) + 2 by omega]
      simp
theorem ecells_take (l : List Ent) (n : Nat) : ecells (l.take n) = (ecells l).take (n * 2) := by
  induction l generalizing n with
  | nil => simp [ecells]
  | cons b r ih =>
    have e : ∀ s, ecells (b :: s) = .int .i64 b.1 :: .int .i64 b.2 :: ecells s := fun _ => rfl
    cases n with
    | zero => simp [ecells]
    | succ n => rw [List.take_succ_cons, e, ih, e, show (n + 1) * 2 = n * 2 + 1 + 1 by omega, List.take_succ_cons, List.take_succ_cons]

/-- Which place each id has: the list's. -/
def Pl (l : List Ent) (f : Int → Option Int) : Prop := (∀ i, i < l.length → f (ent l i).1 = some (i : Int)) ∧ ∀ k, (∀ i, i < l.length → (ent l i).1 ≠ k) → f k = none
/-- A rank at g: its map at m, its slice v, its entries l. -/
structure Ok (w : World) (B g m : Nat) (v : Value) (l : List Ent) : Prop where
  blk : Has w g 55 #[v, .map (some m)]
  row : w.ownsRow B 60 2 v l.length (ecells l)
  map : ∃ f, MapI w m l.length f ∧ Pl l f
  bg : B ≤ g
  bm : B ≤ m
  gm : g ≠ m
  vg : v.ownBlock ≠ some g
  vm : v.ownBlock ≠ some m
  ids : ∀ i, i < l.length → I64 (ent l i).1 ∧ I64 (ent l i).2
  few : l.length ≤ 100000
/-- All is as it was but for the blocks g, m, o. -/
structure Fq (g m : Nat) (o : Option Nat) (w w' : World) : Prop where
  os : w'.os = w.os
  tape : w'.tape = w.tape
  output : w'.output = w.output
  size : w.heap.size ≤ w'.heap.size
  block : ∀ k, k < w.heap.size → k ≠ g → k ≠ m → o ≠ some k → w'.heap[k]? = w.heap[k]?
theorem Fq.refl (g m : Nat) (o : Option Nat) (w : World) : Fq g m o w w := ⟨rfl, rfl, rfl, Nat.le_refl _, fun _ _ _ _ _ => rfl⟩
theorem Fq.of_below {g m : Nat} {o : Option Nat} {w w' : World} (h : Below w.heap.size w w') : Fq g m o w w' := ⟨h.os, h.tape, h.output, h.size, fun k hk _ _ _ => h.block k hk⟩
theorem Fq.trans {g m : Nat} {o o' : Option Nat} {a b c : World} (h : Fq g m o a b) (k : Fq g m o' b c) (ho : ∀ n, o' = some n → o = some n ∨ a.heap.size ≤ n) : Fq g m o a c :=
  ⟨k.os.trans h.os, k.tape.trans h.tape, k.output.trans h.output, Nat.le_trans h.size k.size, fun j hj h1 h2 h3 => (k.block j (Nat.lt_of_lt_of_le hj h.size) h1 h2 (fun e => by rcases ho _ e with e | e; exact h3 e; omega)).trans (h.block j hj h1 h2 h3)⟩
theorem Fq.trans' {g m : Nat} {o : Option Nat} {a b c : World} (h : Fq g m o a b) (k : Fq g m o b c) : Fq g m o a c := h.trans k fun _ e => .inl e
theorem Fq.below {g m B : Nat} {o : Option Nat} {w w' : World} (h : Fq g m o w w') (hB : B ≤ w.heap.size) (hg : B ≤ g) (hm : B ≤ m) (ho : ∀ k, o = some k → B ≤ k) : Below B w w' :=
  ⟨h.os, h.tape, h.output, h.size, fun k hk => h.block k (by omega) (by omega) (by omega) (fun e => by have := ho k e; omega)⟩
theorem row_keep {w w' : World} {base : Nat} {e : TypeId} {size : Nat} {v : Value} {n : Nat} {xs : List Value} (h : w.ownsRow base e size v n xs) (hk : ∀ k, v.ownBlock = some k → w'.heap[k]? = w.heap[k]?) : w'.ownsRow base e size v n xs := by
  refine ⟨h.1, ?_⟩
  rcases h.2 with h2 | ⟨g, cap, cur, hv, hb, hg, r⟩
  · exact .inl h2
  · exact .inr ⟨g, cap, cur, hv, hb, (hk g (by rw [hv]; rfl)).trans hg, r⟩
theorem Ok.keep {w w' : World} {B g m : Nat} {v : Value} {l : List Ent} (h : Ok w B g m v l) (hk : ∀ k, k = g ∨ k = m ∨ v.ownBlock = some k → w'.heap[k]? = w.heap[k]?) : Ok w' B g m v l := by
  obtain ⟨f, h1, h2⟩ := h.map
  exact ⟨(hk g (.inl rfl)).trans h.blk, row_keep h.row fun k e => hk k (.inr (.inr e)), ⟨f, h1.keep (hk m (.inr (.inl rfl))), h2⟩, h.bg, h.bm, h.gm, h.vg, h.vm, h.ids, h.few⟩
theorem Ok.lt {w : World} {B g m : Nat} {v : Value} {l : List Ent} (h : Ok w B g m v l) : g < w.heap.size ∧ m < w.heap.size ∧ ∀ k, v.ownBlock = some k → k < w.heap.size := by
  obtain ⟨f, h1, h2⟩ := h.map
  exact ⟨h.blk.lt, h1.lt, fun k e => (h.row.lt k e).2⟩
theorem Ok.below {w w' : World} {B g m : Nat} {v : Value} {l : List Ent} (h : Ok w B g m v l) (hb : Below w.heap.size w w') : Ok w' B g m v l :=
  h.keep fun k hk => hb.block k (by rcases hk with rfl | rfl | e; exact h.lt.1; exact h.lt.2.1; exact h.lt.2.2 k e)
/-- The slice written out. -/
theorem Ok.shape {w : World} {B g m : Nat} {v : Value} {l : List Ent} (h : Ok w B g m v l) (hl : 0 < l.length) :
    ∃ b c, v = .slice (some ⟨b, 0, none⟩) l.length c ∧ l.length ≤ c ∧ c ≤ maxLen ∧ b ≠ g ∧ b ≠ m ∧ B ≤ b := by
  have hvg := h.vg
  have hvm := h.vm
  rcases h.row.2 with ⟨rfl, h0⟩ | ⟨q, cap, cur, rfl, hb, hgg, hc1, hc2, _⟩
  · omega
  · exact ⟨q, cap, rfl, hc1, hc2, fun e => hvg (by rw [← e]; rfl), fun e => hvm (by rw [← e]; rfl), hb⟩
theorem Ok.cells {w : World} {B g m b c : Nat} {l : List Ent} (h : Ok w B g m (.slice (some ⟨b, 0, none⟩) l.length c) l) (i : Nat) (hi : i < l.length) :
    w.cell? ⟨b, i * 2, none⟩ = some (.int .i64 (ent l i).1) ∧ w.cell? ⟨b, i * 2 + 1, none⟩ = some (.int .i64 (ent l i).2) := by
  obtain ⟨g1, g2⟩ := ecells_get l i hi
  have := ecells_len l
  exact ⟨(h.row.cellAt _ (by omega)).trans g1, (h.row.cellAt _ (by omega)).trans g2⟩
/-- Any slice of the call's own. -/
theorem own_any {w : World} {base : Nat} {e : TypeId} {size : Nat} {v : Value} {n : Nat} {xs : List Value} (h : w.ownsRow base e size v n xs) : ∃ A c, v = .slice A n c ∧ n ≤ c ∧ c ≤ maxLen := by
  rcases h.2 with ⟨rfl, rfl⟩ | ⟨g, cap, cur, rfl, _, _, hn, hm, _⟩
  · exact ⟨none, 0, rfl, Nat.le_refl _, Nat.zero_le _⟩
  · exact ⟨_, cap, rfl, hn, hm⟩
end Go.Proofs.Ytplhdmaiammckaa
