/- How an arena lies in memory: its own block, and the row of its slots; what else a deed may turn. -/
import Derived.Test.YtglhebpblncjaaaDoorSizeCore
import Derived.Test.YtglhebpblncjaaaDoorArMath
import Derived.Test.YtglhebpblncjaaaDoorArBits
import Derived.Outline
namespace Go.Proofs.YtglhebpblncjaaaDoor
open Go.RowKit
set_option linter.unusedVariables false

/-- The cells of the slots. -/
def scells (l : List Blk) : List Value := l.flatMap fun b => [.string (str b.t), .int .i64 b.r, .int .u32 b.g]
theorem scells_len (l : List Blk) : (scells l).length = l.length * 3 := by
  induction l with
  | nil => rfl
  | cons b r ih => simp only [scells, List.flatMap_cons] at *; simp; simp at ih; omega
theorem scells_get {l : List Blk} {i : Nat} (h : i < l.length) : (scells l)[3 * i]? = some (.string (str (bk l i).t)) ∧ (scells l)[3 * i + 1]? = some (.int .i64 (bk l i).r) ∧ (scells l)[3 * i + 2]? = some (.int .u32 (bk l i).g) := by
  induction l generalizing i with
  | nil => simp at h
  | cons b r ih =>
    cases i with
    | zero => exact ⟨rfl, rfl, rfl⟩
    | succ i =>
      have h1 := ih (i := i) (by simpa using h)
      rw [bk_succ]
      have e : scells (b :: r) = [.string (str b.t), .int .i64 b.r, .int .u32 b.g] ++ scells r := rfl
      rw [e, show 3 * (i + 1) = 3 * i + 3 by omega]
      simpa [List.getElem?_append, show 3 * i + 3 + 1 = (3 * i + 1) + 3 by omega, show 3 * i + 3 + 2 = (3 * i + 2) + 3 by omega] using h1
theorem scells_set (l : List Blk) (i : Nat) (b : Blk) : (((scells l).set (3 * i) (.string (str b.t))).set (3 * i + 1) (.int .i64 b.r)).set (3 * i + 2) (.int .u32 b.g) = scells (l.set i b) := by
  induction l generalizing i with
  | nil => simp [scells]
  | cons c r ih =>
    have e : ∀ (x : Blk) (y : List Blk), scells (x :: y) = [.string (str x.t), .int .i64 x.r, .int .u32 x.g] ++ scells y := fun _ _ => rfl
    cases i with
    | zero => rfl
    | succ i =>
      rw [List.set_cons_succ, e, e, ← ih i, show 3 * (i + 1) = 3 * i + 3 by omega, show 3 * i + 3 + 1 = (3 * i + 1) + 3 by omega, show 3 * i + 3 + 2 = (3 * i + 2) + 3 by omega]
      rfl
theorem scells_snoc (l : List Blk) (b : Blk) : scells (l ++ [b]) = scells l ++ [.string (str b.t), .int .i64 b.r, .int .u32 b.g] := by
  simp [scells]
theorem scells_one (l : List Blk) : ∀ u ∈ scells l, u.oneCell' = true := by
  intro u hu
  simp only [scells, List.mem_flatMap] at hu
  obtain ⟨b, _, hb⟩ := hu
  simp at hb
  rcases hb with rfl | rfl | rfl <;> rfl

/-- The 69 cells of the arena's own block: the slots' slice is v. -/
structure ArCells (cs : Array Value) (s : Ar) (v : Value) : Prop where
  size : cs.size = 69
  cap : cs[0]? = some (.int .i64 s.cap)
  lim : cs[1]? = some (.int .i64 s.lim)
  chg : cs[2]? = some (.int .i64 (chg s.l))
  liv : cs[3]? = some (.int .i64 (liv s.l))
  row : cs[4]? = some v
  bits : ∀ i, i < 64 → ∃ x : Nat, x < 18446744073709551616 ∧ cs[5 + i]? = some (.int .u64 (x : Int)) ∧ ∀ j, j < 64 → x.testBit j = lvb s.l (64 * i + j)

/-- An arena in memory: its own block is g, its slots' slice v. -/
structure ArAt (w : World) (B g : Nat) (v : Value) (s : Ar) : Prop where
  low : B ≤ g
  ne : v.ownBlock ≠ some g
  wf : Wf s
  row : w.ownsRow B 111 3 v s.l.length (scells s.l)
  blk : ∃ cs, Has w g 64 cs ∧ ArCells cs s v

theorem owns_keep {w w' : World} {base : Nat} {e : TypeId} {size : Nat} {v : Value} {n : Nat} {xs : List Value} (h : w.ownsRow base e size v n xs) (hk : ∀ k, v.ownBlock = some k → w'.heap[k]? = w.heap[k]?) : w'.ownsRow base e size v n xs := by
  refine ⟨h.1, ?_⟩
  rcases h.2 with hn | ⟨g, cap, cur, rfl, hb, hgg, rest⟩
  · exact .inl hn
  · exact .inr ⟨g, cap, cur, rfl, hb, by rw [hk g rfl]; exact hgg, rest⟩
theorem ArAt.keep {w w' : World} {B g : Nat} {v : Value} {s : Ar} (h : ArAt w B g v s) (hk : ∀ k, k = g ∨ v.ownBlock = some k → w'.heap[k]? = w.heap[k]?) : ArAt w' B g v s := by
  obtain ⟨cs, h1, h2⟩ := h.blk
  exact ⟨h.low, h.ne, h.wf, owns_keep h.row fun k hkk => hk k (.inr hkk), cs, (hk g (.inl rfl)).trans h1, h2⟩
theorem ArAt.lt {w : World} {B g : Nat} {v : Value} {s : Ar} (h : ArAt w B g v s) : g < w.heap.size := by
  obtain ⟨cs, h1, _⟩ := h.blk
  exact h1.lt
theorem ArAt.vlt {w : World} {B g : Nat} {v : Value} {s : Ar} (h : ArAt w B g v s) : ∀ k, v.ownBlock = some k → B ≤ k ∧ k < w.heap.size := h.row.lt
theorem ArAt.below {w w' : World} {B g : Nat} {v : Value} {s : Ar} (h : ArAt w B g v s) (hb : Below w.heap.size w w') : ArAt w' B g v s :=
  h.keep fun k hk => hb.block k (by
    rcases hk with rfl | hk
    · exact h.lt
    · exact (h.vlt k hk).2)

/-- A deed may turn the arena's block g and its slots' row o; all else is as it was. -/
structure Fr (g : Nat) (o : Option Nat) (w w' : World) : Prop where
  os : w'.os = w.os
  tape : w'.tape = w.tape
  output : w'.output = w.output
  size : w.heap.size ≤ w'.heap.size
  block : ∀ k, k < w.heap.size → k ≠ g → o ≠ some k → w'.heap[k]? = w.heap[k]?
theorem Fr.of_below {g : Nat} {o : Option Nat} {w w' : World} (h : Below w.heap.size w w') : Fr g o w w' := ⟨h.os, h.tape, h.output, h.size, fun k hk _ _ => h.block k hk⟩
theorem Fr.refl (g : Nat) (o : Option Nat) (w : World) : Fr g o w w := .of_below (.refl _ _)
theorem Fr.trans {g : Nat} {o o' : Option Nat} {a b c : World} (h : Fr g o a b) (k : Fr g o' b c) (ho : o' = o ∨ ∃ n, o' = some n ∧ a.heap.size ≤ n) : Fr g o a c :=
  ⟨k.os.trans h.os, k.tape.trans h.tape, k.output.trans h.output, Nat.le_trans h.size k.size, fun i hi h1 h2 => (k.block i (Nat.lt_of_lt_of_le hi h.size) h1 (by
    rcases ho with rfl | ⟨n, rfl, hn⟩
    · exact h2
    · intro e; have := Option.some.inj e; omega)).trans (h.block i hi h1 h2)⟩
theorem Fr.below {g : Nat} {o : Option Nat} {w w' : World} {B : Nat} (h : Fr g o w w') (hB : B ≤ w.heap.size) (hg : B ≤ g) (ho : ∀ k, o = some k → B ≤ k) : Below B w w' :=
  ⟨h.os, h.tape, h.output, h.size, fun k hk => h.block k (by omega) (by omega) (fun e => by have := ho k e; omega)⟩
theorem Fr.drew {g : Nat} {o : Option Nat} {a w : World} (h : Fr g o a w) : Fr g o a w.drew := ⟨h.os, h.tape, h.output, h.size, h.block⟩
theorem Fr.alloc {g : Nat} {o : Option Nat} {a w : World} (h : Fr g o a w) (x : Obj) : Fr g o a (w.alloc x) :=
  h.trans (.of_below ((Below.refl _ _).alloc (Nat.le_refl _) _)) (.inl rfl)
theorem Fr.setg {g : Nat} {o : Option Nat} {a w : World} (h : Fr g o a w) (i : Nat) (u : Value) : Fr g o a (w.setCell ⟨g, i, none⟩ u) :=
  h.trans ⟨rfl, rfl, rfl, by simp [World.setCell], fun k hk h1 h2 => Below.heap_setCell _ _ _ _ h1⟩ (.inl rfl)
theorem Fr.seto {g q : Nat} {a w : World} (h : Fr g (some q) a w) (i : Nat) (u : Value) : Fr g (some q) a (w.setCell ⟨q, i, none⟩ u) :=
  h.trans ⟨rfl, rfl, rfl, by simp [World.setCell], fun k hk h1 h2 => Below.heap_setCell _ _ _ _ (fun e => h2 (by rw [e]))⟩ (.inl rfl)
/-- What the law itself owns is as it was. -/
theorem Fr.owns {g : Nat} {o : Option Nat} {w w' : World} (h : Fr g o w w') {base : Nat} {e : TypeId} {size : Nat} {v : Value} {n : Nat} {xs : List Value} (r : w.ownsRow base e size v n xs) (h1 : v.ownBlock ≠ some g) (h2 : ∀ k, v.ownBlock = some k → o ≠ some k) : w'.ownsRow base e size v n xs :=
  owns_keep r fun k hk => h.block k (r.lt k hk).2 (fun e => h1 (by rw [hk, e])) (h2 k hk)

/-- The zero arena. -/
def zar : Array Value := #[.int .i64 0, .int .i64 0, .int .i64 0, .int .i64 0, .slice none 0 0] ++ Array.replicate 64 (.int .u64 0)
theorem zero_info : (Tryd.prog.info? 64).map (fun i => i.zero) = some (some (.agg zar)) := by kernel_rfl
theorem zero_run (w : World) : (zeroValue 64).run Tryd.prog w = .ok (.agg zar) w := by
  cases h : Tryd.prog.info? 64 with
  | none => have := zero_info; rw [h] at this; cases this
  | some i =>
    have e : i.zero = some (.agg zar) := by have := zero_info; rw [h] at this; simpa using this
    simp [zeroValue, typeInfo, h, e]
end Go.Proofs.YtglhebpblncjaaaDoor
