/- Layer 7: Put: what is put, as a function of the tree. -/
import Derived.Test.YtkjgpagnkpnhaaaDoorExBuild
namespace Go.Proofs.YtkjgpagnkpnhaaaDoor
open Go.RowKit
set_option linter.unusedVariables false

/-- A text in brackets, or as it is. -/
def brk (b : Bool) (l : Nm) : Nm := if b then [40] ++ l ++ [41] else l
mutual
/-- What is put of an expression that stands where at least this level is asked. -/
def putT (least : Int) : ET → Nm
  | .mk k op n v f _ _ ks => brk (decide (k = 3) && decide (levB op < least))
      (if k = 0 then Lib.itoa n else if k = 1 then v ++ ([46] ++ f) else if k = 2 then op ++ putK1 7 ks else if k = 3 then putK1 (levB op) ks ++ ([32] ++ (op ++ [32])) ++ putK2 (levB op + 1) ks else [])
def putK1 (a : Int) : List ET → Nm
  | [] => []
  | t :: _ => putT a t
def putK2 (b : Int) : List ET → Nm
  | [] => []
  | _ :: ts => putK1 b ts
end
theorem putK1_cons (a : Int) (t : ET) (ts : List ET) : putK1 a (t :: ts) = putT a t := by rw [putK1]
theorem putK2_cons (a : Int) (t : ET) (ts : List ET) : putK2 a (t :: ts) = putK1 a ts := by rw [putK2]
theorem putT_0 (least : Int) (op : Nm) (n : Int) (v f : Nm) (A : Option Addr) (c : Nat) (ks : List ET) : putT least (.mk 0 op n v f A c ks) = Lib.itoa n := by rw [putT]; simp [brk]
theorem putT_1 (least : Int) (op : Nm) (n : Int) (v f : Nm) (A : Option Addr) (c : Nat) (ks : List ET) : putT least (.mk 1 op n v f A c ks) = v ++ ([46] ++ f) := by rw [putT]; simp [brk]
theorem putT_2 (least : Int) (op : Nm) (n : Int) (v f : Nm) (A : Option Addr) (c : Nat) (x : ET) : putT least (.mk 2 op n v f A c [x]) = op ++ putT 7 x := by rw [putT, putK1_cons]; simp [brk]
theorem putT_3 (least : Int) (op : Nm) (n : Int) (v f : Nm) (A : Option Addr) (c : Nat) (x y : ET) : putT least (.mk 3 op n v f A c [x, y]) = brk (decide (levB op < least)) (putT (levB op) x ++ ([32] ++ (op ++ [32])) ++ putT (levB op + 1) y) := by
  rw [putT]; simp [putK1_cons, putK2_cons]

/- What a right expression has. -/
theorem right_one {k : Int} {op : Nm} {n : Int} {v f : Nm} {A : Option Addr} {c : Nat} {ks : List ET} (h : rightT (.mk k op n v f A c ks) = true) : oneB k op n v f ks.length = true := by
  cases hb : (rgt () (.mk k op n v f A c ks)).2 with
  | true => exact hb
  | false =>
    unfold rightT at h
    rw [allF_no hb] at h
    cases h
theorem rgt_list : ∀ (ks : List ET) , (allL rgt () ks).2 = true → ∀ t ∈ ks, rightT t = true := by
  intro ks
  induction ks with
  | nil => intro _ t ht; cases ht
  | cons x xs ih =>
    intro h t ht
    cases hb : (allF rgt () x).2 with
    | false => rw [allL_no hb] at h; cases h
    | true =>
      rw [allL_yes hb] at h
      rcases List.mem_cons.1 ht with rfl | ht
      · exact hb
      · exact ih h t ht
theorem right_kids {k : Int} {op : Nm} {n : Int} {v f : Nm} {A : Option Addr} {c : Nat} {ks : List ET} (h : rightT (.mk k op n v f A c ks) = true) : ∀ t ∈ ks, rightT t = true := by
  have h1 := right_one h
  unfold rightT at h
  rw [allF_yes (by exact h1)] at h
  exact rgt_list ks h
theorem right_of {k : Int} {op : Nm} {n : Int} {v f : Nm} {A : Option Addr} {c : Nat} {ks : List ET} (h : oneB k op n v f ks.length = true) (hk : ∀ t ∈ ks, rightT t = true) : rightT (.mk k op n v f A c ks) = true := by
  have hl : ∀ l : List ET, (∀ t ∈ l, rightT t = true) → (allL rgt () l).2 = true := by
    intro l
    induction l with
    | nil => intro _; rw [allL_nil]
    | cons x xs ih =>
      intro hh
      rw [allL_yes (hh x (by simp))]
      exact ih fun t ht => hh t (by simp [ht])
  unfold rightT
  rw [allF_yes (by exact h)]
  exact hl ks hk
theorem one_kinds {k : Int} {op : Nm} {n : Int} {v f : Nm} {m : Nat} (h : oneB k op n v f m = true) :
    (k = 0 ∧ m = 0 ∧ 0 ≤ n ∧ op = [] ∧ v = [] ∧ f = []) ∨ (k = 1 ∧ m = 0 ∧ nameB v = true ∧ nameB f = true ∧ op = [] ∧ n = 0) ∨ (k = 2 ∧ m = 1 ∧ (op = [45] ∨ op = [33]) ∧ n = 0 ∧ v = [] ∧ f = []) ∨ (k = 3 ∧ m = 2 ∧ levB op ≠ 0 ∧ n = 0 ∧ v = [] ∧ f = []) := by
  unfold oneB bareB at h
  by_cases h0 : k = 0
  · subst h0; simp at h; simp [h]
  by_cases h1 : k = 1
  · subst h1; simp at h; simp [h]
  by_cases h2 : k = 2
  · subst h2; simp at h; simp [h]
  by_cases h3 : k = 3
  · subst h3; simp at h; simp [h]
  · simp [h0, h1, h2, h3] at h

/- The worlds that put goes through. -/
/-- The blocks that the builder's writing leaves. -/
abbrev OK (b : Nat) (w w' : World) : Prop := Lib.OthersKept 5 (some b) w w'
/-- In w the builder at b holds l; w0 lies below. -/
def PS (w0 : World) (B b : Nat) (l : Nm) (w : World) : Prop := Bld B b l w ∧ Below w0.heap.size w0 w ∧ B ≤ w.heap.size
theorem bld_below {B b : Nat} {l : Nm} {w w' : World} (h : Bld B b l w) (hb : Below w.heap.size w w') : Bld B b l w' := by
  have go : ∀ p, Lib.BuilderAtF 55 5 B b p (Lib.byteCells l) w → Lib.BuilderAtF 55 5 B b p (Lib.byteCells l) w' := by
    rintro p ⟨hB, v, hbk, hown, hne⟩
    exact ⟨hB, v, (hb.block b (lt_of_heap hbk)).trans hbk, hown.kept (row := none) ⟨hb.os, hb.tape, hb.output, hb.size, fun k hk _ => hb.block k hk⟩ (by cases hv : v.ownBlock <;> simp), hne⟩
  rcases h with h | h
  · exact .inl (go _ h)
  · exact .inr (go _ h)
theorem ok_below {b : Nat} {w w' : World} (hb : Below w.heap.size w w') : OK b w w' := fun k o h _ _ => (hb.block k (lt_of_heap h)).trans h
theorem PS.below {w0 : World} {B b : Nat} {l : Nm} {w w' : World} (h : PS w0 B b l w) (hb : Below w.heap.size w w') : PS w0 B b l w' := ⟨bld_below h.1 hb, h.2.1.trans (hb.mono h.2.1.size), Nat.le_trans h.2.2 hb.size⟩
theorem box_ok {b q : Nat} {w w' : World} {cs : Array Value} (h : OK b w w') (hq : Has w q 24 cs) (hb : q ≠ b) : Has w' q 24 cs :=
  h q _ hq (by simpa using hb) (by rintro c fz e; cases e)
theorem bld_lt {B b : Nat} {l : Nm} {w : World} (h : Bld B b l w) : b < w.heap.size := h.elim (fun h => h.lt) (fun h => h.lt)
variable {w0 : World} {B b : Nat}
theorem ps_byte (hB : w0.heap.size ≤ B) {l : Nm} {w : World} (c : UInt8) (h : PS w0 B b l w) (hl : l.length ≤ 1000000000) :
    Calls Tryd.prog 41 #[.pointer (some ⟨b, 0, none⟩), .int .u8 (c.toNat : Int)] w fun e w' => e = .returned .nilIface ∧ PS w0 B b (l ++ [c]) w' ∧ OK b w w' := by
  refine (wbyte_any B b l c w h.1 (by omega) h.2.2).mono ?_
  rintro e w' ⟨rfl, h1, h2, h3⟩
  exact ⟨rfl, ⟨h1, h.2.1.trans (h2.mono hB), Nat.le_trans h.2.2 h2.size⟩, h3⟩
theorem ps_str (hB : w0.heap.size ≤ B) {l : Nm} {w : World} (s : Nm) (h : PS w0 B b l w) (hl : l.length ≤ 1000000000) (hs : s.length ≤ 1000000000) :
    Calls Tryd.prog 42 #[.pointer (some ⟨b, 0, none⟩), .string (str s)] w fun e w' => e = .returned (.tuple #[.int .i64 s.length, .nilIface]) ∧ PS w0 B b (l ++ s) w' ∧ OK b w w' := by
  refine (wstr_any B b l s w h.1 (by omega) h.2.2).mono ?_
  rintro e w' ⟨rfl, h1, h2, h3⟩
  exact ⟨rfl, ⟨h1, h.2.1.trans (h2.mono hB), Nat.le_trans h.2.2 h2.size⟩, h3⟩
theorem ps_fmt (hT : Tabs w0) {l : Nm} {w : World} (n : Int) (h0 : -9223372036854775808 ≤ n) (h1 : n ≤ 9223372036854775807) (h : PS w0 B b l w) :
    Calls Tryd.prog 43 #[.int .i64 n, .int .i64 10] w fun e w' => e = .returned (.string (str (Lib.itoa n))) ∧ PS w0 B b l w' ∧ OK b w w' := by
  refine (format_any n w h0 h1 (hT.below h.2.1)).mono ?_
  rintro e w' ⟨rfl, hb⟩
  exact ⟨rfl, h.below hb, ok_below hb⟩
end Go.Proofs.YtkjgpagnkpnhaaaDoor
