/- Layer 7: Put: what is put, as a function of the tree. -/
import Derived.Test.YtbdfehgofnomhaaDoorExBuild
import Derived.Test.YtbdfehgofnomhaaDoorExRt
namespace Go.Proofs.YtbdfehgofnomhaaDoor
open Go.RowKit
set_option linter.unusedVariables false

/-- A text in brackets, or as it is. -/
def brk (b : Bool) (l : Nm) : Nm := if b then [40] ++ l ++ [41] else l
mutual
/-- What is put of an expression that stands where at least this level is asked. -/
def putT (least : Int) : ET → Nm
  | .mk k op n v f _ _ ks => brk (decide (k = 3) && decide (levB op < least))
      (if k = 0 then Lib.itoa n else if k = 1 then v ++ ([46] ++ f) else if k = 2 then op ++ putK1 7 ks else if k = 3 then putK1 (levB op) ks ++ ([32] ++ (op ++ [32])) ++ putK2 (levB op + 1) ks else [])
def putK1 (a : Int) : List ET → Nm
  | [] => []
  | t :: _ => putT a t
def putK2 (b : Int) : List ET → Nm
  | [] => []
  | _ :: ts => putK1 b ts
end
theorem putK1_cons (a : Int) (t : ET) (ts : List ET) : putK1 a (t :: ts) = putT a t := by rw [putK1]
theorem putK2_cons (a : Int) (t : ET) (ts : List ET) : putK2 a (t :: ts) = putK1 a ts := by rw [putK2]
theorem putT_0 (least : Int) (op : Nm) (n : Int) (v f : Nm) (A : Option Addr) (c : Nat) (ks : List ET) : putT least (.mk 0 op n v f A c ks) = Lib.itoa n := by rw [putT]; simp [brk]
theorem putT_1 (least : Int) (op : Nm) (n : Int) (v f : Nm) (A : Option Addr) (c : Nat) (ks : List ET) : putT least (.mk 1 op n v f A c ks) = v ++ ([46] ++ f) := by rw [putT]; simp [brk]
theorem putT_2 (least : Int) (op : Nm) (n : Int) (v f : Nm) (A : Option Addr) (c : Nat) (x : ET) : putT least (.mk 2 op n v f A c [x]) = op ++ putT 7 x := by rw [putT, putK1_cons]; simp [brk]
theorem putT_3 (least : Int) (op : Nm) (n : Int) (v f : Nm) (A : Option Addr) (c : Nat) (x y : ET) : putT least (.mk 3 op n v f A c [x, y]) = brk (decide (levB op < least)) (putT (levB op) x ++ ([32] ++ (op ++ [32])) ++ putT (levB op + 1) y) := by
  rw [putT]; simp [putK1_cons, putK2_cons]

/- The worlds that put goes through. -/
/-- The blocks that the builder's writing leaves. -/
abbrev OK (b : Nat) (w w' : World) : Prop := Lib.OthersKept 5 (some b) w w'
/-- In w the builder at b holds l; w0 lies below. -/
def PS (w0 : World) (B b : Nat) (l : Nm) (w : World) : Prop := Bld B b l w ∧ Below w0.heap.size w0 w ∧ B ≤ w.heap.size
theorem bld_below {B b : Nat} {l : Nm} {w w' : World} (h : Bld B b l w) (hb : Below w.heap.size w w') : Bld B b l w' := by
  have go : ∀ p, Lib.BuilderAtF 52 5 B b p (Lib.byteCells l) w → Lib.BuilderAtF 52 5 B b p (Lib.byteCells l) w' := by
    rintro p ⟨hB, v, hbk, hown, hne⟩
    exact ⟨hB, v, (hb.block b (lt_of_heap hbk)).trans hbk, hown.kept (row := none) ⟨hb.os, hb.tape, hb.output, hb.size, fun k hk _ => hb.block k hk⟩ (by cases hv : v.ownBlock <;> simp), hne⟩
  rcases h with h | h
  · exact .inl (go _ h)
  · exact .inr (go _ h)
theorem ok_below {b : Nat} {w w' : World} (hb : Below w.heap.size w w') : OK b w w' := fun k o h _ _ => (hb.block k (lt_of_heap h)).trans h
theorem PS.below {w0 : World} {B b : Nat} {l : Nm} {w w' : World} (h : PS w0 B b l w) (hb : Below w.heap.size w w') : PS w0 B b l w' := ⟨bld_below h.1 hb, h.2.1.trans (hb.mono h.2.1.size), Nat.le_trans h.2.2 hb.size⟩
theorem box_ok {b q : Nat} {w w' : World} {cs : Array Value} (h : OK b w w') (hq : Has w q 47 cs) (hb : q ≠ b) : Has w' q 47 cs :=
  h q _ hq (by simpa using hb) (by rintro c fz e; cases e)
theorem bld_lt {B b : Nat} {l : Nm} {w : World} (h : Bld B b l w) : b < w.heap.size := h.elim (fun h => h.lt) (fun h => h.lt)
variable {w0 : World} {B b : Nat}
theorem ps_byte (hB : w0.heap.size ≤ B) {l : Nm} {w : World} (c : UInt8) (h : PS w0 B b l w) (hl : l.length ≤ 1000000000) :
    Calls Tryd.prog 53 #[.pointer (some ⟨b, 0, none⟩), .int .u8 (c.toNat : Int)] w fun e w' => e = .returned .nilIface ∧ PS w0 B b (l ++ [c]) w' ∧ OK b w w' := by
  refine (wbyte_any B b l c w h.1 (by omega) h.2.2).mono ?_
  rintro e w' ⟨rfl, h1, h2, h3⟩
  exact ⟨rfl, ⟨h1, h.2.1.trans (h2.mono hB), Nat.le_trans h.2.2 h2.size⟩, h3⟩
theorem ps_str (hB : w0.heap.size ≤ B) {l : Nm} {w : World} (s : Nm) (h : PS w0 B b l w) (hl : l.length ≤ 1000000000) (hs : s.length ≤ 1000000000) :
    Calls Tryd.prog 21 #[.pointer (some ⟨b, 0, none⟩), .string (str s)] w fun e w' => e = .returned (.tuple #[.int .i64 s.length, .nilIface]) ∧ PS w0 B b (l ++ s) w' ∧ OK b w w' := by
  refine (wstr_any B b l s w h.1 (by omega) h.2.2).mono ?_
  rintro e w' ⟨rfl, h1, h2, h3⟩
  exact ⟨rfl, ⟨h1, h.2.1.trans (h2.mono hB), Nat.le_trans h.2.2 h2.size⟩, h3⟩
theorem ps_fmt (hT : Tabs w0) {l : Nm} {w : World} (n : Int) (h0 : -9223372036854775808 ≤ n) (h1 : n ≤ 9223372036854775807) (h : PS w0 B b l w) :
    Calls Tryd.prog 22 #[.int .i64 n, .int .i64 10] w fun e w' => e = .returned (.string (str (Lib.itoa n))) ∧ PS w0 B b l w' ∧ OK b w w' := by
  refine (format_any n w h0 h1 (hT.below h.2.1)).mono ?_
  rintro e w' ⟨rfl, hb⟩
  exact ⟨rfl, h.below hb, ok_below hb⟩
end Go.Proofs.YtbdfehgofnomhaaDoor
