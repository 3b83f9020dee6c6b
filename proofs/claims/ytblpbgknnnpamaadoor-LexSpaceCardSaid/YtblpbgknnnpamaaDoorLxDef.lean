/- Layer 6 without the program: what a name is, what the words of a text are, rune by rune. -/
import Derived.Test.YtblpbgknnnpamaaDoorScBase
import Derived.Lib.MapLaws
import Derived.Lib.TrimUEq
import Derived.Lib.TrimAscii
import Derived.Lib.ValidU
import Derived.Lib.ParseIntB
namespace Go.Proofs.YtblpbgknnnpamaaDoor
set_option linter.unusedVariables false

/-- May a rune begin a name? -/
def begB (r : Int) : Bool := decide ((97 ≤ r ∧ r ≤ 122) ∨ (65 ≤ r ∧ r ≤ 90) ∨ r = 95 ∨ 128 ≤ r)
def digB (r : Int) : Bool := decide (48 ≤ r ∧ r ≤ 57)
def spB (r : Int) : Bool := decide (r = 9 ∨ r = 10 ∨ r = 13 ∨ r = 32)
/-- The two words that are no names. -/
def wWithin : Nm := [87, 73, 84, 72, 73, 78]
def wBy : Nm := [66, 89]
/-- Are the runes of a text letters, or, behind the first one, digits? -/
def runesB : Nat → Bool → Nm → Bool
  | 0, _, _ => true
  | f + 1, fst, l => if l = [] then true else (begB ((Lib.decodeL l).1 : Int) || (!fst && digB ((Lib.decodeL l).1 : Int))) && runesB f false (l.drop (Lib.decodeL l).2)
/-- Is it a name? -/
def nameB (l : Nm) : Bool := decide (l ≠ []) && decide (l.length ≤ 24) && !(l == wWithin) && !(l == wBy) && Lib.validD l && runesB l.length true l
theorem runesB_nil (f : Nat) (b : Bool) : runesB f b [] = true := by cases f <;> simp [runesB]
theorem runesB_step (f : Nat) (b : Bool) (l : Nm) (h : l ≠ []) : runesB (f + 1) b l = ((begB ((Lib.decodeL l).1 : Int) || (!b && digB ((Lib.decodeL l).1 : Int))) && runesB f false (l.drop (Lib.decodeL l).2)) := by
  simp [runesB, h]
theorem dec_at (l : Nm) (pos : Nat) : Utf8.decode (str l) pos = Lib.decodeL (l.drop pos) := by
  rw [← Lib.decodeL_drop, str_data]

/-- A rune's bytes. -/
def enc (r : Nat) : Nm := (Utf8.encode (r : Int)).data.toList
/-- The signs. -/
def sgT : List Nm := [[59], [33], [124], [40], [41], [123], [125], [44], [91], [93], [46], [43], [45], [42], [47], [37], [60], [62], [61, 61], [33, 61], [60, 61], [62, 61], [38, 38], [124, 124]]
/-- Does the text begin with a rune that may begin a name? -/
def bnB (l : Nm) : Bool := (enc (Lib.decodeL l).1).isPrefixOf l && nameB (enc (Lib.decodeL l).1)
/-- Is the first rune of l one more of the open word o, of kind k? -/
def goes (k : Nat) (o l : Nm) : Bool :=
  if k = 1 then digB ((Lib.decodeL l).1 : Int) || bnB l
  else if k = 2 then digB ((Lib.decodeL l).1 : Int)
  else if k = 3 then sgT.any fun s => (o ++ enc (Lib.decodeL l).1).isPrefixOf s
  else false
/-- The kind of the word that l begins with. -/
def beg (l : Nm) : Nat := if spB ((Lib.decodeL l).1 : Int) then 0 else if bnB l then 1 else if digB ((Lib.decodeL l).1 : Int) then 2 else 3
/-- A word. -/
structure Tok where
  k : Nat
  t : Nm
  n : Int
  p : Nat
/-- The number of digits. -/
def numV (o : Nm) : Option Int :=
  if 1 < o.length ∧ o.getD 0 0 = 48 then none else match Lib.parseIntB 64 o with
    | .ok v => some v
    | _ => none
/-- The open word, closed: no word, one, or it may not be. -/
def close (k : Nat) (o : Nm) (fr : Nat) : Option (List Tok) :=
  if k = 0 then some []
  else if k = 1 then (if o = wWithin ∨ o = wBy then some [⟨4, o, 0, fr⟩] else if nameB o then some [⟨1, o, 0, fr⟩] else none)
  else if k = 2 then (match numV o with
    | some n => some [⟨2, o, n, fr⟩]
    | none => none)
  else if sgT.contains o then some [⟨3, o, 0, fr⟩] else none
/-- Words, or where the wrong one begins. -/
inductive Res where
  | bad (p : Nat)
  | good (l : List Tok)
def pre (a : List Tok) : Res → Res
  | .bad p => .bad p
  | .good l => .good (a ++ l)
def fin (k : Nat) (o : Nm) (fr : Nat) : Res := match close k o fr with
  | none => .bad fr
  | some ts => .good ts
def lexF : Nat → Nat → Nm → Nat → Nat → Nm → Res
  | 0, k, o, fr, _, _ => fin k o fr
  | f + 1, k, o, fr, p, l =>
    if l = [] then fin k o fr
    else if goes k o l then lexF f k (o ++ l.take (Lib.decodeL l).2) fr (p + (Lib.decodeL l).2) (l.drop (Lib.decodeL l).2)
    else match close k o fr with
      | none => .bad fr
      | some ts => pre ts (lexF f (beg l) (l.take (Lib.decodeL l).2) p (p + (Lib.decodeL l).2) (l.drop (Lib.decodeL l).2))
/-- The words of a text. -/
def lexA (s : Nm) : Res := lexF s.length 0 [] 0 0 s

theorem pre_pre (a b : List Tok) (r : Res) : pre a (pre b r) = pre (a ++ b) r := by cases r <;> simp [pre]
theorem pre_nil (r : Res) : pre [] r = r := by cases r <;> simp [pre]
theorem lexF_nil (f k : Nat) (o : Nm) (fr p : Nat) : lexF f k o fr p [] = fin k o fr := by cases f <;> simp [lexF]
theorem lexF_go (f k : Nat) (o : Nm) (fr p : Nat) (l : Nm) (h : l ≠ []) (hg : goes k o l = true) :
    lexF (f + 1) k o fr p l = lexF f k (o ++ l.take (Lib.decodeL l).2) fr (p + (Lib.decodeL l).2) (l.drop (Lib.decodeL l).2) := by simp [lexF, h, hg]
theorem lexF_bad (f k : Nat) (o : Nm) (fr p : Nat) (l : Nm) (h : l ≠ []) (hg : goes k o l = false) (hc : close k o fr = none) : lexF (f + 1) k o fr p l = .bad fr := by simp [lexF, h, hg, hc]
theorem lexF_new (f k : Nat) (o : Nm) (fr p : Nat) (l : Nm) (h : l ≠ []) (hg : goes k o l = false) {ts : List Tok} (hc : close k o fr = some ts) :
    lexF (f + 1) k o fr p l = pre ts (lexF f (beg l) (l.take (Lib.decodeL l).2) p (p + (Lib.decodeL l).2) (l.drop (Lib.decodeL l).2)) := by simp [lexF, h, hg, hc]
theorem dec_w (l : Nm) : 1 ≤ (Lib.decodeL l).2 := Lib.decodeL_width l
theorem lexF_fuel : ∀ (f g k : Nat) (o : Nm) (fr p : Nat) (l : Nm), l.length ≤ f → l.length ≤ g → lexF f k o fr p l = lexF g k o fr p l
  | 0, g, k, o, fr, p, l, h, _ => by
    obtain rfl : l = [] := List.eq_nil_of_length_eq_zero (by omega)
    rw [lexF_nil, lexF_nil]
  | f + 1, 0, k, o, fr, p, l, _, h => by
    obtain rfl : l = [] := List.eq_nil_of_length_eq_zero (by omega)
    rw [lexF_nil, lexF_nil]
  | f + 1, g + 1, k, o, fr, p, l, h1, h2 => by
    have w := dec_w l
    by_cases hl : l = []
    · subst hl; rw [lexF_nil, lexF_nil]
    · have ih := fun k o fr p => lexF_fuel f g k o fr p (l.drop (Lib.decodeL l).2) (by rw [List.length_drop]; omega) (by rw [List.length_drop]; omega)
      cases hg : goes k o l with
      | true => rw [lexF_go _ _ _ _ _ _ hl hg, lexF_go _ _ _ _ _ _ hl hg, ih]
      | false =>
        cases hc : close k o fr with
        | none => rw [lexF_bad _ _ _ _ _ _ hl hg hc, lexF_bad _ _ _ _ _ _ hl hg hc]
        | some ts => rw [lexF_new _ _ _ _ _ _ hl hg hc, lexF_new _ _ _ _ _ _ hl hg hc, ih]
end Go.Proofs.YtblpbgknnnpamaaDoor
