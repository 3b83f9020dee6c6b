/- Layer 9: items as trees; what is right, the same, put (plain functions; no model). -/
import Derived.Test.YtbdfehgofnomhaaDoorExPutM
namespace Go.Proofs.YtbdfehgofnomhaaDoor
set_option linter.unusedVariables false

/-- An item; where its Pred and its Kids lie, and how many there is room for; where each list of Kids lies. -/
inductive IT where
  | mk (k : Int) (nm vr : Nm) (pA : Option Addr) (pc : Nat) (ps : List ET) (lo hi : Int) (kA : Option Addr) (kc : Nat) (kp : List (Option Addr × Nat)) (ks : List (List IT))
namespace IT
def k : IT → Int | mk k _ _ _ _ _ _ _ _ _ _ _ => k
def nm : IT → Nm | mk _ nm _ _ _ _ _ _ _ _ _ _ => nm
def vr : IT → Nm | mk _ _ vr _ _ _ _ _ _ _ _ _ => vr
def pA : IT → Option Addr | mk _ _ _ pA _ _ _ _ _ _ _ _ => pA
def pc : IT → Nat | mk _ _ _ _ pc _ _ _ _ _ _ _ => pc
def ps : IT → List ET | mk _ _ _ _ _ ps _ _ _ _ _ _ => ps
def lo : IT → Int | mk _ _ _ _ _ _ lo _ _ _ _ _ => lo
def hi : IT → Int | mk _ _ _ _ _ _ _ hi _ _ _ _ => hi
def kA : IT → Option Addr | mk _ _ _ _ _ _ _ _ kA _ _ _ => kA
def kc : IT → Nat | mk _ _ _ _ _ _ _ _ _ kc _ _ => kc
def kp : IT → List (Option Addr × Nat) | mk _ _ _ _ _ _ _ _ _ _ kp _ => kp
def ks : IT → List (List IT) | mk _ _ _ _ _ _ _ _ _ _ _ ks => ks
end IT
/-- From so many to so many. -/
def rng (lo hi : Int) : Nm := [123] ++ (Lib.itoa lo ++ ([44] ++ (Lib.itoa hi ++ [125])))
/-- Predicates in brackets. -/
def prd : List ET → Nm
  | [] => []
  | t :: ts => [91] ++ (putT 0 t ++ ([93] ++ prd ts))
mutual
/-- What is put of an item. -/
def putI : IT → Nm
  | .mk k nm vr _ _ ps lo hi _ _ _ ks => if k = 3 then [40] ++ (putKs ks ++ [41]) else (if k = 2 then [33] else []) ++ (nm ++ ([32] ++ (vr ++ ((if k = 1 then rng lo hi else []) ++ prd ps))))
def putIs : List IT → Nm
  | [] => []
  | x :: xs => putI x ++ putTl xs
def putTl : List IT → Nm
  | [] => []
  | x :: xs => [32, 59, 32] ++ (putI x ++ putTl xs)
def putKs : List (List IT) → Nm
  | [] => []
  | l :: ls => putIs l ++ putKt ls
def putKt : List (List IT) → Nm
  | [] => []
  | l :: ls => [32, 124, 32] ++ (putIs l ++ putKt ls)
end
def samePs : List ET → List ET → Bool
  | [], m => m.isEmpty
  | x :: xs, m => match m with
    | [] => false
    | y :: ys => sameT x y && samePs xs ys
mutual
/-- Are they the same? -/
def sameI : IT → IT → Bool
  | .mk k nm vr _ _ ps lo hi _ _ _ ks, y => decide (k = y.k ∧ nm = y.nm ∧ vr = y.vr ∧ lo = y.lo ∧ hi = y.hi) && samePs ps y.ps && sameKs ks y.ks
def sameIs : List IT → List IT → Bool
  | [], m => m.isEmpty
  | x :: xs, m => match m with
    | [] => false
    | y :: ys => sameI x y && sameIs xs ys
def sameKs : List (List IT) → List (List IT) → Bool
  | [], m => m.isEmpty
  | x :: xs, m => match m with
    | [] => false
    | y :: ys => sameIs x y && sameKs xs ys
end
mutual
/-- Is an item right? -/
def rightI : IT → Bool
  | .mk k nm vr _ _ ps lo hi _ _ _ ks => if k = 3 then decide (nm = [] ∧ vr = [] ∧ ps = [] ∧ lo = 0 ∧ hi = 0 ∧ 2 ≤ ks.length) && rightKs ks
      else decide (k = 0 ∨ k = 1 ∨ k = 2) && (nameB nm && nameB vr) && decide (ps.length ≤ 1) && ps.all rightT && decide (ks = [] ∧ (k = 1 → 1 ≤ lo ∧ lo ≤ hi ∧ hi ≤ 4) ∧ (k ≠ 1 → lo = 0 ∧ hi = 0))
def rightLs : List IT → Bool
  | [] => true
  | x :: xs => rightI x && rightLs xs
def rightKs : List (List IT) → Bool
  | [] => true
  | l :: ls => (!l.isEmpty && rightLs l) && rightKs ls
end
/-- Are there some, and are all right? -/
def rightIs (l : List IT) : Bool := !l.isEmpty && rightLs l
mutual
def sizeI : IT → Nat
  | .mk _ _ _ _ _ _ _ _ _ _ _ ks => 1 + sizeKs ks
def sizeIs : List IT → Nat
  | [] => 0
  | x :: xs => sizeI x + sizeIs xs
def sizeKs : List (List IT) → Nat
  | [] => 0
  | l :: ls => 1 + sizeIs l + sizeKs ls
end
end Go.Proofs.YtbdfehgofnomhaaDoor
