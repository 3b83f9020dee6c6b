/- Layer 9: items counted, how deep, two lists one behind the other (plain functions; no model). -/
import Derived.Test.YtbdfehgofnomhaaDoorPaPutM
namespace Go.Proofs.YtbdfehgofnomhaaDoor
set_option linter.unusedVariables false

mutual
/-- How many items. -/
def countI : IT → Nat
  | .mk _ _ _ _ _ _ _ _ _ _ _ ks => 1 + countKs ks
def countIs : List IT → Nat
  | [] => 0
  | x :: xs => countI x + countIs xs
def countKs : List (List IT) → Nat
  | [] => 0
  | l :: ls => countIs l + countKs ls
end
mutual
/-- How deep. -/
def deepI : IT → Nat
  | .mk _ _ _ _ _ _ _ _ _ _ _ ks => deepKs ks
def deepIs : List IT → Nat
  | [] => 0
  | x :: xs => max (1 + deepI x) (deepIs xs)
def deepKs : List (List IT) → Nat
  | [] => 0
  | l :: ls => max (deepIs l) (deepKs ls)
end
theorem countI_mk (k : Int) (nm vr : Nm) (pA : Option Addr) (pc : Nat) (ps : List ET) (lo hi : Int) (kA : Option Addr) (kc : Nat) (kp : List (Option Addr × Nat)) (ks : List (List IT)) : countI (.mk k nm vr pA pc ps lo hi kA kc kp ks) = 1 + countKs ks := by rw [countI]
theorem countIs_nil : countIs [] = 0 := by rw [countIs]
theorem countIs_cons (x : IT) (xs : List IT) : countIs (x :: xs) = countI x + countIs xs := by rw [countIs]
theorem countKs_nil : countKs [] = 0 := by rw [countKs]
theorem countKs_cons (l : List IT) (ls : List (List IT)) : countKs (l :: ls) = countIs l + countKs ls := by rw [countKs]
theorem deepI_mk (k : Int) (nm vr : Nm) (pA : Option Addr) (pc : Nat) (ps : List ET) (lo hi : Int) (kA : Option Addr) (kc : Nat) (kp : List (Option Addr × Nat)) (ks : List (List IT)) : deepI (.mk k nm vr pA pc ps lo hi kA kc kp ks) = deepKs ks := by rw [deepI]
theorem deepIs_nil : deepIs [] = 0 := by rw [deepIs]
theorem deepIs_cons (x : IT) (xs : List IT) : deepIs (x :: xs) = max (1 + deepI x) (deepIs xs) := by rw [deepIs]
theorem deepKs_nil : deepKs [] = 0 := by rw [deepKs]
theorem deepKs_cons (l : List IT) (ls : List (List IT)) : deepKs (l :: ls) = max (deepIs l) (deepKs ls) := by rw [deepKs]
theorem countIs_append : ∀ (l m : List IT), countIs (l ++ m) = countIs l + countIs m
  | [], m => by rw [List.nil_append, countIs_nil]; omega
  | x :: xs, m => by rw [List.cons_append, countIs_cons, countIs_cons, countIs_append xs m]; omega
theorem deepIs_append : ∀ (l m : List IT), deepIs (l ++ m) = max (deepIs l) (deepIs m)
  | [], m => by rw [List.nil_append, deepIs_nil]; omega
  | x :: xs, m => by rw [List.cons_append, deepIs_cons, deepIs_cons, deepIs_append xs m]; omega
theorem putTl_append : ∀ (l m : List IT), putTl (l ++ m) = putTl l ++ putTl m
  | [], m => by rw [List.nil_append, putTl_nil, List.nil_append]
  | x :: xs, m => by rw [List.cons_append, putTl_cons, putTl_cons, putTl_append xs m]; simp
theorem putIs_append {l m : List IT} (hl : l ≠ []) (hm : m ≠ []) : putIs (l ++ m) = putIs l ++ ([32, 59, 32] ++ putIs m) := by
  match l, m, hl, hm with
  | x :: xs, y :: ys, _, _ => rw [List.cons_append, putIs_cons, putIs_cons, putIs_cons, putTl_append, putTl_cons]; simp
theorem rightLs_append : ∀ (l m : List IT), rightLs (l ++ m) = (rightLs l && rightLs m)
  | [], m => by rw [List.nil_append, rightLs]; rfl
  | x :: xs, m => by rw [List.cons_append, rightLs_cons, rightLs_cons, rightLs_append xs m, Bool.and_assoc]
theorem rightIs_append {l m : List IT} (hl : rightIs l = true) (hm : rightIs m = true) : rightIs (l ++ m) = true := by
  simp only [rightIs, Bool.and_eq_true] at hl hm ⊢
  refine ⟨?_, by rw [rightLs_append, hl.2, hm.2]; rfl⟩
  match l, hl with
  | x :: xs, _ => rfl
  | [], hl => simp at hl
theorem sameT_self : ∀ (n : Nat), (∀ t : ET, t.size ≤ n → sameT t t = true) := by
  intro n
  induction n with
  | zero => intro t h; obtain ⟨k, op, m, v, f, A, c, ks⟩ := t; rw [size_mk] at h; omega
  | succ n ih =>
    intro t h
    obtain ⟨k, op, m, v, f, A, c, ks⟩ := t
    rw [size_mk] at h
    have key : ∀ l : List ET, sizeL l ≤ n → sameLs l l = true := by
      intro l
      induction l with
      | nil => intro _; rw [sameLs]
      | cons x xs ihl =>
        intro hl
        rw [sizeL_cons] at hl
        rw [sameLs, ih x (by omega), ihl (by omega)]; rfl
    rw [sameT_eq, show (ET.mk k op m v f A c ks).ks = ks from rfl, key ks (by omega)]
    simp [aloneB, ET.k, ET.op, ET.n, ET.v, ET.f]
theorem sameT_refl (t : ET) : sameT t t = true := sameT_self _ t (Nat.le_refl _)
theorem samePs_refl : ∀ (l : List ET), samePs l l = true
  | [] => rfl
  | x :: xs => by rw [samePs, sameT_refl, samePs_refl xs]; rfl
theorem sames_refl : ∀ n : Nat, (∀ a : IT, sizeI a ≤ n → sameI a a = true) ∧ (∀ l : List IT, sizeIs l ≤ n → sameIs l l = true) ∧ (∀ l : List (List IT), sizeKs l ≤ n → sameKs l l = true) := by
  intro n
  induction n with
  | zero =>
    refine ⟨fun a h => ?_, fun l h => ?_, fun l h => ?_⟩
    · obtain ⟨k, nm, vr, pA, pc, ps, lo, hi, kA, kc, kp, ks⟩ := a
      rw [sizeI_mk] at h; omega
    · cases l with
      | cons x xs =>
        obtain ⟨k, nm, vr, pA, pc, ps, lo, hi, kA, kc, kp, ks⟩ := x
        rw [sizeIs_cons, sizeI_mk] at h; omega
      | nil => exact sameIs_nil
    · cases l with
      | cons x xs => rw [sizeKs_cons] at h; omega
      | nil => exact sameKs_nil
  | succ n ih =>
    have hI : ∀ a : IT, sizeI a ≤ n + 1 → sameI a a = true := by
      intro a h
      obtain ⟨k, nm, vr, pA, pc, ps, lo, hi, kA, kc, kp, ks⟩ := a
      rw [sizeI_mk] at h
      rw [sameI_mk]
      simp only [IT.k, IT.nm, IT.vr, IT.lo, IT.hi, IT.ps, IT.ks, samePs_refl, ih.2.2 ks (by omega), and_self, decide_true, Bool.and_self]
    have hL : ∀ l : List IT, sizeIs l ≤ n + 1 → sameIs l l = true := by
      intro l
      induction l with
      | nil => intro _; exact sameIs_nil
      | cons x xs ihl =>
        intro h
        rw [sizeIs_cons] at h
        rw [sameIs_cons, hI x (by omega), ihl (by omega)]; rfl
    refine ⟨hI, hL, ?_⟩
    intro l
    induction l with
    | nil => intro _; exact sameKs_nil
    | cons x xs ihl =>
      intro h
      rw [sizeKs_cons] at h
      rw [sameKs_cons, hL x (by omega), ihl (by omega)]; rfl
theorem sameI_refl (a : IT) : sameI a a = true := (sames_refl _).1 a (Nat.le_refl _)
theorem sameIs_refl (l : List IT) : sameIs l l = true := (sames_refl _).2.1 l (Nat.le_refl _)
/-- A list with more behind it is the same just if there is no more. -/
theorem sameIs_more : ∀ (l m : List IT), sameIs (l ++ m) l = m.isEmpty
  | [], [] => sameIs_nil
  | [], y :: ys => by rw [List.nil_append, sameIs]; rfl
  | x :: xs, m => by rw [List.cons_append, sameIs_cons, sameI_refl, sameIs_more xs m]; simp
/-- A choice. -/
def altT (A : Option Addr) (c : Nat) (kp : List (Option Addr × Nat)) (ks : List (List IT)) : IT := .mk 3 [] [] none 0 [] 0 0 A c kp ks
theorem rightI_alt {A : Option Addr} {c : Nat} {kp : List (Option Addr × Nat)} {ks : List (List IT)} (h : rightKs ks = true) : rightI (altT A c kp ks) = decide (2 ≤ ks.length) := by
  rw [altT, rightI, if_pos rfl, h]; simp
theorem putI_alt {A : Option Addr} {c : Nat} {kp : List (Option Addr × Nat)} {ks : List (List IT)} : putI (altT A c kp ks) = [40] ++ (putKs ks ++ [41]) := by
  rw [altT, putI_mk, if_pos rfl]
end Go.Proofs.YtbdfehgofnomhaaDoor
