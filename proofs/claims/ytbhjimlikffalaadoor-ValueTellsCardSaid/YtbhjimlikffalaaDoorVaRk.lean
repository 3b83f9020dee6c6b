/- Layer 8 without the program: what an expression tells. -/
import Derived.Test.YtbhjimlikffalaaDoorVaCon
import Derived.Test.YtbhjimlikffalaaDoorExRt
namespace Go.Proofs.YtbhjimlikffalaaDoor
open Go.RowKit
set_option linter.unusedVariables false

/-- What an operation of two tells: a truth that decides, or the second one, or what is reckoned of both. -/
def binV (op : Nm) (a b : Vl × Bool) : Vl × Bool :=
  match a.1 with
  | .t d => if d = (op == [124, 124]) then (.t d, a.2) else (b.1, a.2 || b.2)
  | .n x => match b.1 with
    | .n y => ((operV op x y).1, (a.2 || b.2) || (operV op x y).2)
    | .t _ => (.n 0, true)
def unV (a : Vl × Bool) : Vl × Bool := ((contrV a.1).1, a.2 || (contrV a.1).2)
mutual
/-- What is reckoned; whether it is bad. -/
def rk (l : List Bd) : ET → Vl × Bool
  | .mk k op n v f _ _ ks => if k = 0 then (.n n, false) else if k = 1 then (.n (lookV l v f).1, !(lookV l v f).2) else if k = 2 then rk1 l ks else rk2 l op ks
def rk1 (l : List Bd) : List ET → Vl × Bool
  | [] => (.n 0, true)
  | t :: _ => unV (rk l t)
def rk2 (l : List Bd) (op : Nm) : List ET → Vl × Bool
  | [] => (.n 0, true)
  | t :: ts => binV op (rk l t) (rk3 l ts)
def rk3 (l : List Bd) : List ET → Vl × Bool
  | [] => (.n 0, true)
  | t :: _ => rk l t
end
theorem rk_0 (l : List Bd) (op : Nm) (n : Int) (v f : Nm) (A : Option Addr) (c : Nat) (ks : List ET) : rk l (.mk 0 op n v f A c ks) = (.n n, false) := by rw [rk]; simp
theorem rk_1 (l : List Bd) (op : Nm) (n : Int) (v f : Nm) (A : Option Addr) (c : Nat) (ks : List ET) : rk l (.mk 1 op n v f A c ks) = (.n (lookV l v f).1, !(lookV l v f).2) := by rw [rk]; simp
theorem rk_2 (l : List Bd) (op : Nm) (n : Int) (v f : Nm) (A : Option Addr) (c : Nat) (x : ET) : rk l (.mk 2 op n v f A c [x]) = unV (rk l x) := by rw [rk, rk1]; simp
theorem rk_3 (l : List Bd) (op : Nm) (n : Int) (v f : Nm) (A : Option Addr) (c : Nat) (x y : ET) : rk l (.mk 3 op n v f A c [x, y]) = binV op (rk l x) (rk l y) := by rw [rk, rk2, rk3]; simp
/-- A value of this type. -/
def Vl.of (ty : Int) : Vl → Prop
  | .n x => ty = 1 ∧ in64 x
  | .t _ => ty = 2
/-- All numbers that are bound have 64 bits. -/
def Bd64 (l : List Bd) : Prop := ∀ x ∈ l, ∀ n ∈ x.vs, in64 n
theorem in64_0 : in64 0 := by unfold in64; decide
theorem field_in {x : Bd} (h : ∀ n ∈ x.vs, in64 n) (f : Nm) : in64 (fieldV x f).1 := by
  unfold fieldV
  split
  · exact in64_0
  · rename_i hh
    have hi : (indexV x.fs f).toNat < x.vs.length := by omega
    simp only [List.getD_eq_getElem?_getD, List.getElem?_eq_getElem hi, Option.getD_some]
    exact h _ (List.getElem_mem hi)
theorem look_in {l : List Bd} (h : Bd64 l) (v f : Nm) : in64 (lookV l v f).1 := by
  unfold lookV
  split
  · rename_i x hx
    have := List.mem_of_find?_eq_some hx
    rw [List.mem_reverse] at this
    exact field_in (h _ this) f
  · exact in64_0
theorem div_in64 {a b : Int} (ha : in64 a) : in64 (divV a b).1 := by
  unfold divV
  split
  · exact tdiv_in ha (by assumption)
  · exact in64_0
theorem rem_in64 {a b : Int} (ha : in64 a) (hb : in64 b) : in64 (remV a b).1 := by
  unfold remV
  split
  · exact tmod_in ha hb (by assumption)
  · exact in64_0
theorem contr_of {v : Vl} {ty : Int} (h : v.of ty) : (contrV v).1.of ty := by
  cases v with
  | n x => exact ⟨h.1, ck_in _⟩
  | t b => exact h
theorem lev_op {op : Nm} (h : op = [43] ∨ op = [45] ∨ op = [42] ∨ op = [47] ∨ op = [37]) : opT op = (1, 1) := by
  rcases h with rfl | rfl | rfl | rfl | rfl <;> kernel_rfl
theorem oper_of {op : Nm} {a b : Int} {ty : Int} (h : opT op = (1, ty)) (h33 : op ≠ [33]) (hl : levB op ≠ 0) (ha : in64 a) (hb : in64 b) : (operV op a b).1.of ty := by
  by_cases ho : op = [43] ∨ op = [45] ∨ op = [42] ∨ op = [47] ∨ op = [37]
  · have e := lev_op ho
    rw [h] at e
    have : ty = 1 := by simpa using e
    subst this
    unfold operV
    rcases ho with rfl | rfl | rfl | rfl | rfl <;> simp only [List.cons.injEq, and_true, if_true] <;> first | exact ⟨rfl, ck_in _⟩ | exact ⟨rfl, div_in64 ha⟩ | exact ⟨rfl, rem_in64 ha hb⟩
  · have e : operV op a b = (.t (cmpV op a b), false) := by
      unfold operV
      rw [if_neg (fun e => ho (.inl e)), if_neg (fun e => ho (.inr (.inl e))), if_neg (fun e => ho (.inr (.inr (.inl e)))), if_neg (fun e => ho (.inr (.inr (.inr (.inl e))))), if_neg (fun e => ho (.inr (.inr (.inr (.inr e)))))]
    rw [e]
    show ty = 2
    have h4 : levB op ≤ 4 := by
      simp only [not_or] at ho
      obtain ⟨h1, h2, h3, h4, h5⟩ := ho
      unfold levB
      repeat' split
      all_goals first | omega | contradiction
    have h1 := (lev_le op).1
    unfold opT at h
    split at h
    · simp at h
    · rw [if_pos (by omega)] at h
      simpa using h.symm
theorem bin_of {op : Nm} {a b : Vl × Bool} {s ty : Int} (h : opT op = (s, ty)) (h33 : op ≠ [33]) (hl : levB op ≠ 0) (ha : a.1.of s) (hb : b.1.of s) : (binV op a b).1.of ty := by
  obtain ⟨a1, a2⟩ := a
  obtain ⟨b1, b2⟩ := b
  cases a1 with
  | t d =>
    obtain rfl : s = 2 := ha
    have hty : ty = 2 := by
      rcases opT_pair op with e | e | e <;> rw [h] at e <;> simp at e
      exact e
    subst hty
    unfold binV
    simp only
    split
    · rfl
    · exact hb
  | n x =>
    obtain ⟨rfl, hx⟩ := ha
    cases b1 with
    | t d => exact absurd (show (1 : Int) = 2 from hb) (by decide)
    | n y => exact oper_of h h33 hl hx hb.2
theorem len_two {α : Type} {l : List α} (h : l.length = 2) : ∃ x y, l = [x, y] := by
  match l, h with
  | [x, y], _ => exact ⟨x, y, rfl⟩
theorem un_of {a : Vl × Bool} {ty : Int} (h : a.1.of ty) : (unV a).1.of ty := contr_of h
theorem rk_of {l : List Bd} (h64 : Bd64 l) {w : World} : ∀ t : ET, t.In w → rightT t = true → typT t ≠ 0 → (rk l t).1.of (typT t) := by
  refine ET.ind fun k op n v f A c ks ih hin hr ht => ?_
  have h1 := one_kinds (right_one hr)
  have hk := right_kids hr
  rcases h1 with ⟨rfl, hm, hn, rfl, rfl, rfl⟩ | ⟨rfl, hm, hv, hf, rfl, rfl⟩ | ⟨rfl, hm, ho, -⟩ | ⟨rfl, hm, hl, -⟩
  · obtain rfl := List.eq_nil_of_length_eq_zero hm
    rw [rk_0, typ_nil]
    have := hin.ok
    exact ⟨rfl, this.1, this.2.1⟩
  · obtain rfl := List.eq_nil_of_length_eq_zero hm
    rw [rk_1, typ_nil]
    exact ⟨rfl, look_in h64 v f⟩
  · obtain ⟨x, rfl⟩ := List.length_eq_one_iff.1 hm
    obtain ⟨t1, t2⟩ := typ_one ht
    rw [rk_2, t2]
    have hx := ih x (by simp) (hin.kids 0 (by simp)).2 (hk x (by simp)) (by rcases ho with rfl | rfl <;> rw [t1] <;> decide)
    have e : (opT op).1 = (opT op).2 := by rcases ho with rfl | rfl <;> kernel_rfl
    rw [← e, ← t1]
    exact un_of hx
  · obtain ⟨x, y, rfl⟩ := len_two hm
    obtain ⟨t1, t2, t3⟩ := typ_two ht
    rw [rk_3, t3]
    have hn : (opT op).1 ≠ 0 := by rcases opT_pair op with e | e | e <;> rw [e] <;> decide
    have hx := ih x (by simp) (hin.kids 0 (by simp)).2 (hk x (by simp)) (by rw [t1]; exact hn)
    have hy := ih y (by simp) (hin.kids 1 (by simp)).2 (hk y (by simp)) (by rw [t2]; exact hn)
    rw [t1] at hx
    rw [t2] at hy
    refine bin_of (s := (opT op).1) rfl ?_ hl hx hy
    rintro rfl
    exact hl (by kernel_rfl)
/-- What Eval tells. -/
def evV (l : List Bd) (t : ET) : Int × Bool := if typeT t = 0 then (0, false) else if (rk l t).2 = true then (0, false) else (asN (rk l t).1, true)
/-- What Holds tells. -/
def holdsV (l : List Bd) (t : ET) : Bool := (evV l t).2 && decide ((evV l t).1 = 1) && decide (typeT t = 2)
end Go.Proofs.YtbhjimlikffalaaDoor
