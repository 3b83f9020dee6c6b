/- What is put of an event is got as the same; no walk. -/
import Derived.Test.YtglhebpblncjaaaDoorWrSame
namespace Go.Proofs.YtglhebpblncjaaaDoor
open Go.RowKit
set_option linter.unusedVariables false

theorem wput_mid (k : Nat) (T : Int) (l : List Int) (hk : k < 256) (h8 : l.length ≤ 8) : wput k T l = (put 1 k ++ put 1 l.length) ++ (put 8 (u64n T) ++ vs l) := by
  rw [wput_yes (wok_yes hk h8), hd]
  simp only [List.append_assoc]
theorem wput_length (k : Nat) (T : Int) (l : List Int) (hk : k < 256) (h8 : l.length ≤ 8) : (wput k T l).length = 10 + 8 * l.length := by
  rw [wput_yes (wok_yes hk h8), List.length_append, hd_length, vs_length]
theorem Lies.take {w : World} {A : Option Addr} {l : List Int} (h : Lies w A (ints l)) (n : Nat) : Lies w A (ints (l.take n)) := fun i u hu => by
  refine h i u ?_
  simp only [ints] at hu ⊢
  rw [List.map_take, List.getElem?_take] at hu
  split at hu
  · exact hu
  · cases hu
def In64 (n : Int) : Prop := -9223372036854775808 ≤ n ∧ n ≤ 9223372036854775807
theorem byteAt_here (P S : List UInt8) (k : Nat) (h : k < 256) : byteAt (P ++ (put 1 k ++ S)) P.length = k := by
  have e : put 1 k = [UInt8.ofNat (k % 256)] := by simp [put]
  unfold byteAt
  rw [e, List.getD_eq_getElem?_getD]
  simp
  omega
theorem intAt_here (P S : List UInt8) (n : Int) (h : In64 n) : intAt (P ++ (put 8 (u64n n) ++ S)) P.length = n := by
  unfold intAt
  rw [List.drop_left, List.take_left' (put_length 8 _), num_put_of (by have := u64n_lt n; omega)]
  exact u64n_back h.1 h.2
theorem vs_split (l : List Int) (i : Nat) (h : i < l.length) : vs l = vs (l.take i) ++ (put 8 (u64n (l.getD i 0)) ++ vs (l.drop (i + 1))) := by
  have e : l = l.take i ++ (l.getD i 0 :: l.drop (i + 1)) := by
    rw [List.getD_eq_getElem?_getD, List.getElem?_eq_getElem h, Option.getD_some, ← List.drop_eq_getElem_cons h, List.take_append_drop]
  conv => lhs; rw [e]
  rw [vs_append]
  rfl
section
variable {k : Nat} {T : Int} {l : List Int} (hk : k < 256) (h8 : l.length ≤ 8)
include hk h8
theorem put_b0 : byteAt (wput k T l) 0 = k := by
  rw [wput_mid k T l hk h8, List.append_assoc]
  exact byteAt_here [] _ k hk
theorem put_b1 : byteAt (wput k T l) 1 = l.length := by
  rw [wput_mid k T l hk h8, List.append_assoc]
  have := byteAt_here (put 1 k) (put 8 (u64n T) ++ vs l) l.length (by omega)
  rwa [put_length] at this
theorem put_t (hT : In64 T) : intAt (wput k T l) 2 = T := by
  rw [wput_mid k T l hk h8]
  have := intAt_here (put 1 k ++ put 1 l.length) (vs l) T hT
  rwa [List.length_append, put_length, put_length] at this
theorem put_ok : gok (wput k T l) = true := by
  have h1 := put_b1 (T := T) hk h8
  have h2 := wput_length k T l hk h8
  exact gok_yes (by rw [h1]; exact h8) (by rw [h1, h2])
theorem put_i (hl : ∀ n ∈ l, In64 n) (i : Nat) (hi : i < l.length) : intAt (wput k T l) (10 + 8 * i) = l.getD i 0 := by
  rw [wput_yes (wok_yes hk h8), vs_split l i hi, ← List.append_assoc]
  have hm : l.getD i 0 ∈ l := by rw [List.getD_eq_getElem?_getD, List.getElem?_eq_getElem hi, Option.getD_some]; exact List.getElem_mem hi
  have := intAt_here (hd k l.length T ++ vs (l.take i)) (vs (l.drop (i + 1))) (l.getD i 0) (hl _ hm)
  rw [List.length_append, hd_length, vs_length, List.length_take, Nat.min_eq_left (by omega)] at this
  exact this
theorem put_vs (hl : ∀ n ∈ l, In64 n) : gvs (wput k T l) = l := by
  apply List.ext_getElem
  · rw [gvs_length, put_b1 hk h8]
  · intro i h1 h2
    have e := gvs_get (wput k T l) (k := i) (by rw [put_b1 hk h8]; exact h2)
    rw [put_i hk h8 hl i h2, List.getD_eq_getElem?_getD, List.getElem?_eq_getElem h1, Option.getD_some, List.getD_eq_getElem?_getD, List.getElem?_eq_getElem h2, Option.getD_some] at e
    exact e
theorem got_K : gK (wput k T l) = k := by rw [gK, if_pos (put_ok hk h8), put_b0 hk h8]
theorem got_T (hT : In64 T) : gT (wput k T l) = T := by rw [gT, if_pos (put_ok hk h8), put_t hk h8 hT]
theorem got_V (hl : ∀ n ∈ l, In64 n) : gV (wput k T l) = l := by rw [gV, if_pos (put_ok hk h8), put_vs hk h8 hl]
theorem got_E : gE (wput k T l) = 0 := by rw [gE, if_pos (put_ok hk h8)]
end
theorem put_same {k j : Nat} {T U : Int} {l r : List Int} (hk : k < 256) (h8 : l.length ≤ 8) (hj : j < 256) (hr8 : r.length ≤ 8) (hT : In64 T) (hU : In64 U) (hl : ∀ n ∈ l, In64 n) (hr : ∀ n ∈ r, In64 n) :
    (wput k T l == wput j U r) = sameE k T l j U r := by
  by_cases h : (k : Int) = j ∧ T = U ∧ l = r
  · have hs : sameE k T l j U r = true := decide_eq_true h
    obtain ⟨h1, rfl, rfl⟩ := h
    obtain rfl : k = j := by omega
    rw [hs]
    simp
  · have hs : sameE k T l j U r = false := decide_eq_false h
    rw [hs]
    apply beq_eq_false_iff_ne.2
    intro e
    apply h
    refine ⟨?_, ?_, ?_⟩
    · have := got_K (T := T) hk h8; rw [e, got_K hj hr8] at this; exact this.symm
    · have := got_T hk h8 hT; rw [e, got_T hj hr8 hU] at this; exact this.symm
    · have := got_V (T := T) hk h8 hl; rw [e, got_V hj hr8 hr] at this; exact this.symm
theorem same_self (K T : Int) (l : List Int) : sameE K T l K T l = true := by unfold sameE; simp
end Go.Proofs.YtglhebpblncjaaaDoor
