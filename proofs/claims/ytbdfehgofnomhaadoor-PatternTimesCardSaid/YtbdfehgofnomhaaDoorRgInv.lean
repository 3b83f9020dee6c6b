/- A region that draws its order, by what holds however far it has come: each operation is run once, whatever came ahead of it. -/
import Derived.Test.YtbdfehgofnomhaaDoorBase
import Derived.Deep.RegionHeld3
namespace Go.Proofs.YtbdfehgofnomhaaDoor
open Go.RowKit
set_option linter.unusedVariables false

theorem filt_le {p q : Nat → Bool} (h : ∀ j, q j = true → p j = true) : ∀ L : List Nat, (L.filter q).length ≤ (L.filter p).length
  | [] => by simp
  | x :: xs => by
    have ih := filt_le h xs
    simp only [List.filter_cons]
    cases hq : q x with
    | true => rw [h x hq]; simp only [if_true, List.length_cons]; omega
    | false => cases p x <;> simp <;> omega
theorem filt_lt {p q : Nat → Bool} {i : Nat} (h : ∀ j, q j = true → p j = true) (hp : p i = true) (hq : q i = false) : ∀ L : List Nat, i ∈ L → (L.filter q).length < (L.filter p).length
  | x :: xs, hi => by
    simp only [List.filter_cons]
    rcases List.mem_cons.1 hi with rfl | hi
    · have := filt_le h xs
      rw [hp, hq]; simp; omega
    · have ih := filt_lt h hp hq xs hi
      cases hqx : q x with
      | true => rw [h x hqx]; simp only [if_true, List.length_cons]; omega
      | false => cases p x <;> simp <;> omega
theorem getD_set_ne {l : Array Bool} {i j : Nat} {d : Bool} (h : j ≠ i) : (l.setIfInBounds i true).getD j d = l.getD j d := by
  simp only [Array.getD_eq_getD_getElem?, Array.getElem?_setIfInBounds]
  rw [if_neg (fun e => h e.symm)]
theorem getD_set_self {l : Array Bool} {i : Nat} {d : Bool} (h : i < l.size) : (l.setIfInBounds i true).getD i d = true := by
  simp [Array.getD_eq_getD_getElem?, h]
theorem getD_both {l : Array Bool} {i : Nat} (h : i < l.size) : l.getD i true = l.getD i false := by
  simp [Array.getD_eq_getD_getElem?, h]
section
variable {P : Program} {ops : Array Oper} {Q : Exit → Act → World → Prop}
/-- How many have not come yet. -/
def leftN (n : Nat) (l : Array Bool) : Nat := ((List.range n).filter fun i => !l.getD i true).length
theorem wpAny_inv (I : Array Bool → Act → World → Prop) (hw : ∀ (i : Nat) o, ops[i]? = some o → ∀ e ∈ o.after.toList, e.on < i)
    (hs : ∀ l a w, l.size = ops.size → I l a w → ∀ (i : Nat) o, ops[i]? = some o → (∀ e ∈ o.after.toList, Region.binds .any e = true → l.getD e.on false = true) → l.getD i false = false →
      ∀ K : Act → World → Prop, (∀ a w, I (l.setIfInBounds i true) a w → K a w) → if Region.wanted o (yielded ops a.tmps) = true then Oper.wp P o a w K Q else K (a.put o.dst undef) w)
    (hd : ∀ l a w, l.size = ops.size → (∀ i, i < ops.size → l.getD i false = true) → I l a w → Q .normal a w) :
    ∀ (fuel : Nat) (l : Array Bool) (a : Act) (w : World), l.size = ops.size → leftN ops.size l ≤ fuel → I l a w → wpAny P .any ops Q fuel l a w := by
  intro fuel
  induction fuel with
  | zero =>
    intro l a w hl hf hI
    have hall : ∀ i, i < ops.size → l.getD i false = true := fun i hi => by
      have h0 : ((List.range ops.size).filter fun i => !l.getD i true) = [] := List.length_eq_zero_iff.1 (by unfold leftN at hf; omega)
      have := List.filter_eq_nil_iff.1 h0 i (List.mem_range.2 hi)
      rw [getD_both (by omega)] at this
      simpa using this
    refine ⟨?_, hd l a w hl hall hI⟩
    unfold Region.ready
    refine List.filter_eq_nil_iff.2 fun i hi => ?_
    rw [getD_both (by have := List.mem_range.1 hi; omega), hall i (List.mem_range.1 hi)]
    simp
  | succ fuel ih =>
    intro l a w hl hf hI
    refine ⟨fun h0 => ?_, fun i hi => ?_⟩
    · refine hd l a w hl (fun i => ?_) hI
      induction i using Nat.strongRecOn with
      | _ i ihi =>
        intro hi
        unfold Region.ready at h0
        have hn := List.filter_eq_nil_iff.1 h0 i (List.mem_range.2 hi)
        cases hc : l.getD i false with
        | true => rfl
        | false =>
          exfalso
          apply hn
          rw [getD_both (by omega), hc, Array.getElem?_eq_getElem hi]
          simp only [Bool.not_false, Bool.true_and, Option.map_some, Option.getD_some, Array.all_eq_true']
          intro e he
          rw [ihi e.on (hw i ops[i] (Array.getElem?_eq_getElem hi) e (by simpa using he)) (by have := hw i ops[i] (Array.getElem?_eq_getElem hi) e (by simpa using he); omega)]
          simp
    · unfold Region.ready at hi
      obtain ⟨hr, hc⟩ := List.mem_filter.1 hi
      have hlt := List.mem_range.1 hr
      rw [getD_both (by omega), Array.getElem?_eq_getElem hlt] at hc
      simp only [Bool.and_eq_true, Option.map_some, Option.getD_some, Array.all_eq_true', Bool.not_eq_true', Bool.or_eq_true] at hc
      have ho : ops[i]? = some ops[i] := Array.getElem?_eq_getElem hlt
      refine wpOp_step ho fun K' hK => hs l a w hl hI i ops[i] ho (fun e he hb => ?_) hc.1 K' fun a' w' hI' => hK a' w' (ih _ _ _ (by rw [Array.size_setIfInBounds]; exact hl) ?_ hI')
      · rcases hc.2 e (by simpa using he) with h | h
        · rw [hb] at h; cases h
        · exact h
      · have : leftN ops.size (l.setIfInBounds i true) < leftN ops.size l := filt_lt (fun j hj => by
            by_cases e : j = i
            · subst e; rw [getD_set_self (by omega)] at hj; cases hj
            · rwa [getD_set_ne e] at hj) (by rw [getD_both (by omega), hc.1]; rfl) (by rw [getD_set_self (by omega)]; rfl) _ hr
        omega
/-- A region in whatever order. -/
theorem wp_region_inv {id : Nat} {a : Act} {w : World} (I : Array Bool → Act → World → Prop) (hm : P.follows .mixedOrders = true) (hw : ((List.range ops.size).all fun i => ((ops[i]?).map fun o => o.after.all fun e => decide (e.on < i)).getD true) = true)
    (h0 : I (Array.replicate ops.size false) a w.drew)
    (hs : ∀ l a w, l.size = ops.size → I l a w → ∀ (i : Nat) o, ops[i]? = some o → (∀ e ∈ o.after.toList, Region.binds .any e = true → l.getD e.on false = true) → l.getD i false = false →
      ∀ K : Act → World → Prop, (∀ a w, I (l.setIfInBounds i true) a w → K a w) → if Region.wanted o (yielded ops a.tmps) = true then Oper.wp P o a w K Q else K (a.put o.dst undef) w)
    (hd : ∀ l a w, l.size = ops.size → (∀ i, i < ops.size → l.getD i false = true) → I l a w → Q .normal a w) : (Code.region id ops true).wp P Q a w :=
  wp_region_any hm (wpAny_inv I (fun i o ho e he => by
    have h1 := List.all_eq_true.1 hw i (List.mem_range.2 (Array.getElem?_eq_some_iff.1 ho).1)
    rw [ho, Option.map_some, Option.getD_some, Array.all_eq_true'] at h1
    exact of_decide_eq_true (h1 e (by simpa using he))) hs hd _ _ _ _ (by simp) (by unfold leftN; exact Nat.le_trans (List.length_filter_le _ _) (by simp)) h0)
/-- What holds of one that has come holds on, where another comes. -/
theorem was {l : Array Bool} {i j : Nat} (h : (l.setIfInBounds i true).getD j false = true) (hne : (j == i) = false) : l.getD j false = true := by
  rwa [getD_set_ne (by simpa using hne)] at h
theorem wasnt {l : Array Bool} {i j : Nat} (h : (l.setIfInBounds i true).getD j false = false) (hne : (j == i) = false) : l.getD j false = false := by
  rwa [getD_set_ne (by simpa using hne)] at h
end
end Go.Proofs.YtbdfehgofnomhaaDoor
