/- Layer 9: a block of seven cells set anew. -/
import Derived.Test.YtbdfehgofnomhaaDoorQMe
import Derived.Test.YtbdfehgofnomhaaDoorExTr
import Derived.Test.YtbdfehgofnomhaaDoorExHid
import Derived.Test.YtbdfehgofnomhaaDoorBase
import Derived.Deep.RegionHeld3
import Derived.Test.YtbdfehgofnomhaaDoorQPu
import Derived.Test.YtbdfehgofnomhaaDoorQWa
namespace Go.Proofs.YtbdfehgofnomhaaDoor
open Go.RowKit
set_option linter.unusedVariables false
theorem bwA {w w' : World} (h : Below w.heap.size w w') (o : Obj) : Below w.heap.size w (w'.alloc o) := h.alloc h.size o
theorem bwD {w w' : World} (h : Below w.heap.size w w') : Below w.heap.size w w'.drew := h.drew
theorem bwT {w w' w'' : World} (h : Below w.heap.size w w') (h' : Below w'.heap.size w' w'') : Below w.heap.size w w'' := h.trans (h'.mono h.size)
theorem hasA {w : World} {q : Nat} {t : TypeId} {cs : Array Value} (h : Has w q t cs) (o : Obj) : Has (w.alloc o) q t cs := h.below (step1 w o) h.lt
theorem hasD {w : World} {q : Nat} {t : TypeId} {cs : Array Value} (h : Has w q t cs) : Has w.drew q t cs := h
theorem hasB {w w' : World} {q : Nat} {t : TypeId} {cs : Array Value} (hb : Below w.heap.size w w') (h : Has w q t cs) : Has w' q t cs := h.below hb h.lt
theorem hasS {w : World} {p q : Nat} {t : TypeId} {cs : Array Value} (h : Has w q t cs) (i : Nat) (u : Value) (hq : q ≠ p) : Has (w.setCell ⟨p, i, none⟩ u) q t cs := ((set_grown w ⟨p, i, none⟩ u).block q h.lt (by simpa using hq)).trans h
theorem hasP {w : World} {q : Nat} {t : TypeId} {cs : Array Value} (h : Has w q t cs) (i : Nat) (u : Value) : Has (w.setCell ⟨q, i, none⟩ u) q t (cs.setIfInBounds i u) := h.put i u
abbrev zer7 : Array Value := #[.int .i64 0, .string { data := #[] }, .string { data := #[] }, .slice none 0 0, .int .i64 0, .int .i64 0, .slice none 0 0]
theorem zer7_facts {w : World} {q : Nat} {t : TypeId} (h : Has w q t zer7) : (w.cell? ⟨q, 0, none⟩ = some (.int .i64 0) ∧ w.cell? ⟨q, 1, none⟩ = some (.string { data := #[] }) ∧ w.cell? ⟨q, 2, none⟩ = some (.string { data := #[] }) ∧ w.cell? ⟨q, 3, none⟩ = some (.slice none 0 0) ∧ w.cell? ⟨q, 4, none⟩ = some (.int .i64 0) ∧ w.cell? ⟨q, 5, none⟩ = some (.int .i64 0) ∧ w.cell? ⟨q, 6, none⟩ = some (.slice none 0 0))
  ∧ (w.frozen? ⟨q, 0, none⟩ = false ∧ w.frozen? ⟨q, 1, none⟩ = false ∧ w.frozen? ⟨q, 2, none⟩ = false ∧ w.frozen? ⟨q, 3, none⟩ = false ∧ w.frozen? ⟨q, 4, none⟩ = false ∧ w.frozen? ⟨q, 5, none⟩ = false ∧ w.frozen? ⟨q, 6, none⟩ = false) ∧ q < w.heap.size :=
  ⟨⟨h.cell 0, h.cell 1, h.cell 2, h.cell 3, h.cell 4, h.cell 5, h.cell 6⟩, ⟨h.free 0, h.free 1, h.free 2, h.free 3, h.free 4, h.free 5, h.free 6⟩, h.lt⟩
/-- All seven cells of a block set anew. -/
def set7 (w : World) (q : Nat) (u0 u1 u2 u3 u4 u5 u6 : Value) : World := ((((((w.setCell ⟨q, 0, none⟩ u0).setCell ⟨q, 1, none⟩ u1).setCell ⟨q, 2, none⟩ u2).setCell ⟨q, 3, none⟩ u3).setCell ⟨q, 4, none⟩ u4).setCell ⟨q, 5, none⟩ u5).setCell ⟨q, 6, none⟩ u6
theorem set7_has {w : World} {q : Nat} {t : TypeId} {z0 z1 z2 z3 z4 z5 z6 : Value} (h : Has w q t #[z0, z1, z2, z3, z4, z5, z6]) (u0 u1 u2 u3 u4 u5 u6 : Value) : Has (set7 w q u0 u1 u2 u3 u4 u5 u6) q t #[u0, u1, u2, u3, u4, u5, u6] := by
  have := ((((((h.put 0 u0).put 1 u1).put 2 u2).put 3 u3).put 4 u4).put 5 u5).put 6 u6
  unfold set7
  simpa using this
theorem set7_below {w : World} {q B : Nat} (h : B ≤ q) (u0 u1 u2 u3 u4 u5 u6 : Value) : Below B w (set7 w q u0 u1 u2 u3 u4 u5 u6) :=
  ((((((((Below.refl B w).setCell (p := ⟨q, 0, none⟩) h _).setCell (p := ⟨q, 1, none⟩) h _).setCell (p := ⟨q, 2, none⟩) h _).setCell (p := ⟨q, 3, none⟩) h _).setCell (p := ⟨q, 4, none⟩) h _).setCell (p := ⟨q, 5, none⟩) h _).setCell (p := ⟨q, 6, none⟩) h _)
theorem has_one {w : World} {q : Nat} {t t' : TypeId} {cs cs' : Array Value} (h : Has w q t cs) (h' : Has w q t' cs') : cs = cs' := by
  have := h.symm.trans h'
  injection this with e
  injection e
/-- What lies elsewhere is as it was: it is elsewhere if it is another thing. -/
theorem set7_keep {w : World} {p : Nat} {t0 : TypeId} {c0 : Array Value} (hz : Has w p t0 c0) (u0 u1 u2 u3 u4 u5 u6 : Value) (q : Nat) (t : TypeId) (cs : Array Value) (h : Has w q t cs) (hne : cs ≠ c0) : Has (set7 w p u0 u1 u2 u3 u4 u5 u6) q t cs := by
  have hq : q ≠ p := fun e => hne (by subst e; exact has_one h hz)
  exact hasS (hasS (hasS (hasS (hasS (hasS (hasS h _ _ hq) _ _ hq) _ _ hq) _ _ hq) _ _ hq) _ _ hq) _ _ hq
end Go.Proofs.YtbdfehgofnomhaaDoor
/- Layer 9: a block of three cells set anew. -/
namespace Go.Proofs.YtbdfehgofnomhaaDoor
open Go.RowKit
set_option linter.unusedVariables false

def set3 (w : World) (q : Nat) (u0 u1 u2 : Value) : World := ((w.setCell ⟨q, 0, none⟩ u0).setCell ⟨q, 1, none⟩ u1).setCell ⟨q, 2, none⟩ u2
theorem set3_has {w : World} {q : Nat} {t : TypeId} {z0 z1 z2 : Value} (h : Has w q t #[z0, z1, z2]) (u0 u1 u2 : Value) : Has (set3 w q u0 u1 u2) q t #[u0, u1, u2] := by
  have := ((h.put 0 u0).put 1 u1).put 2 u2
  unfold set3
  simpa using this
theorem set3_below {w : World} {q B : Nat} (h : B ≤ q) (u0 u1 u2 : Value) : Below B w (set3 w q u0 u1 u2) :=
  (((Below.refl B w).setCell (p := ⟨q, 0, none⟩) h _).setCell (p := ⟨q, 1, none⟩) h _).setCell (p := ⟨q, 2, none⟩) h _
theorem set3_same {w : World} {p q : Nat} (u0 u1 u2 : Value) (h : q ≠ p) : (set3 w p u0 u1 u2).heap[q]? = w.heap[q]? := by
  unfold set3
  have hs : ∀ (w : World) i u, (w.setCell ⟨p, i, none⟩ u).heap[q]? = w.heap[q]? := fun w i u => by
    simp [World.setCell, Array.getElem?_modify, Ne.symm h]
  rw [hs, hs, hs]
abbrev zer3 : Array Value := #[.slice none 0 0, .int .i64 0, .string { data := #[] }]
theorem zer3_facts {w : World} {q : Nat} {t : TypeId} (h : Has w q t zer3) : (w.cell? ⟨q, 0, none⟩ = some (.slice none 0 0) ∧ w.cell? ⟨q, 1, none⟩ = some (.int .i64 0) ∧ w.cell? ⟨q, 2, none⟩ = some (.string { data := #[] }))
  ∧ (w.frozen? ⟨q, 0, none⟩ = false ∧ w.frozen? ⟨q, 1, none⟩ = false ∧ w.frozen? ⟨q, 2, none⟩ = false) ∧ q < w.heap.size :=
  ⟨⟨h.cell 0, h.cell 1, h.cell 2⟩, ⟨h.free 0, h.free 1, h.free 2⟩, h.lt⟩
theorem set3_keep {w : World} {p : Nat} {t0 : TypeId} {c0 : Array Value} (hz : Has w p t0 c0) (u0 u1 u2 : Value) (q : Nat) (t : TypeId) (cs : Array Value) (h : Has w q t cs) (hne : cs ≠ c0) : Has (set3 w p u0 u1 u2) q t cs := by
  have hq : q ≠ p := fun e => hne (by subst e; exact has_one h hz)
  exact (set3_same _ _ _ hq).trans h
end Go.Proofs.YtbdfehgofnomhaaDoor
/- A region that draws its order, by what holds however far it has come: each operation is run once, whatever came ahead of it. -/
namespace Go.Proofs.YtbdfehgofnomhaaDoor
open Go.RowKit
set_option linter.unusedVariables false

theorem filt_le {p q : Nat → Bool} (h : ∀ j, q j = true → p j = true) : ∀ L : List Nat, (L.filter q).length ≤ (L.filter p).length
  | [] => by simp
  | x :: xs => by
    have ih := filt_le h xs
    simp only [List.filter_cons]
    cases hq : q x with
    | true => rw [h x hq]; simp only [if_true, List.length_cons]; omega
    | false => cases p x <;> simp <;> omega
theorem filt_lt {p q : Nat → Bool} {i : Nat} (h : ∀ j, q j = true → p j = true) (hp : p i = true) (hq : q i = false) : ∀ L : List Nat, i ∈ L → (L.filter q).length < (L.filter p).length
  | x :: xs, hi => by
    simp only [List.filter_cons]
    rcases List.mem_cons.1 hi with rfl | hi
    · have := filt_le h xs
      rw [hp, hq]; simp; omega
    · have ih := filt_lt h hp hq xs hi
      cases hqx : q x with
      | true => rw [h x hqx]; simp only [if_true, List.length_cons]; omega
      | false => cases p x <;> simp <;> omega
theorem getD_set_ne {l : Array Bool} {i j : Nat} {d : Bool} (h : j ≠ i) : (l.setIfInBounds i true).getD j d = l.getD j d := by
  simp only [Array.getD_eq_getD_getElem?, Array.getElem?_setIfInBounds]
  rw [if_neg (fun e => h e.symm)]
theorem getD_set_self {l : Array Bool} {i : Nat} {d : Bool} (h : i < l.size) : (l.setIfInBounds i true).getD i d = true := by
  simp [Array.getD_eq_getD_getElem?, h]
theorem getD_both {l : Array Bool} {i : Nat} (h : i < l.size) : l.getD i true = l.getD i false := by
  simp [Array.getD_eq_getD_getElem?, h]
section
variable {P : Program} {ops : Array Oper} {Q : Exit → Act → World → Prop}
/-- How many have not come yet. -/
def leftN (n : Nat) (l : Array Bool) : Nat := ((List.range n).filter fun i => !l.getD i true).length
theorem wpAny_inv (I : Array Bool → Act → World → Prop) (hw : ∀ (i : Nat) o, ops[i]? = some o → ∀ e ∈ o.after.toList, e.on < i)
    (hs : ∀ l a w, l.size = ops.size → I l a w → ∀ (i : Nat) o, ops[i]? = some o → (∀ e ∈ o.after.toList, Region.binds .any e = true → l.getD e.on false = true) → l.getD i false = false →
      ∀ K : Act → World → Prop, (∀ a w, I (l.setIfInBounds i true) a w → K a w) → if Region.wanted o (yielded ops a.tmps) = true then Oper.wp P o a w K Q else K (a.put o.dst undef) w)
    (hd : ∀ l a w, l.size = ops.size → (∀ i, i < ops.size → l.getD i false = true) → I l a w → Q .normal a w) :
    ∀ (fuel : Nat) (l : Array Bool) (a : Act) (w : World), l.size = ops.size → leftN ops.size l ≤ fuel → I l a w → wpAny P .any ops Q fuel l a w := by
  intro fuel
  induction fuel with
  | zero =>
    intro l a w hl hf hI
    have hall : ∀ i, i < ops.size → l.getD i false = true := fun i hi => by
      have h0 : ((List.range ops.size).filter fun i => !l.getD i true) = [] := List.length_eq_zero_iff.1 (by unfold leftN at hf; omega)
      have := List.filter_eq_nil_iff.1 h0 i (List.mem_range.2 hi)
      rw [getD_both (by omega)] at this
      simpa using this
    refine ⟨?_, hd l a w hl hall hI⟩
    unfold Region.ready
    refine List.filter_eq_nil_iff.2 fun i hi => ?_
    rw [getD_both (by have := List.mem_range.1 hi; omega), hall i (List.mem_range.1 hi)]
    simp
  | succ fuel ih =>
    intro l a w hl hf hI
    refine ⟨fun h0 => ?_, fun i hi => ?_⟩
    · refine hd l a w hl (fun i => ?_) hI
      induction i using Nat.strongRecOn with
      | _ i ihi =>
        intro hi
        unfold Region.ready at h0
        have hn := List.filter_eq_nil_iff.1 h0 i (List.mem_range.2 hi)
        cases hc : l.getD i false with
        | true => rfl
        | false =>
          exfalso
          apply hn
          rw [getD_both (by omega), hc, Array.getElem?_eq_getElem hi]
          simp only [Bool.not_false, Bool.true_and, Option.map_some, Option.getD_some, Array.all_eq_true']
          intro e he
          rw [ihi e.on (hw i ops[i] (Array.getElem?_eq_getElem hi) e (by simpa using he)) (by have := hw i ops[i] (Array.getElem?_eq_getElem hi) e (by simpa using he); omega)]
          simp
    · unfold Region.ready at hi
      obtain ⟨hr, hc⟩ := List.mem_filter.1 hi
      have hlt := List.mem_range.1 hr
      rw [getD_both (by omega), Array.getElem?_eq_getElem hlt] at hc
      simp only [Bool.and_eq_true, Option.map_some, Option.getD_some, Array.all_eq_true', Bool.not_eq_true', Bool.or_eq_true] at hc
      have ho : ops[i]? = some ops[i] := Array.getElem?_eq_getElem hlt
      refine wpOp_step ho fun K' hK => hs l a w hl hI i ops[i] ho (fun e he hb => ?_) hc.1 K' fun a' w' hI' => hK a' w' (ih _ _ _ (by rw [Array.size_setIfInBounds]; exact hl) ?_ hI')
      · rcases hc.2 e (by simpa using he) with h | h
        · rw [hb] at h; cases h
        · exact h
      · have : leftN ops.size (l.setIfInBounds i true) < leftN ops.size l := filt_lt (fun j hj => by
            by_cases e : j = i
            · subst e; rw [getD_set_self (by omega)] at hj; cases hj
            · rwa [getD_set_ne e] at hj) (by rw [getD_both (by omega), hc.1]; rfl) (by rw [getD_set_self (by omega)]; rfl) _ hr
        omega
/-- A region in whatever order. -/
theorem wp_region_inv {id : Nat} {a : Act} {w : World} (I : Array Bool → Act → World → Prop) (hm : P.follows .mixedOrders = true) (hw : ((List.range ops.size).all fun i => ((ops[i]?).map fun o => o.after.all fun e => decide (e.on < i)).getD true) = true)
    (h0 : I (Array.replicate ops.size false) a w.drew)
    (hs : ∀ l a w, l.size = ops.size → I l a w → ∀ (i : Nat) o, ops[i]? = some o → (∀ e ∈ o.after.toList, Region.binds .any e = true → l.getD e.on false = true) → l.getD i false = false →
      ∀ K : Act → World → Prop, (∀ a w, I (l.setIfInBounds i true) a w → K a w) → if Region.wanted o (yielded ops a.tmps) = true then Oper.wp P o a w K Q else K (a.put o.dst undef) w)
    (hd : ∀ l a w, l.size = ops.size → (∀ i, i < ops.size → l.getD i false = true) → I l a w → Q .normal a w) : (Code.region id ops true).wp P Q a w :=
  wp_region_any hm (wpAny_inv I (fun i o ho e he => by
    have h1 := List.all_eq_true.1 hw i (List.mem_range.2 (Array.getElem?_eq_some_iff.1 ho).1)
    rw [ho, Option.map_some, Option.getD_some, Array.all_eq_true'] at h1
    exact of_decide_eq_true (h1 e (by simpa using he))) hs hd _ _ _ _ (by simp) (by unfold leftN; exact Nat.le_trans (List.length_filter_le _ _) (by simp)) h0)
/-- What holds of one that has come holds on, where another comes. -/
theorem was {l : Array Bool} {i j : Nat} (h : (l.setIfInBounds i true).getD j false = true) (hne : (j == i) = false) : l.getD j false = true := by
  rwa [getD_set_ne (by simpa using hne)] at h
theorem wasnt {l : Array Bool} {i j : Nat} (h : (l.setIfInBounds i true).getD j false = false) (hne : (j == i) = false) : l.getD j false = false := by
  rwa [getD_set_ne (by simpa using hne)] at h
end
end Go.Proofs.YtbdfehgofnomhaaDoor
/- Layer 9: the chapter's examples: what they make. -/
namespace Go.Proofs.YtbdfehgofnomhaaDoor
open Go.RowKit
set_option linter.unusedVariables false

set_option maxHeartbeats 2000000 in
theorem mkone_any (a v : Nm) (w : World) : Calls Tryd.prog 17 #[.string (str a), .string (str v)] w fun e w' => e = .returned (.agg #[.int .i64 0, .string (str a), .string (str v), .slice none 0 0, .int .i64 0, .int .i64 0, .slice none 0 0]) ∧ Below w.heap.size w w' := by
  go_enter Tryd.func17, Tryd.ntmps17
  go_wp2
  refine bodyPost_ret (v := .agg #[.int .i64 0, .string (str a), .string (str v), .slice none 0 0, .int .i64 0, .int .i64 0, .slice none 0 0]) (by simp [results, Tryd.results17, go_sem]) rfl ?_
  exact ⟨rfl, (Below.refl _ _).alloc (Nat.le_refl _) _⟩
abbrev tmI : IT := .mk 1 [67] [99] none 0 [] 1 3 none 0 [] []
abbrev ntI (q : Nat) : IT := .mk 2 [66] [98] (some ⟨q, 0, none⟩) 1 [rf [98] [121]] 0 0 none 0 [] []
abbrev onI (a v : Nm) : IT := .mk 0 a v none 0 [] 0 0 none 0 [] []
abbrev cs14 : Array Value := #[.int .i64 0, .string (str [65]), .string (str [120]), .slice none 0 0, .int .i64 0, .int .i64 0, .slice none 0 0, .int .i64 1, .string (str [67]), .string (str [99]), .slice none 0 0, .int .i64 1, .int .i64 3, .slice none 0 0]
def KidsIn (u : World) (q q2 q1 : Nat) : Prop := Has u q 22 #[.slice (some ⟨q2, 0, none⟩) 2 2, .slice (some ⟨q1, 0, none⟩) 1 1] ∧ Has u q2 42 cs14 ∧ Has u q1 42 (csI (onI [66] [122]))
def AltIn (u : World) (p : Nat) : Prop := ∃ q q2 q1, Has u p 42 (csIm 3 [] [] none 0 0 0 0 (some ⟨q, 0, none⟩) 2 2) ∧ KidsIn u q q2 q1
theorem KidsIn.mono {u u' : World} {q q2 q1 : Nat} (h : KidsIn u q q2 q1) (hk : ∀ q t cs, Has u q t cs → Has u' q t cs) : KidsIn u' q q2 q1 := ⟨hk _ _ _ h.1, hk _ _ _ h.2.1, hk _ _ _ h.2.2⟩
theorem AltIn.mono {u u' : World} {p : Nat} (h : AltIn u p) (hk : ∀ q t cs, Has u q t cs → Has u' q t cs) : AltIn u' p := by
  obtain ⟨q, q2, q1, h1, h2⟩ := h
  exact ⟨q, q2, q1, hk _ _ _ h1, h2.mono hk⟩
theorem KidsIn.below {u u' : World} {q q2 q1 : Nat} (h : KidsIn u q q2 q1) (hb : Below u.heap.size u u') : KidsIn u' q q2 q1 := h.mono fun _ _ _ h => hasB hb h
theorem ne14 : cs14 ≠ zer7 := fun h => by have := congrArg Array.size h; simp at this
theorem neB : csI (onI [66] [122]) ≠ zer7 := fun h => by
  have := congrArg (fun c : Array Value => c[1]?) h
  simp [IT.nm, str] at this
theorem ne2 {u v : Value} : #[u, v] ≠ zer7 := fun h => by have := congrArg Array.size h; simp at this
theorem KidsIn.set {u : World} {p q q2 q1 : Nat} {t0 : TypeId} (hz : Has u p t0 zer7) (h : KidsIn u q q2 q1) (u0 u1 u2 u3 u4 u5 u6 : Value) : KidsIn (set7 u p u0 u1 u2 u3 u4 u5 u6) q q2 q1 :=
  ⟨set7_keep hz _ _ _ _ _ _ _ _ _ _ h.1 ne2, set7_keep hz _ _ _ _ _ _ _ _ _ _ h.2.1 ne14, set7_keep hz _ _ _ _ _ _ _ _ _ _ h.2.2 neB⟩
end Go.Proofs.YtbdfehgofnomhaaDoor
/- Layer 9: the chapter's examples: the query, how it lies. -/
namespace Go.Proofs.YtbdfehgofnomhaaDoor
open Go.RowKit
set_option linter.unusedVariables false

/-- The cells of its three items. -/
abbrev cs21 (e q : Nat) : Array Value := #[.int .i64 0, .string (str [65]), .string (str [97]), .slice none 0 0, .int .i64 0, .int .i64 0, .slice none 0 0, .int .i64 2, .string (str [66]), .string (str [98]), .slice (some ⟨e, 0, none⟩) 1 1, .int .i64 0, .int .i64 0, .slice none 0 0, .int .i64 3, .string (str []), .string (str []), .slice none 0 0, .int .i64 0, .int .i64 0, .slice (some ⟨q, 0, none⟩) 2 2]
theorem ne21 {e q : Nat} : cs21 e q ≠ zer3 := fun h => by have := congrArg Array.size h; simp at this
def QIn (e q : Nat) (u : World) (b : Nat) : Prop := ∃ g, Has u b 24 #[.slice (some ⟨g, 0, none⟩) 3 3, .int .i64 5, .string (str [107])] ∧ Has u g 42 (cs21 e q)
theorem QIn.mono {e q : Nat} {u u' : World} {b : Nat} (h : QIn e q u b) (hk : ∀ q t cs, Has u q t cs → Has u' q t cs) : QIn e q u' b := by
  obtain ⟨g, h1, h2⟩ := h
  exact ⟨g, hk _ _ _ h1, hk _ _ _ h2⟩
abbrev altI (q q2 q1 : Nat) : IT := .mk 3 [] [] none 0 [] 0 0 (some ⟨q, 0, none⟩) 2 [(some ⟨q2, 0, none⟩, 2), (some ⟨q1, 0, none⟩, 1)] [[onI [65] [120], tmI], [onI [66] [122]]]
/-- The chapter's query. -/
abbrev exL (e q q2 q1 : Nat) : List IT := [onI [65] [97], ntI e, altI q q2 q1]
theorem in_plain (w : World) (k : Int) (a v : Nm) (lo hi : Int) (hk : 0 ≤ k ∧ k ≤ 3) (hl : 0 ≤ lo ∧ lo ≤ 4) (hh : 0 ≤ hi ∧ hi ≤ 4) (ha : a.length ≤ 1000) (hv : v.length ≤ 1000) : IT.In w (.mk k a v none 0 [] lo hi none 0 [] []) :=
  .of ⟨⟨by omega, by omega⟩, ⟨by omega, by omega⟩, ⟨by omega, by omega⟩, by omega, by omega, ⟨fun _ => rfl, Nat.le_refl _, Nat.zero_le _⟩, ⟨fun _ => rfl, Nat.le_refl _, Nat.zero_le _⟩⟩ (fun j hj => by simp at hj) rfl (fun j hj => by simp at hj)
theorem exL_in {w : World} {e q q2 q1 g : Nat} (h1 : Has w e 47 (cs1 (rf [98] [121]))) (hg : Has w g 42 (cs21 e q)) (hk : KidsIn w q q2 q1) : Its w (some ⟨g, 0, none⟩) (exL e q q2 q1) := by
  obtain ⟨k1, k2, k3⟩ := hk
  have hmx : (2 : Nat) ≤ maxLen := by unfold maxLen; omega
  have hmx1 : (1 : Nat) ≤ maxLen := by unfold maxLen; omega
  intro j hj
  have hj3 : j < 3 := hj
  rcases j with _ | _ | _ | j
  · exact ⟨⟨g, 0, rfl, hg.cell 0, hg.cell 1, hg.cell 2, hg.cell 3, hg.cell 4, hg.cell 5, hg.cell 6⟩, in_plain w 0 [65] [97] 0 0 (by omega) (by omega) (by omega) (by simp) (by simp)⟩
  · refine ⟨⟨g, 0, rfl, hg.cell 7, hg.cell 8, hg.cell 9, hg.cell 10, hg.cell 11, hg.cell 12, hg.cell 13⟩, ?_⟩
    refine .of ⟨⟨by omega, by omega⟩, ⟨by omega, by omega⟩, ⟨by omega, by omega⟩, by simp, by simp, ⟨(fun h => by cases h), Nat.le_refl _, hmx1⟩, ⟨fun _ => rfl, Nat.le_refl _, Nat.zero_le _⟩⟩ (fun j hj => ?_) rfl (fun j hj => by simp at hj)
    obtain rfl : j = 0 := by simpa using hj
    exact ⟨at1 h1, in_rf w [98] [121] (by simp) (by simp)⟩
  · refine ⟨⟨g, 0, rfl, hg.cell 14, hg.cell 15, hg.cell 16, hg.cell 17, hg.cell 18, hg.cell 19, hg.cell 20⟩, ?_⟩
    refine .of ⟨⟨by omega, by omega⟩, ⟨by omega, by omega⟩, ⟨by omega, by omega⟩, by simp, by simp, ⟨fun _ => rfl, Nat.le_refl _, Nat.zero_le _⟩, ⟨(fun h => by cases h), Nat.le_refl _, hmx⟩⟩ (fun j hj => by simp at hj) rfl (fun j hj hj' => ?_)
    have hj2 : j < 2 := hj
    rcases j with _ | _ | j
    · refine ⟨⟨⟨q, 0, rfl, k1.cell 0⟩, (fun h => by cases h), Nat.le_refl _, hmx⟩, fun i hi => ?_⟩
      have hi2 : i < 2 := hi
      rcases i with _ | _ | i
      · exact ⟨⟨q2, 0, rfl, k2.cell 0, k2.cell 1, k2.cell 2, k2.cell 3, k2.cell 4, k2.cell 5, k2.cell 6⟩, in_plain w 0 [65] [120] 0 0 (by omega) (by omega) (by omega) (by simp) (by simp)⟩
      · exact ⟨⟨q2, 0, rfl, k2.cell 7, k2.cell 8, k2.cell 9, k2.cell 10, k2.cell 11, k2.cell 12, k2.cell 13⟩, in_plain w 1 [67] [99] 1 3 (by omega) (by omega) (by omega) (by simp) (by simp)⟩
      · omega
    · refine ⟨⟨⟨q, 0, rfl, k1.cell 1⟩, (fun h => by cases h), Nat.le_refl _, hmx1⟩, fun i hi => ?_⟩
      obtain rfl : i = 0 := by simpa using hi
      exact ⟨⟨q1, 0, rfl, k3.cell 0, k3.cell 1, k3.cell 2, k3.cell 3, k3.cell 4, k3.cell 5, k3.cell 6⟩, in_plain w 0 [66] [122] 0 0 (by omega) (by omega) (by omega) (by simp) (by simp)⟩
    · omega
  · omega
end Go.Proofs.YtbdfehgofnomhaaDoor
/- Layer 9: the chapter's examples: what the calls answer. -/
namespace Go.Proofs.YtbdfehgofnomhaaDoor
open Go.RowKit
set_option linter.unusedVariables false

theorem ex_put {e q q2 q1 : Nat} : putQ (exL e q q2 q1) 5 [107] = [65, 32, 97, 32, 59, 32, 33, 66, 32, 98, 91, 98, 46, 121, 93, 32, 59, 32, 40, 65, 32, 120, 32, 59, 32, 67, 32, 99, 123, 49, 44, 51, 125, 32, 124, 32, 66, 32, 122, 41, 32, 87, 73, 84, 72, 73, 78, 32, 53, 32, 66, 89, 32, 107] := by kernel_rfl
theorem ex_right {e q q2 q1 : Nat} : rightQ (exL e q q2 q1) 5 [107] = true := by kernel_rfl
theorem ex_same {e q q2 q1 : Nat} : sameQ (exL e q q2 q1) 5 [107] (exL e q q2 q1) 5 [107] = true := by
  unfold sameQ
  rw [sameIs_refl]
  rfl
theorem ex_count {e q q2 q1 : Nat} : countIs (exL e q q2 q1) = 6 := by kernel_rfl
theorem ex_deep {e q q2 q1 : Nat} : deepIs (exL e q q2 q1) = 2 := by kernel_rfl
theorem call_put {w : World} {e q q2 q1 g : Nat} (hI : Its w (some ⟨g, 0, none⟩) (exL e q q2 q1)) (hT : Tabs w) : Calls Tryd.prog 10 #[.agg #[.slice (some ⟨g, 0, none⟩) 3 3, .int .i64 5, .string (str [107])]] w fun e w' => e = .returned (.string { data := #[65, 32, 97, 32, 59, 32, 33, 66, 32, 98, 91, 98, 46, 121, 93, 32, 59, 32, 40, 65, 32, 120, 32, 59, 32, 67, 32, 99, 123, 49, 44, 51, 125, 32, 124, 32, 66, 32, 122, 41, 32, 87, 73, 84, 72, 73, 78, 32, 53, 32, 66, 89, 32, 107] }) ∧ Below w.heap.size w w' := by
  have h := putQ_any (exL e q q2 q1) (some ⟨g, 0, none⟩) 3 5 [107] w (by simp) hI hT (by simp) ex_right (by rw [ex_put]; simp)
  rw [ex_put] at h
  exact h
theorem call_right {w : World} {e q q2 q1 g : Nat} (hI : Its w (some ⟨g, 0, none⟩) (exL e q q2 q1)) (hT : Tabs w) : Calls Tryd.prog 9 #[.agg #[.slice (some ⟨g, 0, none⟩) 3 3, .int .i64 5, .string (str [107])]] w fun e w' => e = .returned (.bool true) ∧ Below w.heap.size w w' := by
  have h := rightQ_any (exL e q q2 q1) (some ⟨g, 0, none⟩) 3 5 [107] w (by simp) hI hT.1 (by simp)
  rw [ex_right] at h
  exact h
theorem call_same {w : World} {e q q2 q1 g : Nat} (hI : Its w (some ⟨g, 0, none⟩) (exL e q q2 q1)) : Calls Tryd.prog 11 #[.agg #[.slice (some ⟨g, 0, none⟩) 3 3, .int .i64 5, .string (str [107])], .agg #[.slice (some ⟨g, 0, none⟩) 3 3, .int .i64 5, .string (str [107])]] w fun e w' => e = .returned (.bool true) ∧ Below w.heap.size w w' := by
  have h := sameQ_any (exL e q q2 q1) (exL e q q2 q1) (some ⟨g, 0, none⟩) (some ⟨g, 0, none⟩) 3 3 5 5 [107] [107] w (by simp) hI hI
  rw [ex_same] at h
  exact h
theorem call_count {w : World} {e q q2 q1 g : Nat} (hI : Its w (some ⟨g, 0, none⟩) (exL e q q2 q1)) : Calls Tryd.prog 12 #[.slice (some ⟨g, 0, none⟩) 3 3] w fun e w' => e = .returned (.int .i64 6) ∧ Below w.heap.size w w' := by
  have h := countL_any (exL e q q2 q1) (some ⟨g, 0, none⟩) 3 w (by simp) hI (by rw [ex_count]; omega)
  rw [ex_count] at h
  exact h
theorem call_deep {w : World} {e q q2 q1 g : Nat} (hI : Its w (some ⟨g, 0, none⟩) (exL e q q2 q1)) : Calls Tryd.prog 15 #[.slice (some ⟨g, 0, none⟩) 3 3] w fun e w' => e = .returned (.int .i64 2) ∧ Below w.heap.size w w' := by
  have h := deepL_any (exL e q q2 q1) (some ⟨g, 0, none⟩) 3 w (by simp) hI (by rw [ex_deep]; omega)
  rw [ex_deep] at h
  exact h
theorem call_none {w : World} (hT : Tabs w) : Calls Tryd.prog 9 #[.agg #[.slice none 0 0, .int .i64 0, .string { data := #[] }]] w fun e w' => e = .returned (.bool false) ∧ Below w.heap.size w w' := by
  have h := rightQ_any [] none 0 0 [] w (by simp) (fun j hj => by simp at hj) hT.1 (by simp)
  rw [show rightQ [] 0 [] = false by kernel_rfl] at h
  exact h
theorem call_one {w : World} {e q q2 q1 g : Nat} (hI : Its w (some ⟨g, 0, none⟩) (exL e q q2 q1)) (hT : Tabs w) : Calls Tryd.prog 13 #[.slice (some ⟨g, 0, none⟩) 1 3] w fun e w' => e = .returned (.string { data := #[65, 32, 97] }) ∧ Below w.heap.size w w' := by
  have hO : Its w (some ⟨g, 0, none⟩) [onI [65] [97]] := fun j hj => by
    obtain rfl : j = 0 := by simpa using hj
    exact hI 0 (by simp)
  have h := putIs_any [onI [65] [97]] (some ⟨g, 0, none⟩) 3 w (by simp) hO hT (by kernel_rfl) (by rw [show putIs [onI [65] [97]] = [65, 32, 97] by kernel_rfl]; simp)
  rw [show putIs [onI [65] [97]] = [65, 32, 97] by kernel_rfl] at h
  exact h
end Go.Proofs.YtbdfehgofnomhaaDoor
/- Layer 9: trial. -/
namespace Go.Proofs.YtbdfehgofnomhaaDoor
open Go.RowKit
set_option linter.unusedVariables false

set_option maxRecDepth 100000 in
set_option maxHeartbeats 16000000 in
theorem exT_any (w : World) (hT : Tabs w) : Calls Tryd.prog 7 #[] w fun e w' => e = .returned (.bool true) ∧ Below w.heap.size w w' := by
  have hmk1 := mkone_any [65] [120]
  have hmk2 := mkone_any [66] [122]
  have hmk3 := mkone_any [65] [97]
  have HT := Lib.hid hT
  clear hT
  have s1 := step1 w (.cells (cs1 (rf [98] [121])) 47)
  have h1 : Has (w.alloc (.cells (cs1 (rf [98] [121])) 47)) w.heap.size 47 (cs1 (rf [98] [121])) := has_at rfl rfl
  obtain ⟨W1, hW1⟩ : ∃ W1, w.alloc (.cells (cs1 (rf [98] [121])) 47) = W1 := ⟨_, rfl⟩
  rw [hW1] at s1 h1
  have z1 : W1.heap.size = w.heap.size + 1 := by rw [← hW1]; simp
  have s2 := step1 W1 (.cells (csI (ntI w.heap.size)) 42)
  have h2 : Has (W1.alloc (.cells (csI (ntI w.heap.size)) 42)) (w.heap.size + 1) 42 (csI (ntI w.heap.size)) := has_at rfl z1.symm
  obtain ⟨W2, hW2⟩ : ∃ W2, W1.alloc (.cells (csI (ntI w.heap.size)) 42) = W2 := ⟨_, rfl⟩
  rw [hW2] at s2 h2
  have z2 : W2.heap.size = w.heap.size + 1 + 1 := by rw [← hW2, ← z1]; simp
  have s3 := step1 W2 (.cells (csI tmI) 42)
  have h3 : Has (W2.alloc (.cells (csI tmI) 42)) (w.heap.size + 1 + 1) 42 (csI tmI) := has_at rfl z2.symm
  obtain ⟨W3, hW3⟩ : ∃ W3, W2.alloc (.cells (csI tmI) 42) = W3 := ⟨_, rfl⟩
  rw [hW3] at s3 h3
  have z3 : W3.heap.size = w.heap.size + 1 + 1 + 1 := by rw [← hW3, ← z2]; simp
  have s23 := s2.trans (s3.mono s2.size)
  have s123 := s1.trans (s23.mono s1.size)
  have H1 := Lib.hid (h1.below s23 h1.lt)
  have H2 := Lib.hid (h2.below s3 h2.lt)
  have H3 := Lib.hid h3
  have HS := Lib.hid s123
  have hW : ((w.alloc (.cells (cs1 (rf [98] [121])) 47)).alloc (.cells (csI (ntI w.heap.size)) 42)).alloc (.cells (csI tmI) 42) = W3 := by rw [hW1, hW2, hW3]
  have HW := Lib.hid hW
  clear s1 s2 s3 h1 h2 h3 hW1 hW2 hW3 z1 z2 s23 s123 hW
  go_enter Tryd.func7, Tryd.ntmps7
  go_upto_region 4 with fail
  change Code.wp _ _ _ _ (((w.alloc (.cells (cs1 (rf [98] [121])) 47)).alloc (.cells (csI (ntI w.heap.size)) 42)).alloc (.cells (csI tmI) 42))
  rw [HW.out]
  obtain ⟨y0, y1, y2, y3, y4, y5, y6⟩ : seven W3 (w.heap.size + 1 + 1) 1 [67] [99] none 0 0 1 3 none 0 0 := seven_has H3.out
  -- INV
  refine wp_region_inv (fun l a u => ∃ x0 x1 x2 x3 x4 x5 x6 x7 x8 x9 : Value, a = ⟨#[.bool false, .func (.func 17) #[] #[], .pointer (some ⟨w.heap.size + 1, 0, none⟩), .pointer (some ⟨w.heap.size + 1 + 1, 0, none⟩), x9, undef, .agg #[.int .i64 1, .string { data := #[] }, .int .i64 0, .string { data := #[98] }, .string { data := #[121] }, .slice none 0 0], .slice (some ⟨w.heap.size, 0, none⟩) 1 1,
      .agg #[.int .i64 2, .string { data := #[66] }, .string { data := #[98] }, .slice (some ⟨w.heap.size, 0, none⟩) 1 1, .int .i64 0, .int .i64 0, .slice none 0 0], .agg #[.int .i64 1, .string { data := #[67] }, .string { data := #[99] }, .slice none 0 0, .int .i64 1, .int .i64 3, .slice none 0 0], x0, x1, x2, x3, x4, x5, x6, x7, x8, undef, undef, undef, undef, undef, undef, undef, undef, undef, undef, undef, undef, undef, undef, undef, undef, undef, undef, undef, undef, undef, undef, undef, undef, undef, undef, undef, undef, undef, undef, undef, undef, undef, undef, undef, undef, undef, undef, undef, undef, undef, undef], []⟩ ∧ (Below W3.heap.size W3 u) ∧ (l.getD 10 false = true → l.getD 9 false = true)
      ∧ (l.getD 0 false = true → x0 = .func (.func 17) #[] #[])
      ∧ (l.getD 1 false = true → x1 = .agg (csI (onI [65] [120])))
      ∧ (l.getD 2 false = true → x2 = .agg (csI tmI))
      ∧ (l.getD 3 false = true → ∃ q, x3 = .slice (some ⟨q, 0, none⟩) 2 2 ∧ Has u q 42 cs14)
      ∧ (l.getD 4 false = true → x4 = .func (.func 17) #[] #[])
      ∧ (l.getD 5 false = true → x5 = .agg (csI (onI [66] [122])))
      ∧ (l.getD 6 false = true → ∃ q, x6 = .slice (some ⟨q, 0, none⟩) 1 1 ∧ Has u q 42 (csI (onI [66] [122])))
      ∧ (l.getD 7 false = true → ∃ q q2 q1, x7 = .slice (some ⟨q, 0, none⟩) 2 2 ∧ KidsIn u q q2 q1)
      ∧ (l.getD 8 false = true → ∃ q q2 q1, x8 = .agg (csIm 3 [] [] none 0 0 0 0 (some ⟨q, 0, none⟩) 2 2) ∧ KidsIn u q q2 q1)
      ∧ (l.getD 9 false = true → ∃ p, x9 = .pointer (some ⟨p, 0, none⟩) ∧ W3.heap.size ≤ p ∧ (l.getD 10 false = false → Has u p 42 zer7) ∧ (l.getD 10 false = true → AltIn u p))) (by kernel_rfl) (by kernel_rfl) ?h0 ?hs ?hd
  case h0 =>
    refine ⟨_, _, _, _, _, _, _, _, _, _, rfl, (Below.refl _ _).drew, by simp, ?_⟩
    simp
  case hs =>
    intro l a u hl hI i o ho hdep hun K hK
    have hi := (Array.getElem?_eq_some_iff.1 ho).1
    simp only [List.size_toArray, List.length_cons, List.length_nil] at hi hl
    obtain ⟨x0, x1, x2, x3, x4, x5, x6, x7, x8, x9, rfl, hb, hinv, h0, h1, h2, h3, h4, h5, h6, h7, h8, h9⟩ := hI
    have hc : i = 0 ∨ i = 1 ∨ i = 2 ∨ i = 3 ∨ i = 4 ∨ i = 5 ∨ i = 6 ∨ i = 7 ∨ i = 8 ∨ i = 9 ∨ i = 10 := by omega
    rcases hc with rfl | rfl | rfl | rfl | rfl | rfl | rfl | rfl | rfl | rfl | rfl
    all_goals (obtain rfl := Option.some.inj ho; rw [if_pos (by rfl)])
    · go_simp
      exact hK _ _ ⟨_, _, _, _, _, _, _, _, _, _, rfl, hb, fun c => by rw [getD_set_ne (by decide)]; exact hinv (was c (by rfl)), fun _ => rfl, fun c => (h1 (was c (by rfl))), fun c => (h2 (was c (by rfl))), fun c => (h3 (was c (by rfl))), fun c => (h4 (was c (by rfl))), fun c => (h5 (was c (by rfl))), fun c => (h6 (was c (by rfl))), fun c => (h7 (was c (by rfl))), fun c => (h8 (was c (by rfl))), fun c => (h9 (was c (by rfl))).imp fun p h => ⟨h.1, h.2.1, fun c => h.2.2.1 (wasnt c (by rfl)), fun c => h.2.2.2 (was c (by rfl))⟩⟩
    · obtain rfl := h0 (hdep ⟨0, .data⟩ (by simp) (by rfl))
      go_simp
      refine (hmk1 u).mono ?_
      rintro e u2 ⟨rfl, b2⟩
      have hk : ∀ q t cs, Has u q t cs → Has u2 q t cs := fun q t cs h => hasB b2 h
      exact hK _ _ ⟨_, _, _, _, _, _, _, _, _, _, rfl, bwT hb b2, fun c => by rw [getD_set_ne (by decide)]; exact hinv (was c (by rfl)), fun c => (h0 (was c (by rfl))), fun _ => rfl, fun c => (h2 (was c (by rfl))), fun c => (h3 (was c (by rfl))).imp fun q h => ⟨h.1, (hk) _ _ _ h.2⟩, fun c => (h4 (was c (by rfl))), fun c => (h5 (was c (by rfl))), fun c => (h6 (was c (by rfl))).imp fun q h => ⟨h.1, (hk) _ _ _ h.2⟩, fun c => (h7 (was c (by rfl))).imp fun q h => h.imp fun q2 h => h.imp fun q1 h => ⟨h.1, h.2.mono (hk)⟩, fun c => (h8 (was c (by rfl))).imp fun q h => h.imp fun q2 h => h.imp fun q1 h => ⟨h.1, h.2.mono (hk)⟩, fun c => (h9 (was c (by rfl))).imp fun p h => ⟨h.1, h.2.1, fun c => (hk) _ _ _ (h.2.2.1 (wasnt c (by rfl))), fun c => (h.2.2.2 (was c (by rfl))).mono (hk)⟩⟩
    · obtain ⟨y0, y1, y2, y3, y4, y5, y6⟩ := seven_has (H3.out.below hb H3.out.lt)
      go_simp
      exact hK _ _ ⟨_, _, _, _, _, _, _, _, _, _, rfl, hb, fun c => by rw [getD_set_ne (by decide)]; exact hinv (was c (by rfl)), fun c => (h0 (was c (by rfl))), fun c => (h1 (was c (by rfl))), fun _ => rfl, fun c => (h3 (was c (by rfl))), fun c => (h4 (was c (by rfl))), fun c => (h5 (was c (by rfl))), fun c => (h6 (was c (by rfl))), fun c => (h7 (was c (by rfl))), fun c => (h8 (was c (by rfl))), fun c => (h9 (was c (by rfl))).imp fun p h => ⟨h.1, h.2.1, fun c => h.2.2.1 (wasnt c (by rfl)), fun c => h.2.2.2 (was c (by rfl))⟩⟩
    · obtain rfl := h1 (hdep ⟨1, .data⟩ (by simp) (by rfl))
      obtain rfl := h2 (hdep ⟨2, .data⟩ (by simp) (by rfl))
      have hk : ∀ o q t cs, Has u q t cs → Has (u.alloc o) q t cs := fun o q t cs h => hasA h o
      go_simp
      exact hK _ _ ⟨_, _, _, _, _, _, _, _, _, _, rfl, bwA hb _, fun c => by rw [getD_set_ne (by decide)]; exact hinv (was c (by rfl)), fun c => (h0 (was c (by rfl))), fun c => (h1 (was c (by rfl))), fun c => (h2 (was c (by rfl))), fun _ => ⟨u.heap.size, rfl, heap_alloc_new u _⟩, fun c => (h4 (was c (by rfl))), fun c => (h5 (was c (by rfl))), fun c => (h6 (was c (by rfl))).imp fun q h => ⟨h.1, (hk _) _ _ _ h.2⟩, fun c => (h7 (was c (by rfl))).imp fun q h => h.imp fun q2 h => h.imp fun q1 h => ⟨h.1, h.2.mono (hk _)⟩, fun c => (h8 (was c (by rfl))).imp fun q h => h.imp fun q2 h => h.imp fun q1 h => ⟨h.1, h.2.mono (hk _)⟩, fun c => (h9 (was c (by rfl))).imp fun p h => ⟨h.1, h.2.1, fun c => (hk _) _ _ _ (h.2.2.1 (wasnt c (by rfl))), fun c => (h.2.2.2 (was c (by rfl))).mono (hk _)⟩⟩
    · go_simp
      exact hK _ _ ⟨_, _, _, _, _, _, _, _, _, _, rfl, hb, fun c => by rw [getD_set_ne (by decide)]; exact hinv (was c (by rfl)), fun c => (h0 (was c (by rfl))), fun c => (h1 (was c (by rfl))), fun c => (h2 (was c (by rfl))), fun c => (h3 (was c (by rfl))), fun _ => rfl, fun c => (h5 (was c (by rfl))), fun c => (h6 (was c (by rfl))), fun c => (h7 (was c (by rfl))), fun c => (h8 (was c (by rfl))), fun c => (h9 (was c (by rfl))).imp fun p h => ⟨h.1, h.2.1, fun c => h.2.2.1 (wasnt c (by rfl)), fun c => h.2.2.2 (was c (by rfl))⟩⟩
    · obtain rfl := h4 (hdep ⟨4, .data⟩ (by simp) (by rfl))
      go_simp
      refine (hmk2 u).mono ?_
      rintro e u2 ⟨rfl, b2⟩
      have hk : ∀ q t cs, Has u q t cs → Has u2 q t cs := fun q t cs h => hasB b2 h
      exact hK _ _ ⟨_, _, _, _, _, _, _, _, _, _, rfl, bwT hb b2, fun c => by rw [getD_set_ne (by decide)]; exact hinv (was c (by rfl)), fun c => (h0 (was c (by rfl))), fun c => (h1 (was c (by rfl))), fun c => (h2 (was c (by rfl))), fun c => (h3 (was c (by rfl))).imp fun q h => ⟨h.1, (hk) _ _ _ h.2⟩, fun c => (h4 (was c (by rfl))), fun _ => rfl, fun c => (h6 (was c (by rfl))).imp fun q h => ⟨h.1, (hk) _ _ _ h.2⟩, fun c => (h7 (was c (by rfl))).imp fun q h => h.imp fun q2 h => h.imp fun q1 h => ⟨h.1, h.2.mono (hk)⟩, fun c => (h8 (was c (by rfl))).imp fun q h => h.imp fun q2 h => h.imp fun q1 h => ⟨h.1, h.2.mono (hk)⟩, fun c => (h9 (was c (by rfl))).imp fun p h => ⟨h.1, h.2.1, fun c => (hk) _ _ _ (h.2.2.1 (wasnt c (by rfl))), fun c => (h.2.2.2 (was c (by rfl))).mono (hk)⟩⟩
    · obtain rfl := h5 (hdep ⟨5, .data⟩ (by simp) (by rfl))
      have hk : ∀ o q t cs, Has u q t cs → Has (u.alloc o) q t cs := fun o q t cs h => hasA h o
      go_simp
      exact hK _ _ ⟨_, _, _, _, _, _, _, _, _, _, rfl, bwA hb _, fun c => by rw [getD_set_ne (by decide)]; exact hinv (was c (by rfl)), fun c => (h0 (was c (by rfl))), fun c => (h1 (was c (by rfl))), fun c => (h2 (was c (by rfl))), fun c => (h3 (was c (by rfl))).imp fun q h => ⟨h.1, (hk _) _ _ _ h.2⟩, fun c => (h4 (was c (by rfl))), fun c => (h5 (was c (by rfl))), fun _ => ⟨u.heap.size, rfl, heap_alloc_new u _⟩, fun c => (h7 (was c (by rfl))).imp fun q h => h.imp fun q2 h => h.imp fun q1 h => ⟨h.1, h.2.mono (hk _)⟩, fun c => (h8 (was c (by rfl))).imp fun q h => h.imp fun q2 h => h.imp fun q1 h => ⟨h.1, h.2.mono (hk _)⟩, fun c => (h9 (was c (by rfl))).imp fun p h => ⟨h.1, h.2.1, fun c => (hk _) _ _ _ (h.2.2.1 (wasnt c (by rfl))), fun c => (h.2.2.2 (was c (by rfl))).mono (hk _)⟩⟩
    · obtain ⟨q2, rfl, k2⟩ := h3 (hdep ⟨3, .data⟩ (by simp) (by rfl))
      obtain ⟨q1, rfl, k1⟩ := h6 (hdep ⟨6, .data⟩ (by simp) (by rfl))
      have hk : ∀ o q t cs, Has u q t cs → Has (u.alloc o) q t cs := fun o q t cs h => hasA h o
      go_simp
      exact hK _ _ ⟨_, _, _, _, _, _, _, _, _, _, rfl, bwA hb _, fun c => by rw [getD_set_ne (by decide)]; exact hinv (was c (by rfl)), fun c => (h0 (was c (by rfl))), fun c => (h1 (was c (by rfl))), fun c => (h2 (was c (by rfl))), fun c => (h3 (was c (by rfl))).imp fun q h => ⟨h.1, (hk _) _ _ _ h.2⟩, fun c => (h4 (was c (by rfl))), fun c => (h5 (was c (by rfl))), fun c => (h6 (was c (by rfl))).imp fun q h => ⟨h.1, (hk _) _ _ _ h.2⟩, fun _ => ⟨u.heap.size, q2, q1, rfl, heap_alloc_new u _, hasA k2 _, hasA k1 _⟩, fun c => (h8 (was c (by rfl))).imp fun q h => h.imp fun q2 h => h.imp fun q1 h => ⟨h.1, h.2.mono (hk _)⟩, fun c => (h9 (was c (by rfl))).imp fun p h => ⟨h.1, h.2.1, fun c => (hk _) _ _ _ (h.2.2.1 (wasnt c (by rfl))), fun c => (h.2.2.2 (was c (by rfl))).mono (hk _)⟩⟩
    · obtain ⟨q, q2, q1, rfl, hkid⟩ := h7 (hdep ⟨7, .data⟩ (by simp) (by rfl))
      go_simp
      exact hK _ _ ⟨_, _, _, _, _, _, _, _, _, _, rfl, hb, fun c => by rw [getD_set_ne (by decide)]; exact hinv (was c (by rfl)), fun c => (h0 (was c (by rfl))), fun c => (h1 (was c (by rfl))), fun c => (h2 (was c (by rfl))), fun c => (h3 (was c (by rfl))), fun c => (h4 (was c (by rfl))), fun c => (h5 (was c (by rfl))), fun c => (h6 (was c (by rfl))), fun c => (h7 (was c (by rfl))), fun _ => ⟨q, q2, q1, rfl, hkid⟩, fun c => (h9 (was c (by rfl))).imp fun p h => ⟨h.1, h.2.1, fun c => h.2.2.1 (wasnt c (by rfl)), fun c => h.2.2.2 (was c (by rfl))⟩⟩
    · have hk : ∀ o q t cs, Has u q t cs → Has (u.alloc o) q t cs := fun o q t cs h => hasA h o
      go_simp
      exact hK _ _ ⟨_, _, _, _, _, _, _, _, _, _, rfl, bwA hb _, fun _ => getD_set_self (by omega), fun c => (h0 (was c (by rfl))), fun c => (h1 (was c (by rfl))), fun c => (h2 (was c (by rfl))), fun c => (h3 (was c (by rfl))).imp fun q h => ⟨h.1, (hk _) _ _ _ h.2⟩, fun c => (h4 (was c (by rfl))), fun c => (h5 (was c (by rfl))), fun c => (h6 (was c (by rfl))).imp fun q h => ⟨h.1, (hk _) _ _ _ h.2⟩, fun c => (h7 (was c (by rfl))).imp fun q h => h.imp fun q2 h => h.imp fun q1 h => ⟨h.1, h.2.mono (hk _)⟩, fun c => (h8 (was c (by rfl))).imp fun q h => h.imp fun q2 h => h.imp fun q1 h => ⟨h.1, h.2.mono (hk _)⟩, fun _ => ⟨u.heap.size, rfl, hb.size, fun _ => heap_alloc_new u _, fun c => by have := hinv (was c (by rfl)); rw [hun] at this; cases this⟩⟩
    · obtain ⟨p, rfl, hpl, hz, -⟩ := h9 (hdep ⟨9, .data⟩ (by simp) (by rfl))
      obtain ⟨q, q2, q1, rfl, hkid⟩ := h8 (hdep ⟨8, .data⟩ (by simp) (by rfl))
      have hz0 := hz hun
      obtain ⟨⟨m0, m1, m2, m3, m4, m5, m6⟩, ⟨n0, n1, n2, n3, n4, n5, n6⟩, nlt⟩ := zer7_facts hz0
      go_simp
      change K _ (set7 u p (.int .i64 3) (.string (str [])) (.string (str [])) (.slice none 0 0) (.int .i64 0) (.int .i64 0) (.slice (some ⟨q, 0, none⟩) 2 2))
      have hk : ∀ q5 t cs, Has u q5 t cs → cs ≠ zer7 → Has (set7 u p (.int .i64 3) (.string (str [])) (.string (str [])) (.slice none 0 0) (.int .i64 0) (.int .i64 0) (.slice (some ⟨q, 0, none⟩) 2 2)) q5 t cs := fun q1 t1 cs1 hh hne => set7_keep hz0 (.int .i64 3) (.string (str [])) (.string (str [])) (.slice none 0 0) (.int .i64 0) (.int .i64 0) (.slice (some ⟨q, 0, none⟩) 2 2) q1 t1 cs1 hh hne
      exact hK _ _ ⟨_, _, _, _, _, _, _, _, _, _, rfl, (hb.trans (set7_below hpl _ _ _ _ _ _ _) : Below W3.heap.size W3 (set7 u p (.int .i64 3) (.string (str [])) (.string (str [])) (.slice none 0 0) (.int .i64 0) (.int .i64 0) (.slice (some ⟨q, 0, none⟩) 2 2))), fun _ => by rw [getD_set_ne (by decide)]; exact hdep ⟨9, .data⟩ (by simp) (by rfl), fun c => (h0 (was c (by rfl))), fun c => (h1 (was c (by rfl))), fun c => (h2 (was c (by rfl))), fun c => (h3 (was c (by rfl))).imp fun q h => ⟨h.1, hk _ _ _ h.2 ne14⟩, fun c => (h4 (was c (by rfl))), fun c => (h5 (was c (by rfl))), fun c => (h6 (was c (by rfl))).imp fun q h => ⟨h.1, hk _ _ _ h.2 neB⟩, fun c => (h7 (was c (by rfl))).imp fun q h => h.imp fun q2 h => h.imp fun q1 h => ⟨h.1, h.2.set hz0 _ _ _ _ _ _ _⟩, fun c => (h8 (was c (by rfl))).imp fun q h => h.imp fun q2 h => h.imp fun q1 h => ⟨h.1, h.2.set hz0 _ _ _ _ _ _ _⟩, fun c => ⟨p, rfl, hpl, (fun c => by rw [getD_set_self (by omega)] at c; cases c), fun _ => ⟨q, q2, q1, set7_has hz0 _ _ _ _ _ _ _, hkid.set hz0 _ _ _ _ _ _ _⟩⟩⟩
  case hd =>
    intro l a U5 hl hall hI
    obtain ⟨x0, x1, x2, x3, x4, x5, x6, x7, x8, x9, rfl, hb, hinv, h0, h1, h2, h3, h4, h5, h6, h7, h8, h9⟩ := hI
    simp only [List.size_toArray, List.length_cons, List.length_nil] at hall
    obtain rfl := h0 (hall 0 (by omega))
    obtain rfl := h1 (hall 1 (by omega))
    obtain rfl := h2 (hall 2 (by omega))
    obtain ⟨qa, rfl, -⟩ := h3 (hall 3 (by omega))
    obtain rfl := h4 (hall 4 (by omega))
    obtain rfl := h5 (hall 5 (by omega))
    obtain ⟨qb, rfl, -⟩ := h6 (hall 6 (by omega))
    obtain ⟨qc, qd, qe, rfl, -⟩ := h7 (hall 7 (by omega))
    obtain ⟨qf, qg, qh, rfl, -⟩ := h8 (hall 8 (by omega))
    obtain ⟨p, rfl, hpl, -, hA⟩ := h9 (hall 9 (by omega))
    obtain ⟨q, q2, q1, ha1, ha2⟩ := hA (hall 10 (by omega))
    have HA1 := Lib.hid ha1
    have HA2 := Lib.hid ha2
    have HBU := Lib.hid hb
    have HN5 := Lib.hid (H2.out.below hb H2.out.lt)
    clear h0 h1 h2 h3 h4 h5 h6 h7 h8 h9 hall hinv hA hb hl y0 y1 y2 y3 y4 y5 y6 ha1 ha2
    go_upto_region 5 with fail
    refine wp_region_inv (fun l a u => ∃ x0 x1 x2 x3 x4 x5 x6 : Value, a = ⟨#[.bool false, .func (.func 17) #[] #[], .pointer (some ⟨w.heap.size + 1, 0, none⟩), .pointer (some ⟨w.heap.size + 1 + 1, 0, none⟩), .pointer (some ⟨p, 0, none⟩), x6, .agg #[.int .i64 1, .string { data := #[] }, .int .i64 0, .string { data := #[98] }, .string { data := #[121] }, .slice none 0 0], .slice (some ⟨w.heap.size, 0, none⟩) 1 1,
        .agg #[.int .i64 2, .string { data := #[66] }, .string { data := #[98] }, .slice (some ⟨w.heap.size, 0, none⟩) 1 1, .int .i64 0, .int .i64 0, .slice none 0 0], .agg #[.int .i64 1, .string { data := #[67] }, .string { data := #[99] }, .slice none 0 0, .int .i64 1, .int .i64 3, .slice none 0 0],
        .func (.func 17) #[] #[], .agg (csI (onI [65] [120])), .agg (csI tmI), .slice (some ⟨qa, 0, none⟩) 2 2, .func (.func 17) #[] #[], .agg (csI (onI [66] [122])), .slice (some ⟨qb, 0, none⟩) 1 1, .slice (some ⟨qc, 0, none⟩) 2 2, .agg (csIm 3 [] [] none 0 0 0 0 (some ⟨qf, 0, none⟩) 2 2), x0, x1, x2, x3, x4, x5, undef, undef, undef, undef, undef, undef, undef, undef, undef, undef, undef, undef, undef, undef, undef, undef, undef, undef, undef, undef, undef, undef, undef, undef, undef, undef, undef, undef, undef, undef, undef, undef, undef, undef, undef, undef], []⟩ ∧ (Below U5.heap.size U5 u) ∧ (l.getD 7 false = true → l.getD 6 false = true)
        ∧ (l.getD 0 false = true → x0 = .func (.func 17) #[] #[])
        ∧ (l.getD 1 false = true → x1 = .agg (csI (onI [65] [97])))
        ∧ (l.getD 2 false = true → x2 = .agg (csI (ntI w.heap.size)))
        ∧ (l.getD 3 false = true → x3 = .agg (csIm 3 [] [] none 0 0 0 0 (some ⟨q, 0, none⟩) 2 2))
        ∧ (l.getD 4 false = true → ∃ g, x4 = .slice (some ⟨g, 0, none⟩) 3 3 ∧ Has u g 42 (cs21 w.heap.size q))
        ∧ (l.getD 5 false = true → ∃ g, x5 = .agg #[.slice (some ⟨g, 0, none⟩) 3 3, .int .i64 5, .string (str [107])] ∧ Has u g 42 (cs21 w.heap.size q))
        ∧ (l.getD 6 false = true → ∃ b, x6 = .pointer (some ⟨b, 0, none⟩) ∧ U5.heap.size ≤ b ∧ (l.getD 7 false = false → Has u b 24 zer3) ∧ (l.getD 7 false = true → QIn w.heap.size q u b))) (by kernel_rfl) (by kernel_rfl) ?h0 ?hs ?hd
    case h0 =>
      refine ⟨_, _, _, _, _, _, _, rfl, (Below.refl _ _).drew, by simp, ?_⟩
      simp
    case hs =>
      intro l a u hl hI i o ho hdep hun K hK
      have hi := (Array.getElem?_eq_some_iff.1 ho).1
      simp only [List.size_toArray, List.length_cons, List.length_nil] at hi hl
      obtain ⟨x0, x1, x2, x3, x4, x5, x6, rfl, hb, hinv, h0, h1, h2, h3, h4, h5, h6⟩ := hI
      have hc : i = 0 ∨ i = 1 ∨ i = 2 ∨ i = 3 ∨ i = 4 ∨ i = 5 ∨ i = 6 ∨ i = 7 := by omega
      rcases hc with rfl | rfl | rfl | rfl | rfl | rfl | rfl | rfl
      all_goals (obtain rfl := Option.some.inj ho; rw [if_pos (by rfl)])
      · go_simp
        exact hK _ _ ⟨_, _, _, _, _, _, _, rfl, hb, fun c => by rw [getD_set_ne (by decide)]; exact hinv (was c (by rfl)), fun _ => rfl, fun c => (h1 (was c (by rfl))), fun c => (h2 (was c (by rfl))), fun c => (h3 (was c (by rfl))), fun c => (h4 (was c (by rfl))), fun c => (h5 (was c (by rfl))), fun c => (h6 (was c (by rfl))).imp fun p h => ⟨h.1, h.2.1, fun c => h.2.2.1 (wasnt c (by rfl)), fun c => h.2.2.2 (was c (by rfl))⟩⟩
      · obtain rfl := h0 (hdep ⟨0, .data⟩ (by simp) (by rfl))
        go_simp
        refine (hmk3 u).mono ?_
        rintro e u2 ⟨rfl, b2⟩
        have hk : ∀ q t cs, Has u q t cs → Has u2 q t cs := fun q t cs h => hasB b2 h
        exact hK _ _ ⟨_, _, _, _, _, _, _, rfl, bwT hb b2, fun c => by rw [getD_set_ne (by decide)]; exact hinv (was c (by rfl)), fun c => (h0 (was c (by rfl))), fun _ => rfl, fun c => (h2 (was c (by rfl))), fun c => (h3 (was c (by rfl))), fun c => (h4 (was c (by rfl))).imp fun g h => ⟨h.1, (hk) _ _ _ h.2⟩, fun c => (h5 (was c (by rfl))).imp fun g h => ⟨h.1, (hk) _ _ _ h.2⟩, fun c => (h6 (was c (by rfl))).imp fun p h => ⟨h.1, h.2.1, fun c => (hk) _ _ _ (h.2.2.1 (wasnt c (by rfl))), fun c => (h.2.2.2 (was c (by rfl))).mono (hk)⟩⟩
      · obtain ⟨y0, y1, y2, y3, y4, y5, y6⟩ := seven_has (HN5.out.below hb HN5.out.lt)
        go_simp
        exact hK _ _ ⟨_, _, _, _, _, _, _, rfl, hb, fun c => by rw [getD_set_ne (by decide)]; exact hinv (was c (by rfl)), fun c => (h0 (was c (by rfl))), fun c => (h1 (was c (by rfl))), fun _ => rfl, fun c => (h3 (was c (by rfl))), fun c => (h4 (was c (by rfl))), fun c => (h5 (was c (by rfl))), fun c => (h6 (was c (by rfl))).imp fun p h => ⟨h.1, h.2.1, fun c => h.2.2.1 (wasnt c (by rfl)), fun c => h.2.2.2 (was c (by rfl))⟩⟩
      · obtain ⟨y0, y1, y2, y3, y4, y5, y6⟩ := seven_has (HA1.out.below hb HA1.out.lt)
        go_simp
        exact hK _ _ ⟨_, _, _, _, _, _, _, rfl, hb, fun c => by rw [getD_set_ne (by decide)]; exact hinv (was c (by rfl)), fun c => (h0 (was c (by rfl))), fun c => (h1 (was c (by rfl))), fun c => (h2 (was c (by rfl))), fun _ => rfl, fun c => (h4 (was c (by rfl))), fun c => (h5 (was c (by rfl))), fun c => (h6 (was c (by rfl))).imp fun p h => ⟨h.1, h.2.1, fun c => h.2.2.1 (wasnt c (by rfl)), fun c => h.2.2.2 (was c (by rfl))⟩⟩
      · obtain rfl := h1 (hdep ⟨1, .data⟩ (by simp) (by rfl))
        obtain rfl := h2 (hdep ⟨2, .data⟩ (by simp) (by rfl))
        obtain rfl := h3 (hdep ⟨3, .data⟩ (by simp) (by rfl))
        have hk : ∀ o q t cs, Has u q t cs → Has (u.alloc o) q t cs := fun o q t cs h => hasA h o
        go_simp
        exact hK _ _ ⟨_, _, _, _, _, _, _, rfl, bwA hb _, fun c => by rw [getD_set_ne (by decide)]; exact hinv (was c (by rfl)), fun c => (h0 (was c (by rfl))), fun c => (h1 (was c (by rfl))), fun c => (h2 (was c (by rfl))), fun c => (h3 (was c (by rfl))), fun _ => ⟨u.heap.size, rfl, heap_alloc_new u _⟩, fun c => (h5 (was c (by rfl))).imp fun g h => ⟨h.1, (hk _) _ _ _ h.2⟩, fun c => (h6 (was c (by rfl))).imp fun p h => ⟨h.1, h.2.1, fun c => (hk _) _ _ _ (h.2.2.1 (wasnt c (by rfl))), fun c => (h.2.2.2 (was c (by rfl))).mono (hk _)⟩⟩
      · obtain ⟨g, rfl, hg⟩ := h4 (hdep ⟨4, .data⟩ (by simp) (by rfl))
        go_simp
        exact hK _ _ ⟨_, _, _, _, _, _, _, rfl, hb, fun c => by rw [getD_set_ne (by decide)]; exact hinv (was c (by rfl)), fun c => (h0 (was c (by rfl))), fun c => (h1 (was c (by rfl))), fun c => (h2 (was c (by rfl))), fun c => (h3 (was c (by rfl))), fun c => (h4 (was c (by rfl))), fun _ => ⟨g, rfl, hg⟩, fun c => (h6 (was c (by rfl))).imp fun p h => ⟨h.1, h.2.1, fun c => h.2.2.1 (wasnt c (by rfl)), fun c => h.2.2.2 (was c (by rfl))⟩⟩
      · have hk : ∀ o q t cs, Has u q t cs → Has (u.alloc o) q t cs := fun o q t cs h => hasA h o
        go_simp
        exact hK _ _ ⟨_, _, _, _, _, _, _, rfl, bwA hb _, fun _ => getD_set_self (by omega), fun c => (h0 (was c (by rfl))), fun c => (h1 (was c (by rfl))), fun c => (h2 (was c (by rfl))), fun c => (h3 (was c (by rfl))), fun c => (h4 (was c (by rfl))).imp fun g h => ⟨h.1, (hk _) _ _ _ h.2⟩, fun c => (h5 (was c (by rfl))).imp fun g h => ⟨h.1, (hk _) _ _ _ h.2⟩, fun _ => ⟨u.heap.size, rfl, hb.size, fun _ => heap_alloc_new u _, fun c => by have := hinv (was c (by rfl)); rw [hun] at this; cases this⟩⟩
      · obtain ⟨b, rfl, hbl, hz, -⟩ := h6 (hdep ⟨6, .data⟩ (by simp) (by rfl))
        obtain ⟨g, rfl, hg⟩ := h5 (hdep ⟨5, .data⟩ (by simp) (by rfl))
        have hz0 := hz hun
        obtain ⟨⟨m0, m1, m2⟩, ⟨n0, n1, n2⟩, nlt⟩ := zer3_facts hz0
        go_simp
        change K _ (set3 u b (.slice (some ⟨g, 0, none⟩) 3 3) (.int .i64 5) (.string (str [107])))
        have hk : ∀ q5 t cs, Has u q5 t cs → cs ≠ zer3 → Has (set3 u b (.slice (some ⟨g, 0, none⟩) 3 3) (.int .i64 5) (.string (str [107]))) q5 t cs := fun q1 t1 cs1 hh hne => set3_keep hz0 (.slice (some ⟨g, 0, none⟩) 3 3) (.int .i64 5) (.string (str [107])) q1 t1 cs1 hh hne
        exact hK _ _ ⟨_, _, _, _, _, _, _, rfl, (hb.trans (set3_below hbl _ _ _) : Below U5.heap.size U5 (set3 u b (.slice (some ⟨g, 0, none⟩) 3 3) (.int .i64 5) (.string (str [107])))), fun _ => by rw [getD_set_ne (by decide)]; exact hdep ⟨6, .data⟩ (by simp) (by rfl), fun c => (h0 (was c (by rfl))), fun c => (h1 (was c (by rfl))), fun c => (h2 (was c (by rfl))), fun c => (h3 (was c (by rfl))), fun c => (h4 (was c (by rfl))).imp fun g h => ⟨h.1, hk _ _ _ h.2 ne21⟩, fun c => (h5 (was c (by rfl))).imp fun g h => ⟨h.1, hk _ _ _ h.2 ne21⟩, fun c => ⟨b, rfl, hbl, (fun c => by rw [getD_set_self (by omega)] at c; cases c), fun _ => ⟨g, set3_has hz0 _ _ _, hk _ _ _ hg ne21⟩⟩⟩
    case hd =>
      intro l a U6 hl hall hI
      obtain ⟨x0, x1, x2, x3, x4, x5, x6, rfl, hb, hinv, h0, h1, h2, h3, h4, h5, h6⟩ := hI
      simp only [List.size_toArray, List.length_cons, List.length_nil] at hall
      obtain rfl := h0 (hall 0 (by omega))
      obtain rfl := h1 (hall 1 (by omega))
      obtain rfl := h2 (hall 2 (by omega))
      obtain rfl := h3 (hall 3 (by omega))
      obtain ⟨g4, rfl, -⟩ := h4 (hall 4 (by omega))
      obtain ⟨g5, rfl, -⟩ := h5 (hall 5 (by omega))
      obtain ⟨b, rfl, hbl, -, hQ⟩ := h6 (hall 6 (by omega))
      obtain ⟨g, hq1, hq2⟩ := hQ (hall 7 (by omega))
      have hI6 := exL_in (hasB hb (hasB HBU.out H1.out)) hq2 (HA2.out.below hb)
      have bw : Below w.heap.size w U6 := HS.out.trans ((HBU.out.trans (hb.mono HBU.out.size)).mono HS.out.size)
      have HIT := Lib.hid hI6
      have HTT := Lib.hid (HT.out.below bw)
      have HBW := Lib.hid bw
      have HQ1 := Lib.hid hq1
      clear h0 h1 h2 h3 h4 h5 h6 hall hinv hQ hq1 hl hq2 hI6 bw hb hmk1 hmk2 hmk3
      go_upto_region 6 with fail
      obtain ⟨y0, y1, y2⟩ := three_has HQ1.out
      go_wp2_with fail
      refine (call_put HIT.out HTT.out).mono ?_
      rintro e U7 ⟨rfl, b2⟩
      have B7 := Lib.hid ((Below.refl U6.heap.size U6).trans (b2.mono (Below.refl U6.heap.size U6).size))
      obtain ⟨y0, y1, y2⟩ := three_has (hasB B7.out HQ1.out)
      clear b2
      go_wp2_with fail
      refine (call_right (HIT.out.below B7.out) (HTT.out.below B7.out)).mono ?_
      rintro e U8 ⟨rfl, b2⟩
      have B8 := Lib.hid ((B7.out).trans (b2.mono (B7.out).size))
      obtain ⟨y0, y1, y2⟩ := three_has (hasB B8.out HQ1.out)
      clear b2
      go_wp2_with fail
      refine (call_same (HIT.out.below B8.out)).mono ?_
      rintro e U9 ⟨rfl, b2⟩
      have B9 := Lib.hid ((B8.out).trans (b2.mono (B8.out).size))
      obtain ⟨y0, y1, y2⟩ := three_has (hasB B9.out HQ1.out)
      clear b2
      go_wp2_with fail
      refine (call_count (HIT.out.below B9.out)).mono ?_
      rintro e U10 ⟨rfl, b2⟩
      have B10 := Lib.hid ((B9.out).trans (b2.mono (B9.out).size))
      obtain ⟨y0, y1, y2⟩ := three_has (hasB B10.out HQ1.out)
      clear b2
      go_wp2_with fail
      refine (call_deep (HIT.out.below B10.out)).mono ?_
      rintro e U11 ⟨rfl, b2⟩
      have B11 := Lib.hid ((B10.out).trans (b2.mono (B10.out).size))
      obtain ⟨y0, y1, y2⟩ := three_has (hasB B11.out HQ1.out)
      clear b2
      go_wp2_with fail
      refine (call_none (HTT.out.below B11.out)).mono ?_
      rintro e U12 ⟨rfl, b2⟩
      have B12 := Lib.hid ((B11.out).trans (b2.mono (B11.out).size))
      obtain ⟨y0, y1, y2⟩ := three_has (hasB B12.out HQ1.out)
      clear b2
      go_wp2_with fail
      refine (call_one (HIT.out.below B12.out) (HTT.out.below B12.out)).mono ?_
      rintro e U13 ⟨rfl, b2⟩
      have B13 := Lib.hid ((B12.out).trans (b2.mono (B12.out).size))
      obtain ⟨y0, y1, y2⟩ := three_has (hasB B13.out HQ1.out)
      clear b2
      go_wp2_with fail
      go_ret
      exact ⟨rfl, HBW.out.trans (B13.out.mono HBW.out.size)⟩
end Go.Proofs.YtbdfehgofnomhaaDoor
