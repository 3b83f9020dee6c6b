/- Layer 7: said, sameAlone, operation. -/
import Derived.Test.YtbdfehgofnomhaaDoorExBasic
namespace Go.Proofs.YtbdfehgofnomhaaDoor
open Go.RowKit
set_option linter.unusedVariables false

/-- What said tells. -/
def saidV (k : Int) (op : Nm) (n : Int) (v f : Nm) (A : Option Addr) (m c : Nat) : Value :=
  if k = 0 then ex 0 [] n [] [] none 0 0 else if k = 1 then ex 1 [] 0 v f none 0 0 else if k = 2 ∨ k = 3 then ex k op 0 [] [] A m c else ex 0 [] 0 [] [] none 0 0
theorem ret_two {x y a b : Int} (h : (x, y) = (a, b)) : Ending.returned (.tuple #[.int .i64 x, .int .i64 y]) = .returned (.tuple #[.int .i64 a, .int .i64 b]) := by cases h; rfl
theorem ret_val {a b : Value} (h : a = b) : Ending.returned a = .returned b := by rw [h]
set_option maxHeartbeats 1000000 in
theorem said_any (k : Int) (op : Nm) (n : Int) (v f : Nm) (A : Option Addr) (m c : Nat) (w : World) :
    Calls Tryd.prog 75 #[ex k op n v f A m c] w fun e w' => e = .returned (saidV k op n v f A m c) ∧ Below w.heap.size w w' := by
  obtain ⟨sv, hsv⟩ : ∃ x, saidV k op n v f A m c = x := ⟨_, rfl⟩
  rw [hsv]
  have bl : ∀ o1 o2, Below w.heap.size w ((w.alloc o1).alloc o2) := fun o1 o2 => ((Below.refl _ _).alloc (Nat.le_refl _) _).alloc (by simp) _
  have HB := Lib.hid bl
  have HS := Lib.hid hsv
  clear bl hsv
  unfold ex
  by_cases h0 : k = 0
  · subst h0
    go_enter Tryd.func75, Tryd.ntmps75
    go_wp2
    refine bodyPost_ret (v := ex 0 [] n [] [] none 0 0) (by simp [results, Tryd.results75, go_sem, ex, str]) rfl ?_
    refine ⟨ret_val ?_, ?_⟩
    · rw [← HS.out, saidV, if_pos rfl]
    · exact HB.out _ _
  by_cases h1 : k = 1
  · subst h1
    go_enter Tryd.func75, Tryd.ntmps75
    go_wp2
    refine bodyPost_ret (v := ex 1 [] 0 v f none 0 0) (by simp [results, Tryd.results75, go_sem, ex, str]) rfl ?_
    refine ⟨ret_val ?_, ?_⟩
    · rw [← HS.out, saidV, if_neg h0, if_pos rfl]
    · exact HB.out _ _
  by_cases h2 : k = 2 ∨ k = 3
  · have e : sv = ex k op 0 [] [] A m c := by rw [← HS.out, saidV, if_neg h0, if_neg h1, if_pos h2]
    have HE := Lib.hid e
    clear e HS h0 h1
    rcases h2 with rfl | rfl
    all_goals
      go_enter Tryd.func75, Tryd.ntmps75
      go_wp2
      refine bodyPost_ret (v := sv) (by rw [HE.out]; simp [results, Tryd.results75, go_sem, ex, str]) rfl ?_
      refine ⟨rfl, ?_⟩
      · exact HB.out _ _
  · have e : sv = ex 0 [] 0 [] [] none 0 0 := by rw [← HS.out, saidV, if_neg h0, if_neg h1, if_neg h2]
    have HE := Lib.hid e
    clear e HS
    have d0 : (k == 0) = false := by simpa using h0
    have d1 : (k == 1) = false := by simpa using h1
    have d2 : (k == 2) = false := by simp; omega
    have d3 : (k == 3) = false := by simp; omega
    clear h0 h1 h2
    go_enter Tryd.func75, Tryd.ntmps75
    go_wp2
    refine bodyPost_ret (v := ex 0 [] 0 [] [] none 0 0) (by simp [results, Tryd.results75, go_sem, ex, str]) rfl ?_
    refine ⟨ret_val ?_, ?_⟩
    · rw [HE.out]
    · exact HB.out _ _

/-- What sameAlone tells. -/
def aloneB (k : Int) (op : Nm) (n : Int) (v f : Nm) (m : Nat) (k' : Int) (op' : Nm) (n' : Int) (v' f' : Nm) (m' : Nat) : Bool := decide (k = k' ∧ op = op' ∧ n = n' ∧ v = v' ∧ f = f' ∧ m = m')
set_option maxHeartbeats 2000000 in
theorem alone_any (k : Int) (op : Nm) (n : Int) (v f : Nm) (A : Option Addr) (m c : Nat) (k' : Int) (op' : Nm) (n' : Int) (v' f' : Nm) (A' : Option Addr) (m' c' : Nat) (w : World) :
    Calls Tryd.prog 64 #[ex k op n v f A m c, ex k' op' n' v' f' A' m' c'] w fun e w' => e = .returned (.bool (aloneB k op n v f m k' op' n' v' f' m')) ∧ Below w.heap.size w w' := by
  obtain ⟨sv, hsv⟩ : ∃ x, aloneB k op n v f m k' op' n' v' f' m' = x := ⟨_, rfl⟩
  rw [hsv]
  have bl : ∀ o1 o2, Below w.heap.size w ((w.alloc o1).alloc o2) := fun o1 o2 => ((Below.refl _ _).alloc (Nat.le_refl _) _).alloc (by simp) _
  have HB := Lib.hid bl
  have HS := Lib.hid hsv
  have e1 := str_toList op
  have e2 := str_toList op'
  have e3 := str_toList v
  have e4 := str_toList v'
  have e5 := str_toList f
  have e6 := str_toList f'
  clear bl hsv
  unfold ex
  go_enter Tryd.func64, Tryd.ntmps64
  go_wp2
  all_goals go_ret
  all_goals refine ⟨ret_bool ?_, HB.out _ _⟩
  all_goals (rw [← HS.out, aloneB]; clear HS HB; first | (simp_all; done) | (simp_all; rw [Bool.eq_iff_iff]; simp; done) | (simp_all; rw [Bool.eq_iff_iff]; simp; omega))

/-- What the Kids of an operation must tell, and what it tells then. -/
def opT (op : Nm) : Int × Int :=
  if levB op = 1 ∨ levB op = 2 then (2, 2) else if levB op = 3 ∨ levB op = 4 then (1, 2) else if op = [33] then (2, 2) else (1, 1)
end Go.Proofs.YtbdfehgofnomhaaDoor
