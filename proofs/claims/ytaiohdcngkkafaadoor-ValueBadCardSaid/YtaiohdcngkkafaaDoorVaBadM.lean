/- ValueBad without the program: what a contrary, both, either tell. -/
import Derived.Test.YtaiohdcngkkafaaDoorVaEval
import Derived.Test.YtaiohdcngkkafaaDoorExTr
namespace Go.Proofs.YtaiohdcngkkafaaDoor
open Go.RowKit
set_option linter.unusedVariables false

/-- A predicate's truth, and whether it is bad. -/
theorem tru_of {l : List Bd} (h64 : Bd64 l) {w : World} {t : ET} (hin : t.In w) (hr : rightT t = true) (ht : typT t = 2) : ∃ b bad, rk l t = (.t b, bad) := by
  have := rk_of h64 t hin hr (by rw [ht]; decide)
  rw [ht] at this
  obtain ⟨v, bad, hv⟩ : ∃ v bad, rk l t = (v, bad) := ⟨_, _, rfl⟩
  rw [hv] at this ⊢
  cases v with
  | n x => exact absurd this.1 (by decide)
  | t b => exact ⟨b, bad, rfl⟩
def tNum (b bad : Bool) : Int × Bool := if bad then (0, false) else (if b then 1 else 0, true)
theorem ev_tru {l : List Bd} {t : ET} {b bad : Bool} (hr : rightT t = true) (ht : typT t = 2) (h : rk l t = (.t b, bad)) : evV l t = tNum b bad := by
  have : typeT t = 2 := by unfold typeT; rw [if_pos hr, ht]
  unfold evV tNum
  rw [this, if_neg (by decide), h]
  rfl
theorem hb_tru {l : List Bd} {t : ET} {b bad : Bool} (hr : rightT t = true) (ht : typT t = 2) (h : rk l t = (.t b, bad)) : holdsV l t = (!bad && b) := by
  have h2 : typeT t = 2 := by unfold typeT; rw [if_pos hr, ht]
  rw [holdsV, ev_tru hr ht h, h2]
  cases b <;> cases bad <;> rfl
theorem rightn {k : Int} {op : Nm} {A : Option Addr} {c : Nat} {x : ET} (h : oneB k op 0 [] [] 1 = true) (hx : rightT x = true) : rightT (.mk k op 0 [] [] A c [x]) = true :=
  right_of h fun t ht => by simp at ht; subst ht; exact hx
theorem righta {k : Int} {op : Nm} {A : Option Addr} {c : Nat} {x y : ET} (h : oneB k op 0 [] [] 2 = true) (hx : rightT x = true) (hy : rightT y = true) : rightT (.mk k op 0 [] [] A c [x, y]) = true :=
  right_of h fun t ht => by simp at ht; rcases ht with rfl | rfl <;> assumption
theorem typn {k : Int} {op : Nm} {A : Option Addr} {c : Nat} {x : ET} {a b : Int} (h : opT op = (a, b)) (hx : typT x = a) : typT (.mk k op 0 [] [] A c [x]) = b := by
  rw [typT_eq, h, typL_cons, typL_nil]; simp [hx]
theorem typa {k : Int} {op : Nm} {A : Option Addr} {c : Nat} {x y : ET} {a b : Int} (h : opT op = (a, b)) (hx : typT x = a) (hy : typT y = a) : typT (.mk k op 0 [] [] A c [x, y]) = b := by
  rw [typT_eq, h, typL_cons, typL_cons, typL_nil]; simp [hx, hy]
theorem hb_no {l : List Bd} {x : ET} {b bad : Bool} (A : Option Addr) (c : Nat) (hr : rightT x = true) (ht : typT x = 2) (h : rk l x = (.t b, bad)) : holdsV l (.mk 2 [33] 0 [] [] A c [x]) = (!bad && !b) := by
  refine hb_tru (rightn (by kernel_rfl) hr) (typn (by kernel_rfl) ht) ?_
  rw [rk_2, h, unV, contrV]
  simp
theorem hb_and {l : List Bd} {x y : ET} {b bad b2 bad2 : Bool} (A : Option Addr) (c : Nat) (hr : rightT x = true) (ht : typT x = 2) (h : rk l x = (.t b, bad)) (hr2 : rightT y = true) (ht2 : typT y = 2) (h2 : rk l y = (.t b2, bad2)) :
    holdsV l (.mk 3 [38, 38] 0 [] [] A c [x, y]) = ((!bad && b) && (!bad2 && b2)) := by
  cases b with
  | false =>
    rw [hb_tru (b := false) (bad := bad) (righta (by kernel_rfl) hr hr2) (typa (by kernel_rfl) ht ht2) (by rw [rk_3, h, h2]; rfl)]
    simp
  | true =>
    rw [hb_tru (b := b2) (bad := bad || bad2) (righta (by kernel_rfl) hr hr2) (typa (by kernel_rfl) ht ht2) (by rw [rk_3, h, h2]; rfl)]
    cases bad <;> cases bad2 <;> cases b2 <;> rfl
theorem hb_or {l : List Bd} {x y : ET} {b bad b2 bad2 : Bool} (A : Option Addr) (c : Nat) (hr : rightT x = true) (ht : typT x = 2) (h : rk l x = (.t b, bad)) (hr2 : rightT y = true) (ht2 : typT y = 2) (h2 : rk l y = (.t b2, bad2)) :
    holdsV l (.mk 3 [124, 124] 0 [] [] A c [x, y]) = (!bad && (b || (!bad2 && b2))) := by
  cases b with
  | true =>
    rw [hb_tru (b := true) (bad := bad) (righta (by kernel_rfl) hr hr2) (typa (by kernel_rfl) ht ht2) (by rw [rk_3, h, h2]; rfl)]
    simp
  | false =>
    rw [hb_tru (b := b2) (bad := bad || bad2) (righta (by kernel_rfl) hr hr2) (typa (by kernel_rfl) ht ht2) (by rw [rk_3, h, h2]; rfl)]
    cases bad <;> cases bad2 <;> cases b2 <;> rfl
end Go.Proofs.YtaiohdcngkkafaaDoor
