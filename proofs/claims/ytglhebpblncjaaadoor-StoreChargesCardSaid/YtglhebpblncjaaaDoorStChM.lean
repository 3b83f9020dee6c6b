/- Eight events at most, each of its own size: what is charged is their sum, in plain mathematics. -/
import Derived.Test.YtglhebpblncjaaaDoorStRoM
namespace Go.Proofs.YtglhebpblncjaaaDoor
open Go.RowKit
set_option linter.unusedVariables false

def acc (f : Nat → Int) : Nat → Int
  | 0 => 0
  | n + 1 => acc f n + f n
theorem acc_same (f g : Nat → Int) (n : Nat) (h : ∀ j, j < n → g j = f j) : acc g n = acc f n := by
  induction n with
  | zero => rfl
  | succ n ih => simp only [acc]; rw [ih (fun j hj => h j (by omega)), h n (by omega)]
theorem acc_upd (f g : Nat → Int) (i n : Nat) (hi : i < n) (h : ∀ j, j ≠ i → g j = f j) : acc g n = acc f n - f i + g i := by
  induction n with
  | zero => omega
  | succ n ih =>
    simp only [acc]
    by_cases e : i = n
    · subst e
      rw [acc_same f g i (fun j hj => h j (by omega))]
      omega
    · rw [ih (by omega), h n (fun e2 => e e2.symm)]
      omega
theorem acc_bd (f : Nat → Int) (M : Int) (h : ∀ j, 0 ≤ f j ∧ f j ≤ M) (n : Nat) : 0 ≤ acc f n ∧ acc f n ≤ M * (n : Int) := by
  induction n with
  | zero => simp [acc]
  | succ n ih =>
    have := h n
    simp only [acc]
    have e : M * ((n + 1 : Nat) : Int) = M * (n : Int) + M := by rw [Int.natCast_add, Int.mul_add]; simp
    omega
theorem fre_liv (l : List Blk) : (fre l : Int) ≤ liv l := by
  induction l with
  | nil => simp [fre, liv]
  | cons b r ih =>
    have := (liv_bd r).1
    simp only [fre, liv]
    split
    · simp; omega
    · rename_i h; simp; omega
/-- What is put of the event of so many numbers. -/
def t8 (k : Nat) : List UInt8 := wput (k : Int) 0 (List.replicate k 0)
theorem t8_len {k : Nat} (h : k < 8) : (t8 k).length = 10 + 8 * k := zeros_len k 0 k (by omega) (by omega)
def so (S : Sv) (k : Nat) : Int := if (S.f (k : Int)).isSome = true then 1 else 0
def sumTo (S : Sv) (n : Nat) : Int := acc (fun k => rz S (k : Int)) n
def cntTo (S : Sv) (n : Nat) : Int := acc (so S) n
/-- A store of such events. -/
structure Cg (S : Sv) : Prop where
  iv : Iv S
  tx : ∀ k : Nat, k < 8 → (S.f (k : Int)).isSome = true → sbyt S k = t8 k ∧ rz S k = rnd (t8 k).length
  out : ∀ k : Nat, 8 ≤ k → S.f (k : Int) = none
  chg : chg S.s.l = sumTo S 8
  liv : liv S.s.l = cntTo S 8
  n : (S.n : Int) = cntTo S 8
  lim : S.s.lim = 300
theorem so_bd (S : Sv) (k : Nat) : 0 ≤ so S k ∧ so S k ≤ 1 := by unfold so; split <;> omega
theorem Cg.rz {S : Sv} (h : Cg S) (k : Nat) : 0 ≤ Go.Proofs.YtglhebpblncjaaaDoor.rz S k ∧ Go.Proofs.YtglhebpblncjaaaDoor.rz S k ≤ 128 := by
  cases e : S.f (k : Int) with
  | none => rw [rz_none e]; omega
  | some c =>
    by_cases hk : k < 8
    · have h1 := (h.tx k hk (by rw [e]; rfl)).2
      have hl := t8_len hk
      have a := rnd128 (n := ((t8 k).length : Int)) (by omega) (by omega)
      have b := (rnd16 (n := ((t8 k).length : Int)) (rok_yes (by omega) (by omega))).1
      rw [h1]; omega
    · rw [h.out k (by omega)] at e; cases e
theorem Cg.sums {S : Sv} (h : Cg S) (n : Nat) : 0 ≤ sumTo S n ∧ sumTo S n ≤ 128 * (n : Int) := acc_bd _ 128 h.rz n
theorem cnt_bd (S : Sv) (n : Nat) : 0 ≤ cntTo S n ∧ cntTo S n ≤ 1 * (n : Int) := acc_bd _ 1 (so_bd S) n
theorem Cg.new : Cg (r0 300) := ⟨Iv.new _ _, (fun k _ e => by cases e), fun k _ => rfl, rfl, rfl, rfl, rfl⟩
theorem Cg.err {S : Sv} (h : Cg S) {i : Nat} (hi : i < 8) (hn : S.f (i : Int) = none) : perr S i true (t8 i) = 0 ∨ perr S i true (t8 i) = 9 := by
  rw [perr_ok hn]
  have hl := t8_len hi
  have hr : rok ((t8 i).length : Int) = true := rok_yes (by omega) (by omega)
  have h1 := fre_liv S.s.l
  have h2 := (cnt_bd S 8).2
  rw [← h.liv] at h2
  unfold aerr
  rw [if_neg (by rw [hr]; decide)]
  split
  · exact .inr rfl
  · rw [if_neg (by omega)]; exact .inl rfl
theorem Cg.put {S : Sv} (h : Cg S) {i : Nat} (hi : i < 8) (hn : S.f (i : Int) = none) : Cg (sput S i true (t8 i)) := by
  rcases h.err hi hn with hp | hp
  · obtain ⟨a1, a2, a3, a4, a5, a6, a7, a8⟩ := h.iv.put hn hp
    have hs : so (sput S i true (t8 i)) i = 1 := by unfold so; rw [a7]; rfl
    have hs0 : so S i = 0 := by unfold so; rw [hn]; rfl
    have hso : ∀ j, j ≠ i → so (sput S i true (t8 i)) j = so S j := fun j hj => by unfold so; rw [(a6 j (by omega)).2.2]
    have hrz : ∀ j : Nat, j ≠ i → Go.Proofs.YtglhebpblncjaaaDoor.rz (sput S i true (t8 i)) j = Go.Proofs.YtglhebpblncjaaaDoor.rz S j := fun j hj => (a6 j (by omega)).1
    have e1 : sumTo (sput S i true (t8 i)) 8 = sumTo S 8 - Go.Proofs.YtglhebpblncjaaaDoor.rz S i + Go.Proofs.YtglhebpblncjaaaDoor.rz (sput S i true (t8 i)) i := acc_upd _ _ i 8 hi hrz
    have e2 : cntTo (sput S i true (t8 i)) 8 = cntTo S 8 - so S i + so (sput S i true (t8 i)) i := acc_upd _ _ i 8 hi hso
    rw [rz_none hn, a4] at e1
    rw [hs, hs0] at e2
    refine ⟨a1, fun k hk e => ?_, fun k hk => by rw [(a6 k (by omega)).2.2]; exact h.out k hk, ?_, ?_, ?_, by rw [(sput_len S i (t8 i)).2]; exact h.lim⟩
    · by_cases hki : k = i
      · subst hki
        exact ⟨a5, a4⟩
      · obtain ⟨b1, b2, b3⟩ := a6 k (by omega)
        rw [b3] at e
        rw [b1, b2]
        exact h.tx k hk e
    · rw [a2, h.chg, e1]; omega
    · rw [a3, h.liv, e2]; omega
    · rw [a8, e2, ← h.n]; omega
  · rw [sput_no (by rw [hp]; decide)]
    exact h
theorem Cg.put_some {S : Sv} {i : Nat} {c : Ct} (e : S.f (i : Int) = some c) : perr S i true (t8 i) = 1 ∧ sput S i true (t8 i) = S := by
  have hp : perr S i true (t8 i) = 1 := by unfold perr; rw [if_neg (by decide), if_pos (by rw [e]; rfl)]
  exact ⟨hp, sput_no (by rw [hp]; decide)⟩
/-- With the same slots, sizes and who is there. -/
theorem Cg.like {S S' : Sv} (h : Cg S) (iv : Iv S') (hs : S'.s = S.s) (hn : S'.n = S.n) (hk : ∀ k, Go.Proofs.YtglhebpblncjaaaDoor.rz S' k = Go.Proofs.YtglhebpblncjaaaDoor.rz S k ∧ sbyt S' k = sbyt S k ∧ (S'.f k).isSome = (S.f k).isSome) : Cg S' := by
  have e1 : sumTo S' 8 = sumTo S 8 := acc_same _ _ 8 fun j _ => (hk j).1
  have e2 : cntTo S' 8 = cntTo S 8 := acc_same _ _ 8 fun j _ => by unfold so; rw [(hk j).2.2]
  refine ⟨iv, fun k h8 e => ?_, fun k h8 => ?_, by rw [hs, h.chg, e1], by rw [hs, h.liv, e2], by rw [hn, h.n, e2], by rw [hs]; exact h.lim⟩
  · rw [(hk k).2.2] at e
    rw [(hk k).1, (hk k).2.1]
    exact h.tx k h8 e
  · have := (hk k).2.2
    rw [h.out k h8] at this
    cases e : S'.f (k : Int) with
    | none => rfl
    | some c => rw [e] at this; cases this
theorem Cg.hold {S : Sv} (h : Cg S) (i : Nat) : Cg (shold S i) := by
  obtain ⟨a1, a2, a3, a4, a5⟩ := h.iv.hold i
  exact h.like a1 a2 a3 a4
theorem Cg.drop {S : Sv} (h : Cg S) {i : Nat} (hi : i < 8) : Cg (sdrop S i) := by
  cases e : S.f (i : Int) with
  | none =>
    have e1 : sdrop S i = S := by unfold sdrop; rw [e]
    rw [e1]; exact h
  | some c =>
    by_cases ht : c.t = 1
    · obtain ⟨a1, a2, a3, a4, a5, a6, a7, a8, a9, a10⟩ := h.iv.last e ht
      have hs : so (sdrop S i) i = 0 := by unfold so; rw [a5]; rfl
      have hs0 : so S i = 1 := by unfold so; rw [e]; rfl
      have hso : ∀ j, j ≠ i → so (sdrop S i) j = so S j := fun j hj => by unfold so; rw [(a6 j (by omega)).2.2]
      have e1 : sumTo (sdrop S i) 8 = sumTo S 8 - Go.Proofs.YtglhebpblncjaaaDoor.rz S i + Go.Proofs.YtglhebpblncjaaaDoor.rz (sdrop S i) i := acc_upd _ _ i 8 hi fun j hj => (a6 j (by omega)).1
      have e2 : cntTo (sdrop S i) 8 = cntTo S 8 - so S i + so (sdrop S i) i := acc_upd _ _ i 8 hi hso
      rw [a4] at e1
      rw [hs, hs0] at e2
      have hpos : 1 ≤ S.n := by
        have h1 := h.n
        have h2 := (cnt_bd (sdrop S i) 8).1
        omega
      refine ⟨a1, fun k hk e3 => ?_, fun k hk => by rw [(a6 k (by omega)).2.2]; exact h.out k hk, ?_, ?_, ?_, by rw [a9]; exact h.lim⟩
      · have hki : k ≠ i := fun e4 => by subst e4; rw [a5] at e3; cases e3
        obtain ⟨b1, b2, b3⟩ := a6 k (by omega)
        rw [b3] at e3
        rw [b1, b2]
        exact h.tx k hk e3
      · rw [a2, h.chg, e1]; omega
      · rw [a3, h.liv, e2]; omega
      · have := h.n
        rw [a7, e2]; omega
    · obtain ⟨a1, a2, a3, a4, a5⟩ := h.iv.less e ht
      exact h.like a1 a2 a3 a4
theorem cnt_none {S : Sv} {k : Int} (e : S.f k = none) : scnt S k = 0 := by unfold scnt; rw [e]; rfl
theorem cnt_some {S : Sv} {k : Int} {c : Ct} (e : S.f k = some c) : scnt S k = c.t := by unfold scnt; rw [e]; rfl
theorem hold_cnt {S : Sv} (h : Iv S) {k : Int} {c : Ct} (e : S.f k = some c) : scnt (shold S k) k = c.t + 1 := by
  rw [(h.hold k).2.2.2.2, e, cnt_some e]; rfl
theorem drop_cnt {S : Sv} (h : Iv S) {k : Int} {c : Ct} (e : S.f k = some c) : scnt (sdrop S k) k = c.t - 1 := by
  by_cases ht : c.t = 1
  · rw [cnt_none (h.last e ht).2.2.2.2.1]; omega
  · exact (h.less e ht).2.2.2.2
end Go.Proofs.YtglhebpblncjaaaDoor
