/- Intervals in lists: what an added number makes of them. No model. -/
import Derived.Test.YtadgplpbkephiaaProg
namespace Go.Proofs.Ytadgplpbkephiaa
set_option linter.unusedVariables false

/-- An interval: its low end and its high one. -/
abbrev Sp := Int × Int
def sp (S : List Sp) (i : Nat) : Sp := S.getD i (0, 0)
theorem sp_lt {S : List Sp} {i : Nat} (h : i < S.length) : sp S i = S[i] := by unfold sp; simp [List.getD_eq_getElem?_getD, List.getElem?_eq_getElem h]
theorem sp_mem {S : List Sp} {i : Nat} (h : i < S.length) : sp S i ∈ S := by rw [sp_lt h]; exact List.getElem_mem h
theorem sp_of_mem {S : List Sp} {p : Sp} (h : p ∈ S) : ∃ i, i < S.length ∧ sp S i = p := by
  obtain ⟨i, hi, e⟩ := List.getElem_of_mem h
  exact ⟨i, hi, (sp_lt hi).trans e⟩
theorem sp_cons0 (p : Sp) (r : List Sp) : sp (p :: r) 0 = p := rfl
theorem sp_cons (p : Sp) (r : List Sp) (i : Nat) : sp (p :: r) (i + 1) = sp r i := rfl
/-- Right ones. -/
def Rgt (S : List Sp) : Prop := S.length ≤ 4 ∧ ∀ i, i < S.length → (sp S i).1 ≤ (sp S i).2 ∧ (0 < i → (sp S (i - 1)).2 < (sp S i).1)
instance (S : List Sp) : Decidable (Rgt S) := by unfold Rgt; infer_instance
/-- From a number on in order. -/
def Ord : Int → List Sp → Prop
  | _, [] => True
  | b, p :: r => b < p.1 ∧ p.1 ≤ p.2 ∧ Ord p.2 r
theorem Ord.less {b c : Int} : ∀ {S : List Sp}, Ord b S → c ≤ b → Ord c S
  | [], _, _ => trivial
  | p :: r, ⟨h1, h2, h3⟩, h => ⟨by omega, h2, h3⟩
theorem Ord.at {S : List Sp} : ∀ {b : Int}, Ord b S → ∀ i, i < S.length → (sp S i).1 ≤ (sp S i).2 ∧ (0 < i → (sp S (i - 1)).2 < (sp S i).1) ∧ (i = 0 → b < (sp S i).1) := by
  induction S with
  | nil => intro b _ i hi; simp at hi
  | cons p r ih =>
    intro b ⟨h1, h2, h3⟩ i hi
    match i with
    | 0 => exact ⟨h2, fun h => absurd h (Nat.lt_irrefl _), fun _ => h1⟩
    | i + 1 =>
      obtain ⟨k1, k2, k3⟩ := ih h3 i (by simpa using hi)
      refine ⟨k1, fun _ => ?_, fun h => by omega⟩
      rw [sp_cons, Nat.add_sub_cancel]
      match i, k2, k3 with
      | 0, _, k3 => exact k3 rfl
      | i + 1, k2, _ => exact k2 (by omega)
theorem ord_of {S : List Sp} : ∀ {b : Int}, (∀ i, i < S.length → (sp S i).1 ≤ (sp S i).2 ∧ (0 < i → (sp S (i - 1)).2 < (sp S i).1)) → (0 < S.length → b < (sp S 0).1) → Ord b S := by
  induction S with
  | nil => intro b _ _; trivial
  | cons p r ih =>
    intro b h h0
    refine ⟨h0 (by simp), (h 0 (by simp)).1, ih (fun i hi => ?_) (fun hr => ?_)⟩
    · obtain ⟨k1, k2⟩ := h (i + 1) (by simpa using hi)
      refine ⟨k1, fun hp => ?_⟩
      have := k2 (by omega)
      rw [Nat.add_sub_cancel] at this
      match i, hp, this with
      | i + 1, _, this => exact this
    · have := (h 1 (by simpa using hr)).2 (by omega)
      exact this
theorem rgt_iff {S : List Sp} : Rgt S ↔ S.length ≤ 4 ∧ ∃ b, Ord b S := by
  constructor
  · rintro ⟨h1, h2⟩
    exact ⟨h1, (sp S 0).1 - 1, ord_of h2 fun _ => by omega⟩
  · rintro ⟨h1, b, h2⟩
    exact ⟨h1, fun i hi => ⟨(h2.at i hi).1, (h2.at i hi).2.1⟩⟩
/-- Is a number that one has from a to b? -/
def mts (S : List Sp) (a b : Int) : Bool := S.any fun p => decide (max a p.1 ≤ min b p.2)
def hs (S : List Sp) (n : Int) : Bool := mts S n n
def cov (S : List Sp) (l : List Int) : Bool := l.all (hs S)
theorem mts_true {S : List Sp} {a b : Int} : mts S a b = true ↔ ∃ p ∈ S, max a p.1 ≤ min b p.2 := by unfold mts; simp
theorem mts_at {S : List Sp} {a b : Int} (i : Nat) (hi : i < S.length) (h : max a (sp S i).1 ≤ min b (sp S i).2) : mts S a b = true := mts_true.2 ⟨_, sp_mem hi, h⟩
theorem mts_none {S : List Sp} {a b : Int} (h : ∀ i, i < S.length → ¬ max a (sp S i).1 ≤ min b (sp S i).2) : mts S a b = false := by
  cases e : mts S a b with
  | false => rfl
  | true =>
    obtain ⟨p, hp, h1⟩ := mts_true.1 e
    obtain ⟨i, hi, rfl⟩ := sp_of_mem hp
    exact absurd h1 (h i hi)
theorem hs_iff {S : List Sp} {n : Int} : hs S n = true ↔ ∃ p ∈ S, p.1 ≤ n ∧ n ≤ p.2 := by
  unfold hs
  rw [mts_true]
  constructor
  · rintro ⟨p, hp, h⟩; exact ⟨p, hp, by omega⟩
  · rintro ⟨p, hp, h⟩; exact ⟨p, hp, by omega⟩
theorem hs_mem {S : List Sp} {n : Int} {p : Sp} (hp : p ∈ S) (h1 : p.1 ≤ n) (h2 : n ≤ p.2) : hs S n = true := hs_iff.2 ⟨p, hp, h1, h2⟩
theorem hs_at {S : List Sp} {n : Int} (i : Nat) (hi : i < S.length) (h : (sp S i).1 ≤ n) (h' : n ≤ (sp S i).2) : hs S n = true := hs_iff.2 ⟨_, sp_mem hi, h, h'⟩
theorem hs_none {S : List Sp} {n : Int} (h : ∀ i, i < S.length → ¬ ((sp S i).1 ≤ n ∧ n ≤ (sp S i).2)) : hs S n = false := by
  cases e : hs S n with
  | false => rfl
  | true =>
    obtain ⟨p, hp, h1⟩ := hs_iff.1 e
    obtain ⟨i, hi, rfl⟩ := sp_of_mem hp
    exact absurd h1 (h i hi)
theorem cov_at {S : List Sp} {l : List Int} (h : ∀ (i : Nat) (x : Int), l[i]? = some x → hs S x = true) : cov S l = true := by
  unfold cov
  rw [List.all_eq_true]
  intro x hx
  obtain ⟨i, hi, e⟩ := List.getElem_of_mem hx
  exact h i x (by rw [List.getElem?_eq_getElem hi, e])
theorem cov_no {S : List Sp} {l : List Int} (i : Nat) (x : Int) (hx : l[i]? = some x) (h : hs S x = false) : cov S l = false := by
  cases e : cov S l with
  | false => rfl
  | true =>
    unfold cov at e
    rw [List.all_eq_true] at e
    rw [e x (List.mem_of_getElem? hx)] at h
    cases h
/-- n to n put where it stands. -/
def putS : List Sp → Int → List Sp
  | [], n => [(n, n)]
  | p :: r, n => if p.1 < n then p :: putS r n else (n, n) :: p :: r
theorem putS_at (n : Int) : ∀ (S : List Sp) (i : Nat), i ≤ S.length → (∀ j, j < i → (sp S j).1 < n) → (i < S.length → ¬ (sp S i).1 < n) → putS S n = S.take i ++ (n, n) :: S.drop i
  | [], i, _, _, _ => by simp [putS]
  | p :: r, 0, _, _, h => by
    have := h (by simp)
    rw [sp_cons0] at this
    simp [putS, this]
  | p :: r, i + 1, hi, h1, h2 => by
    have h0 := h1 0 (by omega)
    rw [sp_cons0] at h0
    have := putS_at n r i (by simpa using hi) (fun j hj => h1 (j + 1) (by omega)) (fun hl => h2 (by simpa using hl))
    simp [putS, h0, this]
theorem putS_len (n : Int) : ∀ S : List Sp, (putS S n).length = S.length + 1
  | [] => rfl
  | p :: r => by
    unfold putS
    split
    · simp [putS_len n r]
    · simp
theorem putS_mem {n : Int} {p : Sp} : ∀ {S : List Sp}, p ∈ putS S n ↔ p = (n, n) ∨ p ∈ S
  | [] => by simp [putS]
  | q :: r => by
    unfold putS
    split
    · simp only [List.mem_cons, putS_mem (S := r)]
      constructor
      · rintro (h | h | h)
        · exact .inr (.inl h)
        · exact .inl h
        · exact .inr (.inr h)
      · rintro (h | h | h)
        · exact .inr (.inl h)
        · exact .inl h
        · exact .inr (.inr h)
    · simp
theorem putS_ord {n : Int} : ∀ {S : List Sp} {b : Int}, Ord b S → b < n → hs S n = false → Ord b (putS S n)
  | [], b, _, h, _ => ⟨h, Int.le_refl _, trivial⟩
  | p :: r, b, ⟨h1, h2, h3⟩, h, hn => by
    have hp : ¬ (p.1 ≤ n ∧ n ≤ p.2) := fun hc => by
      have := hs_mem (S := p :: r) List.mem_cons_self hc.1 hc.2
      rw [hn] at this; cases this
    have hr : hs r n = false := by
      cases e : hs r n with
      | false => rfl
      | true =>
        obtain ⟨q, hq, hc⟩ := hs_iff.1 e
        have := hs_mem (S := p :: r) (List.mem_cons_of_mem p hq) hc.1 hc.2
        rw [hn] at this; cases this
    unfold putS
    split
    · exact ⟨h1, h2, putS_ord h3 (by omega) hr⟩
    · exact ⟨h, Int.le_refl _, by omega, h2, h3⟩
/-- How far the one behind i begins from i's end. -/
def gapU (S : List Sp) (i : Nat) : Int := ((sp S (i + 1)).1 - (sp S i).2) % 18446744073709551616
/-- Where the first of the nearest two stands, of the first j + 1. -/
def near (S : List Sp) : Nat → Nat
  | 0 => 0
  | j + 1 => if gapU S j < gapU S (near S j) then j else near S j
theorem near_lt (S : List Sp) : ∀ j, near S j < j + 1 ∧ (0 < j → near S j < j)
  | 0 => ⟨Nat.lt_succ_self _, fun h => absurd h (Nat.lt_irrefl _)⟩
  | j + 1 => by
    have := near_lt S j
    unfold near
    split <;> omega
theorem near_le (S : List Sp) : ∀ j i, i < j → gapU S (near S j) ≤ gapU S i
  | j + 1, i, h => by
    have ih := near_le S j
    unfold near
    split
    · rename_i h1
      by_cases e : i = j
      · subst e; exact Int.le_refl _
      · have := ih i (by omega)
        omega
    · rename_i h1
      by_cases e : i = j
      · subst e; omega
      · exact ih i (by omega)
/-- The one at i and the next one as one. -/
def joinS : List Sp → Nat → List Sp
  | [], _ => []
  | [p], 0 => [p]
  | p :: q :: r, 0 => (p.1, q.2) :: r
  | p :: r, i + 1 => p :: joinS r i
theorem joinS_succ (p : Sp) (r : List Sp) (i : Nat) : joinS (p :: r) (i + 1) = p :: joinS r i := by cases r <;> rfl
theorem joinS_at : ∀ (S : List Sp) (i : Nat), i + 1 < S.length → joinS S i = S.take i ++ ((sp S i).1, (sp S (i + 1)).2) :: S.drop (i + 2) := by
  intro S
  induction S with
  | nil => intro i h; simp at h
  | cons p r ih =>
    intro i h
    match i, r, ih, h with
    | 0, [], _, h => simp at h
    | 0, q :: r, _, _ => simp [joinS, sp]
    | i + 1, r, ih, h =>
      rw [joinS_succ, ih i (by simpa using h)]
      simp [sp]
theorem joinS_len : ∀ (S : List Sp) (i : Nat), i + 1 < S.length → (joinS S i).length = S.length - 1 := by
  intro S i h
  rw [joinS_at S i h]
  simp
  omega
theorem joinS_ord : ∀ (S : List Sp) (b : Int) (i : Nat), Ord b S → Ord b (joinS S i) := by
  intro S
  induction S with
  | nil => intro b i h; exact h
  | cons p r ih =>
    intro b i h
    match i, r, ih, h with
    | 0, [], _, h => exact h
    | 0, q :: r, _, ⟨h1, h2, h3, h4, h5⟩ => exact ⟨h1, by show p.1 ≤ q.2; omega, h5⟩
    | i + 1, r, ih, ⟨h1, h2, h3⟩ =>
      rw [joinS_succ]
      exact ⟨h1, h2, ih _ _ h3⟩
theorem joinS_has : ∀ (S : List Sp) (b : Int) (i : Nat) (n : Int), Ord b S → hs S n = true → hs (joinS S i) n = true := by
  intro S
  induction S with
  | nil => intro b i n _ h; exact h
  | cons p r ih =>
    intro b i n ho h
    obtain ⟨x, hx, h1, h2⟩ := hs_iff.1 h
    match i, r, ho, ih, hx with
    | 0, [], _, _, hx => exact hs_mem (S := joinS [p] 0) hx h1 h2
    | 0, q :: r, ⟨o1, o2, o3, o4, o5⟩, _, hx =>
      rcases List.mem_cons.1 hx with rfl | hx
      · exact hs_mem (S := (x.1, q.2) :: r) (p := (x.1, q.2)) List.mem_cons_self h1 (by show n ≤ q.2; omega)
      · rcases List.mem_cons.1 hx with rfl | hx
        · exact hs_mem (S := (p.1, x.2) :: r) (p := (p.1, x.2)) List.mem_cons_self (by show p.1 ≤ n; omega) h2
        · exact hs_mem (S := (p.1, q.2) :: r) (List.mem_cons_of_mem _ hx) h1 h2
    | i + 1, r, ⟨o1, o2, o3⟩, ih, hx =>
      rw [joinS_succ]
      rcases List.mem_cons.1 hx with rfl | hx
      · exact hs_mem List.mem_cons_self h1 h2
      · obtain ⟨y, hy, k1, k2⟩ := hs_iff.1 (ih _ i _ o3 (hs_mem hx h1 h2))
        exact hs_mem (List.mem_cons_of_mem _ hy) k1 k2
theorem joinS_ends : ∀ (S : List Sp) (i : Nat) (p : Sp), p ∈ joinS S i → (∃ q ∈ S, q.1 = p.1) ∧ ∃ q ∈ S, q.2 = p.2 := by
  intro S
  induction S with
  | nil => intro i p h; exact ⟨⟨p, h, rfl⟩, p, h, rfl⟩
  | cons q r ih =>
    intro i p h
    match i, r, ih, h with
    | 0, [], _, h => exact ⟨⟨p, h, rfl⟩, p, h, rfl⟩
    | 0, x :: r, _, h =>
      rcases List.mem_cons.1 h with rfl | h
      · exact ⟨⟨q, by simp, rfl⟩, x, by simp, rfl⟩
      · exact ⟨⟨p, by simp [h], rfl⟩, p, by simp [h], rfl⟩
    | i + 1, r, ih, h =>
      rw [joinS_succ] at h
      rcases List.mem_cons.1 h with rfl | h
      · exact ⟨⟨p, by simp, rfl⟩, p, by simp, rfl⟩
      · obtain ⟨⟨a, ha, e1⟩, c, hc, e2⟩ := ih _ _ h
        exact ⟨⟨a, by simp [ha], e1⟩, c, by simp [hc], e2⟩
/-- What s comes to with n. -/
def addS (S : List Sp) (n : Int) : List Sp :=
  if Rgt S ∧ hs S n = false then (if 4 < (putS S n).length then joinS (putS S n) (near (putS S n) ((putS S n).length - 1)) else putS S n) else S
theorem addS_not {S : List Sp} {n : Int} (h : ¬ Rgt S) : addS S n = S := by unfold addS; rw [if_neg fun h1 => h h1.1]
theorem addS_has {S : List Sp} {n : Int} (h : hs S n = true) : addS S n = S := by unfold addS; rw [if_neg fun h1 => by rw [h] at h1; cases h1.2]
theorem addS_put {S : List Sp} {n : Int} (h : Rgt S) (hn : hs S n = false) (hl : S.length < 4) : addS S n = putS S n := by
  unfold addS
  rw [if_pos ⟨h, hn⟩, if_neg (by rw [putS_len]; omega)]
theorem addS_join {S : List Sp} {n : Int} (h : Rgt S) (hn : hs S n = false) (hl : S.length = 4) : addS S n = joinS (putS S n) (near (putS S n) 4) := by
  unfold addS
  have e := putS_len n S
  rw [if_pos ⟨h, hn⟩, if_pos (by omega), show (putS S n).length - 1 = 4 by omega]
theorem put_ord {S : List Sp} {n : Int} (h : Rgt S) (hn : hs S n = false) : ∃ b, Ord b (putS S n) := by
  obtain ⟨-, b, hb⟩ := rgt_iff.1 h
  exact ⟨min b (n - 1), putS_ord (hb.less (by omega)) (by omega) hn⟩
theorem add_rgt {S : List Sp} (n : Int) (h : Rgt S) : Rgt (addS S n) := by
  cases hn : hs S n with
  | true => rw [addS_has hn]; exact h
  | false =>
    obtain ⟨b, hb⟩ := put_ord h hn
    have hl := putS_len n S
    rcases Nat.lt_or_ge S.length 4 with h1 | h1
    · rw [addS_put h hn h1]
      exact rgt_iff.2 ⟨by omega, b, hb⟩
    · have h4 : S.length = 4 := by have := h.1; omega
      rw [addS_join h hn h4]
      have := (near_lt (putS S n) 4).2 (by omega)
      exact rgt_iff.2 ⟨by rw [joinS_len _ _ (by omega)]; omega, b, joinS_ord _ _ _ hb⟩
theorem add_keeps {S : List Sp} {n m : Int} (h : Rgt S) (hm : m = n ∨ hs S m = true) : hs (addS S n) m = true := by
  cases hn : hs S n with
  | true =>
    rw [addS_has hn]
    rcases hm with rfl | hm
    · exact hn
    · exact hm
  | false =>
    obtain ⟨b, hb⟩ := put_ord h hn
    have hp : hs (putS S n) m = true := by
      rcases hm with rfl | hm
      · exact hs_iff.2 ⟨(m, m), putS_mem.2 (.inl rfl), Int.le_refl _, Int.le_refl _⟩
      · obtain ⟨p, hp, h1⟩ := hs_iff.1 hm
        exact hs_iff.2 ⟨p, putS_mem.2 (.inr hp), h1⟩
    rcases Nat.lt_or_ge S.length 4 with h1 | h1
    · rw [addS_put h hn h1]; exact hp
    · rw [addS_join h hn (by have := h.1; omega)]; exact joinS_has _ _ _ _ hb hp
theorem add_ends {S : List Sp} {n : Int} {p : Sp} (h : Rgt S) (hp : p ∈ addS S n) : (p.1 = n ∨ ∃ q ∈ S, q.1 = p.1) ∧ (p.2 = n ∨ ∃ q ∈ S, q.2 = p.2) := by
  cases hn : hs S n with
  | true => rw [addS_has hn] at hp; exact ⟨.inr ⟨p, hp, rfl⟩, .inr ⟨p, hp, rfl⟩⟩
  | false =>
    have key : ∀ q ∈ putS S n, (q.1 = n ∨ ∃ x ∈ S, x.1 = q.1) ∧ (q.2 = n ∨ ∃ x ∈ S, x.2 = q.2) := fun q hq => by
      rcases putS_mem.1 hq with rfl | hq
      · exact ⟨.inl rfl, .inl rfl⟩
      · exact ⟨.inr ⟨q, hq, rfl⟩, .inr ⟨q, hq, rfl⟩⟩
    rcases Nat.lt_or_ge S.length 4 with h1 | h1
    · rw [addS_put h hn h1] at hp; exact key p hp
    · rw [addS_join h hn (by have := h.1; omega)] at hp
      obtain ⟨⟨a, ha, e1⟩, c, hc, e2⟩ := joinS_ends _ _ _ hp
      rw [← e1, ← e2]
      exact ⟨(key a ha).1, (key c hc).2⟩
theorem rgt_nil : Rgt [] := ⟨by simp, fun i hi => by simp at hi⟩
end Go.Proofs.Ytadgplpbkephiaa
