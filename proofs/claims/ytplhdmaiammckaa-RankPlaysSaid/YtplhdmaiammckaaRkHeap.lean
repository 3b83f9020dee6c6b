/- Heaps of ids with scores, in lists: what a change of two places keeps, what one step up or down leaves, who is least. No model. -/
import Derived.Test.YtplhdmaiammckaaProg
namespace Go.Proofs.Ytplhdmaiammckaa
set_option linter.unusedVariables false

/-- An id with its score. -/
abbrev Ent := Int × Int
/-- The first may stand ahead of the second. -/
def Le (p q : Ent) : Prop := p.2 < q.2 ∨ (p.2 = q.2 ∧ p.1 ≤ q.1)
/-- The program's Before, of entries. -/
def ltB (p q : Ent) : Bool := decide (p.2 < q.2 ∨ (p.2 = q.2 ∧ p.1 < q.1))
theorem ltB_false {p q : Ent} (h : ltB p q = false) : Le q p := by
  have h := of_decide_eq_false h
  unfold Le; omega
theorem ltB_true {p q : Ent} (h : ltB p q = true) : Le p q ∧ ¬ Le q p := by
  have h := of_decide_eq_true h
  unfold Le; omega
theorem Le.refl (p : Ent) : Le p p := by unfold Le; omega
theorem Le.trans {p q r : Ent} (h : Le p q) (k : Le q r) : Le p r := by unfold Le at *; omega
theorem Le.total (p q : Ent) : Le p q ∨ Le q p := by unfold Le; omega

/-- The entry at i. -/
def ent (l : List Ent) (i : Nat) : Ent := l.getD i (0, 0)
theorem ent_lt {l : List Ent} {i : Nat} (h : i < l.length) : ent l i = l[i] := by unfold ent; simp [h]
theorem ent_append (l r : List Ent) (i : Nat) : ent (l ++ r) i = if i < l.length then ent l i else ent r (i - l.length) := by
  unfold ent
  split
  · rename_i h; simp [List.getD_eq_getElem?_getD, List.getElem?_append_left h]
  · rename_i h; simp [List.getD_eq_getElem?_getD, List.getElem?_append_right (by omega : l.length ≤ i)]
theorem ent_set (l : List Ent) (i : Nat) (p : Ent) (k : Nat) (h : i < l.length) : ent (l.set i p) k = if k = i then p else ent l k := by
  unfold ent
  by_cases e : k = i
  · subst e; simp [List.getD_eq_getElem?_getD, h]
  · rw [if_neg e]; simp [List.getD_eq_getElem?_getD, List.getElem?_set_ne (Ne.symm e)]
theorem ent_take (l : List Ent) (n k : Nat) (h : k < n) : ent (l.take n) k = ent l k := by
  unfold ent; simp [List.getD_eq_getElem?_getD, h]

/-- Two entries change places. -/
def swp (l : List Ent) (i j : Nat) : List Ent := (l.set i (ent l j)).set j (ent l i)
theorem swp_length (l : List Ent) (i j : Nat) : (swp l i j).length = l.length := by unfold swp; simp
theorem ent_swp (l : List Ent) (i j k : Nat) (hi : i < l.length) (hj : j < l.length) : ent (swp l i j) k = if k = j then ent l i else if k = i then ent l j else ent l k := by
  unfold swp
  rw [ent_set _ _ _ _ (by simpa using hj)]
  by_cases e : k = j
  · rw [if_pos e, if_pos e]
  · rw [if_neg e, if_neg e, ent_set _ _ _ _ hi]

/-- The ids with their scores that the list has: S. -/
structure Lst (l : List Ent) (S : Int → Option Int) : Prop where
  one : ∀ i j, i < l.length → j < l.length → (ent l i).1 = (ent l j).1 → i = j
  fwd : ∀ i, i < l.length → S (ent l i).1 = some (ent l i).2
  bwd : ∀ k s, S k = some s → ∃ i, i < l.length ∧ ent l i = (k, s)
theorem Lst.swp {l : List Ent} {S : Int → Option Int} (h : Lst l S) {i j : Nat} (hi : i < l.length) (hj : j < l.length) : Lst (swp l i j) S := by
  have hs : ∀ k, k < l.length → ∃ m, m < l.length ∧ ent (Go.Proofs.Ytplhdmaiammckaa.swp l i j) m = ent l k := fun k hk => by
    refine ⟨if k = j then i else if k = i then j else k, by split; exact hi; split; exact hj; exact hk, ?_⟩
    rw [ent_swp l i j _ hi hj]
    split <;> split <;> simp_all
  have hf : ∀ k, k < l.length → ∃ m, m < l.length ∧ ent (Go.Proofs.Ytplhdmaiammckaa.swp l i j) k = ent l m ∧ (m = if k = j then i else if k = i then j else k) := fun k hk => by
    refine ⟨if k = j then i else if k = i then j else k, by split; exact hi; split; exact hj; exact hk, ?_, rfl⟩
    rw [ent_swp l i j _ hi hj]
    split
    · rfl
    · split <;> rfl
  refine ⟨fun a b ha hb e => ?_, fun a ha => ?_, fun k s hk => ?_⟩
  · rw [swp_length] at ha hb
    obtain ⟨m, hm, em, e1⟩ := hf a ha
    obtain ⟨n, hn, en, e2⟩ := hf b hb
    rw [em, en] at e
    have := h.one m n hm hn e
    rw [e1, e2] at this
    split at this <;> split at this <;> (try split at this) <;> (try split at this) <;> omega
  · rw [swp_length] at ha
    obtain ⟨m, hm, em, _⟩ := hf a ha
    rw [em]; exact h.fwd m hm
  · obtain ⟨m, hm, em⟩ := h.bwd k s hk
    obtain ⟨n, hn, en⟩ := hs m hm
    exact ⟨n, by rw [swp_length]; exact hn, en.trans em⟩
/-- A function is another one at one place. -/
def upd {α : Type} (S : Int → α) (k : Int) (v : α) : Int → α := fun i => if i = k then v else S i
theorem upd_same {α : Type} (S : Int → α) (k : Int) (v : α) : upd S k v k = v := by unfold upd; simp
theorem upd_other {α : Type} (S : Int → α) (k : Int) (v : α) (i : Int) (h : i ≠ k) : upd S k v i = S i := by unfold upd; simp [h]
theorem Lst.push {l : List Ent} {S : Int → Option Int} (h : Lst l S) {k s : Int} (hk : S k = none) : Lst (l ++ [(k, s)]) (upd S k (some s)) := by
  have e0 : ∀ i, i < l.length → ent (l ++ [(k, s)]) i = ent l i := fun i hi => by rw [ent_append, if_pos hi]
  have e1 : ent (l ++ [(k, s)]) l.length = (k, s) := by rw [ent_append, if_neg (by omega)]; simp [ent]
  have hne : ∀ i, i < l.length → (ent l i).1 ≠ k := fun i hi e => by
    have := h.fwd i hi
    rw [e, hk] at this; cases this
  refine ⟨fun a b ha hb e => ?_, fun a ha => ?_, fun k' s' hk' => ?_⟩
  · simp only [List.length_append, List.length_singleton] at ha hb
    by_cases h1 : a < l.length <;> by_cases h2 : b < l.length
    · rw [e0 a h1, e0 b h2] at e; exact h.one a b h1 h2 e
    · have : b = l.length := by omega
      subst this
      rw [e0 a h1, e1] at e; exact absurd e (hne a h1)
    · have : a = l.length := by omega
      subst this
      rw [e0 b h2, e1] at e; exact absurd e.symm (hne b h2)
    · omega
  · simp only [List.length_append, List.length_singleton] at ha
    by_cases h1 : a < l.length
    · rw [e0 a h1, upd_other _ _ _ _ (hne a h1)]; exact h.fwd a h1
    · have : a = l.length := by omega
      subst this
      rw [e1, upd_same]
  · by_cases e : k' = k
    · subst e
      rw [upd_same] at hk'
      cases hk'
      exact ⟨l.length, by simp, e1⟩
    · rw [upd_other _ _ _ _ e] at hk'
      obtain ⟨i, hi, ei⟩ := h.bwd k' s' hk'
      exact ⟨i, by simp; omega, by rw [e0 i hi]; exact ei⟩
theorem Lst.pop {l : List Ent} {S : Int → Option Int} (h : Lst l S) {n : Nat} (hn : l.length = n + 1) : Lst (l.take n) (upd S (ent l n).1 none) := by
  have e0 : ∀ i, i < n → ent (l.take n) i = ent l i := fun i hi => ent_take l n i hi
  have hl : (l.take n).length = n := by simp; omega
  have hne : ∀ i, i < n → (ent l i).1 ≠ (ent l n).1 := fun i hi e => by
    have := h.one i n (by omega) (by omega) e
    omega
  refine ⟨fun a b ha hb e => ?_, fun a ha => ?_, fun k' s' hk' => ?_⟩
  · rw [hl] at ha hb
    rw [e0 a ha, e0 b hb] at e; exact h.one a b (by omega) (by omega) e
  · rw [hl] at ha
    rw [e0 a ha, upd_other _ _ _ _ (hne a ha)]; exact h.fwd a (by omega)
  · by_cases e : k' = (ent l n).1
    · rw [e, upd_same] at hk'; cases hk'
    · rw [upd_other _ _ _ _ e] at hk'
      obtain ⟨i, hi, ei⟩ := h.bwd k' s' hk'
      have : i ≠ n := fun e1 => e (by rw [← e1, ei])
      exact ⟨i, by rw [hl]; omega, by rw [e0 i (by omega)]; exact ei⟩
theorem Lst.nil : Lst [] (fun _ => none) := ⟨fun i j h => by simp at h, fun i h => by simp at h, fun k s h => by cases h⟩

/-- Where the one above stands. -/
abbrev par (k : Nat) : Nat := (k - 1) / 2
/-- The first n are a heap. -/
def Hp (l : List Ent) (n : Nat) : Prop := ∀ k, 0 < k → k < n → Le (ent l (par k)) (ent l k)
/-- .. but for what stands at i, and those above it are ahead of those below it. -/
structure Ex (l : List Ent) (n i : Nat) : Prop where
  far : ∀ k, 0 < k → k < n → k ≠ i → par k ≠ i → Le (ent l (par k)) (ent l k)
  near : ∀ k, 0 < k → k < n → par k = i → 0 < i → Le (ent l (par i)) (ent l k)
/-- Those below i are behind it. -/
def Kid (l : List Ent) (n i : Nat) : Prop := ∀ k, 0 < k → k < n → par k = i → Le (ent l i) (ent l k)
/-- What stands above i is ahead of it. -/
def Up (l : List Ent) (i : Nat) : Prop := 0 < i → Le (ent l (par i)) (ent l i)
theorem Ex.heap {l : List Ent} {n i : Nat} (h : Ex l n i) (k : Kid l n i) (u : Up l i) : Hp l n := fun j h0 h1 => by
  by_cases e : j = i
  · subst e; exact u h0
  · by_cases e2 : par j = i
    · rw [e2]; exact k j h0 h1 e2
    · exact h.far j h0 h1 e e2
theorem Hp.ex {l : List Ent} {n : Nat} (h : Hp l n) (i : Nat) : Ex l n i := ⟨fun k a b _ _ => h k a b, fun k a b e c => (by
  by_cases hi : i < n
  · have h1 := h i c hi
    have h2 := h k a b
    rw [e] at h2
    exact h1.trans h2
  · have : par k = (k - 1) / 2 := rfl
    omega)⟩
theorem Hp.least {l : List Ent} {n : Nat} (h : Hp l n) : ∀ k, k < n → Le (ent l 0) (ent l k) := fun k => by
  induction k using Nat.strongRecOn with
  | _ k ih =>
    intro hk
    by_cases e : k = 0
    · rw [e]; exact .refl _
    · have := ih (par k) (by show (k - 1) / 2 < k; omega) (by show (k - 1) / 2 < n; omega)
      exact this.trans (h k (by omega) hk)
/-- One step up. -/
theorem Ex.up {l : List Ent} {n j : Nat} (h : Ex l n j) (k : Kid l n j) (hj : 0 < j) (hn : j < n) (hl : n ≤ l.length) (hlt : ltB (ent l j) (ent l (par j)) = true) : Ex (swp l (par j) j) n (par j) ∧ Kid (swp l (par j) j) n (par j) := by
  have hp : par j < j := by show (j - 1) / 2 < j; omega
  have hs := fun a => ent_swp l (par j) j a (by omega) (by omega)
  have hle := (ltB_true hlt).1
  have par_ne : ∀ a, par a = j → a ≠ j := fun a e e1 => by have : par a = (a - 1) / 2 := rfl; omega
  refine ⟨⟨fun a h0 h1 ha hpa => ?_, fun a h0 h1 hpa hi => ?_⟩, fun a h0 h1 hpa => ?_⟩
  · rw [hs a, hs (par a)]
    have ha' : a ≠ j := fun e => hpa (by rw [e])
    rw [if_neg ha', if_neg ha, if_neg hpa]
    by_cases e : par a = j
    · rw [if_pos e]; exact h.near a h0 h1 e hj
    · rw [if_neg e]; exact h.far a h0 h1 ha' e
  · have hpp : par (par j) < par j := by show (par j - 1) / 2 < par j; omega
    rw [hs (par (par j)), hs a, if_neg (by omega), if_neg (by omega)]
    by_cases e : a = j
    · rw [if_pos e]
      exact h.far (par j) hi (by omega) (by omega) (by omega)
    · have hap : a ≠ par j := fun e1 => by rw [e1] at hpa; omega
      rw [if_neg e, if_neg hap]
      have h1' := h.far (par j) hi (by omega) (by omega) (by omega)
      have h2' := h.far a h0 h1 e (by omega)
      rw [hpa] at h2'
      exact h1'.trans h2'
  · rw [hs (par j), hs a, if_neg (by omega), if_pos rfl]
    by_cases e : a = j
    · rw [if_pos e]; exact hle
    · have hap : a ≠ par j := fun e1 => by rw [e1] at hpa; have : par (par j) = (par j - 1) / 2 := rfl; omega
      rw [if_neg e, if_neg hap]
      have h2' := h.far a h0 h1 e (by omega)
      rw [hpa] at h2'
      exact hle.trans h2'
/-- One step down: c is the lesser one below i. -/
theorem Ex.down {l : List Ent} {n i c : Nat} (h : Ex l n i) (hi : i < n) (hl : n ≤ l.length) (hc0 : 0 < c) (hc : c < n) (hp : par c = i) (hmin : ∀ k, 0 < k → k < n → par k = i → Le (ent l c) (ent l k)) (hlt : ltB (ent l c) (ent l i) = true) (hu : Up l i ∨ ∀ k, k < i → True) :
    Ex (swp l i c) n c ∧ Up (swp l i c) c := by
  have hic : i < c := by have : par c = (c - 1) / 2 := rfl; omega
  have hs := fun a => ent_swp l i c a (by omega) (by omega)
  have hle := (ltB_true hlt).1
  refine ⟨⟨fun a h0 h1 ha hpa => ?_, fun a h0 h1 hpa _ => ?_⟩, fun _ => ?_⟩
  · rw [hs a, hs (par a), if_neg ha, if_neg hpa]
    by_cases e : a = i
    · rw [if_pos e]
      have : par a ≠ i := fun e1 => by have : par a = (a - 1) / 2 := rfl; omega
      rw [if_neg this]
      subst e
      exact h.near c hc0 hc hp h0
    · rw [if_neg e]
      by_cases e2 : par a = i
      · rw [if_pos e2]; exact hmin a h0 h1 e2
      · rw [if_neg e2]; exact h.far a h0 h1 e e2
  · have hca : c < a := by have : par a = (a - 1) / 2 := rfl; omega
    rw [hp, hs i, hs a, if_neg (by omega), if_pos rfl, if_neg (by omega), if_neg (by omega)]
    have := h.far a h0 h1 (by omega) (by omega)
    rw [hpa] at this
    exact this
  · rw [hp, hs i, hs c, if_neg (by omega), if_pos rfl, if_pos rfl]
    exact hle
end Go.Proofs.Ytplhdmaiammckaa
