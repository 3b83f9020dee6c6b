/- Plain arithmetic on the seven classes of sizes: which class a number has, what it is rounded to, what a list of numbers sums up to; no condition beside those that each theorem names. -/
import Derived.Below
namespace Go.Proofs.YtglhebpblncjaaaDoor

/-- The class with the number k. -/
def cv : Nat → Int
  | 0 => 16
  | 1 => 32
  | 2 => 64
  | 3 => 128
  | 4 => 256
  | 5 => 512
  | 6 => 1024
  | _ => 0
/-- Which class holds n; -1 if none does. -/
def cls (n : Int) : Int :=
  if n < 0 then -1 else if n ≤ 16 then 0 else if n ≤ 32 then 1 else if n ≤ 64 then 2 else if n ≤ 128 then 3 else if n ≤ 256 then 4 else if n ≤ 512 then 5 else if n ≤ 1024 then 6 else -1
/-- What n is rounded to; 0 if no class holds it. -/
def rnd (n : Int) : Int :=
  if n < 0 then 0 else if n ≤ 16 then 16 else if n ≤ 32 then 32 else if n ≤ 64 then 64 else if n ≤ 128 then 128 else if n ≤ 256 then 256 else if n ≤ 512 then 512 else if n ≤ 1024 then 1024 else 0
/-- Is n rounded at all? -/
def rok (n : Int) : Bool := decide (0 ≤ n) && decide (n ≤ 1024)

theorem nine (n : Int) : n < 0 ∨ (0 ≤ n ∧ n ≤ 16) ∨ (16 < n ∧ n ≤ 32) ∨ (32 < n ∧ n ≤ 64) ∨ (64 < n ∧ n ≤ 128) ∨ (128 < n ∧ n ≤ 256) ∨ (256 < n ∧ n ≤ 512) ∨ (512 < n ∧ n ≤ 1024) ∨ 1024 < n := by omega
theorem cls_neg {n : Int} (h : n < 0) : cls n = -1 := by simp [cls, h]
theorem cls_big {n : Int} (h : 1024 < n) : cls n = -1 := by
  unfold cls
  rw [if_neg (by omega), if_neg (by omega), if_neg (by omega), if_neg (by omega), if_neg (by omega), if_neg (by omega), if_neg (by omega), if_neg (by omega)]
theorem cls_of {n : Int} (k : Nat) (hk : k < 7) (h0 : 0 ≤ n) (h1 : k = 0 ∨ cv (k - 1) < n) (h2 : n ≤ cv k) : (k : Int) = cls n := by
  match k, hk, h1, h2 with
  | 0, _, _, h2 => simp only [cv] at h2; unfold cls; rw [if_neg (by omega), if_pos (by omega)]; rfl
  | 1, _, h1, h2 => simp [cv] at h1 h2; unfold cls; rw [if_neg (by omega), if_neg (by omega), if_pos (by omega)]; rfl
  | 2, _, h1, h2 => simp [cv] at h1 h2; unfold cls; rw [if_neg (by omega), if_neg (by omega), if_neg (by omega), if_pos (by omega)]; rfl
  | 3, _, h1, h2 => simp [cv] at h1 h2; unfold cls; rw [if_neg (by omega), if_neg (by omega), if_neg (by omega), if_neg (by omega), if_pos (by omega)]; rfl
  | 4, _, h1, h2 => simp [cv] at h1 h2; unfold cls; rw [if_neg (by omega), if_neg (by omega), if_neg (by omega), if_neg (by omega), if_neg (by omega), if_pos (by omega)]; rfl
  | 5, _, h1, h2 => simp [cv] at h1 h2; unfold cls; rw [if_neg (by omega), if_neg (by omega), if_neg (by omega), if_neg (by omega), if_neg (by omega), if_neg (by omega), if_pos (by omega)]; rfl
  | 6, _, h1, h2 => simp [cv] at h1 h2; unfold cls; rw [if_neg (by omega), if_neg (by omega), if_neg (by omega), if_neg (by omega), if_neg (by omega), if_neg (by omega), if_neg (by omega), if_pos (by omega)]; rfl
/-- What a number that is rounded has: its class, the class's size, and what stands ahead. -/
theorem rnd_of {n : Int} (h0 : 0 ≤ n) (h1 : n ≤ 1024) : ∃ k : Nat, k < 7 ∧ cls n = k ∧ rnd n = cv k ∧ n ≤ cv k ∧ (k = 0 ∨ cv (k - 1) < n) := by
  rcases nine n with h | h | h | h | h | h | h | h | h
  · omega
  · exact ⟨0, by omega, by unfold cls; rw [if_neg (by omega), if_pos (by omega)]; rfl, by unfold rnd; rw [if_neg (by omega), if_pos (by omega)]; rfl, h.2, .inl rfl⟩
  · exact ⟨1, by omega, by unfold cls; rw [if_neg (by omega), if_neg (by omega), if_pos (by omega)]; rfl, by unfold rnd; rw [if_neg (by omega), if_neg (by omega), if_pos (by omega)]; rfl, h.2, .inr h.1⟩
  · exact ⟨2, by omega, by unfold cls; rw [if_neg (by omega), if_neg (by omega), if_neg (by omega), if_pos (by omega)]; rfl, by unfold rnd; rw [if_neg (by omega), if_neg (by omega), if_neg (by omega), if_pos (by omega)]; rfl, h.2, .inr h.1⟩
  · exact ⟨3, by omega, by unfold cls; rw [if_neg (by omega), if_neg (by omega), if_neg (by omega), if_neg (by omega), if_pos (by omega)]; rfl, by unfold rnd; rw [if_neg (by omega), if_neg (by omega), if_neg (by omega), if_neg (by omega), if_pos (by omega)]; rfl, h.2, .inr h.1⟩
  · exact ⟨4, by omega, by unfold cls; rw [if_neg (by omega), if_neg (by omega), if_neg (by omega), if_neg (by omega), if_neg (by omega), if_pos (by omega)]; rfl, by unfold rnd; rw [if_neg (by omega), if_neg (by omega), if_neg (by omega), if_neg (by omega), if_neg (by omega), if_pos (by omega)]; rfl, h.2, .inr h.1⟩
  · exact ⟨5, by omega, by unfold cls; rw [if_neg (by omega), if_neg (by omega), if_neg (by omega), if_neg (by omega), if_neg (by omega), if_neg (by omega), if_pos (by omega)]; rfl, by unfold rnd; rw [if_neg (by omega), if_neg (by omega), if_neg (by omega), if_neg (by omega), if_neg (by omega), if_neg (by omega), if_pos (by omega)]; rfl, h.2, .inr h.1⟩
  · exact ⟨6, by omega, by unfold cls; rw [if_neg (by omega), if_neg (by omega), if_neg (by omega), if_neg (by omega), if_neg (by omega), if_neg (by omega), if_neg (by omega), if_pos (by omega)]; rfl, by unfold rnd; rw [if_neg (by omega), if_neg (by omega), if_neg (by omega), if_neg (by omega), if_neg (by omega), if_neg (by omega), if_neg (by omega), if_pos (by omega)]; rfl, h.2, .inr h.1⟩
  · omega
theorem rnd_no {n : Int} (h : n < 0 ∨ 1024 < n) : rnd n = 0 := by
  unfold rnd
  rcases h with h | h
  · rw [if_pos h]
  · rw [if_neg (by omega), if_neg (by omega), if_neg (by omega), if_neg (by omega), if_neg (by omega), if_neg (by omega), if_neg (by omega), if_neg (by omega)]
theorem rok_yes {n : Int} (h0 : 0 ≤ n) (h1 : n ≤ 1024) : rok n = true := by simp [rok, h0, h1]
theorem rok_no {n : Int} (h : n < 0 ∨ 1024 < n) : rok n = false := by simp [rok]; omega
theorem cv_cases {k : Nat} (hk : k < 7) : 16 ≤ cv k ∧ cv k ≤ 1024 ∧ (k = 0 → cv k = 16) ∧ (0 < k → cv k = 2 * cv (k - 1)) := by
  match k, hk with
  | 0, _ => simp [cv]
  | 1, _ => simp [cv]
  | 2, _ => simp [cv]
  | 3, _ => simp [cv]
  | 4, _ => simp [cv]
  | 5, _ => simp [cv]
  | 6, _ => simp [cv]
theorem rnd_bd (n : Int) : 0 ≤ rnd n ∧ rnd n ≤ 1024 := by
  by_cases h : 0 ≤ n ∧ n ≤ 1024
  · obtain ⟨k, hk, _, h3, _⟩ := rnd_of h.1 h.2
    have := cv_cases hk
    rw [h3]; omega
  · rw [rnd_no (by omega)]; omega

/-- What some numbers sum up to behind s: none where one is not rounded, or the sum is above 2^31 - 1. -/
def smo (s : Int) : List Int → Option Int
  | [] => some s
  | x :: r => if rok x = true ∧ s + rnd x ≤ 2147483647 then smo (s + rnd x) r else none
def smv (l : List Int) : Int := (smo 0 l).getD 0
def smk (l : List Int) : Bool := (smo 0 l).isSome
theorem smo_nil (s : Int) : smo s [] = some s := rfl
theorem smo_yes {s x : Int} {r : List Int} (h : rok x = true) (h1 : s + rnd x ≤ 2147483647) : smo s (x :: r) = smo (s + rnd x) r := by simp [smo, h, h1]
theorem smo_no {s x : Int} {r : List Int} (h : rok x = false ∨ 2147483647 < s + rnd x) : smo s (x :: r) = none := by
  rcases h with h | h
  · simp [smo, h]
  · simp [smo]; intro _; omega
/-- The sum of what each of the numbers is rounded to. -/
def tot : List Int → Int
  | [] => 0
  | x :: r => rnd x + tot r
theorem tot_append (l m : List Int) : tot (l ++ m) = tot l + tot m := by
  induction l with
  | nil => simp [tot]
  | cons x r ih => simp only [List.cons_append, tot, ih]; omega
/-- Small ones, and few, always sum up. -/
def Small (l : List Int) : Prop := ∀ x ∈ l, 0 ≤ x ∧ x ≤ 1024
theorem tot_bd {l : List Int} (h : Small l) : 16 * (l.length : Int) ≤ tot l ∧ tot l ≤ 1024 * (l.length : Int) := by
  induction l with
  | nil => simp [tot]
  | cons x r ih =>
    have h1 := ih (fun y hy => h y (by simp [hy]))
    have h2 := h x (by simp)
    obtain ⟨k, hk, _, h3, _⟩ := rnd_of h2.1 h2.2
    have := cv_cases hk
    simp only [tot, List.length_cons, Int.natCast_add, Int.natCast_one]
    omega
theorem smo_small {l : List Int} (h : Small l) : ∀ s : Int, 0 ≤ s → s + 1024 * (l.length : Int) ≤ 2147483647 → smo s l = some (s + tot l) := by
  induction l with
  | nil => intro s _ _; simp [smo, tot]
  | cons x r ih =>
    intro s h0 h1
    have h2 := h x (by simp)
    have h3 := rnd_bd x
    simp only [List.length_cons, Int.natCast_add, Int.natCast_one] at h1
    rw [smo_yes (rok_yes h2.1 h2.2) (by omega), ih (fun y hy => h y (by simp [hy])) _ (by omega) (by omega)]
    simp only [tot]
    congr 1
    omega
theorem smo_end {l : List Int} (h : Small l) (x : Int) : ∀ s : Int, 0 ≤ s → s + 1024 * (l.length : Int) + 1024 ≤ 2147483647 → smo s (l ++ [x]) = if rok x = true then some (s + tot l + rnd x) else none := by
  induction l with
  | nil =>
    intro s h0 h1
    have h3 := rnd_bd x
    simp only [List.nil_append, tot]
    by_cases hx : rok x = true
    · rw [smo_yes hx (by simp at h1; omega), if_pos hx]; simp [smo]
    · rw [smo_no (.inl (by simpa using hx)), if_neg hx]
  | cons y r ih =>
    intro s h0 h1
    have h2 := h y (by simp)
    have h3 := rnd_bd y
    simp only [List.length_cons, Int.natCast_add, Int.natCast_one] at h1
    rw [List.cons_append, smo_yes (rok_yes h2.1 h2.2) (by omega), ih (fun y hy => h y (by simp [hy])) _ (by omega) (by omega)]
    simp only [tot]
    split
    · congr 1; omega
    · rfl
theorem smv_small {l : List Int} (h : Small l) (hl : l.length ≤ 1000) : smv l = tot l := by
  simp [smv, smo_small h 0 (by omega) (by omega)]
theorem smk_small {l : List Int} (h : Small l) (hl : l.length ≤ 1000) : smk l = true := by
  simp [smk, smo_small h 0 (by omega) (by omega)]
theorem smk_end {l : List Int} (h : Small l) (hl : l.length ≤ 1000) (x : Int) : smk (l ++ [x]) = rok x := by
  rw [smk, smo_end h x 0 (by omega) (by omega)]
  cases rok x <;> simp
theorem smv_end {l : List Int} (h : Small l) (hl : l.length ≤ 1000) (x : Int) : smv (l ++ [x]) = if rok x = true then tot l + rnd x else 0 := by
  rw [smv, smo_end h x 0 (by omega) (by omega)]
  split <;> simp
end Go.Proofs.YtglhebpblncjaaaDoor
