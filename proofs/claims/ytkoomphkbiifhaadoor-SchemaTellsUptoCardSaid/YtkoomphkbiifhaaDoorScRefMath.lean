/- The reference's plain parse, and that it agrees with the program's. -/
import Derived.Test.YtkoomphkbiifhaaDoorScRefUp
import Derived.Test.YtkoomphkbiifhaaDoorScBackMath
namespace Go.Proofs.YtkoomphkbiifhaaDoor
set_option linter.unusedVariables false

theorem cutB_eq (c : UInt8) : ∀ s : Nm, (cutB c s).2.2 = true → s = (cutB c s).1 ++ c :: (cutB c s).2.1
  | [], h => by cases h
  | b :: l, h => by
    have ih := cutB_eq c l
    rw [cutB] at h ⊢
    by_cases e : b = c
    · rw [if_pos e, e]; rfl
    · rw [if_neg e] at h ⊢
      have := ih h
      simp only [List.cons_append]
      rw [← this]
theorem splitC_ne (k : Nat) (s : Nm) : splitC k s ≠ [] := by
  cases k with
  | zero => simp [splitC]
  | succ k => rw [splitC]; split <;> simp
theorem join_split : ∀ (k : Nat) (s : Nm), joinC (splitC k s) = s
  | 0, s => rfl
  | k + 1, s => by
    rw [splitC]
    split
    · rename_i h
      have ih := join_split k (cutB 44 s).2.1
      have ne := splitC_ne k (cutB 44 s).2.1
      have e := cutB_eq 44 s h
      cases hs : splitC k (cutB 44 s).2.1 with
      | nil => exact absurd hs ne
      | cons b r =>
        rw [hs] at ih
        rw [joinC, ih]
        exact e.symm
    · rfl
theorem suffix_eq {s : Nm} (h : Lib.hasSuffix s [41] = true) : s = Lib.trimSuffix s [41] ++ [41] := by
  have hs : [41] <:+ s := by unfold Lib.hasSuffix at h; exact List.isSuffixOf_iff_suffix.1 h
  obtain ⟨p, rfl⟩ := hs
  rw [suffix_trim]
theorem gk_eq {t : Nm} {k : Kd} (h : gk t = some k) : t = k.1 ++ 40 :: (joinC k.2 ++ [41]) := by
  unfold gk at h
  split at h
  · rename_i hh
    have e1 := cutB_eq 40 t hh.1
    have e2 := suffix_eq hh.2
    cases h
    have e3 : joinC (if Lib.trimSuffix (cutB 40 t).2.1 [41] = [] then [] else splitC 8 (Lib.trimSuffix (cutB 40 t).2.1 [41])) = Lib.trimSuffix (cutB 40 t).2.1 [41] := by
      split
      · rename_i h0; rw [h0]; rfl
      · exact join_split _ _
    simp only
    rw [e3, ← e2]
    exact e1
  · cases h
theorem getL_eq : ∀ (f : Nat) (acc : List Kd) (t : Nm) (g : List Kd), getL f acc t = some g → putL g = putL acc ++ t
  | 0, _, _, _, h => by cases h
  | f + 1, acc, t, g, h => by
    rw [getL] at h
    split at h
    · rename_i h0
      split at h
      · cases h; rw [h0, List.append_nil]
      · cases h
    · split at h
      · cases h
      · rename_i k hk
        split at h
        · rename_i hc
          rw [getL_eq f _ _ _ h]
          have e1 := cutB_eq 59 t hc.1
          have e2 := gk_eq hk
          have e3 : putL (acc ++ [k]) = putL acc ++ kindTxt k := by simp [putL]
          rw [e3, List.append_assoc, kindTxt_eq, ← e2, ← e1]
        · cases h
/-- Fields, as the reference reads them: those read, what is left. -/
def fl : Nat → List Nm → Nm → List Nm × Nm
  | 0, acc, s => (acc, s)
  | f + 1, acc, s => if s = [] ∨ s.getD 0 0 = 41 then (acc, s) else
      fl f (acc ++ [s.take (upN [44, 41] s)]) (if (s.drop (upN [44, 41] s)).getD 0 0 = 44 then (s.drop (upN [44, 41] s)).drop 1 else s.drop (upN [44, 41] s))
/-- Kinds, as the reference reads them. -/
def kl : Nat → List Kd → Nm → List Kd
  | 0, acc, _ => acc
  | f + 1, acc, s => if s = [] then acc else
      kl f (acc ++ [(s.take (upN [40] s), (fl (s.length + 1) [] (s.drop (upN [40] s + 1))).1)]) ((fl (s.length + 1) [] (s.drop (upN [40] s + 1))).2.drop 2)
def npT (t : Nm) : List Kd := kl (t.length + 1) [] t
def rgetT (t : Nm) : Option (List Kd) := if rightE (npT t) = 0 ∧ putL (npT t) = t then some (npT t) else none
theorem upN_app (any : List UInt8) (c : UInt8) (hc : any.contains c = true) : ∀ (a t : List UInt8), (∀ x ∈ a, any.contains x = false) → upN any (a ++ c :: t) = a.length
  | [], t, _ => by rw [List.nil_append, upN, if_pos hc]; rfl
  | b :: a, t, h => by
    have h0 := h b (by simp)
    rw [List.cons_append, upN, if_neg (by rw [h0]; simp), upN_app any c hc a t fun x hx => h x (by simp [hx])]
    rfl
theorem okb_no {x : UInt8} (h : okb x) : ([44, 41] : List UInt8).contains x = false ∧ ([40] : List UInt8).contains x = false := by
  have h1 := h.1
  have h2 := h.2.1
  have h3 := h.2.2.1
  constructor <;> simp [h1, h2, h3]
theorem fl_one (f : Nat) (acc : List Nm) (a : Nm) (c : UInt8) (t : Nm) (ha : a ≠ []) (h : ∀ x ∈ a, okb x) (hc : ([44, 41] : List UInt8).contains c = true) :
    fl (f + 1) acc (a ++ c :: t) = fl f (acc ++ [a]) (if c = 44 then t else c :: t) := by
  have hu := upN_app [44, 41] c hc a t fun x hx => (okb_no (h x hx)).1
  have h0 : ¬ (a ++ c :: t = [] ∨ (a ++ c :: t).getD 0 0 = 41) := by
    cases a with
    | nil => exact absurd rfl ha
    | cons b a => have := (h b (by simp)).2.1; simpa using this
  rw [fl, if_neg h0, hu]
  have e1 : (a ++ c :: t).take a.length = a := List.take_left' rfl
  have e2 : (a ++ c :: t).drop a.length = c :: t := List.drop_left' rfl
  rw [e1, e2]
  simp
theorem fl_join : ∀ (fs acc : List Nm) (t : Nm) (f : Nat), (∀ a ∈ fs, nameB a = true) → (joinC fs).length + 1 ≤ f → fl f acc (joinC fs ++ 41 :: t) = (acc ++ fs, 41 :: t)
  | [], acc, t, f, _, hf => by
    obtain ⟨f', rfl⟩ : ∃ f', f = f' + 1 := ⟨f - 1, by omega⟩
    rw [fl, if_pos (.inr rfl)]
    simp [joinC]
  | [a], acc, t, f, h, hf => by
    have ha := name_ok (h a (by simp))
    have hp := List.length_pos_iff.2 ha.1
    rw [joinC] at hf ⊢
    obtain ⟨f', rfl⟩ : ∃ f', f = f' + 1 + 1 := ⟨f - 2, by omega⟩
    rw [fl_one _ _ _ _ _ ha.1 ha.2.2 (by decide), if_neg (by decide), fl, if_pos (.inr rfl)]
  | a :: b :: r, acc, t, f, h, hf => by
    have ha := name_ok (h a (by simp))
    have hp := List.length_pos_iff.2 ha.1
    rw [joinC] at hf ⊢
    simp only [List.length_append, List.length_cons] at hf
    obtain ⟨f', rfl⟩ : ∃ f', f = f' + 1 := ⟨f - 1, by omega⟩
    rw [List.append_assoc, List.cons_append, fl_one _ _ _ _ _ ha.1 ha.2.2 (by decide), if_pos rfl, fl_join (b :: r) (acc ++ [a]) t f' (fun x hx => h x (by simp [hx])) (by omega)]
    simp
theorem kl_put : ∀ (ks acc : List Kd) (f : Nat), (∀ k ∈ ks, NmOk k) → (putL ks).length + 1 ≤ f → kl f acc (putL ks) = acc ++ ks
  | [], acc, f, _, hf => by
    obtain ⟨f', rfl⟩ : ∃ f', f = f' + 1 := ⟨f - 1, by omega⟩
    rw [kl, if_pos (show putL [] = [] from rfl), List.append_nil]
  | k :: ks, acc, f, h, hf => by
    obtain ⟨f', rfl⟩ : ∃ f', f = f' + 1 := ⟨f - 1, by omega⟩
    have hk := h k (by simp)
    have hn := name_ok hk.1
    have e : putL (k :: ks) = k.1 ++ 40 :: (joinC k.2 ++ 41 :: 59 :: putL ks) := by
      have : putL (k :: ks) = kindTxt k ++ putL ks := rfl
      rw [this, kindTxt_eq]; simp
    have hlen := congrArg List.length e
    rw [List.length_append, List.length_cons, List.length_append, List.length_cons, List.length_cons] at hlen
    have hu := upN_app [40] 40 (by decide) k.1 (joinC k.2 ++ 41 :: 59 :: putL ks) fun x hx => (okb_no (hn.2.2 x hx)).2
    have ih := kl_put ks (acc ++ [k]) f' (fun x hx => h x (by simp [hx])) (by omega)
    rw [kl, if_neg (by rw [e]; simp)]
    have e1 : (putL (k :: ks)).take (upN [40] (putL (k :: ks))) = k.1 := by rw [e, hu]; exact List.take_left' rfl
    have e2 : (putL (k :: ks)).drop (upN [40] (putL (k :: ks)) + 1) = joinC k.2 ++ 41 :: 59 :: putL ks := by
      rw [e, hu, ← List.drop_drop, List.drop_left' rfl]; rfl
    rw [e1, e2, fl_join k.2 [] _ _ hk.2.2 (by omega)]
    simp only [List.nil_append, List.drop_succ_cons, List.drop_zero]
    rw [ih]
    simp
theorem rget_eq (t : Nm) : rgetT t = getT t := by
  cases h : getT t with
  | some g =>
    have hr := getL_right _ _ _ _ h
    have hp : putL g = t := by have := getL_eq _ _ _ _ h; simpa [putL] using this
    have hn : npT t = g := by
      have := kl_put g [] (t.length + 1) (right_names hr) (by rw [hp]; exact Nat.le_refl _)
      rw [hp] at this
      exact this
    unfold rgetT
    rw [hn, if_pos ⟨hr, hp⟩]
  | none =>
    unfold rgetT
    split
    · rename_i hh
      have := get_put hh.1
      rw [hh.2, h] at this
      cases this
    · rfl
end Go.Proofs.YtkoomphkbiifhaaDoor
