/- Layer 9: how long what is put of items is, at most. -/
import Derived.Test.YtbdfehgofnomhaaDoorPaDef
import Derived.Test.YtbdfehgofnomhaaDoorPaPutM
namespace Go.Proofs.YtbdfehgofnomhaaDoor
open Go.RowKit
set_option linter.unusedVariables false

/- How much there is of it: one for each item, and what its predicates are. -/
mutual
def wtI : IT → Nat
  | .mk _ _ _ _ _ ps _ _ _ _ _ ks => 1 + sizeL ps + wtKs ks
def wtIs : List IT → Nat
  | [] => 0
  | x :: xs => wtI x + wtIs xs
def wtKs : List (List IT) → Nat
  | [] => 0
  | l :: ls => wtIs l + wtKs ls
end
theorem wtI_mk (k : Int) (nm vr : Nm) (pA : Option Addr) (pc : Nat) (ps : List ET) (lo hi : Int) (kA : Option Addr) (kc : Nat) (kp : List (Option Addr × Nat)) (ks : List (List IT)) : wtI (.mk k nm vr pA pc ps lo hi kA kc kp ks) = 1 + sizeL ps + wtKs ks := by rw [wtI]
theorem wtIs_nil : wtIs [] = 0 := by rw [wtIs]
theorem wtIs_cons (x : IT) (xs : List IT) : wtIs (x :: xs) = wtI x + wtIs xs := by rw [wtIs]
theorem wtKs_nil : wtKs [] = 0 := by rw [wtKs]
theorem wtKs_cons (l : List IT) (ls : List (List IT)) : wtKs (l :: ls) = wtIs l + wtKs ls := by rw [wtKs]
theorem wtIs_append : ∀ (l m : List IT), wtIs (l ++ m) = wtIs l + wtIs m
  | [], m => by rw [List.nil_append, wtIs_nil]; omega
  | x :: xs, m => by rw [List.cons_append, wtIs_cons, wtIs_cons, wtIs_append xs m]; omega
theorem itoa1 {n : Int} (h : 1 ≤ n) (h2 : n ≤ 4) : (Lib.itoa n).length = 1 := by
  rw [itoa_pos (by omega), dec_small (by omega)]; rfl
theorem prd_len {W : World} : ∀ {ps : List ET}, ps.all rightT = true → (∀ t ∈ ps, ET.In W t) → (prd ps).length ≤ 62 * sizeL ps
  | [], _, _ => by rw [prd]; simp
  | t :: ts, h, hi => by
    simp only [List.all_cons, Bool.and_eq_true] at h
    have h1 := put_len t.size t 0 (Nat.le_refl _) h.1 (hi t (by simp))
    have h2 := prd_len h.2 (fun u hu => hi u (by simp [hu]))
    have h3 := size_pos t
    rw [prd, sizeL_cons]
    simp only [List.length_append, List.length_cons, List.length_nil]
    omega
theorem wtI_pos (x : IT) : 1 ≤ wtI x := by obtain ⟨⟩ := x; rw [wtI_mk]; omega
theorem putTl_len : ∀ {l : List IT}, (∀ t ∈ l, (putI t).length + 5 ≤ 100 * wtI t) → (putTl l).length ≤ 100 * wtIs l
  | [], _ => by rw [putTl_nil]; simp
  | x :: xs, h => by
    have q := h x (by simp)
    have q2 := putTl_len (l := xs) fun t ht => h t (by simp [ht])
    rw [putTl_cons, wtIs_cons]
    simp only [List.length_append, List.length_cons, List.length_nil]
    omega
theorem putIs_len {l : List IT} (h0 : l ≠ []) (h : ∀ t ∈ l, (putI t).length + 5 ≤ 100 * wtI t) : (putIs l).length + 5 ≤ 100 * wtIs l := by
  match l, h0 with
  | x :: xs, _ =>
    have q := h x (by simp)
    have q2 := putTl_len (l := xs) fun t ht => h t (by simp [ht])
    rw [putIs_cons, wtIs_cons]
    simp only [List.length_append]
    omega
theorem putKt_len : ∀ {ks : List (List IT)}, (∀ l ∈ ks, l ≠ [] ∧ ∀ t ∈ l, (putI t).length + 5 ≤ 100 * wtI t) → (putKt ks).length ≤ 100 * wtKs ks
  | [], _ => by rw [putKt_nil]; simp
  | l :: ls, h => by
    have q := putIs_len (h l (by simp)).1 (h l (by simp)).2
    have q2 := putKt_len (ks := ls) fun t ht => h t (by simp [ht])
    rw [putKt_cons, wtKs_cons]
    simp only [List.length_append, List.length_cons, List.length_nil]
    omega
theorem rightKs_all : ∀ {ks : List (List IT)}, rightKs ks = true → ∀ l ∈ ks, rightIs l = true
  | [], _, l, hl => by cases hl
  | m :: ms, h, l, hl => by
    rw [rightKs_cons, Bool.and_eq_true] at h
    rcases List.mem_cons.1 hl with rfl | hl
    · exact h.1
    · exact rightKs_all h.2 l hl
theorem rightLs_all : ∀ {l : List IT}, rightLs l = true → ∀ t ∈ l, rightI t = true
  | [], _, t, ht => by cases ht
  | x :: xs, h, t, ht => by
    rw [rightLs_cons, Bool.and_eq_true] at h
    rcases List.mem_cons.1 ht with rfl | ht
    · exact h.1
    · exact rightLs_all h.2 t ht
theorem rightIs_ne {l : List IT} (h : rightIs l = true) : l ≠ [] := by
  rintro rfl; simp [rightIs] at h
theorem rightIs_all {l : List IT} (h : rightIs l = true) : ∀ t ∈ l, rightI t = true := by
  rw [rightIs, Bool.and_eq_true] at h
  exact rightLs_all h.2
/-- An item's text. -/
theorem putI_len {W : World} : ∀ x : IT, IT.In W x → rightI x = true → (putI x).length + 5 ≤ 100 * wtI x := by
  refine IT.ind fun k nm vr pA pc ps lo hi kA kc kp ks ih h hr => ?_
  rw [putI_mk, wtI_mk]
  rcases itm_kinds hr with ⟨rfl, _, _, rfl, _, _, hl, hk⟩ | ⟨hk, hn, hv, hp, hpr, rfl, h1, h2⟩
  · rw [if_pos rfl]
    have hin : ∀ l ∈ ks, ∀ t ∈ l, IT.In W t := by
      intro l hl t ht
      obtain ⟨j, hj, rfl⟩ := List.getElem_of_mem hl
      obtain ⟨i, hi, rfl⟩ := List.getElem_of_mem ht
      exact ((h.kids j hj (by rw [h.len]; exact hj)).2 i hi).2
    have hb : ∀ l ∈ ks, l ≠ [] ∧ ∀ t ∈ l, (putI t).length + 5 ≤ 100 * wtI t := fun l hl =>
      ⟨rightIs_ne (rightKs_all hk l hl), fun t ht => ih l hl t ht (hin l hl t ht) (rightIs_all (rightKs_all hk l hl) t ht)⟩
    match ks, hl, hb with
    | l :: ls, _, hb =>
      have q := putIs_len (hb l (by simp)).1 (hb l (by simp)).2
      have q2 := putKt_len (ks := ls) fun t ht => hb t (by simp [ht])
      rw [putKs_cons, wtKs_cons]
      simp only [List.length_append, List.length_cons, List.length_nil]
      omega
    | [], hl, _ => simp at hl
  · have n3 : k ≠ 3 := by omega
    rw [if_neg n3]
    have a1 := (name_nb hn).2.1
    have a2 := (name_nb hv).2.1
    have a3 : (if k = 2 then ([33] : Nm) else []).length ≤ 1 := by split <;> simp
    have a4 : (if k = 1 then rng lo hi else []).length ≤ 5 := by
      split
      · rename_i e
        obtain ⟨b1, b2, b3⟩ := h1 e
        rw [rng]
        simp only [List.length_append, List.length_cons, List.length_nil, itoa1 b1 (by omega), itoa1 (n := hi) (by omega) b3]
        omega
      · simp
    have a5 := prd_len (W := W) hpr fun t ht => by
      obtain ⟨j, hj, rfl⟩ := List.getElem_of_mem ht
      exact (h.preds j hj).2
    rw [List.length_append, List.length_append, List.length_append, List.length_append, List.length_append]
    simp only [List.length_cons, List.length_nil]
    omega
theorem items_len {W : World} {l : List IT} (h0 : rightIs l = true) (h : ∀ t ∈ l, IT.In W t) : (putIs l).length + 5 ≤ 100 * wtIs l := putIs_len (rightIs_ne h0) fun t ht => putI_len t (h t ht) (rightIs_all h0 t ht)
end Go.Proofs.YtbdfehgofnomhaaDoor
