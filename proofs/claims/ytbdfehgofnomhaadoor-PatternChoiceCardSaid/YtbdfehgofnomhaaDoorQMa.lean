/- Layer 9: items as trees; what is right, the same, put (plain functions; no model). -/
import Derived.Test.YtbdfehgofnomhaaDoorExPutM
namespace Go.Proofs.YtbdfehgofnomhaaDoor
set_option linter.unusedVariables false

/-- An item; where its Pred and its Kids lie, and how many there is room for; where each list of Kids lies. -/
inductive IT where
  | mk (k : Int) (nm vr : Nm) (pA : Option Addr) (pc : Nat) (ps : List ET) (lo hi : Int) (kA : Option Addr) (kc : Nat) (kp : List (Option Addr × Nat)) (ks : List (List IT))
namespace IT
def k : IT → Int | mk k _ _ _ _ _ _ _ _ _ _ _ => k
def nm : IT → Nm | mk _ nm _ _ _ _ _ _ _ _ _ _ => nm
def vr : IT → Nm | mk _ _ vr _ _ _ _ _ _ _ _ _ => vr
def pA : IT → Option Addr | mk _ _ _ pA _ _ _ _ _ _ _ _ => pA
def pc : IT → Nat | mk _ _ _ _ pc _ _ _ _ _ _ _ => pc
def ps : IT → List ET | mk _ _ _ _ _ ps _ _ _ _ _ _ => ps
def lo : IT → Int | mk _ _ _ _ _ _ lo _ _ _ _ _ => lo
def hi : IT → Int | mk _ _ _ _ _ _ _ hi _ _ _ _ => hi
def kA : IT → Option Addr | mk _ _ _ _ _ _ _ _ kA _ _ _ => kA
def kc : IT → Nat | mk _ _ _ _ _ _ _ _ _ kc _ _ => kc
def kp : IT → List (Option Addr × Nat) | mk _ _ _ _ _ _ _ _ _ _ kp _ => kp
def ks : IT → List (List IT) | mk _ _ _ _ _ _ _ _ _ _ _ ks => ks
end IT
/-- From so many to so many. -/
def rng (lo hi : Int) : Nm := [123] ++ (Lib.itoa lo ++ ([44] ++ (Lib.itoa hi ++ [125])))
/-- Predicates in brackets. -/
def prd : List ET → Nm
  | [] => []
  | t :: ts => [91] ++ (putT 0 t ++ ([93] ++ prd ts))
mutual
/-- What is put of an item. -/
def putI : IT → Nm
  | .mk k nm vr _ _ ps lo hi _ _ _ ks => if k = 3 then [40] ++ (putKs ks ++ [41]) else (if k = 2 then [33] else []) ++ (nm ++ ([32] ++ (vr ++ ((if k = 1 then rng lo hi else []) ++ prd ps))))
def putIs : List IT → Nm
  | [] => []
  | x :: xs => putI x ++ putTl xs
def putTl : List IT → Nm
  | [] => []
  | x :: xs => [32, 59, 32] ++ (putI x ++ putTl xs)
def putKs : List (List IT) → Nm
  | [] => []
  | l :: ls => putIs l ++ putKt ls
def putKt : List (List IT) → Nm
  | [] => []
  | l :: ls => [32, 124, 32] ++ (putIs l ++ putKt ls)
end
def samePs : List ET → List ET → Bool
  | [], m => m.isEmpty
  | x :: xs, m => match m with
    | [] => false
    | y :: ys => sameT x y && samePs xs ys
mutual
/-- Are they the same? -/
def sameI : IT → IT → Bool
  | .mk k nm vr _ _ ps lo hi _ _ _ ks, y => decide (k = y.k ∧ nm = y.nm ∧ vr = y.vr ∧ lo = y.lo ∧ hi = y.hi) && samePs ps y.ps && sameKs ks y.ks
def sameIs : List IT → List IT → Bool
  | [], m => m.isEmpty
  | x :: xs, m => match m with
    | [] => false
    | y :: ys => sameI x y && sameIs xs ys
def sameKs : List (List IT) → List (List IT) → Bool
  | [], m => m.isEmpty
  | x :: xs, m => match m with
    | [] => false
    | y :: ys => sameIs x y && sameKs xs ys
end
mutual
/-- Is an item right? -/
def rightI : IT → Bool
  | .mk k nm vr _ _ ps lo hi _ _ _ ks => if k = 3 then decide (nm = [] ∧ vr = [] ∧ ps = [] ∧ lo = 0 ∧ hi = 0 ∧ 2 ≤ ks.length) && rightKs ks
      else decide (k = 0 ∨ k = 1 ∨ k = 2) && (nameB nm && nameB vr) && decide (ps.length ≤ 1) && ps.all rightT && decide (ks = [] ∧ (k = 1 → 1 ≤ lo ∧ lo ≤ hi ∧ hi ≤ 4) ∧ (k ≠ 1 → lo = 0 ∧ hi = 0))
def rightLs : List IT → Bool
  | [] => true
  | x :: xs => rightI x && rightLs xs
def rightKs : List (List IT) → Bool
  | [] => true
  | l :: ls => (!l.isEmpty && rightLs l) && rightKs ls
end
/-- Are there some, and are all right? -/
def rightIs (l : List IT) : Bool := !l.isEmpty && rightLs l
mutual
def sizeI : IT → Nat
  | .mk _ _ _ _ _ _ _ _ _ _ _ ks => 1 + sizeKs ks
def sizeIs : List IT → Nat
  | [] => 0
  | x :: xs => sizeI x + sizeIs xs
def sizeKs : List (List IT) → Nat
  | [] => 0
  | l :: ls => 1 + sizeIs l + sizeKs ls
end
end Go.Proofs.YtbdfehgofnomhaaDoor
/- Layer 9: what is put of two right queries is alike just if they are the same (no model). -/
namespace Go.Proofs.YtbdfehgofnomhaaDoor
set_option linter.unusedVariables false

theorem putI_mk (k : Int) (nm vr : Nm) (pA : Option Addr) (pc : Nat) (ps : List ET) (lo hi : Int) (kA : Option Addr) (kc : Nat) (kp : List (Option Addr × Nat)) (ks : List (List IT)) :
    putI (.mk k nm vr pA pc ps lo hi kA kc kp ks) = if k = 3 then [40] ++ (putKs ks ++ [41]) else (if k = 2 then [33] else []) ++ (nm ++ ([32] ++ (vr ++ ((if k = 1 then rng lo hi else []) ++ prd ps)))) := by rw [putI]
theorem putTl_nil : putTl [] = [] := by rw [putTl]
theorem putTl_cons (x : IT) (xs : List IT) : putTl (x :: xs) = [32, 59, 32] ++ (putI x ++ putTl xs) := by rw [putTl]
theorem putIs_cons (x : IT) (xs : List IT) : putIs (x :: xs) = putI x ++ putTl xs := by rw [putIs]
theorem putKt_nil : putKt [] = [] := by rw [putKt]
theorem putKt_cons (l : List IT) (ls : List (List IT)) : putKt (l :: ls) = [32, 124, 32] ++ (putIs l ++ putKt ls) := by rw [putKt]
theorem putKs_cons (l : List IT) (ls : List (List IT)) : putKs (l :: ls) = putIs l ++ putKt ls := by rw [putKs]
theorem sameI_mk (k : Int) (nm vr : Nm) (pA : Option Addr) (pc : Nat) (ps : List ET) (lo hi : Int) (kA : Option Addr) (kc : Nat) (kp : List (Option Addr × Nat)) (ks : List (List IT)) (y : IT) :
    sameI (.mk k nm vr pA pc ps lo hi kA kc kp ks) y = (decide (k = y.k ∧ nm = y.nm ∧ vr = y.vr ∧ lo = y.lo ∧ hi = y.hi) && samePs ps y.ps && sameKs ks y.ks) := by rw [sameI]
theorem sameIs_nil : sameIs [] [] = true := by rw [sameIs]; rfl
theorem sameIs_cons (x y : IT) (xs ys : List IT) : sameIs (x :: xs) (y :: ys) = (sameI x y && sameIs xs ys) := by rw [sameIs]
theorem sameKs_nil : sameKs [] [] = true := by rw [sameKs]; rfl
theorem sameKs_cons (x y : List IT) (xs ys : List (List IT)) : sameKs (x :: xs) (y :: ys) = (sameIs x y && sameKs xs ys) := by rw [sameKs]
theorem rightLs_cons (x : IT) (xs : List IT) : rightLs (x :: xs) = (rightI x && rightLs xs) := by rw [rightLs]
theorem rightKs_cons (x : List IT) (xs : List (List IT)) : rightKs (x :: xs) = ((!x.isEmpty && rightLs x) && rightKs xs) := by rw [rightKs]
theorem sizeI_mk (k : Int) (nm vr : Nm) (pA : Option Addr) (pc : Nat) (ps : List ET) (lo hi : Int) (kA : Option Addr) (kc : Nat) (kp : List (Option Addr × Nat)) (ks : List (List IT)) : sizeI (.mk k nm vr pA pc ps lo hi kA kc kp ks) = 1 + sizeKs ks := by rw [sizeI]
theorem sizeIs_cons (x : IT) (xs : List IT) : sizeIs (x :: xs) = sizeI x + sizeIs xs := by rw [sizeIs]
theorem sizeKs_cons (x : List IT) (xs : List (List IT)) : sizeKs (x :: xs) = 1 + sizeIs x + sizeKs xs := by rw [sizeKs]
/-- What a right item is. -/
theorem itm_kinds {k : Int} {nm vr : Nm} {pA : Option Addr} {pc : Nat} {ps : List ET} {lo hi : Int} {kA : Option Addr} {kc : Nat} {kp : List (Option Addr × Nat)} {ks : List (List IT)} (h : rightI (.mk k nm vr pA pc ps lo hi kA kc kp ks) = true) :
    (k = 3 ∧ nm = [] ∧ vr = [] ∧ ps = [] ∧ lo = 0 ∧ hi = 0 ∧ 2 ≤ ks.length ∧ rightKs ks = true) ∨ ((k = 0 ∨ k = 1 ∨ k = 2) ∧ nameB nm = true ∧ nameB vr = true ∧ ps.length ≤ 1 ∧ ps.all rightT = true ∧ ks = [] ∧ (k = 1 → 1 ≤ lo ∧ lo ≤ hi ∧ hi ≤ 4) ∧ (k ≠ 1 → lo = 0 ∧ hi = 0)) := by
  rw [rightI] at h
  by_cases h3 : k = 3
  · rw [if_pos h3, Bool.and_eq_true] at h
    obtain ⟨a1, a2, a3, a4, a5, a6⟩ := of_decide_eq_true h.1
    exact .inl ⟨h3, a1, a2, a3, a4, a5, a6, h.2⟩
  · rw [if_neg h3] at h
    simp only [Bool.and_eq_true] at h
    obtain ⟨⟨⟨⟨a1, a2, a3⟩, a4⟩, a5⟩, a6⟩ := h
    obtain ⟨b1, b2, b3⟩ := of_decide_eq_true a6
    exact .inr ⟨of_decide_eq_true a1, a2, a3, of_decide_eq_true a4, a5, b1, b2, b3⟩

/- Beginnings of texts. -/
theorem head_eq {P : UInt8 → Prop} : ∀ {u v r s : Nm}, (∀ x ∈ u, P x) → (∀ x ∈ v, P x) → (∀ c t, r = c :: t → ¬ P c) → (∀ c t, s = c :: t → ¬ P c) → u ++ r = v ++ s → u = v ∧ r = s
  | [], [], r, s, _, _, _, _, h => ⟨rfl, h⟩
  | [], y :: v, r, s, _, hv, hr, _, h => absurd (hv y (by simp)) (hr y (v ++ s) h)
  | x :: u, [], r, s, hu, _, _, hs, h => absurd (hu x (by simp)) (hs x (u ++ r) h.symm)
  | x :: u, y :: v, r, s, hu, hv, hr, hs, h => by
    have h1 : x = y ∧ u ++ r = v ++ s := by simpa using h
    obtain ⟨e, h2⟩ := h1
    obtain ⟨e2, e3⟩ := head_eq (fun z hz => hu z (by simp [hz])) (fun z hz => hv z (by simp [hz])) hr hs h2
    exact ⟨by rw [e, e2], e3⟩
theorem cons_eq {c d : UInt8} {r s : Nm} (h : c :: r = d :: s) : c = d ∧ r = s := by simpa using h
/-- No sign of a predicate. -/
theorem put_no93 : ∀ (m : Nat) (t : ET) (l : Int), t.size ≤ m → rightT t = true → ∀ x ∈ putT l t, x ≠ 93 := by
  have nb93 : ∀ x : UInt8, nb x → x ≠ 93 := by
    rintro x h rfl
    rcases h with h | h | h
    · simp at h
    · revert h; decide
    · revert h; decide
  have op93 : ∀ o : Nm, levB o ≠ 0 → ∀ x ∈ o, x ≠ 93 := by
    intro o h
    have key : o ∈ ([[124, 124], [38, 38], [61, 61], [33, 61], [60], [60, 61], [62], [62, 61], [43], [45], [42], [47], [37]] : List Nm) := by
      by_cases hm : o ∈ ([[124, 124], [38, 38], [61, 61], [33, 61], [60], [60, 61], [62], [62, 61], [43], [45], [42], [47], [37]] : List Nm)
      · exact hm
      · exfalso
        apply h
        simp only [List.mem_cons, not_or] at hm
        unfold levB
        simp [hm]
    have all : ∀ o ∈ ([[124, 124], [38, 38], [61, 61], [33, 61], [60], [60, 61], [62], [62, 61], [43], [45], [42], [47], [37]] : List Nm), ∀ x ∈ o, x ≠ 93 := by decide
    exact all o key
  intro m
  induction m with
  | zero => intro t l hm; have := sizeP t; omega
  | succ m ih =>
    intro t l hm hr
    obtain ⟨k, op, n, v, f, A, cap, ks⟩ := t
    have hk := right_kids hr
    rw [size_mk] at hm
    rcases one_kinds (right_one hr) with h | h | h | h
    · obtain ⟨rfl, _, hn, _⟩ := h
      rw [putT_0, itoa_pos hn]
      intro x hx
      exact nb93 x (dig_nb (digs_dec _ _ (Nat.le_refl _) x hx))
    · obtain ⟨rfl, _, hv, hf, _⟩ := h
      rw [putT_1]
      intro x hx
      rcases List.mem_append.1 hx with hx | hx
      · exact nb93 x ((name_nb hv).2.2 x hx)
      · rcases List.mem_append.1 hx with hx | hx
        · have : x = 46 := by simpa using hx
          subst this; decide
        · exact nb93 x ((name_nb hf).2.2 x hx)
    · obtain ⟨rfl, hl, ho, _⟩ := h
      obtain ⟨x, rfl⟩ : ∃ x, ks = [x] := List.length_eq_one_iff.1 hl
      rw [sizeL_cons, sizeL_nil] at hm
      rw [putT_2]
      intro y hy
      rcases List.mem_append.1 hy with hy | hy
      · rcases ho with rfl | rfl
        · have : y = 45 := by simpa using hy
          subst this; decide
        · have : y = 33 := by simpa using hy
          subst this; decide
      · exact ih x 7 (by omega) (hk x (by simp)) y hy
    · obtain ⟨rfl, hl, ho, _⟩ := h
      obtain ⟨x, y, rfl⟩ : ∃ x y, ks = [x, y] := len2 hl
      rw [sizeL_cons, sizeL_cons, sizeL_nil] at hm
      have p1 := sizeP x
      have p2 := sizeP y
      have body : ∀ z ∈ putT (levB op) x ++ ([32] ++ (op ++ [32])) ++ putT (levB op + 1) y, z ≠ 93 := by
        intro z hz
        rcases List.mem_append.1 hz with hz | hz
        · rcases List.mem_append.1 hz with hz | hz
          · exact ih x _ (by omega) (hk x (by simp)) z hz
          · rcases List.mem_append.1 hz with hz | hz
            · have : z = 32 := by simpa using hz
              subst this; decide
            · rcases List.mem_append.1 hz with hz | hz
              · exact op93 op ho z hz
              · have : z = 32 := by simpa using hz
                subst this; decide
        · exact ih y _ (by omega) (hk y (by simp)) z hz
      rw [putT_3]
      unfold brk
      split
      · intro z hz
        rcases List.mem_append.1 hz with hz | hz
        · rcases List.mem_append.1 hz with hz | hz
          · have : z = 40 := by simpa using hz
            subst this; decide
          · exact body z hz
        · have : z = 41 := by simpa using hz
          subst this; decide
      · exact body
/-- What may stand behind an item. -/
def StI (r : Nm) : Prop := r = [] ∨ (∃ t, r = 41 :: t) ∨ ∃ t, r = 32 :: t
/-- What may stand behind a list of items. -/
def StL (r : Nm) : Prop := r = [] ∨ (∃ t, r = 41 :: t) ∨ ∃ c t, r = 32 :: c :: t ∧ c ≠ 59
theorem StL.i {r : Nm} (h : StL r) : StI r := by
  rcases h with h | h | ⟨c, t, h, _⟩
  · exact .inl h
  · exact .inr (.inl h)
  · exact .inr (.inr ⟨_, h⟩)
theorem StI.first {r t : Nm} {c : UInt8} (h : StI r) (e : r = c :: t) : c = 41 ∨ c = 32 := by
  rcases h with h | ⟨u, h⟩ | ⟨u, h⟩
  · rw [h] at e; cases e
  · rw [h] at e; exact .inl (cons_eq e).1.symm
  · rw [h] at e; exact .inr (cons_eq e).1.symm
theorem no_nb {c : UInt8} (h : c = 41 ∨ c = 32 ∨ c = 91 ∨ c = 123) : ¬ nb c := by
  intro hn
  rcases h with rfl | rfl | rfl | rfl
  · exact (nb_not hn).2.2.2.1 rfl
  · exact (nb_not hn).1 rfl
  · rcases hn with h | h | h
    · simp at h
    · revert h; decide
    · revert h; decide
  · rcases hn with h | h | h
    · simp at h
    · revert h; decide
    · revert h; decide
/-- Predicates, and what stands behind. -/
theorem prd_inj {ps qs : List ET} {r s : Nm} (hp : ps.length ≤ 1) (hpr : ps.all rightT = true) (hq : qs.length ≤ 1) (hqr : qs.all rightT = true) (hr : StI r) (hs : StI s) (h : prd ps ++ r = prd qs ++ s) : samePs ps qs = true ∧ r = s := by
  have no91 : ∀ {x : Nm} {t : ET} {u : Nm}, StI x → x = [91] ++ (putT 0 t ++ ([93] ++ prd [])) ++ u → False := by
    intro x t u hx e
    rcases hx.first (c := 91) (t := putT 0 t ++ ([93] ++ prd []) ++ u) (by rw [e]; simp) with h | h
    · revert h; decide
    · revert h; decide
  match ps, qs, hp, hq with
  | [], [], _, _ => exact ⟨rfl, by simpa [prd] using h⟩
  | [], [t], _, _ => exact (no91 hr (by rw [prd, prd] at h; simpa [prd] using h)).elim
  | [t], [], _, _ => exact (no91 hs (by rw [prd] at h; simpa [prd] using h.symm)).elim
  | [t], [u], _, _ =>
    have ht : rightT t = true := by simpa using hpr
    have hu : rightT u = true := by simpa using hqr
    have h2 : putT 0 t ++ (93 :: r) = putT 0 u ++ (93 :: s) := by simpa [prd] using h
    obtain ⟨e1, e2⟩ := head_eq (P := fun x => x ≠ 93) (put_no93 _ t 0 (Nat.le_refl _) ht) (put_no93 _ u 0 (Nat.le_refl _) hu) (fun c w e => by simp [(cons_eq e).1.symm]) (fun c w e => by simp [(cons_eq e).1.symm]) h2
    refine ⟨?_, (cons_eq e2).2⟩
    have := put_iff ht hu
    rw [decide_eq_true e1] at this
    simp [samePs, ← this]
theorem prd_first {ps : List ET} {r t : Nm} {c : UInt8} (hr : StI r) (e : prd ps ++ r = c :: t) : c = 91 ∨ c = 41 ∨ c = 32 := by
  cases ps with
  | nil => exact .inr (hr.first (by simpa [prd] using e))
  | cons p ps => rw [prd] at e; exact .inl (cons_eq (by simpa using e)).1.symm
theorem rng_first {lo hi : Int} {X t : Nm} {c : UInt8} (e : rng lo hi ++ X = c :: t) : c = 123 := by
  unfold rng at e
  exact (cons_eq (by simpa using e)).1.symm
theorem dig_no {c : UInt8} (h : c = 44 ∨ c = 125 ∨ c = 32) : ¬ (48 ≤ c.toNat ∧ c.toNat ≤ 57) := by
  rcases h with rfl | rfl | rfl <;> decide
theorem itoa_inj {n m : Int} {r s : Nm} (hn : 0 ≤ n) (hm : 0 ≤ m) (hr : ∀ c t, r = c :: t → ¬ (48 ≤ c.toNat ∧ c.toNat ≤ 57)) (hs : ∀ c t, s = c :: t → ¬ (48 ≤ c.toNat ∧ c.toNat ≤ 57)) (h : Lib.itoa n ++ r = Lib.itoa m ++ s) : n = m ∧ r = s := by
  rw [itoa_pos hn, itoa_pos hm] at h
  obtain ⟨e1, e2⟩ := head_eq (P := fun x => 48 ≤ x.toNat ∧ x.toNat ≤ 57) (digs_dec _ _ (Nat.le_refl _)) (digs_dec _ _ (Nat.le_refl _)) hr hs h
  have := dec_inj _ _ _ (Nat.le_refl _) e1
  exact ⟨by omega, e2⟩
theorem rng_inj {lo hi lo' hi' : Int} {r s : Nm} (h0 : 0 ≤ lo) (h1 : 0 ≤ hi) (h2 : 0 ≤ lo') (h3 : 0 ≤ hi') (h : rng lo hi ++ r = rng lo' hi' ++ s) : lo = lo' ∧ hi = hi' ∧ r = s := by
  unfold rng at h
  have a : Lib.itoa lo ++ (44 :: (Lib.itoa hi ++ (125 :: r))) = Lib.itoa lo' ++ (44 :: (Lib.itoa hi' ++ (125 :: s))) := by simpa using h
  obtain ⟨e1, b⟩ := itoa_inj h0 h2 (fun c t e => dig_no (.inl (cons_eq e).1.symm)) (fun c t e => dig_no (.inl (cons_eq e).1.symm)) a
  obtain ⟨e2, c⟩ := itoa_inj h1 h3 (fun c t e => dig_no (.inr (.inl (cons_eq e).1.symm))) (fun c t e => dig_no (.inr (.inl (cons_eq e).1.symm))) (cons_eq b).2
  exact ⟨e1, e2, (cons_eq c).2⟩
/-- Two names, and what stands behind. -/
theorem names_inj {a b a' b' X X' : Nm} (ha : nameB a = true) (hb : nameB b = true) (ha' : nameB a' = true) (hb' : nameB b' = true) (hX : ∀ c t, X = c :: t → ¬ nb c) (hX' : ∀ c t, X' = c :: t → ¬ nb c) (h : a ++ ([32] ++ (b ++ X)) = a' ++ ([32] ++ (b' ++ X'))) : a = a' ∧ b = b' ∧ X = X' := by
  obtain ⟨e1, e2⟩ := head_eq (P := nb) (name_nb ha).2.2 (name_nb ha').2.2 (fun c t e => no_nb (.inr (.inl (cons_eq (by simpa using e)).1.symm))) (fun c t e => no_nb (.inr (.inl (cons_eq (by simpa using e)).1.symm))) h
  have e3 : b ++ X = b' ++ X' := by simpa using e2
  obtain ⟨e4, e5⟩ := head_eq (P := nb) (name_nb hb).2.2 (name_nb hb').2.2 hX hX' e3
  exact ⟨e1, e4, e5⟩
theorem name_first {a r : Nm} (ha : nameB a = true) : ∃ c t, a ++ r = c :: t ∧ nb c := by
  obtain ⟨h0, _, h1⟩ := name_nb ha
  cases a with
  | nil => exact absurd rfl h0
  | cons c t => exact ⟨c, t ++ r, by simp, h1 c (by simp)⟩
theorem putTl_first {l : List IT} {r : Nm} (hr : StI r) : StI (putTl l ++ r) := by
  cases l with
  | nil => rw [putTl_nil]; exact hr
  | cons x xs => rw [putTl_cons]; exact .inr (.inr ⟨_, by simp; rfl⟩)
theorem putKt_first {l : List (List IT)} {t : Nm} : StL (putKt l ++ (41 :: t)) := by
  cases l with
  | nil => rw [putKt_nil]; exact .inr (.inl ⟨t, rfl⟩)
  | cons x xs => rw [putKt_cons]; exact .inr (.inr ⟨124, _, by simp; rfl, by decide⟩)
/-- What is put of items, of lists, of choices. -/
theorem items_inj : ∀ n : Nat, (∀ (a b : IT) (r s : Nm), sizeI a ≤ n → rightI a = true → rightI b = true → StI r → StI s → putI a ++ r = putI b ++ s → sameI a b = true ∧ r = s)
    ∧ (∀ (l m : List IT) (r s : Nm), sizeIs l ≤ n → rightLs l = true → rightLs m = true → StL r → StL s → putTl l ++ r = putTl m ++ s → sameIs l m = true ∧ r = s)
    ∧ (∀ (l m : List (List IT)) (r s : Nm), sizeKs l ≤ n → rightKs l = true → rightKs m = true → putKt l ++ (41 :: r) = putKt m ++ (41 :: s) → sameKs l m = true ∧ r = s) := by
  intro n
  induction n with
  | zero =>
    refine ⟨fun a b r s h => ?_, fun l m r s h hl hm hr hs e => ?_, fun l m r s h hl hm e => ?_⟩
    · obtain ⟨k, nm, vr, pA, pc, ps, lo, hi, kA, kc, kp, ks⟩ := a
      rw [sizeI_mk] at h; omega
    · cases l with
      | cons x xs =>
        obtain ⟨k, nm, vr, pA, pc, ps, lo, hi, kA, kc, kp, ks⟩ := x
        rw [sizeIs_cons, sizeI_mk] at h; omega
      | nil =>
        cases m with
        | nil => rw [putTl_nil] at e; exact ⟨sameIs_nil, by simpa using e⟩
        | cons y ys =>
          rw [putTl_nil, putTl_cons] at e
          exfalso
          rcases hr with h | ⟨t, h⟩ | ⟨c, t, h, hc⟩
          · rw [h] at e; simp at e
          · rw [h] at e; simp at e
          · rw [h] at e; simp at e; exact hc e.1
    · cases l with
      | cons x xs => rw [sizeKs_cons] at h; omega
      | nil =>
        cases m with
        | nil => rw [putKt_nil] at e; exact ⟨sameKs_nil, by simpa using e⟩
        | cons y ys => rw [putKt_nil, putKt_cons] at e; simp at e
  | succ n ih =>
    have hI : ∀ (a b : IT) (r s : Nm), sizeI a ≤ n + 1 → rightI a = true → rightI b = true → StI r → StI s → putI a ++ r = putI b ++ s → sameI a b = true ∧ r = s := by
      intro a b r s h ha hb hr hs e
      obtain ⟨k, nm, vr, pA, pc, ps, lo, hi, kA, kc, kp, ks⟩ := a
      obtain ⟨k', nm', vr', pA', pc', ps', lo', hi', kA', kc', kp', ks'⟩ := b
      rw [sizeI_mk] at h
      rw [putI_mk, putI_mk] at e
      -- a choice begins otherwise than another item
      have no40 : ∀ {k : Int} {nm X Y : Nm}, nameB nm = true → 40 :: X = (if k = 2 then [33] else []) ++ (nm ++ Y) → False := by
        intro k nm X Y hn e
        split at e
        · simp at e
        · obtain ⟨c, t, e2, hc⟩ := name_first (r := Y) hn
          rw [List.nil_append, e2] at e
          rw [← (cons_eq e).1] at hc
          exact (nb_not hc).2.2.1 rfl
      rcases itm_kinds ha with ⟨rfl, rfl, rfl, rfl, rfl, rfl, hl, hk⟩ | ⟨hk, hn, hv, hp, hpr, rfl, h1, h2⟩
      · rcases itm_kinds hb with ⟨rfl, rfl, rfl, rfl, rfl, rfl, hl', hk'⟩ | ⟨hk', hn', hv', hp', hpr', rfl, h1', h2'⟩
        · rw [if_pos rfl, if_pos rfl] at e
          match ks, ks', hl, hl' with
          | l :: ls, m :: ms, _, _ =>
            rw [putKs_cons, putKs_cons] at e
            rw [rightKs_cons] at hk hk'
            rw [sizeKs_cons] at h
            simp only [Bool.and_eq_true] at hk hk'
            match l, m, hk, hk' with
            | x :: xs, y :: ys, hk, hk' =>
              rw [putIs_cons, putIs_cons] at e
              have hkx := hk.1.2
              have hky := hk'.1.2
              rw [rightLs_cons, Bool.and_eq_true] at hkx hky
              rw [sizeIs_cons] at h
              have e2 : putI x ++ (putTl xs ++ (putKt ls ++ (41 :: r))) = putI y ++ (putTl ys ++ (putKt ms ++ (41 :: s))) := by simpa using e
              obtain ⟨s1, e3⟩ := ih.1 x y _ _ (by omega) hkx.1 hky.1 (putTl_first putKt_first.i) (putTl_first putKt_first.i) e2
              obtain ⟨s2, e4⟩ := ih.2.1 xs ys _ _ (by omega) hkx.2 hky.2 putKt_first putKt_first e3
              obtain ⟨s3, e5⟩ := ih.2.2 ls ms r s (by omega) hk.2 hk'.2 e4
              refine ⟨?_, e5⟩
              rw [sameI_mk]
              simp only [IT.k, IT.nm, IT.vr, IT.lo, IT.hi, IT.ps, IT.ks, sameKs_cons, sameIs_cons, s1, s2, s3]
              simp [samePs]
            | [], _, hk, _ => simp at hk
            | _, [], _, hk' => simp at hk'
        · have h3 : ¬ k' = 3 := by omega
          rw [if_pos rfl, if_neg h3] at e
          exact (no40 (X := putKs ks ++ [41] ++ r) (Y := ([32] ++ (vr' ++ ((if k' = 1 then rng lo' hi' else []) ++ prd ps'))) ++ s) hn' (by simpa using e)).elim
      · have h3 : ¬ k = 3 := by omega
        rcases itm_kinds hb with ⟨rfl, rfl, rfl, rfl, rfl, rfl, hl', hk'⟩ | ⟨hk', hn', hv', hp', hpr', rfl, h1', h2'⟩
        · rw [if_neg h3, if_pos rfl] at e
          exact (no40 (X := putKs ks' ++ [41] ++ s) (Y := ([32] ++ (vr ++ ((if k = 1 then rng lo hi else []) ++ prd ps))) ++ r) hn (by simpa using e.symm)).elim
        · have h3' : ¬ k' = 3 := by omega
          rw [if_neg h3, if_neg h3'] at e
          -- behind both names
          have fX : ∀ (k lo hi : Int) (ps : List ET) (r : Nm), StI r → ∀ c t, (if k = 1 then rng lo hi else []) ++ prd ps ++ r = c :: t → ¬ nb c := by
            intro k lo hi ps r hr c t e
            split at e
            · rw [List.append_assoc] at e
              exact no_nb (.inr (.inr (.inr (rng_first e))))
            · rw [List.nil_append] at e
              rcases prd_first hr e with h | h | h
              · exact no_nb (.inr (.inr (.inl h)))
              · exact no_nb (.inl h)
              · exact no_nb (.inr (.inl h))
          have body : ∀ e' : nm ++ ([32] ++ (vr ++ ((if k = 1 then rng lo hi else []) ++ prd ps ++ r))) = nm' ++ ([32] ++ (vr' ++ ((if k' = 1 then rng lo' hi' else []) ++ prd ps' ++ s))), (k = 2 ↔ k' = 2) → sameI (.mk k nm vr pA pc ps lo hi kA kc kp []) (.mk k' nm' vr' pA' pc' ps' lo' hi' kA' kc' kp' []) = true ∧ r = s := by
            intro e' h22
            obtain ⟨rfl, rfl, e3⟩ := names_inj hn hv hn' hv' (fX k lo hi ps r hr) (fX k' lo' hi' ps' s hs) e'
            have no123 : ∀ {lo hi : Int} {ps : List ET} {X r : Nm}, StI r → rng lo hi ++ X = prd ps ++ r → False := by
              intro lo hi ps X r hr e
              obtain ⟨c, t, hc⟩ : ∃ c t, rng lo hi ++ X = c :: t := ⟨123, _, by unfold rng; simp; rfl⟩
              have h1 := rng_first hc
              rw [e] at hc
              subst h1
              rcases prd_first hr hc with h | h | h <;> (revert h; decide)
            have hkk : k = k' := by
              by_cases a1 : k = 1
              · by_cases b1 : k' = 1
                · omega
                · rw [if_pos a1, if_neg b1, List.nil_append, List.append_assoc] at e3
                  exact (no123 hs e3).elim
              · by_cases b1 : k' = 1
                · rw [if_neg a1, if_pos b1, List.nil_append, List.append_assoc] at e3
                  exact (no123 hr e3.symm).elim
                · omega
            subst hkk
            by_cases a1 : k = 1
            · rw [if_pos a1, if_pos a1, List.append_assoc, List.append_assoc] at e3
              have q1 := h1 a1
              have q2 := h1' a1
              obtain ⟨rfl, rfl, e4⟩ := rng_inj (by omega) (by omega) (by omega) (by omega) e3
              obtain ⟨s1, e5⟩ := prd_inj hp hpr hp' hpr' hr hs e4
              refine ⟨?_, e5⟩
              rw [sameI_mk]
              simp only [IT.k, IT.nm, IT.vr, IT.lo, IT.hi, IT.ps, IT.ks, sameKs_nil, s1]
              simp
            · rw [if_neg a1, if_neg a1, List.nil_append, List.nil_append] at e3
              obtain ⟨rfl, rfl⟩ := h2 a1
              obtain ⟨rfl, rfl⟩ := h2' a1
              obtain ⟨s1, e5⟩ := prd_inj hp hpr hp' hpr' hr hs e3
              refine ⟨?_, e5⟩
              rw [sameI_mk]
              simp only [IT.k, IT.nm, IT.vr, IT.lo, IT.hi, IT.ps, IT.ks, sameKs_nil, s1]
              simp
          have no33 : ∀ {nm X Y : Nm}, nameB nm = true → 33 :: X = nm ++ Y → False := by
            intro nm X Y hn e
            obtain ⟨c, t, e2, hc⟩ := name_first (r := Y) hn
            rw [e2] at e
            rw [← (cons_eq e).1] at hc
            exact (nb_not hc).2.1 rfl
          by_cases a2 : k = 2
          · by_cases b2 : k' = 2
            · rw [if_pos a2, if_pos b2] at e
              exact body (by simpa using e) (by simp [a2, b2])
            · rw [if_pos a2, if_neg b2] at e
              exact (no33 (X := nm ++ ([32] ++ (vr ++ ((if k = 1 then rng lo hi else []) ++ prd ps))) ++ r) (Y := ([32] ++ (vr' ++ ((if k' = 1 then rng lo' hi' else []) ++ prd ps'))) ++ s) hn' (by simpa using e)).elim
          · by_cases b2 : k' = 2
            · rw [if_neg a2, if_pos b2] at e
              exact (no33 (X := nm' ++ ([32] ++ (vr' ++ ((if k' = 1 then rng lo' hi' else []) ++ prd ps'))) ++ s) (Y := ([32] ++ (vr ++ ((if k = 1 then rng lo hi else []) ++ prd ps))) ++ r) hn (by simpa using e.symm)).elim
            · rw [if_neg a2, if_neg b2] at e
              exact body (by simpa using e) (by simp [a2, b2])
    have hL : ∀ (l m : List IT) (r s : Nm), sizeIs l ≤ n + 1 → rightLs l = true → rightLs m = true → StL r → StL s → putTl l ++ r = putTl m ++ s → sameIs l m = true ∧ r = s := by
      intro l
      induction l with
      | nil =>
        intro m r s h hl hm hr hs e
        cases m with
        | nil => rw [putTl_nil] at e; exact ⟨sameIs_nil, by simpa using e⟩
        | cons y ys =>
          rw [putTl_nil, putTl_cons] at e
          exfalso
          rcases hr with h | ⟨t, h⟩ | ⟨c, t, h, hc⟩
          · rw [h] at e; simp at e
          · rw [h] at e; simp at e
          · rw [h] at e; simp at e; exact hc e.1
      | cons x xs ihl =>
        intro m r s h hl hm hr hs e
        cases m with
        | nil =>
          rw [putTl_nil, putTl_cons] at e
          exfalso
          rcases hs with h | ⟨t, h⟩ | ⟨c, t, h, hc⟩
          · rw [h] at e; simp at e
          · rw [h] at e; simp at e
          · rw [h] at e; simp at e; exact hc e.1.symm
        | cons y ys =>
          rw [putTl_cons, putTl_cons] at e
          rw [rightLs_cons, Bool.and_eq_true] at hl hm
          rw [sizeIs_cons] at h
          have e2 : putI x ++ (putTl xs ++ r) = putI y ++ (putTl ys ++ s) := by simpa using e
          obtain ⟨s1, e3⟩ := hI x y _ _ (by omega) hl.1 hm.1 (putTl_first hr.i) (putTl_first hs.i) e2
          obtain ⟨s2, e4⟩ := ihl ys r s (by omega) hl.2 hm.2 hr hs e3
          exact ⟨by rw [sameIs_cons, s1, s2]; rfl, e4⟩
    refine ⟨hI, hL, ?_⟩
    intro l
    induction l with
    | nil =>
      intro m r s h hl hm e
      cases m with
      | nil => rw [putKt_nil] at e; exact ⟨sameKs_nil, by simpa using e⟩
      | cons y ys => rw [putKt_nil, putKt_cons] at e; simp at e
    | cons l ls ihl =>
      intro m r s h hl hm e
      cases m with
      | nil => rw [putKt_nil, putKt_cons] at e; simp at e
      | cons m ms =>
        rw [putKt_cons, putKt_cons] at e
        rw [rightKs_cons] at hl hm
        simp only [Bool.and_eq_true] at hl hm
        rw [sizeKs_cons] at h
        match l, m, hl, hm with
        | x :: xs, y :: ys, hl, hm =>
          rw [putIs_cons, putIs_cons] at e
          have hkx := hl.1.2
          have hky := hm.1.2
          rw [rightLs_cons, Bool.and_eq_true] at hkx hky
          rw [sizeIs_cons] at h
          have e2 : putI x ++ (putTl xs ++ (putKt ls ++ (41 :: r))) = putI y ++ (putTl ys ++ (putKt ms ++ (41 :: s))) := by simpa using e
          obtain ⟨s1, e3⟩ := hI x y _ _ (by omega) hkx.1 hky.1 (putTl_first putKt_first.i) (putTl_first putKt_first.i) e2
          obtain ⟨s2, e4⟩ := hL xs ys _ _ (by omega) hkx.2 hky.2 putKt_first putKt_first e3
          obtain ⟨s3, e5⟩ := ihl ms r s (by omega) hl.2 hm.2 e4
          exact ⟨by rw [sameKs_cons, sameIs_cons, s1, s2, s3]; rfl, e5⟩
        | [], _, hl, _ => simp at hl
        | _, [], _, hm => simp at hm

/- The converse. -/
theorem prd_same : ∀ {ps qs : List ET}, ps.all rightT = true → qs.all rightT = true → samePs ps qs = true → prd ps = prd qs
  | [], [], _, _, _ => rfl
  | [], _ :: _, _, _, h => by simp [samePs] at h
  | _ :: _, [], _, _, h => by simp [samePs] at h
  | x :: xs, y :: ys, h1, h2, h => by
    simp only [List.all_cons, Bool.and_eq_true] at h1 h2
    simp only [samePs, Bool.and_eq_true] at h
    rw [prd, prd, put_same _ x y 0 (Nat.le_refl _) h1.1 h2.1 h.1, prd_same h1.2 h2.2 h.2]
theorem items_same : ∀ n : Nat, (∀ (a b : IT), sizeI a ≤ n → rightI a = true → rightI b = true → sameI a b = true → putI a = putI b)
    ∧ (∀ (l m : List IT), sizeIs l ≤ n → rightLs l = true → rightLs m = true → sameIs l m = true → putTl l = putTl m)
    ∧ (∀ (l m : List (List IT)), sizeKs l ≤ n → rightKs l = true → rightKs m = true → sameKs l m = true → putKt l = putKt m) := by
  intro n
  induction n with
  | zero =>
    refine ⟨fun a b h => ?_, fun l m h hl hm e => ?_, fun l m h hl hm e => ?_⟩
    · obtain ⟨k, nm, vr, pA, pc, ps, lo, hi, kA, kc, kp, ks⟩ := a
      rw [sizeI_mk] at h; omega
    · cases l with
      | cons x xs =>
        obtain ⟨k, nm, vr, pA, pc, ps, lo, hi, kA, kc, kp, ks⟩ := x
        rw [sizeIs_cons, sizeI_mk] at h; omega
      | nil =>
        cases m with
        | nil => rfl
        | cons y ys => rw [sameIs] at e; simp at e
    · cases l with
      | cons x xs => rw [sizeKs_cons] at h; omega
      | nil =>
        cases m with
        | nil => rfl
        | cons y ys => rw [sameKs] at e; simp at e
  | succ n ih =>
    have hI : ∀ (a b : IT), sizeI a ≤ n + 1 → rightI a = true → rightI b = true → sameI a b = true → putI a = putI b := by
      intro a b h ha hb e
      obtain ⟨k, nm, vr, pA, pc, ps, lo, hi, kA, kc, kp, ks⟩ := a
      obtain ⟨k', nm', vr', pA', pc', ps', lo', hi', kA', kc', kp', ks'⟩ := b
      rw [sizeI_mk] at h
      rw [sameI_mk] at e
      simp only [Bool.and_eq_true] at e
      obtain ⟨⟨e1, e2⟩, e3⟩ := e
      obtain ⟨rfl, rfl, rfl, rfl, rfl⟩ := of_decide_eq_true e1
      simp only [IT.ps] at e2
      simp only [IT.ks] at e3
      rw [putI_mk, putI_mk]
      rcases itm_kinds ha with ⟨rfl, _, _, _, _, _, hl, hk⟩ | ⟨hk, hn, hv, hp, hpr, rfl, h1, h2⟩
      · rcases itm_kinds hb with ⟨_, _, _, _, _, _, hl', hk'⟩ | ⟨hk', _⟩
        · simp only [if_true]
          match ks, ks', hl, hl' with
          | (x :: xs) :: ls, (y :: ys) :: ms, _, _ =>
            rw [rightKs_cons] at hk hk'
            simp only [Bool.and_eq_true] at hk hk'
            have q := hk.1.2
            have q' := hk'.1.2
            rw [rightLs_cons, Bool.and_eq_true] at q q'
            rw [sizeKs_cons, sizeIs_cons] at h
            rw [sameKs_cons, sameIs_cons, Bool.and_eq_true, Bool.and_eq_true] at e3
            rw [putKs_cons, putKs_cons, putIs_cons, putIs_cons, ih.1 x y (by omega) q.1 q'.1 e3.1.1, ih.2.1 xs ys (by omega) q.2 q'.2 e3.1.2, ih.2.2 ls ms (by omega) hk.2 hk'.2 e3.2]
          | [] :: _, _, _, _ => rw [rightKs_cons] at hk; simp at hk
          | _ :: _, [] :: _, _, _ => rw [rightKs_cons] at hk'; simp at hk'
          | [], _, hl, _ => simp at hl
          | _, [], _, hl' => simp at hl'
        · omega
      · rcases itm_kinds hb with ⟨h3, _⟩ | ⟨_, _, _, _, hpr', _⟩
        · omega
        · have n3 : k ≠ 3 := by omega
          rw [if_neg n3, if_neg n3, prd_same hpr hpr' e2]
    have hL : ∀ (l m : List IT), sizeIs l ≤ n + 1 → rightLs l = true → rightLs m = true → sameIs l m = true → putTl l = putTl m := by
      intro l
      induction l with
      | nil =>
        intro m h hl hm e
        cases m with
        | nil => rfl
        | cons y ys => rw [sameIs] at e; simp at e
      | cons x xs ihl =>
        intro m h hl hm e
        cases m with
        | nil => rw [sameIs] at e; simp at e
        | cons y ys =>
          rw [rightLs_cons, Bool.and_eq_true] at hl hm
          rw [sizeIs_cons] at h
          rw [sameIs_cons, Bool.and_eq_true] at e
          rw [putTl_cons, putTl_cons, hI x y (by omega) hl.1 hm.1 e.1, ihl ys (by omega) hl.2 hm.2 e.2]
    refine ⟨hI, hL, ?_⟩
    intro l
    induction l with
    | nil =>
      intro m h hl hm e
      cases m with
      | nil => rfl
      | cons y ys => rw [sameKs] at e; simp at e
    | cons l ls ihl =>
      intro m h hl hm e
      cases m with
      | nil => rw [sameKs] at e; simp at e
      | cons m ms =>
        rw [putKt_cons, putKt_cons]
        rw [rightKs_cons] at hl hm
        simp only [Bool.and_eq_true] at hl hm
        rw [sizeKs_cons] at h
        rw [sameKs_cons, Bool.and_eq_true] at e
        rw [ihl ms (by omega) hl.2 hm.2 e.2]
        match l, m, hl, hm, e with
        | x :: xs, y :: ys, hl, hm, e =>
          have hkx := hl.1.2
          have hky := hm.1.2
          rw [rightLs_cons, Bool.and_eq_true] at hkx hky
          rw [sizeIs_cons] at h
          rw [sameIs_cons, Bool.and_eq_true] at e
          rw [putIs_cons, putIs_cons, hI x y (by omega) hkx.1 hky.1 e.1.1, hL xs ys (by omega) hkx.2 hky.2 e.1.2]
        | [], _, hl, _, _ => simp at hl
        | _, [], _, hm, _ => simp at hm
/-- What is put of some items. -/
theorem putIs_iff {l m : List IT} (hl : rightIs l = true) (hm : rightIs m = true) {r s : Nm} (hr : StL r) (hs : StL s) (e : putIs l ++ r = putIs m ++ s) : sameIs l m = true ∧ r = s := by
  simp only [rightIs, Bool.and_eq_true] at hl hm
  match l, m, hl, hm with
  | x :: xs, y :: ys, hl, hm =>
    rw [putIs_cons, putIs_cons] at e
    have q := hl.2
    have q' := hm.2
    rw [rightLs_cons, Bool.and_eq_true] at q q'
    have e2 : putI x ++ (putTl xs ++ r) = putI y ++ (putTl ys ++ s) := by simpa using e
    obtain ⟨s1, e3⟩ := (items_inj _).1 x y _ _ (Nat.le_refl _) q.1 q'.1 (putTl_first hr.i) (putTl_first hs.i) e2
    obtain ⟨s2, e4⟩ := (items_inj _).2.1 xs ys _ _ (Nat.le_refl _) q.2 q'.2 hr hs e3
    exact ⟨by rw [sameIs_cons, s1, s2]; rfl, e4⟩
  | [], _, hl, _ => simp at hl
  | _, [], _, hm => simp at hm
theorem putIs_same {l m : List IT} (hl : rightIs l = true) (hm : rightIs m = true) (e : sameIs l m = true) : putIs l = putIs m := by
  simp only [rightIs, Bool.and_eq_true] at hl hm
  match l, m, hl, hm with
  | x :: xs, y :: ys, hl, hm =>
    have q := hl.2
    have q' := hm.2
    rw [rightLs_cons, Bool.and_eq_true] at q q'
    rw [sameIs_cons, Bool.and_eq_true] at e
    rw [putIs_cons, putIs_cons, (items_same _).1 x y (Nat.le_refl _) q.1 q'.1 e.1, (items_same _).2.1 xs ys (Nat.le_refl _) q.2 q'.2 e.2]
  | [], _, hl, _ => simp at hl
  | _, [], _, hm => simp at hm
/-- What is put of a query. -/
def putQ (l : List IT) (w : Int) (b : Nm) : Nm := putIs l ++ ([32, 87, 73, 84, 72, 73, 78, 32] ++ (Lib.itoa w ++ (if b = [] then [] else [32, 66, 89, 32] ++ b)))
/-- Is a query right? -/
def rightQ (l : List IT) (w : Int) (b : Nm) : Bool := rightIs l && decide (0 ≤ w ∧ w ≤ 1000000000) && (decide (b = []) || nameB b)
/-- Are two queries the same? -/
def sameQ (l : List IT) (w : Int) (b : Nm) (l' : List IT) (w' : Int) (b' : Nm) : Bool := sameIs l l' && decide (w = w') && decide (b = b')
theorem putQ_iff {l l' : List IT} {w w' : Int} {b b' : Nm} (h : rightQ l w b = true) (h' : rightQ l' w' b' = true) : decide (putQ l w b = putQ l' w' b') = sameQ l w b l' w' b' := by
  simp only [rightQ, Bool.and_eq_true] at h h'
  obtain ⟨⟨h1, h2⟩, h3⟩ := h
  obtain ⟨⟨h1', h2'⟩, h3'⟩ := h'
  have h2 := of_decide_eq_true h2
  have h2' := of_decide_eq_true h2'
  by_cases e : putQ l w b = putQ l' w' b'
  · rw [decide_eq_true e]
    have st : ∀ X : Nm, StL ([32, 87, 73, 84, 72, 73, 78, 32] ++ X) := fun X => .inr (.inr ⟨87, [73, 84, 72, 73, 78, 32] ++ X, rfl, by decide⟩)
    obtain ⟨s1, e2⟩ := putIs_iff h1 h1' (st _) (st _) e
    have e3 := List.append_cancel_left e2
    have fst : ∀ {b : Nm} {c : UInt8} {t : Nm}, (if b = [] then [] else [32, 66, 89, 32] ++ b) = c :: t → ¬ (48 ≤ c.toNat ∧ c.toNat ≤ 57) := by
      intro b c t e
      split at e
      · simp at e
      · exact dig_no (.inr (.inr (cons_eq e).1.symm))
    obtain ⟨e4, e5⟩ := itoa_inj h2.1 h2'.1 (fun c t e => fst e) (fun c t e => fst e) e3
    have e6 : b = b' := by
      by_cases hb : b = [] <;> by_cases hb' : b' = []
      · rw [hb, hb']
      · rw [if_pos hb, if_neg hb'] at e5; simp at e5
      · rw [if_neg hb, if_pos hb'] at e5; simp at e5
      · rw [if_neg hb, if_neg hb'] at e5; exact List.append_cancel_left e5
    rw [sameQ, s1, decide_eq_true e4, decide_eq_true e6]; rfl
  · rw [decide_eq_false e]
    symm
    rw [Bool.eq_false_iff]
    intro q
    simp only [sameQ, Bool.and_eq_true, decide_eq_true_eq] at q
    obtain ⟨⟨q1, rfl⟩, rfl⟩ := q
    exact e (by rw [putQ, putQ, putIs_same h1 h1' q1])
end Go.Proofs.YtbdfehgofnomhaaDoor
/- Layer 9: items counted, how deep, two lists one behind the other (plain functions; no model). -/
namespace Go.Proofs.YtbdfehgofnomhaaDoor
set_option linter.unusedVariables false

mutual
/-- How many items. -/
def countI : IT → Nat
  | .mk _ _ _ _ _ _ _ _ _ _ _ ks => 1 + countKs ks
def countIs : List IT → Nat
  | [] => 0
  | x :: xs => countI x + countIs xs
def countKs : List (List IT) → Nat
  | [] => 0
  | l :: ls => countIs l + countKs ls
end
mutual
/-- How deep. -/
def deepI : IT → Nat
  | .mk _ _ _ _ _ _ _ _ _ _ _ ks => deepKs ks
def deepIs : List IT → Nat
  | [] => 0
  | x :: xs => max (1 + deepI x) (deepIs xs)
def deepKs : List (List IT) → Nat
  | [] => 0
  | l :: ls => max (deepIs l) (deepKs ls)
end
theorem countI_mk (k : Int) (nm vr : Nm) (pA : Option Addr) (pc : Nat) (ps : List ET) (lo hi : Int) (kA : Option Addr) (kc : Nat) (kp : List (Option Addr × Nat)) (ks : List (List IT)) : countI (.mk k nm vr pA pc ps lo hi kA kc kp ks) = 1 + countKs ks := by rw [countI]
theorem countIs_nil : countIs [] = 0 := by rw [countIs]
theorem countIs_cons (x : IT) (xs : List IT) : countIs (x :: xs) = countI x + countIs xs := by rw [countIs]
theorem countKs_nil : countKs [] = 0 := by rw [countKs]
theorem countKs_cons (l : List IT) (ls : List (List IT)) : countKs (l :: ls) = countIs l + countKs ls := by rw [countKs]
theorem deepI_mk (k : Int) (nm vr : Nm) (pA : Option Addr) (pc : Nat) (ps : List ET) (lo hi : Int) (kA : Option Addr) (kc : Nat) (kp : List (Option Addr × Nat)) (ks : List (List IT)) : deepI (.mk k nm vr pA pc ps lo hi kA kc kp ks) = deepKs ks := by rw [deepI]
theorem deepIs_nil : deepIs [] = 0 := by rw [deepIs]
theorem deepIs_cons (x : IT) (xs : List IT) : deepIs (x :: xs) = max (1 + deepI x) (deepIs xs) := by rw [deepIs]
theorem deepKs_nil : deepKs [] = 0 := by rw [deepKs]
theorem deepKs_cons (l : List IT) (ls : List (List IT)) : deepKs (l :: ls) = max (deepIs l) (deepKs ls) := by rw [deepKs]
theorem countIs_append : ∀ (l m : List IT), countIs (l ++ m) = countIs l + countIs m
  | [], m => by rw [List.nil_append, countIs_nil]; omega
  | x :: xs, m => by rw [List.cons_append, countIs_cons, countIs_cons, countIs_append xs m]; omega
theorem deepIs_append : ∀ (l m : List IT), deepIs (l ++ m) = max (deepIs l) (deepIs m)
  | [], m => by rw [List.nil_append, deepIs_nil]; omega
  | x :: xs, m => by rw [List.cons_append, deepIs_cons, deepIs_cons, deepIs_append xs m]; omega
theorem putTl_append : ∀ (l m : List IT), putTl (l ++ m) = putTl l ++ putTl m
  | [], m => by rw [List.nil_append, putTl_nil, List.nil_append]
  | x :: xs, m => by rw [List.cons_append, putTl_cons, putTl_cons, putTl_append xs m]; simp
theorem putIs_append {l m : List IT} (hl : l ≠ []) (hm : m ≠ []) : putIs (l ++ m) = putIs l ++ ([32, 59, 32] ++ putIs m) := by
  match l, m, hl, hm with
  | x :: xs, y :: ys, _, _ => rw [List.cons_append, putIs_cons, putIs_cons, putIs_cons, putTl_append, putTl_cons]; simp
theorem rightLs_append : ∀ (l m : List IT), rightLs (l ++ m) = (rightLs l && rightLs m)
  | [], m => by rw [List.nil_append, rightLs]; rfl
  | x :: xs, m => by rw [List.cons_append, rightLs_cons, rightLs_cons, rightLs_append xs m, Bool.and_assoc]
theorem rightIs_append {l m : List IT} (hl : rightIs l = true) (hm : rightIs m = true) : rightIs (l ++ m) = true := by
  simp only [rightIs, Bool.and_eq_true] at hl hm ⊢
  refine ⟨?_, by rw [rightLs_append, hl.2, hm.2]; rfl⟩
  match l, hl with
  | x :: xs, _ => rfl
  | [], hl => simp at hl
theorem sameT_self : ∀ (n : Nat), (∀ t : ET, t.size ≤ n → sameT t t = true) := by
  intro n
  induction n with
  | zero => intro t h; obtain ⟨k, op, m, v, f, A, c, ks⟩ := t; rw [size_mk] at h; omega
  | succ n ih =>
    intro t h
    obtain ⟨k, op, m, v, f, A, c, ks⟩ := t
    rw [size_mk] at h
    have key : ∀ l : List ET, sizeL l ≤ n → sameLs l l = true := by
      intro l
      induction l with
      | nil => intro _; rw [sameLs]
      | cons x xs ihl =>
        intro hl
        rw [sizeL_cons] at hl
        rw [sameLs, ih x (by omega), ihl (by omega)]; rfl
    rw [sameT_eq, show (ET.mk k op m v f A c ks).ks = ks from rfl, key ks (by omega)]
    simp [aloneB, ET.k, ET.op, ET.n, ET.v, ET.f]
theorem sameT_refl (t : ET) : sameT t t = true := sameT_self _ t (Nat.le_refl _)
theorem samePs_refl : ∀ (l : List ET), samePs l l = true
  | [] => rfl
  | x :: xs => by rw [samePs, sameT_refl, samePs_refl xs]; rfl
theorem sames_refl : ∀ n : Nat, (∀ a : IT, sizeI a ≤ n → sameI a a = true) ∧ (∀ l : List IT, sizeIs l ≤ n → sameIs l l = true) ∧ (∀ l : List (List IT), sizeKs l ≤ n → sameKs l l = true) := by
  intro n
  induction n with
  | zero =>
    refine ⟨fun a h => ?_, fun l h => ?_, fun l h => ?_⟩
    · obtain ⟨k, nm, vr, pA, pc, ps, lo, hi, kA, kc, kp, ks⟩ := a
      rw [sizeI_mk] at h; omega
    · cases l with
      | cons x xs =>
        obtain ⟨k, nm, vr, pA, pc, ps, lo, hi, kA, kc, kp, ks⟩ := x
        rw [sizeIs_cons, sizeI_mk] at h; omega
      | nil => exact sameIs_nil
    · cases l with
      | cons x xs => rw [sizeKs_cons] at h; omega
      | nil => exact sameKs_nil
  | succ n ih =>
    have hI : ∀ a : IT, sizeI a ≤ n + 1 → sameI a a = true := by
      intro a h
      obtain ⟨k, nm, vr, pA, pc, ps, lo, hi, kA, kc, kp, ks⟩ := a
      rw [sizeI_mk] at h
      rw [sameI_mk]
      simp only [IT.k, IT.nm, IT.vr, IT.lo, IT.hi, IT.ps, IT.ks, samePs_refl, ih.2.2 ks (by omega), and_self, decide_true, Bool.and_self]
    have hL : ∀ l : List IT, sizeIs l ≤ n + 1 → sameIs l l = true := by
      intro l
      induction l with
      | nil => intro _; exact sameIs_nil
      | cons x xs ihl =>
        intro h
        rw [sizeIs_cons] at h
        rw [sameIs_cons, hI x (by omega), ihl (by omega)]; rfl
    refine ⟨hI, hL, ?_⟩
    intro l
    induction l with
    | nil => intro _; exact sameKs_nil
    | cons x xs ihl =>
      intro h
      rw [sizeKs_cons] at h
      rw [sameKs_cons, hL x (by omega), ihl (by omega)]; rfl
theorem sameI_refl (a : IT) : sameI a a = true := (sames_refl _).1 a (Nat.le_refl _)
theorem sameIs_refl (l : List IT) : sameIs l l = true := (sames_refl _).2.1 l (Nat.le_refl _)
/-- A list with more behind it is the same just if there is no more. -/
theorem sameIs_more : ∀ (l m : List IT), sameIs (l ++ m) l = m.isEmpty
  | [], [] => sameIs_nil
  | [], y :: ys => by rw [List.nil_append, sameIs]; rfl
  | x :: xs, m => by rw [List.cons_append, sameIs_cons, sameI_refl, sameIs_more xs m]; simp
/-- A choice. -/
def altT (A : Option Addr) (c : Nat) (kp : List (Option Addr × Nat)) (ks : List (List IT)) : IT := .mk 3 [] [] none 0 [] 0 0 A c kp ks
theorem rightI_alt {A : Option Addr} {c : Nat} {kp : List (Option Addr × Nat)} {ks : List (List IT)} (h : rightKs ks = true) : rightI (altT A c kp ks) = decide (2 ≤ ks.length) := by
  rw [altT, rightI, if_pos rfl, h]; simp
theorem putI_alt {A : Option Addr} {c : Nat} {kp : List (Option Addr × Nat)} {ks : List (List IT)} : putI (altT A c kp ks) = [40] ++ (putKs ks ++ [41]) := by
  rw [altT, putI_mk, if_pos rfl]
end Go.Proofs.YtbdfehgofnomhaaDoor
