/- Layer 7: what is put of two right expressions is alike just if they are the same (no model: texts from their ends on); how long it is. -/
import Derived.Test.YtbdfehgofnomhaaDoorExPut
import Derived.Test.YtbdfehgofnomhaaDoorLxRunes
import Derived.Lib.ItoaLen
namespace Go.Proofs.YtbdfehgofnomhaaDoor
set_option linter.unusedVariables false

/- Signs. -/
/-- A sign of a name. -/
def nb (x : UInt8) : Prop := 128 ≤ x.toNat ∨ begB (x.toNat : Int) = true ∨ digB (x.toNat : Int) = true
/-- A sign of a name, a number, or the point between two names. -/
def ab (x : UInt8) : Prop := x = 46 ∨ nb x
theorem nb_not {x : UInt8} (h : nb x) : x ≠ 32 ∧ x ≠ 33 ∧ x ≠ 40 ∧ x ≠ 41 ∧ x ≠ 45 ∧ x ≠ 46 := by
  refine ⟨?_, ?_, ?_, ?_, ?_, ?_⟩
  all_goals
    rintro rfl
    rcases h with h | h | h
    · simp at h
    · revert h; decide
    · revert h; decide
theorem ab_not {x : UInt8} (h : ab x) : x ≠ 32 ∧ x ≠ 33 ∧ x ≠ 40 ∧ x ≠ 41 ∧ x ≠ 45 := by
  rcases h with rfl | h
  · decide
  · exact ⟨(nb_not h).1, (nb_not h).2.1, (nb_not h).2.2.1, (nb_not h).2.2.2.1, (nb_not h).2.2.2.2.1⟩
theorem take_get {l : Nm} {w : Nat} {x : UInt8} (h : x ∈ l.take w) : ∃ i, i < w ∧ i < l.length ∧ x = l.getD i 0 := by
  obtain ⟨i, hi, rfl⟩ := List.getElem_of_mem h
  rw [List.length_take] at hi
  refine ⟨i, by omega, by omega, ?_⟩
  rw [List.getElem_take]
  simp [List.getD, show i < l.length by omega]
theorem dec_nb {l : Nm} (hl : l ≠ []) (hb : ¬ ((Lib.decodeL l).1 = 65533 ∧ (Lib.decodeL l).2 = 1)) (hr : begB ((Lib.decodeL l).1 : Int) = true ∨ digB ((Lib.decodeL l).1 : Int) = true) : ∀ x ∈ l.take (Lib.decodeL l).2, nb x := by
  intro x hx
  obtain ⟨i, hi, hil, rfl⟩ := take_get hx
  rw [Lib.decodeL_N] at hb hr hi
  unfold Lib.decodeN at hb hr hi
  split at hi
  · rename_i h0
    rw [if_pos h0] at hr
    obtain rfl : i = 0 := by omega
    exact .inr hr
  · rename_i h0
    rw [if_neg h0] at hb hr
    split at hi
    · rename_i h1
      refine .inl ?_
      split at hi
      · match i, hi with
        | 0, _ => omega
        | 1, _ => omega
      · obtain rfl : i = 0 := by omega
        omega
    · rename_i h1
      rw [if_neg h1] at hb
      split at hi
      · rename_i h2
        refine .inl ?_
        split at hi
        · match i, hi with
          | 0, _ => omega
          | 1, _ => omega
          | 2, _ => omega
        · obtain rfl : i = 0 := by omega
          omega
      · rename_i h2
        rw [if_neg h2] at hb
        split at hi
        · rename_i h3
          refine .inl ?_
          split at hi
          · match i, hi with
            | 0, _ => omega
            | 1, _ => omega
            | 2, _ => omega
            | 3, _ => omega
          · obtain rfl : i = 0 := by omega
            omega
        · rename_i h3
          rw [if_neg h3] at hb
          exact absurd ⟨rfl, rfl⟩ hb
theorem J_nb : ∀ (n : Nat) (b : Bool) (l : Nm), l.length ≤ n → J b l = true → ∀ x ∈ l, nb x
  | 0, b, l, h, _ => by
    obtain rfl : l = [] := List.eq_nil_of_length_eq_zero (by omega)
    intro x hx; cases hx
  | n + 1, b, l, h, hj => by
    by_cases hl : l = []
    · subst hl; intro x hx; cases hx
    · have w := dec_w l
      rw [J_step b l hl, Bool.and_eq_true, Bool.and_eq_true] at hj
      obtain ⟨⟨h1, h2⟩, h3⟩ := hj
      have hb : ¬ ((Lib.decodeL l).1 = 65533 ∧ (Lib.decodeL l).2 = 1) := by
        intro hh
        rw [decide_eq_true hh] at h1
        cases h1
      have ih := J_nb n false _ (by rw [List.length_drop]; omega) h3
      have ht := dec_nb hl hb (by
        rcases Bool.or_eq_true _ _ ▸ h2 with h | h
        · exact .inl h
        · exact .inr (by simpa using (Bool.and_eq_true _ _ ▸ h : _ ∧ _).2))
      intro x hx
      rw [← List.take_append_drop (Lib.decodeL l).2 l] at hx
      rcases List.mem_append.1 hx with hx | hx
      · exact ht x hx
      · exact ih x hx
theorem name_nb {l : Nm} (h : nameB l = true) : l ≠ [] ∧ l.length ≤ 24 ∧ ∀ x ∈ l, nb x := by
  rw [nameB_J] at h
  simp only [Bool.and_eq_true, decide_eq_true_eq] at h
  exact ⟨h.1.1.1.1, h.1.1.1.2, J_nb l.length true l (Nat.le_refl _) h.2⟩

/- Numbers. -/
theorem digs_dec : ∀ (m u : Nat), u ≤ m → ∀ x ∈ Lib.decDigits u, 48 ≤ x.toNat ∧ x.toNat ≤ 57 := by
  intro m
  induction m with
  | zero =>
    intro u hu x hx
    obtain rfl : u = 0 := by omega
    rw [Lib.decDigits, dif_pos (by omega)] at hx
    obtain rfl := List.mem_singleton.1 hx
    decide
  | succ m ih =>
    intro u hu x hx
    rw [Lib.decDigits] at hx
    split at hx
    · rename_i h
      obtain rfl := List.mem_singleton.1 hx
      have : (UInt8.ofNat (48 + u)).toNat = 48 + u := UInt8.toNat_ofNat_of_lt' (by show 48 + u < 256; omega)
      rw [this]
      omega
    · rename_i h
      rcases List.mem_append.1 hx with hx | hx
      · exact ih (u / 10) (by omega) x hx
      · obtain rfl := List.mem_singleton.1 hx
        have : (UInt8.ofNat (48 + u % 10)).toNat = 48 + u % 10 := UInt8.toNat_ofNat_of_lt' (by show 48 + u % 10 < 256; omega)
        rw [this]
        omega
theorem dec_ne (u : Nat) : Lib.decDigits u ≠ [] := by
  rw [Lib.decDigits]
  split <;> simp
theorem ofNat_inj {a b : Nat} (ha : a < 256) (hb : b < 256) (h : UInt8.ofNat a = UInt8.ofNat b) : a = b := by
  have := congrArg UInt8.toNat h
  rwa [UInt8.toNat_ofNat_of_lt' ha, UInt8.toNat_ofNat_of_lt' hb] at this
theorem dec_small {u : Nat} (h : u < 10) : Lib.decDigits u = [UInt8.ofNat (48 + u)] := by rw [Lib.decDigits, dif_pos h]
theorem dec_big {u : Nat} (h : ¬ u < 10) : Lib.decDigits u = Lib.decDigits (u / 10) ++ [UInt8.ofNat (48 + u % 10)] := by rw [Lib.decDigits, dif_neg h]
theorem dec_one_big {u v : Nat} (hu : u < 10) (hv : ¬ v < 10) (h : Lib.decDigits u = Lib.decDigits v) : False := by
  rw [dec_small hu, dec_big hv] at h
  have h2 := List.append_inj' (s₁ := []) (t₁ := [UInt8.ofNat (48 + u)]) h rfl
  exact dec_ne _ h2.1.symm
theorem dec_inj : ∀ (m u v : Nat), u ≤ m → Lib.decDigits u = Lib.decDigits v → u = v := by
  intro m
  induction m with
  | zero =>
    intro u v hu h
    obtain rfl : u = 0 := by omega
    by_cases hv : v < 10
    · rw [dec_small (by omega), dec_small hv] at h
      have := ofNat_inj (a := 48 + 0) (b := 48 + v) (by omega) (by omega) (List.cons.inj h).1
      omega
    · exact (dec_one_big (by omega) hv h).elim
  | succ m ih =>
    intro u v hu h
    by_cases hu2 : u < 10
    · by_cases hv : v < 10
      · rw [dec_small hu2, dec_small hv] at h
        have := ofNat_inj (a := 48 + u) (b := 48 + v) (by omega) (by omega) (List.cons.inj h).1
        omega
      · exact (dec_one_big hu2 hv h).elim
    · by_cases hv : v < 10
      · exact (dec_one_big hv hu2 h.symm).elim
      · rw [dec_big hu2, dec_big hv] at h
        have h2 := List.append_inj' h rfl
        have h3 := ih (u / 10) (v / 10) (by omega) h2.1
        have h4 := ofNat_inj (a := 48 + u % 10) (b := 48 + v % 10) (by omega) (by omega) (List.cons.inj h2.2).1
        omega
theorem itoa_pos {n : Int} (h : 0 ≤ n) : Lib.itoa n = Lib.decDigits n.toNat := by
  unfold Lib.itoa; rw [if_neg (by omega)]

theorem len2 {α : Type} {l : List α} (h : l.length = 2) : ∃ x y, l = [x, y] := by
  match l, h with
  | [x, y], _ => exact ⟨x, y, rfl⟩

/- Ends of texts. -/
theorem tail_eq {P : UInt8 → Prop} {u v r s : Nm} (hu : ∀ x ∈ u, P x) (hv : ∀ x ∈ v, P x) (hr : ∀ r' c, r = r' ++ [c] → ¬ P c) (hs : ∀ s' c, s = s' ++ [c] → ¬ P c) (h : r ++ u = s ++ v) : r = s ∧ u = v := by
  rcases List.append_eq_append_iff.1 h with ⟨a, h1, h2⟩ | ⟨a, h1, h2⟩
  · rcases List.eq_nil_or_concat a with rfl | ⟨a', c, e⟩
    · exact ⟨by simpa using h1.symm, by simpa using h2⟩
    · have e : a = a' ++ [c] := by simpa using e
      subst e
      exact absurd (hu c (by rw [h2]; simp)) (hs (r ++ a') c (by rw [h1]; simp))
  · rcases List.eq_nil_or_concat a with rfl | ⟨a', c, e⟩
    · exact ⟨by simpa using h1, by simpa using h2.symm⟩
    · have e : a = a' ++ [c] := by simpa using e
      subst e
      exact absurd (hv c (by rw [h2]; simp)) (hr (s ++ a') c (by rw [h1]; simp))
theorem last_eq {r s : Nm} {a b : UInt8} (h : r ++ [a] = s ++ [b]) : r = s ∧ a = b := by
  have := List.append_inj' h rfl
  exact ⟨this.1, by simpa using this.2⟩
theorem lev_op {op : Nm} (h : levB op ≠ 0) : op ≠ [] ∧ op.length ≤ 2 ∧ ∀ x ∈ op, x ≠ 32 := by
  have key : op ∈ ([[124, 124], [38, 38], [61, 61], [33, 61], [60], [60, 61], [62], [62, 61], [43], [45], [42], [47], [37]] : List Nm) := by
    by_cases hm : op ∈ ([[124, 124], [38, 38], [61, 61], [33, 61], [60], [60, 61], [62], [62, 61], [43], [45], [42], [47], [37]] : List Nm)
    · exact hm
    · exfalso
      apply h
      simp only [List.mem_cons, not_or] at hm
      unfold levB
      simp [hm]
  have all : ∀ o ∈ ([[124, 124], [38, 38], [61, 61], [33, 61], [60], [60, 61], [62], [62, 61], [43], [45], [42], [47], [37]] : List Nm), o ≠ [] ∧ o.length ≤ 2 ∧ ∀ x ∈ o, x ≠ 32 := by decide
  exact all op key
/-- An operation with its spaces. -/
def sp (op : Nm) : Nm := [32] ++ (op ++ [32])
theorem sp_eq {A B o o' : Nm} (h : levB o ≠ 0) (h' : levB o' ≠ 0) (e : A ++ sp o = B ++ sp o') : A = B ∧ o = o' := by
  unfold sp at e
  have e : (A ++ [32] ++ o) ++ [32] = (B ++ [32] ++ o') ++ [32] := by simpa using e
  have e2 := (last_eq e).1
  have e3 := tail_eq (P := fun x => x ≠ 32) (lev_op h).2.2 (lev_op h').2.2 (r := A ++ [32]) (s := B ++ [32]) (fun r' c hh => by simp [(last_eq hh).2.symm]) (fun r' c hh => by simp [(last_eq hh).2.symm]) e2
  exact ⟨(last_eq e3.1).1, e3.2⟩
/-- What may stand ahead of an expression at this level. -/
def St (l : Int) (r : Nm) : Prop := r = [] ∨ (∃ r', r = r' ++ [40]) ∨ ∃ r' op, r = r' ++ sp op ∧ levB op ≠ 0 ∧ levB op < l
theorem St.mono {l l' : Int} {r : Nm} (h : St l r) (hl : l ≤ l') : St l' r := by
  rcases h with h | h | ⟨r', op, h1, h2, h3⟩
  · exact .inl h
  · exact .inr (.inl h)
  · exact .inr (.inr ⟨r', op, h1, h2, by omega⟩)
theorem St.last {l : Int} {r r' : Nm} {c : UInt8} (h : St l r) (e : r = r' ++ [c]) : c = 40 ∨ c = 32 := by
  rcases h with rfl | ⟨q, rfl⟩ | ⟨q, op, rfl, _⟩
  · simp at e
  · exact .inl (last_eq e).2.symm
  · right
    have : (q ++ [32] ++ op) ++ [32] = r' ++ [c] := by rw [← e]; simp [sp]
    exact (last_eq this).2.symm
theorem St.not {l : Int} {A op : Nm} (h : St l (A ++ sp op)) (h0 : levB op ≠ 0) (h1 : l ≤ levB op) : False := by
  rcases h with e | ⟨q, e⟩ | ⟨q, o, e, h2, h3⟩
  · simp [sp] at e
  · have : (A ++ [32] ++ op) ++ [32] = q ++ [40] := by rw [← e]; simp [sp]
    have := (last_eq this).2
    revert this; decide
  · have := (sp_eq h0 h2 e).2
    subst this
    omega
theorem St.sp {l : Int} {A op : Nm} (h0 : levB op ≠ 0) (h : levB op < l) : St l (A ++ sp op) := .inr (.inr ⟨A, op, rfl, h0, h⟩)

/- Signs ahead of an expression. -/
inductive Un : Nm → ET → ET → Prop where
  | nil (c : ET) : Un [] c c
  | cons (x : UInt8) (hx : x = 45 ∨ x = 33) {us : Nm} {c t : ET} (A : Option Addr) (cap : Nat) (h : Un us c t) : Un (x :: us) c (.mk 2 [x] 0 [] [] A cap [t])
theorem Un.marks {us : Nm} {c t : ET} (h : Un us c t) : ∀ x ∈ us, x = 45 ∨ x = 33 := by
  induction h with
  | nil => intro x hx; cases hx
  | cons x hx A cap h ih =>
    intro y hy
    rcases List.mem_cons.1 hy with rfl | hy
    · exact hx
    · exact ih y hy
theorem Un.size {us : Nm} {c t : ET} (h : Un us c t) : c.size + us.length ≤ t.size := by
  induction h with
  | nil => simp
  | cons x hx A cap h ih => rw [size_mk, sizeL_cons, sizeL_nil, List.length_cons]; omega
theorem un_same {us : Nm} {c t : ET} (h : Un us c t) : ∀ {d s : ET}, Un us d s → sameT c d = true → sameT t s = true := by
  induction h with
  | nil c =>
    intro d s h2 hs
    cases h2
    exact hs
  | cons x hx A cap h ih =>
    intro d s h2 hs
    cases h2 with
    | cons _ _ A2 cap2 h2 =>
      rw [sameT_eq]
      simp only [ET.k, ET.op, ET.n, ET.v, ET.f, ET.ks, sameLs_cons, sameLs_nil, ih h2 hs]
      simp [aloneB]
theorem un_of : ∀ (m : Nat) (t : ET), t.size ≤ m → rightT t = true → ∃ us c, Un us c t ∧ rightT c = true ∧ c.k ≠ 2 := by
  intro m
  induction m with
  | zero =>
    intro t h
    cases t
    rw [size_mk] at h
    omega
  | succ m ih =>
    intro t h hr
    obtain ⟨k, op, n, v, f, A, cap, ks⟩ := t
    by_cases hk : k = 2
    · subst hk
      have h1 := one_kinds (right_one hr)
      obtain ⟨hl, ho, rfl, rfl, rfl⟩ : ks.length = 1 ∧ (op = [45] ∨ op = [33]) ∧ n = 0 ∧ v = [] ∧ f = [] := by
        rcases h1 with h | h | h | h
        · omega
        · omega
        · exact h.2
        · omega
      obtain ⟨x, rfl⟩ : ∃ x, ks = [x] := List.length_eq_one_iff.1 hl
      rw [size_mk, sizeL_cons, sizeL_nil] at h
      obtain ⟨us, c, hu, hc, hk⟩ := ih x (by omega) (right_kids hr x (by simp))
      rcases ho with rfl | rfl
      · exact ⟨45 :: us, c, .cons 45 (.inl rfl) A cap hu, hc, hk⟩
      · exact ⟨33 :: us, c, .cons 33 (.inr rfl) A cap hu, hc, hk⟩
    · exact ⟨[], _, .nil _, hr, hk⟩
/-- An expression that has no sign ahead, in brackets, if it is of two. -/
def Q (c : ET) : Nm := if c.k = 3 then [40] ++ putT 0 c ++ [41] else putT 0 c
/-- Is it put without brackets, as one of two? -/
def opn (l : Int) (t : ET) : Prop := t.k = 3 ∧ l ≤ levB t.op
theorem two_of {t : ET} (hr : rightT t = true) (hk : t.k = 3) : ∃ op A c x y, t = .mk 3 op 0 [] [] A c [x, y] ∧ levB op ≠ 0 ∧ rightT x = true ∧ rightT y = true := by
  obtain ⟨k, op, n, v, f, A, cap, ks⟩ := t
  simp only [ET.k] at hk
  subst hk
  obtain ⟨hl, ho, rfl, rfl, rfl⟩ : ks.length = 2 ∧ levB op ≠ 0 ∧ n = 0 ∧ v = [] ∧ f = [] := by
    rcases one_kinds (right_one hr) with h | h | h | h
    · omega
    · omega
    · omega
    · exact h.2
  obtain ⟨x, y, rfl⟩ : ∃ x y, ks = [x, y] := len2 hl
  exact ⟨op, A, cap, x, y, rfl, ho, right_kids hr x (by simp), right_kids hr y (by simp)⟩
theorem put_open {l : Int} {op : Nm} {A : Option Addr} {c : Nat} {x y : ET} (h : l ≤ levB op) : putT l (.mk 3 op 0 [] [] A c [x, y]) = putT (levB op) x ++ sp op ++ putT (levB op + 1) y := by
  rw [putT_3, decide_eq_false (by omega), brk]
  simp [sp]
theorem put_shut {l : Int} {op : Nm} {A : Option Addr} {c : Nat} {x y : ET} (h : levB op < l) : putT l (.mk 3 op 0 [] [] A c [x, y]) = [40] ++ putT 0 (.mk 3 op 0 [] [] A c [x, y]) ++ [41] := by
  rw [put_open (lev_le op).1, putT_3, decide_eq_true h, brk]
  simp [sp]
theorem put_any_level {l l' : Int} {t : ET} (hr : rightT t = true) (hk : t.k ≠ 3) : putT l t = putT l' t := by
  obtain ⟨k, op, n, v, f, A, cap, ks⟩ := t
  simp only [ET.k] at hk
  rcases one_kinds (right_one hr) with h | h | h | h
  · obtain ⟨rfl, _⟩ := h
    rw [putT_0, putT_0]
  · obtain ⟨rfl, _⟩ := h
    rw [putT_1, putT_1]
  · obtain ⟨rfl, hl, _⟩ := h
    obtain ⟨x, rfl⟩ : ∃ x, ks = [x] := List.length_eq_one_iff.1 hl
    rw [putT_2, putT_2]
  · exact absurd h.1 hk
theorem put_Q {l : Int} {c : ET} (hr : rightT c = true) (h : c.k ≠ 3 ∨ levB c.op < l) : putT l c = Q c := by
  unfold Q
  by_cases hk : c.k = 3
  · rw [if_pos hk]
    obtain ⟨op, A, cap, x, y, rfl, ho, _⟩ := two_of hr hk
    refine put_shut ?_
    rcases h with h | h
    · exact absurd hk h
    · exact h
  · rw [if_neg hk]
    exact put_any_level hr hk
theorem un_put {us : Nm} {c t : ET} (h : Un us c t) : ∀ {l : Int}, rightT c = true → (us ≠ [] ∨ c.k ≠ 3 ∨ levB c.op < l) → putT l t = us ++ Q c := by
  induction h with
  | nil c =>
    intro l hr h
    rcases h with h | h
    · exact absurd rfl h
    · rw [put_Q hr h]; rfl
  | cons x hx A cap h ih =>
    rename_i us c t
    intro l hr _
    rw [putT_2, ih hr (.inr (.inr (by have := lev_le c.op; omega)))]
    simp
theorem same_un {l : Int} {t : ET} (hr : rightT t = true) (h : ¬ opn l t) : ∃ us c, Un us c t ∧ rightT c = true ∧ c.k ≠ 2 ∧ putT l t = us ++ Q c ∧ (c.k = 3 → us = [] → 0 < l) := by
  obtain ⟨us, c, hu, hc, hk⟩ := un_of _ t (Nat.le_refl _) hr
  have hcl : us ≠ [] ∨ c.k ≠ 3 ∨ levB c.op < l := by
    by_cases h0 : us = []
    · subst h0
      cases hu
      refine .inr ?_
      by_cases h3 : t.k = 3
      · exact .inr (by
          have : ¬ l ≤ levB t.op := fun hl => h ⟨h3, hl⟩
          omega)
      · exact .inl h3
    · exact .inl h0
  refine ⟨us, c, hu, hc, hk, un_put hu hc hcl, fun h3 h0 => ?_⟩
  rcases hcl with h | h | h
  · exact absurd h0 h
  · exact absurd h3 h
  · have := (lev_le c.op).1
    omega
/-- Numbers and names. -/
theorem atom_of {c : ET} (hr : rightT c = true) (h2 : c.k ≠ 2) (h3 : c.k ≠ 3) :
    (∃ n A cap, 0 ≤ n ∧ c = .mk 0 [] n [] [] A cap [] ∧ Q c = Lib.decDigits n.toNat) ∨ (∃ v f A cap, nameB v = true ∧ nameB f = true ∧ c = .mk 1 [] 0 v f A cap [] ∧ Q c = v ++ [46] ++ f) := by
  have hq : Q c = putT 0 c := by unfold Q; rw [if_neg h3]
  rw [hq]
  obtain ⟨k, op, n, v, f, A, cap, ks⟩ := c
  simp only [ET.k] at h2 h3
  rcases one_kinds (right_one hr) with h | h | h | h
  · obtain ⟨rfl, hl, hn, rfl, rfl, rfl⟩ := h
    obtain rfl : ks = [] := List.eq_nil_of_length_eq_zero hl
    exact .inl ⟨n, A, cap, hn, rfl, by rw [putT_0, itoa_pos hn]⟩
  · obtain ⟨rfl, hl, hv, hf, rfl, rfl⟩ := h
    obtain rfl : ks = [] := List.eq_nil_of_length_eq_zero hl
    exact .inr ⟨v, f, A, cap, hv, hf, rfl, by rw [putT_1]; simp⟩
  · exact absurd h.1 h2
  · exact absurd h.1 h3
theorem dig_nb {x : UInt8} (h : 48 ≤ x.toNat ∧ x.toNat ≤ 57) : nb x := by
  refine .inr (.inr ?_)
  unfold digB
  simp
  omega
theorem atom_ab {c : ET} (hr : rightT c = true) (h2 : c.k ≠ 2) (h3 : c.k ≠ 3) : Q c ≠ [] ∧ ∀ x ∈ Q c, ab x := by
  rcases atom_of hr h2 h3 with ⟨n, A, cap, hn, _, e⟩ | ⟨v, f, A, cap, hv, hf, _, e⟩
  · rw [e]
    exact ⟨dec_ne _, fun x hx => .inr (dig_nb (digs_dec _ _ (Nat.le_refl _) x hx))⟩
  · rw [e]
    refine ⟨by simp, fun x hx => ?_⟩
    simp only [List.mem_append, List.mem_singleton] at hx
    rcases hx with (hx | hx) | hx
    · exact .inr ((name_nb hv).2.2 x hx)
    · exact .inl hx
    · exact .inr ((name_nb hf).2.2 x hx)
theorem atom_eq {c d : ET} (hc : rightT c = true) (c2 : c.k ≠ 2) (c3 : c.k ≠ 3) (hd : rightT d = true) (d2 : d.k ≠ 2) (d3 : d.k ≠ 3) (h : Q c = Q d) : sameT c d = true := by
  have no : ∀ {n : Nat} {v f : Nm}, Lib.decDigits n = v ++ [46] ++ f → False := by
    intro n v f e
    have := digs_dec _ n (Nat.le_refl _) 46 (by rw [e]; simp)
    revert this; decide
  rcases atom_of hc c2 c3 with ⟨n, A, cap, hn, rfl, e⟩ | ⟨v, f, A, cap, hv, hf, rfl, e⟩
  · rcases atom_of hd d2 d3 with ⟨n', A', cap', hn', rfl, e'⟩ | ⟨v', f', A', cap', hv', hf', rfl, e'⟩
    · rw [e, e'] at h
      have := dec_inj _ _ _ (Nat.le_refl _) h
      obtain rfl : n = n' := by omega
      rw [sameT_eq]; simp [aloneB, sameLs_nil, ET.k, ET.op, ET.n, ET.v, ET.f, ET.ks]
    · rw [e, e'] at h
      exact (no h).elim
  · rcases atom_of hd d2 d3 with ⟨n', A', cap', hn', rfl, e'⟩ | ⟨v', f', A', cap', hv', hf', rfl, e'⟩
    · rw [e, e'] at h
      exact (no h.symm).elim
    · rw [e, e'] at h
      have h1 := tail_eq (P := nb) (name_nb hf).2.2 (name_nb hf').2.2 (fun r' x hh => by rw [← (last_eq hh).2]; exact fun x => (nb_not x).2.2.2.2.2 rfl) (fun r' x hh => by rw [← (last_eq hh).2]; exact fun x => (nb_not x).2.2.2.2.2 rfl) h
      obtain ⟨h2, rfl⟩ := h1
      obtain rfl := (last_eq h2).1
      rw [sameT_eq]; simp [aloneB, sameLs_nil, ET.k, ET.op, ET.n, ET.v, ET.f, ET.ks]
theorem mark_last {l : Int} {r us r' : Nm} {c : UInt8} (h : St l r) (hu : ∀ x ∈ us, x = 45 ∨ x = 33) (e : r ++ us = r' ++ [c]) : c = 40 ∨ c = 32 ∨ c = 45 ∨ c = 33 := by
  rcases List.eq_nil_or_concat us with rfl | ⟨u', d, e2⟩
  · rw [List.append_nil] at e
    rcases h.last e with h | h
    · exact .inl h
    · exact .inr (.inl h)
  · have e2 : us = u' ++ [d] := by simpa using e2
    subst e2
    rw [← List.append_assoc] at e
    rw [← (last_eq e).2]
    exact .inr (.inr (hu d (by simp)))
theorem marks_eq {l : Int} {r s us vs : Nm} (hr : St l r) (hs : St l s) (hu : ∀ x ∈ us, x = 45 ∨ x = 33) (hv : ∀ x ∈ vs, x = 45 ∨ x = 33) (h : r ++ us = s ++ vs) : r = s ∧ us = vs := by
  refine tail_eq (P := fun x => x = 45 ∨ x = 33) hu hv (fun r' c e => ?_) (fun r' c e => ?_) h
  · rcases hr.last e with rfl | rfl <;> decide
  · rcases hs.last e with rfl | rfl <;> decide
theorem ab_mark {c : UInt8} (h : c = 40 ∨ c = 32 ∨ c = 45 ∨ c = 33) : ¬ ab c := by
  intro ha
  have := ab_not ha
  rcases h with rfl | rfl | rfl | rfl
  · exact this.2.2.1 rfl
  · exact this.1 rfl
  · exact this.2.2.2.2 rfl
  · exact this.2.1 rfl
/-- What stands in brackets ends otherwise than a number or a name. -/
theorem brk_atom {X r p : Nm} {d : ET} (hd : rightT d = true) (d2 : d.k ≠ 2) (d3 : d.k ≠ 3) (h : X ++ [41] = r ++ Q d) : False := by
  obtain ⟨h0, h1⟩ := atom_ab hd d2 d3
  rcases List.eq_nil_or_concat (Q d) with e | ⟨q, z, e⟩
  · exact h0 e
  · have e : Q d = q ++ [z] := by simpa using e
    rw [e, ← List.append_assoc] at h
    have hz := h1 z (by rw [e]; simp)
    rw [← (last_eq h).2] at hz
    exact (ab_not hz).2.2.2.1 rfl
theorem same_two {op : Nm} {A A' : Option Addr} {c c' : Nat} {x y x' y' : ET} (hx : sameT x x' = true) (hy : sameT y y' = true) : sameT (.mk 3 op 0 [] [] A c [x, y]) (.mk 3 op 0 [] [] A' c' [x', y']) = true := by
  rw [sameT_eq]
  simp only [ET.k, ET.op, ET.n, ET.v, ET.f, ET.ks, sameLs_cons, sameLs_nil, hx, hy]
  simp [aloneB]
theorem size_two {op : Nm} {A : Option Addr} {c : Nat} {x y : ET} : (ET.mk 3 op 0 [] [] A c [x, y]).size = x.size + y.size + 1 := by rw [size_mk, sizeL_cons, sizeL_cons, sizeL_nil]; omega
theorem sizeP (t : ET) : 1 ≤ t.size := by cases t; rw [size_mk]; omega
/-- What is put of two right ones is alike only if they are the same. -/
theorem put_inj : ∀ (m : Nat) (a b : ET) (l : Int) (r s : Nm), 2 * (a.size + b.size) + (if l = 0 then 0 else 1) ≤ m → rightT a = true → rightT b = true → 0 ≤ l → St l r → St l s → r ++ putT l a = s ++ putT l b → r = s ∧ sameT a b = true := by
  intro m
  induction m with
  | zero =>
    intro a b l r s hm
    have := sizeP a
    omega
  | succ m ih =>
    intro a b l r s hm ha hb hl hr hs h
    -- one of two, and the second one of it held against all of the other
    have clash : ∀ (t u : ET) (p q : Nm), t.size + u.size ≤ a.size + b.size → rightT t = true → rightT u = true → St l p → St l q → opn l t → putT (levB t.op + 1) u = putT l u → p ++ putT l t = q ++ putT l u → False := by
      intro t u p q hsz ht hu hp hq ho hput e
      obtain ⟨op, A, c, x, y, rfl, hop, hx, hy⟩ := two_of ht ho.1
      have hol : l ≤ levB op := ho.2
      rw [put_open hol] at e
      simp only [ET.op] at hput
      rw [← hput, ← List.append_assoc] at e
      rw [size_two] at hsz
      have := ih y u (levB op + 1) (p ++ (putT (levB op) x ++ sp op)) q (by have := sizeP x; split <;> omega) hy hu (by omega) (by rw [← List.append_assoc]; exact St.sp hop (by omega)) (hq.mono (by omega)) e
      rw [← this.1, ← List.append_assoc] at hq
      exact hq.not hop hol
    have shutput : ∀ (u : ET) (l' : Int), rightT u = true → ¬ opn l u → l ≤ l' → putT l' u = putT l u := by
      intro u l' hu ho hl'
      have h1 : u.k ≠ 3 ∨ levB u.op < l := by
        by_cases h3 : u.k = 3
        · exact .inr (by
            have : ¬ l ≤ levB u.op := fun x => ho ⟨h3, x⟩
            omega)
        · exact .inl h3
      rw [put_Q hu h1, put_Q hu (by
        rcases h1 with h | h
        · exact .inl h
        · exact .inr (by omega))]
    by_cases oa : opn l a
    · by_cases ob : opn l b
      · rcases Int.lt_trichotomy (levB a.op) (levB b.op) with hlt | heq | hgt
        · refine (clash a b r s (Nat.le_refl _) ha hb hr hs oa ?_ h).elim
          obtain ⟨op, A, c, x, y, rfl, _⟩ := two_of hb ob.1
          have hlt : levB a.op < levB op := hlt
          have ob2 : l ≤ levB op := ob.2
          rw [put_open ob2, put_open (by omega)]
        · obtain ⟨op, A, c, x, y, rfl, hop, hx, hy⟩ := two_of ha oa.1
          obtain ⟨op', A', c', x', y', rfl, hop', hx', hy'⟩ := two_of hb ob.1
          have heq : levB op = levB op' := heq
          have oa2 : l ≤ levB op := oa.2
          have ob2 : l ≤ levB op' := ob.2
          rw [put_open oa2, put_open ob2, ← heq] at h
          rw [size_two, size_two] at hm
          have hz := lev_le op
          have h1 := ih y y' (levB op + 1) (r ++ (putT (levB op) x ++ sp op)) (s ++ (putT (levB op) x' ++ sp op')) (by split <;> omega) hy hy' (by omega) (by rw [← List.append_assoc]; exact St.sp hop (by omega)) (by rw [← List.append_assoc]; exact St.sp hop' (by omega)) (by simp only [List.append_assoc] at h ⊢; exact h)
          have h2 := h1.1
          rw [← List.append_assoc, ← List.append_assoc] at h2
          obtain ⟨h3, rfl⟩ := sp_eq hop hop' h2
          have h4 := ih x x' (levB op) _ _ (by split <;> omega) hx hx' (by omega) (hr.mono oa2) (hs.mono oa2) h3
          exact ⟨h4.1, same_two h4.2 h1.2⟩
        · refine (clash b a s r (by omega) hb ha hs hr ob ?_ h.symm).elim
          obtain ⟨op, A, c, x, y, rfl, _⟩ := two_of ha oa.1
          have hgt : levB b.op < levB op := hgt
          have oa2 : l ≤ levB op := oa.2
          rw [put_open oa2, put_open (by omega)]
      · exact (clash a b r s (Nat.le_refl _) ha hb hr hs oa (shutput b _ hb ob (by have := oa.2; omega)) h).elim
    · by_cases ob : opn l b
      · exact (clash b a s r (by omega) hb ha hs hr ob (shutput a _ ha oa (by have := ob.2; omega)) h.symm).elim
      · obtain ⟨us, c, hu, hc, c2, e1, z1⟩ := same_un ha oa
        obtain ⟨vs, d, hv, hd, d2, e2, z2⟩ := same_un hb ob
        rw [e1, e2, ← List.append_assoc, ← List.append_assoc] at h
        have su := hu.size
        have sv := hv.size
        have lu : us = [] ∨ 1 ≤ us.length := by cases us <;> simp
        by_cases c3 : c.k = 3
        · by_cases d3 : d.k = 3
          · have q1 : Q c = [40] ++ putT 0 c ++ [41] := by unfold Q; rw [if_pos c3]
            have q2 : Q d = [40] ++ putT 0 d ++ [41] := by unfold Q; rw [if_pos d3]
            rw [q1, q2] at h
            have h : ((r ++ us) ++ [40] ++ putT 0 c) ++ [41] = ((s ++ vs) ++ [40] ++ putT 0 d) ++ [41] := by simpa using h
            have hms : 2 * (c.size + d.size) + (if (0 : Int) = 0 then 0 else 1) ≤ m := by
              rw [if_pos rfl]
              rcases lu with e | e
              · have := z1 c3 e
                rw [if_neg (by omega)] at hm
                omega
              · omega
            have h2 := ih c d 0 _ _ hms hc hd (by omega) (.inr (.inl ⟨_, rfl⟩)) (.inr (.inl ⟨_, rfl⟩)) (last_eq h).1
            have h3 := marks_eq hr hs hu.marks hv.marks (last_eq h2.1).1
            obtain ⟨h4, rfl⟩ := h3
            exact ⟨h4, un_same hu hv h2.2⟩
          · have q1 : Q c = [40] ++ putT 0 c ++ [41] := by unfold Q; rw [if_pos c3]
            rw [q1] at h
            exact (brk_atom (X := (r ++ us) ++ [40] ++ putT 0 c) (p := []) hd d2 d3 (by rw [← h]; simp)).elim
        · by_cases d3 : d.k = 3
          · have q2 : Q d = [40] ++ putT 0 d ++ [41] := by unfold Q; rw [if_pos d3]
            rw [q2] at h
            exact (brk_atom (X := (s ++ vs) ++ [40] ++ putT 0 d) (p := []) hc c2 c3 (by rw [h]; simp)).elim
          · have h2 := tail_eq (P := ab) (atom_ab hc c2 c3).2 (atom_ab hd d2 d3).2 (fun r' x e => ab_mark (mark_last hr hu.marks e)) (fun r' x e => ab_mark (mark_last hs hv.marks e)) h
            have h3 := marks_eq hr hs hu.marks hv.marks h2.1
            obtain ⟨h4, rfl⟩ := h3
            exact ⟨h4, un_same hu hv (atom_eq hc c2 c3 hd d2 d3 h2.2)⟩
/-- The same ones are put alike. -/
theorem put_same : ∀ (m : Nat) (a b : ET) (l : Int), a.size ≤ m → rightT a = true → rightT b = true → sameT a b = true → putT l a = putT l b := by
  intro m
  induction m with
  | zero =>
    intro a b l hm
    have := sizeP a
    omega
  | succ m ih =>
    intro a b l hm ha hb h
    obtain ⟨k, op, n, v, f, A, cap, ks⟩ := a
    obtain ⟨k', op', n', v', f', A', cap', ks'⟩ := b
    rw [sameT_eq, Bool.and_eq_true] at h
    have h0 : k = k' ∧ op = op' ∧ n = n' ∧ v = v' ∧ f = f' ∧ ks.length = ks'.length := of_decide_eq_true h.1
    obtain ⟨rfl, rfl, rfl, rfl, rfl, hlen⟩ := h0
    have hks : sameLs ks ks' = true := h.2
    have ka := right_kids ha
    have kb := right_kids hb
    rw [size_mk] at hm
    rcases one_kinds (right_one ha) with h | h | h | h
    · obtain ⟨rfl, _⟩ := h
      rw [putT_0, putT_0]
    · obtain ⟨rfl, _⟩ := h
      rw [putT_1, putT_1]
    · obtain ⟨rfl, hl, _⟩ := h
      obtain ⟨x, rfl⟩ : ∃ x, ks = [x] := List.length_eq_one_iff.1 hl
      obtain ⟨x', rfl⟩ : ∃ x, ks' = [x] := List.length_eq_one_iff.1 (by omega)
      rw [sizeL_cons, sizeL_nil] at hm
      rw [sameLs_cons, Bool.and_eq_true] at hks
      rw [putT_2, putT_2, ih x x' 7 (by omega) (ka x (by simp)) (kb x' (by simp)) hks.1]
    · obtain ⟨rfl, hl, _⟩ := h
      obtain ⟨x, y, rfl⟩ : ∃ x y, ks = [x, y] := len2 hl
      obtain ⟨x', y', rfl⟩ : ∃ x y, ks' = [x, y] := len2 (by omega)
      rw [sizeL_cons, sizeL_cons, sizeL_nil] at hm
      rw [sameLs_cons, sameLs_cons, Bool.and_eq_true, Bool.and_eq_true] at hks
      have p1 := sizeP x
      have p2 := sizeP y
      rw [putT_3, putT_3, ih x x' _ (by omega) (ka x (by simp)) (kb x' (by simp)) hks.1, ih y y' _ (by omega) (ka y (by simp)) (kb y' (by simp)) hks.2.1]
/-- What is put is alike just if they are the same. -/
theorem put_iff {a b : ET} (ha : rightT a = true) (hb : rightT b = true) : (decide (putT 0 a = putT 0 b)) = sameT a b := by
  cases hs : sameT a b with
  | true => exact decide_eq_true (put_same _ a b 0 (Nat.le_refl _) ha hb hs)
  | false =>
    refine decide_eq_false fun e => ?_
    have := (put_inj _ a b 0 [] [] (Nat.le_refl _) ha hb (Int.le_refl _) (.inl rfl) (.inl rfl) (by simpa using e)).2
    rw [this] at hs
    cases hs
/-- How long it is. -/
theorem brk_len (b : Bool) (l : Nm) : (brk b l).length ≤ l.length + 2 := by
  unfold brk
  split <;> simp
theorem put_len {W : World} : ∀ (m : Nat) (t : ET) (l : Int), t.size ≤ m → rightT t = true → t.In W → (putT l t).length ≤ 60 * t.size := by
  intro m
  induction m with
  | zero =>
    intro t l hm
    have := sizeP t
    omega
  | succ m ih =>
    intro t l hm hr hin
    obtain ⟨k, op, n, v, f, A, cap, ks⟩ := t
    have hk := right_kids hr
    have hok := hin.ok
    rw [ET.In] at hin
    rw [size_mk] at hm ⊢
    rcases one_kinds (right_one hr) with h | h | h | h
    · obtain ⟨rfl, _⟩ := h
      rw [putT_0]
      have := Lib.itoa_length_le n hok.1 hok.2.1
      omega
    · obtain ⟨rfl, _, hv, hf, _⟩ := h
      rw [putT_1]
      have h1 := (name_nb hv).2.1
      have h2 := (name_nb hf).2.1
      simp only [List.length_append, List.length_singleton]
      omega
    · obtain ⟨rfl, hl, ho, _⟩ := h
      obtain ⟨x, rfl⟩ : ∃ x, ks = [x] := List.length_eq_one_iff.1 hl
      have hx : x.In W := (inL_get hin.2 0 (by simp)).2
      rw [sizeL_cons, sizeL_nil] at hm ⊢
      have := ih x 7 (by omega) (hk x (by simp)) hx
      rw [putT_2, List.length_append]
      have : op.length = 1 := by rcases ho with rfl | rfl <;> rfl
      omega
    · obtain ⟨rfl, hl, ho, _⟩ := h
      obtain ⟨x, y, rfl⟩ : ∃ x y, ks = [x, y] := len2 hl
      have hx : x.In W := (inL_get hin.2 0 (by simp)).2
      have hy : y.In W := (inL_get hin.2 1 (by simp)).2
      rw [sizeL_cons, sizeL_cons, sizeL_nil] at hm ⊢
      have p1 := sizeP x
      have p2 := sizeP y
      have h1 := ih x (levB op) (by omega) (hk x (by simp)) hx
      have h2 := ih y (levB op + 1) (by omega) (hk y (by simp)) hy
      have h3 := (lev_op ho).2.1
      rw [putT_3]
      refine Nat.le_trans (brk_len _ _) ?_
      simp only [List.length_append, List.length_singleton]
      omega
end Go.Proofs.YtbdfehgofnomhaaDoor
