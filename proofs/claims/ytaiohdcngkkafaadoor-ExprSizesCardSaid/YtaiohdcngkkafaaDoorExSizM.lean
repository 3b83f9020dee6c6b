/- ExprSizes without the walk: the slice of Kids that is made by two appends; what is none with one more. -/
import Derived.Test.YtaiohdcngkkafaaDoorExTypM
import Derived.Test.YtaiohdcngkkafaaDoorAppStep
import Derived.Test.YtaiohdcngkkafaaDoorExSame
import Derived.Test.YtaiohdcngkkafaaDoorExSize
namespace Go.Proofs.YtaiohdcngkkafaaDoor
open Go.RowKit
set_option linter.unusedVariables false

/-- An expression's cells. -/
def ec (x : ET) : List Value := [.int .i64 x.k, .string (str x.op), .int .i64 x.n, .string (str x.v), .string (str x.f), .slice x.A x.ks.length x.c]
def kcells (z : List ET) : List Value := z.flatMap ec
theorem kcells_snoc (l : List ET) (x : ET) : kcells (l ++ [x]) = kcells l ++ ec x := by simp [kcells]
theorem kcells_len (l : List ET) : (kcells l).length = l.length * 6 := by
  induction l with
  | nil => rfl
  | cons b r ih =>
    have e : kcells (b :: r) = ec b ++ kcells r := rfl
    rw [e, List.length_append, ih, List.length_cons]
    have : (ec b).length = 6 := rfl
    omega
theorem kcells_get {l : List ET} {i r : Nat} {x : ET} (hi : l[i]? = some x) (hr : r < 6) : (kcells l)[i * 6 + r]? = (ec x)[r]? := by
  induction l generalizing i with
  | nil => simp at hi
  | cons b t ih =>
    have e : kcells (b :: t) = ec b ++ kcells t := rfl
    have hl : (ec b).length = 6 := rfl
    cases i with
    | zero =>
      simp at hi
      subst hi
      rw [e, Nat.zero_mul, Nat.zero_add, List.getElem?_append_left (by omega)]
    | succ i =>
      have h1 := ih (i := i) (by simpa using hi)
      rw [e, List.getElem?_append_right (by omega), hl, show (i + 1) * 6 + r - 6 = i * 6 + r by omega]
      exact h1
theorem kcells_at {l : List ET} {j : Nat} {u : Value} (h : (kcells l)[j]? = some u) : ∃ i r x, l[i]? = some x ∧ r < 6 ∧ j = i * 6 + r ∧ (ec x)[r]? = some u := by
  have hlt : j < l.length * 6 := by
    have := (List.getElem?_eq_some_iff.1 h).1
    rwa [kcells_len] at this
  have hi : j / 6 < l.length := by omega
  refine ⟨j / 6, j % 6, l[j / 6], List.getElem?_eq_getElem hi, by omega, by omega, ?_⟩
  rw [← kcells_get (List.getElem?_eq_getElem hi) (by omega), show j / 6 * 6 + j % 6 = j by omega]
  exact h
theorem kcells_one (l : List ET) : ∀ u ∈ kcells l, u.oneCell' = true := by
  intro u hu
  simp only [kcells, List.mem_flatMap] at hu
  obtain ⟨x, _, hx⟩ := hu
  simp [ec] at hx
  rcases hx with rfl | rfl | rfl | rfl | rfl | rfl <;> rfl
theorem info_expr : (Tryd.prog.info? 24).map (fun i => (i.zero, i.size, i.bytes)) = some (some (.agg #[.int .i64 0, .string { data := #[] }, .int .i64 0, .string { data := #[] }, .string { data := #[] }, .slice none 0 0]), 6, 88) := by kernel_rfl
theorem cell_six {w : World} {A : Option Addr} {i r : Nat} {x : ET} {u : Value} (h : CellsAt w A i x) (hr : r < 6) (hu : (ec x)[r]? = some u) : ∃ b off, A = some ⟨b, off, none⟩ ∧ w.cell? ⟨b, off + (i * 6 + r), none⟩ = some u := by
  obtain ⟨b, off, rfl, g0, g1, g2, g3, g4, g5⟩ := h
  refine ⟨b, off, rfl, ?_⟩
  match r, hr with
  | 0, _ => simp [ec] at hu; subst hu; exact g0
  | 1, _ => simp [ec] at hu; subst hu; exact g1
  | 2, _ => simp [ec] at hu; subst hu; exact g2
  | 3, _ => simp [ec] at hu; subst hu; exact g3
  | 4, _ => simp [ec] at hu; subst hu; exact g4
  | 5, _ => simp [ec] at hu; subst hu; exact g5
theorem info_parts6 {e : TypeId} {z : Value} {s b : Nat} (h : (Tryd.prog.info? e).map (fun i => (i.zero, i.size, i.bytes)) = some (some z, s, b)) : ∃ i, Tryd.prog.info? e = some i ∧ i.zero = some z ∧ i.size = s ∧ i.bytes = b := by
  cases hi : Tryd.prog.info? e with
  | none => rw [hi] at h; cases h
  | some i => rw [hi] at h; simp at h; exact ⟨i, rfl, h.1, h.2.1, h.2.2⟩
theorem own_belowE {w w' : World} {base : Nat} {e : TypeId} {s n : Nat} {v : Value} {xs : List Value} (h : w.ownsRow base e s v n xs) (hb : Below w.heap.size w w') : w'.ownsRow base e s v n xs :=
  h.kept (row := none) ⟨hb.os, hb.tape, hb.output, hb.size, fun k hk _ => hb.block k hk⟩ (by cases v.ownBlock with | none => exact .inl rfl | some k => exact .inr (by simp))
/-- The first append: the Kids of a tree, onto none. -/
theorem app_kids {W : World} {t : ET} (h : t.In W) (h0 : 0 < t.ks.length) (h1 : t.ks.length ≤ 2) :
    ∃ v' w', (Builtin.append_ #[22, 22] 22 #[.slice none 0 0, .slice t.A t.ks.length t.c]).run Tryd.prog W = .ok v' w' ∧ w'.ownsRow W.heap.size 24 6 v' t.ks.length (kcells t.ks) ∧ Below W.heap.size W w' := by
  obtain ⟨k, op, n, v, f, A, c, ks⟩ := t
  obtain ⟨i0, hi, hz0, hz1, hz2⟩ := info_parts6 info_expr
  have hk := h.kids
  obtain ⟨⟨b, off, hA, -⟩, -⟩ := hk 0 h0
  subst hA
  obtain ⟨v', w', r1, r2, r3, _, r4⟩ := run_append_own_at (P := Tryd.prog) W W.heap.size 22 22 24 i0 (.agg #[.int .i64 0, .string { data := #[] }, .int .i64 0, .string { data := #[] }, .string { data := #[] }, .slice none 0 0]) 6 88 Tryd.underlying22 hi hz0 hz1 hz2 rfl (by omega) (.slice none 0 0) 0 [] (World.ownsRow_nil W _ _ 6)
    ⟨b, off, none⟩ ks.length c (kcells ks) (kcells_len ks) (fun j u hu => by
      obtain ⟨i, r, x, hx, hr, rfl, hu⟩ := kcells_at hu
      obtain ⟨hil, rfl⟩ := List.getElem?_eq_some_iff.1 hx
      obtain ⟨b', off', e, hc⟩ := cell_six (hk i hil).1 hr hu
      cases e
      rw [Go.WideShapes.add_plain]
      exact hc) (kcells_one ks) (by have : ks.length ≤ 2 := h1; unfold maxLen; omega) (by have : ks.length ≤ 2 := h1; omega) (Nat.le_refl _)
  refine ⟨v', w', r1, by rw [List.nil_append, Nat.zero_add] at r2; exact r2, (Below.refl _ _).grown r3 (Nat.le_refl _) (fun j hj => by cases hj)⟩
/-- The second: a number, onto these. -/
theorem app_one {w : World} {base q : Nat} {v : Value} {l : List ET} {x : ET} (h : w.ownsRow base 24 6 v l.length (kcells l)) (hq : Has w q 24 (cs1 x)) (hb : base ≤ w.heap.size) (h1 : l.length ≤ 2) :
    ∃ v' w', (Builtin.append_ #[22, 22] 22 #[v, .slice (some ⟨q, 0, none⟩) 1 1]).run Tryd.prog w = .ok v' w' ∧ w'.ownsRow base 24 6 v' (l ++ [x]).length (kcells (l ++ [x])) ∧ Below base w w' := by
  obtain ⟨i0, hi, hz0, hz1, hz2⟩ := info_parts6 info_expr
  obtain ⟨v', w', r1, r2, r3, _, r4⟩ := run_append_own_at (P := Tryd.prog) w base 22 22 24 i0 (.agg #[.int .i64 0, .string { data := #[] }, .int .i64 0, .string { data := #[] }, .string { data := #[] }, .slice none 0 0]) 6 88 Tryd.underlying22 hi hz0 hz1 hz2 rfl (by omega) v l.length (kcells l) h
    ⟨q, 0, none⟩ 1 1 (ec x) rfl (fun j u hu => by
      rw [Go.WideShapes.add_plain, Nat.zero_add, hq.cell j]
      simpa [ec, cs1] using hu) (by intro u hu; simp [ec] at hu; rcases hu with rfl | rfl | rfl | rfl | rfl | rfl <;> rfl) (by unfold maxLen; omega) (by omega) hb
  refine ⟨v', w', r1, by rw [kcells_snoc]; simpa using r2, (Below.refl _ _).grown r3 (by omega) (fun j hj => (h.lt j hj).1)⟩
theorem ew_shape {w : World} {base : Nat} {v : Value} {l : List ET} (h : w.ownsRow base 24 6 v l.length (kcells l)) (hl : 0 < l.length) : ∃ g c, v = .slice (some ⟨g, 0, none⟩) l.length c ∧ base ≤ g ∧ g < w.heap.size ∧ l.length ≤ c ∧ c ≤ maxLen ∧ ∀ j (h : j < l.length), CellsAt w (some ⟨g, 0, none⟩) j l[j] := by
  have h2 := h
  rcases h.2 with ⟨rfl, h0⟩ | ⟨g, cap, cur, rfl, hg, hh, hn, hm, _, _⟩
  · omega
  · refine ⟨g, cap, rfl, hg, (h2.lt g rfl).2, hn, hm, fun j hj => ?_⟩
    have gx : ∀ r u, r < 6 → (ec l[j])[r]? = some u → w.cell? ⟨g, 0 + (j * 6 + r), none⟩ = some u := fun r u hr hu => by
      have := h2.cells (g := g) rfl (j * 6 + r) u ((kcells_get (List.getElem?_eq_getElem hj) hr).trans hu)
      rwa [Go.WideShapes.add_plain] at this
    exact ⟨g, 0, rfl, gx 0 _ (by omega) rfl, gx 1 _ (by omega) rfl, gx 2 _ (by omega) rfl, gx 3 _ (by omega) rfl, gx 4 _ (by omega) rfl, gx 5 _ (by omega) rfl⟩
/-- With one more. -/
def moreT (t : ET) (g c : Nat) : ET := .mk t.k t.op t.n t.v t.f (some ⟨g, 0, none⟩) c (t.ks ++ [nm 1])
theorem more_in {w : World} {t : ET} {g c : Nat} (h : t.In w) (hc : ∀ j (h : j < (t.ks ++ [nm 1]).length), CellsAt w (some ⟨g, 0, none⟩) j (t.ks ++ [nm 1])[j]) (h1 : (t.ks ++ [nm 1]).length ≤ c) (h2 : c ≤ maxLen) : (moreT t g c).In w := by
  obtain ⟨k, op, n, v, f, A, c0, ks⟩ := t
  have ho := h.ok
  refine .of ⟨ho.1, ho.2.1, ho.2.2.1, ho.2.2.2.1, ho.2.2.2.2.1, (fun h => by cases h), h1, h2⟩ fun j hj => ⟨hc j hj, ?_⟩
  by_cases hj2 : j < ks.length
  · have := (h.kids j hj2).2
    simpa [List.getElem_append_left hj2, ET.ks] using this
  · have hj' : j < (ks ++ [nm 1]).length := hj
    simp only [List.length_append, List.length_cons, List.length_nil] at hj'
    have hj3 : j = ks.length := by omega
    subst hj3
    simpa [ET.ks] using in_nm w 1 (by omega) (by omega)
/-- A truth that is right: no number, no Ref; its Kids. -/
theorem truth_of {t : ET} (hr : rightT t = true) (ht : typT t = 2) : (t.k = 2 ∧ t.ks.length = 1 ∨ t.k = 3 ∧ t.ks.length = 2) ∧ t.n = 0 ∧ ∀ x ∈ t.ks, rightT x = true := by
  obtain ⟨k, op, n, v, f, A, c, ks⟩ := t
  refine ⟨?_, ?_, right_kids hr⟩
  · rcases one_kinds (right_one hr) with ⟨h1, h2, h3, rfl, h5, h6⟩ | ⟨h1, h2, h3, h4, rfl, h6⟩ | ⟨h1, h2, _⟩ | ⟨h1, h2, _⟩
    · obtain rfl : ks = [] := by simpa using h2
      rw [typ_nil] at ht
      cases ht
    · obtain rfl : ks = [] := by simpa using h2
      rw [typ_nil] at ht
      cases ht
    · exact .inl ⟨h1, h2⟩
    · exact .inr ⟨h1, h2⟩
  · rcases one_kinds (right_one hr) with ⟨h1, h2, h3, rfl, h5, h6⟩ | ⟨h1, h2, h3, h4, rfl, h6⟩ | ⟨h1, h2, h3, h4, _⟩ | ⟨h1, h2, h3, h4, _⟩
    · obtain rfl : ks = [] := by simpa using h2
      rw [typ_nil] at ht
      cases ht
    · exact h6
    · exact h4
    · exact h4
theorem more_wrong {t : ET} {g c : Nat} (hr : rightT t = true) : rightT (moreT t g c) = false := by
  obtain ⟨k, op, n, v, f, A, c0, ks⟩ := t
  cases hm : rightT (moreT (.mk k op n v f A c0 ks) g c) with
  | false => rfl
  | true =>
    have h1 := one_kinds (right_one hr)
    have h2 := one_kinds (right_one hm)
    simp only [ET.ks, ET.k, List.length_append, List.length_cons, List.length_nil] at h2
    omega
theorem odd_wrong {t : ET} (hr : rightT t = true) (ht : typT t = 2) : rightT (.mk t.k t.op 1 t.v t.f t.A t.c t.ks) = false := by
  cases hm : rightT (.mk t.k t.op 1 t.v t.f t.A t.c t.ks) with
  | false => rfl
  | true =>
    have h1 := truth_of hr ht
    have h2 := one_kinds (right_one hm)
    omega
theorem more_other (t : ET) (g c : Nat) : sameT t (moreT t g c) = false := by
  obtain ⟨k, op, n, v, f, A, c0, ks⟩ := t
  rw [sameT_eq]
  have : aloneB k op n v f ks.length (moreT (.mk k op n v f A c0 ks) g c).k (moreT (.mk k op n v f A c0 ks) g c).op (moreT (.mk k op n v f A c0 ks) g c).n (moreT (.mk k op n v f A c0 ks) g c).v (moreT (.mk k op n v f A c0 ks) g c).f (moreT (.mk k op n v f A c0 ks) g c).ks.length = false := by
    simp [moreT, aloneB, ET.ks, ET.k, ET.op, ET.n, ET.v, ET.f]
  rw [this, Bool.false_and]
theorem sizeL_take {ks : List ET} {j : Nat} (h : j < ks.length) : sizeL (ks.take (j + 1)) = sizeL (ks.take j) + (ks[j]'h).size := by
  induction ks generalizing j with
  | nil => simp at h
  | cons x xs ih =>
    cases j with
    | zero => simp [sizeL_cons, sizeL_nil]
    | succ j =>
      have := ih (j := j) (by simpa using h)
      simp only [List.take_succ_cons, sizeL_cons, List.getElem_cons_succ] at this ⊢
      omega
theorem sizeL_take_le (ks : List ET) (j : Nat) : sizeL (ks.take j) ≤ sizeL ks := by
  induction ks generalizing j with
  | nil => simp
  | cons x xs ih =>
    cases j with
    | zero => simp [sizeL_nil]
    | succ j =>
      have := ih j
      simp only [List.take_succ_cons, sizeL_cons]
      omega
theorem six_has' {w : World} {q : Nat} {t : TypeId} {u0 u1 u2 u3 u4 u5 : Value} (h : Has w q t #[u0, u1, u2, u3, u4, u5]) : w.cell? ⟨q, 0, none⟩ = some u0 ∧ w.cell? ⟨q, 1, none⟩ = some u1 ∧ w.cell? ⟨q, 2, none⟩ = some u2 ∧ w.cell? ⟨q, 3, none⟩ = some u3 ∧ w.cell? ⟨q, 4, none⟩ = some u4 ∧ w.cell? ⟨q, 5, none⟩ = some u5 :=
  ⟨h.cell 0, h.cell 1, h.cell 2, h.cell 3, h.cell 4, h.cell 5⟩
theorem size_le {t x : ET} (h : x ∈ t.ks) : x.size < t.size := by
  obtain ⟨k, op, n, v, f, A, c0, ks⟩ := t
  rw [size_mk]
  have : ∀ l : List ET, x ∈ l → x.size ≤ sizeL l := by
    intro l
    induction l with
    | nil => intro h; cases h
    | cons y ys ih =>
      intro h
      rw [sizeL_cons]
      rcases List.mem_cons.1 h with rfl | h
      · omega
      · have := ih h; omega
  have := this ks h
  omega
end Go.Proofs.YtaiohdcngkkafaaDoor
