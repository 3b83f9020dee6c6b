/- Layer 8: what the chapter's examples make. -/
import Derived.Test.YtbhjimlikffalaaDoorVaEval
import Derived.Test.YtbhjimlikffalaaDoorExTr
namespace Go.Proofs.YtbhjimlikffalaaDoor
open Go.RowKit
set_option linter.unusedVariables false

theorem nums_new (w : World) (l : List Int) (t : TypeId) (hl : l.length ≤ 1000000) : Nums (w.alloc (.cells ((l.map (Value.int .i64)).toArray) t)) (some ⟨w.heap.size, 0, none⟩) l.length l :=
  ⟨lies_new w _ t, (fun h => by cases h), Nat.le_refl _, by unfold maxLen; omega⟩
/-- The cells of two Binds. -/
abbrev bc2 (x y : Bd) : Array Value := #[.string (str x.v), .slice x.A x.fs.length x.c, .slice x.B x.vs.length x.d, .string (str y.v), .slice y.A y.fs.length y.c, .slice y.B y.vs.length y.d]
abbrev bc1 (x : Bd) : Array Value := #[.string (str x.v), .slice x.A x.fs.length x.c, .slice x.B x.vs.length x.d]
theorem bds1 {w : World} {q : Nat} {t : TypeId} {x : Bd} (h : Has w q t (bc1 x)) (h1 : Strs w x.A x.c x.fs) (h2 : Nums w x.B x.d x.vs) : Bds w (some ⟨q, 0, none⟩) 1 [x] := by
  refine ⟨fun i z hz => ?_, (fun h => by cases h), Nat.le_refl _, by unfold maxLen; omega⟩
  rcases i with _ | i
  · simp at hz; subst hz; exact ⟨⟨q, 0, rfl, h.cell 0, h.cell 1, h.cell 2⟩, h1, h2⟩
  · simp at hz
theorem bds2 {w : World} {q : Nat} {t : TypeId} {x y : Bd} (h : Has w q t (bc2 x y)) (h1 : Strs w x.A x.c x.fs) (h2 : Nums w x.B x.d x.vs) (h3 : Strs w y.A y.c y.fs) (h4 : Nums w y.B y.d y.vs) : Bds w (some ⟨q, 0, none⟩) 2 [x, y] := by
  refine ⟨fun i z hz => ?_, (fun h => by cases h), Nat.le_refl _, by unfold maxLen; omega⟩
  rcases i with _ | _ | i
  · simp at hz; subst hz; exact ⟨⟨q, 0, rfl, h.cell 0, h.cell 1, h.cell 2⟩, h1, h2⟩
  · simp at hz; subst hz; exact ⟨⟨q, 0, rfl, h.cell 3, h.cell 4, h.cell 5⟩, h3, h4⟩
  · simp at hz
/-- The examples' Binds. -/
abbrev xb1 (N : Nat) : Bd := ⟨[97], some ⟨N, 0, none⟩, [[120]], 1, some ⟨N + 1, 0, none⟩, [3], 1⟩
abbrev xb2 (N : Nat) : Bd := ⟨[97], some ⟨N + 1 + 1, 0, none⟩, [[121]], 1, some ⟨N + 1 + 1 + 1, 0, none⟩, [4], 1⟩
abbrev exB (w : World) : World := ((((w.alloc (.cells #[.string { data := #[120] }] 9)).alloc (.cells #[.int .i64 3] 2)).alloc (.cells #[.string { data := #[121] }] 9)).alloc (.cells #[.int .i64 4] 2)).alloc (.cells (bc2 (xb1 w.heap.size) (xb2 w.heap.size)) 80)
theorem exB_bds (w : World) : Bds (exB w) (some ⟨w.heap.size + 1 + 1 + 1 + 1, 0, none⟩) 2 [xb1 w.heap.size, xb2 w.heap.size] ∧ Below w.heap.size w (exB w) := by
  have s1 := step1 w (.cells #[.string { data := #[120] }] 9)
  have h1 := strs_new w [[120]] 9 (by simp)
  rw [show ((([[120]] : List Nm).map fun s => Value.string (str s)).toArray) = #[.string { data := #[120] }] from rfl] at h1
  obtain ⟨W1, hW1⟩ : ∃ W, w.alloc (.cells #[.string { data := #[120] }] 9) = W := ⟨_, rfl⟩
  have z1 : W1.heap.size = w.heap.size + 1 := by rw [← hW1]; simp
  rw [hW1] at s1 h1
  have s2 := step1 W1 (.cells #[.int .i64 3] 2)
  have h2 := nums_new W1 [3] 2 (by simp)
  rw [show ((([3] : List Int).map (Value.int .i64)).toArray) = #[.int .i64 3] from rfl, z1] at h2
  obtain ⟨W2, hW2⟩ : ∃ W, W1.alloc (.cells #[.int .i64 3] 2) = W := ⟨_, rfl⟩
  have z2 : W2.heap.size = w.heap.size + 1 + 1 := by rw [← hW2, ← z1]; simp
  rw [hW2] at s2 h2
  have s3 := step1 W2 (.cells #[.string { data := #[121] }] 9)
  have h3 := strs_new W2 [[121]] 9 (by simp)
  rw [show ((([[121]] : List Nm).map fun s => Value.string (str s)).toArray) = #[.string { data := #[121] }] from rfl, z2] at h3
  obtain ⟨W3, hW3⟩ : ∃ W, W2.alloc (.cells #[.string { data := #[121] }] 9) = W := ⟨_, rfl⟩
  have z3 : W3.heap.size = w.heap.size + 1 + 1 + 1 := by rw [← hW3, ← z2]; simp
  rw [hW3] at s3 h3
  have s4 := step1 W3 (.cells #[.int .i64 4] 2)
  have h4 := nums_new W3 [4] 2 (by simp)
  rw [show ((([4] : List Int).map (Value.int .i64)).toArray) = #[.int .i64 4] from rfl, z3] at h4
  obtain ⟨W4, hW4⟩ : ∃ W, W3.alloc (.cells #[.int .i64 4] 2) = W := ⟨_, rfl⟩
  have z4 : W4.heap.size = w.heap.size + 1 + 1 + 1 + 1 := by rw [← hW4, ← z3]; simp
  rw [hW4] at s4 h4
  have s5 := step1 W4 (.cells (bc2 (xb1 w.heap.size) (xb2 w.heap.size)) 80)
  have h5 : Has (W4.alloc (.cells (bc2 (xb1 w.heap.size) (xb2 w.heap.size)) 80)) (w.heap.size + 1 + 1 + 1 + 1) 80 (bc2 (xb1 w.heap.size) (xb2 w.heap.size)) := has_at rfl z4.symm
  have he : exB w = W4.alloc (.cells (bc2 (xb1 w.heap.size) (xb2 w.heap.size)) 80) := by rw [← hW4, ← hW3, ← hW2, ← hW1]
  rw [he]
  have t1' := s1.trans (s2.mono s1.size)
  have t2' := t1'.trans (s3.mono t1'.size)
  have t3' := t2'.trans (s4.mono t2'.size)
  have t4' := t3'.trans (s5.mono t3'.size)
  exact ⟨bds2 h5 ((((h1.below s2).below s3).below s4).below s5) (((h2.below s3).below s4).below s5) ((h3.below s4).below s5) (h4.below s5), t4'⟩
theorem look_x1 (N : Nat) : lookV [xb1 N, xb2 N] [97] [121] = (4, true) := by kernel_rfl
theorem look_x2 (N : Nat) : lookV [xb1 N, xb2 N] [97] [120] = (0, false) := by kernel_rfl
/- The examples' trees. -/
abbrev zr (N : Nat) : ET := .mk 3 [47] 0 [] [] (some ⟨N + 1, 0, none⟩) 2 [nm 1, nm 0]
abbrev isT (N : Nat) : ET := .mk 3 [61, 61] 0 [] [] (some ⟨N + 1 + 1 + 1, 0, none⟩) 2 [zr N, nm 1]
abbrev yesT (N : Nat) : ET := .mk 3 [60] 0 [] [] (some ⟨N + 1 + 1 + 1 + 1 + 1, 0, none⟩) 2 [nm 0, nm 1]
abbrev orT (N : Nat) : ET := .mk 3 [124, 124] 0 [] [] (some ⟨N + 1 + 1 + 1 + 1 + 1 + 1 + 1, 0, none⟩) 2 [yesT N, isT N]
abbrev notT (N : Nat) : ET := .mk 2 [33] 0 [] [] (some ⟨N + 1 + 1 + 1 + 1 + 1 + 1 + 1 + 1 + 1, 0, none⟩) 1 [isT N]
theorem ev_or (N : Nat) : evV [] (orT N) = (1, true) := by kernel_rfl
theorem holds_is (N : Nat) : holdsV [] (isT N) = false := by kernel_rfl
theorem holds_not (N : Nat) : holdsV [] (notT N) = false := by kernel_rfl
theorem holds_or (N : Nat) : holdsV [] (orT N) = true := by kernel_rfl
theorem holds_one : holdsV [] (nm 1) = false := by kernel_rfl
theorem nil64 : Bd64 [] := fun x hx => by cases hx
/-- The memory that the examples' trees lie in. -/
abbrev exT (w : World) : World := ((((((((((w.alloc (.cells (cs1 (nm 1)) 24)).alloc (.cells (cs2 (nm 1) (nm 0)) 24)).alloc (.cells (cs1 (zr w.heap.size)) 24)).alloc (.cells (cs2 (zr w.heap.size) (nm 1)) 24)).alloc (.cells (cs1 (isT w.heap.size)) 24)).alloc (.cells (cs2 (nm 0) (nm 1)) 24)).alloc (.cells (cs1 (yesT w.heap.size)) 24)).alloc (.cells (cs2 (yesT w.heap.size) (isT w.heap.size)) 24)).alloc (.cells (cs1 (orT w.heap.size)) 24)).alloc (.cells (cs1 (isT w.heap.size)) 24)).alloc (.cells (cs1 (notT w.heap.size)) 24)
/-- What the walk needs of it. -/
structure Pk8 (N : Nat) (w : World) : Prop where
  is_ : ET.In w (isT N)
  or_ : ET.In w (orT N)
  not_ : ET.In w (notT N)
  h1 : Has w N 24 (cs1 (nm 1))
  hi : Has w (N + 1 + 1 + 1 + 1) 24 (cs1 (isT N))
  ho : Has w (N + 1 + 1 + 1 + 1 + 1 + 1 + 1 + 1) 24 (cs1 (orT N))
  hn : Has w (N + 1 + 1 + 1 + 1 + 1 + 1 + 1 + 1 + 1 + 1) 24 (cs1 (notT N))
  tabs : Tabs8 w
theorem Pk8.below {N : Nat} {w w' : World} (h : Pk8 N w) (hb : Below w.heap.size w w') : Pk8 N w' :=
  ⟨h.is_.below hb, h.or_.below hb, h.not_.below hb, h.h1.below hb h.h1.lt, h.hi.below hb h.hi.lt, h.ho.below hb h.ho.lt, h.hn.below hb h.hn.lt, h.tabs.below hb⟩
theorem exT_pk (w : World) (hT : Tabs8 w) : Pk8 w.heap.size (exT w) ∧ Below w.heap.size w (exT w) := by
  have key : ∀ (W : World) (k : Nat) (o : Obj) (cs : Array Value), W.heap.size = w.heap.size + k → Below w.heap.size w W → o = .cells cs 24 (0, 0) → ∃ W', W.alloc o = W' ∧ W'.heap.size = w.heap.size + k + 1 ∧ Below w.heap.size w W' ∧ Below W.heap.size W W' ∧ Has W' (w.heap.size + k) 24 cs := by
    intro W k o cs hs hb ho
    exact ⟨_, rfl, by simp [hs], hb.trans ((step1 W o).mono hb.size), step1 W o, has_at ho hs.symm⟩
  obtain ⟨W1, e1, z1, b1, s1, h1⟩ := key w 0 (.cells (cs1 (nm 1)) 24) _ rfl (Below.refl _ _) rfl
  obtain ⟨W2, e2, z2, b2, s2, h2⟩ := key W1 1 (.cells (cs2 (nm 1) (nm 0)) 24) _ z1 b1 rfl
  have i2 : ET.In W2 (zr w.heap.size) := in2 3 [47] 0 [] [] 2 h2 (in_nm _ _ (by omega) (by omega)) (in_nm _ _ (by omega) (by omega)) (okE_small _ _ _ _ (by simp) (by omega) (by omega))
  obtain ⟨W3, e3, z3, b3, s3, h3⟩ := key W2 2 (.cells (cs1 (zr w.heap.size)) 24) _ z2 b2 rfl
  obtain ⟨W4, e4, z4, b4, s4, h4⟩ := key W3 3 (.cells (cs2 (zr w.heap.size) (nm 1)) 24) _ z3 b3 rfl
  have i4 : ET.In W4 (isT w.heap.size) := in2 3 [61, 61] 0 [] [] 2 h4 ((i2.below s3).below s4) (in_nm _ _ (by omega) (by omega)) (okE_small _ _ _ _ (by simp) (by omega) (by omega))
  obtain ⟨W5, e5, z5, b5, s5, h5⟩ := key W4 4 (.cells (cs1 (isT w.heap.size)) 24) _ z4 b4 rfl
  obtain ⟨W6, e6, z6, b6, s6, h6⟩ := key W5 5 (.cells (cs2 (nm 0) (nm 1)) 24) _ z5 b5 rfl
  have i6 : ET.In W6 (yesT w.heap.size) := in2 3 [60] 0 [] [] 2 h6 (in_nm _ _ (by omega) (by omega)) (in_nm _ _ (by omega) (by omega)) (okE_small _ _ _ _ (by simp) (by omega) (by omega))
  obtain ⟨W7, e7, z7, b7, s7, h7⟩ := key W6 6 (.cells (cs1 (yesT w.heap.size)) 24) _ z6 b6 rfl
  obtain ⟨W8, e8, z8, b8, s8, h8⟩ := key W7 7 (.cells (cs2 (yesT w.heap.size) (isT w.heap.size)) 24) _ z7 b7 rfl
  have j8 := ((((i4.below s5).below s6).below s7).below s8)
  have i8 : ET.In W8 (orT w.heap.size) := in2 3 [124, 124] 0 [] [] 2 h8 ((i6.below s7).below s8) j8 (okE_small _ _ _ _ (by simp) (by omega) (by omega))
  obtain ⟨W9, e9, z9, b9, s9, h9⟩ := key W8 8 (.cells (cs1 (orT w.heap.size)) 24) _ z8 b8 rfl
  obtain ⟨Wa, ea, za, ba, sa, ha⟩ := key W9 9 (.cells (cs1 (isT w.heap.size)) 24) _ z9 b9 rfl
  have ja := (j8.below s9).below sa
  have ia : ET.In Wa (notT w.heap.size) := in1 2 [33] 0 [] [] 1 ha ja (okE_small _ _ _ _ (by simp) (by omega) (by omega))
  obtain ⟨Wb, eb, zb, bb, sb, hb⟩ := key Wa 10 (.cells (cs1 (notT w.heap.size)) 24) _ za ba rfl
  have he : exT w = Wb := by rw [← eb, ← ea, ← e9, ← e8, ← e7, ← e6, ← e5, ← e4, ← e3, ← e2, ← e1]
  rw [he]
  have up : ∀ {X : World} {q : Nat} {t : TypeId} {cs : Array Value}, Below w.heap.size w X → Has X q t cs → Below X.heap.size X Wb → Has Wb q t cs := fun _ h hb => h.below hb h.lt
  have f5 : Below W5.heap.size W5 Wb := by
    have r6 := s6.trans (s7.mono s6.size)
    have r7 := r6.trans (s8.mono r6.size)
    have r8 := r7.trans (s9.mono r7.size)
    have r9 := r8.trans (sa.mono r8.size)
    exact r9.trans (sb.mono r9.size)
  have f9 : Below W9.heap.size W9 Wb := sa.trans (sb.mono sa.size)
  have f1 : Below W1.heap.size W1 Wb := by
    have r2 := s2.trans (s3.mono s2.size)
    have r3 := r2.trans (s4.mono r2.size)
    have r4 := r3.trans (s5.mono r3.size)
    exact r4.trans (f5.mono r4.size)
  exact ⟨⟨ja.below sb, ((i8.below s9).below sa).below sb, ia.below sb, up b1 h1 f1, up b5 h5 f5, up b9 h9 f9, hb, hT.below bb⟩, bb⟩
end Go.Proofs.YtbhjimlikffalaaDoor
