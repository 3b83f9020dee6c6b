/- Layer 7: Right: each on its own. -/
import Derived.Test.YtbdfehgofnomhaaDoorExIsName
import Derived.Deep.RegionHeld3
namespace Go.Proofs.YtbdfehgofnomhaaDoor
open Go.RowKit
set_option linter.unusedVariables false

/-- Is all that is not said of its Kind nothing? -/
def bareB (k : Int) (op : Nm) (n : Int) (v f : Nm) (m : Nat) : Bool :=
  if k = 0 then decide (op = [] ∧ v = [] ∧ f = [] ∧ m = 0) else if k = 1 then decide (op = [] ∧ n = 0 ∧ m = 0) else if k = 2 ∨ k = 3 then decide (n = 0 ∧ v = [] ∧ f = []) else false
/-- Is one right, its Kids aside? -/
def oneB (k : Int) (op : Nm) (n : Int) (v f : Nm) (m : Nat) : Bool :=
  bareB k op n v f m && (if k = 0 then decide (0 ≤ n) else if k = 1 then nameB v && nameB f else if k = 2 then (op == [45] || op == [33]) && decide (m = 1) else if k = 3 then decide (levB op ≠ 0) && decide (m = 2) else false)
theorem said_alone (k : Int) (op : Nm) (n : Int) (v f : Nm) (A : Option Addr) (m c : Nat) : ∃ (k' : Int) (op' : Nm) (n' : Int) (v' f' : Nm) (A' : Option Addr) (m' c' : Nat),
    saidV k op n v f A m c = ex k' op' n' v' f' A' m' c' ∧ aloneB k op n v f m k' op' n' v' f' m' = bareB k op n v f m := by
  by_cases h0 : k = 0
  · subst h0
    exact ⟨0, [], n, [], [], none, 0, 0, by rw [saidV, if_pos rfl], by rw [bareB, if_pos rfl, aloneB]; simp⟩
  by_cases h1 : k = 1
  · subst h1
    exact ⟨1, [], 0, v, f, none, 0, 0, by rw [saidV, if_neg h0, if_pos rfl], by rw [bareB, if_neg h0, if_pos rfl, aloneB]; simp⟩
  by_cases h2 : k = 2 ∨ k = 3
  · exact ⟨k, op, 0, [], [], A, m, c, by rw [saidV, if_neg h0, if_neg h1, if_pos h2], by rw [bareB, if_neg h0, if_neg h1, if_pos h2, aloneB]; simp⟩
  · exact ⟨0, [], 0, [], [], none, 0, 0, by rw [saidV, if_neg h0, if_neg h1, if_neg h2], by rw [bareB, if_neg h0, if_neg h1, if_neg h2, aloneB]; simp [h0]⟩
def six (w : World) (q : Nat) (k : Int) (op : Nm) (n : Int) (v f : Nm) (A : Option Addr) (m c : Nat) : Prop :=
  w.cell? ⟨q, 0, none⟩ = some (.int .i64 k) ∧ w.cell? ⟨q, 1, none⟩ = some (.string (str op)) ∧ w.cell? ⟨q, 2, none⟩ = some (.int .i64 n) ∧ w.cell? ⟨q, 3, none⟩ = some (.string (str v)) ∧ w.cell? ⟨q, 4, none⟩ = some (.string (str f)) ∧ w.cell? ⟨q, 5, none⟩ = some (.slice A m c)
theorem six_has {w : World} {q : Nat} {k : Int} {op : Nm} {n : Int} {v f : Nm} {A : Option Addr} {m c : Nat} {t : TypeId} (h : Has w q t #[.int .i64 k, .string (str op), .int .i64 n, .string (str v), .string (str f), .slice A m c]) : six w q k op n v f A m c :=
  ⟨h.cell 0, h.cell 1, h.cell 2, h.cell 3, h.cell 4, h.cell 5⟩
theorem six_below {w w' : World} {q : Nat} {k : Int} {op : Nm} {n : Int} {v f : Nm} {A : Option Addr} {m c : Nat} (h : six w q k op n v f A m c) (hb : Below w.heap.size w w') : six w' q k op n v f A m c := by
  have hq := World.block_lt_of_cell? _ _ h.1
  obtain ⟨h0, h1, h2, h3, h4, h5⟩ := h
  exact ⟨(hb.cell (p := ⟨q, 0, none⟩) hq).trans h0, (hb.cell (p := ⟨q, 1, none⟩) hq).trans h1, (hb.cell (p := ⟨q, 2, none⟩) hq).trans h2, (hb.cell (p := ⟨q, 3, none⟩) hq).trans h3, (hb.cell (p := ⟨q, 4, none⟩) hq).trans h4, (hb.cell (p := ⟨q, 5, none⟩) hq).trans h5⟩
set_option maxHeartbeats 4000000 in
theorem right1_any (k : Int) (op : Nm) (n : Int) (v f : Nm) (A : Option Addr) (m c : Nat) (w : World) (hT : Tabs8 w) (hv : v.length ≤ 140737488355328) (hf : f.length ≤ 140737488355328) :
    Calls Tryd.prog 74 #[ex k op n v f A m c] w fun e w' => e = .returned (.bool (oneB k op n v f m)) ∧ Below w.heap.size w w' := by
  obtain ⟨k', op', n', v', f', A', m', c', e1, e2⟩ := said_alone k op n v f A m c
  obtain ⟨R, hR⟩ : ∃ R, oneB k op n v f m = R := ⟨_, rfl⟩
  obtain ⟨ab, hab⟩ : ∃ R, bareB k op n v f m = R := ⟨_, rfl⟩
  rw [hR]
  rw [hab] at e2
  rw [oneB, hab] at hR
  obtain ⟨W, hW⟩ : ∃ W, W = w.alloc (.cells #[.int .i64 k, .string (str op), .int .i64 n, .string (str v), .string (str f), .slice A m c] 47) := ⟨_, rfl⟩
  have hx : Has W w.heap.size 47 #[.int .i64 k, .string (str op), .int .i64 n, .string (str v), .string (str f), .slice A m c] := by rw [hW]; exact heap_alloc_new w _
  have bl : Below w.heap.size w W := by rw [hW]; exact (Below.refl _ _).alloc (Nat.le_refl _) _
  have cS : ∀ u : World, Calls Tryd.prog 75 #[.agg #[.int .i64 k, .string (str op), .int .i64 n, .string (str v), .string (str f), .slice A m c]] u fun e w' => e = .returned (.agg #[.int .i64 k', .string (str op'), .int .i64 n', .string (str v'), .string (str f'), .slice A' m' c']) ∧ Below u.heap.size u w' := fun u => by
    have := said_any k op n v f A m c u
    rwa [e1] at this
  have cA : ∀ u : World, Calls Tryd.prog 64 #[.agg #[.int .i64 k, .string (str op), .int .i64 n, .string (str v), .string (str f), .slice A m c], .agg #[.int .i64 k', .string (str op'), .int .i64 n', .string (str v'), .string (str f'), .slice A' m' c']] u fun e w' => e = .returned (.bool ab) ∧ Below u.heap.size u w' := fun u => by
    have := alone_any k op n v f A m c k' op' n' v' f' A' m' c' u
    rwa [e2] at this
  have HS := Lib.hid cS
  have HA := Lib.hid cA
  have HB := Lib.hid bl
  have HR := Lib.hid hR
  have HT := Lib.hid (hT.below bl)
  have H6 := Lib.hid (six_has hx)
  obtain ⟨c0, c1, c2, c3, c4, c5⟩ := six_has hx
  have HW := Lib.hid hW
  clear cS cA bl hR hx e1 e2 hab hT hW
  unfold ex
  go_enter Tryd.func74, Tryd.ntmps74
  go_wp2_with fail
  rw [← HW.out]
  go_region_held3 (fun w' => w'.cell? ⟨w.heap.size, 0, none⟩ = some (.int .i64 k) ∧ w'.cell? ⟨w.heap.size, 1, none⟩ = some (.string (str op)) ∧ w'.cell? ⟨w.heap.size, 2, none⟩ = some (.int .i64 n) ∧ w'.cell? ⟨w.heap.size, 3, none⟩ = some (.string (str v)) ∧ w'.cell? ⟨w.heap.size, 4, none⟩ = some (.string (str f)) ∧ w'.cell? ⟨w.heap.size, 5, none⟩ = some (.slice A m c))
    (first | exact K4.out | exact K3.out | exact ⟨c0, c1, c2, c3, c4, c5⟩)
    (first
      | (go_at_call 75; refine (HS.out _).mono ?_; rintro e w3 ⟨rfl, b3'⟩; have b3 : Below W.heap.size W w3 := (Below.refl _ W).drew.trans b3'; have K3 := Lib.hid (six_below H6.out b3); clear b3')
      | (go_at_call 64; refine (HA.out _).mono ?_; rintro e w4 ⟨rfl, b4'⟩; have b4 : Below W.heap.size W w4 := b3.trans (b4'.mono b3.size); have K4 := Lib.hid (six_below H6.out b4); clear b4'))
  have HB4 := Lib.hid (HB.out.trans (b4.mono HB.out.size))
  have HT4 := Lib.hid (HT.out.below b4)
  clear K3 b3 c0 c1 c2 c3 c4 c5 b4 H6 HT HB HA HS HW
  obtain ⟨c0, c1, c2, c3, c4, c5⟩ := K4.out
  cases ab with
  | false =>
    go_wp2_with fail
    go_ret
    exact ⟨ret_bool (by rw [← HR.out]; rfl), HB4.out⟩
  | true =>
  by_cases h0 : k = 0
  · subst h0
    have hR := HR.out
    rw [if_pos rfl, Bool.true_and] at hR
    have HR2 := Lib.hid hR
    clear hR HR
    go_wp2_with fail
    all_goals go_ret
    all_goals exact ⟨ret_bool (by rw [← HR2.out]), HB4.out⟩
  by_cases h1 : k = 1
  · subst h1
    have hR := HR.out
    rw [if_neg h0, if_pos rfl, Bool.true_and] at hR
    have HR2 := Lib.hid hR
    clear hR HR h0
    have HN1 := Lib.hid (isName_any v w4 (by omega) HT4.out)
    cases hnv : nameB v with
    | false =>
      rw [hnv] at HR2 HN1
      go_wp2_with (go_at_call 19; refine HN1.out.mono ?_; rintro e w5 ⟨rfl, b5⟩)
      go_ret
      exact ⟨ret_bool (by rw [← HR2.out]; rfl), HB4.out.trans (b5.mono HB4.out.size)⟩
    | true =>
      rw [hnv] at HR2 HN1
      go_wp2_with fail
      refine HN1.out.mono ?_
      rintro e w5 ⟨rfl, b5⟩
      have HN2 := Lib.hid (isName_any f w5 (by omega) (HT4.out.below b5))
      have HB5 := Lib.hid (HB4.out.trans (b5.mono HB4.out.size))
      obtain ⟨z0, z1, z2, z3, z4, z5⟩ := six_below K4.out b5
      clear c0 c1 c2 c3 c4 c5 b5
      go_wp2_with fail
      refine HN2.out.mono ?_
      rintro e w6 ⟨rfl, b6⟩
      go_wp2_with fail
      go_ret
      exact ⟨ret_bool (by rw [← HR2.out]; simp), HB5.out.trans (b6.mono HB5.out.size)⟩
  by_cases h2 : k = 2
  · subst h2
    have hR := HR.out
    rw [if_neg h0, if_neg h1, if_pos rfl, Bool.true_and] at hR
    have HR2 := Lib.hid hR
    have e1 := str_toList op
    clear hR HR h0 h1
    go_wp2_with fail
    all_goals go_ret
    all_goals (refine ⟨ret_bool ?_, HB4.out⟩; rw [← HR2.out]; clear HR2 HB4 HT4 K4; first | (simp_all; done) | (simp_all; rw [Bool.eq_iff_iff]; simp; done) | (simp_all; rw [Bool.eq_iff_iff]; simp; omega))
  by_cases h3 : k = 3
  · subst h3
    have hR := HR.out
    rw [if_neg h0, if_neg h1, if_neg h2, if_pos rfl, Bool.true_and] at hR
    have HR2 := Lib.hid hR
    clear hR HR h0 h1 h2
    obtain ⟨lv, hlv⟩ : ∃ x, levB op = x := ⟨_, rfl⟩
    rw [hlv] at HR2
    have HL : Hid (∀ u : World, Calls Tryd.prog 76 #[.string (str op)] u fun e w' => e = .returned (.int .i64 lv) ∧ u = w') := Lib.hid fun u => by rw [← hlv]; exact level_any op u
    clear hlv
    go_wp2_with (go_at_call 76; refine (HL.out _).mono ?_; rintro e w' ⟨rfl, rfl⟩)
    all_goals go_ret
    all_goals (refine ⟨ret_bool ?_, HB4.out⟩; rw [← HR2.out]; clear HR2 HB4 HT4 K4 HL; first | (simp_all; done) | (simp_all; rw [Bool.eq_iff_iff]; simp; done) | (simp_all; rw [Bool.eq_iff_iff]; simp; omega))
  · have hR := HR.out
    rw [if_neg h0, if_neg h1, if_neg h2, if_neg h3, Bool.and_false] at hR
    have HR2 := Lib.hid hR
    have d0 : (k == 0) = false := by simpa using h0
    have d1 : (k == 1) = false := by simpa using h1
    have d2 : (k == 2) = false := by simpa using h2
    have d3 : (k == 3) = false := by simpa using h3
    clear hR HR h0 h1 h2 h3
    go_wp2_with fail
    go_ret
    exact ⟨ret_bool (by rw [← HR2.out]), HB4.out⟩

/-- Is an expression right? -/
def rgt (s : Unit) (t : ET) : Unit × Bool := ((), oneB t.k t.op t.n t.v t.f t.ks.length)
def rightT (t : ET) : Bool := (allF rgt () t).2
theorem in_len {w : World} {t : ET} (h : t.In w) : t.v.length ≤ 140737488355328 ∧ t.f.length ≤ 140737488355328 := by
  obtain ⟨k, op, n, v, f, A, c, ks⟩ := t
  exact ⟨h.ok.2.2.2.1, h.ok.2.2.2.2.1⟩
theorem right_acc (w0 : World) (hT : Tabs8 w0) (M : Nat) : Acc 74 #[] w0 (fun _ _ => True) (fun _ w => Below w0.heap.size w0 w) rgt (fun _ => 0) M where
  low := fun s w h => h
  keep := fun s w w' h hb' => h.trans (hb'.mono h.size)
  new := fun s w o h => trivial
  stay := fun q w w' _ h _ => h
  step := fun s t => Nat.zero_le _
  enters := by intro args w; simp [go_sem]
  call := fun s w t h hin _ => by
    refine (right1_any t.k t.op t.n t.v t.f t.A t.ks.length t.c w (hT.below h) (in_len hin).1 (in_len hin).2).mono ?_
    rintro e w' ⟨rfl, hh⟩
    exact ⟨rfl, h.trans (hh.mono h.size), hh.size, fun q hq ht => ⟨hh.block q hq, ht⟩⟩
theorem right_any (t : ET) (w : World) (hin : t.In w) (hT : Tabs8 w) :
    Calls Tryd.prog 63 #[t.val] w fun e w' => e = .returned (.bool (rightT t)) ∧ Below w.heap.size w w' := by
  obtain ⟨u, hu⟩ : ∃ u, u = t.val := ⟨_, rfl⟩
  have hv : u = .agg #[.int .i64 t.k, .string (str t.op), .int .i64 t.n, .string (str t.v), .string (str t.f), .slice t.A t.ks.length t.c] := hu
  have bl : Below w.heap.size w (w.alloc (.cells #[.int .i64 t.k, .string (str t.op), .int .i64 t.n, .string (str t.v), .string (str t.f), .slice t.A t.ks.length t.c] 47)) := (Below.refl _ _).alloc (Nat.le_refl _) _
  have hc := all_any (right_acc w hT t.size) t () _ hin bl (by omega)
  rw [← hu] at hc ⊢
  rw [hv] at hc ⊢
  clear bl hu hv
  go_enter Tryd.func63, Tryd.ntmps63
  go_wp2_with (go_at_call 73; refine hc.mono ?_; rintro e w1 ⟨rfl, b1, f1⟩)
  go_ret
  exact ⟨rfl, b1⟩
end Go.Proofs.YtbdfehgofnomhaaDoor
