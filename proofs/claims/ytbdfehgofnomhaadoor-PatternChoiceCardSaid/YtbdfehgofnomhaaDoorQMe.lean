/- Layer 9: how items lie in memory. -/
import Derived.Test.YtbdfehgofnomhaaDoorQMa
import Derived.Test.YtbdfehgofnomhaaDoorExFr
namespace Go.Proofs.YtbdfehgofnomhaaDoor
open Go.RowKit
set_option linter.unusedVariables false

/-- An item as a value. -/
def im (k : Int) (nm vr : Nm) (pA : Option Addr) (pm pc : Nat) (lo hi : Int) (kA : Option Addr) (km kc : Nat) : Value := .agg #[.int .i64 k, .string (str nm), .string (str vr), .slice pA pm pc, .int .i64 lo, .int .i64 hi, .slice kA km kc]
def IT.val (t : IT) : Value := im t.k t.nm t.vr t.pA t.ps.length t.pc t.lo t.hi t.kA t.ks.length t.kc
theorem IT.ind {P : IT → Prop} (h : ∀ k nm vr pA pc ps lo hi kA kc kp ks, (∀ l ∈ ks, ∀ t ∈ l, P t) → P (.mk k nm vr pA pc ps lo hi kA kc kp ks)) : ∀ t, P t := by
  intro t
  refine IT.rec (motive_1 := P) (motive_2 := fun ls => ∀ l ∈ ls, ∀ t ∈ l, P t) (motive_3 := fun l => ∀ t ∈ l, P t) ?_ ?_ ?_ ?_ ?_ t
  · exact fun k nm vr pA pc ps lo hi kA kc kp ks ih => h k nm vr pA pc ps lo hi kA kc kp ks ih
  · intro l hl; cases hl
  · intro a l ha hl m hm
    rcases List.mem_cons.1 hm with rfl | hm
    · exact ha
    · exact hl m hm
  · intro t ht; cases ht
  · intro a l ha hl t ht
    rcases List.mem_cons.1 ht with rfl | ht
    · exact ha
    · exact hl t ht
/-- The i-th place behind A bears this item. -/
def CellsI (w : World) (A : Option Addr) (i : Nat) (t : IT) : Prop := ∃ b off, A = some ⟨b, off, none⟩ ∧ w.cell? ⟨b, off + i * 7, none⟩ = some (.int .i64 t.k) ∧ w.cell? ⟨b, off + i * 7 + 1, none⟩ = some (.string (str t.nm)) ∧ w.cell? ⟨b, off + i * 7 + 2, none⟩ = some (.string (str t.vr))
  ∧ w.cell? ⟨b, off + i * 7 + 3, none⟩ = some (.slice t.pA t.ps.length t.pc) ∧ w.cell? ⟨b, off + i * 7 + 4, none⟩ = some (.int .i64 t.lo) ∧ w.cell? ⟨b, off + i * 7 + 5, none⟩ = some (.int .i64 t.hi) ∧ w.cell? ⟨b, off + i * 7 + 6, none⟩ = some (.slice t.kA t.ks.length t.kc)
/-- The i-th place behind A bears this slice. -/
def SliceAt (w : World) (A : Option Addr) (i : Nat) (B : Option Addr) (m c : Nat) : Prop := ∃ b off, A = some ⟨b, off, none⟩ ∧ w.cell? ⟨b, off + i, none⟩ = some (.slice B m c)
/-- A slice is of a machine's size. -/
def okS (A : Option Addr) (m c : Nat) : Prop := (A = none → c = 0) ∧ m ≤ c ∧ c ≤ maxLen
/-- Its numbers and texts are of a machine's size. -/
def okI (k : Int) (nm vr : Nm) (pA : Option Addr) (pm pc : Nat) (lo hi : Int) (kA : Option Addr) (km kc : Nat) : Prop :=
  (-9223372036854775808 ≤ k ∧ k ≤ 9223372036854775807) ∧ (-9223372036854775808 ≤ lo ∧ lo ≤ 9223372036854775807) ∧ (-9223372036854775808 ≤ hi ∧ hi ≤ 9223372036854775807) ∧ nm.length ≤ 140737488355328 ∧ vr.length ≤ 140737488355328 ∧ okS pA pm pc ∧ okS kA km kc
mutual
def IT.In (w : World) : IT → Prop
  | .mk k nm vr pA pc ps lo hi kA kc kp ks => okI k nm vr pA ps.length pc lo hi kA ks.length kc ∧ InL w pA 0 ps ∧ KsIn w kA 0 ks kp
def IsIn (w : World) (A : Option Addr) (i : Nat) : List IT → Prop
  | [] => True
  | x :: xs => CellsI w A i x ∧ IT.In w x ∧ IsIn w A (i + 1) xs
def KsIn (w : World) (A : Option Addr) (i : Nat) : List (List IT) → List (Option Addr × Nat) → Prop
  | [], kp => kp = []
  | l :: ls, kp => match kp with
    | [] => False
    | p :: ps => (SliceAt w A i p.1 l.length p.2 ∧ okS p.1 l.length p.2) ∧ IsIn w p.1 0 l ∧ KsIn w A (i + 1) ls ps
end
theorem isIn_get {w : World} {A : Option Addr} : ∀ {ks : List IT} {i : Nat}, IsIn w A i ks → ∀ j (h : j < ks.length), CellsI w A (i + j) ks[j] ∧ IT.In w ks[j]
  | [], _, _, j, h => by simp at h
  | t :: ts, i, hh, j, h => by
    rw [IsIn] at hh
    cases j with
    | zero => exact ⟨hh.1, hh.2.1⟩
    | succ j =>
      have := isIn_get hh.2.2 j (by simpa using h)
      rw [show i + (j + 1) = i + 1 + j from by omega]
      exact this
theorem isIn_of {w : World} {A : Option Addr} : ∀ {ks : List IT} {i : Nat}, (∀ j (h : j < ks.length), CellsI w A (i + j) ks[j] ∧ IT.In w ks[j]) → IsIn w A i ks
  | [], _, _ => by rw [IsIn]; trivial
  | t :: ts, i, hh => by
    rw [IsIn]
    refine ⟨(hh 0 (by simp)).1, (hh 0 (by simp)).2, isIn_of fun j h => ?_⟩
    have := hh (j + 1) (by simpa using h)
    rw [show i + (j + 1) = i + 1 + j from by omega] at this
    exact this
theorem ksIn_len {w : World} {A : Option Addr} : ∀ {ks : List (List IT)} {kp : List (Option Addr × Nat)} {i : Nat}, KsIn w A i ks kp → kp.length = ks.length
  | [], kp, i, h => by rw [KsIn] at h; rw [h]; rfl
  | l :: ls, [], i, h => by rw [KsIn] at h; exact h.elim
  | l :: ls, p :: ps, i, h => by rw [KsIn] at h; rw [List.length_cons, List.length_cons, ksIn_len h.2.2]
theorem ksIn_get {w : World} {A : Option Addr} : ∀ {ks : List (List IT)} {kp : List (Option Addr × Nat)} {i : Nat}, KsIn w A i ks kp → ∀ j (h : j < ks.length) (h' : j < kp.length), (SliceAt w A (i + j) kp[j].1 ks[j].length kp[j].2 ∧ okS kp[j].1 ks[j].length kp[j].2) ∧ IsIn w kp[j].1 0 ks[j]
  | [], _, _, _, j, h, _ => by simp at h
  | l :: ls, [], _, _, j, _, h' => by simp at h'
  | l :: ls, p :: ps, i, hh, j, h, h' => by
    rw [KsIn] at hh
    cases j with
    | zero => exact ⟨hh.1, hh.2.1⟩
    | succ j =>
      have := ksIn_get hh.2.2 j (by simpa using h) (by simpa using h')
      rw [show i + (j + 1) = i + 1 + j from by omega]
      exact this
theorem ksIn_of {w : World} {A : Option Addr} : ∀ {ks : List (List IT)} {kp : List (Option Addr × Nat)} {i : Nat}, kp.length = ks.length → (∀ j (h : j < ks.length) (h' : j < kp.length), (SliceAt w A (i + j) kp[j].1 ks[j].length kp[j].2 ∧ okS kp[j].1 ks[j].length kp[j].2) ∧ IsIn w kp[j].1 0 ks[j]) → KsIn w A i ks kp
  | [], kp, _, e, _ => by rw [KsIn]; exact List.length_eq_zero_iff.1 e
  | l :: ls, [], _, e, _ => by simp at e
  | l :: ls, p :: ps, i, e, hh => by
    rw [KsIn]
    refine ⟨(hh 0 (by simp) (by simp)).1, (hh 0 (by simp) (by simp)).2, ksIn_of (by simpa using e) fun j h h' => ?_⟩
    have := hh (j + 1) (by simpa using h) (by simpa using h')
    rw [show i + (j + 1) = i + 1 + j from by omega] at this
    exact this
section
variable {w : World} {k : Int} {nm vr : Nm} {pA : Option Addr} {pc : Nat} {ps : List ET} {lo hi : Int} {kA : Option Addr} {kc : Nat} {kp : List (Option Addr × Nat)} {ks : List (List IT)}
theorem IT.In.ok (h : IT.In w (.mk k nm vr pA pc ps lo hi kA kc kp ks)) : okI k nm vr pA ps.length pc lo hi kA ks.length kc := by rw [IT.In] at h; exact h.1
theorem IT.In.preds (h : IT.In w (.mk k nm vr pA pc ps lo hi kA kc kp ks)) : ∀ j (h : j < ps.length), CellsAt w pA j ps[j] ∧ ET.In w ps[j] := by
  rw [IT.In] at h
  intro j hj
  have := inL_get h.2.1 j hj
  rwa [Nat.zero_add] at this
theorem IT.In.len (h : IT.In w (.mk k nm vr pA pc ps lo hi kA kc kp ks)) : kp.length = ks.length := by rw [IT.In] at h; exact ksIn_len h.2.2
theorem IT.In.kids (h : IT.In w (.mk k nm vr pA pc ps lo hi kA kc kp ks)) : ∀ j (h : j < ks.length) (h' : j < kp.length), (SliceAt w kA j kp[j].1 ks[j].length kp[j].2 ∧ okS kp[j].1 ks[j].length kp[j].2) ∧ ∀ i (h2 : i < ks[j].length), CellsI w kp[j].1 i ks[j][i] ∧ IT.In w ks[j][i] := by
  rw [IT.In] at h
  intro j hj hj'
  have := ksIn_get h.2.2 j hj hj'
  rw [Nat.zero_add] at this
  refine ⟨this.1, fun i h2 => ?_⟩
  have t2 := isIn_get this.2 i h2
  rwa [Nat.zero_add] at t2
theorem IT.In.of (h : okI k nm vr pA ps.length pc lo hi kA ks.length kc) (hp : ∀ j (h : j < ps.length), CellsAt w pA j ps[j] ∧ ET.In w ps[j]) (hl : kp.length = ks.length)
    (hk : ∀ j (h : j < ks.length) (h' : j < kp.length), (SliceAt w kA j kp[j].1 ks[j].length kp[j].2 ∧ okS kp[j].1 ks[j].length kp[j].2) ∧ ∀ i (h2 : i < ks[j].length), CellsI w kp[j].1 i ks[j][i] ∧ IT.In w ks[j][i]) : IT.In w (.mk k nm vr pA pc ps lo hi kA kc kp ks) := by
  rw [IT.In]
  refine ⟨h, inL_of fun j hj => by rw [Nat.zero_add]; exact hp j hj, ksIn_of hl fun j h1 h2 => ?_⟩
  rw [Nat.zero_add]
  exact ⟨(hk j h1 h2).1, isIn_of fun i h3 => by rw [Nat.zero_add]; exact (hk j h1 h2).2 i h3⟩
end
theorem CellsI.imp {w w' : World} {A : Option Addr} {i : Nat} {t : IT} (h : CellsI w A i t) (hk : ∀ (p : Addr) v, w.cell? p = some v → w'.cell? p = some v) : CellsI w' A i t := by
  obtain ⟨b, off, rfl, h0, h1, h2, h3, h4, h5, h6⟩ := h
  exact ⟨b, off, rfl, hk _ _ h0, hk _ _ h1, hk _ _ h2, hk _ _ h3, hk _ _ h4, hk _ _ h5, hk _ _ h6⟩
theorem SliceAt.imp {w w' : World} {A : Option Addr} {i : Nat} {B : Option Addr} {m c : Nat} (h : SliceAt w A i B m c) (hk : ∀ (p : Addr) v, w.cell? p = some v → w'.cell? p = some v) : SliceAt w' A i B m c := by
  obtain ⟨b, off, rfl, h0⟩ := h
  exact ⟨b, off, rfl, hk _ _ h0⟩
theorem IT.In.imp {w w' : World} (hk : ∀ (p : Addr) v, w.cell? p = some v → w'.cell? p = some v) : ∀ t : IT, t.In w → t.In w' :=
  IT.ind fun k nm vr pA pc ps lo hi kA kc kp ks ih h => .of h.ok (fun j hj => ⟨(h.preds j hj).1.imp hk, ET.In.imp hk _ (h.preds j hj).2⟩) h.len
    fun j hj hj' => ⟨⟨(h.kids j hj hj').1.1.imp hk, (h.kids j hj hj').1.2⟩, fun i hi => ⟨((h.kids j hj hj').2 i hi).1.imp hk, ih _ (List.getElem_mem _) _ (List.getElem_mem _) ((h.kids j hj hj').2 i hi).2⟩⟩
theorem below_imp {w w' : World} (hb : Below w.heap.size w w') (p : Addr) (v : Value) (h : w.cell? p = some v) : w'.cell? p = some v := (hb.cell (World.block_lt_of_cell? _ _ h)).trans h
theorem IT.In.below {w w' : World} {t : IT} (h : t.In w) (hb : Below w.heap.size w w') : t.In w' := IT.In.imp (below_imp hb) t h
theorem CellsI.below {w w' : World} {A : Option Addr} {i : Nat} {t : IT} (h : CellsI w A i t) (hb : Below w.heap.size w w') : CellsI w' A i t := h.imp (below_imp hb)
theorem itIn_hid {p : Nat} {w : World} {t : IT} (h : t.In (hidB p w)) : t.In w := IT.In.imp (fun _ _ h => hid_cell h) t h
/-- These items lie there. -/
def Its (w : World) (A : Option Addr) (l : List IT) : Prop := ∀ j (h : j < l.length), CellsI w A j l[j] ∧ IT.In w l[j]
theorem Its.imp {w w' : World} {A : Option Addr} {l : List IT} (h : Its w A l) (hk : ∀ (p : Addr) v, w.cell? p = some v → w'.cell? p = some v) : Its w' A l := fun j hj => ⟨(h j hj).1.imp hk, IT.In.imp hk _ (h j hj).2⟩
theorem Its.below {w w' : World} {A : Option Addr} {l : List IT} (h : Its w A l) (hb : Below w.heap.size w w') : Its w' A l := h.imp (below_imp hb)
theorem IT.eta (t : IT) : t = .mk t.k t.nm t.vr t.pA t.pc t.ps t.lo t.hi t.kA t.kc t.kp t.ks := by cases t; rfl
end Go.Proofs.YtbdfehgofnomhaaDoor
/- Layer 9: items as cells. -/
namespace Go.Proofs.YtbdfehgofnomhaaDoor
open Go.RowKit
set_option linter.unusedVariables false

theorem itemAt {w : World} {A : Option Addr} {j : Nat} {x : IT} (h : CellsI w A j x) : ∃ b off, A = some ⟨b, off, none⟩ ∧ w.cell? ⟨b, off + j * 7, none⟩ = some (.int .i64 x.k) ∧ w.cell? ⟨b, off + j * 7 + 1, none⟩ = some (.string (str x.nm)) ∧ w.cell? ⟨b, off + j * 7 + 2, none⟩ = some (.string (str x.vr))
  ∧ w.cell? ⟨b, off + j * 7 + 3, none⟩ = some (.slice x.pA x.ps.length x.pc) ∧ w.cell? ⟨b, off + j * 7 + 4, none⟩ = some (.int .i64 x.lo) ∧ w.cell? ⟨b, off + j * 7 + 5, none⟩ = some (.int .i64 x.hi) ∧ w.cell? ⟨b, off + j * 7 + 6, none⟩ = some (.slice x.kA x.ks.length x.kc) := h
/-- Lists of items lie there. -/
def Kds (w : World) (A : Option Addr) (ks : List (List IT)) (kp : List (Option Addr × Nat)) : Prop := kp.length = ks.length ∧ ∀ j (h : j < ks.length) (h' : j < kp.length), (SliceAt w A j kp[j].1 ks[j].length kp[j].2 ∧ okS kp[j].1 ks[j].length kp[j].2) ∧ Its w kp[j].1 ks[j]
theorem Kds.imp {w w' : World} {A : Option Addr} {ks : List (List IT)} {kp : List (Option Addr × Nat)} (h : Kds w A ks kp) (hk : ∀ (p : Addr) v, w.cell? p = some v → w'.cell? p = some v) : Kds w' A ks kp :=
  ⟨h.1, fun j h1 h2 => ⟨⟨(h.2 j h1 h2).1.1.imp hk, (h.2 j h1 h2).1.2⟩, (h.2 j h1 h2).2.imp hk⟩⟩
theorem Kds.below {w w' : World} {A : Option Addr} {ks : List (List IT)} {kp : List (Option Addr × Nat)} (h : Kds w A ks kp) (hb : Below w.heap.size w w') : Kds w' A ks kp := h.imp (below_imp hb)
theorem IT.In.kds {w : World} {k : Int} {nm vr : Nm} {pA : Option Addr} {pc : Nat} {ps : List ET} {lo hi : Int} {kA : Option Addr} {kc : Nat} {kp : List (Option Addr × Nat)} {ks : List (List IT)} (h : IT.In w (.mk k nm vr pA pc ps lo hi kA kc kp ks)) : Kds w kA ks kp :=
  ⟨h.len, fun j h1 h2 => h.kids j h1 h2⟩
/-- Expressions lie there. -/
def Ets (w : World) (A : Option Addr) (ps : List ET) : Prop := ∀ j (h : j < ps.length), CellsAt w A j ps[j] ∧ ET.In w ps[j]
theorem Ets.imp {w w' : World} {A : Option Addr} {ps : List ET} (h : Ets w A ps) (hk : ∀ (p : Addr) v, w.cell? p = some v → w'.cell? p = some v) : Ets w' A ps := fun j h1 => ⟨(h j h1).1.imp hk, ET.In.imp hk _ (h j h1).2⟩
theorem Ets.below {w w' : World} {A : Option Addr} {ps : List ET} (h : Ets w A ps) (hb : Below w.heap.size w w') : Ets w' A ps := h.imp (below_imp hb)
/-- The cells of an item. -/
abbrev csIm (k : Int) (nm vr : Nm) (pA : Option Addr) (pm pc : Nat) (lo hi : Int) (kA : Option Addr) (km kc : Nat) : Array Value := #[.int .i64 k, .string (str nm), .string (str vr), .slice pA pm pc, .int .i64 lo, .int .i64 hi, .slice kA km kc]
abbrev csI (x : IT) : Array Value := csIm x.k x.nm x.vr x.pA x.ps.length x.pc x.lo x.hi x.kA x.ks.length x.kc
/-- The seven cells at block q. -/
def seven (w : World) (q : Nat) (k : Int) (nm vr : Nm) (pA : Option Addr) (pm pc : Nat) (lo hi : Int) (kA : Option Addr) (km kc : Nat) : Prop :=
  w.cell? ⟨q, 0, none⟩ = some (.int .i64 k) ∧ w.cell? ⟨q, 1, none⟩ = some (.string (str nm)) ∧ w.cell? ⟨q, 2, none⟩ = some (.string (str vr)) ∧ w.cell? ⟨q, 3, none⟩ = some (.slice pA pm pc) ∧ w.cell? ⟨q, 4, none⟩ = some (.int .i64 lo) ∧ w.cell? ⟨q, 5, none⟩ = some (.int .i64 hi) ∧ w.cell? ⟨q, 6, none⟩ = some (.slice kA km kc)
theorem seven_has {w : World} {q : Nat} {t : TypeId} {k : Int} {nm vr : Nm} {pA : Option Addr} {pm pc : Nat} {lo hi : Int} {kA : Option Addr} {km kc : Nat} (h : Has w q t (csIm k nm vr pA pm pc lo hi kA km kc)) : seven w q k nm vr pA pm pc lo hi kA km kc :=
  ⟨h.cell 0, h.cell 1, h.cell 2, h.cell 3, h.cell 4, h.cell 5, h.cell 6⟩
theorem seven_below {w w' : World} {q : Nat} {k : Int} {nm vr : Nm} {pA : Option Addr} {pm pc : Nat} {lo hi : Int} {kA : Option Addr} {km kc : Nat} (h : seven w q k nm vr pA pm pc lo hi kA km kc) (hb : Below w.heap.size w w') : seven w' q k nm vr pA pm pc lo hi kA km kc := by
  obtain ⟨h0, h1, h2, h3, h4, h5, h6⟩ := h
  exact ⟨below_imp hb _ _ h0, below_imp hb _ _ h1, below_imp hb _ _ h2, below_imp hb _ _ h3, below_imp hb _ _ h4, below_imp hb _ _ h5, below_imp hb _ _ h6⟩
theorem okS_cap {A : Option Addr} {m c : Nat} (h : okS A m c) : m ≤ 9223372036854775807 := by have := h.2; unfold maxLen at this; omega
theorem new1 (w : World) (cs : Array Value) (t : TypeId) : Has (w.alloc (.cells cs t)) w.heap.size t cs ∧ Below w.heap.size w (w.alloc (.cells cs t)) := ⟨heap_alloc_new w _, (Below.refl _ _).alloc (Nat.le_refl _) _⟩
end Go.Proofs.YtbdfehgofnomhaaDoor
/- Layer 9: how long what is put of items is, at most. -/
namespace Go.Proofs.YtbdfehgofnomhaaDoor
open Go.RowKit
set_option linter.unusedVariables false

/- How much there is of it: one for each item, and what its predicates are. -/
mutual
def wtI : IT → Nat
  | .mk _ _ _ _ _ ps _ _ _ _ _ ks => 1 + sizeL ps + wtKs ks
def wtIs : List IT → Nat
  | [] => 0
  | x :: xs => wtI x + wtIs xs
def wtKs : List (List IT) → Nat
  | [] => 0
  | l :: ls => wtIs l + wtKs ls
end
theorem wtI_mk (k : Int) (nm vr : Nm) (pA : Option Addr) (pc : Nat) (ps : List ET) (lo hi : Int) (kA : Option Addr) (kc : Nat) (kp : List (Option Addr × Nat)) (ks : List (List IT)) : wtI (.mk k nm vr pA pc ps lo hi kA kc kp ks) = 1 + sizeL ps + wtKs ks := by rw [wtI]
theorem wtIs_nil : wtIs [] = 0 := by rw [wtIs]
theorem wtIs_cons (x : IT) (xs : List IT) : wtIs (x :: xs) = wtI x + wtIs xs := by rw [wtIs]
theorem wtKs_nil : wtKs [] = 0 := by rw [wtKs]
theorem wtKs_cons (l : List IT) (ls : List (List IT)) : wtKs (l :: ls) = wtIs l + wtKs ls := by rw [wtKs]
theorem wtIs_append : ∀ (l m : List IT), wtIs (l ++ m) = wtIs l + wtIs m
  | [], m => by rw [List.nil_append, wtIs_nil]; omega
  | x :: xs, m => by rw [List.cons_append, wtIs_cons, wtIs_cons, wtIs_append xs m]; omega
theorem itoa1 {n : Int} (h : 1 ≤ n) (h2 : n ≤ 4) : (Lib.itoa n).length = 1 := by
  rw [itoa_pos (by omega), dec_small (by omega)]; rfl
theorem prd_len {W : World} : ∀ {ps : List ET}, ps.all rightT = true → (∀ t ∈ ps, ET.In W t) → (prd ps).length ≤ 62 * sizeL ps
  | [], _, _ => by rw [prd]; simp
  | t :: ts, h, hi => by
    simp only [List.all_cons, Bool.and_eq_true] at h
    have h1 := put_len t.size t 0 (Nat.le_refl _) h.1 (hi t (by simp))
    have h2 := prd_len h.2 (fun u hu => hi u (by simp [hu]))
    have h3 := size_pos t
    rw [prd, sizeL_cons]
    simp only [List.length_append, List.length_cons, List.length_nil]
    omega
theorem wtI_pos (x : IT) : 1 ≤ wtI x := by obtain ⟨⟩ := x; rw [wtI_mk]; omega
theorem putTl_len : ∀ {l : List IT}, (∀ t ∈ l, (putI t).length + 5 ≤ 100 * wtI t) → (putTl l).length ≤ 100 * wtIs l
  | [], _ => by rw [putTl_nil]; simp
  | x :: xs, h => by
    have q := h x (by simp)
    have q2 := putTl_len (l := xs) fun t ht => h t (by simp [ht])
    rw [putTl_cons, wtIs_cons]
    simp only [List.length_append, List.length_cons, List.length_nil]
    omega
theorem putIs_len {l : List IT} (h0 : l ≠ []) (h : ∀ t ∈ l, (putI t).length + 5 ≤ 100 * wtI t) : (putIs l).length + 5 ≤ 100 * wtIs l := by
  match l, h0 with
  | x :: xs, _ =>
    have q := h x (by simp)
    have q2 := putTl_len (l := xs) fun t ht => h t (by simp [ht])
    rw [putIs_cons, wtIs_cons]
    simp only [List.length_append]
    omega
theorem putKt_len : ∀ {ks : List (List IT)}, (∀ l ∈ ks, l ≠ [] ∧ ∀ t ∈ l, (putI t).length + 5 ≤ 100 * wtI t) → (putKt ks).length ≤ 100 * wtKs ks
  | [], _ => by rw [putKt_nil]; simp
  | l :: ls, h => by
    have q := putIs_len (h l (by simp)).1 (h l (by simp)).2
    have q2 := putKt_len (ks := ls) fun t ht => h t (by simp [ht])
    rw [putKt_cons, wtKs_cons]
    simp only [List.length_append, List.length_cons, List.length_nil]
    omega
theorem rightKs_all : ∀ {ks : List (List IT)}, rightKs ks = true → ∀ l ∈ ks, rightIs l = true
  | [], _, l, hl => by cases hl
  | m :: ms, h, l, hl => by
    rw [rightKs_cons, Bool.and_eq_true] at h
    rcases List.mem_cons.1 hl with rfl | hl
    · exact h.1
    · exact rightKs_all h.2 l hl
theorem rightLs_all : ∀ {l : List IT}, rightLs l = true → ∀ t ∈ l, rightI t = true
  | [], _, t, ht => by cases ht
  | x :: xs, h, t, ht => by
    rw [rightLs_cons, Bool.and_eq_true] at h
    rcases List.mem_cons.1 ht with rfl | ht
    · exact h.1
    · exact rightLs_all h.2 t ht
theorem rightIs_ne {l : List IT} (h : rightIs l = true) : l ≠ [] := by
  rintro rfl; simp [rightIs] at h
theorem rightIs_all {l : List IT} (h : rightIs l = true) : ∀ t ∈ l, rightI t = true := by
  rw [rightIs, Bool.and_eq_true] at h
  exact rightLs_all h.2
/-- An item's text. -/
theorem putI_len {W : World} : ∀ x : IT, IT.In W x → rightI x = true → (putI x).length + 5 ≤ 100 * wtI x := by
  refine IT.ind fun k nm vr pA pc ps lo hi kA kc kp ks ih h hr => ?_
  rw [putI_mk, wtI_mk]
  rcases itm_kinds hr with ⟨rfl, _, _, rfl, _, _, hl, hk⟩ | ⟨hk, hn, hv, hp, hpr, rfl, h1, h2⟩
  · rw [if_pos rfl]
    have hin : ∀ l ∈ ks, ∀ t ∈ l, IT.In W t := by
      intro l hl t ht
      obtain ⟨j, hj, rfl⟩ := List.getElem_of_mem hl
      obtain ⟨i, hi, rfl⟩ := List.getElem_of_mem ht
      exact ((h.kids j hj (by rw [h.len]; exact hj)).2 i hi).2
    have hb : ∀ l ∈ ks, l ≠ [] ∧ ∀ t ∈ l, (putI t).length + 5 ≤ 100 * wtI t := fun l hl =>
      ⟨rightIs_ne (rightKs_all hk l hl), fun t ht => ih l hl t ht (hin l hl t ht) (rightIs_all (rightKs_all hk l hl) t ht)⟩
    match ks, hl, hb with
    | l :: ls, _, hb =>
      have q := putIs_len (hb l (by simp)).1 (hb l (by simp)).2
      have q2 := putKt_len (ks := ls) fun t ht => hb t (by simp [ht])
      rw [putKs_cons, wtKs_cons]
      simp only [List.length_append, List.length_cons, List.length_nil]
      omega
    | [], hl, _ => simp at hl
  · have n3 : k ≠ 3 := by omega
    rw [if_neg n3]
    have a1 := (name_nb hn).2.1
    have a2 := (name_nb hv).2.1
    have a3 : (if k = 2 then ([33] : Nm) else []).length ≤ 1 := by split <;> simp
    have a4 : (if k = 1 then rng lo hi else []).length ≤ 5 := by
      split
      · rename_i e
        obtain ⟨b1, b2, b3⟩ := h1 e
        rw [rng]
        simp only [List.length_append, List.length_cons, List.length_nil, itoa1 b1 (by omega), itoa1 (n := hi) (by omega) b3]
        omega
      · simp
    have a5 := prd_len (W := W) hpr fun t ht => by
      obtain ⟨j, hj, rfl⟩ := List.getElem_of_mem ht
      exact (h.preds j hj).2
    rw [List.length_append, List.length_append, List.length_append, List.length_append, List.length_append]
    simp only [List.length_cons, List.length_nil]
    omega
theorem items_len {W : World} {l : List IT} (h0 : rightIs l = true) (h : ∀ t ∈ l, IT.In W t) : (putIs l).length + 5 ≤ 100 * wtIs l := putIs_len (rightIs_ne h0) fun t ht => putI_len t (h t ht) (rightIs_all h0 t ht)
end Go.Proofs.YtbdfehgofnomhaaDoor
/- Layer 9: how many items, how deep: no more than there is of it. -/
namespace Go.Proofs.YtbdfehgofnomhaaDoor
set_option linter.unusedVariables false

theorem countIs_le : ∀ {l : List IT}, (∀ t ∈ l, countI t ≤ wtI t) → countIs l ≤ wtIs l
  | [], _ => by rw [countIs_nil]; omega
  | x :: xs, h => by
    have h1 := h x (by simp)
    have h2 := countIs_le (l := xs) fun t ht => h t (by simp [ht])
    rw [countIs_cons, wtIs_cons]; omega
theorem countKs_le : ∀ {ks : List (List IT)}, (∀ l ∈ ks, ∀ t ∈ l, countI t ≤ wtI t) → countKs ks ≤ wtKs ks
  | [], _ => by rw [countKs_nil]; omega
  | x :: xs, h => by
    have h1 := countIs_le (h x (by simp))
    have h2 := countKs_le (ks := xs) fun t ht => h t (by simp [ht])
    rw [countKs_cons, wtKs_cons]; omega
theorem countI_le : ∀ t : IT, countI t ≤ wtI t := IT.ind fun k nm vr pA pc ps lo hi kA kc kp ks ih => by
  have := countKs_le ih
  rw [countI_mk, wtI_mk]; omega
theorem count_le (l : List IT) : countIs l ≤ wtIs l := countIs_le fun t _ => countI_le t
theorem deepIs_le : ∀ {l : List IT}, (∀ t ∈ l, deepI t + 1 ≤ wtI t) → deepIs l ≤ wtIs l
  | [], _ => by rw [deepIs_nil]; omega
  | x :: xs, h => by
    have h1 := h x (by simp)
    have h2 := deepIs_le (l := xs) fun t ht => h t (by simp [ht])
    rw [deepIs_cons, wtIs_cons]; omega
theorem deepKs_le : ∀ {ks : List (List IT)}, (∀ l ∈ ks, ∀ t ∈ l, deepI t + 1 ≤ wtI t) → deepKs ks ≤ wtKs ks
  | [], _ => by rw [deepKs_nil]; omega
  | x :: xs, h => by
    have h1 := deepIs_le (h x (by simp))
    have h2 := deepKs_le (ks := xs) fun t ht => h t (by simp [ht])
    rw [deepKs_cons, wtKs_cons]; omega
theorem deepI_le : ∀ t : IT, deepI t + 1 ≤ wtI t := IT.ind fun k nm vr pA pc ps lo hi kA kc kp ks ih => by
  have := deepKs_le ih
  rw [deepI_mk, wtI_mk]; omega
theorem deep_le (l : List IT) : deepIs l ≤ wtIs l := deepIs_le fun t _ => deepI_le t
end Go.Proofs.YtbdfehgofnomhaaDoor
/- Layer 9: how many, how deep, how long: never more than the weight. -/
namespace Go.Proofs.YtbdfehgofnomhaaDoor
set_option linter.unusedVariables false

theorem countIs_wt : ∀ {l : List IT}, (∀ t ∈ l, countI t ≤ wtI t) → countIs l ≤ wtIs l
  | [], _ => by rw [countIs_nil]; omega
  | x :: xs, h => by
    have h1 := h x (by simp)
    have h2 := countIs_wt (l := xs) fun t ht => h t (by simp [ht])
    rw [countIs_cons, wtIs_cons]; omega
theorem countKs_wt : ∀ {ks : List (List IT)}, (∀ l ∈ ks, countIs l ≤ wtIs l) → countKs ks ≤ wtKs ks
  | [], _ => by rw [countKs_nil]; omega
  | x :: xs, h => by
    have h1 := h x (by simp)
    have h2 := countKs_wt (ks := xs) fun t ht => h t (by simp [ht])
    rw [countKs_cons, wtKs_cons]; omega
theorem countI_wt : ∀ t : IT, countI t ≤ wtI t := IT.ind fun k nm vr pA pc ps lo hi kA kc kp ks ih => by
  rw [countI_mk, wtI_mk]
  have := countKs_wt (ks := ks) fun l hl => countIs_wt (ih l hl)
  omega
theorem deepIs_count : ∀ {l : List IT}, (∀ t ∈ l, 1 + deepI t ≤ countI t) → deepIs l ≤ countIs l
  | [], _ => by rw [deepIs_nil]; omega
  | x :: xs, h => by
    have h1 := h x (by simp)
    have h2 := deepIs_count (l := xs) fun t ht => h t (by simp [ht])
    rw [deepIs_cons, countIs_cons]; omega
theorem deepKs_count : ∀ {ks : List (List IT)}, (∀ l ∈ ks, deepIs l ≤ countIs l) → deepKs ks ≤ countKs ks
  | [], _ => by rw [deepKs_nil]; omega
  | x :: xs, h => by
    have h1 := h x (by simp)
    have h2 := deepKs_count (ks := xs) fun t ht => h t (by simp [ht])
    rw [deepKs_cons, countKs_cons]; omega
theorem deepI_count : ∀ t : IT, 1 + deepI t ≤ countI t := IT.ind fun k nm vr pA pc ps lo hi kA kc kp ks ih => by
  rw [countI_mk, deepI_mk]
  have := deepKs_count (ks := ks) fun l hl => deepIs_count (ih l hl)
  omega
theorem len_wt : ∀ l : List IT, l.length ≤ wtIs l
  | [] => by rw [wtIs_nil]; simp
  | x :: xs => by
    have h1 := len_wt xs
    have h2 := wtI_pos x
    rw [wtIs_cons, List.length_cons]; omega
theorem its_counts (l : List IT) : countIs l ≤ wtIs l ∧ deepIs l ≤ wtIs l ∧ l.length ≤ wtIs l := by
  have h1 := countIs_wt (l := l) fun t _ => countI_wt t
  have h2 := deepIs_count (l := l) fun t _ => deepI_count t
  exact ⟨h1, by omega, len_wt l⟩
theorem right_pos {l : List IT} (h : rightIs l = true) : 0 < l.length := by
  match l, h with
  | x :: xs, _ => simp
  | [], h => simp [rightIs] at h
end Go.Proofs.YtbdfehgofnomhaaDoor
