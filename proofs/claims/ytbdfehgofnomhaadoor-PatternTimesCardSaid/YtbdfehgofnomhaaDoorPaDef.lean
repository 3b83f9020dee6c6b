/- Layer 9: how items lie in memory. -/
import Derived.Test.YtbdfehgofnomhaaDoorPaTree
import Derived.Test.YtbdfehgofnomhaaDoorExFr
namespace Go.Proofs.YtbdfehgofnomhaaDoor
open Go.RowKit
set_option linter.unusedVariables false

/-- An item as a value. -/
def im (k : Int) (nm vr : Nm) (pA : Option Addr) (pm pc : Nat) (lo hi : Int) (kA : Option Addr) (km kc : Nat) : Value := .agg #[.int .i64 k, .string (str nm), .string (str vr), .slice pA pm pc, .int .i64 lo, .int .i64 hi, .slice kA km kc]
def IT.val (t : IT) : Value := im t.k t.nm t.vr t.pA t.ps.length t.pc t.lo t.hi t.kA t.ks.length t.kc
theorem IT.ind {P : IT → Prop} (h : ∀ k nm vr pA pc ps lo hi kA kc kp ks, (∀ l ∈ ks, ∀ t ∈ l, P t) → P (.mk k nm vr pA pc ps lo hi kA kc kp ks)) : ∀ t, P t := by
  intro t
  refine IT.rec (motive_1 := P) (motive_2 := fun ls => ∀ l ∈ ls, ∀ t ∈ l, P t) (motive_3 := fun l => ∀ t ∈ l, P t) ?_ ?_ ?_ ?_ ?_ t
  · exact fun k nm vr pA pc ps lo hi kA kc kp ks ih => h k nm vr pA pc ps lo hi kA kc kp ks ih
  · intro l hl; cases hl
  · intro a l ha hl m hm
    rcases List.mem_cons.1 hm with rfl | hm
    · exact ha
    · exact hl m hm
  · intro t ht; cases ht
  · intro a l ha hl t ht
    rcases List.mem_cons.1 ht with rfl | ht
    · exact ha
    · exact hl t ht
/-- The i-th place behind A bears this item. -/
def CellsI (w : World) (A : Option Addr) (i : Nat) (t : IT) : Prop := ∃ b off, A = some ⟨b, off, none⟩ ∧ w.cell? ⟨b, off + i * 7, none⟩ = some (.int .i64 t.k) ∧ w.cell? ⟨b, off + i * 7 + 1, none⟩ = some (.string (str t.nm)) ∧ w.cell? ⟨b, off + i * 7 + 2, none⟩ = some (.string (str t.vr))
  ∧ w.cell? ⟨b, off + i * 7 + 3, none⟩ = some (.slice t.pA t.ps.length t.pc) ∧ w.cell? ⟨b, off + i * 7 + 4, none⟩ = some (.int .i64 t.lo) ∧ w.cell? ⟨b, off + i * 7 + 5, none⟩ = some (.int .i64 t.hi) ∧ w.cell? ⟨b, off + i * 7 + 6, none⟩ = some (.slice t.kA t.ks.length t.kc)
/-- The i-th place behind A bears this slice. -/
def SliceAt (w : World) (A : Option Addr) (i : Nat) (B : Option Addr) (m c : Nat) : Prop := ∃ b off, A = some ⟨b, off, none⟩ ∧ w.cell? ⟨b, off + i, none⟩ = some (.slice B m c)
/-- A slice is of a machine's size. -/
def okS (A : Option Addr) (m c : Nat) : Prop := (A = none → c = 0) ∧ m ≤ c ∧ c ≤ maxLen
/-- Its numbers and texts are of a machine's size. -/
def okI (k : Int) (nm vr : Nm) (pA : Option Addr) (pm pc : Nat) (lo hi : Int) (kA : Option Addr) (km kc : Nat) : Prop :=
  (-9223372036854775808 ≤ k ∧ k ≤ 9223372036854775807) ∧ (-9223372036854775808 ≤ lo ∧ lo ≤ 9223372036854775807) ∧ (-9223372036854775808 ≤ hi ∧ hi ≤ 9223372036854775807) ∧ nm.length ≤ 140737488355328 ∧ vr.length ≤ 140737488355328 ∧ okS pA pm pc ∧ okS kA km kc
mutual
def IT.In (w : World) : IT → Prop
  | .mk k nm vr pA pc ps lo hi kA kc kp ks => okI k nm vr pA ps.length pc lo hi kA ks.length kc ∧ InL w pA 0 ps ∧ KsIn w kA 0 ks kp
def IsIn (w : World) (A : Option Addr) (i : Nat) : List IT → Prop
  | [] => True
  | x :: xs => CellsI w A i x ∧ IT.In w x ∧ IsIn w A (i + 1) xs
def KsIn (w : World) (A : Option Addr) (i : Nat) : List (List IT) → List (Option Addr × Nat) → Prop
  | [], kp => kp = []
  | l :: ls, kp => match kp with
    | [] => False
    | p :: ps => (SliceAt w A i p.1 l.length p.2 ∧ okS p.1 l.length p.2) ∧ IsIn w p.1 0 l ∧ KsIn w A (i + 1) ls ps
end
theorem isIn_get {w : World} {A : Option Addr} : ∀ {ks : List IT} {i : Nat}, IsIn w A i ks → ∀ j (h : j < ks.length), CellsI w A (i + j) ks[j] ∧ IT.In w ks[j]
  | [], _, _, j, h => by simp at h
  | t :: ts, i, hh, j, h => by
    rw [IsIn] at hh
    cases j with
    | zero => exact ⟨hh.1, hh.2.1⟩
    | succ j =>
      have := isIn_get hh.2.2 j (by simpa using h)
      rw [show i + (j + 1) = i + 1 + j from by omega]
      exact this
theorem isIn_of {w : World} {A : Option Addr} : ∀ {ks : List IT} {i : Nat}, (∀ j (h : j < ks.length), CellsI w A (i + j) ks[j] ∧ IT.In w ks[j]) → IsIn w A i ks
  | [], _, _ => by rw [IsIn]; trivial
  | t :: ts, i, hh => by
    rw [IsIn]
    refine ⟨(hh 0 (by simp)).1, (hh 0 (by simp)).2, isIn_of fun j h => ?_⟩
    have := hh (j + 1) (by simpa using h)
    rw [show i + (j + 1) = i + 1 + j from by omega] at this
    exact this
theorem ksIn_len {w : World} {A : Option Addr} : ∀ {ks : List (List IT)} {kp : List (Option Addr × Nat)} {i : Nat}, KsIn w A i ks kp → kp.length = ks.length
  | [], kp, i, h => by rw [KsIn] at h; rw [h]; rfl
  | l :: ls, [], i, h => by rw [KsIn] at h; exact h.elim
  | l :: ls, p :: ps, i, h => by rw [KsIn] at h; rw [List.length_cons, List.length_cons, ksIn_len h.2.2]
theorem ksIn_get {w : World} {A : Option Addr} : ∀ {ks : List (List IT)} {kp : List (Option Addr × Nat)} {i : Nat}, KsIn w A i ks kp → ∀ j (h : j < ks.length) (h' : j < kp.length), (SliceAt w A (i + j) kp[j].1 ks[j].length kp[j].2 ∧ okS kp[j].1 ks[j].length kp[j].2) ∧ IsIn w kp[j].1 0 ks[j]
  | [], _, _, _, j, h, _ => by simp at h
  | l :: ls, [], _, _, j, _, h' => by simp at h'
  | l :: ls, p :: ps, i, hh, j, h, h' => by
    rw [KsIn] at hh
    cases j with
    | zero => exact ⟨hh.1, hh.2.1⟩
    | succ j =>
      have := ksIn_get hh.2.2 j (by simpa using h) (by simpa using h')
      rw [show i + (j + 1) = i + 1 + j from by omega]
      exact this
theorem ksIn_of {w : World} {A : Option Addr} : ∀ {ks : List (List IT)} {kp : List (Option Addr × Nat)} {i : Nat}, kp.length = ks.length → (∀ j (h : j < ks.length) (h' : j < kp.length), (SliceAt w A (i + j) kp[j].1 ks[j].length kp[j].2 ∧ okS kp[j].1 ks[j].length kp[j].2) ∧ IsIn w kp[j].1 0 ks[j]) → KsIn w A i ks kp
  | [], kp, _, e, _ => by rw [KsIn]; exact List.length_eq_zero_iff.1 e
  | l :: ls, [], _, e, _ => by simp at e
  | l :: ls, p :: ps, i, e, hh => by
    rw [KsIn]
    refine ⟨(hh 0 (by simp) (by simp)).1, (hh 0 (by simp) (by simp)).2, ksIn_of (by simpa using e) fun j h h' => ?_⟩
    have := hh (j + 1) (by simpa using h) (by simpa using h')
    rw [show i + (j + 1) = i + 1 + j from by omega] at this
    exact this
section
variable {w : World} {k : Int} {nm vr : Nm} {pA : Option Addr} {pc : Nat} {ps : List ET} {lo hi : Int} {kA : Option Addr} {kc : Nat} {kp : List (Option Addr × Nat)} {ks : List (List IT)}
theorem IT.In.ok (h : IT.In w (.mk k nm vr pA pc ps lo hi kA kc kp ks)) : okI k nm vr pA ps.length pc lo hi kA ks.length kc := by rw [IT.In] at h; exact h.1
theorem IT.In.preds (h : IT.In w (.mk k nm vr pA pc ps lo hi kA kc kp ks)) : ∀ j (h : j < ps.length), CellsAt w pA j ps[j] ∧ ET.In w ps[j] := by
  rw [IT.In] at h
  intro j hj
  have := inL_get h.2.1 j hj
  rwa [Nat.zero_add] at this
theorem IT.In.len (h : IT.In w (.mk k nm vr pA pc ps lo hi kA kc kp ks)) : kp.length = ks.length := by rw [IT.In] at h; exact ksIn_len h.2.2
theorem IT.In.kids (h : IT.In w (.mk k nm vr pA pc ps lo hi kA kc kp ks)) : ∀ j (h : j < ks.length) (h' : j < kp.length), (SliceAt w kA j kp[j].1 ks[j].length kp[j].2 ∧ okS kp[j].1 ks[j].length kp[j].2) ∧ ∀ i (h2 : i < ks[j].length), CellsI w kp[j].1 i ks[j][i] ∧ IT.In w ks[j][i] := by
  rw [IT.In] at h
  intro j hj hj'
  have := ksIn_get h.2.2 j hj hj'
  rw [Nat.zero_add] at this
  refine ⟨this.1, fun i h2 => ?_⟩
  have t2 := isIn_get this.2 i h2
  rwa [Nat.zero_add] at t2
theorem IT.In.of (h : okI k nm vr pA ps.length pc lo hi kA ks.length kc) (hp : ∀ j (h : j < ps.length), CellsAt w pA j ps[j] ∧ ET.In w ps[j]) (hl : kp.length = ks.length)
    (hk : ∀ j (h : j < ks.length) (h' : j < kp.length), (SliceAt w kA j kp[j].1 ks[j].length kp[j].2 ∧ okS kp[j].1 ks[j].length kp[j].2) ∧ ∀ i (h2 : i < ks[j].length), CellsI w kp[j].1 i ks[j][i] ∧ IT.In w ks[j][i]) : IT.In w (.mk k nm vr pA pc ps lo hi kA kc kp ks) := by
  rw [IT.In]
  refine ⟨h, inL_of fun j hj => by rw [Nat.zero_add]; exact hp j hj, ksIn_of hl fun j h1 h2 => ?_⟩
  rw [Nat.zero_add]
  exact ⟨(hk j h1 h2).1, isIn_of fun i h3 => by rw [Nat.zero_add]; exact (hk j h1 h2).2 i h3⟩
end
theorem CellsI.imp {w w' : World} {A : Option Addr} {i : Nat} {t : IT} (h : CellsI w A i t) (hk : ∀ (p : Addr) v, w.cell? p = some v → w'.cell? p = some v) : CellsI w' A i t := by
  obtain ⟨b, off, rfl, h0, h1, h2, h3, h4, h5, h6⟩ := h
  exact ⟨b, off, rfl, hk _ _ h0, hk _ _ h1, hk _ _ h2, hk _ _ h3, hk _ _ h4, hk _ _ h5, hk _ _ h6⟩
theorem SliceAt.imp {w w' : World} {A : Option Addr} {i : Nat} {B : Option Addr} {m c : Nat} (h : SliceAt w A i B m c) (hk : ∀ (p : Addr) v, w.cell? p = some v → w'.cell? p = some v) : SliceAt w' A i B m c := by
  obtain ⟨b, off, rfl, h0⟩ := h
  exact ⟨b, off, rfl, hk _ _ h0⟩
theorem IT.In.imp {w w' : World} (hk : ∀ (p : Addr) v, w.cell? p = some v → w'.cell? p = some v) : ∀ t : IT, t.In w → t.In w' :=
  IT.ind fun k nm vr pA pc ps lo hi kA kc kp ks ih h => .of h.ok (fun j hj => ⟨(h.preds j hj).1.imp hk, ET.In.imp hk _ (h.preds j hj).2⟩) h.len
    fun j hj hj' => ⟨⟨(h.kids j hj hj').1.1.imp hk, (h.kids j hj hj').1.2⟩, fun i hi => ⟨((h.kids j hj hj').2 i hi).1.imp hk, ih _ (List.getElem_mem _) _ (List.getElem_mem _) ((h.kids j hj hj').2 i hi).2⟩⟩
theorem below_imp {w w' : World} (hb : Below w.heap.size w w') (p : Addr) (v : Value) (h : w.cell? p = some v) : w'.cell? p = some v := (hb.cell (World.block_lt_of_cell? _ _ h)).trans h
theorem IT.In.below {w w' : World} {t : IT} (h : t.In w) (hb : Below w.heap.size w w') : t.In w' := IT.In.imp (below_imp hb) t h
theorem CellsI.below {w w' : World} {A : Option Addr} {i : Nat} {t : IT} (h : CellsI w A i t) (hb : Below w.heap.size w w') : CellsI w' A i t := h.imp (below_imp hb)
theorem itIn_hid {p : Nat} {w : World} {t : IT} (h : t.In (hidB p w)) : t.In w := IT.In.imp (fun _ _ h => hid_cell h) t h
/-- These items lie there. -/
def Its (w : World) (A : Option Addr) (l : List IT) : Prop := ∀ j (h : j < l.length), CellsI w A j l[j] ∧ IT.In w l[j]
theorem Its.imp {w w' : World} {A : Option Addr} {l : List IT} (h : Its w A l) (hk : ∀ (p : Addr) v, w.cell? p = some v → w'.cell? p = some v) : Its w' A l := fun j hj => ⟨(h j hj).1.imp hk, IT.In.imp hk _ (h j hj).2⟩
theorem Its.below {w w' : World} {A : Option Addr} {l : List IT} (h : Its w A l) (hb : Below w.heap.size w w') : Its w' A l := h.imp (below_imp hb)
theorem IT.eta (t : IT) : t = .mk t.k t.nm t.vr t.pA t.pc t.ps t.lo t.hi t.kA t.kc t.kp t.ks := by cases t; rfl
end Go.Proofs.YtbdfehgofnomhaaDoor
