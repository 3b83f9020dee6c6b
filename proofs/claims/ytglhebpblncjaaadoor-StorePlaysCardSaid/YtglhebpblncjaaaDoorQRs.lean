/- The document's store in memory (package jettisonref20), and its search. -/
import Derived.Test.YtglhebpblncjaaaDoorQMi
import Derived.Test.YtglhebpblncjaaaDoorQRn
import Derived.Test.YtglhebpblncjaaaDoorQWg
import Derived.RegionTactic
import Derived.Deep.QuietTactic
import Derived.BigQuiet
import Derived.Test.YtglhebpblncjaaaDoorApp
import Derived.Deep.RegionLaw
namespace Go.Proofs.YtglhebpblncjaaaDoor
open Go.RowKit
set_option linter.unusedVariables false

/-- What is at an index in a list; where. -/
def fof : List (Int × Ct) → Int → Option Ct
  | [], _ => none
  | p :: l, k => if p.1 = k then some p.2 else fof l k
def fnd : List (Int × Ct) → Int → Nat
  | [], _ => 0
  | p :: l, k => if p.1 = k then 0 else fnd l k + 1
def ers : List (Int × Ct) → Int → List (Int × Ct)
  | [], _ => []
  | p :: l, k => if p.1 = k then l else p :: ers l k
/-- Each index once. -/
def Dst : List (Int × Ct) → Prop
  | [] => True
  | p :: l => fof l p.1 = none ∧ Dst l
def kp (l : List (Int × Ct)) (i : Nat) : Int × Ct := l.getD i (0, zc)
theorem kp_get {l : List (Int × Ct)} {i : Nat} (h : i < l.length) : l[i]? = some (kp l i) := by simp [kp, List.getD, h]
theorem fnd_le (l : List (Int × Ct)) (k : Int) : fnd l k ≤ l.length := by
  induction l with
  | nil => simp [fnd]
  | cons p l ih => simp only [fnd]; split <;> simp <;> omega
theorem fof_some {l : List (Int × Ct)} {k : Int} {c : Ct} (h : fof l k = some c) : fnd l k < l.length ∧ kp l (fnd l k) = (k, c) := by
  induction l with
  | nil => cases h
  | cons p l ih =>
    simp only [fof, fnd] at h ⊢
    split at h
    · rename_i e
      rw [if_pos e]
      cases h
      exact ⟨by simp, by rw [← e]; rfl⟩
    · rename_i e
      rw [if_neg e]
      obtain ⟨h1, h2⟩ := ih h
      exact ⟨by simp; omega, by rw [← h2]; simp [kp, List.getD]⟩
theorem fof_none {l : List (Int × Ct)} {k : Int} (h : fof l k = none) : fnd l k = l.length := by
  induction l with
  | nil => rfl
  | cons p l ih =>
    simp only [fof, fnd] at h ⊢
    split at h
    · cases h
    · rename_i e
      rw [if_neg e, ih h]; rfl
theorem fnd_ne {l : List (Int × Ct)} {k : Int} {j : Nat} (hj : j < fnd l k) : (kp l j).1 ≠ k := by
  induction l generalizing j with
  | nil => simp [fnd] at hj
  | cons p l ih =>
    simp only [fnd] at hj
    split at hj
    · omega
    · rename_i e
      cases j with
      | zero => exact e
      | succ j =>
        have := ih (j := j) (by omega)
        simpa [kp, List.getD] using this
theorem fnd_of {l : List (Int × Ct)} {k : Int} {i : Nat} (h : ∀ j, j < i → (kp l j).1 ≠ k) (hi : i ≤ l.length) : i ≤ fnd l k := by
  induction l generalizing i with
  | nil => simp at hi; omega
  | cons p l ih =>
    cases i with
    | zero => omega
    | succ i =>
      have h0 : p.1 ≠ k := h 0 (by omega)
      simp only [fnd, if_neg h0]
      have := ih (i := i) (fun j hj => by have := h (j + 1) (by omega); simpa [kp, List.getD] using this) (by simpa using hi)
      omega
theorem fnd_at {l : List (Int × Ct)} {k : Int} (h : fnd l k < l.length) : (kp l (fnd l k)).1 = k := by
  cases e : fof l k with
  | none => rw [fof_none e] at h; omega
  | some c => rw [(fof_some e).2]
theorem fof_app {l : List (Int × Ct)} {k : Int} (c : Ct) (h : fof l k = none) : fof (l ++ [(k, c)]) = upd (fof l) k (some c) := by
  funext j
  induction l with
  | nil =>
    simp only [List.nil_append, fof, upd]
    by_cases e : k = j
    · rw [if_pos e, if_pos e.symm]
    · rw [if_neg e, if_neg (fun x => e x.symm)]
  | cons p l ih =>
    simp only [fof] at h
    split at h
    · cases h
    · rename_i e
      have := ih h
      simp only [List.cons_append, fof, upd] at this ⊢
      by_cases e1 : p.1 = j
      · rw [if_pos e1, if_neg (fun x => e (by rw [e1, x]))]
        rw [if_pos e1]
      · rw [if_neg e1, this, if_neg e1]
theorem fof_set {l : List (Int × Ct)} {k : Int} (c : Ct) (h : fnd l k < l.length) : fof (l.set (fnd l k) (k, c)) = upd (fof l) k (some c) := by
  funext j
  induction l with
  | nil => simp at h
  | cons p l ih =>
    simp only [fnd] at h ⊢
    by_cases e : p.1 = k
    · rw [if_pos e]
      simp only [List.set_cons_zero, fof, upd]
      by_cases e1 : k = j
      · rw [if_pos e1, if_pos e1.symm]
      · rw [if_neg e1, if_neg (fun x => e1 x.symm), if_neg (fun x => e1 (by rw [← e, x]))]
    · rw [if_neg e] at h ⊢
      have := ih (by simpa using h)
      simp only [List.set_cons_succ, fof, upd] at this ⊢
      by_cases e1 : p.1 = j
      · rw [if_pos e1, if_neg (fun x => e (by rw [e1, x])), if_pos e1]
      · rw [if_neg e1, this, if_neg e1]
theorem fof_ers {l : List (Int × Ct)} {k : Int} (h : Dst l) : fof (ers l k) = upd (fof l) k none := by
  funext j
  induction l with
  | nil => simp [ers, fof, upd]
  | cons p l ih =>
    obtain ⟨h1, h2⟩ := h
    simp only [ers]
    by_cases e : p.1 = k
    · rw [if_pos e]
      simp only [fof, upd]
      by_cases e1 : j = k
      · rw [if_pos e1, e1, ← e]; exact h1
      · rw [if_neg e1, if_neg (fun x => e1 (by rw [← x, e]))]
    · rw [if_neg e]
      have := ih h2
      simp only [fof, upd] at this ⊢
      by_cases e1 : p.1 = j
      · rw [if_pos e1, if_neg (fun x => e (by rw [e1, x])), if_pos e1]
      · rw [if_neg e1, this, if_neg e1]
theorem ers_eq (l : List (Int × Ct)) (k : Int) : ers l k = l.take (fnd l k) ++ l.drop (fnd l k + 1) := by
  induction l with
  | nil => simp [ers, fnd]
  | cons p l ih =>
    simp only [ers, fnd]
    by_cases e : p.1 = k
    · rw [if_pos e, if_pos e]; simp
    · rw [if_neg e, if_neg e, ih]; simp
theorem ers_len {l : List (Int × Ct)} {k : Int} (h : fnd l k < l.length) : (ers l k).length = l.length - 1 := by
  rw [ers_eq]
  simp
  omega
theorem Dst.app {l : List (Int × Ct)} {k : Int} (c : Ct) (h : Dst l) (hn : fof l k = none) : Dst (l ++ [(k, c)]) := by
  induction l with
  | nil => exact ⟨rfl, trivial⟩
  | cons p l ih =>
    obtain ⟨h1, h2⟩ := h
    simp only [fof] at hn
    split at hn
    · cases hn
    · rename_i e
      refine ⟨?_, ih h2 hn⟩
      show fof (l ++ [(k, c)]) p.1 = none
      rw [fof_app c hn, upd_other _ _ _ _ e]
      exact h1
theorem Dst.set {l : List (Int × Ct)} {k : Int} (c : Ct) (h : Dst l) : Dst (l.set (fnd l k) (k, c)) := by
  induction l with
  | nil => trivial
  | cons p l ih =>
    obtain ⟨h1, h2⟩ := h
    simp only [fnd]
    by_cases e : p.1 = k
    · rw [if_pos e]
      exact ⟨by rw [← e]; exact h1, h2⟩
    · rw [if_neg e]
      refine ⟨?_, ih h2⟩
      show fof (l.set (fnd l k) (k, c)) p.1 = none
      by_cases hf : fnd l k < l.length
      · rw [fof_set c hf, upd_other _ _ _ _ e]
        exact h1
      · rw [List.set_eq_of_length_le (by omega)]
        exact h1
theorem Dst.ers {l : List (Int × Ct)} {k : Int} (h : Dst l) : Dst (ers l k) := by
  induction l with
  | nil => trivial
  | cons p l ih =>
    obtain ⟨h1, h2⟩ := h
    simp only [Go.Proofs.YtglhebpblncjaaaDoor.ers]
    by_cases e : p.1 = k
    · rw [if_pos e]; exact h2
    · rw [if_neg e]
      refine ⟨?_, ih h2⟩
      rw [fof_ers h2, upd_other _ _ _ _ e]
      exact h1

/-- The cells of what is kept. -/
def kcells (l : List (Int × Ct)) : List Value := l.flatMap fun p => [.int .i64 p.1, .int .i64 p.2.t, .int .u32 (p.2.s : Int), .int .u32 p.2.g]
theorem kcells_cons (p : Int × Ct) (l : List (Int × Ct)) : kcells (p :: l) = [.int .i64 p.1, .int .i64 p.2.t, .int .u32 (p.2.s : Int), .int .u32 p.2.g] ++ kcells l := rfl
theorem kcells_len (l : List (Int × Ct)) : (kcells l).length = l.length * 4 := by
  induction l with
  | nil => rfl
  | cons p l ih => rw [kcells_cons]; simp; omega
theorem kcells_snoc (l : List (Int × Ct)) (p : Int × Ct) : kcells (l ++ [p]) = kcells l ++ [.int .i64 p.1, .int .i64 p.2.t, .int .u32 (p.2.s : Int), .int .u32 p.2.g] := by simp [kcells]
theorem kcells_get {l : List (Int × Ct)} {i : Nat} (h : i < l.length) : (kcells l)[i * 4]? = some (.int .i64 (kp l i).1) ∧ (kcells l)[i * 4 + 1]? = some (.int .i64 (kp l i).2.t) ∧ (kcells l)[i * 4 + 2]? = some (.int .u32 ((kp l i).2.s : Int)) ∧ (kcells l)[i * 4 + 3]? = some (.int .u32 (kp l i).2.g) := by
  induction l generalizing i with
  | nil => simp at h
  | cons p l ih =>
    cases i with
    | zero => exact ⟨rfl, rfl, rfl, rfl⟩
    | succ i =>
      have h1 := ih (i := i) (by simpa using h)
      have e : kp (p :: l) (i + 1) = kp l i := by simp [kp, List.getD]
      rw [e, kcells_cons, show (i + 1) * 4 = i * 4 + 4 by omega]
      simpa [List.getElem?_append, show i * 4 + 4 + 1 = (i * 4 + 1) + 4 by omega, show i * 4 + 4 + 2 = (i * 4 + 2) + 4 by omega, show i * 4 + 4 + 3 = (i * 4 + 3) + 4 by omega] using h1
theorem kcells_set (l : List (Int × Ct)) (i : Nat) (h : i < l.length) (t : Int) : (kcells l).set (i * 4 + 1) (.int .i64 t) = kcells (l.set i ((kp l i).1, ⟨(kp l i).2.s, (kp l i).2.g, t⟩)) := by
  induction l generalizing i with
  | nil => simp at h
  | cons p l ih =>
    cases i with
    | zero => rfl
    | succ i =>
      have e : kp (p :: l) (i + 1) = kp l i := by simp [kp, List.getD]
      have h1 := ih i (by simpa using h)
      rw [List.set_cons_succ, kcells_cons, kcells_cons, e, ← h1, show (i + 1) * 4 + 1 = (i * 4 + 1) + 4 by omega]
      rfl
theorem kcells_take (l : List (Int × Ct)) (n : Nat) : kcells (l.take n) = (kcells l).take (n * 4) := by
  induction l generalizing n with
  | nil => simp [kcells]
  | cons p l ih =>
    cases n with
    | zero => simp [kcells]
    | succ n =>
      rw [List.take_succ_cons, kcells_cons, ih, kcells_cons, show (n + 1) * 4 = n * 4 + 1 + 1 + 1 + 1 by omega]
      rfl
theorem kcells_drop (l : List (Int × Ct)) (n : Nat) : kcells (l.drop n) = (kcells l).drop (n * 4) := by
  induction l generalizing n with
  | nil => simp [kcells]
  | cons p l ih =>
    cases n with
    | zero => simp [kcells]
    | succ n =>
      rw [List.drop_succ_cons, ih, kcells_cons, show (n + 1) * 4 = n * 4 + 1 + 1 + 1 + 1 by omega]
      rfl
theorem kcells_app (l r : List (Int × Ct)) : kcells (l ++ r) = kcells l ++ kcells r := by simp [kcells]
theorem kcells_one (l : List (Int × Ct)) : ∀ u ∈ kcells l, u.oneCell' = true := by
  intro u hu
  simp only [kcells, List.mem_flatMap] at hu
  obtain ⟨b, _, hb⟩ := hu
  simp at hb
  rcases hb with rfl | rfl | rfl | rfl <;> rfl
end Go.Proofs.YtglhebpblncjaaaDoor
/- The document's store in memory: its own block, its list, its arena; its search and what only reads it. -/
namespace Go.Proofs.YtglhebpblncjaaaDoor
open Go.RowKit
set_option linter.unusedVariables false

/-- The blocks of the document's store and arena. -/
def rK (g h : Nat) (v v2 : Value) : List Nat := g :: h :: (v.ownBlock.toList ++ v2.ownBlock.toList)
/-- What is kept fits its cells. -/
def Kok (L : List (Int × Ct)) : Prop := ∀ p ∈ L, I64 p.1 ∧ p.2.s ≤ 4294967295 ∧ 0 ≤ p.2.g ∧ p.2.g ≤ 4294967295 ∧ 0 ≤ p.2.t ∧ p.2.t ≤ 1000000
/-- The document's store at h, of list v2, its arena at g, of list v. -/
structure Rs (w : World) (B g h : Nat) (v v2 : Value) (s : Ar) (L : List (Int × Ct)) : Prop where
  rf : RfAt w B g v s
  blk : Has w h 73 #[.pointer (some ⟨g, 0, none⟩), v2]
  row : w.ownsRow B 89 4 v2 L.length (kcells L)
  gh : g ≠ h
  vh : v.ownBlock ≠ some h
  wg : v2.ownBlock ≠ some g
  wh : v2.ownBlock ≠ some h
  vw : ∀ k, v.ownBlock = some k → v2.ownBlock ≠ some k
  lo : B ≤ h
  few : L.length ≤ 1000
  ok : Kok L
section
variable {w w' : World} {B g h : Nat} {v v2 : Value} {s : Ar} {L : List (Int × Ct)}
theorem Rs.keep (r : Rs w B g h v v2 s L) (hk : ∀ k ∈ rK g h v v2, w'.heap[k]? = w.heap[k]?) : Rs w' B g h v v2 s L :=
  ⟨r.rf.keep fun k e => hk k (by unfold rK; rcases e with rfl | e <;> simp [*]), (hk h (by unfold rK; simp)).trans r.blk, owns_keep r.row fun k e => hk k (by unfold rK; simp [e]), r.gh, r.vh, r.wg, r.wh, r.vw, r.lo, r.few, r.ok⟩
theorem Rs.lt (r : Rs w B g h v v2 s L) : ∀ k ∈ rK g h v v2, k < w.heap.size ∧ B ≤ k := by
  intro k hk
  unfold rK at hk
  simp only [List.mem_cons, List.mem_append, Option.mem_toList] at hk
  rcases hk with rfl | rfl | hk | hk
  · exact ⟨r.rf.lt, r.rf.low⟩
  · exact ⟨r.blk.lt, r.lo⟩
  · have := r.rf.vlt k hk; omega
  · have := r.row.lt k hk; omega
theorem Rs.below (r : Rs w B g h v v2 s L) (hb : Below w.heap.size w w') : Rs w' B g h v v2 s L := r.keep fun k hk => hb.block k (r.lt k hk).1
theorem Rs.drew (r : Rs w B g h v v2 s L) : Rs w.drew B g h v v2 s L := r.below (Below.refl _ _).drew
theorem Rs.c0 (r : Rs w B g h v v2 s L) : w.cell? ⟨h, 0, none⟩ = some (.pointer (some ⟨g, 0, none⟩)) := r.blk.cell 0
theorem Rs.c1 (r : Rs w B g h v v2 s L) : w.cell? ⟨h, 1, none⟩ = some v2 := r.blk.cell 1
/-- The list's slice, and the cells of one of it. -/
theorem Rs.slot (r : Rs w B g h v v2 s L) {i : Nat} (hi : i < L.length) :
    ∃ q cap, v2 = .slice (some ⟨q, 0, none⟩) L.length cap ∧ q ≠ h ∧ q ≠ g ∧ q < w.heap.size ∧ L.length ≤ cap ∧ cap ≤ maxLen ∧ w.cell? ⟨q, i * 4, none⟩ = some (.int .i64 (kp L i).1) ∧ w.cell? ⟨q, i * 4 + 1, none⟩ = some (.int .i64 (kp L i).2.t) ∧ w.cell? ⟨q, i * 4 + 2, none⟩ = some (.int .u32 ((kp L i).2.s : Int)) ∧ w.cell? ⟨q, i * 4 + 3, none⟩ = some (.int .u32 (kp L i).2.g) ∧ (∀ j, w.frozen? ⟨q, j, none⟩ = false) := by
  obtain ⟨g1, g2, g3, g4⟩ := kcells_get hi
  have hr := r.row
  have hl := kcells_len L
  have hwh := r.wh
  have hwg := r.wg
  rcases hr.2 with ⟨rfl, h0⟩ | ⟨q, cap, cur, rfl, hb, hgg, hc1, hc2, _⟩
  · omega
  · refine ⟨q, cap, rfl, fun e => hwh (by rw [← e]; rfl), fun e => hwg (by rw [← e]; rfl), (hr.lt q rfl).2, hc1, hc2, ?_, ?_, ?_, ?_, fun j => hr.frozenAt j⟩
    · rw [hr.cellAt _ (by omega)]; exact g1
    · rw [hr.cellAt _ (by omega)]; exact g2
    · rw [hr.cellAt _ (by omega)]; exact g3
    · rw [hr.cellAt _ (by omega)]; exact g4
theorem Rs.okAt (r : Rs w B g h v v2 s L) {i : Nat} (hi : i < L.length) : I64 (kp L i).1 ∧ (kp L i).2.s ≤ 4294967295 ∧ 0 ≤ (kp L i).2.g ∧ (kp L i).2.g ≤ 4294967295 ∧ 0 ≤ (kp L i).2.t ∧ (kp L i).2.t ≤ 1000000 :=
  r.ok _ (List.mem_of_getElem? (kp_get hi))
/-- Where find says it is. -/
def fwh (L : List (Int × Ct)) (k : Int) : Int := if fnd L k < L.length then (fnd L k : Nat) else -1
set_option maxHeartbeats 800000 in
theorem rfind_any (r : Rs w B g h v v2 s L) (k : Int) :
    Calls Tryd.prog 35 #[.pointer (some ⟨h, 0, none⟩), .int .i64 k] w fun e w' => e = .returned (.int .i64 (fwh L k)) ∧ w = w' := by
  have c1 := r.c1
  obtain ⟨A, cp, hv2⟩ := own_slice r.row
  rw [hv2] at c1
  have hfew := r.few
  have HR := Lib.hid r
  have HV := Lib.hid hv2
  have HL := Lib.hid (fnd_le L k)
  clear r hv2
  obtain ⟨n, hn⟩ : ∃ n, L.length = n := ⟨_, rfl⟩
  have HN := Lib.hid hn
  rw [hn] at c1 hfew
  clear hn
  go_enter Tryd.func35, Tryd.ntmps35
  go_wp2
  go_loop [5] (fun i => ∃ j : Nat, j ≤ n ∧ i = .int .i64 j ∧ ∀ a, a < j → (kp L a).1 ≠ k) (fun i => n - (intOf i).toNat)
  case atStart => exact ⟨0, by omega, rfl, fun a ha => by omega⟩
  case round =>
    obtain ⟨j, hj, rfl, hne⟩ := hrel
    have HNE := Lib.hid hne
    clear hne
    by_cases hlt : j < n
    · obtain ⟨q, cap, e, _, _, _, _, _, d0, _⟩ := HR.out.slot (i := j) (by rw [HN.out]; exact hlt)
      have e2 := HV.out.symm.trans e
      simp only [Value.slice.injEq] at e2
      obtain ⟨rfl, -, -⟩ := e2
      obtain ⟨x, hx⟩ : ∃ x, (kp L j).1 = x := ⟨_, rfl⟩
      rw [hx] at d0
      have HX := Lib.hid hx
      clear hx e
      by_cases hxk : x = k
      · have hd : (x == k) = true := by simpa using hxk
        have HF : Hid (fwh L k = (j : Int)) := Lib.hid (by
          have h1 := fnd_of (l := L) (k := k) HNE.out (by rw [HN.out]; omega)
          have h2 : ¬ j < fnd L k := fun h3 => fnd_ne h3 (by rw [HX.out, hxk])
          have h3 : fnd L k = j := by omega
          unfold fwh
          rw [h3, if_pos (by rw [HN.out]; exact hlt)])
        clear hxk
        go_wp2
        go_ret
        exact ⟨ret_int HF.out.symm, rfl⟩
      · have hd : (x == k) = false := by simpa using hxk
        have HNX : Hid (∀ a, a < j + 1 → (kp L a).1 ≠ k) := Lib.hid (fun a ha => by
          rcases Nat.lt_or_ge a j with h1 | h1
          · exact HNE.out a h1
          · obtain rfl : a = j := by omega
            rw [HX.out]; exact hxk)
        clear hxk
        go_wp2
        go_round
        case rel => exact ⟨j + 1, by omega, by go_num, HNX.out⟩
        case measure => simp [intOf]; omega
    · have HF : Hid (fwh L k = -1) := Lib.hid (by
        obtain rfl : j = n := by omega
        have h1 := fnd_of (l := L) (k := k) HNE.out (by rw [HN.out]; exact Nat.le_refl _)
        have h2 := HL.out
        have h3 := HN.out
        unfold fwh
        rw [if_neg (by omega)])
      go_wp2
      go_ret
      exact ⟨ret_int HF.out.symm, rfl⟩
end
end Go.Proofs.YtglhebpblncjaaaDoor
/- An append onto a slice of the call's own as one step of a statement that leaves its order open; for any program. -/
namespace Go.Proofs.YtglhebpblncjaaaDoor
open Go.RowKit

theorem step_app {P : Program} {ops : Array Oper} {o : Oper} {a : Act} {w : World} {K : Act → World → Prop} {Q : Exit → Act → World → Prop} {E : Prop} {R : Value → World → Prop} {s x : Operand} {t : TypeId} {v y : Value}
    (hrun : ∃ v' w', (Builtin.append_ #[t, t] t #[v, y]).run P w = .ok v' w' ∧ R v' w') (hgd : o.guard = none) (hty : o.type = t)
    (ho : o.op = .call { callee := .builtin .append, args := #[s, x], argTypes := #[t, t] }) (hs : a.eval s = v) (hx : a.eval x = y)
    (h : ∀ v' w', R v' w' → K (a.put o.dst v') w') : if Region.wanted o (yielded ops a.tmps) = true then Oper.wp P o a w K Q else E := by
  have hw : Region.wanted o (yielded ops a.tmps) = true := by simp [Region.wanted, hgd]
  rw [if_pos hw]
  obtain ⟨v', w', hr, hR⟩ := hrun
  subst hty
  unfold Oper.wp execOp
  simp only [ho, resolve, invoke, builtin, Sem.run_bind, Sem.run_pure, Result.andThen_ok, List.map_toArray, List.map_cons, List.map_nil, hs, hx, hr]
  exact h v' w' hR
end Go.Proofs.YtglhebpblncjaaaDoor
/- The document's store: New, Count, Len, Hold and Put. -/
namespace Go.Proofs.YtglhebpblncjaaaDoor
open Go.RowKit
set_option linter.unusedVariables false

/-- The blocks of K0 are turned; those of K1 are one's own from now on. -/
structure Tr (K0 K1 : List Nat) (w w' : World) : Prop where
  tn : Tn K0 w w'
  fr : ∀ k ∈ K1, k ∈ K0 ∨ (w.heap.size ≤ k ∧ k < w'.heap.size)
theorem Tr.trans {K0 K1 K2 : List Nat} {a b c : World} (h : Tr K0 K1 a b) (k : Tr K1 K2 b c) : Tr K0 K2 a c := by
  have h1 := h.tn.size
  have h2 := k.tn.size
  refine ⟨⟨k.tn.os.trans h.tn.os, k.tn.tape.trans h.tn.tape, k.tn.output.trans h.tn.output, by omega, fun j hj hn => ?_⟩, fun j hj => ?_⟩
  · refine (k.tn.block j (by omega) fun e => ?_).trans (h.tn.block j hj hn)
    rcases h.fr j e with e1 | e1
    · exact hn e1
    · omega
  · rcases k.fr j hj with e | e
    · rcases h.fr j e with e1 | e1
      · exact .inl e1
      · exact .inr ⟨e1.1, by omega⟩
    · exact .inr ⟨by omega, e.2⟩
theorem Tr.of_below {K : List Nat} {w w' : World} (h : Below w.heap.size w w') : Tr K K w w' := ⟨.of_below h, fun k hk => .inl hk⟩
theorem Tr.drew {K0 K1 : List Nat} {a b : World} (h : Tr K0 K1 a b) : Tr K0 K1 a b.drew := ⟨h.tn.drew, h.fr⟩
/-- What a deed on the document's store leaves. -/
def Rd (K0 : List Nat) (B g h : Nat) (s : Ar) (L : List (Int × Ct)) (w w' : World) : Prop := ∃ v v2, Rs w' B g h v v2 s L ∧ Tr K0 (rK g h v v2) w w'
theorem Rd.after {K0 K1 : List Nat} {B g h : Nat} {s : Ar} {L : List (Int × Ct)} {a b c : World} (t : Tr K0 K1 a b) (r : Rd K1 B g h s L b c) : Rd K0 B g h s L a c := by
  obtain ⟨v, v2, r1, r2⟩ := r
  exact ⟨v, v2, r1, t.trans r2⟩
theorem info_kept : (Tryd.prog.info? 89).map (fun i => (i.zero, i.size, i.bytes)) = some (some (.agg #[.int .i64 0, .int .i64 0, .int .u32 0, .int .u32 0]), 4, 24) := by kernel_rfl
/-- Kept ones are appended. -/
theorem kpt_app {W : World} {base : Nat} {v : Value} {n : Nat} {xs : List Value} (h : W.ownsRow base 89 4 v n xs) (hbase : base ≤ W.heap.size) (ad : Addr) (m c : Nat) (ys : List Value) (hm : ys.length = m * 4)
    (hs : ∀ j u, ys[j]? = some u → W.cell? (ad.add j) = some u) (h1 : ∀ u ∈ ys, u.oneCell' = true) (hl : n + m ≤ 200000) :
    ∃ v' w', (Builtin.append_ #[71, 71] 71 #[v, .slice (some ad) m c]).run Tryd.prog W = .ok v' w' ∧ w'.ownsRow base 89 4 v' (n + m) (xs ++ ys) ∧ W.grownBy w' v.ownBlock
      ∧ (v'.ownBlock = v.ownBlock ∨ v'.ownBlock = some W.heap.size) := by
  obtain ⟨i0, hi, hz0, hz1, hz2⟩ := info_parts info_kept
  obtain ⟨v', w', r1, r2, r3, _, r4⟩ := run_append_own_at (P := Tryd.prog) W base 71 71 89 i0 (.agg #[.int .i64 0, .int .i64 0, .int .u32 0, .int .u32 0]) 4 24 Tryd.underlying71 hi hz0 hz1 hz2 rfl (by omega) v n xs h
    ad m c ys hm hs h1 (by unfold maxLen; omega) (by omega) hbase
  exact ⟨v', w', r1, r2, r3, r4⟩
section
variable {w w' : World} {B g h : Nat} {v v2 : Value} {s : Ar} {L : List (Int × Ct)}
theorem Rs.bl (r : Rs w B g h v v2 s L) : B ≤ w.heap.size := by have := r.blk.lt; have := r.lo; omega
/-- A deed on its arena. -/
theorem Rs.arena {v' : Value} {s' : Ar} (r : Rs w B g h v v2 s L) (ha : RfAt w' B g v' s') (hv : v'.ownBlock = v.ownBlock ∨ ∃ n, v'.ownBlock = some n ∧ w.heap.size ≤ n) (hf : Fr g v.ownBlock w w') :
    Rs w' B g h v' v2 s' L ∧ Tr (rK g h v v2) (rK g h v' v2) w w' := by
  have lh := r.blk.lt
  have hs := hf.size
  have n1 : ∀ k, k < w.heap.size → v.ownBlock ≠ some k → v'.ownBlock ≠ some k := fun k hk hn e => by
    rcases hv with e1 | ⟨n, e1, hn2⟩
    · exact hn (e1.symm.trans e)
    · have := Option.some.inj (e1.symm.trans e); omega
  have l2 : ∀ k, v2.ownBlock = some k → k < w.heap.size := fun k e => (r.row.lt k e).2
  refine ⟨⟨ha, (hf.block h lh (Ne.symm r.gh) r.vh).trans r.blk, owns_keep r.row fun k e => hf.block k (l2 k e) (fun e1 => r.wg (by rw [e, e1])) (fun e1 => r.vw k e1 e), r.gh, n1 h lh r.vh, r.wg, r.wh, fun k e e2 => n1 k (l2 k e2) (fun e1 => r.vw k e1 e2) e, r.lo, r.few, r.ok⟩, ⟨hf.os, hf.tape, hf.output, hs, fun k hk hn => hf.block k hk (fun e => hn (by simp [rK, e])) (fun e => hn (by simp [rK, e]))⟩, fun k hk => ?_⟩
  unfold rK at hk ⊢
  simp only [List.mem_cons, List.mem_append, Option.mem_toList] at hk ⊢
  rcases hk with e | e | e | e
  · exact .inl (.inl e)
  · exact .inl (.inr (.inl e))
  · rcases hv with e1 | ⟨n, e1, hn2⟩
    · exact .inl (.inr (.inr (.inl (e1.symm.trans e))))
    · have := Option.some.inj (e1.symm.trans e)
      exact .inr ⟨by omega, (ha.vlt k e).2⟩
  · exact .inl (.inr (.inr (.inr e)))
/-- Its list is another one. -/
theorem Rs.lst {w2 : World} {v2' : Value} {L' : List (Int × Ct)} (r : Rs w B g h v v2 s L) (t : Tn v2.ownBlock.toList w w2) (ro : w2.ownsRow B 89 4 v2' L'.length (kcells L')) (hv : ∀ n, v2'.ownBlock = some n → v2.ownBlock = some n ∨ w.heap.size ≤ n) (few : L'.length ≤ 1000) (ok : Kok L') :
    Rs (w2.setCell ⟨h, 1, none⟩ v2') B g h v v2' s L' ∧ Tr (rK g h v v2) (rK g h v v2') w (w2.setCell ⟨h, 1, none⟩ v2') := by
  have lh := r.blk.lt
  have lg := r.rf.lt
  have lv := r.rf.vlt
  have hs := t.size
  have k2 : ∀ k, k < w.heap.size → v2.ownBlock ≠ some k → w2.heap[k]? = w.heap[k]? := fun k hk hn => t.block k hk (by simp; exact hn)
  have hw : ∀ k, k ≠ h → (w2.setCell ⟨h, 1, none⟩ v2').heap[k]? = w2.heap[k]? := fun k hk => Below.heap_setCell _ _ _ _ hk
  have n2 : ∀ k, k < w.heap.size → v2.ownBlock ≠ some k → v2'.ownBlock ≠ some k := fun k hk hn e => by
    rcases hv k e with e1 | e1
    · exact hn e1
    · omega
  have b2 : Has w2 h 73 #[.pointer (some ⟨g, 0, none⟩), v2] := (k2 h lh r.wh).trans r.blk
  refine ⟨⟨r.rf.keep fun k hk => ?_, ?_, owns_keep ro fun k e => hw k (fun e1 => n2 h lh r.wh (by rw [e, e1])), r.gh, r.vh, n2 g lg r.wg, n2 h lh r.wh, fun k e => n2 k (lv k e).2 (r.vw k e), r.lo, few, ok⟩, ⟨t.os, t.tape, t.output, by simp [World.setCell]; omega, fun k hk hn => ?_⟩, fun k hk => ?_⟩
  · have hkh : k ≠ h := by
      rcases hk with rfl | e
      · exact r.gh
      · exact fun e1 => r.vh (by rw [e, e1])
    refine (hw k hkh).trans (k2 k ?_ ?_)
    · rcases hk with rfl | e
      · exact lg
      · exact (lv k e).2
    · rcases hk with rfl | e
      · exact r.wg
      · exact r.vw k e
  · have := b2.put 1 v2'
    simpa using this
  · refine (hw k fun e => hn (by simp [rK, e])).trans (k2 k hk fun e => hn (by simp [rK, e]))
  · unfold rK at hk ⊢
    simp only [List.mem_cons, List.mem_append, Option.mem_toList] at hk ⊢
    rcases hk with e | e | e | e
    · exact .inl (.inl e)
    · exact .inl (.inr (.inl e))
    · exact .inl (.inr (.inr (.inl e)))
    · rcases hv k e with e1 | e1
      · exact .inl (.inr (.inr (.inr e1)))
      · have := (ro.lt k e).2
        exact .inr ⟨e1, by simpa [World.setCell] using this⟩
/-- How often one of it is counted is another number. -/
theorem Rs.cnt {i q cap : Nat} (r : Rs w B g h v (.slice (some ⟨q, 0, none⟩) L.length cap) s L) (hi : i < L.length) (t : Int) (ht : 0 ≤ t ∧ t ≤ 1000000) :
    Rs (w.setCell ⟨q, i * 4 + 1, none⟩ (.int .i64 t)) B g h v (.slice (some ⟨q, 0, none⟩) L.length cap) s (L.set i ((kp L i).1, ⟨(kp L i).2.s, (kp L i).2.g, t⟩)) ∧ Tr (rK g h v (.slice (some ⟨q, 0, none⟩) L.length cap)) (rK g h v (.slice (some ⟨q, 0, none⟩) L.length cap)) w (w.setCell ⟨q, i * 4 + 1, none⟩ (.int .i64 t)) := by
  have hw : ∀ k, k ≠ q → (w.setCell ⟨q, i * 4 + 1, none⟩ (.int .i64 t)).heap[k]? = w.heap[k]? := fun k hk => Below.heap_setCell _ _ _ _ hk
  have hqg : q ≠ g := fun e => r.wg (by rw [← e]; rfl)
  have hqh : q ≠ h := fun e => r.wh (by rw [← e]; rfl)
  refine ⟨⟨r.rf.keep fun k hk => hw k ?_, (hw h (Ne.symm hqh)).trans r.blk, ?_, r.gh, r.vh, r.wg, r.wh, r.vw, r.lo, by simpa using r.few, fun p hp => ?_⟩, ⟨rfl, rfl, rfl, by simp [World.setCell], fun k hk hn => hw k fun e => hn (by simp [rK, e, Value.ownBlock])⟩, fun k hk => .inl hk⟩
  · rcases hk with rfl | e
    · exact Ne.symm hqg
    · exact fun e1 => r.vw k e (by rw [e1]; rfl)
  · have := (r.row.stored (i * 4 + 1) (.int .i64 t)).1
    rw [kcells_set L i hi t] at this
    rw [List.length_set]
    exact this
  · rcases List.mem_or_eq_of_mem_set hp with h1 | h1
    · exact r.ok p h1
    · have := r.okAt hi
      rw [h1]
      exact ⟨this.1, this.2.1, this.2.2.1, this.2.2.2.1, ht.1, ht.2⟩
theorem rcount_any (r : Rs w B g h v v2 s L) (k : Int) :
    Calls Tryd.prog 22 #[.pointer (some ⟨h, 0, none⟩), .int .i64 k] w fun e w' => e = .returned (.int .i64 ((fof L k).getD zc).t) ∧ w = w' := by
  have HF := Lib.hid (rfind_any r k)
  have hfew := r.few
  have hle := fnd_le L k
  cases e : fof L k with
  | none =>
    have hw : fwh L k = -1 := by unfold fwh; rw [fof_none e, if_neg (by omega)]
    rw [hw] at HF
    clear r e hw
    go_enter Tryd.func22, Tryd.ntmps22
    go_wp2_with fail
    refine HF.out.mono ?_
    rintro e w1 ⟨rfl, rfl⟩
    go_wp2
    go_ret
    exact ⟨rfl, rfl⟩
  | some c =>
    obtain ⟨hi, he⟩ := fof_some e
    have hw : fwh L k = (fnd L k : Nat) := by unfold fwh; rw [if_pos hi]
    rw [hw] at HF
    obtain ⟨q, cap, rfl, hqh, hqg, hq, hc1, hc2, d0, d1, d2, d3, hfz⟩ := r.slot hi
    rw [he] at d1
    have c1 := r.c1
    clear r e hw he d0 d2 d3 hfz
    generalize fnd L k = i at *
    generalize L.length = n at *
    obtain ⟨cs, cg, ct⟩ := c
    dsimp only at d1 ⊢
    have hin : (i : Int) < (n : Int) := by omega
    go_enter Tryd.func22, Tryd.ntmps22
    go_wp2_with fail
    refine HF.out.mono ?_
    rintro e w1 ⟨rfl, rfl⟩
    go_wp2
    go_ret
    exact ⟨rfl, rfl⟩
theorem rlen_any (r : Rs w B g h v v2 s L) :
    Calls Tryd.prog 24 #[.pointer (some ⟨h, 0, none⟩)] w fun e w' => e = .returned (.int .i64 L.length) ∧ w = w' := by
  have c1 := r.c1
  obtain ⟨A, cp, rfl⟩ := own_slice r.row
  clear r
  generalize L.length = n at *
  go_enter Tryd.func24, Tryd.ntmps24
  go_wp2
  go_ret
  exact ⟨rfl, rfl⟩
/-- What Hold makes of the list. -/
def lhold (L : List (Int × Ct)) (k : Int) : List (Int × Ct) := match fof L k with
  | some c => L.set (fnd L k) (k, ⟨c.s, c.g, c.t + 1⟩)
  | none => L
set_option maxHeartbeats 1000000 in
theorem rhold_any (r : Rs w B g h v v2 s L) (k : Int) (hN : ∀ p ∈ L, p.2.t ≤ 100000) :
    Calls Tryd.prog 15 #[.pointer (some ⟨h, 0, none⟩), .int .i64 k] w fun e w' => e = .returned (.bool (fof L k).isSome) ∧ Rd (rK g h v v2) B g h s (lhold L k) w w' := by
  have HF := Lib.hid (rfind_any r k)
  have hfew := r.few
  have hle := fnd_le L k
  cases e : fof L k with
  | none =>
    have hw : fwh L k = -1 := by unfold fwh; rw [fof_none e, if_neg (by omega)]
    have HE : Hid (lhold L k = L) := Lib.hid (by unfold lhold; rw [e])
    rw [hw] at HF
    have HR := Lib.hid r
    clear r e hw hN
    go_enter Tryd.func15, Tryd.ntmps15
    go_wp2_with fail
    refine HF.out.mono ?_
    rintro e w1 ⟨rfl, rfl⟩
    go_wp2
    go_ret
    exact ⟨rfl, v, v2, by rw [HE.out]; exact HR.out, .of_below (.refl _ _)⟩
  | some c =>
    obtain ⟨hi, he⟩ := fof_some e
    have hw : fwh L k = (fnd L k : Nat) := by unfold fwh; rw [if_pos hi]
    rw [hw] at HF
    obtain ⟨q, cap, rfl, hqh, hqg, hq, hc1, hc2, d0, d1, d2, d3, hfz⟩ := r.slot hi
    have hok := r.okAt hi
    have hct := hN _ (List.mem_of_getElem? (kp_get hi))
    rw [he] at d1 hok hct
    have hcn := r.cnt hi (c.t + 1) ⟨by have := hok.2.2.2.2.1; show 0 ≤ c.t + 1; dsimp only at this; omega, by dsimp only at hct; show c.t + 1 ≤ 1000000; omega⟩
    rw [he] at hcn
    have HE : Hid (lhold L k = L.set (fnd L k) (k, ⟨c.s, c.g, c.t + 1⟩)) := Lib.hid (by unfold lhold; rw [e])
    have c1 := r.c1
    have f1 := hfz (fnd L k * 4 + 1)
    have h1t : 0 ≤ c.t := hok.2.2.2.2.1
    have h2t : c.t ≤ 100000 := hct
    have HC := Lib.hid hcn
    clear r e hw he d0 d2 d3 hfz hcn hok hct hN
    generalize fnd L k = i at *
    generalize hn : L.length = n at *
    have HN := Lib.hid hn
    clear hn
    obtain ⟨cs, cg, ct⟩ := c
    dsimp only at d1 HC HE h1t h2t
    have hin : (i : Int) < (n : Int) := by omega
    go_enter Tryd.func15, Tryd.ntmps15
    go_wp2_with fail
    refine HF.out.mono ?_
    rintro e w1 ⟨rfl, rfl⟩
    go_wp2
    go_ret
    exact ⟨rfl, v, _, by rw [HE.out]; exact HC.out.1, HC.out.2⟩
end
end Go.Proofs.YtglhebpblncjaaaDoor
