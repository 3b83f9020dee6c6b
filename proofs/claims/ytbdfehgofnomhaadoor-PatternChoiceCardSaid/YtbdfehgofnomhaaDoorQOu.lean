/- Layer 9: items gathered in a slice of the call's own. -/
import Derived.Test.YtbdfehgofnomhaaDoorQPaItF
import Derived.Test.YtbdfehgofnomhaaDoorQEx
namespace Go.Proofs.YtbdfehgofnomhaaDoor
open Go.RowKit
set_option linter.unusedVariables false

def icl (x : IT) : List Value := [.int .i64 x.k, .string (str x.nm), .string (str x.vr), .slice x.pA x.ps.length x.pc, .int .i64 x.lo, .int .i64 x.hi, .slice x.kA x.ks.length x.kc]
/-- The cells of items. -/
def icells (l : List IT) : List Value := l.flatMap icl
theorem icl_len (x : IT) : (icl x).length = 7 := rfl
theorem icells_len (l : List IT) : (icells l).length = l.length * 7 := by
  induction l with
  | nil => rfl
  | cons x xs ih => rw [icells, List.flatMap_cons, List.length_append, ← icells, ih, icl_len, List.length_cons]; omega
theorem icells_snoc (l : List IT) (x : IT) : icells (l ++ [x]) = icells l ++ icl x := by simp [icells]
theorem icells_get : ∀ {l : List IT} {i r : Nat} {x : IT}, l[i]? = some x → r < 7 → (icells l)[i * 7 + r]? = (icl x)[r]?
  | [], i, r, x, h, _ => by simp at h
  | y :: ys, 0, r, x, h, hr => by
    simp at h
    subst h
    rw [icells, List.flatMap_cons, List.getElem?_append_left (by rw [icl_len]; omega)]
    simp
  | y :: ys, i + 1, r, x, h, hr => by
    have := icells_get (l := ys) (i := i) (r := r) (x := x) (by simpa using h) hr
    rw [icells, List.flatMap_cons, List.getElem?_append_right (by rw [icl_len]; omega), icl_len, ← icells, ← this]
    congr 1
    omega
theorem pinfo_parts {e : TypeId} {z : Value} {s b : Nat} (h : (Tryd.prog.info? e).map (fun i => (i.zero, i.size, i.bytes)) = some (some z, s, b)) : ∃ i, Tryd.prog.info? e = some i ∧ i.zero = some z ∧ i.size = s ∧ i.bytes = b := by
  cases hi : Tryd.prog.info? e with
  | none => rw [hi] at h; cases h
  | some i => rw [hi] at h; simp at h; exact ⟨i, rfl, h.1, h.2.1, h.2.2⟩
theorem pinfo_item : (Tryd.prog.info? 42).map (fun i => (i.zero, i.size, i.bytes)) = some (some (.agg #[.int .i64 0, .string { data := #[] }, .string { data := #[] }, .slice none 0 0, .int .i64 0, .int .i64 0, .slice none 0 0]), 7, 104) := by kernel_rfl
/-- What an append of an item leaves. -/
theorem item_app {w : World} {base q n : Nat} {v : Value} {l : List IT} {x : IT} (hn : l.length = n) (h : w.ownsRow base 42 7 v n (icells l)) (hq : Has w q 42 (csI x)) (hb : base ≤ w.heap.size) (h1 : n ≤ 1000) :
    ∃ A c w', (Builtin.append_ #[22, 22] 22 #[v, .slice (some ⟨q, 0, none⟩) 1 1]).run Tryd.prog w = .ok (.slice A (n + 1) c) w' ∧ w'.ownsRow base 42 7 (.slice A (n + 1) c) (n + 1) (icells (l ++ [x])) ∧ w.grownBy w' v.ownBlock
      ∧ ((Value.slice A (n + 1) c).ownBlock = v.ownBlock ∨ (Value.slice A (n + 1) c).ownBlock = some w.heap.size) := by
  obtain ⟨i0, hi, hz0, hz1, hz2⟩ := pinfo_parts pinfo_item
  obtain ⟨v', w', r1, r2, r3, _, r4⟩ := run_append_own_at (P := Tryd.prog) w base 22 22 42 i0 (.agg #[.int .i64 0, .string { data := #[] }, .string { data := #[] }, .slice none 0 0, .int .i64 0, .int .i64 0, .slice none 0 0]) 7 104 Tryd.underlying22 hi hz0 hz1 hz2 rfl (by omega) v n (icells l) h
    ⟨q, 0, none⟩ 1 1 (icl x) rfl (fun j u hu => by
      rw [Go.WideShapes.add_plain, Nat.zero_add, hq.cell j]
      simpa [icl] using hu) (by intro u hu; simp [icl] at hu; rcases hu with rfl | rfl | rfl | rfl | rfl | rfl | rfl <;> rfl) (by unfold maxLen; omega) (by omega) hb
  obtain ⟨A, c, rfl⟩ : ∃ A c, v' = .slice A (n + 1) c := by
    rcases r2.2 with ⟨_, h0⟩ | ⟨g, cap, cur, e, _⟩
    · omega
    · exact ⟨_, _, e⟩
  exact ⟨A, c, w', r1, by rw [icells_snoc]; exact r2, r3, r4⟩
/-- What lies below N, what is the reader's, and where the items lie. -/
def nwO (N p : Nat) (K : PK) (v : Value) (q : Nat) : Bool := nwS N p K q || (v.ownBlock == some q)
theorem nwO_not {N p : Nat} {K : PK} {v : Value} {q : Nat} : nwO N p K v q = false ↔ (N ≤ q ∧ rdOwn p K q = false) ∧ v.ownBlock ≠ some q := by
  unfold nwO
  rw [Bool.or_eq_false_iff, nwS_not]
  simp
/-- Items that were gathered so far. -/
structure OutI (wp w : World) (p : Nat) (K : PK) (W m : Nat) (l : List IT) (A : Option Addr) (c : Nat) (K' : PK) (wr : World) : Prop where
  own : wr.ownsRow w.heap.size 42 7 (.slice A l.length c) l.length (icells l)
  off : ∀ q, (Value.slice A l.length c).ownBlock = some q → rdOwn p K' q = false
  its : ∀ t ∈ l, rightI t = true ∧ wtI t ≤ W ∧ t.In (hidS (nwO w.heap.size p K' (.slice A l.length c)) wr)
  rd : Rd wp p K' wr
  fr : FrI p K w K' wr
  lo : K.M ≤ K'.M
  hi : K'.M ≤ K.M + m * l.length
  wpl : wp.heap.size ≤ w.heap.size
theorem OutI.first {wp w : World} {p : Nat} {K K2 : PK} {W m : Nat} {x : IT} {w2 : World} (hw : wp.heap.size ≤ w.heap.size) (hx : rightI x = true ∧ wtI x ≤ W ∧ x.In (Ot w.heap.size p K2 w2)) (hr : Rd wp p K2 w2) (hf : FrI p K w K2 w2) (hM : K.M + 1 ≤ K2.M ∧ K2.M ≤ K.M + m) :
    OutI wp w p K W m [x] (some ⟨w2.heap.size, 0, none⟩) 1 K2 (w2.alloc (.cells (csI x) 42)) := by
  have b := step1 w2 (.cells (csI x) 42)
  refine ⟨World.ownsRow_lit w2 (csI x) 1 hf.size (by unfold maxLen; omega) rfl, fun q hq => ?_, fun t ht => ?_, hr.below b, hf.belowB (b.mono hf.size), by omega, by simp; omega, hw⟩
  · have e : some w2.heap.size = some q := hq
    injection e with e
    exact hr.new (by omega)
  · obtain rfl := List.mem_singleton.1 ht
    refine ⟨hx.1, hx.2.1, IT.In.imp (fun a v hv => ?_) _ hx.2.2⟩
    obtain ⟨h1, h2⟩ := hidS_cell hv
    have hlt := World.block_lt_of_cell? _ _ h2
    refine cell_hidS (nwO_not.2 ⟨nwS_not.1 h1, fun e => ?_⟩) (below_imp b _ _ h2)
    have e' : some w2.heap.size = some a.block := e
    injection e' with e'
    omega
theorem OutI.step {wp w wr : World} {p : Nat} {K K1 K2 : PK} {W m c : Nat} {l : List IT} {A : Option Addr} (h : OutI wp w p K W m l A c K1 wr) (hl : l.length ≤ 50) {x : IT} {w2 : World} (hx : rightI x = true ∧ wtI x ≤ W ∧ x.In (Ot wr.heap.size p K2 w2)) (hr : Rd wp p K2 w2) (hf : FrI p K1 wr K2 w2) (hM : K1.M + 1 ≤ K2.M ∧ K2.M ≤ K1.M + m) :
    ∃ A' c' w3, (Builtin.append_ #[22, 22] 22 #[.slice A l.length c, .slice (some ⟨w2.heap.size, 0, none⟩) 1 1]).run Tryd.prog (w2.alloc (.cells (csI x) 42)) = .ok (.slice A' (l.length + 1) c') w3 ∧ OutI wp w p K W m (l ++ [x]) A' c' K2 w3 := by
  have b := step1 w2 (.cells (csI x) 42)
  have hz := alloc_size w2 (.cells (csI x) 42)
  have hq : Has (w2.alloc (.cells (csI x) 42)) w2.heap.size 42 (csI x) := has_at rfl rfl
  have hN : w.heap.size ≤ w2.heap.size := Nat.le_trans h.fr.size hf.size
  have own2 : (w2.alloc (.cells (csI x) 42)).ownsRow w.heap.size 42 7 (.slice A l.length c) l.length (icells l) := own_same h.own fun q hq => by
    have h1 := (h.own.lt q hq).2
    rw [alloc_same _ _ (by have := hf.size; omega), hf.block q h1 (h.off q hq)]
  obtain ⟨A', c', w3, r1, r2, r3, r4⟩ := item_app rfl own2 hq (by omega) (by omega)
  have hfr2 : FrI p K w K2 (w2.alloc (.cells (csI x) 42)) := (h.fr.trans hf).belowB (b.mono hN)
  have hold : ∀ q, (Value.slice A l.length c).ownBlock = some q → rdOwn p K2 q = false := fun q hq => by
    cases e : rdOwn p K2 q with
    | false => rfl
    | true =>
      rcases hf.own q e with h1 | h1
      · rw [h.off q hq] at h1; cases h1
      · have := (h.own.lt q hq).2; omega
  have g3 : ∀ q, q < w2.heap.size → (Value.slice A l.length c).ownBlock ≠ some q → w3.heap[q]? = w2.heap[q]? := fun q hq hn => (r3.block q (by omega) (fun e => hn e.symm)).trans (alloc_same _ _ hq)
  have b3 : Below w.heap.size (w2.alloc (.cells (csI x) 42)) w3 := (Below.refl _ _).grown r3 (by omega) (fun j hj => (h.own.lt j hj).1)
  have hl3 : (l ++ [x]).length = l.length + 1 := by simp

  refine ⟨A', c', w3, r1, ?_⟩
  refine ⟨by rw [hl3]; exact r2, fun q hq => ?_, fun t ht => ?_, ?_, hfr2.belowB b3, by have := h.lo; omega, ?_, h.wpl⟩
  · rw [hl3] at hq
    rcases r4 with h1 | h1
    · exact hold q (h1.symm.trans hq)
    · have hq2 := Option.some.inj ((show some (w2.heap.size + 1) = some q by rw [← hz, ← h1]; exact hq))
      exact hr.new (by rw [← hq2]; exact Nat.le_succ _)
  · have fin : ∀ a v, w2.cell? a = some v → w.heap.size ≤ a.block → rdOwn p K2 a.block = false → (Value.slice A l.length c).ownBlock ≠ some a.block → (hidS (nwO w.heap.size p K2 (.slice A' (l ++ [x]).length c')) w3).cell? a = some v := fun a v hv h1 h2 h3 => by
      have hlt := World.block_lt_of_cell? _ _ hv
      refine cell_hidS (nwO_not.2 ⟨⟨h1, h2⟩, fun e => ?_⟩) ((cell_block (g3 _ hlt h3)).trans hv)
      rw [hl3] at e
      rcases r4 with h4 | h4
      · exact h3 (h4.symm.trans e)
      · have hq2 := Option.some.inj ((show some (w2.heap.size + 1) = some a.block by rw [← hz, ← h4]; exact e))
        omega
    rcases List.mem_append.1 ht with ht | ht
    · obtain ⟨t1, t2, t3⟩ := h.its t ht
      refine ⟨t1, t2, IT.In.imp (fun a v hv => ?_) _ t3⟩
      obtain ⟨h1, h2⟩ := hidS_cell hv
      obtain ⟨⟨h3, h4⟩, h5⟩ := nwO_not.1 h1
      have hlt := World.block_lt_of_cell? _ _ h2
      refine fin a v ((cell_block (hf.block _ hlt h4)).trans h2) h3 ?_ h5
      cases e : rdOwn p K2 a.block with
      | false => rfl
      | true =>
        rcases hf.own _ e with h6 | h6
        · rw [h4] at h6; cases h6
        · omega
    · obtain rfl := List.mem_singleton.1 ht
      refine ⟨hx.1, hx.2.1, IT.In.imp (fun a v hv => ?_) _ hx.2.2⟩
      obtain ⟨h1, h2⟩ := hidS_cell hv
      obtain ⟨h3, h4⟩ := nwS_not.1 h1
      refine fin a v h2 (Nat.le_trans h.fr.size h3) h4 fun e => ?_
      have := (h.own.lt _ e).2
      omega
  · refine (hr.below b).other (b3.mono h.wpl) fun q hq => ?_
    · rw [r3.block q (by have := (hr.own_lt hq).2; omega) (fun e => by have := hold q e.symm; rw [hq] at this; cases this)]
  · have := h.hi
    rw [hl3]
    have e : (m : Int) * ((l.length + 1 : Nat) : Int) = m * l.length + m := by rw [Int.natCast_succ, Int.mul_add, Int.mul_one]
    omega
theorem OutI.drew {wp w wr : World} {p : Nat} {K K' : PK} {W m c : Nat} {l : List IT} {A : Option Addr} (h : OutI wp w p K W m l A c K' wr) : OutI wp w p K W m l A c K' wr.drew :=
  ⟨h.own.drew, h.off, fun t ht => ⟨(h.its t ht).1, (h.its t ht).2.1, IT.In.imp (fun a v hv => by obtain ⟨h1, h2⟩ := hidS_cell hv; exact cell_hidS h1 (show wr.drew.cell? a = some v from h2)) _ (h.its t ht).2.2⟩, h.rd.below (Below.refl _ _).drew, h.fr.belowB (Below.refl _ _).drew, h.lo, h.hi, h.wpl⟩
theorem wts_le {W : Nat} : ∀ {l : List IT}, (∀ t ∈ l, wtI t ≤ W) → wtIs l ≤ l.length * W
  | [], _ => by rw [wtIs_nil]; omega
  | x :: xs, h => by
    have h1 := h x (by simp)
    have h2 := wts_le (l := xs) fun t ht => h t (by simp [ht])
    rw [wtIs_cons, List.length_cons, Nat.succ_mul]; omega
theorem rights_of : ∀ {l : List IT}, (∀ t ∈ l, rightI t = true) → rightLs l = true
  | [], _ => by rw [rightLs]
  | x :: xs, h => by rw [rightLs_cons, h x (by simp), rights_of (l := xs) fun t ht => h t (by simp [ht])]; rfl
theorem rights_ne {l : List IT} (h : ∀ t ∈ l, rightI t = true) (h0 : 1 ≤ l.length) : rightIs l = true := by
  unfold rightIs
  rw [rights_of h]
  match l, h0 with
  | x :: xs, _ => rfl
/-- How the slice lies. -/
theorem OutI.shape {wp w wr : World} {p : Nat} {K K' : PK} {W m c : Nat} {l : List IT} {A : Option Addr} (h : OutI wp w p K W m l A c K' wr) (h1 : 1 ≤ l.length) :
    ∃ g, A = some ⟨g, 0, none⟩ ∧ l.length ≤ c ∧ c ≤ maxLen ∧ w.heap.size ≤ g ∧ rdOwn p K' g = false ∧ ∀ i r u, r < 7 → ∀ x, l[i]? = some x → (icl x)[r]? = some u → wr.cell? ⟨g, i * 7 + r, none⟩ = some u := by
  rcases h.own.2 with ⟨_, h0⟩ | ⟨g, cap, cur, e, hg, hh, hn, hm, _, _⟩
  · omega
  · injection e with e1 _ e2
    subst e1 e2
    refine ⟨g, rfl, hn, hm, hg, h.off g rfl, fun i r u hr x hx hu => ?_⟩
    have := h.own.cells (g := g) rfl (i * 7 + r) u ((icells_get hx hr).trans hu)
    rwa [Go.WideShapes.add_plain, Nat.zero_add] at this
theorem OutI.fin {wp w wr : World} {p : Nat} {K K' : PK} {W m c : Nat} {l : List IT} {A : Option Addr} (h : OutI wp w p K W m l A c K' wr) (h1 : 1 ≤ l.length) (h2 : l.length ≤ 4) :
    okS A l.length c ∧ (rightIs l = true ∧ wtIs l ≤ 4 * W ∧ Its (Ot w.heap.size p K' wr) A l) ∧ Rd wp p K' wr ∧ FrI p K w K' wr ∧ (K.M ≤ K'.M ∧ K'.M ≤ K.M + (4 * m : Nat)) := by
  obtain ⟨g, rfl, hn, hm, hg, ho, hc⟩ := h.shape h1
  refine ⟨⟨(fun h => by cases h), hn, hm⟩, ⟨rights_ne (fun t ht => (h.its t ht).1) h1, ?_, fun j hj => ⟨?_, ?_⟩⟩, h.rd, h.fr, h.lo, ?_⟩
  · exact Nat.le_trans (wts_le fun t ht => (h.its t ht).2.1) (Nat.mul_le_mul_right _ h2)
  · have hx : l[j]? = some l[j] := List.getElem?_eq_getElem hj
    have cc : ∀ r u, r < 7 → (icl l[j])[r]? = some u → (Ot w.heap.size p K' wr).cell? ⟨g, 0 + j * 7 + r, none⟩ = some u := fun r u hr hu => by
      rw [Nat.zero_add]
      exact cell_hidS (nwS_not.2 ⟨hg, ho⟩) (hc j r u hr _ hx hu)
    exact ⟨g, 0, rfl, cc 0 _ (by omega) rfl, cc 1 _ (by omega) rfl, cc 2 _ (by omega) rfl, cc 3 _ (by omega) rfl, cc 4 _ (by omega) rfl, cc 5 _ (by omega) rfl, cc 6 _ (by omega) rfl⟩
  · refine IT.In.imp (fun a v hv => ?_) _ (h.its _ (List.getElem_mem hj)).2.2
    obtain ⟨h3, h4⟩ := hidS_cell hv
    exact cell_hidS (nwS_not.2 (nwO_not.1 h3).1) h4
  · have h5 := h.hi
    have h6 : (m : Int) * (l.length : Int) ≤ m * 4 := Int.mul_le_mul_of_nonneg_left (by omega) (by omega)
    have h7 : ((4 * m : Nat) : Int) = m * 4 := by rw [Nat.mul_comm]; exact Int.natCast_mul m 4
    omega
end Go.Proofs.YtbdfehgofnomhaaDoor
/- Layer 9: a choice that bytes make: between its first list and its second. -/
namespace Go.Proofs.YtbdfehgofnomhaaDoor
open Go.RowKit
set_option linter.unusedVariables false

/-- Items of the call's own, none of them in q1. -/
def LsI (N p q1 W : Nat) (Ku : PK) (u : World) (A : Option Addr) (c : Nat) (l : List IT) : Prop :=
  okS A l.length c ∧ (rightIs l = true ∧ wtIs l ≤ W) ∧ Its (hidS (fun q => nwS N p Ku q || (q == q1)) u) A l
theorem LsI.imp {N p q1 W : Nat} {Ku K3 : PK} {u u' : World} {A : Option Addr} {c : Nat} {l : List IT} (h : LsI N p q1 W Ku u A c l)
    (hb : ∀ q, N ≤ q → q < u.heap.size → rdOwn p Ku q = false → q ≠ q1 → u'.heap[q]? = u.heap[q]? ∧ rdOwn p K3 q = false) : LsI N p q1 W K3 u' A c l :=
  ⟨h.1, h.2.1, h.2.2.imp fun a v hv => by
    obtain ⟨h1, h2⟩ := hidS_cell hv
    simp only [Bool.or_eq_false_iff] at h1
    obtain ⟨h3, h4⟩ := nwS_not.1 h1.1
    have h5 : a.block ≠ q1 := by simpa using h1.2
    obtain ⟨h6, h7⟩ := hb _ h3 (World.block_lt_of_cell? _ _ h2) h4 h5
    refine cell_hidS ?_ ((cell_block h6).trans h2)
    simp only [Bool.or_eq_false_iff]
    exact ⟨nwS_not.2 ⟨h3, h7⟩, h1.2⟩⟩
structure Mid (wp w : World) (p g q1 N W : Nat) (K : PK) (A1 : Option Addr) (c1 : Nat) (l1 : List IT) (Ku : PK) (u : World) : Prop where
  rd : Rd wp p Ku u
  fr : FrI p K w Ku u
  hg : Has u g 42 (csIm 3 [] [] none 0 0 0 0 (some ⟨q1, 0, none⟩) 1 1)
  h6 : Has u w.heap.size 42 zer7
  ng : rdOwn p Ku g = false
  n6 : rdOwn p Ku w.heap.size = false
  nq : rdOwn p Ku q1 = false
  l1 : LsI N p q1 W Ku u A1 c1 l1
  q1u : q1 < u.heap.size
  Nq : N ≤ q1
  gN : g < N
  wg : w.heap.size < g
  wpw : wp.heap.size ≤ w.heap.size
theorem FrI.own_not {p q : Nat} {K K' : PK} {w w' : World} (h : FrI p K w K' w') (hq : q < w.heap.size) (hn : rdOwn p K q = false) : rdOwn p K' q = false := by
  cases e : rdOwn p K' q with
  | false => rfl
  | true =>
    rcases h.own _ e with h5 | h5
    · rw [hn] at h5; cases h5
    · omega
section
variable {wp w u : World} {p g q1 N W c1 : Nat} {K Ku : PK} {A1 : Option Addr} {l1 : List IT}
/-- The second list is made. -/
theorem Mid.call {K3 : PK} {u' : World} (h : Mid wp w p g q1 N W K A1 c1 l1 Ku u) (hf : FrI p Ku u K3 u') (hr : Rd wp p K3 u') : Mid wp w p g q1 N W K A1 c1 l1 K3 u' := by
  obtain ⟨a1, a2⟩ := hf.has h.hg h.ng
  obtain ⟨b1, b2⟩ := hf.has h.h6 h.n6
  exact ⟨hr, h.fr.trans hf, a1, b1, a2, b2, hf.own_not h.q1u h.nq, h.l1.imp fun q _ hq hn _ => ⟨hf.block q hq hn, hf.own_not hq hn⟩, Nat.lt_of_lt_of_le h.q1u hf.size, h.Nq, h.gN, h.wg, h.wpw⟩
theorem LsI.below {u' : World} {A : Option Addr} {c : Nat} {l : List IT} (h : LsI N p q1 W Ku u A c l) (hb : Below u.heap.size u u') : LsI N p q1 W Ku u' A c l := h.imp fun q _ hq hn _ => ⟨hb.block q hq, hn⟩
theorem Mid.below {u' : World} (h : Mid wp w p g q1 N W K A1 c1 l1 Ku u) (hb : Below u.heap.size u u') : Mid wp w p g q1 N W K A1 c1 l1 Ku u' :=
  ⟨h.rd.below hb, h.fr.belowB (hb.mono h.fr.size), h.hg.below hb h.hg.lt, h.h6.below hb h.h6.lt, h.ng, h.n6, h.nq, h.l1.below hb, Nat.lt_of_lt_of_le h.q1u hb.size, h.Nq, h.gN, h.wg, h.wpw⟩
theorem LsI.second {A2 : Option Addr} {c2 : Nat} {l2 : List IT} {K3 : PK} {u' : World} (h : Mid wp w p g q1 N W K A1 c1 l1 Ku u) (ho : okS A2 l2.length c2) (hg : rightIs l2 = true ∧ wtIs l2 ≤ W) (hi : Its (Ot u.heap.size p K3 u') A2 l2) : LsI N p q1 W K3 u' A2 c2 l2 :=
  ⟨ho, hg, hi.imp fun a v hv => by
    obtain ⟨h1, h2⟩ := hidS_cell hv
    obtain ⟨h3, h4⟩ := nwS_not.1 h1
    refine cell_hidS ?_ h2
    have := h.q1u; have := h.Nq
    simp only [Bool.or_eq_false_iff]
    exact ⟨nwS_not.2 ⟨by omega, h4⟩, by simp; omega⟩⟩
/-- The append: no block but q1 is another one. -/
theorem LsI.grown {u' : World} {A : Option Addr} {c : Nat} {l : List IT} (h : LsI N p q1 W Ku u A c l) (hb : u.grownBy u' (some q1)) : LsI N p q1 W Ku u' A c l :=
  h.imp fun q _ hq hn hne => ⟨hb.block q hq (by simpa using hne), hn⟩
theorem Mid.grown {u' : World} (h : Mid wp w p g q1 N W K A1 c1 l1 Ku u) (hb : u.grownBy u' (some q1)) : Mid wp w p g q1 N W K A1 c1 l1 Ku u' := by
  have hw : w.heap.size ≤ q1 := by have := h.Nq; have := h.gN; have := h.wg; omega
  have hB : Below w.heap.size u u' := ⟨hb.os, hb.tape, hb.output, hb.size, fun q hq => hb.block q (by have := h.fr.size; omega) (by simp; omega)⟩
  have hB2 : Below wp.heap.size u u' := hB.mono h.wpw
  refine ⟨h.rd.other hB2 fun q hq => hb.block q (h.rd.own_lt hq).2 (fun e => by rw [Option.some.inj e, h.nq] at hq; cases hq), h.fr.belowB hB, (hb.block g h.hg.lt (by have := h.gN; have := h.Nq; simp; omega)).trans h.hg, (hb.block _ h.h6.lt (by have := h.gN; have := h.Nq; have := h.wg; simp; omega)).trans h.h6, h.ng, h.n6, h.nq, h.l1.grown hb, Nat.lt_of_lt_of_le h.q1u hb.size, h.Nq, h.gN, h.wg, h.wpw⟩
end
theorem seven_facts {w : World} {q : Nat} {t : TypeId} {k : Int} {nm vr : Nm} {pA : Option Addr} {pm pc : Nat} {lo hi : Int} {kA : Option Addr} {km kc : Nat} (h : Has w q t (csIm k nm vr pA pm pc lo hi kA km kc)) :
    (w.cell? ⟨q, 0, none⟩ = some (.int .i64 k) ∧ w.cell? ⟨q, 1, none⟩ = some (.string (str nm)) ∧ w.cell? ⟨q, 2, none⟩ = some (.string (str vr)) ∧ w.cell? ⟨q, 3, none⟩ = some (.slice pA pm pc) ∧ w.cell? ⟨q, 4, none⟩ = some (.int .i64 lo) ∧ w.cell? ⟨q, 5, none⟩ = some (.int .i64 hi) ∧ w.cell? ⟨q, 6, none⟩ = some (.slice kA km kc))
  ∧ (w.frozen? ⟨q, 0, none⟩ = false ∧ w.frozen? ⟨q, 1, none⟩ = false ∧ w.frozen? ⟨q, 2, none⟩ = false ∧ w.frozen? ⟨q, 3, none⟩ = false ∧ w.frozen? ⟨q, 4, none⟩ = false ∧ w.frozen? ⟨q, 5, none⟩ = false ∧ w.frozen? ⟨q, 6, none⟩ = false) ∧ q < w.heap.size :=
  ⟨⟨h.cell 0, h.cell 1, h.cell 2, h.cell 3, h.cell 4, h.cell 5, h.cell 6⟩, ⟨h.free 0, h.free 1, h.free 2, h.free 3, h.free 4, h.free 5, h.free 6⟩, h.lt⟩
/-- Behind the first list: the choice is set, with one list. -/
theorem mid_first {wp w X4 w2 : World} {p g W c1 : Nat} {K K1 K2 : PK} {A1 : Option Addr} {l1 : List IT} {nm vr : Nm} {k0 lo hi : Int} (h : Rd wp p K w) (hF : FrI p K w K1 X4) (hr : Rd wp p K2 w2) (hf : FrI p K1 X4 K2 w2) (hgl : g < X4.heap.size) (hg : w.heap.size + 1 ≤ g)
    (h10 : Has w2 g 42 (csIm k0 nm vr none 0 0 lo hi none 0 0)) (n10 : rdOwn p K2 g = false) (h6 : Has w2 w.heap.size 42 zer7) (n6 : rdOwn p K2 w.heap.size = false)
    (ok1 : okS A1 l1.length c1) (gg : rightIs l1 = true ∧ wtIs l1 ≤ W ∧ Its (Ot X4.heap.size p K2 w2) A1 l1) :
    Mid wp w p g w2.heap.size X4.heap.size W K A1 c1 l1 K2 (set7 (w2.alloc (.cells #[.slice A1 l1.length c1] 22)) g (.int .i64 3) (.string { data := #[] }) (.string { data := #[] }) (.slice none 0 0) (.int .i64 0) (.int .i64 0) (.slice (some ⟨w2.heap.size, 0, none⟩) 1 1))
    ∧ Has (set7 (w2.alloc (.cells #[.slice A1 l1.length c1] 22)) g (.int .i64 3) (.string { data := #[] }) (.string { data := #[] }) (.slice none 0 0) (.int .i64 0) (.int .i64 0) (.slice (some ⟨w2.heap.size, 0, none⟩) 1 1)) w2.heap.size 22 #[.slice A1 l1.length c1] := by
  obtain ⟨Y, hY⟩ : ∃ Y, w2.alloc (.cells #[.slice A1 l1.length c1] 22) = Y := ⟨_, rfl⟩
  have b3 : Below w2.heap.size w2 Y := by rw [← hY]; exact step1 _ _
  have hq : Has Y w2.heap.size 22 #[.slice A1 l1.length c1] := by rw [← hY]; exact has_at rfl rfl
  rw [hY]
  have hg2 : g < w2.heap.size := Nat.lt_of_lt_of_le hgl hf.size
  have hbw : Below w.heap.size Y (set7 Y g (.int .i64 3) (.string { data := #[] }) (.string { data := #[] }) (.slice none 0 0) (.int .i64 0) (.int .i64 0) (.slice (some ⟨w2.heap.size, 0, none⟩) 1 1)) := set7_below (by omega) _ _ _ _ _ _ _
  have hs : ∀ q, q ≠ g → (set7 Y g (.int .i64 3) (.string { data := #[] }) (.string { data := #[] }) (.slice none 0 0) (.int .i64 0) (.int .i64 0) (.slice (some ⟨w2.heap.size, 0, none⟩) 1 1)).heap[q]? = Y.heap[q]? := fun q hn => set7_same _ _ _ _ _ _ _ hn
  have hz := set7_size Y g (.int .i64 3) (.string { data := #[] }) (.string { data := #[] }) (.slice none 0 0) (.int .i64 0) (.int .i64 0) (.slice (some ⟨w2.heap.size, 0, none⟩) 1 1)
  have hset := set7_has (h10.below b3 h10.lt) (.int .i64 3) (.string { data := #[] }) (.string { data := #[] }) (.slice none 0 0) (.int .i64 0) (.int .i64 0) (.slice (some ⟨w2.heap.size, 0, none⟩) 1 1)
  generalize set7 Y g (.int .i64 3) (.string { data := #[] }) (.string { data := #[] }) (.slice none 0 0) (.int .i64 0) (.int .i64 0) (.slice (some ⟨w2.heap.size, 0, none⟩) 1 1) = Z at hbw hs hz hset ⊢
  have hqg : w2.heap.size ≠ g := by omega
  have h6' := h6.below b3 h6.lt
  refine ⟨⟨?_, ((hF.trans hf).belowB (b3.mono (Nat.le_trans hF.size hf.size))).belowB hbw, hset, (hs _ (by omega)).trans h6', n10, n6, hr.new (Nat.le_refl _), ⟨ok1, ⟨gg.1, gg.2.1⟩, ?_⟩, by rw [hz]; exact hq.lt, hf.size, hgl, by omega, h.bel.size⟩, (hs _ hqg).trans hq⟩
  · refine (hr.below b3).other (hbw.mono h.bel.size) fun q hq2 => hs q fun e => ?_
    rw [e, n10] at hq2; cases hq2
  · refine gg.2.2.imp fun a v hv => ?_
    obtain ⟨h1, h2⟩ := hidS_cell hv
    obtain ⟨h3, h4⟩ := nwS_not.1 h1
    have hlt := World.block_lt_of_cell? _ _ h2
    refine cell_hidS ?_ ((cell_block (hs _ (by omega))).trans (below_imp b3 _ _ h2))
    simp only [Bool.or_eq_false_iff]
    exact ⟨nwS_not.2 ⟨h3, h4⟩, by simp; omega⟩
theorem pinfo_its : (Tryd.prog.info? 22).map (fun i => (i.zero, i.size, i.bytes)) = some (some (.slice none 0 0), 1, 24) := by kernel_rfl
/-- A second list onto the first. -/
theorem kids_app {u : World} {q1 q2 N n1 c1 n2 c2 : Nat} {A1 A2 : Option Addr} (h1 : Has u q1 22 #[.slice A1 n1 c1]) (h2 : Has u q2 22 #[.slice A2 n2 c2]) (hN : N ≤ q1) :
    ∃ A c u', (Builtin.append_ #[40, 40] 40 #[.slice (some ⟨q1, 0, none⟩) 1 1, .slice (some ⟨q2, 0, none⟩) 1 1]).run Tryd.prog u = .ok (.slice A 2 c) u' ∧ u'.ownsRow N 22 1 (.slice A 2 c) 2 [.slice A1 n1 c1, .slice A2 n2 c2] ∧ u.grownBy u' (some q1)
      ∧ ((Value.slice A 2 c).ownBlock = some q1 ∨ (Value.slice A 2 c).ownBlock = some u.heap.size) := by
  obtain ⟨i0, hi, hz0, hz1, hz2⟩ := info_parts pinfo_its
  have own : u.ownsRow N 22 1 (.slice (some ⟨q1, 0, none⟩) 1 1) 1 [.slice A1 n1 c1] := ⟨rfl, .inr ⟨q1, 1, #[.slice A1 n1 c1], rfl, hN, h1, Nat.le_refl _, by unfold maxLen; omega, rfl, rfl⟩⟩
  have hlie : Lies u (some ⟨q2, 0, none⟩) [.slice A2 n2 c2] := fun i v hv => by
    have hi : i = 0 := by
      cases i with
      | zero => rfl
      | succ i => simp at hv
    subst hi
    refine ⟨_, rfl, ?_⟩
    simp at hv
    subst hv
    rw [Go.WideShapes.add_plain]
    exact h2.cell 0
  obtain ⟨v', u', r1, r2, r3, r4⟩ := run_app (P := Tryd.prog) u N 40 40 22 i0 (.slice none 0 0) 24 Tryd.underlying40 hi hz0 hz1 hz2 rfl _ 1 _ own
    (some ⟨q2, 0, none⟩) 1 1 [.slice A2 n2 c2] rfl hlie (fun h => by cases h) (by intro v hv; simp at hv; subst hv; rfl) (by unfold maxLen; omega) (by omega) (by have := h1.lt; omega)
  obtain ⟨A, c, rfl, -⟩ := own_shape r2
  exact ⟨A, c, u', r1, r2, r3, r4⟩
/-- An append as one operation. -/
theorem op_app {P : Program} {o : Oper} {a : Act} {w : World} {K : Act → World → Prop} {Q : Exit → Act → World → Prop} {s x : Operand} {t : TypeId} {v v' y : Value} {w' : World}
    (hrun : (Builtin.append_ #[t, t] t #[v, y]).run P w = .ok v' w') (hty : o.type = t)
    (ho : o.op = .call { callee := .builtin .append, args := #[s, x], argTypes := #[t, t] }) (hs : a.eval s = v) (hx : a.eval x = y)
    (h : K (a.put o.dst v') w') : Oper.wp P o a w K Q := by
  subst hty
  unfold Oper.wp execOp
  simp only [ho, resolve, invoke, builtin, Sem.run_bind, Sem.run_pure, Result.andThen_ok, List.map_toArray, List.map_cons, List.map_nil, hs, hx, hrun]
  exact h
theorem imp_set {l : Array Bool} {j a b : Nat} (hj : j < l.size) (h : l.getD a false = true → l.getD b false = true) (ha : (a == j) = false) : (l.setIfInBounds j true).getD a false = true → (l.setIfInBounds j true).getD b false = true := fun c => by
  by_cases e : b = j
  · subst e; exact getD_set_self hj
  · rw [getD_set_ne e]; exact h (was c ha)
theorem nott {l : Array Bool} {a b : Nat} (h : l.getD a false = true → l.getD b false = true) (hb : l.getD b false = false) : l.getD a false = false := by
  cases e : l.getD a false with
  | false => rfl
  | true => rw [h e] at hb; cases hb
/-- The choice. -/
def altK (A3 : Option Addr) (c3 : Nat) (A1 : Option Addr) (c1 : Nat) (l1 : List IT) (A2 : Option Addr) (c2 : Nat) (l2 : List IT) : IT := .mk 3 [] [] none 0 [] 0 0 A3 c3 [(A1, c1), (A2, c2)] [l1, l2]
/-- Behind the second list. -/
def FinA (wp w : World) (p g W : Nat) (K : PK) (Ku : PK) (u : World) : Prop := ∃ (A3 : Option Addr) (c3 : Nat) (A1 : Option Addr) (c1 : Nat) (l1 : List IT) (A2 : Option Addr) (c2 : Nat) (l2 : List IT),
  (rightI (altK A3 c3 A1 c1 l1 A2 c2 l2) = true ∧ wtI (altK A3 c3 A1 c1 l1 A2 c2 l2) ≤ 2 * W + 1) ∧ IT.In (Ot (w.heap.size + 1) p Ku u) (altK A3 c3 A1 c1 l1 A2 c2 l2)
  ∧ Rd wp p Ku u ∧ FrI p K w Ku u ∧ Has u g 42 (csIm 3 [] [] none 0 0 0 0 A3 2 c3) ∧ Has u w.heap.size 42 zer7 ∧ rdOwn p Ku w.heap.size = false
theorem Mid.fin {wp w u : World} {p g q1 N W c1 : Nat} {K Ku : PK} {A1 : Option Addr} {l1 : List IT} (h : Mid wp w p g q1 N W K A1 c1 l1 Ku u) {A2 A3 : Option Addr} {c2 c3 : Nat} {l2 : List IT} (h2 : LsI N p q1 W Ku u A2 c2 l2)
    (hr : u.ownsRow N 22 1 (.slice A3 2 c3) 2 [.slice A1 l1.length c1, .slice A2 l2.length c2]) (ho : ∀ q, (Value.slice A3 2 c3).ownBlock = some q → rdOwn p Ku q = false) : FinA wp w p g W K Ku (u.setCell ⟨g, 6, none⟩ (.slice A3 2 c3)) := by
  have hgw := h.wg
  have hgN := h.gN
  have hs : ∀ q, q ≠ g → (u.setCell ⟨g, 6, none⟩ (.slice A3 2 c3)).heap[q]? = u.heap[q]? := fun q hn => by simp [World.setCell, Array.getElem?_modify, Ne.symm hn]
  have hB : Below w.heap.size u (u.setCell ⟨g, 6, none⟩ (.slice A3 2 c3)) := (Below.refl _ u).setCell (p := ⟨g, 6, none⟩) (Nat.le_of_lt hgw) _
  have hput := h.hg.put 6 (.slice A3 2 c3)
  obtain ⟨g3, rfl, hg3, hn3, hm3, hc⟩ : ∃ g3, A3 = some ⟨g3, 0, none⟩ ∧ N ≤ g3 ∧ 2 ≤ c3 ∧ c3 ≤ maxLen ∧ ∀ i v, ([.slice A1 l1.length c1, .slice A2 l2.length c2] : List Value)[i]? = some v → u.cell? ⟨g3, i, none⟩ = some v := by
    rcases hr.2 with ⟨_, h0⟩ | ⟨g3, cap, cur, e, hb, hh, hn, hm, _, _⟩
    · omega
    · injection e with e1 _ e2
      subst e1 e2
      refine ⟨g3, rfl, hb, hn, hm, fun i v hv => ?_⟩
      have := hr.cells (g := g3) rfl i v hv
      rwa [Go.WideShapes.add_plain, Nat.zero_add] at this
  have r3 := ho g3 rfl
  have look : ∀ a v, u.cell? a = some v → N ≤ a.block → rdOwn p Ku a.block = false → (Ot (w.heap.size + 1) p Ku (u.setCell ⟨g, 6, none⟩ (.slice (some ⟨g3, 0, none⟩) 2 c3))).cell? a = some v := fun a v hv h1 h2 =>
    cell_hidS (nwS_not.2 ⟨by omega, h2⟩) ((cell_block (hs _ (by omega))).trans hv)
  have lists : ∀ {A : Option Addr} {c : Nat} {l : List IT}, LsI N p q1 W Ku u A c l → Its (Ot (w.heap.size + 1) p Ku (u.setCell ⟨g, 6, none⟩ (.slice (some ⟨g3, 0, none⟩) 2 c3))) A l := fun hl => hl.2.2.imp fun a v hv => by
    obtain ⟨h1, h2⟩ := hidS_cell hv
    simp only [Bool.or_eq_false_iff] at h1
    obtain ⟨h3, h4⟩ := nwS_not.1 h1.1
    exact look a v h2 h3 h4
  refine ⟨some ⟨g3, 0, none⟩, c3, A1, c1, l1, A2, c2, l2, ⟨?_, ?_⟩, ?_, h.rd.other (hB.mono h.wpw) (fun q hq => hs q fun e => by rw [e, h.ng] at hq; cases hq), h.fr.belowB hB, hput, (hs _ (by omega)).trans h.h6, h.n6⟩
  · have e1 := h.l1.2.1.1
    have e2 := h2.2.1.1
    unfold rightIs at e1 e2
    unfold altK
    rw [rightI, if_pos rfl, rightKs_cons, rightKs_cons, e1, e2, rightKs]
    rfl
  · unfold altK
    have e1 := h.l1.2.1.2
    have e2 := h2.2.1.2
    rw [wtI_mk, wtKs_cons, wtKs_cons, wtKs_nil, sizeL_nil]
    omega
  · refine .of ⟨⟨by omega, by omega⟩, ⟨by omega, by omega⟩, ⟨by omega, by omega⟩, by simp, by simp, ⟨fun _ => rfl, Nat.le_refl _, Nat.zero_le _⟩, ⟨(fun h => by cases h), hn3, hm3⟩⟩ (fun j hj => by simp at hj) rfl (fun j hj hj' => ?_)
    have hj2 : j < 2 := hj
    rcases j with _ | _ | j
    · exact ⟨⟨⟨g3, 0, rfl, look _ _ (hc 0 _ rfl) hg3 r3⟩, h.l1.1⟩, lists h.l1⟩
    · exact ⟨⟨⟨g3, 0, rfl, look _ _ (by have := hc 1 _ rfl; simpa using this) hg3 r3⟩, h2.1⟩, lists h2⟩
    · omega
end Go.Proofs.YtbdfehgofnomhaaDoor
