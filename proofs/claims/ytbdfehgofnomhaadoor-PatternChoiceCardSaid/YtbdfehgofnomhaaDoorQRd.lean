/- Layer 9: the reader's state whole: the blocks that are its own; what lies elsewhere. -/
import Derived.Test.YtbdfehgofnomhaaDoorQPaFeed
import Derived.Test.YtbdfehgofnomhaaDoorQMe
import Derived.Test.YtbdfehgofnomhaaDoorExHid
import Derived.Test.YtbdfehgofnomhaaDoorAppStep
namespace Go.Proofs.YtbdfehgofnomhaaDoor
open Go.RowKit
set_option linter.unusedVariables false

abbrev PK.vV (K : PK) : Value := .slice K.V K.m K.cv
abbrev PK.vO (K : PK) : Value := .slice K.O K.m K.co
/-- With so many items. -/
def PK.setM (K : PK) (M : Int) : PK := { K with M := M }
/-- With one name more. -/
def PK.add (K : PK) (V O : Option Addr) (cv co : Nat) : PK := { K with V := V, O := O, m := K.m + 1, cv := cv, co := co }
/-- The reader's own blocks. -/
def rdOwn (p : Nat) (K : PK) (q : Nat) : Bool := (q == p) || (K.vV.ownBlock == some q) || (K.vO.ownBlock == some q)
theorem rdOwn_iff {p : Nat} {K : PK} {q : Nat} : rdOwn p K q = true ↔ q = p ∨ K.vV.ownBlock = some q ∨ K.vO.ownBlock = some q := by unfold rdOwn; simp [or_assoc]
theorem rdOwn_not {p : Nat} {K : PK} {q : Nat} : rdOwn p K q = false ↔ q ≠ p ∧ K.vV.ownBlock ≠ some q ∧ K.vO.ownBlock ≠ some q := by
  rw [← Bool.not_eq_true, rdOwn_iff]; simp [not_or]
/-- The world with some blocks as nothing. -/
def hidS (S : Nat → Bool) (w : World) : World := { w with heap := w.heap.mapIdx fun i o => if S i then .cells #[] 0 (0, 0) else o }
theorem hidS_size (S : Nat → Bool) (w : World) : (hidS S w).heap.size = w.heap.size := by simp [hidS]
theorem hidS_block {S : Nat → Bool} {q : Nat} (w : World) (h : S q = false) : (hidS S w).heap[q]? = w.heap[q]? := by
  unfold hidS
  simp only [Array.getElem?_mapIdx]
  cases w.heap[q]? with
  | none => rfl
  | some o => simp [h]
theorem hidS_cell {S : Nat → Bool} {w : World} {a : Addr} {v : Value} (h : (hidS S w).cell? a = some v) : S a.block = false ∧ w.cell? a = some v := by
  cases e : S a.block with
  | false => exact ⟨rfl, by rw [← h]; exact (cell_block (hidS_block w e)).symm⟩
  | true =>
    exfalso
    have hlt := World.block_lt_of_cell? _ _ h
    rw [hidS_size] at hlt
    have h2 : (hidS S w).heap[a.block]? = some (.cells #[] 0 (0, 0)) := by
      unfold hidS
      simp [hlt, e]
    simp only [World.cell?, h2] at h
    revert h
    cases a.spot <;> simp
theorem cell_hidS {S : Nat → Bool} {w : World} {a : Addr} {v : Value} (hS : S a.block = false) (h : w.cell? a = some v) : (hidS S w).cell? a = some v := (cell_block (hidS_block w hS)).trans h
theorem hidS_has {S : Nat → Bool} {w : World} {q : Nat} {t : TypeId} {cs : Array Value} (h : Has w q t cs) (hS : S q = false) : Has (hidS S w) q t cs := (hidS_block w hS).trans h
/-- What lies below N, and what is the reader's. -/
def nwS (N p : Nat) (K : PK) (q : Nat) : Bool := decide (q < N) || rdOwn p K q
theorem nwS_not {N p : Nat} {K : PK} {q : Nat} : nwS N p K q = false ↔ N ≤ q ∧ rdOwn p K q = false := by unfold nwS; simp
/-- The world of what is new, from N on. -/
abbrev Ot (N p : Nat) (K : PK) (w : World) : World := hidS (nwS N p K) w
theorem Ot.in_ {N p : Nat} {K : PK} {w : World} {a : Addr} {v : Value} (h : (Ot N p K w).cell? a = some v) : w.cell? a = some v := (hidS_cell h).2
/-- What may turn: the reader's own blocks; what is its own then was so, or is new. -/
structure FrI (p : Nat) (K : PK) (w : World) (K' : PK) (w' : World) : Prop where
  os : w'.os = w.os
  tape : w'.tape = w.tape
  output : w'.output = w.output
  size : w.heap.size ≤ w'.heap.size
  block : ∀ q, q < w.heap.size → rdOwn p K q = false → w'.heap[q]? = w.heap[q]?
  own : ∀ q, rdOwn p K' q = true → rdOwn p K q = true ∨ w.heap.size ≤ q
theorem FrI.refl (p : Nat) (K : PK) (w : World) : FrI p K w K w := ⟨rfl, rfl, rfl, Nat.le_refl _, fun _ _ _ => rfl, fun _ h => .inl h⟩
theorem FrI.trans {p : Nat} {K K' K'' : PK} {a b c : World} (h : FrI p K a K' b) (h' : FrI p K' b K'' c) : FrI p K a K'' c :=
  ⟨h'.os.trans h.os, h'.tape.trans h.tape, h'.output.trans h.output, Nat.le_trans h.size h'.size, fun q hq hn => by
    have hn' : rdOwn p K' q = false := by
      cases e : rdOwn p K' q with
      | false => rfl
      | true =>
        rcases h.own q e with h1 | h1
        · rw [hn] at h1; cases h1
        · omega
    rw [h'.block q (Nat.lt_of_lt_of_le hq h.size) hn', h.block q hq hn], fun q hq => by
    rcases h'.own q hq with h1 | h1
    · exact h.own q h1
    · exact .inr (Nat.le_trans h.size h1)⟩
/-- What lies elsewhere stays elsewhere, as it is. -/
theorem FrI.cell {p N N' : Nat} {K K' : PK} {w w' : World} (h : FrI p K w K' w') (hN : N' ≤ N) (a : Addr) (v : Value) (hv : (Ot N p K w).cell? a = some v) : (Ot N' p K' w').cell? a = some v := by
  obtain ⟨h1, h2⟩ := hidS_cell hv
  obtain ⟨h3, h4⟩ := nwS_not.1 h1
  have hlt := World.block_lt_of_cell? _ _ h2
  refine cell_hidS (nwS_not.2 ⟨Nat.le_trans hN h3, ?_⟩) ((cell_block (h.block _ hlt h4)).trans h2)
  cases e : rdOwn p K' a.block with
  | false => rfl
  | true =>
    rcases h.own _ e with h5 | h5
    · rw [h4] at h5; cases h5
    · omega
theorem FrI.has {p q : Nat} {K K' : PK} {w w' : World} {t : TypeId} {cs : Array Value} (h : FrI p K w K' w') (hq : Has w q t cs) (hn : rdOwn p K q = false) : Has w' q t cs ∧ rdOwn p K' q = false := by
  refine ⟨(h.block q hq.lt hn).trans hq, ?_⟩
  cases e : rdOwn p K' q with
  | false => rfl
  | true =>
    rcases h.own _ e with h5 | h5
    · rw [hn] at h5; cases h5
    · have := hq.lt; omega
theorem setM_own {p : Nat} {K : PK} {M : Int} : rdOwn p (K.setM M) = rdOwn p K := rfl
theorem FrI.of_fr {p : Nat} {K : PK} {w w' : World} (M : Int) (h : FrP p w w') : FrI p K w (K.setM M) w' :=
  ⟨(show Below w.heap.size (hidB p w) (hidB p w') from h).os, (show Below w.heap.size (hidB p w) (hidB p w') from h).tape, (show Below w.heap.size (hidB p w) (hidB p w') from h).output, h.size,
    fun q hq hn => h.block hq (rdOwn_not.1 hn).1, fun q hq => .inl hq⟩
theorem FrI.of_frK {p : Nat} {K : PK} {w w' : World} (h : FrP p w w') : FrI p K w K w' :=
  ⟨(show Below w.heap.size (hidB p w) (hidB p w') from h).os, (show Below w.heap.size (hidB p w) (hidB p w') from h).tape, (show Below w.heap.size (hidB p w) (hidB p w') from h).output, h.size,
    fun q hq hn => h.block hq (rdOwn_not.1 hn).1, fun q hq => .inl hq⟩
theorem FrI.below {p : Nat} {K : PK} {w w' : World} (h : Below w.heap.size w w') : FrI p K w K w' := ⟨h.os, h.tape, h.output, h.size, fun q hq _ => h.block q hq, fun q hq => .inl hq⟩
/-- The frame of a walk that began at w, where something that is new is turned. -/
theorem FrI.belowB {p : Nat} {K K' : PK} {w w1 w' : World} (h : FrI p K w K' w1) (hb : Below w.heap.size w1 w') : FrI p K w K' w' :=
  ⟨hb.os.trans h.os, hb.tape.trans h.tape, hb.output.trans h.output, Nat.le_trans h.size hb.size, fun q hq hn => by rw [hb.block q hq, h.block q hq hn], h.own⟩
abbrev sCells (l : List Nm) : List Value := l.map fun s => Value.string (str s)
/-- The reader: its cell at p, the bytes in wp, its names in blocks of its own. -/
structure Rd (wp : World) (p : Nat) (K : PK) (w : World) : Prop where
  low : wp.heap.size ≤ p
  bel : Below wp.heap.size wp w
  has : ∃ i : Nat, Has w p 70 (K.row i) ∧ i ≤ K.n
  byt : ∃ bs : List Int, bs.length = K.n ∧ K.n ≤ 9223372036854775807 ∧ (∀ x ∈ bs, 0 ≤ x ∧ x ≤ 255) ∧ Lies wp K.L (bs.map (Value.int .u8))
  v : ∃ vs : List Nm, w.ownsRow (p + 1) 9 1 K.vV K.m (sCells vs) ∧ ∀ x ∈ vs, nameB x = true
  o : ∃ os : List Nm, w.ownsRow (p + 1) 9 1 K.vO K.m (sCells os)
  ne : ∀ q, K.vV.ownBlock = some q → K.vO.ownBlock ≠ some q
  mM : (K.m : Int) ≤ K.M
theorem Rd.lt {wp w : World} {p : Nat} {K : PK} (h : Rd wp p K w) : p < w.heap.size := h.has.choose_spec.1.lt
theorem Rd.own_lt {wp w : World} {p : Nat} {K : PK} (h : Rd wp p K w) {q : Nat} (hq : rdOwn p K q = true) : p ≤ q ∧ q < w.heap.size := by
  rcases rdOwn_iff.1 hq with rfl | h1 | h1
  · exact ⟨Nat.le_refl _, h.lt⟩
  · obtain ⟨vs, h2, -⟩ := h.v
    have := h2.lt q h1; omega
  · obtain ⟨os, h2⟩ := h.o
    have := h2.lt q h1; omega
theorem Rd.new {wp w : World} {p : Nat} {K : PK} (h : Rd wp p K w) {q : Nat} (hq : w.heap.size ≤ q) : rdOwn p K q = false := by
  cases e : rdOwn p K q with
  | false => rfl
  | true => have := h.own_lt e; omega
theorem Rd.pd {wp w : World} {p : Nat} {K : PK} (h : Rd wp p K w) : Pd (hidB p w) p K w := by
  obtain ⟨i, h1, h2⟩ := h.has
  exact ⟨i, Below.refl _ _, h1, h2⟩
theorem own_strs {w : World} {base : Nat} {A : Option Addr} {m c : Nat} {l : List Nm} (h : w.ownsRow base 9 1 (.slice A m c) m (sCells l)) : Strs w A c l ∧ l.length = m := by
  obtain ⟨A', c', e, h1, h2, h3, h4⟩ := own_shape h
  have hl := own_len h
  rw [List.length_map] at hl
  injection e with e1 _ e2
  subst e1 e2
  exact ⟨⟨h1, h2, by omega, h4⟩, hl⟩
/-- A row whose block stands stays. -/
theorem own_same {w w' : World} {base : Nat} {e : TypeId} {s n : Nat} {v : Value} {xs : List Value} (h : w.ownsRow base e s v n xs) (hb : ∀ q, v.ownBlock = some q → w'.heap[q]? = w.heap[q]?) : w'.ownsRow base e s v n xs := by
  refine ⟨h.1, ?_⟩
  rcases h.2 with hn | ⟨g, cap, cur, rfl, hb2, hgg, rest⟩
  · exact .inl hn
  · exact .inr ⟨g, cap, cur, rfl, hb2, (hb g rfl).trans hgg, rest⟩
theorem strs_hid {p : Nat} {w : World} {A : Option Addr} {c : Nat} {l : List Nm} (h : Strs w A c l) (hn : ∀ a, A = some a → a.block ≠ p) : Strs (hidB p w) A c l :=
  ⟨fun i u hu => by
    obtain ⟨x, rfl, hx⟩ := h.1 i u hu
    refine ⟨x, rfl, ?_⟩
    rw [cell_block (p := x.add i) (hid_block w (by rw [show (x.add i).block = x.block by unfold Addr.add; split <;> rfl]; exact hn x rfl))]
    exact hx, h.2⟩
theorem own_ne {w : World} {p base : Nat} {e : TypeId} {s m c : Nat} {A : Option Addr} {xs : List Value} (h : w.ownsRow base e s (.slice A m c) m xs) (hp : p < base) : ∀ a, A = some a → a.block ≠ p := by
  rintro a rfl
  have := (h.lt a.block rfl).1
  omega
theorem Rd.pdc {wp w : World} {p : Nat} {K : PK} (h : Rd wp p K w) : ∃ (bs : List Int) (vs os : List Nm), PdC (hidB p w) K bs vs os := by
  obtain ⟨bs, b1, b2, b3, b4⟩ := h.byt
  obtain ⟨vs, v1, v2⟩ := h.v
  obtain ⟨os, o1⟩ := h.o
  have v3 := own_strs v1
  have o3 := own_strs o1
  refine ⟨bs, vs, os, b1, b2, b3, ?_, strs_hid v3.1 (own_ne v1 (Nat.lt_succ_self p)), strs_hid o3.1 (own_ne o1 (Nat.lt_succ_self p)), v3.2, o3.2, v2⟩
  refine b4.below ⟨h.bel.os, h.bel.tape, h.bel.output, by rw [hid_size]; exact h.bel.size, fun q hq => ?_⟩
  rw [hid_block _ (by have := h.low; omega)]
  exact h.bel.block q hq
/-- The reader has gone on; nothing else of it has turned. -/
theorem Rd.fr {wp w w' w0 : World} {p : Nat} {K : PK} {M : Int} (h : Rd wp p K w) (hp : Pd w0 p (K.setM M) w') (hf : FrP p w w') (hM : K.M ≤ M) : Rd wp p (K.setM M) w' := by
  obtain ⟨i, -, i2, i3⟩ := hp
  obtain ⟨vs, v1, v2⟩ := h.v
  obtain ⟨os, o1⟩ := h.o
  have hlt := h.lt
  refine ⟨h.low, h.bel.trans (hf.low h.low h.bel.size), ⟨i, i2, i3⟩, h.byt, ⟨vs, own_same v1 fun q hq => ?_, v2⟩, ⟨os, own_same o1 fun q hq => ?_⟩, h.ne, Int.le_trans h.mM hM⟩
  · have := v1.lt q hq
    exact hf.block this.2 (by omega)
  · have := o1.lt q hq
    exact hf.block this.2 (by omega)
/-- What is new is turned. -/
theorem Rd.belowB {wp w w' : World} {p B : Nat} {K : PK} (h : Rd wp p K w) (hb : Below B w w') (hB : ∀ q, rdOwn p K q = true → q < B) : Rd wp p K w' := by
  obtain ⟨i, i2, i3⟩ := h.has
  obtain ⟨vs, v1, v2⟩ := h.v
  obtain ⟨os, o1⟩ := h.o
  have hp : p < B := hB p (rdOwn_iff.2 (.inl rfl))
  refine ⟨h.low, h.bel.trans (hb.mono (Nat.le_trans h.low (Nat.le_of_lt hp))), ⟨i, i2.below hb hp, i3⟩, h.byt, ⟨vs, own_same v1 fun q hq => hb.block q (hB q (rdOwn_iff.2 (.inr (.inl hq)))), v2⟩, ⟨os, own_same o1 fun q hq => hb.block q (hB q (rdOwn_iff.2 (.inr (.inr hq))))⟩, h.ne, h.mM⟩
theorem Rd.below {wp w w' : World} {p : Nat} {K : PK} (h : Rd wp p K w) (hb : Below w.heap.size w w') : Rd wp p K w' := h.belowB hb fun q hq => (h.own_lt hq).2
/-- Blocks that are none of the reader's are turned. -/
theorem Rd.other {wp w w' : World} {p : Nat} {K : PK} (h : Rd wp p K w) (hl : Below wp.heap.size w w') (hb : ∀ q, rdOwn p K q = true → w'.heap[q]? = w.heap[q]?) : Rd wp p K w' := by
  obtain ⟨i, i2, i3⟩ := h.has
  obtain ⟨vs, v1, v2⟩ := h.v
  obtain ⟨os, o1⟩ := h.o
  exact ⟨h.low, h.bel.trans hl, ⟨i, (hb p (rdOwn_iff.2 (.inl rfl))).trans i2, i3⟩, h.byt, ⟨vs, own_same v1 fun q hq => hb q (rdOwn_iff.2 (.inr (.inl hq))), v2⟩, ⟨os, own_same o1 fun q hq => hb q (rdOwn_iff.2 (.inr (.inr hq)))⟩, h.ne, h.mM⟩
end Go.Proofs.YtbdfehgofnomhaaDoor
/- Layer 9: the reader takes in a name more. -/
namespace Go.Proofs.YtbdfehgofnomhaaDoor
open Go.RowKit
set_option linter.unusedVariables false

theorem pinfo_str : (Tryd.prog.info? 9).map (fun i => (i.zero, i.size, i.bytes)) = some (some (.string { data := #[] }), 1, 16) := by kernel_rfl
/-- What an append of a text leaves. -/
theorem pstr_app {w : World} {base m : Nat} {v : Value} {l : List Nm} (h : w.ownsRow base 9 1 v m (sCells l)) (hbase : base ≤ w.heap.size) (x : Nm) (hl : m ≤ 1000000) :
    ∃ A c w', (Builtin.append_ #[68, 68] 68 #[v, .slice (some ⟨w.heap.size, 0, none⟩) 1 1]).run Tryd.prog (w.alloc (.cells #[.string (str x)] 9)) = .ok (.slice A (m + 1) c) w' ∧ w'.ownsRow base 9 1 (.slice A (m + 1) c) (m + 1) (sCells (l ++ [x])) ∧ (w.alloc (.cells #[.string (str x)] 9)).grownBy w' v.ownBlock
      ∧ ((Value.slice A (m + 1) c).ownBlock = v.ownBlock ∨ (Value.slice A (m + 1) c).ownBlock = some (w.heap.size + 1)) := by
  obtain ⟨i0, hi, hz0, hz1, hz2⟩ := info_parts pinfo_str
  obtain ⟨W, hW⟩ : ∃ W, W = w.alloc (.cells #[.string (str x)] 9) := ⟨_, rfl⟩
  have hWz : W.heap.size = w.heap.size + 1 := by rw [hW]; simp
  have bw : Below w.heap.size w W := by rw [hW]; exact (Below.refl _ _).alloc (Nat.le_refl _) _
  have hlie : Lies W (some ⟨w.heap.size, 0, none⟩) [.string (str x)] := by rw [hW]; exact Lies.one w _ _
  rw [← hW]
  have h2W : W.ownsRow base 9 1 v m (sCells l) := own_same h fun q hq => bw.block q (h.lt q hq).2
  obtain ⟨v', w', r1, r2, r3, r4⟩ := run_app (P := Tryd.prog) W base 68 68 9 i0 (.string { data := #[] }) 16 Tryd.underlying68 hi hz0 hz1 hz2 rfl v m _ h2W
    (some ⟨w.heap.size, 0, none⟩) 1 1 [.string (str x)] rfl hlie (fun h => by cases h) (by intro u hu; simp at hu; subst hu; rfl) (by unfold maxLen; omega) (by omega) (by omega)
  obtain ⟨A, c, rfl, -⟩ := own_shape r2
  exact ⟨A, c, w', r1, by simpa using r2, r3, by rw [← hWz]; exact r4⟩
theorem setCell_same {w : World} {p q i : Nat} (u : Value) (h : q ≠ p) (hq : q < w.heap.size) : (w.setCell ⟨p, i, none⟩ u).heap[q]? = w.heap[q]? := (set_grown w ⟨p, i, none⟩ u).block q hq (by simpa using h)
theorem setCell_size (w : World) (p i : Nat) (u : Value) : (w.setCell ⟨p, i, none⟩ u).heap.size = w.heap.size := by simp [World.setCell]
theorem alloc_same (w : World) (o : Obj) {q : Nat} (hq : q < w.heap.size) : (w.alloc o).heap[q]? = w.heap[q]? := heap_alloc_old w o hq
theorem alloc_size (w : World) (o : Obj) : (w.alloc o).heap.size = w.heap.size + 1 := by simp
set_option maxHeartbeats 1000000 in
theorem add_name {wp X : World} {p : Nat} {K : PK} (h : Rd wp p K X) (own kind : Nm) (hown : nameB own = true) (hM : K.M ≤ 100000) (hm1 : (K.m : Int) + 1 ≤ K.M) :
    ∃ (V : Option Addr) (cv : Nat) (w1 : World) (O : Option Addr) (co : Nat) (w4 : World),
      (X.cell? ⟨p, 2, none⟩ = some K.vV
      ∧ (Builtin.append_ #[68, 68] 68 #[K.vV, .slice (some ⟨X.heap.size, 0, none⟩) 1 1]).run Tryd.prog (X.alloc (.cells #[.string (str own)] 9)) = .ok (.slice V (K.m + 1) cv) w1
      ∧ w1.cell? ⟨p, 2, none⟩ = some K.vV ∧ w1.frozen? ⟨p, 2, none⟩ = false
      ∧ (w1.setCell ⟨p, 2, none⟩ (.slice V (K.m + 1) cv)).cell? ⟨p, 3, none⟩ = some K.vO
      ∧ (Builtin.append_ #[68, 68] 68 #[K.vO, .slice (some ⟨w1.heap.size, 0, none⟩) 1 1]).run Tryd.prog ((w1.setCell ⟨p, 2, none⟩ (.slice V (K.m + 1) cv)).alloc (.cells #[.string (str kind)] 9)) = .ok (.slice O (K.m + 1) co) w4
      ∧ w4.cell? ⟨p, 3, none⟩ = some K.vO ∧ w4.frozen? ⟨p, 3, none⟩ = false)
      ∧ Rd wp p (K.add V O cv co) (w4.setCell ⟨p, 3, none⟩ (.slice O (K.m + 1) co))
      ∧ FrI p K X (K.add V O cv co) (w4.setCell ⟨p, 3, none⟩ (.slice O (K.m + 1) co)) := by
  have hpl := h.lt
  have hlow := h.low
  have hbel := h.bel
  have hne := h.ne
  obtain ⟨i, i2, i3⟩ := h.has
  obtain ⟨vs, v1, v2⟩ := h.v
  obtain ⟨os, o1⟩ := h.o
  have hmb : K.m ≤ 1000000 := by omega
  obtain ⟨V, cv, w1, r1, r2, r3, r4⟩ := pstr_app v1 (by omega) own hmb
  have hW := alloc_size X (.cells #[.string (str own)] 9)
  have hs1 : X.heap.size + 1 ≤ w1.heap.size := by have := r3.size; omega
  have vne : K.vV.ownBlock ≠ some p := fun e => by have := (v1.lt p e).1; omega
  have one' : K.vO.ownBlock ≠ some p := fun e => by have := (o1.lt p e).1; omega
  have g1 : ∀ q, q < X.heap.size → K.vV.ownBlock ≠ some q → w1.heap[q]? = X.heap[q]? := fun q hq hn => (r3.block q (by omega) (fun e => hn e.symm)).trans (alloc_same _ _ hq)
  have hp1 : Has w1 p 70 (K.row i) := (g1 p hpl vne).trans i2
  have hp2 := hp1.put 2 (.slice V (K.m + 1) cv)
  have hs2 := setCell_size w1 p 2 (.slice V (K.m + 1) cv)
  obtain ⟨w2, hw2⟩ : ∃ w2, w1.setCell ⟨p, 2, none⟩ (.slice V (K.m + 1) cv) = w2 := ⟨_, rfl⟩
  have g2 : ∀ q, q < X.heap.size → K.vV.ownBlock ≠ some q → q ≠ p → w2.heap[q]? = X.heap[q]? := fun q hq hn hqp => by
    rw [← hw2, setCell_same _ hqp (by omega), g1 q hq hn]
  have vl := r2.lt
  have v1' : w2.ownsRow (p + 1) 9 1 (.slice V (K.m + 1) cv) (K.m + 1) (sCells (vs ++ [own])) := own_same r2 fun q hq => by
    have := vl q hq
    rw [← hw2, setCell_same _ (by omega) (by omega)]
  have o2 : w2.ownsRow (p + 1) 9 1 K.vO K.m (sCells os) := own_same o1 fun q hq => by
    have := o1.lt q hq
    exact g2 q this.2 (fun e => hne q e hq) (by omega)
  rw [hw2] at hp2 hs2
  obtain ⟨O, co, w4, q1, q2, q3, q4⟩ := pstr_app o2 (by omega) kind hmb
  have hW2 := alloc_size w2 (.cells #[.string (str kind)] 9)
  have hs4 : w2.heap.size + 1 ≤ w4.heap.size := by have := q3.size; omega
  have g4 : ∀ q, q < w2.heap.size → K.vO.ownBlock ≠ some q → w4.heap[q]? = w2.heap[q]? := fun q hq hn => (q3.block q (by omega) (fun e => hn e.symm)).trans (alloc_same _ _ hq)
  have hp4 : Has w4 p 70 ((K.row i).setIfInBounds 2 (.slice V (K.m + 1) cv)) := (g4 p (by omega) one').trans hp2
  have hp5 := hp4.put 3 (.slice O (K.m + 1) co)
  have ol := q2.lt
  have hs5 := setCell_size w4 p 3 (.slice O (K.m + 1) co)
  have vno : ∀ q, (Value.slice V (K.m + 1) cv).ownBlock = some q → K.vO.ownBlock ≠ some q := fun q hq e => by
    rcases r4 with h1 | h1
    · exact hne q (h1.symm.trans hq) e
    · rw [h1] at hq
      injection hq with hq
      have := (o1.lt q e).2
      omega
  refine ⟨V, cv, w1, O, co, w4, ⟨i2.cell 2, r1, hp1.cell 2, hp1.free 2, ?_, ?_, ?_, hp4.free 3⟩, ?_, ?_⟩
  · rw [hw2]; have := hp2.cell 3; simpa using this
  · rw [hw2, ← hs2]; exact q1
  · have := hp4.cell 3; simpa using this
  · refine ⟨hlow, ?_, ⟨i, ?_, i3⟩, h.byt, ⟨vs ++ [own], ?_, ?_⟩, ⟨os ++ [kind], ?_⟩, ?_, ?_⟩
    · have b1 : Below wp.heap.size X w1 := ⟨r3.os, r3.tape, r3.output, by omega, fun q hq => g1 q (by have := hbel.size; omega) fun e => by have := (v1.lt q e).1; omega⟩
      have b2 : Below wp.heap.size w1 w2 := by rw [← hw2]; exact (Below.refl _ _).setCell (p := ⟨p, 2, none⟩) hlow _
      have b4 : Below wp.heap.size w2 w4 := ⟨q3.os, q3.tape, q3.output, by omega, fun q hq => g4 q (by have := hbel.size; omega) fun e => by have := (o1.lt q e).1; omega⟩
      exact (((hbel.trans b1).trans b2).trans b4).setCell (p := ⟨p, 3, none⟩) hlow _
    · exact hp5
    · exact own_same v1' fun q hq => by
        have := vl q hq
        rw [setCell_same _ (by omega) (by omega)]
        exact g4 q (by omega) (vno q hq)
    · intro x hx
      rcases List.mem_append.1 hx with hx | hx
      · exact v2 x hx
      · rw [List.mem_singleton.1 hx]; exact hown
    · exact own_same q2 fun q hq => by
        have := ol q hq
        rw [setCell_same _ (by omega) (by omega)]
    · intro q hq e
      have hq' : (Value.slice V (K.m + 1) cv).ownBlock = some q := hq
      have e' : (Value.slice O (K.m + 1) co).ownBlock = some q := e
      rcases q4 with h1 | h1
      · exact vno q hq' (h1.symm.trans e')
      · rw [h1] at e'
        injection e' with e'
        have := (vl q hq').2
        omega
    · show ((K.m + 1 : Nat) : Int) ≤ K.M
      omega
  · refine ⟨?_, ?_, ?_, by omega, ?_, ?_⟩
    · show w4.os = X.os
      rw [q3.os]; show w2.os = X.os
      rw [← hw2]; show w1.os = X.os
      rw [r3.os]; rfl
    · show w4.tape = X.tape
      rw [q3.tape]; show w2.tape = X.tape
      rw [← hw2]; show w1.tape = X.tape
      rw [r3.tape]; rfl
    · show w4.output = X.output
      rw [q3.output]; show w2.output = X.output
      rw [← hw2]; show w1.output = X.output
      rw [r3.output]; rfl
    · intro q hq hn
      obtain ⟨n1, n2, n3⟩ := rdOwn_not.1 hn
      rw [setCell_same _ n1 (by omega), g4 q (by omega) n3, g2 q hq n2 n1]
    · intro q hq
      rcases rdOwn_iff.1 hq with rfl | h1 | h1
      · exact .inl (rdOwn_iff.2 (.inl rfl))
      · have h1' : (Value.slice V (K.m + 1) cv).ownBlock = some q := h1
        rcases r4 with h2 | h2
        · exact .inl (rdOwn_iff.2 (.inr (.inl (h2.symm.trans h1'))))
        · rw [h2] at h1'
          injection h1' with h1'
          exact .inr (by omega)
      · have h1' : (Value.slice O (K.m + 1) co).ownBlock = some q := h1
        rcases q4 with h2 | h2
        · exact .inl (rdOwn_iff.2 (.inr (.inr (h2.symm.trans h1'))))
        · rw [h2] at h1'
          injection h1' with h1'
          exact .inr (by omega)
end Go.Proofs.YtbdfehgofnomhaaDoor
