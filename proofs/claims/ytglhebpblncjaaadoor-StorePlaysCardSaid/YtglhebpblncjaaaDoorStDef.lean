/- A store in memory: its own block, its map, its arena, beside what a statement owns; what each deed makes of it. -/
import Derived.Test.YtglhebpblncjaaaDoorStMap
import Derived.Test.YtglhebpblncjaaaDoorArScene
import Derived.Test.YtglhebpblncjaaaDoorWrSame
import Derived.Deep.RegionLaw
import Derived.Deep.DeepCutAuto
import Derived.Handy
namespace Go.Proofs.YtglhebpblncjaaaDoor
open Go.RowKit
set_option linter.unusedVariables false

/-- An arena, what is there of it by which index, how many that are. -/
structure Sv where
  s : Ar
  f : Int → Option Ct
  n : Nat
/-- The error of Put. -/
def perr (S : Sv) (ix : Int) (ok : Bool) (t : List UInt8) : Int := if ok = false then 7 else if (S.f ix).isSome = true then 1 else aerr S.s t.length
def sput (S : Sv) (ix : Int) (ok : Bool) (t : List UInt8) : Sv := if perr S ix ok t = 0 then ⟨alo S.s t, upd S.f ix (some ⟨fre S.s.l, (bk S.s.l (fre S.s.l)).g, 1⟩), S.n + 1⟩ else S
def shold (S : Sv) (ix : Int) : Sv := match S.f ix with
  | some c => ⟨S.s, upd S.f ix (some ⟨c.s, c.g, c.t + 1⟩), S.n⟩
  | none => S
def sdrop (S : Sv) (ix : Int) : Sv := match S.f ix with
  | some c => if c.t = 1 then ⟨fro S.s c.s c.g, upd S.f ix none, S.n - 1⟩ else ⟨S.s, upd S.f ix (some ⟨c.s, c.g, c.t - 1⟩), S.n⟩
  | none => S
def sbyt (S : Sv) (ix : Int) : List UInt8 := match S.f ix with
  | some c => got S.s c.s c.g
  | none => []
def scnt (S : Sv) (ix : Int) : Int := ((S.f ix).getD zc).t

/-- All is as it was but for the blocks of T. -/
structure Tn (T : List Nat) (w w' : World) : Prop where
  os : w'.os = w.os
  tape : w'.tape = w.tape
  output : w'.output = w.output
  size : w.heap.size ≤ w'.heap.size
  block : ∀ k, k < w.heap.size → k ∉ T → w'.heap[k]? = w.heap[k]?
theorem Tn.of_below {T : List Nat} {w w' : World} (h : Below w.heap.size w w') : Tn T w w' := ⟨h.os, h.tape, h.output, h.size, fun k hk _ => h.block k hk⟩
theorem Tn.refl (T : List Nat) (w : World) : Tn T w w := .of_below (.refl _ _)
theorem Tn.trans {T : List Nat} {a b c : World} (h : Tn T a b) (k : Tn T b c) : Tn T a c := ⟨k.os.trans h.os, k.tape.trans h.tape, k.output.trans h.output, Nat.le_trans h.size k.size, fun j hj hn => (k.block j (Nat.lt_of_lt_of_le hj h.size) hn).trans (h.block j hj hn)⟩
theorem Tn.mono {T T' : List Nat} {a b : World} (h : Tn T a b) (hs : ∀ k ∈ T, k ∈ T') : Tn T' a b := ⟨h.os, h.tape, h.output, h.size, fun k hk hn => h.block k hk fun e => hn (hs k e)⟩
theorem Tn.turned {m : Nat} {w w' : World} (h : w.mapTurned w' m) : Tn [m] w w' := by
  have g := h.grown
  exact ⟨g.os, g.tape, g.output, g.size, fun k hk hn => g.block k hk (fun e => hn (by simp; exact Option.some.inj e))⟩
theorem Tn.grown {o : Option Nat} {w w' : World} (h : w.grownBy w' o) : Tn o.toList w w' :=
  ⟨h.os, h.tape, h.output, h.size, fun k hk hn => h.block k hk (fun e => hn (by rw [← e]; simp))⟩
theorem Tn.set (w : World) (p : Addr) (u : Value) : Tn [p.block] w (w.setCell p u) := ⟨rfl, rfl, rfl, by simp [World.setCell], fun k hk hn => Below.heap_setCell w p u k (fun e => hn (by simp [e]))⟩
theorem Tn.fr {g : Nat} {o : Option Nat} {w w' : World} (h : Fr g o w w') : Tn (g :: o.toList) w w' :=
  ⟨h.os, h.tape, h.output, h.size, fun k hk hn => h.block k hk (fun e => hn (by simp [e])) (fun e => hn (by simp [e]))⟩
theorem Tn.drew {T : List Nat} {a b : World} (h : Tn T a b) : Tn T a b.drew := ⟨h.os, h.tape, h.output, h.size, h.block⟩

theorem Sc.tn {w w' : World} {B g : Nat} {s : Ar} {K K' T : List Nat} (h : Sc w B g s K) (ht : Tn T w w') (hT : ∀ k ∈ T, k ∈ K) (hK : ∀ k ∈ K', k ∈ K ∨ (w.heap.size ≤ k ∧ k < w'.heap.size)) : Sc w' B g s K' ∧ Below B w w' := by
  obtain ⟨v, h1, h2⟩ := h.ar
  have hg := h1.lt
  have hB := h.bl
  have hs := ht.size
  have bel : Below B w w' := ⟨ht.os, ht.tape, ht.output, hs, fun k hk => ht.block k (by omega) fun e => by have := (h2 k (hT k e)).1; omega⟩
  refine ⟨⟨tab_bel h.tab h.tb bel, dbt_bel h.dbt h.db bel, h.tb, h.db, by omega, v, h1.keep fun k hk => ?_, fun k hk => ?_⟩, bel⟩
  · refine ht.block k ?_ (fun e => ?_)
    · rcases hk with rfl | hk
      · exact hg
      · exact (h1.vlt k hk).2
    · have := h2 k (hT k e)
      rcases hk with rfl | hk
      · exact this.2.2.1 rfl
      · exact this.2.2.2 hk
  · rcases hK k hk with hk | ⟨e1, e2⟩
    · exact ⟨(h2 k hk).1, by have := (h2 k hk).2.1; omega, (h2 k hk).2.2⟩
    · exact ⟨by omega, e2, by omega, fun e => by have := (h1.vlt k e).2; omega⟩
theorem Sc.klt {w : World} {B g : Nat} {s : Ar} {K : List Nat} (h : Sc w B g s K) {k : Nat} (hk : k ∈ K) : k < w.heap.size := by
  obtain ⟨v, h1, h2⟩ := h.ar
  exact (h2 k hk).2.1

/-- No block has more than a block may. -/
def Tl (s : Ar) : Prop := ∀ i, (bk s.l i).t.length ≤ 1024
theorem Tl.got {s : Ar} (h : Tl s) (i : Nat) (g : Int) : (got s i g).length ≤ 1024 := by
  unfold Go.Proofs.YtglhebpblncjaaaDoor.got
  split
  · exact h i
  · simp
theorem Tl.new (c d : Int) : Tl ⟨c, d, []⟩ := fun i => by simp [bk, blank]
theorem Tl.alo {s : Ar} (h : Tl s) (t : List UInt8) : Tl (alo s t) := by
  unfold Go.Proofs.YtglhebpblncjaaaDoor.alo
  split
  · obtain ⟨h1, -, -⟩ := aerr_ok ‹_›
    have hr := rnd16 h1
    intro i
    show (bk (tak s.l t (rnd t.length)) i).t.length ≤ 1024
    rw [tak_bk]
    split
    · show t.length ≤ 1024; omega
    · exact h i
  · exact h
theorem Tl.fro {s : Ar} (h : Tl s) (i : Nat) (g : Int) : Tl (fro s i g) := by
  unfold Go.Proofs.YtglhebpblncjaaaDoor.fro
  split
  · have hl := hit_lt ‹_›
    intro j
    show (bk (s.l.set i (frb (bk s.l i))) j).t.length ≤ 1024
    rw [bk_set hl]
    split
    · simp [frb]
    · exact h j
  · exact h
/-- The store at hh, its map m, its arena g, apart from the blocks of K; each of what is there is counted at most N times. -/
structure St (w : World) (B g hh m N : Nat) (S : Sv) (K : List Nat) : Prop where
  sc : Sc w B g S.s (hh :: m :: K)
  blk : Has w hh 70 #[.pointer (some ⟨g, 0, none⟩), .map (some m)]
  map : MapC w m S.n S.f
  hm : hh ≠ m
  ks : ∀ k ∈ K, k ≠ hh ∧ k ≠ m
  bd : ∀ k c, S.f k = some c → c.s ≤ 4294967295 ∧ 0 ≤ c.g ∧ c.g ≤ 4294967295 ∧ 1 ≤ c.t ∧ c.t ≤ N
  nn : S.n ≤ N
  tl : Tl S.s
section
variable {w w' : World} {B g hh m N : Nat} {S : Sv} {K : List Nat}
/-- Blocks of the statement's own are turned, and memory is made. -/
theorem St.tn {T K' : List Nat} (h : St w B g hh m N S K) (ht : Tn T w w') (hT : ∀ k ∈ T, k ∈ K) (hK : ∀ k ∈ K', k ∈ K ∨ (w.heap.size ≤ k ∧ k < w'.heap.size)) : St w' B g hh m N S K' ∧ Below B w w' := by
  have lh := h.sc.klt (k := hh) (by simp)
  have lm := h.sc.klt (k := m) (by simp)
  have hs := ht.size
  obtain ⟨a1, a2⟩ := h.sc.tn (K' := hh :: m :: K') ht (fun k hk => by simp [hT k hk]) (fun k hk => by
    simp only [List.mem_cons] at hk ⊢
    rcases hk with e | e | e
    · exact .inl (.inl e)
    · exact .inl (.inr (.inl e))
    · rcases hK k e with e | e
      · exact .inl (.inr (.inr e))
      · exact .inr e)
  refine ⟨⟨a1, (ht.block hh lh fun e => (h.ks _ (hT _ e)).1 rfl).trans h.blk, h.map.keep (ht.block m lm fun e => (h.ks _ (hT _ e)).2 rfl), h.hm, fun k hk => ?_, h.bd, h.nn, h.tl⟩, a2⟩
  rcases hK k hk with e | e
  · exact h.ks k e
  · exact ⟨by omega, by omega⟩
theorem St.below (h : St w B g hh m N S K) (hb : Below w.heap.size w w') : St w' B g hh m N S K := (h.tn (T := []) (.of_below hb) (fun k hk => by cases hk) (fun k hk => .inl hk)).1
theorem St.kp (h : St w B g hh m N S K) (hb : Below w.heap.size w w') : Kp B K w w' := (h.sc.kp hb).sub fun k hk => by simp [hk]
theorem St.drew (h : St w B g hh m N S K) : St w.drew B g hh m N S K := h.below (Below.refl _ _).drew
theorem St.sub {K' : List Nat} (h : St w B g hh m N S K) (hs : ∀ k ∈ K', k ∈ K) : St w B g hh m N S K' := (h.tn (T := []) (.refl _ _) (fun k hk => by cases hk) (fun k hk => .inl (hs k hk))).1
theorem St.fresh (h : St w B g hh m N S K) (hb : Below w.heap.size w w') {n : Nat} (h0 : w.heap.size ≤ n) (hn : n < w'.heap.size) : St w' B g hh m N S (n :: K) :=
  (h.tn (T := []) (.of_below hb) (fun k hk => by cases hk) (fun k hk => by
    rcases List.mem_cons.1 hk with rfl | hk
    · exact .inr ⟨h0, hn⟩
    · exact .inl hk)).1
theorem St.more {N' : Nat} (h : St w B g hh m N S K) (hN : N ≤ N') : St w B g hh m N' S K :=
  ⟨h.sc, h.blk, h.map, h.hm, h.ks, fun k c e => by have := h.bd k c e; omega, by have := h.nn; omega, h.tl⟩
theorem St.bl (h : St w B g hh m N S K) : B ≤ w.heap.size := h.sc.bl
/-- A deed on the arena. -/
theorem St.deed {s' : Ar} (h : St w B g hh m N S K) (a : Sc w' B g s' (hh :: m :: K)) (k : Kp B (hh :: m :: K) w w') (tl : Tl s') : St w' B g hh m N ⟨s', S.f, S.n⟩ K ∧ Kp B K w w' :=
  ⟨⟨a, k.has (by simp) h.blk, h.map.keep (k.blk m (by simp)), h.hm, h.ks, h.bd, h.nn, tl⟩, k.sub fun k hk => by simp [hk]⟩
/-- A deed on the map. -/
theorem St.mapd {f' : Int → Option Ct} {n' N' : Nat} (h : St w B g hh m N S K) (ht : w.mapTurned w' m) (hc : MapC w' m n' f') (hb : ∀ k c, f' k = some c → c.s ≤ 4294967295 ∧ 0 ≤ c.g ∧ c.g ≤ 4294967295 ∧ 1 ≤ c.t ∧ c.t ≤ N') (hn : n' ≤ N') :
    St w' B g hh m N' ⟨S.s, f', n'⟩ K ∧ Kp B K w w' := by
  have t := Tn.turned ht
  obtain ⟨a1, a2⟩ := h.sc.tn (K' := hh :: m :: K) t (fun k hk => by simp at hk; simp [hk]) (fun k hk => .inl hk)
  refine ⟨⟨a1, (t.block hh (h.sc.klt (by simp)) (by simp; exact h.hm)).trans h.blk, hc, h.hm, h.ks, hb, hn, h.tl⟩, a2, fun k hk => t.block k (h.sc.klt (by simp [hk])) (by simp; exact (h.ks k hk).2)⟩
theorem St.look (h : St w B g hh m N S K) {k : Int} (hk : I64 k) : (Instr.lookup 68 (.map (some m)) (.int .i64 k) true).run Tryd.prog w = .ok (.tuple #[ctv ((S.f k).getD zc), .bool (S.f k).isSome]) w := h.map.look hk
theorem St.c0 (h : St w B g hh m N S K) : w.cell? ⟨hh, 0, none⟩ = some (.pointer (some ⟨g, 0, none⟩)) := h.blk.cell 0
theorem St.c1 (h : St w B g hh m N S K) : w.cell? ⟨hh, 1, none⟩ = some (.map (some m)) := h.blk.cell 1
end
theorem bd_upd {f : Int → Option Ct} {N : Nat} (h : ∀ k c, f k = some c → c.s ≤ 4294967295 ∧ 0 ≤ c.g ∧ c.g ≤ 4294967295 ∧ 1 ≤ c.t ∧ c.t ≤ N) (ix : Int) (c : Ct) (hc : c.s ≤ 4294967295 ∧ 0 ≤ c.g ∧ c.g ≤ 4294967295 ∧ 1 ≤ c.t ∧ c.t ≤ N + 1) :
    ∀ k d, upd f ix (some c) k = some d → d.s ≤ 4294967295 ∧ 0 ≤ d.g ∧ d.g ≤ 4294967295 ∧ 1 ≤ d.t ∧ d.t ≤ ((N + 1 : Nat) : Int) := by
  intro k d e
  by_cases e1 : k = ix
  · rw [e1, upd_same] at e
    cases e
    exact ⟨hc.1, hc.2.1, hc.2.2.1, hc.2.2.2.1, by omega⟩
  · rw [upd_other _ _ _ _ e1] at e
    have := h k d e
    omega
theorem bd_none {f : Int → Option Ct} {N : Nat} (h : ∀ k c, f k = some c → c.s ≤ 4294967295 ∧ 0 ≤ c.g ∧ c.g ≤ 4294967295 ∧ 1 ≤ c.t ∧ c.t ≤ N) (ix : Int) :
    ∀ k d, upd f ix none k = some d → d.s ≤ 4294967295 ∧ 0 ≤ d.g ∧ d.g ≤ 4294967295 ∧ 1 ≤ d.t ∧ d.t ≤ ((N + 1 : Nat) : Int) := by
  intro k d e
  by_cases e1 : k = ix
  · rw [e1, upd_same] at e; cases e
  · rw [upd_other _ _ _ _ e1] at e
    have := h k d e
    omega
end Go.Proofs.YtglhebpblncjaaaDoor
