/- An arena beside what a statement owns itself: the deeds as contracts that keep the blocks of the list K as they are. -/
import Derived.Test.YtglhebpblncjaaaDoorArText
namespace Go.Proofs.YtglhebpblncjaaaDoor
open Go.RowKit
set_option linter.unusedVariables false

/-- The arena at g, all of whose memory lies from B on, apart from the blocks of K, which lie there too. -/
structure Sc (w : World) (B g : Nat) (s : Ar) (K : List Nat) : Prop where
  tab : Tab w
  dbt : Dbt w
  tb : 0 < B
  db : 1 < B
  bl : B ≤ w.heap.size
  ar : ∃ v, ArAt w B g v s ∧ ∀ k ∈ K, B ≤ k ∧ k < w.heap.size ∧ k ≠ g ∧ v.ownBlock ≠ some k
/-- What lies below B, and the blocks of K, are as they were. -/
structure Kp (B : Nat) (K : List Nat) (w w' : World) : Prop where
  bel : Below B w w'
  blk : ∀ k ∈ K, w'.heap[k]? = w.heap[k]?
theorem Kp.refl (B : Nat) (K : List Nat) (w : World) : Kp B K w w := ⟨.refl _ _, fun _ _ => rfl⟩
theorem Kp.trans {B : Nat} {K : List Nat} {a b c : World} (h : Kp B K a b) (k : Kp B K b c) : Kp B K a c := ⟨h.bel.trans k.bel, fun i hi => (k.blk i hi).trans (h.blk i hi)⟩
theorem Kp.sub {B : Nat} {K L : List Nat} {a b : World} (h : Kp B K a b) (hs : ∀ k ∈ L, k ∈ K) : Kp B L a b := ⟨h.bel, fun k hk => h.blk k (hs k hk)⟩
theorem Kp.has {B : Nat} {K : List Nat} {w w' : World} (h : Kp B K w w') {k : Nat} (hk : k ∈ K) {t : TypeId} {cs : Array Value} (h1 : Has w k t cs) : Has w' k t cs := (h.blk k hk).trans h1
theorem Kp.owns {B : Nat} {K : List Nat} {w w' : World} (h : Kp B K w w') {base : Nat} {e : TypeId} {size : Nat} {v : Value} {n : Nat} {xs : List Value} (r : w.ownsRow base e size v n xs) (hk : ∀ k, v.ownBlock = some k → k ∈ K) : w'.ownsRow base e size v n xs :=
  owns_keep r fun k h1 => h.blk k (hk k h1)
theorem tab_bel {B : Nat} {w w' : World} (h : Tab w) (tb : 0 < B) (hb : Below B w w') : Tab w' := fun k hk => (hb.cell (p := ⟨0, k, none⟩) tb).trans (h k hk)
theorem dbt_bel {B : Nat} {w w' : World} (h : Dbt w) (db : 1 < B) (hb : Below B w w') : Dbt w' := fun k hk => (hb.cell (p := ⟨1, k, none⟩) db).trans (h k hk)
theorem tab_lt {w : World} (h : Tab w) : 0 < w.heap.size := World.block_lt_of_cell? _ _ (h 0 (by omega))
theorem dbt_lt {w : World} (h : Dbt w) : 1 < w.heap.size := World.block_lt_of_cell? _ _ (h 0 (by omega))

/-- Memory is made, and all else is as it was. -/
theorem Sc.below {w w' : World} {B g : Nat} {s : Ar} {K : List Nat} (h : Sc w B g s K) (hb : Below w.heap.size w w') : Sc w' B g s K := by
  obtain ⟨v, h1, h2⟩ := h.ar
  have hs := hb.size
  exact ⟨h.tab.below hb, h.dbt.below hb, h.tb, h.db, Nat.le_trans h.bl hs, v, h1.below hb, fun k hk => ⟨(h2 k hk).1, Nat.lt_of_lt_of_le (h2 k hk).2.1 hs, (h2 k hk).2.2⟩⟩
theorem Sc.kp {w w' : World} {B g : Nat} {s : Ar} {K : List Nat} (h : Sc w B g s K) (hb : Below w.heap.size w w') : Kp B K w w' := by
  obtain ⟨v, h1, h2⟩ := h.ar
  exact ⟨hb.mono h.bl, fun k hk => hb.block k (h2 k hk).2.1⟩
theorem Sc.sub {w : World} {B g : Nat} {s : Ar} {K L : List Nat} (h : Sc w B g s K) (hs : ∀ k ∈ L, k ∈ K) : Sc w B g s L := by
  obtain ⟨v, h1, h2⟩ := h.ar
  exact ⟨h.tab, h.dbt, h.tb, h.db, h.bl, v, h1, fun k hk => h2 k (hs k hk)⟩
/-- A new block is one of the statement's own. -/
theorem Sc.fresh {w w' : World} {B g : Nat} {s : Ar} {K : List Nat} (h : Sc w B g s K) (hb : Below w.heap.size w w') {n : Nat} (h0 : w.heap.size ≤ n) (hn : n < w'.heap.size) : Sc w' B g s (n :: K) := by
  obtain ⟨v, h1, h2⟩ := h.ar
  have hs := hb.size
  have hg := h1.lt
  refine ⟨h.tab.below hb, h.dbt.below hb, h.tb, h.db, Nat.le_trans h.bl hs, v, h1.below hb, fun k hk => ?_⟩
  rcases List.mem_cons.1 hk with rfl | hk
  · refine ⟨Nat.le_trans h.bl h0, hn, by omega, fun e => ?_⟩
    have := (h1.vlt _ e).2
    omega
  · exact ⟨(h2 k hk).1, Nat.lt_of_lt_of_le (h2 k hk).2.1 hs, (h2 k hk).2.2⟩
/-- The statement turns a block of its own, k, and makes memory. -/
theorem Sc.turn {w w' : World} {B g : Nat} {s : Ar} {K : List Nat} (h : Sc w B g s K) {o : Option Nat} (ho : ∀ k, o = some k → k ∈ K) (hos : w'.os = w.os) (ht : w'.tape = w.tape) (hout : w'.output = w.output) (hs : w.heap.size ≤ w'.heap.size) (hb : ∀ k, k < w.heap.size → o ≠ some k → w'.heap[k]? = w.heap[k]?) :
    Sc w' B g s K ∧ Below B w w' := by
  obtain ⟨v, h1, h2⟩ := h.ar
  have hg := h1.lt
  have bel : Below B w w' := ⟨hos, ht, hout, hs, fun k hk => hb k (Nat.lt_of_lt_of_le hk h.bl) (fun e => by have := (h2 k (ho k e)).1; omega)⟩
  refine ⟨⟨tab_bel h.tab h.tb bel, dbt_bel h.dbt h.db bel, h.tb, h.db, Nat.le_trans h.bl hs, v, h1.keep fun k hk => ?_, fun k hk => ⟨(h2 k hk).1, Nat.lt_of_lt_of_le (h2 k hk).2.1 hs, (h2 k hk).2.2⟩⟩, bel⟩
  refine hb k ?_ (fun e => ?_)
  · rcases hk with rfl | hk
    · exact hg
    · exact (h1.vlt k hk).2
  · have := h2 k (ho k e)
    rcases hk with rfl | hk
    · exact this.2.2.1 rfl
    · exact this.2.2.2 hk
theorem Sc.set {w : World} {B g : Nat} {s : Ar} {K : List Nat} (h : Sc w B g s K) {k : Nat} (hk : k ∈ K) (i : Nat) (u : Value) : Sc (w.setCell ⟨k, i, none⟩ u) B g s K ∧ Below B w (w.setCell ⟨k, i, none⟩ u) :=
  h.turn (o := some k) (fun _ e => by rw [← Option.some.inj e]; exact hk) rfl rfl rfl (by simp [World.setCell]) fun j _ hj => Below.heap_setCell _ _ _ _ (fun e => hj (by rw [e]))
theorem Sc.drew {w : World} {B g : Nat} {s : Ar} {K : List Nat} (h : Sc w B g s K) : Sc w.drew B g s K := h.below (Below.refl _ _).drew

/-- Out of a deed's frame: the scene behind it. -/
theorem Sc.deed {w w' : World} {B g : Nat} {s s' : Ar} {K : List Nat} {v v' : Value} (h : Sc w B g s K) (h1 : ArAt w B g v s) (h2 : ∀ k ∈ K, B ≤ k ∧ k < w.heap.size ∧ k ≠ g ∧ v.ownBlock ≠ some k) (ha : ArAt w' B g v' s') (hv : v'.ownBlock = v.ownBlock ∨ ∃ n, v'.ownBlock = some n ∧ w.heap.size ≤ n) {o : Option Nat} (ho : o = none ∨ o = v.ownBlock) (hf : Fr g o w w') :
    Sc w' B g s' K ∧ Kp B K w w' := by
  have bel : Below B w w' := hf.below h.bl h1.low (fun k hk => by
    rcases ho with rfl | rfl
    · cases hk
    · exact (h1.vlt k hk).1)
  refine ⟨⟨tab_bel h.tab h.tb bel, dbt_bel h.dbt h.db bel, h.tb, h.db, Nat.le_trans h.bl hf.size, v', ha, fun k hk => ⟨(h2 k hk).1, Nat.lt_of_lt_of_le (h2 k hk).2.1 hf.size, (h2 k hk).2.2.1, fun e => ?_⟩⟩, bel, fun k hk => hf.block k (h2 k hk).2.1 (h2 k hk).2.2.1 (fun e => ?_)⟩
  · rcases hv with e1 | ⟨n, e1, hn⟩
    · exact (h2 k hk).2.2.2 (e1.symm.trans e)
    · have := Option.some.inj (e1.symm.trans e)
      have := (h2 k hk).2.1
      omega
  · rcases ho with rfl | rfl
    · cases e
    · exact (h2 k hk).2.2.2 e

theorem new_sc (c : Int) (w : World) (h0 : 0 ≤ c) (h1 : c ≤ 16777216) (ht : Tab w) (hT : Dbt w) :
    Calls Tryd.prog 8 #[.int .i64 c] w fun e w' => e = .returned (.pointer (some ⟨w.heap.size, 0, none⟩)) ∧ Sc w' w.heap.size w.heap.size ⟨c, c, []⟩ [] ∧ Below w.heap.size w w' :=
  (new_yes c w h0 h1).mono fun e w' ⟨he, ha, hb⟩ => ⟨he, ⟨ht.below hb, hT.below hb, tab_lt ht, dbt_lt hT, hb.size, _, ha, fun k hk => by cases hk⟩, hb⟩
theorem alloc_sc {w : World} {B g : Nat} {s : Ar} {K : List Nat} (h : Sc w B g s K) (t : List UInt8) (hlen : t.length ≤ maxLen) :
    Calls Tryd.prog 33 #[.pointer (some ⟨g, 0, none⟩), .string (str t)] w fun e w' => e = .returned (.tuple #[.agg #[.int .u32 (aslot s t.length), .int .u32 (agen s t.length)], .int .i64 (aerr s t.length)]) ∧ Sc w' B g (alo s t) K ∧ Kp B K w w' := by
  obtain ⟨v, h1, h2⟩ := h.ar
  refine (alloc_any h1 h.bl h.tab h.dbt t hlen).mono fun e w' ⟨v2, he, ha, hv, hf⟩ => ⟨he, ?_⟩
  exact h.deed h1 h2 ha hv (.inr rfl) hf
theorem get_sc {w : World} {B g : Nat} {s : Ar} {K : List Nat} (h : Sc w B g s K) (i : Nat) (gn : Int) (hi : i ≤ 4294967295) (hgn0 : 0 ≤ gn) (hgn1 : gn ≤ 4294967295) :
    Calls Tryd.prog 39 #[.pointer (some ⟨g, 0, none⟩), .agg #[.int .u32 i, .int .u32 gn]] w fun e w' => e = .returned (.tuple #[.string (str (got s i gn)), .bool (hit s.l i gn)]) ∧ Sc w' B g s K ∧ Kp B K w w' := by
  obtain ⟨v, h1, h2⟩ := h.ar
  exact (aget_any h1 i gn hi hgn0 hgn1).mono fun e w' ⟨he, hb⟩ => ⟨he, h.below hb, h.kp hb⟩
theorem free_sc {w : World} {B g : Nat} {s : Ar} {K : List Nat} (h : Sc w B g s K) (i : Nat) (gn : Int) (hi : i ≤ 4294967295) (hgn0 : 0 ≤ gn) (hgn1 : gn ≤ 4294967295) :
    Calls Tryd.prog 37 #[.pointer (some ⟨g, 0, none⟩), .agg #[.int .u32 i, .int .u32 gn]] w fun e w' => e = .returned (.bool (hit s.l i gn)) ∧ Sc w' B g (fro s i gn) K ∧ Kp B K w w' := by
  obtain ⟨v, h1, h2⟩ := h.ar
  refine (free_any h1 i gn hi hgn0 hgn1).mono fun e w' ⟨he, ha, hf⟩ => ⟨he, ?_⟩
  exact h.deed h1 h2 ha (.inl rfl) (.inr rfl) hf
theorem charged_sc {w : World} {B g : Nat} {s : Ar} {K : List Nat} (h : Sc w B g s K) :
    Calls Tryd.prog 25 #[.pointer (some ⟨g, 0, none⟩)] w fun e w' => e = .returned (.int .i64 (chg s.l)) ∧ w = w' := by
  obtain ⟨v, h1, h2⟩ := h.ar
  exact charged_any h1
theorem limit_sc {w : World} {B g : Nat} {s : Ar} {K : List Nat} (h : Sc w B g s K) :
    Calls Tryd.prog 31 #[.pointer (some ⟨g, 0, none⟩)] w fun e w' => e = .returned (.int .i64 s.lim) ∧ w = w' := by
  obtain ⟨v, h1, h2⟩ := h.ar
  exact limit_any h1
theorem live_sc {w : World} {B g : Nat} {s : Ar} {K : List Nat} (h : Sc w B g s K) :
    Calls Tryd.prog 30 #[.pointer (some ⟨g, 0, none⟩)] w fun e w' => e = .returned (.int .i64 (liv s.l)) ∧ w = w' := by
  obtain ⟨v, h1, h2⟩ := h.ar
  exact live_any h1
theorem fits_sc {w : World} {B g : Nat} {s : Ar} {K : List Nat} (h : Sc w B g s K) (A : Option Addr) (len cap : Nat) (ls : List Int) (hl : ls.length = len) (hm : len ≤ maxLen) (hr : Lies w A (ints ls)) :
    Calls Tryd.prog 47 #[.pointer (some ⟨g, 0, none⟩), .slice A len cap] w fun e w' => e = .returned (.bool (fits s ls)) ∧ Sc w' B g s K ∧ Kp B K w w' := by
  obtain ⟨v, h1, h2⟩ := h.ar
  exact (fits_any h1 h.tab A len cap ls hl hm hr).mono fun e w' ⟨he, hb⟩ => ⟨he, h.below hb, h.kp hb⟩
end Go.Proofs.YtglhebpblncjaaaDoor
