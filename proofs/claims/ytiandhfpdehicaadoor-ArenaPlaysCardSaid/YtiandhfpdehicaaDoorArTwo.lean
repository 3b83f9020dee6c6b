/- The program's arena and the reference's, side by side, and what a statement owns beside them: the deeds of both as contracts. -/
import Derived.Test.YtiandhfpdehicaaDoorArRefPuts
namespace Go.Proofs.YtiandhfpdehicaaDoor
open Go.RowKit
set_option linter.unusedVariables false

/-- Both arenas, apart from one another and from the blocks of K. -/
structure Apart (w : World) (B g g' : Nat) (v v' : Value) (K : List Nat) : Prop where
  gg : g ≠ g'
  vg : v.ownBlock ≠ some g'
  gv : v'.ownBlock ≠ some g
  vv : ∀ k, v.ownBlock = some k → v'.ownBlock ≠ some k
  ks : ∀ k ∈ K, B ≤ k ∧ k < w.heap.size ∧ k ≠ g ∧ k ≠ g' ∧ v.ownBlock ≠ some k ∧ v'.ownBlock ≠ some k
structure Tw (w : World) (B g g' : Nat) (s s' : Ar) (K : List Nat) : Prop where
  tab : Tab w
  dbt : Dbt w
  tb : 0 < B
  db : 1 < B
  bl : B ≤ w.heap.size
  ar : ∃ v v', ArAt w B g v s ∧ RfAt w B g' v' s' ∧ Apart w B g g' v v' K

/-- Memory is made, and all else is as it was. -/
theorem Tw.below {w w' : World} {B g g' : Nat} {s s' : Ar} {K : List Nat} (h : Tw w B g g' s s' K) (hb : Below w.heap.size w w') : Tw w' B g g' s s' K ∧ Kp B K w w' := by
  obtain ⟨v, v', h1, h2, a⟩ := h.ar
  have hs := hb.size
  refine ⟨⟨h.tab.below hb, h.dbt.below hb, h.tb, h.db, Nat.le_trans h.bl hs, v, v', h1.below hb, h2.below hb, a.gg, a.vg, a.gv, a.vv, fun k hk => ?_⟩, hb.mono h.bl, fun k hk => hb.block k (a.ks k hk).2.1⟩
  have := a.ks k hk
  exact ⟨this.1, Nat.lt_of_lt_of_le this.2.1 hs, this.2.2⟩
/-- A deed of the program's arena. -/
theorem Tw.left {w w' : World} {B g g' : Nat} {s s2 s' : Ar} {K : List Nat} {v v2 v' : Value} (h : Tw w B g g' s s' K) (h1 : ArAt w B g v s) (h2 : RfAt w B g' v' s') (a : Apart w B g g' v v' K) (ha : ArAt w' B g v2 s2) (hv : v2.ownBlock = v.ownBlock ∨ ∃ n, v2.ownBlock = some n ∧ w.heap.size ≤ n) {o : Option Nat} (ho : o = none ∨ o = v.ownBlock) (hf : Fr g o w w') :
    Tw w' B g g' s2 s' K ∧ Kp B K w w' := by
  have hno : ∀ k, v.ownBlock ≠ some k → o ≠ some k := fun k hk e => by
    rcases ho with rfl | rfl
    · cases e
    · exact hk e
  have bel : Below B w w' := hf.below h.bl h1.low (fun k hk => by
    rcases ho with rfl | rfl
    · cases hk
    · exact (h1.vlt k hk).1)
  have fresh : ∀ k, k < w.heap.size → v.ownBlock ≠ some k → v2.ownBlock ≠ some k := fun k hk hn e => by
    rcases hv with e1 | ⟨n, e1, hn2⟩
    · exact hn (e1.symm.trans e)
    · have := Option.some.inj (e1.symm.trans e); omega
  have hg' := h2.lt
  refine ⟨⟨tab_bel h.tab h.tb bel, dbt_bel h.dbt h.db bel, h.tb, h.db, Nat.le_trans h.bl hf.size, v2, v', ha, h2.keep fun k hk => ?_, a.gg, fresh g' hg' a.vg, a.gv, fun k hk e => ?_, fun k hk => ?_⟩, bel, fun k hk => ?_⟩
  · rcases hk with rfl | hk
    · exact hf.block _ hg' (fun e => a.gg e.symm) (hno _ a.vg)
    · exact hf.block k (h2.vlt k hk).2 (fun e => a.gv (by rw [hk, e])) (hno k (fun e => a.vv k e hk))
  · exact fresh k (h2.vlt k e).2 (fun e2 => a.vv k e2 e) hk
  · have := a.ks k hk
    exact ⟨this.1, Nat.lt_of_lt_of_le this.2.1 hf.size, this.2.2.1, this.2.2.2.1, fresh k this.2.1 this.2.2.2.2.1, this.2.2.2.2.2⟩
  · have := a.ks k hk
    exact hf.block k this.2.1 this.2.2.1 (hno k this.2.2.2.2.1)
/-- A deed of the reference's arena. -/
theorem Tw.right {w w' : World} {B g g' : Nat} {s s2 s' : Ar} {K : List Nat} {v v2 v' : Value} (h : Tw w B g g' s s' K) (h1 : ArAt w B g v s) (h2 : RfAt w B g' v' s') (a : Apart w B g g' v v' K) (ha : RfAt w' B g' v2 s2) (hv : v2.ownBlock = v'.ownBlock ∨ ∃ n, v2.ownBlock = some n ∧ w.heap.size ≤ n) {o : Option Nat} (ho : o = none ∨ o = v'.ownBlock) (hf : Fr g' o w w') :
    Tw w' B g g' s s2 K ∧ Kp B K w w' := by
  have hno : ∀ k, v'.ownBlock ≠ some k → o ≠ some k := fun k hk e => by
    rcases ho with rfl | rfl
    · cases e
    · exact hk e
  have bel : Below B w w' := hf.below h.bl h2.low (fun k hk => by
    rcases ho with rfl | rfl
    · cases hk
    · exact (h2.vlt k hk).1)
  have fresh : ∀ k, k < w.heap.size → v'.ownBlock ≠ some k → v2.ownBlock ≠ some k := fun k hk hn e => by
    rcases hv with e1 | ⟨n, e1, hn2⟩
    · exact hn (e1.symm.trans e)
    · have := Option.some.inj (e1.symm.trans e); omega
  have hg := h1.lt
  refine ⟨⟨tab_bel h.tab h.tb bel, dbt_bel h.dbt h.db bel, h.tb, h.db, Nat.le_trans h.bl hf.size, v, v2, h1.keep fun k hk => ?_, ha, a.gg, a.vg, fresh g hg a.gv, fun k hk => fresh k (h1.vlt k hk).2 (a.vv k hk), fun k hk => ?_⟩, bel, fun k hk => ?_⟩
  · rcases hk with rfl | hk
    · exact hf.block _ hg a.gg (hno _ a.gv)
    · exact hf.block k (h1.vlt k hk).2 (fun e => a.vg (by rw [hk, e])) (hno k (a.vv k hk))
  · have := a.ks k hk
    exact ⟨this.1, Nat.lt_of_lt_of_le this.2.1 hf.size, this.2.2.1, this.2.2.2.1, this.2.2.2.2.1, fresh k this.2.1 this.2.2.2.2.2⟩
  · have := a.ks k hk
    exact hf.block k this.2.1 this.2.2.2.1 (hno k this.2.2.2.2.2)

section
variable {w : World} {B g g' : Nat} {s s' : Ar} {K : List Nat}
theorem alloc_tw (h : Tw w B g g' s s' K) (t : List UInt8) (hlen : t.length ≤ maxLen) :
    Calls Tryd.prog 8 #[.pointer (some ⟨g, 0, none⟩), .string (str t)] w fun e w' => e = .returned (.tuple #[.agg #[.int .u32 (aslot s t.length), .int .u32 (agen s t.length)], .int .i64 (aerr s t.length)]) ∧ Tw w' B g g' (alo s t) s' K ∧ Kp B K w w' := by
  obtain ⟨v, v', h1, h2, a⟩ := h.ar
  exact (alloc_any h1 h.bl h.tab h.dbt t hlen).mono fun e w' ⟨_, he, ha, hv, hf⟩ => ⟨he, h.left h1 h2 a ha hv (.inr rfl) hf⟩
theorem ralloc_tw (h : Tw w B g g' s s' K) (t : List UInt8) (hlen : t.length ≤ maxLen) :
    Calls Tryd.prog 9 #[.pointer (some ⟨g', 0, none⟩), .string (str t)] w fun e w' => e = .returned (.tuple #[.agg #[.int .u32 (aslot s' t.length), .int .u32 (agen s' t.length)], .int .i64 (aerr s' t.length)]) ∧ Tw w' B g g' s (alo s' t) K ∧ Kp B K w w' := by
  obtain ⟨v, v', h1, h2, a⟩ := h.ar
  exact (refAlloc_any h2 h.bl t hlen).mono fun e w' ⟨_, he, ha, hv, hf⟩ => ⟨he, h.right h1 h2 a ha hv (.inr rfl) hf⟩
theorem get_tw (h : Tw w B g g' s s' K) (i : Nat) (gn : Int) (hi : i ≤ 4294967295) (hgn0 : 0 ≤ gn) (hgn1 : gn ≤ 4294967295) :
    Calls Tryd.prog 10 #[.pointer (some ⟨g, 0, none⟩), .agg #[.int .u32 i, .int .u32 gn]] w fun e w' => e = .returned (.tuple #[.string (str (got s i gn)), .bool (hit s.l i gn)]) ∧ Tw w' B g g' s s' K ∧ Kp B K w w' := by
  obtain ⟨v, v', h1, h2, a⟩ := h.ar
  exact (get_any h1 i gn hi hgn0 hgn1).mono fun e w' ⟨he, hb⟩ => ⟨he, h.below hb⟩
theorem rget_tw (h : Tw w B g g' s s' K) (i : Nat) (gn : Int) (hi : i ≤ 4294967295) (hgn0 : 0 ≤ gn) (hgn1 : gn ≤ 4294967295) :
    Calls Tryd.prog 11 #[.pointer (some ⟨g', 0, none⟩), .agg #[.int .u32 i, .int .u32 gn]] w fun e w' => e = .returned (.tuple #[.string (str (got s' i gn)), .bool (hit s'.l i gn)]) ∧ Tw w' B g g' s s' K ∧ Kp B K w w' := by
  obtain ⟨v, v', h1, h2, a⟩ := h.ar
  exact (refGet_any h2 i gn hi hgn0 hgn1).mono fun e w' ⟨he, hb⟩ => ⟨he, h.below hb⟩
theorem put_tw (h : Tw w B g g' s s' K) (i : Nat) (gn : Int) (hi : i ≤ 4294967295) (hgn0 : 0 ≤ gn) (hgn1 : gn ≤ 4294967295) (t : List UInt8) (ht : t.length ≤ maxLen) :
    Calls Tryd.prog 12 #[.pointer (some ⟨g, 0, none⟩), .agg #[.int .u32 i, .int .u32 gn], .string (str t)] w fun e w' => e = .returned (.bool (pok s i gn t.length)) ∧ Tw w' B g g' (pto s i gn t) s' K ∧ Kp B K w w' := by
  obtain ⟨v, v', h1, h2, a⟩ := h.ar
  exact (put_any h1 i gn hi hgn0 hgn1 t ht).mono fun e w' ⟨he, ha, hf⟩ => ⟨he, h.left h1 h2 a ha (.inl rfl) (.inr rfl) hf⟩
theorem rput_tw (h : Tw w B g g' s s' K) (i : Nat) (gn : Int) (hi : i ≤ 4294967295) (hgn0 : 0 ≤ gn) (hgn1 : gn ≤ 4294967295) (t : List UInt8) (ht : t.length ≤ maxLen) :
    Calls Tryd.prog 13 #[.pointer (some ⟨g', 0, none⟩), .agg #[.int .u32 i, .int .u32 gn], .string (str t)] w fun e w' => e = .returned (.bool (pok s' i gn t.length)) ∧ Tw w' B g g' s (pto s' i gn t) K ∧ Kp B K w w' := by
  obtain ⟨v, v', h1, h2, a⟩ := h.ar
  exact (refPut_any h2 i gn hi hgn0 hgn1 t ht).mono fun e w' ⟨he, ha, hf⟩ => ⟨he, h.right h1 h2 a ha (.inl rfl) (.inr rfl) hf⟩
theorem free_tw (h : Tw w B g g' s s' K) (i : Nat) (gn : Int) (hi : i ≤ 4294967295) (hgn0 : 0 ≤ gn) (hgn1 : gn ≤ 4294967295) :
    Calls Tryd.prog 14 #[.pointer (some ⟨g, 0, none⟩), .agg #[.int .u32 i, .int .u32 gn]] w fun e w' => e = .returned (.bool (hit s.l i gn)) ∧ Tw w' B g g' (fro s i gn) s' K ∧ Kp B K w w' := by
  obtain ⟨v, v', h1, h2, a⟩ := h.ar
  exact (free_any h1 i gn hi hgn0 hgn1).mono fun e w' ⟨he, ha, hf⟩ => ⟨he, h.left h1 h2 a ha (.inl rfl) (.inr rfl) hf⟩
theorem rfree_tw (h : Tw w B g g' s s' K) (i : Nat) (gn : Int) (hi : i ≤ 4294967295) (hgn0 : 0 ≤ gn) (hgn1 : gn ≤ 4294967295) :
    Calls Tryd.prog 15 #[.pointer (some ⟨g', 0, none⟩), .agg #[.int .u32 i, .int .u32 gn]] w fun e w' => e = .returned (.bool (hit s'.l i gn)) ∧ Tw w' B g g' s (fro s' i gn) K ∧ Kp B K w w' := by
  obtain ⟨v, v', h1, h2, a⟩ := h.ar
  exact (refFree_any h2 i gn hi hgn0 hgn1).mono fun e w' ⟨he, ha, hf⟩ => ⟨he, h.right h1 h2 a ha (.inl rfl) (.inr rfl) hf⟩
theorem setLimit_tw (h : Tw w B g g' s s' K) (n : Int) :
    Calls Tryd.prog 16 #[.pointer (some ⟨g, 0, none⟩), .int .i64 n] w fun e w' => e = .returned (.int .i64 (serr s n)) ∧ Tw w' B g g' (sto s n) s' K ∧ Kp B K w w' := by
  obtain ⟨v, v', h1, h2, a⟩ := h.ar
  exact (setLimit_any h1 n).mono fun e w' ⟨he, ha, hf⟩ => ⟨he, h.left h1 h2 a ha (.inl rfl) (.inl rfl) hf⟩
theorem rsetLimit_tw (h : Tw w B g g' s s' K) (n : Int) :
    Calls Tryd.prog 17 #[.pointer (some ⟨g', 0, none⟩), .int .i64 n] w fun e w' => e = .returned (.int .i64 (serr s' n)) ∧ Tw w' B g g' s (sto s' n) K ∧ Kp B K w w' := by
  obtain ⟨v, v', h1, h2, a⟩ := h.ar
  exact (refSetLimit_any h2 n).mono fun e w' ⟨he, ha, hf⟩ => ⟨he, h.right h1 h2 a ha (.inl rfl) (.inl rfl) hf⟩
theorem fits_tw (h : Tw w B g g' s s' K) (A : Option Addr) (len cap : Nat) (ls : List Int) (hl : ls.length = len) (hm : len ≤ maxLen) (hr : Lies w A (ints ls)) :
    Calls Tryd.prog 18 #[.pointer (some ⟨g, 0, none⟩), .slice A len cap] w fun e w' => e = .returned (.bool (fits s ls)) ∧ Below w.heap.size w w' := by
  obtain ⟨v, v', h1, h2, a⟩ := h.ar
  exact fits_any h1 h.tab A len cap ls hl hm hr
theorem rfits_tw (h : Tw w B g g' s s' K) (A : Option Addr) (len cap : Nat) (ls : List Int) (hl : ls.length = len) (hm : len ≤ maxLen) (hr : Lies w A (ints ls)) :
    Calls Tryd.prog 19 #[.pointer (some ⟨g', 0, none⟩), .slice A len cap] w fun e w' => e = .returned (.bool (fits s' ls)) ∧ Below w.heap.size w w' := by
  obtain ⟨v, v', h1, h2, a⟩ := h.ar
  exact refFits_any h2 A len cap ls hl hm hr
theorem charged_tw (h : Tw w B g g' s s' K) :
    Calls Tryd.prog 20 #[.pointer (some ⟨g, 0, none⟩)] w fun e w' => e = .returned (.int .i64 (chg s.l)) ∧ w = w' := by
  obtain ⟨v, v', h1, h2, a⟩ := h.ar
  exact charged_any h1
theorem rcharged_tw (h : Tw w B g g' s s' K) :
    Calls Tryd.prog 21 #[.pointer (some ⟨g', 0, none⟩)] w fun e w' => e = .returned (.int .i64 (chg s'.l)) ∧ w = w' := by
  obtain ⟨v, v', h1, h2, a⟩ := h.ar
  exact refCharged_any h2
theorem live_tw (h : Tw w B g g' s s' K) :
    Calls Tryd.prog 22 #[.pointer (some ⟨g, 0, none⟩)] w fun e w' => e = .returned (.int .i64 (liv s.l)) ∧ w = w' := by
  obtain ⟨v, v', h1, h2, a⟩ := h.ar
  exact live_any h1
theorem rlive_tw (h : Tw w B g g' s s' K) :
    Calls Tryd.prog 23 #[.pointer (some ⟨g', 0, none⟩)] w fun e w' => e = .returned (.int .i64 (liv s'.l)) ∧ w = w' := by
  obtain ⟨v, v', h1, h2, a⟩ := h.ar
  exact refLive_any h2
theorem limit_tw (h : Tw w B g g' s s' K) :
    Calls Tryd.prog 24 #[.pointer (some ⟨g, 0, none⟩)] w fun e w' => e = .returned (.int .i64 s.lim) ∧ w = w' := by
  obtain ⟨v, v', h1, h2, a⟩ := h.ar
  exact limit_any h1
/-- The reference's limit is read from its block. -/
theorem Tw.rlim (h : Tw w B g g' s s' K) : w.cell? ⟨g', 1, none⟩ = some (.int .i64 s'.lim) := by
  obtain ⟨v, v', h1, h2, a⟩ := h.ar
  exact h2.blk.cell 1
/-- Both arenas when they are new. -/
theorem news_tw (c : Int) (w : World) (h0 : 0 ≤ c) (h1 : c ≤ 16777216) (ht : Tab w) (hT : Dbt w) :
    Calls Tryd.prog 5 #[.int .i64 c] w fun e w1 => e = .returned (.pointer (some ⟨w.heap.size, 0, none⟩)) ∧ Below w.heap.size w w1 ∧
      Calls Tryd.prog 6 #[.int .i64 c] w1 fun e w2 => e = .returned (.pointer (some ⟨w1.heap.size, 0, none⟩)) ∧ Tw w2 w.heap.size w.heap.size w1.heap.size ⟨c, c, []⟩ ⟨c, c, []⟩ [] ∧ Below w.heap.size w w2 :=
  (new_yes c w h0 h1).mono fun e w1 ⟨he, ha, hb⟩ => ⟨he, hb, (refNew_yes c w1 h0 h1).mono fun e2 w2 ⟨he2, hr, hb2⟩ => by
    have hbb := hb.trans (hb2.mono hb.size)
    have hl := ha.lt
    refine ⟨he2, ⟨ht.below hbb, hT.below hbb, tab_lt ht, dbt_lt hT, hbb.size, _, _, ha.below hb2, ⟨hb.size, hr.ne, hr.wf, World.ownsRow_nil _ _ _ _, hr.blk⟩, by omega, by simp [Value.ownBlock], by simp [Value.ownBlock], (fun k hk => by cases hk), fun k hk => by cases hk⟩, hbb⟩⟩
theorem Tw.sub {L : List Nat} (h : Tw w B g g' s s' K) (hs : ∀ k ∈ L, k ∈ K) : Tw w B g g' s s' L := by
  obtain ⟨v, v', h1, h2, a⟩ := h.ar
  exact ⟨h.tab, h.dbt, h.tb, h.db, h.bl, v, v', h1, h2, a.gg, a.vg, a.gv, a.vv, fun k hk => a.ks k (hs k hk)⟩
/-- The statement turns a block of its own, and makes memory, of which F is its own from now on. -/
theorem Tw.turn {w' : World} (h : Tw w B g g' s s' K) {o : Option Nat} (ho : ∀ k, o = some k → k ∈ K) (hos : w'.os = w.os) (ht : w'.tape = w.tape) (hout : w'.output = w.output) (hs : w.heap.size ≤ w'.heap.size) (hb : ∀ k, k < w.heap.size → o ≠ some k → w'.heap[k]? = w.heap[k]?)
    (F : List Nat) (hF : ∀ n ∈ F, w.heap.size ≤ n ∧ n < w'.heap.size) : Tw w' B g g' s s' (F ++ K) ∧ Below B w w' := by
  obtain ⟨v, v', h1, h2, a⟩ := h.ar
  have hg := h1.lt
  have hg' := h2.lt
  have bel : Below B w w' := ⟨hos, ht, hout, hs, fun k hk => hb k (Nat.lt_of_lt_of_le hk h.bl) (fun e => by have := (a.ks k (ho k e)).1; omega)⟩
  refine ⟨⟨tab_bel h.tab h.tb bel, dbt_bel h.dbt h.db bel, h.tb, h.db, Nat.le_trans h.bl hs, v, v', h1.keep fun k hk => ?_, h2.keep fun k hk => ?_, a.gg, a.vg, a.gv, a.vv, fun k hk => ?_⟩, bel⟩
  · refine hb k ?_ (fun e => ?_)
    · rcases hk with rfl | hk
      · exact hg
      · exact (h1.vlt k hk).2
    · have := a.ks k (ho k e)
      rcases hk with rfl | hk
      · exact this.2.2.1 rfl
      · exact this.2.2.2.2.1 hk
  · refine hb k ?_ (fun e => ?_)
    · rcases hk with rfl | hk
      · exact hg'
      · exact (h2.vlt k hk).2
    · have := a.ks k (ho k e)
      rcases hk with rfl | hk
      · exact this.2.2.2.1 rfl
      · exact this.2.2.2.2.2 hk
  · rcases List.mem_append.1 hk with hk | hk
    · have hn := hF k hk
      have hbl := h.bl
      refine ⟨by omega, hn.2, by omega, by omega, fun e => ?_, fun e => ?_⟩
      · have := (h1.vlt _ e).2; omega
      · have := (h2.vlt _ e).2; omega
    · have := a.ks k hk
      exact ⟨this.1, Nat.lt_of_lt_of_le this.2.1 hs, this.2.2⟩
/-- A variable that is boxed. -/
theorem Tw.box (h : Tw w B g g' s s' K) (o : Obj) : Tw (w.alloc o) B g g' s s' (w.heap.size :: K) ∧ Kp B K w (w.alloc o) := by
  have hb : Below w.heap.size w (w.alloc o) := (Below.refl _ _).alloc (Nat.le_refl _) _
  exact ⟨(h.turn (o := none) (fun k e => by cases e) hb.os hb.tape hb.output hb.size (fun k hk _ => hb.block k hk) [w.heap.size] (fun n hn => by simp at hn; subst hn; simp)).1, (h.below hb).2⟩
/-- What an append of a handle leaves, beside both arenas. -/
def AppedT (B g g' : Nat) (s s' : Ar) (K : List Nat) (v : Value) (l : List (Int × Int)) (h : Int × Int) (w : World) (v' : Value) (w' : World) : Prop :=
  w'.ownsRow B 32 2 v' (l.length + 1) (hcells (l ++ [h])) ∧ Tw w' B g g' s s' (v'.ownBlock.toList ++ K) ∧ Below B w w' ∧ (∀ k, k < w.heap.size → v.ownBlock ≠ some k → w'.heap[k]? = w.heap[k]?) ∧ (v'.ownBlock = v.ownBlock ∨ ∃ n, v'.ownBlock = some n ∧ w.heap.size ≤ n)
theorem app_hsT {v : Value} {l : List (Int × Int)} {n : Nat} (hn : l.length = n) (hs : Tw w B g g' s s' (v.ownBlock.toList ++ K)) (hown : w.ownsRow B 32 2 v n (hcells l)) (h : Int × Int) (hl : n ≤ 5000) :
    ∃ v' w', (Builtin.append_ #[28, 28] 28 #[v, .slice (some ⟨w.heap.size, 0, none⟩) 1 1]).run Tryd.prog (w.alloc (.cells #[.int .u32 h.1, .int .u32 h.2] 32)) = .ok v' w' ∧ AppedT B g g' s s' K v l h w v' w' := by
  subst hn
  obtain ⟨i0, hi, hz0, hz1, hz2⟩ := info_parts info_handle
  obtain ⟨v', w', h1, h2, h3, _, h4⟩ := run_append_own_at (P := Tryd.prog) (w.alloc (.cells #[.int .u32 h.1, .int .u32 h.2] 32)) B 28 28 32 i0 (.agg #[.int .u32 0, .int .u32 0]) 2 8 Tryd.underlying28 hi hz0 hz1 hz2 rfl (by omega) v l.length (hcells l) (hown.alloc _)
    ⟨w.heap.size, 0, none⟩ 1 1 [.int .u32 h.1, .int .u32 h.2] rfl (pair_lies w h.1 h.2) (by intro u hu; simp at hu; rcases hu with rfl | rfl <;> rfl) (by unfold maxLen; omega) (by omega) (by have := hs.bl; simp; omega)
  have bw : Below w.heap.size w (w.alloc (.cells #[.int .u32 h.1, .int .u32 h.2] 32)) := (Below.refl _ _).alloc (Nat.le_refl _) _
  have hs0 := (hs.below bw).1
  refine ⟨v', w', h1, by rw [hcells_snoc]; exact h2, ?_⟩
  have hbl : ∀ k, k < w.heap.size → v.ownBlock ≠ some k → w'.heap[k]? = w.heap[k]? := fun k hk hne => (h3.block k (by simp; omega) (fun e => hne e.symm)).trans (bw.block k hk)
  have ho : ∀ k, v.ownBlock = some k → k ∈ v.ownBlock.toList ++ K := fun k hk => by rw [hk]; simp
  have bel0 := bw.mono hs.bl
  rcases h4 with e | e
  · obtain ⟨t1, t2⟩ := hs0.turn ho h3.os h3.tape h3.output h3.size (fun k hk hne => h3.block k hk (fun e => hne e.symm)) [] (fun n hn => by cases hn)
    refine ⟨by rw [e]; exact t1, bel0.trans t2, hbl, .inl e⟩
  · have hlt := (h2.lt _ e).2
    obtain ⟨t1, t2⟩ := hs0.turn ho h3.os h3.tape h3.output h3.size (fun k hk hne => h3.block k hk (fun e => hne e.symm)) [(w.alloc (.cells #[.int .u32 h.1, .int .u32 h.2] 32)).heap.size] (fun n hn => by simp only [List.mem_singleton] at hn; subst hn; exact ⟨Nat.le_refl _, hlt⟩)
    refine ⟨t1.sub fun k hk => ?_, bel0.trans t2, hbl, .inr ⟨_, e, by simp⟩⟩
    rw [e] at hk
    simp at hk ⊢
    rcases hk with hk | hk
    · exact .inl hk
    · exact .inr (.inr hk)
end
end Go.Proofs.YtiandhfpdehicaaDoor
