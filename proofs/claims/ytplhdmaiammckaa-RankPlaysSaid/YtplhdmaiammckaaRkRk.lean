/- A rank beside what a statement owns itself: its calls as contracts that keep the blocks of the list K as they are. -/
import Derived.Test.YtplhdmaiammckaaRkTop
import Derived.Lib.MinMax
namespace Go.Proofs.Ytplhdmaiammckaa
open Go.RowKit
set_option linter.unusedVariables false

/-- The rank at g, of n ids, S, apart from the blocks of K. -/
structure Rk (w : World) (B g m n : Nat) (S : Int → Option Int) (K : List Nat) : Prop where
  ex : ∃ v l, Ok w B g m v l ∧ Hp l l.length ∧ l.length = n ∧ Lst l S ∧ ∀ k ∈ K, B ≤ k ∧ k < w.heap.size ∧ k ≠ g ∧ k ≠ m ∧ v.ownBlock ≠ some k
/-- What lies below B, and the blocks of K, are as they were. -/
structure Kp (B : Nat) (K : List Nat) (w w' : World) : Prop where
  bel : Below B w w'
  blk : ∀ k ∈ K, w'.heap[k]? = w.heap[k]?
theorem Kp.refl (B : Nat) (K : List Nat) (w : World) : Kp B K w w := ⟨.refl _ _, fun _ _ => rfl⟩
theorem Kp.trans {B : Nat} {K : List Nat} {a b c : World} (h : Kp B K a b) (k : Kp B K b c) : Kp B K a c := ⟨h.bel.trans k.bel, fun i hi => (k.blk i hi).trans (h.blk i hi)⟩
theorem Kp.sub {B : Nat} {K L : List Nat} {a b : World} (h : Kp B K a b) (hs : ∀ k ∈ L, k ∈ K) : Kp B L a b := ⟨h.bel, fun k hk => h.blk k (hs k hk)⟩
theorem Kp.has {B : Nat} {K : List Nat} {w w' : World} (h : Kp B K w w') {k : Nat} (hk : k ∈ K) {t : TypeId} {cs : Array Value} (h1 : Has w k t cs) : Has w' k t cs := (h.blk k hk).trans h1
theorem Kp.owns {B : Nat} {K : List Nat} {w w' : World} (h : Kp B K w w') {base : Nat} {e : TypeId} {size : Nat} {v : Value} {n : Nat} {xs : List Value} (r : w.ownsRow base e size v n xs) (hk : ∀ k, v.ownBlock = some k → k ∈ K) : w'.ownsRow base e size v n xs :=
  row_keep r fun k h1 => h.blk k (hk k h1)
theorem Rk.bl {w : World} {B g m n : Nat} {S : Int → Option Int} {K : List Nat} (h : Rk w B g m n S K) : B ≤ w.heap.size := by
  obtain ⟨v, l, h1, -⟩ := h.ex
  have := h1.bg; have := h1.lt.1; omega
theorem Rk.below {w w' : World} {B g m n : Nat} {S : Int → Option Int} {K : List Nat} (h : Rk w B g m n S K) (hb : Below w.heap.size w w') : Rk w' B g m n S K := by
  obtain ⟨v, l, h1, h2, h3, h4, h5⟩ := h.ex
  exact ⟨v, l, h1.below hb, h2, h3, h4, fun k hk => ⟨(h5 k hk).1, Nat.lt_of_lt_of_le (h5 k hk).2.1 hb.size, (h5 k hk).2.2⟩⟩
theorem Rk.kp {w w' : World} {B g m n : Nat} {S : Int → Option Int} {K : List Nat} (h : Rk w B g m n S K) (hb : Below w.heap.size w w') : Kp B K w w' := by
  have hB := h.bl
  obtain ⟨v, l, h1, h2, h3, h4, h5⟩ := h.ex
  exact ⟨hb.mono hB, fun k hk => hb.block k (h5 k hk).2.1⟩
theorem Rk.sub {w : World} {B g m n : Nat} {S : Int → Option Int} {K L : List Nat} (h : Rk w B g m n S K) (hs : ∀ k ∈ L, k ∈ K) : Rk w B g m n S L := by
  obtain ⟨v, l, h1, h2, h3, h4, h5⟩ := h.ex
  exact ⟨v, l, h1, h2, h3, h4, fun k hk => h5 k (hs k hk)⟩
theorem Rk.few {w : World} {B g m n : Nat} {S : Int → Option Int} {K : List Nat} (h : Rk w B g m n S K) : n ≤ 100000 := by
  obtain ⟨v, l, h1, h2, h3, h4, h5⟩ := h.ex
  have := h1.few; omega
/-- A new block is one of the statement's own. -/
theorem Rk.fresh {w w' : World} {B g m n : Nat} {S : Int → Option Int} {K : List Nat} (h : Rk w B g m n S K) (hb : Below w.heap.size w w') {q : Nat} (h0 : w.heap.size ≤ q) (hq : q < w'.heap.size) : Rk w' B g m n S (q :: K) := by
  have hB := h.bl
  obtain ⟨v, l, h1, h2, h3, h4, h5⟩ := h.ex
  refine ⟨v, l, h1.below hb, h2, h3, h4, fun k hk => ?_⟩
  have hlt := h1.lt
  rcases List.mem_cons.1 hk with rfl | hk
  · exact ⟨by omega, hq, by omega, by omega, fun e => by have := hlt.2.2 k e; omega⟩
  · exact ⟨(h5 k hk).1, Nat.lt_of_lt_of_le (h5 k hk).2.1 hb.size, (h5 k hk).2.2⟩
/-- The statement turns blocks of its own, and makes memory. -/
theorem Rk.turn {w w' : World} {B g m n : Nat} {S : Int → Option Int} {K : List Nat} (h : Rk w B g m n S K) {o : Option Nat} (ho : ∀ k, o = some k → k ∈ K) (hg : w.grownBy w' o) : Rk w' B g m n S K ∧ Below B w w' := by
  have hB := h.bl
  obtain ⟨v, l, h1, h2, h3, h4, h5⟩ := h.ex
  have hlt := h1.lt
  refine ⟨⟨v, l, h1.keep fun k hk => ?_, h2, h3, h4, fun k hk => ⟨(h5 k hk).1, Nat.lt_of_lt_of_le (h5 k hk).2.1 hg.size, (h5 k hk).2.2⟩⟩, ⟨hg.os, hg.tape, hg.output, hg.size, fun k hk => hg.block k (by omega) fun e => ?_⟩⟩
  · refine hg.block k (by rcases hk with rfl | rfl | e; exact hlt.1; exact hlt.2.1; exact hlt.2.2 k e) fun e => ?_
    have := h5 k (ho k e.symm)
    rcases hk with rfl | rfl | e
    · exact this.2.2.1 rfl
    · exact this.2.2.2.1 rfl
    · exact this.2.2.2.2 e
  · have := h5 k (ho k e.symm); omega
theorem set_grown (w : World) (p : Addr) (u : Value) : w.grownBy (w.setCell p u) (some p.block) := ⟨rfl, rfl, rfl, by simp [World.setCell], fun k hk hne => Below.heap_setCell w p u k (fun e => hne (by rw [e]))⟩
theorem Rk.set {w : World} {B g m n : Nat} {S : Int → Option Int} {K : List Nat} (h : Rk w B g m n S K) {k : Nat} (hk : k ∈ K) (i : Nat) (u : Value) : Rk (w.setCell ⟨k, i, none⟩ u) B g m n S K ∧ Below B w (w.setCell ⟨k, i, none⟩ u) :=
  h.turn (o := some k) (fun _ e => by rw [← Option.some.inj e]; exact hk) (set_grown w ⟨k, i, none⟩ u)
theorem Rk.drew {w : World} {B g m n : Nat} {S : Int → Option Int} {K : List Nat} (h : Rk w B g m n S K) : Rk w.drew B g m n S K := h.below (Below.refl _ _).drew
/-- Out of what a deed leaves: the scene behind it. -/
theorem Rk.deed {w w' : World} {B g m n n' : Nat} {S S' : Int → Option Int} {K : List Nat} {v : Value} {l : List Ent} (h1 : Ok w B g m v l) (h5 : ∀ k ∈ K, B ≤ k ∧ k < w.heap.size ∧ k ≠ g ∧ k ≠ m ∧ v.ownBlock ≠ some k) (h : Rto w B g m v n' S' w') : Rk w' B g m n' S' K ∧ Kp B K w w' := by
  obtain ⟨v', l', o', p', hl', s', q', d'⟩ := h
  have hlt := h1.lt
  have hbg := h1.bg
  refine ⟨⟨v', l', o', p', hl', s', fun k hk => ⟨(h5 k hk).1, Nat.lt_of_lt_of_le (h5 k hk).2.1 q'.size, (h5 k hk).2.2.1, (h5 k hk).2.2.2.1, fun e => ?_⟩⟩, q'.below (by omega) hbg h1.bm (fun k e => (h1.row.lt k e).1), fun k hk => q'.block k (h5 k hk).2.1 (h5 k hk).2.2.1 (h5 k hk).2.2.2.1 (h5 k hk).2.2.2.2⟩
  rcases d' with e1 | ⟨q, e1, hq⟩
  · exact (h5 k hk).2.2.2.2 (e1.symm.trans e)
  · have := Option.some.inj (e1.symm.trans e)
    have := (h5 k hk).2.1
    omega
/-- What the map tells is what the ids tell. -/
theorem has_same {l : List Ent} {f : Int → Option Int} {S : Int → Option Int} (hp : Pl l f) (hS : Lst l S) (k : Int) : (S k = none → f k = none) ∧ ∀ s, S k = some s → ∃ i, i < l.length ∧ ent l i = (k, s) ∧ f k = some (i : Int) := by
  refine ⟨fun h => hp.2 k fun i hi e => ?_, fun s h => ?_⟩
  · have := hS.fwd i hi
    rw [e, h] at this; cases this
  · obtain ⟨i, hi, e⟩ := hS.bwd k s h
    exact ⟨i, hi, e, by have := hp.1 i hi; rw [e] at this; exact this⟩

theorem new_ok (w : World) : Rk ((w.alloc (.map #[] 0)).alloc (.cells #[.slice none 0 0, .map (some w.heap.size)] 55)) w.heap.size (w.heap.size + 1) w.heap.size 0 (fun _ => none) [] := by
  have e1 : (w.alloc (.map #[] 0)).heap.size = w.heap.size + 1 := by simp
  have hg : Has ((w.alloc (.map #[] 0)).alloc (.cells #[.slice none 0 0, .map (some w.heap.size)] 55)) (w.heap.size + 1) 55 #[.slice none 0 0, .map (some w.heap.size)] := by
    rw [← e1]; exact heap_alloc_new _ _
  refine ⟨.slice none 0 0, [], ⟨hg, World.ownsRow_nil _ _ _ _, ⟨_, (MapI.new w).keep (heap_alloc_old _ _ (by omega)), fun i hi => by simp at hi, fun _ _ => rfl⟩, by omega, Nat.le_refl _, by omega, by simp [Value.ownBlock], by simp [Value.ownBlock], fun i hi => by simp at hi, by simp⟩, fun k h0 h1 => by simp at h1, rfl, .nil, fun k hk => by cases hk⟩
theorem new_rk (w : World) :
    Calls Try.prog 9 #[] w fun e w' => e = .returned (.pointer (some ⟨w.heap.size + 1, 0, none⟩)) ∧ Rk w' w.heap.size (w.heap.size + 1) w.heap.size 0 (fun _ => none) [] ∧ Below w.heap.size w w' := by
  have hmm := @run_makeMap Try.prog
  have hm := MapI.new w
  go_enter Try.func9, Try.ntmps9
  clear hm
  go_wp2
  go_ret
  exact ⟨rfl, new_ok w, ((Below.refl _ _).alloc (Nat.le_refl _) _).alloc (by simp) _⟩
set_option maxHeartbeats 1000000 in
theorem put_no {w : World} {B g m n : Nat} {S : Int → Option Int} {K : List Nat} (h : Rk w B g m n S K) (k s s0 : Int) (hk : I64 k) (h0 : S k = some s0) :
    Calls Try.prog 10 #[.pointer (some ⟨g, 0, none⟩), .int .i64 k, .int .i64 s] w fun e w' => e = .returned (.bool false) ∧ w = w' := by
  obtain ⟨v, l, h1, h2, h3, h4, h5⟩ := h.ex
  obtain ⟨f, hm, hp⟩ := h1.map
  obtain ⟨i, hi, he, hf⟩ := (has_same hp h4 k).2 s0 h0
  have hlk := hm.look hk 50 under_mii
  rw [hf] at hlk
  have c1 : w.cell? ⟨g, 1, none⟩ = some (.map (some m)) := h1.blk.cell 1
  clear h h1 h2 h3 h4 h5 hm hp h0 hf he
  go_enter Try.func10, Try.ntmps10
  go_wp2
  go_ret
  exact ⟨rfl, rfl⟩
set_option maxHeartbeats 1000000 in
theorem put_yes {w : World} {B g m n : Nat} {S : Int → Option Int} {K : List Nat} (h : Rk w B g m n S K) (k s : Int) (hk : I64 k) (hs : I64 s) (h0 : S k = none) (hn : n < 100000) :
    Calls Try.prog 10 #[.pointer (some ⟨g, 0, none⟩), .int .i64 k, .int .i64 s] w fun e w' => e = .returned (.bool true) ∧ Rk w' B g m (n + 1) (upd S k (some s)) K ∧ Kp B K w w' := by
  obtain ⟨v, l, h1, h2, h3, h4, h5⟩ := h.ex
  obtain ⟨f, hm, hp⟩ := h1.map
  have hf := (has_same hp h4 k).1 h0
  have hlk := hm.look hk 50 under_mii
  rw [hf] at hlk
  have c1 : w.cell? ⟨g, 1, none⟩ = some (.map (some m)) := h1.blk.cell 1
  have HP := Lib.hid (hpush_any h1 h4 h2 k s hk hs h0 (by omega))
  have H1 := Lib.hid (And.intro h1 (And.intro h3 h5))
  clear h h1 h2 h3 h4 h5 hm hp h0 hf
  go_enter Try.func10, Try.ntmps10
  go_wp2_with fail
  refine HP.out.mono ?_
  rintro e w' ⟨rfl, hr⟩
  go_wp2
  go_ret
  have := Rk.deed (n := 0) (S := S) H1.out.1 H1.out.2.2 hr
  rw [H1.out.2.1] at this
  exact ⟨rfl, this⟩
set_option maxHeartbeats 1000000 in
theorem drop_no {w : World} {B g m n : Nat} {S : Int → Option Int} {K : List Nat} (h : Rk w B g m n S K) (k : Int) (hk : I64 k) (h0 : S k = none) :
    Calls Try.prog 12 #[.pointer (some ⟨g, 0, none⟩), .int .i64 k] w fun e w' => e = .returned (.bool false) ∧ w = w' := by
  obtain ⟨v, l, h1, h2, h3, h4, h5⟩ := h.ex
  obtain ⟨f, hm, hp⟩ := h1.map
  have hf := (has_same hp h4 k).1 h0
  have hlk := hm.look hk 50 under_mii
  rw [hf] at hlk
  have c1 : w.cell? ⟨g, 1, none⟩ = some (.map (some m)) := h1.blk.cell 1
  clear h h1 h2 h3 h4 h5 hm hp h0 hf
  go_enter Try.func12, Try.ntmps12
  go_wp2
  go_ret
  exact ⟨rfl, rfl⟩
set_option maxHeartbeats 1000000 in
theorem drop_yes {w : World} {B g m n : Nat} {S : Int → Option Int} {K : List Nat} (h : Rk w B g m n S K) (k s : Int) (hk : I64 k) (h0 : S k = some s) :
    Calls Try.prog 12 #[.pointer (some ⟨g, 0, none⟩), .int .i64 k] w fun e w' => e = .returned (.bool true) ∧ Rk w' B g m (n - 1) (upd S k none) K ∧ Kp B K w w' := by
  obtain ⟨v, l, h1, h2, h3, h4, h5⟩ := h.ex
  obtain ⟨f, hm, hp⟩ := h1.map
  obtain ⟨i, hi, he, hf⟩ := (has_same hp h4 k).2 s h0
  have hlk := hm.look hk 50 under_mii
  rw [hf] at hlk
  obtain ⟨n', hn'⟩ : ∃ n', n = n' + 1 := ⟨n - 1, by omega⟩
  have hl : l.length = n' + 1 := by omega
  have c1 : w.cell? ⟨g, 1, none⟩ = some (.map (some m)) := h1.blk.cell 1
  have hr := hremove_any h1 h4 hl (by rw [← hl]; exact h2) i (by omega)
  rw [he] at hr
  have HP := Lib.hid hr
  have H1 := Lib.hid (And.intro h1 h5)
  have e1 : n - 1 = n' := by omega
  rw [e1]
  clear h h1 h2 h3 h4 h5 hm hp h0 hf hr hn' e1 he hi hl
  go_enter Try.func12, Try.ntmps12
  go_wp2_with fail
  refine HP.out.mono ?_
  rintro e w' ⟨r, rfl, hr⟩
  go_wp2
  go_ret
  exact ⟨rfl, Rk.deed (n := 0) (S := S) H1.out.1 H1.out.2 hr⟩
set_option maxHeartbeats 1000000 in
theorem score_any {w : World} {B g m n : Nat} {S : Int → Option Int} {K : List Nat} (h : Rk w B g m n S K) (k : Int) (hk : I64 k) :
    Calls Try.prog 16 #[.pointer (some ⟨g, 0, none⟩), .int .i64 k] w fun e w' => e = .returned (.tuple #[.int .i64 ((S k).getD 0), .bool (S k).isSome]) ∧ w = w' := by
  obtain ⟨v, l, h1, h2, h3, h4, h5⟩ := h.ex
  obtain ⟨f, hm, hp⟩ := h1.map
  have hlk := hm.look hk 50 under_mii
  have c1 : w.cell? ⟨g, 1, none⟩ = some (.map (some m)) := h1.blk.cell 1
  have hs := has_same hp h4 k
  cases h0 : S k with
  | none =>
    rw [hs.1 h0] at hlk
    clear h h1 h2 h3 h4 h5 hm hp h0 hs
    go_enter Try.func16, Try.ntmps16
    go_wp2
    go_ret2
    exact ⟨rfl, rfl⟩
  | some s =>
    obtain ⟨i, hi, he, hf⟩ := hs.2 s h0
    rw [hf] at hlk
    obtain ⟨b, c, rfl, hc1, hc2, hbg, hbm, -⟩ := h1.shape (by omega)
    have c0 : w.cell? ⟨g, 0, none⟩ = some (.slice (some ⟨b, 0, none⟩) l.length c) := h1.blk.cell 0
    obtain ⟨p0, p1⟩ := h1.cells i hi
    rw [he] at p1
    have hfew := h1.few
    clear h h1 h2 h3 h4 h5 hm hp h0 hs p0 he hf
    generalize l.length = q at *
    go_enter Try.func16, Try.ntmps16
    go_wp2
    go_ret2
    exact ⟨rfl, rfl⟩
theorem rlen_any {w : World} {B g m n : Nat} {S : Int → Option Int} {K : List Nat} (h : Rk w B g m n S K) :
    Calls Try.prog 18 #[.pointer (some ⟨g, 0, none⟩)] w fun e w' => e = .returned (.int .i64 n) ∧ w = w' := by
  obtain ⟨v, l, h1, h2, h3, h4, h5⟩ := h.ex
  have hl := len_any h1
  rw [h3] at hl
  have HL := Lib.hid hl
  clear h h1 h2 h3 h4 h5 hl
  go_enter Try.func18, Try.ntmps18
  go_wp2_with fail
  refine HL.out.mono ?_
  rintro e w' ⟨rfl, rfl⟩
  go_wp2
  go_ret
  exact ⟨rfl, rfl⟩
set_option maxHeartbeats 1000000 in
theorem least_none {w : World} {B g m : Nat} {S : Int → Option Int} {K : List Nat} (h : Rk w B g m 0 S K) :
    Calls Try.prog 14 #[.pointer (some ⟨g, 0, none⟩)] w fun e w' => e = .returned (.tuple #[.int .i64 0, .int .i64 0, .bool false]) ∧ w = w' := by
  have HL := Lib.hid (rlen_any h)
  clear h
  go_enter Try.func14, Try.ntmps14
  go_wp2_with fail
  refine HL.out.mono ?_
  rintro e w' ⟨rfl, rfl⟩
  go_wp2
  go_ret3
  exact ⟨rfl, rfl⟩
/-- Who is least of S. -/
structure IsLeast (S : Int → Option Int) (k s : Int) : Prop where
  mem : S k = some s
  le : ∀ k' s', S k' = some s' → Le (k, s) (k', s')
  ik : I64 k
  is : I64 s
theorem IsLeast.one {S : Int → Option Int} {k s k' s' : Int} (h : IsLeast S k s) (h' : IsLeast S k' s') : k = k' ∧ s = s' := by
  have h1 := h.le k' s' h'.mem
  have h2 := h'.le k s h.mem
  unfold Le at h1 h2
  simp only at h1 h2
  have : k = k' := by omega
  exact ⟨this, by omega⟩
theorem Rk.least {w : World} {B g m n : Nat} {S : Int → Option Int} {K : List Nat} (h : Rk w B g m n S K) (hn : 0 < n) : ∃ k s b c, IsLeast S k s ∧ w.cell? ⟨g, 0, none⟩ = some (.slice (some ⟨b, 0, none⟩) n c) ∧ n ≤ c ∧ c ≤ maxLen ∧ w.cell? ⟨b, 0, none⟩ = some (.int .i64 k) ∧ w.cell? ⟨b, 1, none⟩ = some (.int .i64 s) := by
  obtain ⟨v, l, h1, h2, h3, h4, h5⟩ := h.ex
  obtain ⟨b, c, rfl, hc1, hc2, hbg, hbm, -⟩ := h1.shape (by omega)
  have c0 : w.cell? ⟨g, 0, none⟩ = some (.slice (some ⟨b, 0, none⟩) l.length c) := h1.blk.cell 0
  obtain ⟨p0, p1⟩ := h1.cells 0 (by omega)
  obtain ⟨i1, i2⟩ := h1.ids 0 (by omega)
  rw [h3] at c0 hc1
  refine ⟨(ent l 0).1, (ent l 0).2, b, c, ⟨h4.fwd 0 (by omega), fun k' s' hk => ?_, i1, i2⟩, c0, hc1, hc2, p0, p1⟩
  obtain ⟨i, hi, he⟩ := h4.bwd k' s' hk
  have := h2.least i hi
  rw [he] at this
  exact this
/-- What Least tells of one that has some. -/
def Lst1 (S : Int → Option Int) (w : World) (e : Ending) (w' : World) : Prop := ∃ k s, IsLeast S k s ∧ e = .returned (.tuple #[.int .i64 k, .int .i64 s, .bool true]) ∧ Below w.heap.size w w'
set_option maxHeartbeats 1000000 in
theorem least_some {w : World} {B g m n : Nat} {S : Int → Option Int} {K : List Nat} (h : Rk w B g m n S K) (hn : 0 < n) :
    Calls Try.prog 14 #[.pointer (some ⟨g, 0, none⟩)] w fun e w' => Lst1 S w e w' := by
  obtain ⟨k, s, b, c, hL, c0, hc1, hc2, p0, p1⟩ := h.least hn
  have HL := Lib.hid (rlen_any h)
  have HI := Lib.hid hL
  have hf := h.few
  have hz : ((n : Int) == 0) = false := by simp; omega
  clear h hL
  go_enter Try.func14, Try.ntmps14
  go_wp2_with fail
  refine HL.out.mono ?_
  rintro e w' ⟨rfl, rfl⟩
  go_wp2
  go_region
  go_wp2
  go_ret3
  exact ⟨k, s, HI.out, rfl, by go_grown⟩
end Go.Proofs.Ytplhdmaiammckaa
