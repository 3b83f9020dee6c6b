/- The document's own rank: its calls. -/
import Derived.Test.YtplhdmaiammckaaRkRef
import Derived.Test.YtplhdmaiammckaaAppStep
import Derived.OwnWalk
namespace Go.Proofs.Ytplhdmaiammckaa
open Go.RowKit
set_option linter.unusedVariables false

/-- What a deed leaves. -/
def Rfto (w : World) (B h : Nat) (v : Value) (l : List Ent) (w' : World) : Prop :=
  ∃ v', Rf w' B h v' l ∧ Fr h v.ownBlock w w' ∧ (v'.ownBlock = none ∨ v'.ownBlock = v.ownBlock ∨ ∃ q, v'.ownBlock = some q ∧ w.heap.size ≤ q)
theorem info_item : (Try.prog.info? 63).map (fun i => (i.zero, i.size, i.bytes)) = some (some (.agg #[.int .i64 0, .int .i64 0]), 2, 16) := by kernel_rfl
/-- Items are appended. -/
theorem itm_app {W : World} {base : Nat} {v : Value} {n : Nat} {xs : List Value} (h : W.ownsRow base 63 2 v n xs) (hbase : base ≤ W.heap.size) (ad : Addr) (m c : Nat) (ys : List Value) (hm : ys.length = m * 2)
    (hs : ∀ j u, ys[j]? = some u → W.cell? (ad.add j) = some u) (h1 : ∀ u ∈ ys, u.oneCell' = true) (hl : n + m ≤ 200000) :
    ∃ v' w', (Builtin.append_ #[27, 27] 27 #[v, .slice (some ad) m c]).run Try.prog W = .ok v' w' ∧ w'.ownsRow base 63 2 v' (n + m) (xs ++ ys) ∧ W.grownBy w' v.ownBlock
      ∧ (v'.ownBlock = v.ownBlock ∨ v'.ownBlock = some W.heap.size) := by
  obtain ⟨i0, hi, hz0, hz1, hz2⟩ := info_parts info_item
  obtain ⟨v', w', r1, r2, r3, _, r4⟩ := run_append_own_at (P := Try.prog) W base 27 27 63 i0 (.agg #[.int .i64 0, .int .i64 0]) 2 16 Try.underlying27 hi hz0 hz1 hz2 rfl (by omega) v n xs h
    ad m c ys hm hs h1 (by unfold maxLen; omega) (by omega) hbase
  exact ⟨v', w', r1, r2, r3, r4⟩
theorem put18_end {w w1 w2 : World} {B h b c' : Nat} {v : Value} {l : List Ent} {p : Ent} (r : Rf w B h v l) (hl : l.length < 100000) (b1 : Below w.heap.size w w1) (hz1 : w.heap.size ≤ w1.heap.size)
    (rg : w1.grownBy w2 v.ownBlock) (ro : w2.ownsRow B 63 2 (.slice (some ⟨b, 0, none⟩) (l.length + 1) c') (l.length + 1) (ecells (l ++ [p]))) (rb : some b = v.ownBlock ∨ some b = some w1.heap.size) :
    Rfto w B h v (l ++ [p]) (w2.setCell ⟨h, 0, none⟩ (.slice (some ⟨b, 0, none⟩) (l.length + 1) c')) := by
  obtain ⟨lh, lv⟩ := r.lt
  have hs1 := b1.size
  have k2 : ∀ q, q < w.heap.size → v.ownBlock ≠ some q → w2.heap[q]? = w.heap[q]? := fun q hq h2 => (rg.block q (by omega) (fun e => h2 e.symm)).trans (b1.block q hq)
  have bne : b ≠ h := fun e => by
    rcases rb with e1 | e1
    · exact r.vh (by rw [← e1, e])
    · have := Option.some.inj e1; omega
  have hw : ∀ q, q ≠ h → (w2.setCell ⟨h, 0, none⟩ (.slice (some ⟨b, 0, none⟩) (l.length + 1) c')).heap[q]? = w2.heap[q]? := fun q hq => Below.heap_setCell _ _ _ _ hq
  have hlen : (l ++ [p]).length = l.length + 1 := by simp
  refine ⟨.slice (some ⟨b, 0, none⟩) (l.length + 1) c', ⟨?_, ?_, r.bh, fun e => bne (Option.some.inj e), by rw [hlen]; omega⟩, ⟨?_, ?_, ?_, ?_, ?_⟩, ?_⟩
  · have hg : Has w2 h 29 #[v] := (k2 h lh r.vh).trans r.blk
    have := hg.put 0 (.slice (some ⟨b, 0, none⟩) (l.length + 1) c')
    simpa using this
  · rw [hlen]
    exact row_keep ro fun k e => hw k (by obtain rfl : b = k := Option.some.inj e; exact bne)
  · exact rg.os.trans b1.os
  · exact rg.tape.trans b1.tape
  · exact rg.output.trans b1.output
  · have := rg.size
    simp [World.setCell]; omega
  · exact fun k hk h1 h2 => (hw k h1).trans (k2 k hk h2)
  · rcases rb with e | e
    · exact .inr (.inl e)
    · exact .inr (.inr ⟨b, rfl, by have := Option.some.inj e; omega⟩)
set_option maxHeartbeats 1000000 in
theorem put18_no {w : World} {B h : Nat} {v : Value} {l : List Ent} (r : Rf w B h v l) (k s : Int) (i : Nat) (hi : i < l.length) (he : (ent l i).1 = k) (hone : ∀ j, j < i → (ent l j).1 ≠ k) :
    Calls Try.prog 11 #[.pointer (some ⟨h, 0, none⟩), .int .i64 k, .int .i64 s] w fun e w' => e = .returned (.bool false) ∧ w' = w := by
  have HF := Lib.hid (find_yes r k i hi he hone)
  have hf := r.few
  clear r he hone
  go_enter Try.func11, Try.ntmps11
  go_wp2_with fail
  refine HF.out.mono ?_
  rintro e w' ⟨rfl, rfl⟩
  go_wp2
  go_ret
  exact ⟨rfl, rfl⟩
set_option maxHeartbeats 1000000 in
theorem put18_yes {w : World} {B h : Nat} {v : Value} {l : List Ent} (r : Rf w B h v l) (k s : Int) (hone : ∀ j, j < l.length → (ent l j).1 ≠ k) (hl : l.length < 100000) :
    Calls Try.prog 11 #[.pointer (some ⟨h, 0, none⟩), .int .i64 k, .int .i64 s] w fun e w' => e = .returned (.bool true) ∧ Rfto w B h v (l ++ [(k, s)]) w' := by
  have HF := Lib.hid (find_no r k hone)
  have b1 : Below w.heap.size w (w.alloc (.cells #[.int .i64 k, .int .i64 s] 63)) := (Below.refl _ _).alloc (Nat.le_refl _) _
  have hq : Has (w.alloc (.cells #[.int .i64 k, .int .i64 s] 63)) w.heap.size 63 #[.int .i64 k, .int .i64 s] := heap_alloc_new w _
  have hB : B ≤ w.heap.size := by have := r.bh; have := r.lt.1; omega
  obtain ⟨v', w2, ra, ro, rg, rb⟩ := itm_app (r.row.alloc (.cells #[.int .i64 k, .int .i64 s] 63)) (by simp; omega) ⟨w.heap.size, 0, none⟩ 1 1 [.int .i64 k, .int .i64 s] rfl (fun j u hu => by
      rw [Go.WideShapes.add_plain, Nat.zero_add, hq.cell]
      simpa using hu) (by intro u hu; simp at hu; rcases hu with rfl | rfl <;> rfl) (by omega)
  rw [show ecells l ++ [.int .i64 k, .int .i64 s] = ecells (l ++ [(k, s)]) from (ecells_snoc l (k, s)).symm] at ro
  obtain ⟨b, c', rfl⟩ : ∃ b c', v' = .slice (some ⟨b, 0, none⟩) (l.length + 1) c' := by
    rcases ro.2 with ⟨rfl, h0⟩ | ⟨b, c, cur, rfl, hb, _⟩
    · omega
    · exact ⟨b, c, rfl⟩
  have HEND := Lib.hid (put18_end r hl b1 b1.size rg ro rb)
  obtain ⟨A, c, rfl, hc1, hc2⟩ := own_any r.row
  have c0 : w.cell? ⟨h, 0, none⟩ = some (.slice A l.length c) := r.blk.cell 0
  have c1 : (w.alloc (.cells #[.int .i64 k, .int .i64 s] 63)).cell? ⟨h, 0, none⟩ = some (.slice A l.length c) := cell_new1 c0 _
  have d0 : w2.cell? ⟨h, 0, none⟩ = some (.slice A l.length c) := rg.cell c1 (fun e => r.vh e.symm)
  have d1 : w2.frozen? ⟨h, 0, none⟩ = false := by
    have := (rg.block h (by have := r.lt.1; simp; omega) (fun e => r.vh e.symm))
    exact (World.frozen?_of_block this).trans ((World.frozen?_of_block (b1.block h r.lt.1)).trans (r.blk.free 0))
  have HRA := Lib.hid ra
  clear r hone b1 hq hB ra ro rg rb c1
  go_enter Try.func11, Try.ntmps11
  go_wp2_with fail
  refine HF.out.mono ?_
  rintro e w' ⟨rfl, rfl⟩
  go_wp2_with (at_builtin; refine wpList_app HRA.out rfl rfl rfl rfl rfl ?_)
  go_ret
  exact ⟨rfl, HEND.out⟩
set_option maxHeartbeats 1000000 in
theorem score18_yes {w : World} {B h : Nat} {v : Value} {l : List Ent} (r : Rf w B h v l) (k : Int) (i : Nat) (hi : i < l.length) (he : (ent l i).1 = k) (hone : ∀ j, j < i → (ent l j).1 ≠ k) :
    Calls Try.prog 17 #[.pointer (some ⟨h, 0, none⟩), .int .i64 k] w fun e w' => e = .returned (.tuple #[.int .i64 (ent l i).2, .bool true]) ∧ w' = w := by
  have HF := Lib.hid (find_yes r k i hi he hone)
  obtain ⟨b, c, rfl, hc1, hc2, hbh, -⟩ := r.shape (by omega)
  have c0 : w.cell? ⟨h, 0, none⟩ = some (.slice (some ⟨b, 0, none⟩) l.length c) := r.blk.cell 0
  obtain ⟨-, p1⟩ := r.cells i hi
  have hf := r.few
  clear r he hone
  generalize (ent l i).2 = s at *
  generalize l.length = n at *
  go_enter Try.func17, Try.ntmps17
  go_wp2_with fail
  refine HF.out.mono ?_
  rintro e w' ⟨rfl, rfl⟩
  go_wp2
  go_ret2
  exact ⟨rfl, rfl⟩
set_option maxHeartbeats 1000000 in
theorem score18_no {w : World} {B h : Nat} {v : Value} {l : List Ent} (r : Rf w B h v l) (k : Int) (hone : ∀ j, j < l.length → (ent l j).1 ≠ k) :
    Calls Try.prog 17 #[.pointer (some ⟨h, 0, none⟩), .int .i64 k] w fun e w' => e = .returned (.tuple #[.int .i64 0, .bool false]) ∧ w' = w := by
  have HF := Lib.hid (find_no r k hone)
  clear r hone
  go_enter Try.func17, Try.ntmps17
  go_wp2_with fail
  refine HF.out.mono ?_
  rintro e w' ⟨rfl, rfl⟩
  go_wp2
  go_ret2
  exact ⟨rfl, rfl⟩
set_option maxHeartbeats 1000000 in
theorem drop18_no {w : World} {B h : Nat} {v : Value} {l : List Ent} (r : Rf w B h v l) (k : Int) (hone : ∀ j, j < l.length → (ent l j).1 ≠ k) :
    Calls Try.prog 13 #[.pointer (some ⟨h, 0, none⟩), .int .i64 k] w fun e w' => e = .returned (.bool false) ∧ w' = w := by
  have HF := Lib.hid (find_no r k hone)
  clear r hone
  go_enter Try.func13, Try.ntmps13
  go_wp2_with fail
  refine HF.out.mono ?_
  rintro e w' ⟨rfl, rfl⟩
  go_wp2
  go_ret
  exact ⟨rfl, rfl⟩
theorem before18 (a b x y : Int) (w : World) :
    Calls Try.prog 22 #[.int .i64 a, .int .i64 b, .int .i64 x, .int .i64 y] w fun e w' => e = .returned (.bool (ltB (x, a) (y, b))) ∧ w' = w := by
  have hb : ltB (x, a) (y, b) = (decide (a < b) || (decide (a = b) && decide (x < y))) := by
    unfold ltB
    rw [← Bool.decide_and, ← Bool.decide_or]
  rw [hb]
  by_cases h1 : a < b <;> by_cases h2 : a = b <;> by_cases h3 : x < y
  all_goals
    go_enter Try.func22, Try.ntmps22
    go_wp2
    go_ret
    exact ⟨by simp [h1, h2, h3], rfl⟩
end Go.Proofs.Ytplhdmaiammckaa
