/- What take (a block at the least free slot) does to an arena, as a contract. -/
import Derived.Test.YtglhebpblncjaaaDoorArFree
import Derived.Maps.AppendAt
namespace Go.Proofs.YtglhebpblncjaaaDoor
open Go.RowKit
set_option linter.unusedVariables false

theorem Fr.set_ok {g : Nat} {o : Option Nat} {a w : World} (h : Fr g o a w) {b : Nat} (hb : b = g ∨ o = some b ∨ a.heap.size ≤ b) (i : Nat) (u : Value) : Fr g o a (w.setCell ⟨b, i, none⟩ u) :=
  ⟨h.os, h.tape, h.output, by simpa [World.setCell] using h.size, fun k hk h1 h2 => (Below.heap_setCell _ _ _ _ (fun e => by
    have e : k = b := e
    rcases hb with hb | hb | hb
    · exact h1 (e.trans hb)
    · exact h2 (by rw [hb, e])
    · omega)).trans (h.block k hk h1 h2)⟩
theorem take_lvb {l : List Blk} {i : Nat} (h : i < l.length) (t : List UInt8) (r g : Int) (hr : r ≠ 0) (j : Nat) : lvb (l.set i ⟨t, r, g⟩) j = (lvb l j || decide (i = j)) := by
  rw [lvb, lvb, bk_set h]
  by_cases e : j = i
  · rw [if_pos e, e]; simp [hr]
  · have : ¬ i = j := fun h => e h.symm
    rw [if_neg e]; simp [this]
theorem take_cells {cs : Array Value} {s : Ar} {v : Value} (h : ArCells cs s v) {i x : Nat} (hl : i < s.l.length) (hi : i < 4096) (hx : x < 18446744073709551616) (h0 : (bk s.l i).r = 0) (t : List UInt8) {r : Int} (hr : r ≠ 0) (gg : Int) (hb : ∀ j, j < 64 → x.testBit j = lvb s.l (64 * (i / 64) + j)) :
    ArCells (((cs.setIfInBounds (5 + i / 64) (.int .u64 ((x ||| 2 ^ (i % 64) : Nat) : Int))).setIfInBounds 2 (.int .i64 (chg s.l + r))).setIfInBounds 3 (.int .i64 (liv s.l + 1))) ⟨s.cap, s.lim, s.l.set i ⟨t, r, gg⟩⟩ v := by
  have hs := h.size
  refine arc_word h hi (set_lt x (i % 64) hx (by omega)) (by simpa using hs) ?_ ?_ ?_ ?_ ?_ (fun k hk => ?_) ?_ (fun j hj => ?_) (fun j hj => ?_)
  · rw [Array.getElem?_setIfInBounds_ne (by omega), Array.getElem?_setIfInBounds_ne (by omega), Array.getElem?_setIfInBounds_ne (by omega)]
  · rw [Array.getElem?_setIfInBounds_ne (by omega), Array.getElem?_setIfInBounds_ne (by omega), Array.getElem?_setIfInBounds_ne (by omega)]
  · rw [Array.getElem?_setIfInBounds_ne (by omega), Array.getElem?_setIfInBounds_self_of_lt (by simp; omega), chg_set hl, h0]
    simp
  · rw [Array.getElem?_setIfInBounds_self_of_lt (by simp; omega), liv_set hl, h0]
    simp [one, hr]
  · rw [Array.getElem?_setIfInBounds_ne (by omega), Array.getElem?_setIfInBounds_ne (by omega), Array.getElem?_setIfInBounds_ne (by omega)]
    exact h.row
  · rw [Array.getElem?_setIfInBounds_ne (by omega), Array.getElem?_setIfInBounds_ne (by omega), Array.getElem?_setIfInBounds_ne (by omega)]
  · rw [Array.getElem?_setIfInBounds_ne (by omega), Array.getElem?_setIfInBounds_ne (by omega), Array.getElem?_setIfInBounds_self_of_lt (by omega)]
  · rw [set_bit, take_lvb hl _ _ _ hr, hb j hj]
    congr 1
    simp only [decide_eq_decide]
    omega
  · have hj' : ¬ i = j := fun h => hj h.symm
    rw [take_lvb hl _ _ _ hr]; simp [hj']

/-- The world that take leaves. -/
theorem take_done {w w2 : World} {B g q cap R k x : Nat} {o : Option Nat} {s : Ar} {t : List UInt8} {r : Int} (hA : ArAt w2 B g (.slice (some ⟨q, 0, none⟩) s.l.length cap) s) (hF : Fr g o w w2) (ho : o = some q ∨ w.heap.size ≤ q) (hR : w.heap.size ≤ R) (hRg : g ≠ R) (hRq : q ≠ R) (hqg : g ≠ q)
    (hl : k < s.l.length) (hk : k < 4096) (h0 : (bk s.l k).r = 0) (hr : r ≠ 0) {b : Blk} (hbk : bk s.l k = b) (hw : Wf ⟨s.cap, s.lim, s.l.set k ⟨t, r, b.g⟩⟩) {cs : Array Value}
    (k1 : Has w2 g 64 cs) (k2 : ArCells cs s (.slice (some ⟨q, 0, none⟩) s.l.length cap)) (hx : x < 18446744073709551616) (hb : ∀ j, j < 64 → x.testBit j = lvb s.l (64 * (k / 64) + j)) (W : World)
    (hW : W = ((((((w2.setCell ⟨q, k * 3, none⟩ (.string (str t))).setCell ⟨q, k * 3 + 1, none⟩ (.int .i64 r)).setCell ⟨g, 5 + k / 64, none⟩ (.int .u64 (bits BinOp.or IntKind.u64 (x : Int) (IntKind.u64.wrap (2 ^ (k % 64)))))).setCell ⟨g, 2, none⟩ (.int .i64 (chg s.l + r))).setCell ⟨g, 3, none⟩ (.int .i64 (liv s.l + 1))).setCell ⟨R, 0, none⟩ (.int .u32 (k : Int))).setCell ⟨R, 1, none⟩ (.int .u32 b.g)) :
    ArAt W B g (.slice (some ⟨q, 0, none⟩) s.l.length cap) ⟨s.cap, s.lim, s.l.set k ⟨t, r, b.g⟩⟩ ∧ Fr g o w W := by
  rw [set_run x (k % 64) hx (by omega)] at hW
  have hneR : (Value.slice (some ⟨q, 0, none⟩) s.l.length cap).ownBlock ≠ some R := by simp [Value.ownBlock]; exact hRq
  have r1 := ((hA.row.stored (k * 3) (.string (str t))).1.stored (k * 3 + 1) (.int .i64 r)).1
  have hset : ((scells s.l).set (k * 3) (.string (str t))).set (k * 3 + 1) (.int .i64 r) = scells (s.l.set k ⟨t, r, b.g⟩) := by
    have := scells_set s.l k ⟨t, r, b.g⟩
    rw [← this, Nat.mul_comm 3 k]
    rw [set_self _ (k * 3 + 2) _ (by
      rw [List.getElem?_set_ne (by omega), List.getElem?_set_ne (by omega), Nat.mul_comm k 3, (scells_get hl).2.2, hbk])]
  rw [hset] at r1
  have e2 := Below.heap_setCell (w2.setCell ⟨q, k * 3, none⟩ (.string (str t))) ⟨q, k * 3 + 1, none⟩ (.int .i64 r) g hqg
  have e3 := Below.heap_setCell w2 ⟨q, k * 3, none⟩ (.string (str t)) g hqg
  have k3 : Has ((w2.setCell ⟨q, k * 3, none⟩ (.string (str t))).setCell ⟨q, k * 3 + 1, none⟩ (.int .i64 r)) g 64 cs := e2.trans (e3.trans k1)
  have f1 := (hF.set_ok (b := q) (.inr ho) (k * 3) (.string (str t))).set_ok (b := q) (.inr ho) (k * 3 + 1) (.int .i64 r)
  generalize (w2.setCell ⟨q, k * 3, none⟩ (.string (str t))).setCell ⟨q, k * 3 + 1, none⟩ (.int .i64 r) = w3 at *
  have r2 := setg_owns (setg_owns (setg_owns r1 hA.ne (5 + k / 64) (.int .u64 ((x ||| 2 ^ (k % 64) : Nat) : Int))) hA.ne 2 (.int .i64 (chg s.l + r))) hA.ne 3 (.int .i64 (liv s.l + 1))
  have k4 := ((k3.put (5 + k / 64) (.int .u64 ((x ||| 2 ^ (k % 64) : Nat) : Int))).put 2 (.int .i64 (chg s.l + r))).put 3 (.int .i64 (liv s.l + 1))
  have f2 := ((f1.set_ok (b := g) (.inl rfl) (5 + k / 64) (.int .u64 ((x ||| 2 ^ (k % 64) : Nat) : Int))).set_ok (b := g) (.inl rfl) 2 (.int .i64 (chg s.l + r))).set_ok (b := g) (.inl rfl) 3 (.int .i64 (liv s.l + 1))
  generalize ((w3.setCell ⟨g, 5 + k / 64, none⟩ (.int .u64 ((x ||| 2 ^ (k % 64) : Nat) : Int))).setCell ⟨g, 2, none⟩ (.int .i64 (chg s.l + r))).setCell ⟨g, 3, none⟩ (.int .i64 (liv s.l + 1)) = w4 at *
  have r3 := setg_owns (setg_owns r2 hneR 0 (.int .u32 (k : Int))) hneR 1 (.int .u32 b.g)
  have e4 := Below.heap_setCell (w4.setCell ⟨R, 0, none⟩ (.int .u32 (k : Int))) ⟨R, 1, none⟩ (.int .u32 b.g) g hRg
  have e5 := Below.heap_setCell w4 ⟨R, 0, none⟩ (.int .u32 (k : Int)) g hRg
  have f3 := (f2.set_ok (b := R) (.inr (.inr hR)) 0 (.int .u32 (k : Int))).set_ok (b := R) (.inr (.inr hR)) 1 (.int .u32 b.g)
  rw [← hW] at r3 e4 f3
  have hlen : (s.l.set k ⟨t, r, b.g⟩).length = s.l.length := List.length_set
  refine ⟨⟨hA.low, hA.ne, hw, ?_, _, e4.trans (e5.trans k4), take_cells k2 hl hk hx h0 t hr b.g hb⟩, f3⟩
  show W.ownsRow B 111 3 _ (s.l.set k ⟨t, r, b.g⟩).length (scells (s.l.set k ⟨t, r, b.g⟩))
  rw [hlen]
  exact r3

/-- What take leaves: a handle, the arena with the block. -/
def Took (B g : Nat) (v : Value) (s : Ar) (t : List UInt8) (r : Int) (w : World) (e : Ending) (w' : World) : Prop :=
  ∃ v2, e = .returned (.agg #[.int .u32 (fre s.l : Int), .int .u32 (bk s.l (fre s.l)).g]) ∧ ArAt w' B g v2 ⟨s.cap, s.lim, tak s.l t r⟩ ∧ (v2.ownBlock = v.ownBlock ∨ ∃ n, v2.ownBlock = some n ∧ w.heap.size ≤ n) ∧ Fr g v.ownBlock w w'

set_option maxHeartbeats 1600000 in
theorem take_old {w : World} {B g q cap : Nat} {s : Ar} (h : ArAt w B g (.slice (some ⟨q, 0, none⟩) s.l.length cap) s) (t : List UInt8) (r : Int) (hll : fre s.l < s.l.length) (hr0 : 16 ≤ r) (hr1 : r ≤ 1024) (hch : chg s.l + r ≤ s.lim) :
    Calls Tryd.prog 49 #[.pointer (some ⟨g, 0, none⟩), .int .i64 (fre s.l : Int), .string (str t), .int .i64 r] w (Took B g (.slice (some ⟨q, 0, none⟩) s.l.length cap) s t r w) := by
  have hA := h.below (boxed w (.int .u32 0) (.int .u32 0))
  have hl : fre s.l < 4096 := by have := h.wf.len; omega
  have hgs : g < w.heap.size := h.lt
  have hqs : q < w.heap.size := (h.vlt q rfl).2
  have hn1 : g ≠ w.heap.size := by omega
  have hn2 : w.heap.size ≠ g := by omega
  have hq1 : q ≠ w.heap.size := by omega
  have hq2 : w.heap.size ≠ q := by omega
  obtain ⟨cs, k1, k2⟩ := hA.blk
  have hR0 := (boxed_at w _ (.int .u32 0) (.int .u32 0) (Below.refl _ _)).1
  have hR1 := (boxed_at w _ (.int .u32 0) (.int .u32 0) (Below.refl _ _)).2
  have fR : ∀ j, (w.alloc (.cells #[.int .u32 0, .int .u32 0] 78)).frozen? ⟨w.heap.size, j, none⟩ = false := fun j => Has.free (heap_alloc_new w _) j
  obtain ⟨q', cap', e, hqg, hq, hcap, cr0, cr, cg, f2⟩ := hA.slot hll
  simp only [Value.slice.injEq, Option.some.injEq, Addr.mk.injEq, and_true, true_and] at e
  obtain ⟨rfl, rfl⟩ := e
  have hqg' : g ≠ q := fun e => hqg e.symm
  have c2 := (k1.cell 2).trans k2.chg
  have c3 := (k1.cell 3).trans k2.liv
  have c4 := (k1.cell 4).trans k2.row
  obtain ⟨x, hx, cx, hbit⟩ := k2.bits (fre s.l / 64) (by omega)
  have c5 := (k1.cell (5 + fre s.l / 64)).trans cx
  have f1 := k1.free
  have b2 : chg s.l + r ≤ 16777216 := by have := h.wf.limc; have := h.wf.cap1; omega
  have b1 := chg_ge h.wf.ok
  have b4 : liv s.l ≤ 4096 := by have := (liv_bd s.l).2; have := h.wf.len; omega
  have b3 := (liv_bd s.l).1
  have hok := h.wf.ok.at_ (fre s.l)
  have bg0 := hok.2.2.1
  have bg1 := hok.2.2.2
  have hne : ((fre s.l : Int) == (s.l.length : Int)) = false := by simp; omega
  have hlen := h.wf.len
  have HW : Hid (Wf ⟨s.cap, s.lim, s.l.set (fre s.l) ⟨t, r, (bk s.l (fre s.l)).g⟩⟩) := Lib.hid ⟨h.wf.lim0, h.wf.limc, h.wf.cap1, by simpa using h.wf.len, by show chg (s.l.set _ _) ≤ s.lim; rw [chg_set hll, fre_r]; simp only; omega, h.wf.ok.set _ ⟨.inr hr0, hr1, bg0, bg1⟩⟩
  have FIN := fun (b : Blk) (hb : bk s.l (fre s.l) = b) => Lib.hid (take_done (t := t) (r := r) (b := b) hA (.of_below (boxed w (.int .u32 0) (.int .u32 0)) : Fr g (some q) w _) (.inl rfl) (Nat.le_refl _) hn1 hq1 hqg' hll hl (fre_r s.l) (by omega) hb (by rw [← hb]; exact HW.out) k1 k2 hx hbit _ rfl)
  have HX : Hid (tak s.l t r = s.l.set (fre s.l) ⟨t, r, (bk s.l (fre s.l)).g⟩) := Lib.hid (by rw [tak, if_pos hll]; rfl)
  clear h hA k1 k2 cx hx hbit HW hok
  have FIN' := Lib.hid FIN
  clear FIN
  generalize hw2 : w.alloc (.cells #[.int .u32 0, .int .u32 0] 78) = w2 at *
  generalize hbk : bk s.l (fre s.l) = b at *
  have HK := Lib.hid hbk
  generalize hn : s.l.length = n at *
  have HN := Lib.hid hn
  generalize hk : fre s.l = k at *
  have HF := Lib.hid hk
  clear hbk hn hk
  go_enter Tryd.func49, Tryd.ntmps49
  go_wp2
  clear hw2
  go_region
  go_wp2
  have fin := (FIN'.out b rfl).out
  refine bodyPost_ret (v := .agg #[.int .u32 (k : Int), .int .u32 b.g]) (by simp [results, Tryd.results49, go_sem, hR0, hR1]) rfl ?_
  refine ⟨_, by rw [HF.out, HK.out], ?_, .inl rfl, fin.2.drew⟩
  rw [HX.out]
  exact fin.1.drew

theorem info_slot : (Tryd.prog.info? 111).map (fun i => (i.zero, i.size, i.bytes)) = some (some (.agg #[.string ⟨#[]⟩, .int .i64 0, .int .u32 0]), 3, 32) := by kernel_rfl
/-- The cells of a slot that never had a block. -/
abbrev blanks : Array Value := #[.string ⟨#[]⟩, .int .i64 0, .int .u32 1]
theorem blank_cells (l : List Blk) : scells (l ++ [blank]) = scells l ++ blanks.toList := scells_snoc l blank
theorem blanks_lie (w : World) : ∀ j u, blanks.toList[j]? = some u → (w.alloc (.cells blanks 111)).cell? ((⟨w.heap.size, 0, none⟩ : Addr).add j) = some u := by
  intro j u hu
  rw [Go.WideShapes.add_plain, Nat.zero_add, cell_of_row _ w.heap.size j blanks 111 (0, 0) (heap_alloc_new w _)]
  simpa using hu
theorem app_slot (w : World) (B : Nat) (v : Value) (n : Nat) (l : List Blk) (hown : w.ownsRow B 111 3 v n (scells l)) (hn : n ≤ 4096) (hB : B ≤ w.heap.size) :
    ∃ v' w', (Builtin.append_ #[60, 60] 60 #[v, .slice (some ⟨w.heap.size, 0, none⟩) 1 1]).run Tryd.prog (w.alloc (.cells blanks 111)) = .ok v' w' ∧ w'.ownsRow B 111 3 v' (n + 1) (scells (l ++ [blank])) ∧ (w.alloc (.cells blanks 111)).grownBy w' v.ownBlock ∧ (v'.ownBlock = v.ownBlock ∨ v'.ownBlock = some (w.heap.size + 1)) := by
  obtain ⟨i0, hi, hz0, hz1, hz2⟩ := info_parts info_slot
  obtain ⟨v', w', h1, h2, h3, _, h4⟩ := run_append_own_at (P := Tryd.prog) (w.alloc (.cells blanks 111)) B 60 60 111 i0 (.agg #[.string ⟨#[]⟩, .int .i64 0, .int .u32 0]) 3 32 Tryd.underlying60 hi hz0 hz1 hz2 rfl (by omega) v n (scells l) (hown.alloc _)
    ⟨w.heap.size, 0, none⟩ 1 1 blanks.toList rfl (blanks_lie w) (by intro u hu; simp at hu; rcases hu with rfl | rfl | rfl <;> rfl) (by unfold maxLen; omega) (by omega) (by simp; omega)
  exact ⟨v', w', h1, by rw [blank_cells]; exact h2, h3, by simpa using h4⟩
theorem blank_chg (l : List Blk) : chg (l ++ [blank]) = chg l ∧ liv (l ++ [blank]) = liv l ∧ (∀ j, lvb (l ++ [blank]) j = lvb l j) ∧ ∀ j, bk (l ++ [blank]) j = bk l j := by
  have hb : ∀ j, bk (l ++ [blank]) j = bk l j := fun j => by
    rw [bk_snoc]
    split
    · rename_i e; rw [e, bk_ge (Nat.le_refl _)]
    · rfl
  refine ⟨by rw [chg_snoc]; simp [blank], by rw [liv_snoc]; simp [blank, one], fun j => ?_, hb⟩
  rw [lvb, lvb, hb]
theorem arc_row {cs : Array Value} {s : Ar} {v : Value} (h : ArCells cs s v) (v' : Value) : ArCells (cs.setIfInBounds 4 v') ⟨s.cap, s.lim, s.l ++ [blank]⟩ v' := by
  have hs := h.size
  obtain ⟨c1, c2, c3, _⟩ := blank_chg s.l
  refine ⟨by simpa using hs, ?_, ?_, ?_, ?_, ?_, fun i hi => ?_⟩
  · rw [Array.getElem?_setIfInBounds_ne (by omega)]; exact h.cap
  · rw [Array.getElem?_setIfInBounds_ne (by omega)]; exact h.lim
  · rw [Array.getElem?_setIfInBounds_ne (by omega)]; show cs[2]? = some (.int .i64 (chg (s.l ++ [blank]))); rw [c1]; exact h.chg
  · rw [Array.getElem?_setIfInBounds_ne (by omega)]; show cs[3]? = some (.int .i64 (liv (s.l ++ [blank]))); rw [c2]; exact h.liv
  · rw [Array.getElem?_setIfInBounds_self_of_lt (by omega)]
  · rw [Array.getElem?_setIfInBounds_ne (by omega)]
    obtain ⟨x, a, b, c⟩ := h.bits i hi
    exact ⟨x, a, b, fun j hj => (c j hj).trans (c3 _).symm⟩

end Go.Proofs.YtglhebpblncjaaaDoor
