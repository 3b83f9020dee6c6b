/- What take does to an arena whose slots all live: one more slot; and take in all, as a contract. -/
import Derived.Test.YtglhebpblncjaaaDoorArTake
namespace Go.Proofs.YtglhebpblncjaaaDoor
open Go.RowKit
set_option linter.unusedVariables false

set_option maxHeartbeats 1600000 in
theorem take_new {w : World} {B g : Nat} {v : Value} {s : Ar} (h : ArAt w B g v s) (hB : B ≤ w.heap.size) (t : List UInt8) (r : Int) (hll : fre s.l = s.l.length) (hl : fre s.l < 4096) (hr0 : 16 ≤ r) (hr1 : r ≤ 1024) (hch : chg s.l + r ≤ s.lim) :
    Calls Tryd.prog 49 #[.pointer (some ⟨g, 0, none⟩), .int .i64 (fre s.l : Int), .string (str t), .int .i64 r] w (Took B g v s t r w) := by
  have hA := h.below (boxed w (.int .u32 0) (.int .u32 0))
  have hgs : g < w.heap.size := h.lt
  obtain ⟨v2, w2, hrun, hown, hgrow, hat⟩ := app_slot (w.alloc (.cells #[.int .u32 0, .int .u32 0] 78)) B v s.l.length s.l hA.row h.wf.len (by simp; omega)
  have hlen1 : (s.l ++ [blank]).length = s.l.length + 1 := by simp
  have hFw : Fr g v.ownBlock w w2 := by
    refine (Fr.of_below (boxed w (.int .u32 0) (.int .u32 0))).trans (Fr.trans (.of_below ((Below.refl _ _).alloc (Nat.le_refl _) (.cells blanks 111))) ⟨hgrow.os, hgrow.tape, hgrow.output, hgrow.size, fun k hk _ h2 => hgrow.block k hk (fun e => h2 e.symm)⟩ (.inl rfl)) (.inl rfl)
  obtain ⟨q, cap, rfl, hcq⟩ : ∃ q cap, v2 = .slice (some ⟨q, 0, none⟩) (s.l.length + 1) cap ∧ s.l.length + 1 ≤ cap := by
    rcases hown.2 with ⟨_, h0⟩ | ⟨q, cap, cur, e, _, _, hc, _⟩
    · omega
    · exact ⟨q, cap, e, hc⟩
  have hq : v.ownBlock = some q ∨ q = w.heap.size + 2 := by
    rcases hat with e | e
    · exact .inl e.symm
    · refine .inr ?_
      have := Option.some.inj e
      simpa using this
  have hqlt := (hown.lt q rfl).2
  have hqg : g ≠ q := by
    rcases hq with e | e
    · intro e'; exact h.ne (by rw [e, e'])
    · omega
  have hqg2 : q ≠ g := fun e => hqg e.symm
  have hn1 : g ≠ w.heap.size := by omega
  have hn2 : w.heap.size ≠ g := by omega
  have hq1 : q ≠ w.heap.size := by
    rcases hq with e | e
    · have := (h.vlt q e).2; omega
    · omega
  have hq2 : w.heap.size ≠ q := fun e => hq1 e.symm
  obtain ⟨cs, k1, k2⟩ := h.blk
  have k1w : Has w2 g 64 cs := by
    have e1 := hgrow.block g (by simp; omega) (fun e => h.ne e.symm)
    refine e1.trans ?_
    exact (Below.heap_alloc _ _ _ (by simp; omega)).trans ((Below.heap_alloc _ _ _ hgs).trans k1)
  have hRw : Has w2 w.heap.size 78 #[.int .u32 0, .int .u32 0] := by
    have e1 := hgrow.block w.heap.size (by simp; omega) (fun e => by
      have := (h.vlt _ e.symm).2
      omega)
    refine e1.trans ?_
    exact (Below.heap_alloc _ _ _ (by simp)).trans (heap_alloc_new w _)
  have hbl := blank_chg s.l
  have hwf1 : Wf ⟨s.cap, s.lim, s.l ++ [blank]⟩ := ⟨h.wf.lim0, h.wf.limc, h.wf.cap1, by show (s.l ++ [blank]).length ≤ 4096; rw [hlen1]; omega, by show chg (s.l ++ [blank]) ≤ s.lim; rw [hbl.1]; exact h.wf.chl, h.wf.ok.snoc blank_ok⟩
  have hA2 : ArAt (w2.setCell ⟨g, 4, none⟩ (.slice (some ⟨q, 0, none⟩) (s.l.length + 1) cap)) B g (.slice (some ⟨q, 0, none⟩) (s.l ++ [blank]).length cap) ⟨s.cap, s.lim, s.l ++ [blank]⟩ := by
    rw [hlen1]
    refine ⟨h.low, by simp [Value.ownBlock]; exact hqg2, hwf1, ?_, _, k1w.put 4 _, arc_row k2 _⟩
    show World.ownsRow _ B 111 3 _ (s.l ++ [blank]).length (scells (s.l ++ [blank]))
    rw [hlen1]
    exact setg_owns hown (by simp [Value.ownBlock]; exact hqg2) _ _
  have hfre : fre s.l < (s.l ++ [blank]).length := by rw [hlen1]; omega
  have hbk0 : bk (s.l ++ [blank]) (fre s.l) = blank := by rw [hbl.2.2.2, hll, bk_ge (Nat.le_refl _)]
  have HW : Wf ⟨s.cap, s.lim, (s.l ++ [blank]).set (fre s.l) ⟨t, r, 1⟩⟩ := ⟨h.wf.lim0, h.wf.limc, h.wf.cap1, by show ((s.l ++ [blank]).set _ _).length ≤ 4096; rw [List.length_set, hlen1]; omega, by show chg ((s.l ++ [blank]).set _ _) ≤ s.lim; rw [chg_set hfre, hbk0, hbl.1]; simp only [blank]; omega, (h.wf.ok.snoc blank_ok).set _ ⟨.inr hr0, hr1, by simp, by simp⟩⟩
  have HX : Hid (tak s.l t r = (s.l ++ [blank]).set (fre s.l) ⟨t, r, 1⟩) := Lib.hid (by
    have e : tkb s.l t r = ⟨t, r, 1⟩ := by rw [tkb, hll, bk_ge (Nat.le_refl _)]; rfl
    rw [tak, if_neg (by omega), e, hll]
    simp)
  obtain ⟨cs2, m1, m2⟩ := hA2.blk
  obtain ⟨q', cap', e, _, _, _, cr0, cr, cg, _⟩ := hA2.slot hfre
  simp only [Value.slice.injEq, Option.some.injEq, Addr.mk.injEq, and_true, true_and] at e
  obtain ⟨rfl, rfl⟩ := e
  simp only [hbk0] at cr0 cr cg
  obtain ⟨x, hx, cx, hbit⟩ := m2.bits (fre s.l / 64) (by omega)
  have c5 := (m1.cell (5 + fre s.l / 64)).trans cx
  have c2 := (m1.cell 2).trans m2.chg
  have c3 := (m1.cell 3).trans m2.liv
  have c4 := (m1.cell 4).trans m2.row
  simp only [hbl.1] at c2
  simp only [hbl.2.1] at c3
  rw [hlen1] at c4
  have FIN := Lib.hid (take_done (t := t) (r := r) (b := blank) (R := w.heap.size) hA2 (hFw.set_ok (b := g) (.inl rfl) 4 (.slice (some ⟨q, 0, none⟩) (s.l.length + 1) cap)) (by rcases hq with e | e; exact .inl e; exact .inr (by omega)) (Nat.le_refl _) hn1 hq1 hqg hfre hl (by rw [hbk0]; rfl) (by omega) hbk0 HW m1 m2 hx hbit _ rfl)
  have hg1 : blank.g = 1 := rfl
  simp only [hbl.1, hbl.2.1, hg1] at FIN
  clear hg1
  rw [show (w.alloc (.cells #[.int .u32 0, .int .u32 0] 78)).heap.size = w.heap.size + 1 by simp] at hrun
  have HR := Lib.hid hrun
  have HQ := Lib.hid hq
  have f1 := m1.free
  have f1w := k1w.free
  have c4w : w2.cell? ⟨g, 4, none⟩ = some v := (k1w.cell 4).trans k2.row
  have c4o : w.cell? ⟨g, 4, none⟩ = some v := (k1.cell 4).trans k2.row
  have hR2 := ((hRw.put 0 (.int .u32 0)) : _)
  have hRB : Has (w2.setCell ⟨g, 4, none⟩ (.slice (some ⟨q, 0, none⟩) (s.l.length + 1) cap)) w.heap.size 78 #[.int .u32 0, .int .u32 0] := (Below.heap_setCell _ _ _ _ hn2).trans hRw
  have hR0 := (hRB.cell 0)
  have hR1 := (hRB.cell 1)
  simp only [List.getElem?_toArray, List.getElem?_cons_zero, List.getElem?_cons_succ] at hR0 hR1
  have fR := hRB.free
  have f2 : ∀ j, (w2.setCell ⟨g, 4, none⟩ (.slice (some ⟨q, 0, none⟩) (s.l.length + 1) cap)).frozen? ⟨q, j, none⟩ = false := fun j => by
    have := hA2.row
    rw [hlen1] at this
    exact this.frozenAt j
  have b2 : chg s.l + r ≤ 16777216 := by have := h.wf.limc; have := h.wf.cap1; omega
  have b1 := chg_ge h.wf.ok
  have b4 : liv s.l ≤ 4096 := by have := (liv_bd s.l).2; have := h.wf.len; omega
  have b3 := (liv_bd s.l).1
  have HF := Lib.hid hll
  obtain ⟨A, c, rfl⟩ := own_slice h.row
  clear h hA hown hgrow hFw k1 k2 k1w hRw hwf1 hA2 HW m1 m2 cx hx hbit hat hR2 hRB hbl hfre hbk0 hrun hq cs2
  rw [hll] at c5 FIN cr0 cr cg hl ⊢
  have HL1 := Lib.hid hlen1
  clear hlen1 hll
  have hne : ((s.l.length : Int) == (s.l.length : Int)) = true := by simp
  simp only [blank] at cr0 cr cg
  generalize hn : s.l.length = n at *
  have HN := Lib.hid hn
  clear hn
  go_enter Tryd.func49, Tryd.ntmps49
  go_wp2_with (at_builtin; refine wpList_app HR.out rfl rfl rfl rfl rfl ?_)
  go_region
  go_wp2
  have fin := FIN.out
  refine bodyPost_ret (v := .agg #[.int .u32 (n : Int), .int .u32 1]) (by simp [results, Tryd.results49, go_sem, hR0, hR1]) rfl ?_
  refine ⟨.slice (some ⟨q, 0, none⟩) (s.l ++ [blank]).length cap, ?_, ?_, ?_, ?_⟩
  · rw [HF.out, bk_ge (by rw [HN.out]; exact Nat.le_refl _)]; rfl
  · rw [HX.out, HF.out]; exact fin.1.drew
  · rcases HQ.out with e | e
    · exact .inl e.symm
    · exact .inr ⟨q, rfl, by omega⟩
  · exact fin.2.drew

theorem take_any {w : World} {B g : Nat} {v : Value} {s : Ar} (h : ArAt w B g v s) (hB : B ≤ w.heap.size) (t : List UInt8) (r : Int) (hl : fre s.l < 4096) (hr0 : 16 ≤ r) (hr1 : r ≤ 1024) (hch : chg s.l + r ≤ s.lim) :
    Calls Tryd.prog 49 #[.pointer (some ⟨g, 0, none⟩), .int .i64 (fre s.l : Int), .string (str t), .int .i64 r] w (Took B g v s t r w) := by
  by_cases hll : fre s.l < s.l.length
  · obtain ⟨q, cap, rfl, _⟩ := h.slot hll
    exact take_old h t r hll hr0 hr1 hch
  · exact take_new h hB t r (by have := fre_le s.l; omega) hl hr0 hr1 hch
end Go.Proofs.YtglhebpblncjaaaDoor
