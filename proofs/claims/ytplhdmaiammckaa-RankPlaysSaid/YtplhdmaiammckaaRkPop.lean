/- The last entry of a rank's heap is gone. -/
import Derived.Test.YtplhdmaiammckaaRkPush
namespace Go.Proofs.Ytplhdmaiammckaa
open Go.RowKit
set_option linter.unusedVariables false

/-- The slice cut short. -/
theorem row_cut {w : World} {base b c n n' : Nat} {e : TypeId} {xs : List Value} (h : w.ownsRow base e 2 (.slice (some ⟨b, 0, none⟩) n c) n xs) (hn : n' ≤ n) : w.ownsRow base e 2 (.slice (some ⟨b, 0, none⟩) n' c) n' (xs.take (n' * 2)) := by
  rcases h.2 with ⟨h1, h0⟩ | ⟨g, cap, cur, h1, hb, hg, hc1, hc2, hc3, hx⟩
  · cases h1
  · cases h1
    have hl := h.1
    refine ⟨by simp; omega, .inr ⟨b, c, cur, rfl, hb, hg, by omega, hc2, hc3, ?_⟩⟩
    rw [← hx, List.take_take]
    congr 1
    omega
theorem Pl.pop {l : List Ent} {f : Int → Option Int} (h : Pl l f) {n : Nat} (hn : l.length = n + 1) : Pl (l.take n) (upd f (ent l n).1 none) := by
  have e0 : ∀ i, i < n → ent (l.take n) i = ent l i := fun i hi => ent_take l n i hi
  have hl : (l.take n).length = n := by simp; omega
  have hne : ∀ i, i < n → (ent l i).1 ≠ (ent l n).1 := fun i hi e => by
    have h1 := h.1 i (by omega)
    rw [e, h.1 n (by omega)] at h1
    have := Option.some.inj h1
    omega
  refine ⟨fun i hi => ?_, fun k hk => ?_⟩
  · rw [hl] at hi
    rw [e0 i hi, upd_other _ _ _ _ (hne i hi)]; exact h.1 i (by omega)
  · by_cases e : k = (ent l n).1
    · rw [e, upd_same]
    · rw [upd_other _ _ _ _ e]
      refine h.2 k fun i hi e1 => ?_
      by_cases e2 : i = n
      · rw [e2] at e1; exact e e1.symm
      · exact hk i (by rw [hl]; omega) (by rw [e0 i (by omega)]; exact e1)
theorem step_del {P : Program} {ops : Array Oper} {o : Oper} {a : Act} {w : World} {K : Act → World → Prop} {Q : Exit → Act → World → Prop} {E : Prop} {m x : Operand} {t k : TypeId} {mv xv : Value} {w' : World}
    (hrun : ∀ ty, (Builtin.delete_ #[t, k] ty #[mv, xv]).run P w = .ok (.tuple #[]) w') (hgd : o.guard = none)
    (ho : o.op = .call { callee := .builtin .delete, args := #[m, x], argTypes := #[t, k] }) (hm : a.eval m = mv) (hx : a.eval x = xv)
    (h : K (a.put o.dst (.tuple #[])) w') : if Region.wanted o (yielded ops a.tmps) = true then Oper.wp P o a w K Q else E := by
  have hw : Region.wanted o (yielded ops a.tmps) = true := by simp [Region.wanted, hgd]
  rw [if_pos hw]
  unfold Oper.wp execOp
  simp only [ho, resolve, invoke, builtin, Sem.run_bind, Sem.run_pure, Result.andThen_ok, List.map_toArray, List.map_cons, List.map_nil, hm, hx, hrun]
  exact h
/-- What is left by Pop. -/
def Popped (w : World) (B g m : Nat) (v : Value) (l : List Ent) (n : Nat) (w' : World) : Prop :=
  ∃ v', Ok w' B g m v' (l.take n) ∧ Fq g m v.ownBlock w w' ∧ v'.ownBlock = v.ownBlock
theorem pop_end {w w0 w2 w3 : World} {B g m b c n : Nat} {l : List Ent} {f : Int → Option Int} (h : Ok w B g m (.slice (some ⟨b, 0, none⟩) (n + 1) c) l) (hn : l.length = n + 1)
    (b0 : Below w.heap.size w w0) (h2 : w2 = (w0.setCell ⟨g, 0, none⟩ (.slice (some ⟨b, 0, none⟩) n c)).drew) (ht : w2.mapTurned w3 m) (hm3 : MapI w3 m n f) (hP : Pl (l.take n) f) : Popped w B g m (.slice (some ⟨b, 0, none⟩) (n + 1) c) l n w3 := by
  obtain ⟨z3, k3⟩ := turned_block ht
  obtain ⟨lg, lm, lv⟩ := h.lt
  have lb := lv b rfl
  have hs0 := b0.size
  have hbg : b ≠ g := fun e => h.vg (by rw [← e]; rfl)
  have hbm : b ≠ m := fun e => h.vm (by rw [← e]; rfl)
  have hz2 : w2.heap.size = w0.heap.size := by rw [h2]; show (w0.setCell _ _).heap.size = _; simp [World.setCell]
  have k2 : ∀ q, q ≠ g → w2.heap[q]? = w0.heap[q]? := fun q hq => by rw [h2]; exact Below.heap_setCell _ _ _ _ hq
  have k : ∀ q, q < w.heap.size → q ≠ g → q ≠ m → w3.heap[q]? = w.heap[q]? := fun q hq h1 h2 => (k3 q h2).trans ((k2 q h1).trans (b0.block q hq))
  have hlen : (l.take n).length = n := by simp; omega
  refine ⟨.slice (some ⟨b, 0, none⟩) n c, ⟨?_, ?_, ⟨f, by rw [hlen]; exact hm3, hP⟩, h.bg, h.bm, h.gm, h.vg, h.vm, fun i hi => ?_, by rw [hlen]; have := h.few; omega⟩, ⟨?_, ?_, ?_, ?_, ?_⟩, rfl⟩
  · have hg0 : Has w0 g 55 #[.slice (some ⟨b, 0, none⟩) (n + 1) c, .map (some m)] := h.blk.below b0 lg
    have h1 := hg0.put 0 (.slice (some ⟨b, 0, none⟩) n c)
    have h3 : Has w2 g 55 #[.slice (some ⟨b, 0, none⟩) n c, .map (some m)] := by
      rw [h2]
      exact (show Has (w0.setCell ⟨g, 0, none⟩ (.slice (some ⟨b, 0, none⟩) n c)) g 55 #[.slice (some ⟨b, 0, none⟩) n c, .map (some m)] by simpa using h1)
    exact (k3 g h.gm).trans h3
  · rw [hlen, ecells_take]
    have hr := h.row
    rw [hn] at hr
    exact row_keep (row_cut hr (by omega)) fun q e => by
      obtain rfl : b = q := Option.some.inj e
      exact k b lb hbg hbm
  · rw [hlen] at hi
    rw [ent_take l n i hi]
    exact h.ids i (by omega)
  · exact ht.grown.os.trans (by rw [h2]; exact b0.os)
  · exact ht.grown.tape.trans (by rw [h2]; exact b0.tape)
  · exact ht.grown.output.trans (by rw [h2]; exact b0.output)
  · omega
  · exact fun q hq h1 h2 h3 => k q hq h1 h2
set_option maxHeartbeats 1000000 in
theorem pop_any {w : World} {B g m n : Nat} {v : Value} {l : List Ent} (h : Ok w B g m v l) (hn : l.length = n + 1) :
    Calls Try.prog 50 #[.pointer (some ⟨g, 0, none⟩)] w fun e w' => e = .returned (.iface 60 (.agg #[.int .i64 (ent l n).1, .int .i64 (ent l n).2])) ∧ Popped w B g m v l n w' := by
  obtain ⟨b, c, rfl, hc1, hc2, hbg, hbm, -⟩ := h.shape (by omega)
  have hf := h.few
  rw [hn] at h hc1 hf ⊢
  have hlt := h.lt
  have c0 : w.cell? ⟨g, 0, none⟩ = some (.slice (some ⟨b, 0, none⟩) (n + 1) c) := h.blk.cell 0
  have c1 : w.cell? ⟨g, 1, none⟩ = some (.map (some m)) := h.blk.cell 1
  have f0 := h.blk.free 0
  obtain ⟨p0, p1⟩ := (show Ok w B g m (.slice (some ⟨b, 0, none⟩) l.length c) l by rw [hn]; exact h).cells n (by omega)
  obtain ⟨f, hm, hp⟩ := h.map
  rw [hn] at hm
  have hs1 : (f (ent l n).1).isSome = true := by rw [hp.1 n (by omega)]; rfl
  have hP := hp.pop hn
  obtain ⟨ix, is⟩ := h.ids n (by omega)
  generalize (ent l n).1 = x at *
  generalize (ent l n).2 = s at *
  have b0 : Below w.heap.size w (w.alloc (.cells #[.int .i64 x, .int .i64 s] 60)) := (Below.refl _ _).alloc (Nat.le_refl _) _
  obtain ⟨w0, hw0⟩ : ∃ u, w.alloc (.cells #[.int .i64 x, .int .i64 s] 60) = u := ⟨_, rfl⟩
  have n0 : Has w0 w.heap.size 60 #[.int .i64 x, .int .i64 s] := by rw [← hw0]; exact heap_alloc_new w _
  rw [hw0] at b0
  obtain ⟨w2, hw2⟩ : ∃ u, (w0.setCell ⟨g, 0, none⟩ (.slice (some ⟨b, 0, none⟩) n c)).drew = u := ⟨_, rfl⟩
  have k2 : ∀ q, q ≠ g → w2.heap[q]? = w0.heap[q]? := fun q hq => by rw [← hw2]; exact Below.heap_setCell _ _ _ _ hq
  have hm2 : MapI w2 m (n + 1) f := (hm.keep (b0.block m hlt.2.1)).keep (k2 m (Ne.symm h.gm))
  obtain ⟨w3, hr3, hm3, ht3⟩ : ∃ w3, (∀ ty, (Builtin.delete_ #[50, 3] ty #[.map (some m), .int .i64 x]).run Try.prog w2 = .ok (.tuple #[]) w3) ∧ MapI w3 m n (upd f x none) ∧ w2.mapTurned w3 m := by
    obtain ⟨w3, hr, h1, h2⟩ := hm2.del ix 50 under_mii 0
    rw [hs1] at h1
    exact ⟨w3, fun ty => hr, by simpa using h1, h2⟩
  have HEND := Lib.hid (pop_end h hn b0 hw2.symm ht3 hm3 hP)
  have hg3 : w.heap.size ≠ g ∧ w.heap.size ≠ m := by omega
  obtain ⟨z3, k3⟩ := turned_block ht3
  have n3 : Has w3 w.heap.size 60 #[.int .i64 x, .int .i64 s] := (k3 _ hg3.2).trans ((k2 _ hg3.1).trans n0)
  have HR3 := Lib.hid hr3
  have HN3 := Lib.hid n3
  have HW2 := Lib.hid hw2
  have HN0 := Lib.hid n0
  have HG0 := Lib.hid (h.blk.below b0 hlt.1)
  clear h hlt hm hp hs1 hP b0 n0 hw2 k2 hm2 hr3 hm3 ht3 z3 k3 n3 hn
  go_enter Try.func50, Try.ntmps50
  have cg := HG0.out.cell 0
  have c1' := HG0.out.cell 1
  have fg := HG0.out.free 0
  have e0 := HN0.out.cell 0
  simp only [List.getElem?_toArray, List.getElem?_cons_zero, List.getElem?_cons_succ] at cg c1' e0
  go_wp2
  clear c0 c1 f0 p0 p1
  have HR4 := HR3.out
  rw [← HW2.out] at HR4
  have HR5 := Lib.hid HR4
  clear HR4 hw0
  go_region_law (refine step_del HR5.out rfl rfl (by simp [Act.eval]) (by simp [Act.eval]) ?_)
  all_goals
    have t0 := HN3.out.cell 0
    have t1 := HN3.out.cell 1
    simp only [List.getElem?_toArray, List.getElem?_cons_zero, List.getElem?_cons_succ] at t0 t1
    go_wp2
    go_ret
    exact ⟨rfl, HEND.out⟩
end Go.Proofs.Ytplhdmaiammckaa
