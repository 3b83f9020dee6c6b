/- An entry more at the end of a rank's heap. -/
import Derived.Test.YtplhdmaiammckaaRkSwap
import Derived.Test.YtplhdmaiammckaaAppStep
namespace Go.Proofs.Ytplhdmaiammckaa
open Go.RowKit
set_option linter.unusedVariables false

theorem info_entry : (Try.prog.info? 60).map (fun i => (i.zero, i.size, i.bytes)) = some (some (.agg #[.int .i64 0, .int .i64 0]), 2, 16) := by kernel_rfl
/-- An entry is appended. -/
theorem ent_app {W : World} {base : Nat} {v : Value} {l : List Ent} (h : W.ownsRow base 60 2 v l.length (ecells l)) (hbase : base ≤ W.heap.size) {q : Nat} {p : Ent} (hq : Has W q 60 #[.int .i64 p.1, .int .i64 p.2]) (hl : l.length ≤ 100000) :
    ∃ b c w', (Builtin.append_ #[51, 51] 51 #[v, .slice (some ⟨q, 0, none⟩) 1 1]).run Try.prog W = .ok (.slice (some ⟨b, 0, none⟩) (l.length + 1) c) w' ∧ w'.ownsRow base 60 2 (.slice (some ⟨b, 0, none⟩) (l.length + 1) c) (l.length + 1) (ecells (l ++ [p])) ∧ W.grownBy w' v.ownBlock
      ∧ (some b = v.ownBlock ∨ b = W.heap.size) := by
  obtain ⟨i0, hi, hz0, hz1, hz2⟩ := info_parts info_entry
  obtain ⟨v', w', h1, h2, h3, _, h4⟩ := run_append_own_at (P := Try.prog) W base 51 51 60 i0 (.agg #[.int .i64 0, .int .i64 0]) 2 16 Try.underlying51 hi hz0 hz1 hz2 rfl (by omega) v l.length (ecells l) h
    ⟨q, 0, none⟩ 1 1 [.int .i64 p.1, .int .i64 p.2] rfl (fun j u hu => by
      rw [Go.WideShapes.add_plain, Nat.zero_add, hq.cell]
      simpa using hu) (by intro u hu; simp at hu; rcases hu with rfl | rfl <;> rfl) (by unfold maxLen; omega) (by omega) hbase
  rcases h2.2 with ⟨rfl, h0⟩ | ⟨b, c, cur, rfl, hb, _⟩
  · omega
  · refine ⟨b, c, w', h1, by rw [ecells_snoc]; exact h2, h3, ?_⟩
    rcases h4 with e | e
    · exact .inl e
    · exact .inr (Option.some.inj e)
theorem Pl.push {l : List Ent} {f : Int → Option Int} (h : Pl l f) {k s : Int} (hk : ∀ i, i < l.length → (ent l i).1 ≠ k) : Pl (l ++ [(k, s)]) (upd f k (some (l.length : Int))) := by
  have e0 : ∀ i, i < l.length → ent (l ++ [(k, s)]) i = ent l i := fun i hi => by rw [ent_append, if_pos hi]
  have e1 : ent (l ++ [(k, s)]) l.length = (k, s) := by rw [ent_append, if_neg (by omega)]; simp [ent]
  refine ⟨fun i hi => ?_, fun j hj => ?_⟩
  · simp only [List.length_append, List.length_singleton] at hi
    by_cases h1 : i < l.length
    · rw [e0 i h1, upd_other _ _ _ _ (hk i h1)]; exact h.1 i h1
    · have : i = l.length := by omega
      subst this
      rw [e1, upd_same]
  · have h1 : k ≠ j := fun e => hj l.length (by simp) (by rw [e1]; exact e)
    rw [upd_other _ _ _ _ (Ne.symm h1)]
    exact h.2 j fun i hi e => hj i (by simp; omega) (by rw [e0 i hi]; exact e)
theorem as_entry (a b : Int) (W : World) : (Instr.typeAssert (.iface 60 (.agg #[.int .i64 a, .int .i64 b])) 20 60 false).run Try.prog W = .ok (.agg #[.int .i64 a, .int .i64 b]) W := by kernel_rfl
/-- What is left by Push. -/
def Pushed (w : World) (B g m : Nat) (v : Value) (l : List Ent) (p : Ent) (w' : World) : Prop :=
  ∃ v', Ok w' B g m v' (l ++ [p]) ∧ Fq g m v.ownBlock w w' ∧ (v'.ownBlock = v.ownBlock ∨ ∃ n, v'.ownBlock = some n ∧ w.heap.size ≤ n)
theorem push_end {w w0 w2 w3 w5 : World} {B g m b c' : Nat} {v : Value} {l : List Ent} {p : Ent} {f : Int → Option Int} (h : Ok w B g m v l) (hp : I64 p.1 ∧ I64 p.2) (hl : l.length < 100000)
    (b0 : Below w.heap.size w w0) (ht2 : w0.drew.mapTurned w2 m) (hm2 : MapI w2 m (l.length + 1) f) (hP : Pl (l ++ [p]) f)
    (b3 : Below w2.heap.size w2 w3) (hz3 : w.heap.size < w3.heap.size) (rg : w3.grownBy w5 v.ownBlock) (ro : w5.ownsRow B 60 2 (.slice (some ⟨b, 0, none⟩) (l.length + 1) c') (l.length + 1) (ecells (l ++ [p]))) (rb : some b = v.ownBlock ∨ b = w3.heap.size) :
    Pushed w B g m v l p (w5.setCell ⟨g, 0, none⟩ (.slice (some ⟨b, 0, none⟩) (l.length + 1) c')) := by
  obtain ⟨z2, k2⟩ := turned_block ht2
  have z2' : w2.heap.size = w0.heap.size := z2
  obtain ⟨lg, lm, lv⟩ := h.lt
  have hs0 := b0.size
  have hs3 := b3.size
  have k5 : ∀ q, q < w.heap.size → q ≠ m → v.ownBlock ≠ some q → w5.heap[q]? = w.heap[q]? := fun q hq h1 h2 =>
    (rg.block q (by omega) (fun e => h2 e.symm)).trans ((b3.block q (by omega)).trans ((k2 q h1).trans (b0.block q hq)))
  have bne : ∀ q, q < w.heap.size → v.ownBlock ≠ some q → b ≠ q := fun q hq hn e => by
    rcases rb with e1 | e1
    · exact hn (by rw [← e1, e])
    · omega
  have hw5 : ∀ q, q ≠ g → (w5.setCell ⟨g, 0, none⟩ (.slice (some ⟨b, 0, none⟩) (l.length + 1) c')).heap[q]? = w5.heap[q]? := fun q hq => Below.heap_setCell _ _ _ _ hq
  have hbg := bne g lg h.vg
  have hbm := bne m lm h.vm
  have hlen : (l ++ [p]).length = l.length + 1 := by simp
  refine ⟨.slice (some ⟨b, 0, none⟩) (l.length + 1) c', ⟨?_, ?_, ⟨f, ?_, hP⟩, h.bg, h.bm, h.gm, ?_, ?_, fun i hi => ?_, by rw [hlen]; omega⟩, ⟨?_, ?_, ?_, ?_, ?_⟩, ?_⟩
  · have hg5 : Has w5 g 55 #[v, .map (some m)] := (k5 g lg h.gm h.vg).trans h.blk
    have := hg5.put 0 (.slice (some ⟨b, 0, none⟩) (l.length + 1) c')
    simpa using this
  · rw [hlen]
    exact row_keep ro fun k e => hw5 k (by obtain rfl : b = k := Option.some.inj e; exact hbg)
  · rw [hlen]
    refine hm2.keep ((hw5 m (Ne.symm h.gm)).trans ?_)
    exact (rg.block m (by omega) (fun e => h.vm e.symm)).trans (b3.block m (by omega))
  · exact fun e => hbg (Option.some.inj e)
  · exact fun e => hbm (Option.some.inj e)
  · rw [hlen] at hi
    rw [ent_append]
    split
    · exact h.ids i ‹_›
    · have : i - l.length = 0 := by omega
      rw [this]; exact hp
  · exact rg.os.trans (b3.os.trans (ht2.grown.os.trans b0.os))
  · exact rg.tape.trans (b3.tape.trans (ht2.grown.tape.trans b0.tape))
  · exact rg.output.trans (b3.output.trans (ht2.grown.output.trans b0.output))
  · have := rg.size
    simp [World.setCell]; omega
  · exact fun k hk h1 h2 h3 => (hw5 k h1).trans (k5 k hk h2 h3)
  · rcases rb with e | e
    · exact .inl e
    · exact .inr ⟨b, rfl, by omega⟩
set_option maxHeartbeats 1000000 in
theorem push_any {w : World} {B g m : Nat} {v : Value} {l : List Ent} (h : Ok w B g m v l) (k s : Int) (hk : I64 k) (hs : I64 s) (hno : ∀ i, i < l.length → (ent l i).1 ≠ k) (hl : l.length < 100000) :
    Calls Try.prog 51 #[.pointer (some ⟨g, 0, none⟩), .iface 60 (.agg #[.int .i64 k, .int .i64 s])] w fun e w' => e = .returned (.tuple #[]) ∧ Pushed w B g m v l (k, s) w' := by
  obtain ⟨A, c, rfl, hc1, hc2⟩ := own_any h.row
  have hlt := h.lt
  obtain ⟨f, hm, hp⟩ := h.map
  have s1 : (f k).isSome = false := by rw [hp.2 k hno]; rfl
  have HP := Lib.hid (hp.push (s := s) hno)
  have b0 : Below w.heap.size w (w.alloc (.cells #[.int .i64 k, .int .i64 s] 60)) := (Below.refl _ _).alloc (Nat.le_refl _) _
  have h0 := h.below b0
  have n0 : Has (w.alloc (.cells #[.int .i64 k, .int .i64 s] 60)) w.heap.size 60 #[.int .i64 k, .int .i64 s] := heap_alloc_new w _
  have hm0 : MapI (w.alloc (.cells #[.int .i64 k, .int .i64 s] 60)) m l.length f := hm.keep (b0.block m hlt.2.1)
  have H := Lib.hid h
  have H0 := Lib.hid h0
  have HLT := Lib.hid hlt
  have HB0 := Lib.hid b0
  have HN0 := Lib.hid n0
  have HM0 := Lib.hid hm0
  have HS1 := Lib.hid s1
  have hz0 : (w.alloc (.cells #[.int .i64 k, .int .i64 s] 60)).heap.size = w.heap.size + 1 := by simp
  have HZ0 := Lib.hid hz0
  have HNO := Lib.hid hno
  clear h h0 hlt b0 n0 hm0 s1 hm hp hz0 hno
  have hta := as_entry k s w
  go_enter Try.func51, Try.ntmps51
  go_wp2
  clear hta
  generalize w.alloc (.cells #[.int .i64 k, .int .i64 s] 60) = w0 at *
  have c0 : w0.cell? ⟨g, 0, none⟩ = some (.slice A l.length c) := H0.out.blk.cell 0
  have c1 : w0.cell? ⟨g, 1, none⟩ = some (.map (some m)) := H0.out.blk.cell 1
  have e0 : w0.cell? ⟨w.heap.size, 0, none⟩ = some (.int .i64 k) := HN0.out.cell 0
  have e1 : w0.cell? ⟨w.heap.size, 1, none⟩ = some (.int .i64 s) := HN0.out.cell 1
  obtain ⟨w2, hr, hm2, ht2⟩ := (show MapI w0.drew m l.length f from HM0.out.keep rfl).put (k := k) (v := (l.length : Int)) hk (by unfold I64; omega) (by omega) _ under_mii
  rw [HS1.out] at hm2
  obtain ⟨z2, k2⟩ := turned_block ht2
  have hg2 : Has w2 g 55 #[.slice A l.length c, .map (some m)] := (k2 g H.out.gm).trans H0.out.blk
  have hn2 : Has w2 w.heap.size 60 #[.int .i64 k, .int .i64 s] := (k2 _ (by have := HLT.out.2.1; omega)).trans HN0.out
  have hr2 : w2.ownsRow B 60 2 (.slice A l.length c) l.length (ecells l) := row_keep H0.out.row fun q e => k2 q (fun e1 => H.out.vm (by rw [e, e1]))
  have hz2 : w2.heap.size = w.heap.size + 1 := by rw [z2]; exact HZ0.out
  have hB : B ≤ w.heap.size := by have := H.out.bg; have := HLT.out.1; omega
  have hq2 : Has (w2.alloc (.cells #[.int .i64 k, .int .i64 s] 60)).drew w2.heap.size 60 #[.int .i64 k, .int .i64 s] := heap_alloc_new w2 _
  have hr3 : (w2.alloc (.cells #[.int .i64 k, .int .i64 s] 60)).drew.ownsRow B 60 2 (.slice A l.length c) l.length (ecells l) := row_keep (hr2.alloc _) fun _ _ => rfl
  obtain ⟨b, c', w5, ra, ro, rg, rb⟩ := ent_app (p := (k, s)) hr3 (by show B ≤ (w2.alloc _).heap.size; simp; omega) hq2 (by omega)
  have hz3 : (w2.alloc (.cells #[.int .i64 k, .int .i64 s] 60)).drew.heap.size = w.heap.size + 2 := by show (w2.alloc _).heap.size = _; simp; omega
  have hal : ∀ q, q < w2.heap.size → (w2.alloc (.cells #[.int .i64 k, .int .i64 s] 60)).drew.heap[q]? = w2.heap[q]? := fun q hq => heap_alloc_old w2 _ hq
  have hk5 : ∀ q, q < w2.heap.size → (Value.slice A l.length c).ownBlock ≠ some q → w5.heap[q]? = w2.heap[q]? := fun q hq hne => (rg.block q (by omega) (fun e => hne e.symm)).trans (hal q hq)
  have hg5 : Has w5 g 55 #[.slice A l.length c, .map (some m)] := (hk5 g (by have := HLT.out.1; omega) H.out.vg).trans hg2
  have b3 : Below w2.heap.size w2 (w2.alloc (.cells #[.int .i64 k, .int .i64 s] 60)).drew := ((Below.refl _ _).alloc (Nat.le_refl _) _).drew
  have HEND := Lib.hid (push_end H.out (p := (k, s)) ⟨hk, hs⟩ hl HB0.out ht2 hm2 HP.out b3 (by omega) rg ro rb)
  have HZ := Lib.hid (And.intro hz2 hz3)
  have HK5 := Lib.hid hk5
  have HK2 := Lib.hid (And.intro z2 k2)
  have HG5 := Lib.hid hg5
  have HRO := Lib.hid ro
  have HRG := Lib.hid rg
  have HRB := Lib.hid rb
  have HRA := Lib.hid ra
  have HM2 := Lib.hid (And.intro hm2 ht2)
  have HG2 := Lib.hid hg2
  have HN2 := Lib.hid hn2
  have HB := Lib.hid hB
  clear z2 k2 hr2 hz2 hq2 hr3 hz3 hal hk5 ro rg rb ra hm2 ht2 hg5 hg2 hn2 hB b3
  go_region
  clear c0 c1 e0 e1 hr
  have c0 : w2.cell? ⟨g, 0, none⟩ = some (.slice A l.length c) := HG2.out.cell 0
  have c1 : ∀ o, (w2.alloc o).cell? ⟨g, 0, none⟩ = some (.slice A l.length c) := fun o => cell_new1 c0 o
  have e0 : w2.cell? ⟨w.heap.size, 0, none⟩ = some (.int .i64 k) := HN2.out.cell 0
  have e1 : w2.cell? ⟨w.heap.size, 1, none⟩ = some (.int .i64 s) := HN2.out.cell 1
  have d0 : w5.cell? ⟨g, 0, none⟩ = some (.slice A l.length c) := HG5.out.cell 0
  have d1 := HG5.out.free 0
  go_wp2_with fail
  go_region_law (refine step_app (R := fun x y => x = .slice (some ⟨b, 0, none⟩) (l.length + 1) c' ∧ y = w5) ⟨_, _, HRA.out, rfl, rfl⟩ rfl rfl rfl (by simp [Act.eval]) (by simp [Act.eval]) ?_; rintro _ _ ⟨rfl, rfl⟩)
  all_goals
    go_end0
    exact ⟨rfl, HEND.out⟩
end Go.Proofs.Ytplhdmaiammckaa
