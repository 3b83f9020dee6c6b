/- What New, Count, Len and Hold of package store return, and leave. -/
import Derived.Test.YtglhebpblncjaaaDoorStDef
namespace Go.Proofs.YtglhebpblncjaaaDoor
open Go.RowKit
set_option linter.unusedVariables false

theorem stnew_any {w : World} {B g : Nat} {s : Ar} {K : List Nat} (h : Sc w B g s K) (tl : Tl s) :
    Calls Tryd.prog 10 #[.pointer (some ⟨g, 0, none⟩)] w fun e w' => e = .returned (.pointer (some ⟨w.heap.size + 1, 0, none⟩)) ∧ St w' B g (w.heap.size + 1) w.heap.size 0 ⟨s, fun _ => none, 0⟩ K ∧ Below w.heap.size w w' := by
  have hmm := @run_makeMap Tryd.prog
  have H := Lib.hid h
  clear h
  go_enter Tryd.func10, Tryd.ntmps10
  go_wp2
  go_ret
  have e1 : (w.alloc (.map #[] 0)).heap.size = w.heap.size + 1 := by simp
  have b1 : Below w.heap.size w (w.alloc (.map #[] 0)) := (Below.refl _ _).alloc (Nat.le_refl _) _
  have b2 : Below w.heap.size w ((w.alloc (.map #[] 0)).alloc (.cells #[.pointer (some ⟨g, 0, none⟩), .map (some w.heap.size)] 70)) := b1.alloc (by omega) _
  have hg : Has ((w.alloc (.map #[] 0)).alloc (.cells #[.pointer (some ⟨g, 0, none⟩), .map (some w.heap.size)] 70)) (w.heap.size + 1) 70 #[.pointer (some ⟨g, 0, none⟩), .map (some w.heap.size)] := by
    rw [← e1]; exact heap_alloc_new _ _
  have e2 : ((w.alloc (.map #[] 0)).alloc (.cells #[.pointer (some ⟨g, 0, none⟩), .map (some w.heap.size)] 70)).heap.size = w.heap.size + 2 := by simp
  have hk : ∀ k ∈ K, k < w.heap.size := fun k hk => H.out.klt hk
  refine ⟨rfl, ⟨(H.out.tn (T := []) (.of_below b2) (fun k hk => by cases hk) (fun k hk => ?_)).1, hg, (MapC.new w).keep (heap_alloc_old _ _ (by omega)), by omega, fun k hk1 => by have := hk k hk1; omega, (fun k c e => by cases e), Nat.le_refl _, tl⟩, b2⟩
  simp only [List.mem_cons] at hk
  rcases hk with rfl | rfl | hk
  · exact .inr ⟨by omega, by omega⟩
  · exact .inr ⟨by omega, by omega⟩
  · exact .inl hk
section
variable {w : World} {B g hh m N : Nat} {S : Sv} {K : List Nat}
theorem stcount_any (h : St w B g hh m N S K) (ix : Int) (hix : I64 ix) :
    Calls Tryd.prog 21 #[.pointer (some ⟨hh, 0, none⟩), .int .i64 ix] w fun e w' => e = .returned (.int .i64 (scnt S ix)) ∧ w = w' := by
  have hl := h.map.look1 hix
  have c1 := h.c1
  unfold scnt
  unfold ctv at hl
  clear h
  have hfd : ∀ v0 v1 v2 W, (Instr.field 80 (.agg #[v0, v1, v2]) 1).run Tryd.prog W = .ok v2 W := fun _ _ _ _ => by kernel_rfl
  generalize (S.f ix).getD zc = c at *
  obtain ⟨cs, cg, ct⟩ := c
  dsimp only at hl ⊢
  go_enter Tryd.func21, Tryd.ntmps21
  go_wp2
  go_ret
  exact ⟨rfl, rfl⟩
theorem stlen_any (h : St w B g hh m N S K) :
    Calls Tryd.prog 23 #[.pointer (some ⟨hh, 0, none⟩)] w fun e w' => e = .returned (.int .i64 S.n) ∧ w = w' := by
  have hl := h.map.len
  have c1 := h.c1
  clear h
  go_enter Tryd.func23, Tryd.ntmps23
  go_wp2
  go_ret
  exact ⟨rfl, rfl⟩
set_option maxHeartbeats 1000000 in
theorem sthold_no (h : St w B g hh m N S K) (ix : Int) (hix : I64 ix) (h0 : S.f ix = none) :
    Calls Tryd.prog 14 #[.pointer (some ⟨hh, 0, none⟩), .int .i64 ix] w fun e w' => e = .returned (.bool false) ∧ Below w.heap.size w w' := by
  have hl := h.map.look hix
  have c1 := h.c1
  rw [h0] at hl
  unfold ctv zc at hl
  simp only [Option.getD_none, Option.isSome_none] at hl
  clear h
  go_enter Tryd.func14, Tryd.ntmps14
  go_wp2
  go_ret
  exact ⟨rfl, (Below.refl _ _).alloc (Nat.le_refl _) _⟩
set_option maxHeartbeats 1000000 in
theorem sthold_yes (h : St w B g hh m N S K) (hN : N ≤ 1000) (ix : Int) (hix : I64 ix) (c : Ct) (h0 : S.f ix = some c) :
    Calls Tryd.prog 14 #[.pointer (some ⟨hh, 0, none⟩), .int .i64 ix] w fun e w' => e = .returned (.bool true) ∧ St w' B g hh m (N + 1) (shold S ix) K ∧ Kp B K w w' := by
  have hl := h.map.look hix
  have c1 := h.c1
  have lh := h.blk.lt
  have lm := h.map.lt
  have hbd := h.bd ix c h0
  rw [h0] at hl
  unfold ctv at hl
  simp only [Option.getD_some, Option.isSome_some] at hl
  obtain ⟨w1, hw1⟩ : ∃ u, (w.alloc (.cells #[.int .u32 c.s, .int .u32 c.g, .int .i64 (c.t + 1)] 80)) = u := ⟨_, rfl⟩
  have b1 : Below w.heap.size w w1 := by rw [← hw1]; exact (Below.refl _ _).alloc (Nat.le_refl _) _
  have h1 := (h.below b1).drew
  have n1 : Has w1 w.heap.size 80 #[.int .u32 c.s, .int .u32 c.g, .int .i64 (c.t + 1)] := by rw [← hw1]; exact heap_alloc_new w _
  obtain ⟨w2, hr, hm2, ht2⟩ := h1.map.put (k := ix) ⟨c.s, c.g, c.t + 1⟩ hix (by have := h.nn; omega)
  rw [h0] at hm2
  have HE : Hid (St w2 B g hh m (N + 1) (shold S ix) K ∧ Kp B K w w2) := Lib.hid (by
    have e : shold S ix = ⟨S.s, upd S.f ix (some ⟨c.s, c.g, c.t + 1⟩), S.n⟩ := by unfold shold; rw [h0]
    rw [e]
    obtain ⟨a1, a2⟩ := h1.mapd (N' := N + 1) ht2 hm2 (bd_upd h.bd ix _ ⟨hbd.1, hbd.2.1, hbd.2.2.1, by show 1 ≤ c.t + 1; omega, by show c.t + 1 ≤ N + 1; omega⟩) (by have := h.nn; simp; omega)
    exact ⟨a1, (h.kp b1.drew).trans a2⟩)
  unfold ctv at hr
  dsimp only at hr
  have HB := Lib.hid (h.below b1)
  clear h1 hm2 ht2 h h0 b1
  go_enter Tryd.func14, Tryd.ntmps14
  go_wp2
  have C1 : w1.cell? ⟨hh, 1, none⟩ = some (.map (some m)) := HB.out.c1
  have e0 : w1.cell? ⟨w.heap.size, 0, none⟩ = some (.int .u32 c.s) := n1.cell 0
  have e1 : w1.cell? ⟨w.heap.size, 1, none⟩ = some (.int .u32 c.g) := n1.cell 1
  have e2 : w1.cell? ⟨w.heap.size, 2, none⟩ = some (.int .i64 (c.t + 1)) := n1.cell 2
  clear n1 hw1 c1 hl
  go_region
  go_wp2
  go_ret
  exact ⟨rfl, HE.out⟩
/-- Either way. -/
theorem sthold_any (h : St w B g hh m N S K) (hN : N ≤ 1000) (ix : Int) (hix : I64 ix) :
    Calls Tryd.prog 14 #[.pointer (some ⟨hh, 0, none⟩), .int .i64 ix] w fun e w' => e = .returned (.bool (S.f ix).isSome) ∧ St w' B g hh m (N + 1) (shold S ix) K ∧ Kp B K w w' := by
  cases h0 : S.f ix with
  | none => exact (sthold_no h ix hix h0).mono fun e w' ⟨h1, h2⟩ => ⟨h1, by unfold shold; rw [h0]; exact (h.below h2).more (by omega), h.kp h2⟩
  | some c => exact sthold_yes h hN ix hix c h0
end
end Go.Proofs.YtglhebpblncjaaaDoor
