/- What Drop of package store returns, and leaves. -/
import Derived.Test.YtglhebpblncjaaaDoorStNew
import Derived.Deep.RegionHeld3
namespace Go.Proofs.YtglhebpblncjaaaDoor
open Go.RowKit
set_option linter.unusedVariables false

/-- A delete as one step of a statement that leaves its order open. -/
theorem wpList_del {P : Program} {ops : Array Oper} {rest : List Oper} {o : Oper} {a : Act} {w w' : World} {Q : Exit → Act → World → Prop} {m x : Operand} {t k : TypeId} {mv xv : Value}
    (hrun : ∀ ty, (Builtin.delete_ #[t, k] ty #[mv, xv]).run P w = .ok (.tuple #[]) w') (hgd : o.guard = none)
    (ho : o.op = .call { callee := .builtin .delete, args := #[m, x], argTypes := #[t, k] }) (hm : a.eval m = mv) (hx : a.eval x = xv)
    (h : wpList P ops Q rest (a.put o.dst (.tuple #[])) w') : wpList P ops Q (o :: rest) a w := by
  refine wpList_plain hgd fun K hK => ?_
  unfold Oper.wp execOp
  simp only [ho, resolve, invoke, builtin, Sem.run_bind, Sem.run_pure, Result.andThen_ok, List.map_toArray, List.map_cons, List.map_nil, hm, hx, hrun]
  exact hK _ _ h
section
variable {w : World} {B g hh m N : Nat} {S : Sv} {K : List Nat}
set_option maxHeartbeats 1000000 in
theorem stdrop_no (h : St w B g hh m N S K) (ix : Int) (hix : I64 ix) (h0 : S.f ix = none) :
    Calls Tryd.prog 16 #[.pointer (some ⟨hh, 0, none⟩), .int .i64 ix] w fun e w' => e = .returned (.bool false) ∧ Below w.heap.size w w' := by
  have hl := h.map.look hix
  have c1 := h.c1
  rw [h0] at hl
  unfold ctv zc at hl
  simp only [Option.getD_none, Option.isSome_none] at hl
  clear h
  go_enter Tryd.func16, Tryd.ntmps16
  go_wp2
  go_ret
  exact ⟨rfl, (Below.refl _ _).alloc (Nat.le_refl _) _⟩
set_option maxHeartbeats 1000000 in
theorem stdrop_less (h : St w B g hh m N S K) (hN : N ≤ 1000) (ix : Int) (hix : I64 ix) (c : Ct) (h0 : S.f ix = some c) (ht : c.t ≠ 1) :
    Calls Tryd.prog 16 #[.pointer (some ⟨hh, 0, none⟩), .int .i64 ix] w fun e w' => e = .returned (.bool true) ∧ St w' B g hh m (N + 1) (sdrop S ix) K ∧ Kp B K w w' := by
  have hl := h.map.look hix
  have c1 := h.c1
  have lh := h.blk.lt
  have lm := h.map.lt
  have hbd := h.bd ix c h0
  rw [h0] at hl
  unfold ctv at hl
  simp only [Option.getD_some, Option.isSome_some] at hl
  obtain ⟨w1, hw1⟩ : ∃ u, (w.alloc (.cells #[.int .u32 c.s, .int .u32 c.g, .int .i64 (c.t - 1)] 80)) = u := ⟨_, rfl⟩
  have b1 : Below w.heap.size w w1 := by rw [← hw1]; exact (Below.refl _ _).alloc (Nat.le_refl _) _
  have h1 := (h.below b1).drew
  have n1 : Has w1 w.heap.size 80 #[.int .u32 c.s, .int .u32 c.g, .int .i64 (c.t - 1)] := by rw [← hw1]; exact heap_alloc_new w _
  obtain ⟨w2, hr, hm2, ht2⟩ := h1.map.put (k := ix) ⟨c.s, c.g, c.t - 1⟩ hix (by have := h.nn; omega)
  rw [h0] at hm2
  have HE : Hid (St w2 B g hh m (N + 1) (sdrop S ix) K ∧ Kp B K w w2) := Lib.hid (by
    have e : sdrop S ix = ⟨S.s, upd S.f ix (some ⟨c.s, c.g, c.t - 1⟩), S.n⟩ := by unfold sdrop; rw [h0]; exact if_neg ht
    rw [e]
    obtain ⟨a1, a2⟩ := h1.mapd (N' := N + 1) ht2 hm2 (bd_upd h.bd ix _ ⟨hbd.1, hbd.2.1, hbd.2.2.1, by show 1 ≤ c.t - 1; omega, by show c.t - 1 ≤ N + 1; omega⟩) (by have := h.nn; simp; omega)
    exact ⟨a1, (h.kp b1.drew).trans a2⟩)
  unfold ctv at hr
  dsimp only at hr
  have HB := Lib.hid (h.below b1)
  have ht1 : (c.t == 1) = false := by simpa using ht
  clear h1 hm2 ht2 h h0 b1 ht
  go_enter Tryd.func16, Tryd.ntmps16
  go_wp2
  have C1 : w1.cell? ⟨hh, 1, none⟩ = some (.map (some m)) := HB.out.c1
  have e0 : w1.cell? ⟨w.heap.size, 0, none⟩ = some (.int .u32 c.s) := n1.cell 0
  have e1 : w1.cell? ⟨w.heap.size, 1, none⟩ = some (.int .u32 c.g) := n1.cell 1
  have e2 : w1.cell? ⟨w.heap.size, 2, none⟩ = some (.int .i64 (c.t - 1)) := n1.cell 2
  clear n1 hw1 c1 hl
  go_region
  go_wp2
  go_ret
  exact ⟨rfl, HE.out⟩
set_option maxHeartbeats 1000000 in
theorem stdrop_last (h : St w B g hh m N S K) (hN : N ≤ 1000) (ix : Int) (hix : I64 ix) (c : Ct) (h0 : S.f ix = some c) (ht : c.t = 1) :
    Calls Tryd.prog 16 #[.pointer (some ⟨hh, 0, none⟩), .int .i64 ix] w fun e w' => e = .returned (.bool true) ∧ St w' B g hh m (N + 1) (sdrop S ix) K ∧ Kp B K w w' := by
  have hl := h.map.look hix
  have c1 := h.c1
  have hbd := h.bd ix c h0
  rw [h0] at hl
  unfold ctv at hl
  simp only [Option.getD_some, Option.isSome_some] at hl
  rw [ht] at hl
  have hi : (S.f ix).isSome = true := by rw [h0]; rfl
  have hs : sdrop S ix = ⟨fro S.s c.s c.g, upd S.f ix none, S.n - 1⟩ := by unfold sdrop; rw [h0]; exact if_pos ht
  have b1 : Below w.heap.size w (w.alloc (.cells #[.int .u32 c.s, .int .u32 c.g, .int .i64 1] 80)) := (Below.refl _ _).alloc (Nat.le_refl _) _
  have H1 := Lib.hid (h.fresh b1 (Nat.le_refl _) (by simp))
  have n1 : Hid (Has (w.alloc (.cells #[.int .u32 c.s, .int .u32 c.g, .int .i64 1] 80)) w.heap.size 80 #[.int .u32 c.s, .int .u32 c.g, .int .i64 1]) := Lib.hid (heap_alloc_new w _)
  have HK := Lib.hid (h.kp b1)
  have HI := Lib.hid (And.intro hi (And.intro hs hbd))
  clear h h0 b1 hi hs hbd ht
  go_enter Tryd.func16, Tryd.ntmps16
  go_wp2
  clear c1 hl
  generalize w.alloc (.cells #[.int .u32 c.s, .int .u32 c.g, .int .i64 1] 80) = w1 at *
  generalize w.heap.size = p at *
  go_region_held3 (fun w' => w'.cell? ⟨hh, 0, none⟩ = some (.pointer (some ⟨g, 0, none⟩)) ∧ w'.cell? ⟨p, 0, none⟩ = some (.int .u32 c.s) ∧ w'.cell? ⟨p, 1, none⟩ = some (.int .u32 c.g))
    (first | exact ⟨H2.out.1.c0, (H2.out.2.has (by simp) n1.out).cell 0, (H2.out.2.has (by simp) n1.out).cell 1⟩ | exact ⟨H1.out.c0, n1.out.cell 0, n1.out.cell 1⟩)
    (first | (go_at_call 37; refine (free_sc H1.out.drew.sc c.s c.g HI.out.2.2.1 HI.out.2.2.2.1 HI.out.2.2.2.2.1).mono ?_; rintro e w2 ⟨rfl, h2, b2⟩; have H2 := Lib.hid (H1.out.drew.deed h2 b2 (H1.out.tl.fro _ _)); clear h2 b2))
  obtain ⟨w3, hr3, hm3, ht3⟩ : ∃ w3, (∀ ty, (Builtin.delete_ #[68, 3] ty #[.map (some m), .int .i64 ix]).run Tryd.prog w2 = .ok (.tuple #[]) w3) ∧ MapC w3 m (S.n - 1) (upd S.f ix none) ∧ w2.mapTurned w3 m := by
    obtain ⟨w3, hr, h1, h2⟩ := H2.out.1.map.del hix 0
    rw [HI.out.1, if_pos rfl] at h1
    exact ⟨w3, fun ty => hr, h1, h2⟩
  have c1 : w2.cell? ⟨hh, 1, none⟩ = some (.map (some m)) := H2.out.1.c1
  have HR := Lib.hid hr3
  have HE : Hid (St w3 B g hh m (N + 1) (sdrop S ix) K ∧ Kp B K w w3) := Lib.hid (by
    obtain ⟨a1, a2⟩ := H2.out.1.mapd (N' := N + 1) ht3 hm3 (bd_none H2.out.1.bd ix) (by have := H2.out.1.nn; simp at this; omega)
    rw [HI.out.2.1]
    exact ⟨a1.sub fun k hk => by simp [hk], Kp.trans (b := w1.drew) ⟨HK.out.bel.drew, HK.out.blk⟩ (Kp.sub (L := K) (H2.out.2.trans a2) fun k hk => by simp [hk])⟩)
  clear hr3 hm3 ht3 H1 H2 n1 HK
  go_wp2_with (at_delete; refine wpList_del HR.out rfl rfl (by simp [Act.eval]) (by simp [Act.eval]) ?_)
  go_wp2
  go_ret
  exact ⟨rfl, HE.out⟩
/-- Either way. -/
theorem stdrop_any (h : St w B g hh m N S K) (hN : N ≤ 1000) (ix : Int) (hix : I64 ix) :
    Calls Tryd.prog 16 #[.pointer (some ⟨hh, 0, none⟩), .int .i64 ix] w fun e w' => e = .returned (.bool (S.f ix).isSome) ∧ St w' B g hh m (N + 1) (sdrop S ix) K ∧ Kp B K w w' := by
  cases h0 : S.f ix with
  | none => exact (stdrop_no h ix hix h0).mono fun e w' ⟨h1, h2⟩ => ⟨h1, by unfold sdrop; rw [h0]; exact (h.below h2).more (by omega), h.kp h2⟩
  | some c =>
    by_cases ht : c.t = 1
    · exact stdrop_last h hN ix hix c h0 ht
    · exact stdrop_less h hN ix hix c h0 ht
end
end Go.Proofs.YtglhebpblncjaaaDoor
