/- ArenaPlays: what the statement owns beside both arenas, ahead of and within a round. -/
import Derived.Test.YtiandhfpdehicaaDoorArDeeds
import Derived.Test.YtiandhfpdehicaaDoorArHs
namespace Go.Proofs.YtiandhfpdehicaaDoor
open Go.RowKit
set_option linter.unusedVariables false

structure Pl (w0 : World) (B g g' : Nat) (k : Nat) (v : Value) (K : List Nat) (s s' : Ar) (hl : List (Int × Int)) (w : World) : Prop where
  tw : Tw w B g g' s s' (v.ownBlock.toList ++ K)
  own : w.ownsRow B 32 2 v hl.length (hcells hl)
  hok : ∀ h ∈ hl, 0 ≤ h.1 ∧ h.1 ≤ 4294967295 ∧ 0 ≤ h.2 ∧ h.2 ≤ 4294967295
  len : hl.length ≤ k
  lo : w0.heap.size ≤ B
  bel : Below w0.heap.size w0 w
  ne : ∀ q ∈ K, v.ownBlock ≠ some q
section
variable {w0 : World} {B g g' k : Nat} {v : Value} {K : List Nat} {s s' s2 s2' : Ar} {hl : List (Int × Int)} {w w' : World}
theorem Pl.deed (h : Pl w0 B g g' k v K s s' hl w) (t : Tw w' B g g' s2 s2' (v.ownBlock.toList ++ K)) (kp : Kp B (v.ownBlock.toList ++ K) w w') : Pl w0 B g g' k v K s2 s2' hl w' :=
  ⟨t, kp.owns h.own (fun q e => by rw [e]; simp), h.hok, h.len, h.lo, h.bel.trans (kp.bel.mono h.lo), h.ne⟩
theorem Pl.below (h : Pl w0 B g g' k v K s s' hl w) (hb : Below w.heap.size w w') : Pl w0 B g g' k v K s s' hl w' :=
  h.deed (h.tw.below hb).1 (h.tw.below hb).2
theorem Pl.vlt (h : Pl w0 B g g' k v K s s' hl w) : ∀ q, v.ownBlock = some q → q < w.heap.size := fun q e => (h.own.lt q e).2
theorem Pl.klt (h : Pl w0 B g g' k v K s s' hl w) : ∀ q ∈ K, q < w.heap.size := fun q hq => by
  obtain ⟨_, _, _, _, a⟩ := h.tw.ar
  exact (a.ks q (by simp [hq])).2.1
theorem Pl.box (h : Pl w0 B g g' k v K s s' hl w) (o : Obj) : Pl w0 B g g' k v (w.heap.size :: K) s s' hl (w.alloc o) := by
  have hb : Below w.heap.size w (w.alloc o) := (Below.refl _ _).alloc (Nat.le_refl _) o
  have t := (h.tw.box o).1
  exact ⟨t.sub (fun q hq => by simp at hq ⊢; rcases hq with e | e | e <;> simp [e]), h.own.alloc o, h.hok, h.len, h.lo, h.bel.trans (hb.mono h.bel.size), fun q hq e => by
    rcases List.mem_cons.1 hq with rfl | hq
    · have := h.vlt _ e; omega
    · exact h.ne q hq e⟩
theorem Pl.drop (h : Pl w0 B g g' k v K s s' hl w) : Pl w0 B g g' k v [] s s' hl w :=
  ⟨h.tw.sub (fun q hq => by simp at hq ⊢; exact .inl hq), h.own, h.hok, h.len, h.lo, h.bel, fun q hq => by cases hq⟩
theorem Pl.later (h : Pl w0 B g g' k v K s s' hl w) : Pl w0 B g g' (k + 1) v K s s' hl w := ⟨h.tw, h.own, h.hok, Nat.le_succ_of_le h.len, h.lo, h.bel, h.ne⟩
theorem Pl.set (h : Pl w0 B g g' k v K s s' hl w) {q : Nat} (hq : q ∈ K) (i : Nat) (u : Value) : Pl w0 B g g' k v K s s' hl (w.setCell ⟨q, i, none⟩ u) := by
  obtain ⟨t, b⟩ := h.tw.turn (w' := w.setCell ⟨q, i, none⟩ u) (o := some q) (fun j e => by cases e; simp [hq]) rfl rfl rfl (by simp [World.setCell]) (fun j _ hj => Below.heap_setCell _ _ _ _ (fun e => hj (by rw [e]))) [] (fun n hn => by cases hn)
  exact ⟨t, owns_keep h.own (fun j e => Below.heap_setCell _ _ _ _ (fun e2 => h.ne q hq (by rw [e, e2]))), h.hok, h.len, h.lo, h.bel.trans (b.mono h.lo), h.ne⟩
theorem ah_ok (t : Tw w B g g' s s' K) (n : Int) : 0 ≤ aslot s n ∧ aslot s n ≤ 4294967295 ∧ 0 ≤ agen s n ∧ agen s n ≤ 4294967295 := by
  obtain ⟨v, v', h1, h2, a⟩ := t.ar
  have hf := fre_le s.l
  have hl := h1.wf.len
  have hb := h1.wf.ok.at_ (fre s.l)
  unfold aslot agen
  split <;> (have := hb.2.2; omega)
/-- One more handle. -/
theorem Pl.app (h : Pl w0 B g g' k v K s s' hl w) (hd : Int × Int) (ho : 0 ≤ hd.1 ∧ hd.1 ≤ 4294967295 ∧ 0 ≤ hd.2 ∧ hd.2 ≤ 4294967295) (hk : hl.length ≤ 5000) :
    ∃ v' w', (Builtin.append_ #[28, 28] 28 #[v, .slice (some ⟨w.heap.size, 0, none⟩) 1 1]).run Tryd.prog (w.alloc (.cells #[.int .u32 hd.1, .int .u32 hd.2] 32)) = .ok v' w' ∧ Pl w0 B g g' (k + 1) v' [] s s' (hl ++ [hd]) w' := by
  obtain ⟨v', w', e, r1, r2, r3, _⟩ := app_hsT (K := K) rfl h.tw h.own hd hk
  refine ⟨v', w', e, ⟨r2.sub (fun q hq => by simp at hq ⊢; exact .inl hq), by simpa using r1, fun x hx => ?_, by have := h.len; simp; omega, h.lo, h.bel.trans (r3.mono h.lo), fun q hq => by cases hq⟩⟩
  rcases List.mem_append.1 hx with hx | hx
  · exact h.hok x hx
  · simp at hx; subst hx; exact ho
end
end Go.Proofs.YtiandhfpdehicaaDoor
