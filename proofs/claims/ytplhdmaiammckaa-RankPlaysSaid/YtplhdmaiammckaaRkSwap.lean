/- Two entries of a rank change places. -/
import Derived.Test.YtplhdmaiammckaaRkCon
namespace Go.Proofs.Ytplhdmaiammckaa
open Go.RowKit
set_option linter.unusedVariables false

theorem under_mii : Try.prog.underlying 50 = some (.map 3 3) := Try.underlying50
/-- Between: the entries have changed places, the map has not. -/
structure Md (w w' : World) (B g m b c n : Nat) (l : List Ent) (f : Int → Option Int) : Prop where
  blk : Has w' g 55 #[.slice (some ⟨b, 0, none⟩) n c, .map (some m)]
  row : w'.ownsRow B 60 2 (.slice (some ⟨b, 0, none⟩) n c) n (ecells l)
  map : MapI w' m n f
  fr : Fq g m (some b) w w'
theorem Md.drew {w w' : World} {B g m b c n : Nat} {l : List Ent} {f : Int → Option Int} (h : Md w w' B g m b c n l f) : Md w w'.drew B g m b c n l f :=
  ⟨h.blk, row_keep h.row fun _ _ => rfl, h.map.keep rfl, ⟨h.fr.os, h.fr.tape, h.fr.output, h.fr.size, h.fr.block⟩⟩
theorem Md.turn {w w' w2 : World} {B g m b c n : Nat} {l : List Ent} {f f' : Int → Option Int} (h : Md w w' B g m b c n l f) (ht : w'.mapTurned w2 m) (hm : MapI w2 m n f') (hbm : b ≠ m) (hgm : g ≠ m) : Md w w2 B g m b c n l f' := by
  obtain ⟨h1, h2⟩ := turned_block ht
  obtain ⟨es, clock, es', clock', hb, rfl⟩ := ht
  exact ⟨(h2 g hgm).trans h.blk, row_keep h.row fun k e => h2 k (by obtain rfl : b = k := Option.some.inj e; exact hbm), hm, ⟨h.fr.os, h.fr.tape, h.fr.output, Nat.le_trans h.fr.size (by omega), fun k hk e1 e2 e3 => (h2 k e2).trans (h.fr.block k hk e1 e2 e3)⟩⟩
theorem Md.cells {w w' : World} {B g m b c n : Nat} {l : List Ent} {f : Int → Option Int} (h : Md w w' B g m b c n l f) (hl : l.length = n) (i : Nat) (hi : i < n) :
    w'.cell? ⟨b, i * 2, none⟩ = some (.int .i64 (ent l i).1) := by
  obtain ⟨g1, g2⟩ := ecells_get l i (by omega)
  have := ecells_len l
  exact (h.row.cellAt _ (by omega)).trans g1
/-- Where the ids stand when two have changed places. -/
theorem Pl.swp {l : List Ent} {f : Int → Option Int} (h : Pl l f) {i j : Nat} (hi : i < l.length) (hj : j < l.length) (hij : i ≠ j) : Pl (swp l i j) (upd (upd f (ent l j).1 (some (i : Int))) (ent l i).1 (some (j : Int))) := by
  have inj : ∀ a b, a < l.length → b < l.length → (ent l a).1 = (ent l b).1 → a = b := fun a b ha hb e => by
    have h1 := h.1 a ha
    have h2 := h.1 b hb
    rw [e, h2] at h1
    have := Option.some.inj h1
    omega
  refine ⟨fun k hk => ?_, fun k hk => ?_⟩
  · rw [swp_length] at hk
    rw [ent_swp l i j k hi hj]
    by_cases e : k = j
    · rw [if_pos e, e, upd_same]
    · rw [if_neg e]
      by_cases e2 : k = i
      · rw [if_pos e2, upd_other _ _ _ _ (fun e3 => hij (inj j i hj hi e3).symm), upd_same, e2]
      · rw [if_neg e2, upd_other _ _ _ _ (fun e3 => e2 (inj k i hk hi e3)), upd_other _ _ _ _ (fun e3 => e (inj k j hk hj e3))]
        exact h.1 k hk
  · have h1 : (ent l i).1 ≠ k := fun e => hk j (by rw [swp_length]; exact hj) (by rw [ent_swp l i j j hi hj, if_pos rfl]; exact e)
    have h2 : (ent l j).1 ≠ k := fun e => hk i (by rw [swp_length]; exact hi) (by rw [ent_swp l i j i hi hj, if_neg hij, if_pos rfl]; exact e)
    rw [upd_other _ _ _ _ (Ne.symm h1), upd_other _ _ _ _ (Ne.symm h2)]
    refine h.2 k fun a ha e => ?_
    by_cases ea : a = i
    · exact h1 (by rw [← ea]; exact e)
    · by_cases eb : a = j
      · exact h2 (by rw [← eb]; exact e)
      · exact hk a (by rw [swp_length]; exact ha) (by rw [ent_swp l i j a hi hj, if_neg eb, if_neg ea]; exact e)
theorem grown_fq {w w1 w2 : World} {g m b : Nat} (h : Fq g m (some b) w w1) (k : w1.grownBy w2 (some b)) : Fq g m (some b) w w2 :=
  ⟨k.os.trans h.os, k.tape.trans h.tape, k.output.trans h.output, Nat.le_trans h.size k.size, fun j hj h1 h2 h3 => (k.block j (Nat.lt_of_lt_of_le hj h.size) (fun e => h3 e.symm)).trans (h.block j hj h1 h2 h3)⟩
/-- The four stores. -/
theorem Ok.md {w : World} {B g m b c : Nat} {l : List Ent} (h : Ok w B g m (.slice (some ⟨b, 0, none⟩) l.length c) l) (hbg : b ≠ g) (hbm : b ≠ m) (i j : Nat) {f : Int → Option Int} (hf : MapI w m l.length f) :
    Md w ((((w.setCell ⟨b, i * 2, none⟩ (.int .i64 (ent l j).1)).setCell ⟨b, i * 2 + 1, none⟩ (.int .i64 (ent l j).2)).setCell ⟨b, j * 2, none⟩ (.int .i64 (ent l i).1)).setCell ⟨b, j * 2 + 1, none⟩ (.int .i64 (ent l i).2)) B g m b c l.length (swp l i j) f := by
  have r1 := h.row.stored (i * 2) (.int .i64 (ent l j).1)
  have r2 := r1.1.stored (i * 2 + 1) (.int .i64 (ent l j).2)
  have r3 := r2.1.stored (j * 2) (.int .i64 (ent l i).1)
  have r4 := r3.1.stored (j * 2 + 1) (.int .i64 (ent l i).2)
  have fr := grown_fq (grown_fq (grown_fq (grown_fq (Fq.refl g m (some b) w) r1.2) r2.2) r3.2) r4.2
  have hs : ecells (swp l i j) = ((((ecells l).set (i * 2) (.int .i64 (ent l j).1)).set (i * 2 + 1) (.int .i64 (ent l j).2)).set (j * 2) (.int .i64 (ent l i).1)).set (j * 2 + 1) (.int .i64 (ent l i).2) := by
    unfold Go.Proofs.Ytplhdmaiammckaa.swp
    rw [ecells_set, ecells_set]
  have keep : ∀ k, k ≠ b → ((((w.setCell ⟨b, i * 2, none⟩ (.int .i64 (ent l j).1)).setCell ⟨b, i * 2 + 1, none⟩ (.int .i64 (ent l j).2)).setCell ⟨b, j * 2, none⟩ (.int .i64 (ent l i).1)).setCell ⟨b, j * 2 + 1, none⟩ (.int .i64 (ent l i).2)).heap[k]? = w.heap[k]? := fun k hk => by
    rw [Below.heap_setCell _ _ _ _ hk, Below.heap_setCell _ _ _ _ hk, Below.heap_setCell _ _ _ _ hk, Below.heap_setCell _ _ _ _ hk]
  exact ⟨(keep g (Ne.symm hbg)).trans h.blk, by rw [hs]; exact r4.1, hf.keep (keep m (Ne.symm hbm)), fr⟩
set_option maxHeartbeats 1000000 in
theorem swap_any {w : World} {B g m : Nat} {v : Value} {l : List Ent} (h : Ok w B g m v l) (i j : Nat) (hi : i < l.length) (hj : j < l.length) (hij : i ≠ j) :
    Calls Try.prog 52 #[.pointer (some ⟨g, 0, none⟩), .int .i64 i, .int .i64 j] w fun e w' => e = .returned (.tuple #[]) ∧ Ok w' B g m v (swp l i j) ∧ Fq g m v.ownBlock w w' := by
  obtain ⟨b, c, rfl, hc1, hc2, hbg, hbm, -⟩ := h.shape (by omega)
  have c0 : w.cell? ⟨g, 0, none⟩ = some (.slice (some ⟨b, 0, none⟩) l.length c) := h.blk.cell 0
  obtain ⟨p0, p1⟩ := h.cells i hi
  obtain ⟨q0, q1⟩ := h.cells j hj
  have f0 := h.row.frozenAt (i * 2)
  have f1 := h.row.frozenAt (i * 2 + 1)
  have f2 := h.row.frozenAt (j * 2)
  have f3 := h.row.frozenAt (j * 2 + 1)
  have hf := h.few
  obtain ⟨f, hm, hp⟩ := h.map
  have hp2 := hp.swp hi hj hij
  have e0 : ent (swp l i j) i = ent l j := by rw [ent_swp l i j i hi hj, if_neg hij, if_pos rfl]
  have e1 : ent (swp l i j) j = ent l i := by rw [ent_swp l i j j hi hj, if_pos rfl]
  have s1 : (f (ent l j).1).isSome = true := by rw [hp.1 j hj]; rfl
  have s2 : (upd f (ent l j).1 (some (i : Int)) (ent l i).1).isSome = true := by
    by_cases e : (ent l i).1 = (ent l j).1
    · rw [e, upd_same]; rfl
    · rw [upd_other _ _ _ _ e, hp.1 i hi]; rfl
  obtain ⟨ix, is⟩ := h.ids i hi
  obtain ⟨iy, it⟩ := h.ids j hj
  have H := Lib.hid h
  have HM := Lib.hid ((h.md hbg hbm i j hm).drew)
  have HP2 := Lib.hid hp2
  have HS := Lib.hid (And.intro s1 s2)
  have HE := Lib.hid (And.intro e0 e1)
  clear h hm hp hp2 s1 s2 e0 e1
  generalize hx : (ent l i).1 = x at *
  generalize hs : (ent l i).2 = s at *
  generalize hy : (ent l j).1 = y at *
  generalize ht : (ent l j).2 = t at *
  have HX := Lib.hid hx
  have HY := Lib.hid hy
  clear hx hy hs ht
  go_enter Try.func52, Try.ntmps52
  go_wp2
  go_region
  clear c0 p0 p1 q0 q1 f0 f1 f2 f3
  generalize ((((w.setCell ⟨b, i * 2, none⟩ (.int .i64 y)).setCell ⟨b, i * 2 + 1, none⟩ (.int .i64 t)).setCell ⟨b, j * 2, none⟩ (.int .i64 x)).setCell ⟨b, j * 2 + 1, none⟩ (.int .i64 s)).drew = w1 at *
  have c0 : w1.cell? ⟨g, 0, none⟩ = some (.slice (some ⟨b, 0, none⟩) l.length c) := HM.out.blk.cell 0
  have c1 : w1.cell? ⟨g, 1, none⟩ = some (.map (some m)) := HM.out.blk.cell 1
  have p0 := HM.out.cells (swp_length l i j) i hi
  rw [HE.out.1, HY.out] at p0
  obtain ⟨w2, hr, hm2, ht2⟩ := HM.out.drew.map.put (k := y) (v := (i : Int)) iy (by unfold I64; omega) (by omega) _ under_mii
  rw [HS.out.1, if_pos rfl] at hm2
  have HM2 := Lib.hid (HM.out.drew.turn ht2 hm2 hbm H.out.gm)
  clear hm2 ht2
  go_wp2
  go_region
  clear c0 c1 p0 hr HM
  have c0 : w2.cell? ⟨g, 0, none⟩ = some (.slice (some ⟨b, 0, none⟩) l.length c) := HM2.out.blk.cell 0
  have c1 : w2.cell? ⟨g, 1, none⟩ = some (.map (some m)) := HM2.out.blk.cell 1
  have q0 := HM2.out.cells (swp_length l i j) j hj
  rw [HE.out.2, HX.out] at q0
  obtain ⟨w3, hr, hm3, ht3⟩ := HM2.out.drew.map.put (k := x) (v := (j : Int)) ix (by unfold I64; omega) (by omega) _ under_mii
  rw [HS.out.2, if_pos rfl] at hm3
  have HM3 := Lib.hid (HM2.out.drew.turn ht3 hm3 hbm H.out.gm)
  clear hm3 ht3 HM2
  go_wp2
  go_region
  go_end0
  have M := HM3.out
  refine ⟨rfl, ⟨M.blk, by rw [swp_length]; exact M.row, ⟨_, by rw [swp_length]; exact M.map, HP2.out⟩, H.out.bg, H.out.bm, H.out.gm, H.out.vg, H.out.vm, fun k hk => ?_, by rw [swp_length]; exact hf⟩, M.fr⟩
  rw [swp_length] at hk
  rw [ent_swp l i j k hi hj]
  split
  · exact H.out.ids i hi
  · split
    · exact H.out.ids j hj
    · exact H.out.ids k hk
end Go.Proofs.Ytplhdmaiammckaa
