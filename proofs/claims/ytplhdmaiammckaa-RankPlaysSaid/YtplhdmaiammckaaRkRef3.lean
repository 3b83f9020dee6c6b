/- The document's own rank: who is dropped, and who is least. -/
import Derived.Test.YtplhdmaiammckaaRkRef2
namespace Go.Proofs.Ytplhdmaiammckaa
open Go.RowKit
set_option linter.unusedVariables false

/-- What is left without the one at i. -/
def cutAt (l : List Ent) (i : Nat) : List Ent := l.take i ++ l.drop (i + 1)
theorem cutAt_len (l : List Ent) (i : Nat) (hi : i < l.length) : (cutAt l i).length = l.length - 1 := by unfold cutAt; simp; omega
theorem ecells_append (l r : List Ent) : ecells (l ++ r) = ecells l ++ ecells r := by simp [ecells]
theorem ecells_drop (l : List Ent) (n : Nat) : ecells (l.drop n) = (ecells l).drop (n * 2) := by
  induction l generalizing n with
  | nil => simp [ecells]
  | cons b r ih =>
    have e : ∀ s, ecells (b :: s) = .int .i64 b.1 :: .int .i64 b.2 :: ecells s := fun _ => rfl
    cases n with
    | zero => simp
    | succ n => rw [List.drop_succ_cons, ih, e, show (n + 1) * 2 = n * 2 + 1 + 1 by omega, List.drop_succ_cons, List.drop_succ_cons]
theorem ecells_one (l : List Ent) : ∀ u ∈ ecells l, u.oneCell' = true := by
  intro u hu
  simp only [ecells, List.mem_flatMap] at hu
  obtain ⟨b, _, hb⟩ := hu
  simp at hb
  rcases hb with rfl | rfl <;> rfl
/-- The two appends. -/
structure Two (W0 W1 W2 : World) (B h i n c j : Nat) (b : Nat) (ad : Addr) (l : List Ent) (v1 : Value) (A1 : Option Addr) (c1 : Nat) (A2 : Option Addr) (c2 : Nat) (vh : Value) : Prop where
  r1 : (Builtin.append_ #[27, 27] 27 #[.slice none 0 0, .slice (some ⟨b, 0, none⟩) i c]).run Try.prog W0 = .ok (.slice A1 i c1) W1
  r2 : (Builtin.append_ #[27, 27] 27 #[.slice A1 i c1, .slice (some ad) (n - j) (c - j)]).run Try.prog W1 = .ok (.slice A2 (n - 1) c2) W2
  d1 : W1.cell? ⟨h, 0, none⟩ = some vh
  d2 : W2.cell? ⟨h, 0, none⟩ = some vh
  f2 : W2.frozen? ⟨h, 0, none⟩ = false
  fin : Rfto W0 B h vh (cutAt l i) (W2.setCell ⟨h, 0, none⟩ (.slice A2 (n - 1) c2))
theorem two_of {w : World} {B h b c n i j : Nat} {l : List Ent} (r : Rf w B h (.slice (some ⟨b, 0, none⟩) l.length c) l) (hn : l.length = n) (hi : i < n) (hj : i + 1 = j) (ad : Addr) (had : (if c = j then some (⟨b, 0, none⟩ : Addr) else some ⟨b, j * 2, none⟩) = some ad) (hc : n ≤ c) :
    ∃ v1 A1 c1 A2 c2 W1 W2, Two w W1 W2 B h i n c j b ad l v1 A1 c1 A2 c2 (.slice (some ⟨b, 0, none⟩) n c) := by
  obtain ⟨lh, lv⟩ := r.lt
  have lb := lv b rfl
  have hB : B ≤ w.heap.size := by have := r.bh; omega
  have hf := r.few
  have hcell : ∀ q, q < n * 2 → w.cell? ⟨b, q, none⟩ = (ecells l)[q]? := fun q hq => r.row.cellAt q (by rw [hn]; exact hq)
  have hel := ecells_len l
  obtain ⟨v1, W1, r1, o1, g1, s1⟩ := itm_app (World.ownsRow_nil w B 63 2) hB ⟨b, 0, none⟩ i c (ecells (l.take i)) (by rw [ecells_len]; simp; omega) (fun q u hu => by
    have hq : q < i * 2 := by
      rcases Nat.lt_or_ge q (ecells (l.take i)).length with h1 | h1
      · rw [ecells_len] at h1; simp at h1; omega
      · rw [List.getElem?_eq_none h1] at hu; cases hu
    rw [ecells_take, List.getElem?_take, if_pos hq] at hu
    rw [Go.WideShapes.add_plain, Nat.zero_add, hcell q (by omega)]
    exact hu) (ecells_one _) (by omega)
  simp only [Nat.zero_add, List.nil_append] at o1
  have k1 : ∀ q, q < w.heap.size → W1.heap[q]? = w.heap[q]? := fun q hq => g1.block q hq (by simp [Value.ownBlock])
  obtain ⟨A1, c1, rfl, -, -⟩ := own_any o1
  have hz1 := g1.size
  obtain ⟨v2, W2, r2, o2, g2, s2⟩ := itm_app o1 (by omega) ad (n - j) (c - j) (ecells (l.drop j)) (by rw [ecells_len]; simp; omega) (fun q u hu => by
    have hq : q < (n - j) * 2 := by
      rcases Nat.lt_or_ge q (ecells (l.drop j)).length with h1 | h1
      · rw [ecells_len] at h1; simp at h1; omega
      · rw [List.getElem?_eq_none h1] at hu; cases hu
    rw [if_neg (by omega)] at had
    obtain rfl := Option.some.inj had
    rw [ecells_drop, List.getElem?_drop] at hu
    rw [Go.WideShapes.add_plain, World.cell?_of_block (k1 b lb), hcell _ (by omega)]
    exact hu) (ecells_one _) (by omega)
  rw [← ecells_append, show i + (n - j) = n - 1 by omega] at o2
  obtain ⟨A2, c2, rfl, -, -⟩ := own_any o2
  have n1 : ∀ q, q < w.heap.size → (Value.slice A1 i c1).ownBlock ≠ some q := fun q hq e => by
    rcases s1 with h1 | h1
    · rw [h1] at e; cases e
    · have := Option.some.inj (h1.symm.trans e); omega
  have k2 : ∀ q, q < w.heap.size → W2.heap[q]? = w.heap[q]? := fun q hq => (g2.block q (by omega) (fun e => n1 q hq e.symm)).trans (k1 q hq)
  have hz2 := g2.size
  have n2 : ∀ q, q < w.heap.size → (Value.slice A2 (n - 1) c2).ownBlock ≠ some q := fun q hq e => by
    rcases s2 with h1 | h1
    · exact n1 q hq (h1.symm.trans e)
    · have := Option.some.inj (h1.symm.trans e); omega
  have hw : ∀ q, q ≠ h → (W2.setCell ⟨h, 0, none⟩ (.slice A2 (n - 1) c2)).heap[q]? = W2.heap[q]? := fun q hq => Below.heap_setCell _ _ _ _ hq
  have hblk := r.blk
  rw [hn] at hblk
  have b2 : Has W2 h 29 #[.slice (some ⟨b, 0, none⟩) n c] := (k2 h lh).trans hblk
  have b1 : Has W1 h 29 #[.slice (some ⟨b, 0, none⟩) n c] := (k1 h lh).trans hblk
  have hlen : (cutAt l i).length = n - 1 := by rw [cutAt_len l i (by omega), hn]
  refine ⟨.slice none 0 0, A1, c1, A2, c2, W1, W2, r1, r2, b1.cell 0, b2.cell 0, b2.free 0, .slice A2 (n - 1) c2, ⟨?_, ?_, r.bh, n2 h lh, by rw [hlen]; omega⟩, ⟨?_, ?_, ?_, ?_, ?_⟩, ?_⟩
  · have := b2.put 0 (.slice A2 (n - 1) c2)
    simpa using this
  · rw [hlen]
    have he : cutAt l i = l.take i ++ l.drop j := by unfold cutAt; rw [hj]
    rw [he]
    exact row_keep o2 fun q e => hw q fun e1 => n2 h lh (by rw [e, e1])
  · exact g2.os.trans g1.os
  · exact g2.tape.trans g1.tape
  · exact g2.output.trans g1.output
  · simp [World.setCell]; omega
  · exact fun q hq h1 h2 => (hw q h1).trans (k2 q hq)
  · cases hA : (Value.slice A2 (n - 1) c2).ownBlock with
    | none => exact .inl rfl
    | some q => exact .inr (.inr ⟨q, rfl, Nat.le_of_not_lt fun hq => n2 q hq hA⟩)
set_option maxHeartbeats 800000 in
theorem drop18_yes {w : World} {B h : Nat} {v : Value} {l : List Ent} (r : Rf w B h v l) (k : Int) (i : Nat) (hi : i < l.length) (he : (ent l i).1 = k) (hone : ∀ j, j < i → (ent l j).1 ≠ k) :
    Calls Try.prog 13 #[.pointer (some ⟨h, 0, none⟩), .int .i64 k] w fun e w' => e = .returned (.bool true) ∧ Rfto w B h v (cutAt l i) w' := by
  have HF := Lib.hid (find_yes r k i hi he hone)
  obtain ⟨b, c, rfl, hc1, hc2, hbh, hBb⟩ := r.shape (by omega)
  have c0 : w.cell? ⟨h, 0, none⟩ = some (.slice (some ⟨b, 0, none⟩) l.length c) := r.blk.cell 0
  have hf := r.few
  obtain ⟨j, hj⟩ : ∃ j, i + 1 = j := ⟨_, rfl⟩
  obtain ⟨ad, had⟩ : ∃ ad : Addr, (if c = j then some (⟨b, 0, none⟩ : Addr) else some ⟨b, j * 2, none⟩) = some ad := by split <;> exact ⟨_, rfl⟩
  have hr2 : Rf w.drew B h (.slice (some ⟨b, 0, none⟩) l.length c) l := r.below (Below.refl _ _).drew
  obtain ⟨n, hn⟩ : ∃ n, l.length = n := ⟨_, rfl⟩
  obtain ⟨v1, A1, c1, A2, c2, W1, W2, T⟩ := two_of hr2 hn (by omega) hj ad had (by omega)
  rw [hn] at c0 hc1 hi hf ⊢
  have w1 : IntKind.i64.wrap ((i : Int) + 1) = (j : Int) := by rw [IntWalk.i64_in _ (by omega)]; omega
  have w2 : (i : Int) + 1 = (j : Int) := by omega
  have w3 : IntKind.i64.wrap (j : Int) = (j : Int) := IntWalk.i64_in _ (by omega)
  have hjn : j ≤ n := by omega
  have hic : i ≤ c := by omega
  have hjI : (j : Int) ≤ n := by omega
  have hfin : Rfto w B h (.slice (some ⟨b, 0, none⟩) n c) (cutAt l i) (W2.setCell ⟨h, 0, none⟩ (.slice A2 (n - 1) c2)) := by
    obtain ⟨v', a1, a2, a3⟩ := T.fin
    exact ⟨v', a1, ⟨a2.os, a2.tape, a2.output, a2.size, a2.block⟩, a3⟩
  have d1 := T.d1
  have d2 := T.d2
  have f2 := T.f2
  have R1 := Lib.hid T.r1
  have R2 := Lib.hid T.r2
  have HFIN := Lib.hid hfin
  clear r he hone hr2 T hfin hj hn
  go_enter Try.func13, Try.ntmps13
  go_wp2_with fail
  refine HF.out.mono ?_
  rintro e w' ⟨rfl, rfl⟩
  go_wp2_with fail
  go_region_law (first
      | (refine step_app (R := fun x y => .slice A1 i c1 = x ∧ W1 = y) ⟨_, _, R1.out, rfl, rfl⟩ rfl rfl rfl ?_ ?_ ?_; (· (simp [Act.eval]; done)); (· (simp [Act.eval, Act.put]; done)); rintro _ _ ⟨rfl, rfl⟩)
      | (refine step_app (R := fun x y => .slice A2 (n - 1) c2 = x ∧ W2 = y) ⟨_, _, R2.out, rfl, rfl⟩ rfl rfl rfl ?_ ?_ ?_; (· (simp [Act.eval, Act.put]; done)); (· (simp [Act.eval, Act.put]; done)); rintro _ _ ⟨rfl, rfl⟩))
  all_goals
    go_wp2
    go_ret
    exact ⟨rfl, HFIN.out⟩
theorem least18_none {w : World} {B h : Nat} {v : Value} (r : Rf w B h v []) :
    Calls Try.prog 15 #[.pointer (some ⟨h, 0, none⟩)] w fun e w' => e = .returned (.tuple #[.int .i64 0, .int .i64 0, .bool false]) ∧ w' = w := by
  obtain ⟨A, c, rfl, hc1, hc2⟩ := own_any r.row
  have c0 : w.cell? ⟨h, 0, none⟩ = some (.slice A 0 c) := r.blk.cell 0
  clear r
  go_enter Try.func15, Try.ntmps15
  go_wp2
  go_ret3
  exact ⟨rfl, rfl⟩
/-- The best of the first j. -/
def BestL (l : List Ent) (j : Nat) (p : Ent) : Prop := (∃ i, i < j ∧ ent l i = p) ∧ ∀ i, i < j → Le p (ent l i)
theorem BestL.take {l : List Ent} {j : Nat} {p : Ent} (h : BestL l j p) (hlt : ltB (ent l j) p = true) : BestL l (j + 1) (ent l j) :=
  ⟨⟨j, by omega, rfl⟩, fun i hi => by
    by_cases e : i = j
    · rw [e]; exact .refl _
    · exact (ltB_true hlt).1.trans (h.2 i (by omega))⟩
theorem BestL.keep {l : List Ent} {j : Nat} {p : Ent} (h : BestL l j p) (hlt : ltB (ent l j) p = false) : BestL l (j + 1) p := by
  obtain ⟨⟨i, h1, h2⟩, h3⟩ := h
  exact ⟨⟨i, by omega, h2⟩, fun k hk => by
    by_cases e : k = j
    · rw [e]; exact ltB_false hlt
    · exact h3 k (by omega)⟩
set_option maxHeartbeats 4000000 in
theorem least18_some {w : World} {B h : Nat} {v : Value} {l : List Ent} (r : Rf w B h v l) (hl : 0 < l.length) :
    Calls Try.prog 15 #[.pointer (some ⟨h, 0, none⟩)] w fun e w' => ∃ p, BestL l l.length p ∧ e = .returned (.tuple #[.int .i64 p.1, .int .i64 p.2, .bool true]) ∧ Below w.heap.size w w' := by
  obtain ⟨b, c, rfl, hc1, hc2, hbh, hBb⟩ := r.shape hl
  have hf := r.few
  obtain ⟨n, hn⟩ : ∃ n, l.length = n := ⟨_, rfl⟩
  have c0 : w.cell? ⟨h, 0, none⟩ = some (.slice (some ⟨b, 0, none⟩) l.length c) := r.blk.cell 0
  obtain ⟨p0, p1⟩ := r.cells 0 hl
  have HR := Lib.hid r
  have HN := Lib.hid hn
  rw [hn] at c0 hc1 hf hl
  clear r hn
  have hb0 : BestL l 1 ((ent l 0).1, (ent l 0).2) := ⟨⟨0, by omega, rfl⟩, fun i hi => by rw [show i = 0 by omega]; exact .refl _⟩
  generalize (ent l 0).1 = x0 at *
  generalize (ent l 0).2 = y0 at *
  have HB0 := Lib.hid hb0
  clear hb0
  have hz : ((n : Int) == 0) = false := by simp; omega
  go_enter Try.func15, Try.ntmps15
  have HA : Hid (Has (w.alloc (.cells #[.int .i64 x0, .int .i64 y0] 63)) w.heap.size 63 #[.int .i64 x0, .int .i64 y0]) := Lib.hid (heap_alloc_new w _)
  have BA : Hid (Below w.heap.size w (w.alloc (.cells #[.int .i64 x0, .int .i64 y0] 63))) := Lib.hid ((Below.refl _ _).alloc (Nat.le_refl _) _)
  go_wp2
  clear c0 p0 p1
  generalize w.alloc (.cells #[.int .i64 x0, .int .i64 y0] 63) = w1 at *
  go_loopw [6] (fun iv wr => ∃ (j : Nat) (p : Ent), 1 ≤ j ∧ j ≤ n ∧ iv = .int .i64 j ∧ Has wr w.heap.size 63 #[.int .i64 p.1, .int .i64 p.2] ∧ BestL l j p ∧ Below w.heap.size w wr) (fun iv _ => n - (intOf iv).toNat)
  case atStart => exact ⟨1, (x0, y0), Nat.le_refl _, hl, rfl, HA.out, HB0.out, BA.out⟩
  case round =>
    obtain ⟨j, p, hj1, hjn, rfl, hp, hbst, hbel⟩ := hrel
    have HP := Lib.hid hp
    have HBS := Lib.hid hbst
    have HBL := Lib.hid hbel
    have hr := HR.out.below hbel
    have c0 : wr.cell? ⟨h, 0, none⟩ = some (.slice (some ⟨b, 0, none⟩) n c) := by rw [← HN.out]; exact hr.blk.cell 0
    have q0 : wr.cell? ⟨w.heap.size, 0, none⟩ = some (.int .i64 p.1) := hp.cell 0
    have q1 : wr.cell? ⟨w.heap.size, 1, none⟩ = some (.int .i64 p.2) := hp.cell 1
    have g0 := hp.free 0
    have g1 := hp.free 1
    by_cases hlt : j < n
    · obtain ⟨p0, p1⟩ := hr.cells j (by rw [HN.out]; exact hlt)
      obtain ⟨t, ht⟩ : ∃ t, ltB (ent l j) p = t := ⟨_, rfl⟩
      have cb : ∀ w, Calls Try.prog 22 #[.int .i64 (ent l j).2, .int .i64 p.2, .int .i64 (ent l j).1, .int .i64 p.1] w fun e w' => e = .returned (.bool t) ∧ w' = w := fun w => by
        have := before18 (ent l j).2 p.2 (ent l j).1 p.1 w
        rw [← ht]; exact this
      have HT := Lib.hid ht
      have CB := Lib.hid cb
      have HE0 : Hid (ent l j = ((ent l j).1, (ent l j).2)) := Lib.hid rfl
      clear cb ht hp hbst hbel hr
      generalize hx : (ent l j).1 = x at *
      generalize hy : (ent l j).2 = y at *
      have HXY := Lib.hid (And.intro hx hy)
      clear hx hy
      obtain ⟨pa, pb⟩ := p
      simp only at q0 q1 CB
      cases t with
      | true =>
        go_wp2_with fail
        go_quiet ((go_at_call 22; exact Calls.quiet_of_same (CB.out _)))
        go_wp2_with fail
        go_roundw
        case rel => exact ⟨j + 1, ent l j, by omega, by omega, by go_num, by
          have h1 := (((show Has (wr.drewN nq) w.heap.size _ _ from HP.out).put 0 (.int .i64 x)).put 1 (.int .i64 y))
          rw [HXY.out.1, HXY.out.2]
          simpa using h1, HBS.out.take HT.out, ((below_drewN HBL.out _).setCell (p := ⟨w.heap.size, 0, none⟩) (Nat.le_refl _) _).setCell (p := ⟨w.heap.size, 1, none⟩) (Nat.le_refl _) _⟩
        case measure => simp [intOf]; omega
      | false =>
        go_wp2_with fail
        go_quiet ((go_at_call 22; exact Calls.quiet_of_same (CB.out _)))
        go_wp2_with fail
        go_roundw
        case rel => exact ⟨j + 1, (pa, pb), by omega, by omega, by go_num, HP.out, HBS.out.keep HT.out, below_drewN HBL.out _⟩
        case measure => simp [intOf]; omega
    · obtain rfl : j = n := by omega
      clear hp hbst hbel hr
      go_wp2_with fail
      go_region
      go_wp2
      go_ret3
      exact ⟨p, by rw [HN.out]; exact HBS.out, rfl, HBL.out.drew⟩
end Go.Proofs.Ytplhdmaiammckaa
