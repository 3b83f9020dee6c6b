/- Layer 8: Look. -/
import Derived.Test.YtbhjimlikffalaaDoorVaBack
namespace Go.Proofs.YtbhjimlikffalaaDoor
open Go.RowKit
set_option linter.unusedVariables false

attribute [local go_sem] Oper.semAt_some
/-- What a Bind tells of a field. -/
def fieldV (x : Bd) (f : Nm) : Int × Bool := if indexV x.fs f < 0 ∨ (x.vs.length : Int) ≤ indexV x.fs f then (0, false) else (x.vs.getD (indexV x.fs f).toNat 0, true)
/-- What Look tells. -/
def lookV (l : List Bd) (name f : Nm) : Int × Bool := match l.reverse.find? (fun x => x.v == name) with
  | some x => fieldV x f
  | none => (0, false)
theorem look_none {l : List Bd} {name : Nm} (f : Nm) (h : ∀ i (hi : i < l.length), (l[i].v == name) = false) : lookV l name f = (0, false) := by
  have : l.reverse.find? (fun x => x.v == name) = none := by
    rw [List.find?_eq_none]
    intro x hx
    rw [List.mem_reverse] at hx
    obtain ⟨i, hi, rfl⟩ := List.getElem_of_mem hx
    rw [h i hi]; simp
  unfold lookV
  rw [this]
theorem look_at {l : List Bd} {name : Nm} (f : Nm) (k : Nat) (hk : k < l.length) (hm : (l[k].v == name) = true) (h : ∀ i (hi : i < l.length), k < i → (l[i].v == name) = false) : lookV l name f = fieldV l[k] f := by
  have h1 : (l.drop (k + 1)).reverse.find? (fun x => x.v == name) = none := by
    rw [List.find?_eq_none]
    intro x hx
    rw [List.mem_reverse] at hx
    obtain ⟨i, hi, rfl⟩ := List.getElem_of_mem hx
    rw [List.length_drop] at hi
    rw [List.getElem_drop, h (k + 1 + i) (by omega) (by omega)]
    simp
  have h2 : l.reverse.find? (fun x => x.v == name) = some l[k] := by
    have e : l = l.take k ++ l[k] :: l.drop (k + 1) := by rw [← List.drop_eq_getElem_cons hk, List.take_append_drop]
    have e2 : l.reverse = (l.drop (k + 1)).reverse ++ (l[k] :: (l.take k).reverse) := by
      conv => lhs; rw [e]
      simp
    rw [e2, List.find?_append, h1, List.find?_cons_of_pos (by simpa using hm)]
    rfl
  unfold lookV
  rw [h2]
theorem Has.kept {W W' : World} {row : Option Nat} {g : Nat} {t : TypeId} {cs : Array Value} (h : Has W g t cs) (hg : W.grownBy W' row) (hr : ∀ r, row = some r → ∃ o : Obj, W.heap[r]? = some o ∧ o.isCells = false) : Has W' g t cs :=
  (hg.block g h.lt (fun e' => by obtain ⟨o, ho, hc⟩ := hr g e'.symm; rw [show W.heap[g]? = _ from h] at ho; cases ho; cases hc)).trans h
theorem fB_at {l : List Bd} (h : 0 < l.length) {i : Nat} (hi : i < l.length) : fB h (l.length - 1 - i) = ⟨i, hi⟩ := Subtype.ext (by show l.length - 1 - (l.length - 1 - i) = i; omega)
/-- The call's own four boxes: the name, the field, what is told. -/
def Bx4 (w0 : Nat) (name f : Nm) (n : Int) (b : Bool) (W : World) : Prop := ((Boxed W w0 9 (.string (str name)) ∧ Boxed W (w0 + 1) 9 (.string (str f))) ∧ Boxed W (w0 + 2) 2 (.int .i64 n)) ∧ Boxed W (w0 + 3) 4 (.bool b)
theorem Bx4.alloc {w0 : Nat} {name f : Nm} {n : Int} {b : Bool} {W : World} (h : Bx4 w0 name f n b W) (o : Obj) : Bx4 w0 name f n b (W.alloc o) := ⟨⟨⟨h.1.1.1.alloc _, h.1.1.2.alloc _⟩, h.1.2.alloc _⟩, h.2.alloc _⟩
theorem Bx4.kept {w0 : Nat} {name f : Nm} {n : Int} {b : Bool} {W W' : World} {row : Option Nat} (h : Bx4 w0 name f n b W) (hg : W.grownBy W' row) (hr : ∀ r, row = some r → ∃ o : Obj, W.heap[r]? = some o ∧ o.isCells = false) : Bx4 w0 name f n b W' :=
  ⟨⟨⟨Has.kept h.1.1.1 hg hr, Has.kept h.1.1.2 hg hr⟩, Has.kept h.1.2 hg hr⟩, Has.kept h.2 hg hr⟩
theorem Bx4.put {w0 : Nat} {name f : Nm} {n : Int} {b : Bool} {W : World} (h : Bx4 w0 name f n b W) (n' : Int) (b' : Bool) : Bx4 w0 name f n' b' ((W.setCell ⟨w0 + 2, 0, none⟩ (.int .i64 n')).setCell ⟨w0 + 3, 0, none⟩ (.bool b')) :=
  ⟨⟨⟨(h.1.1.1.other (by omega) _).other (by omega) _, (h.1.1.2.other (by omega) _).other (by omega) _⟩, (h.1.2.set _).other (by omega) _⟩, (h.2.other (by omega) _).set _⟩
theorem put_keeps (B w0 : Nat) (W : World) (u v : Value) : KeepsFrom B W ((W.setCell ⟨w0 + 2, 0, none⟩ u).setCell ⟨w0 + 3, 0, none⟩ v) := ((KeepsOthers.setCell _ _ _).trans (KeepsOthers.setCell _ _ _)).from _
theorem put_below {B w0 : Nat} (h : B ≤ w0) {W0 W : World} (hb : Below B W0 W) (u v : Value) : Below B W0 ((W.setCell ⟨w0 + 2, 0, none⟩ u).setCell ⟨w0 + 3, 0, none⟩ v) :=
  (hb.setCell (p := ⟨w0 + 2, 0, none⟩) (by simp; omega) _).setCell (p := ⟨w0 + 3, 0, none⟩) (by simp; omega) _
set_option maxRecDepth 100000 in
set_option maxHeartbeats 4000000 in
theorem look_any (A : Option Addr) (c : Nat) (l : List Bd) (name f : Nm) (w : World) (hl : Bds w A c l) :
    Calls Tryd.prog 32 #[.slice A l.length c, .string (str name), .string (str f)] w fun e W' => e = .returned (two (lookV l name f)) ∧ Below w.heap.size w W' := by
  refine (callsIn_wide (n := 6)).1 ?_
  refine callsIn_of_wp_marks Tryd.func32 rfl trivial ?_ rfl
  simp only [Tryd.ntmps32, List.size_toArray, List.length_cons, List.length_nil, Nat.reduceAdd, Nat.reduceSub, Array.replicate_succ, Array.replicate_zero, List.push_toArray, List.append_toArray, List.nil_append, List.cons_append]
  gi_wp2_with (refine ⟨trivial, ?_⟩; gi_at_call 62; refine (back_in _ _ _ _ _).mono ?_; rintro e w' ⟨rfl, rfl⟩)
  have hlow : ∀ a, 0 < l.length → A = some a → a.block < w.heap.size := by
    intro a h0 ha
    obtain ⟨b, off, e, h1, -, -⟩ := (hl.1 0 l[0] (by simp [h0])).1
    rw [ha] at e
    cases e
    exact World.block_lt_of_cell? _ _ h1
  obtain ⟨W0, hW0⟩ : ∃ W0, ((((w.alloc (.cells #[.string (str name)] 9)).alloc (.cells #[.string (str f)] 9)).alloc (.cells #[.int .i64 0] 2)).alloc (.cells #[.bool false] 4)).alloc (.cells #[.slice A l.length c] 45) = W0 := ⟨_, rfl⟩
  have hsz : W0.heap.size = w.heap.size + 5 := by rw [← hW0]; simp
  have hB0 : Below w.heap.size w W0 := by
    rw [← hW0]
    exact (((((Below.refl _ w).alloc (Nat.le_refl _) _).alloc (by simp) _).alloc (by simp; omega) _).alloc (by simp; omega) _).alloc (by simp; omega) _
  have b4 : Bx4 w.heap.size name f 0 false W0 := by
    have b0 := Boxed.new w 9 (.string (str name))
    have b1 := Boxed.new (w.alloc (.cells #[.string (str name)] 9)) 9 (.string (str f))
    have b2 := Boxed.new ((w.alloc (.cells #[.string (str name)] 9)).alloc (.cells #[.string (str f)] 9)) 2 (.int .i64 0)
    have b3 := Boxed.new (((w.alloc (.cells #[.string (str name)] 9)).alloc (.cells #[.string (str f)] 9)).alloc (.cells #[.int .i64 0] 2)) 4 (.bool false)
    simp only [World.size_alloc, Nat.add_assoc, Nat.reduceAdd] at b1 b2 b3
    rw [← hW0]
    exact ⟨⟨⟨(((b0.alloc _).alloc _).alloc _).alloc _, ((b1.alloc _).alloc _).alloc _⟩, (b2.alloc _).alloc _⟩, b3.alloc _⟩
  have bS : W0.cell? ⟨w.heap.size + 4, 0, none⟩ = some (.slice A l.length c) := by
    have b4 := Boxed.new ((((w.alloc (.cells #[.string (str name)] 9)).alloc (.cells #[.string (str f)] 9)).alloc (.cells #[.int .i64 0] 2)).alloc (.cells #[.bool false] 4)) 45 (.slice A l.length c)
    simp only [World.size_alloc, Nat.add_assoc, Nat.reduceAdd] at b4
    rw [hW0] at b4
    exact b4.cell
  rw [hW0]
  clear hW0
  refine wpIn_rangeFunc_ownH (n := 6) rfl (by omega) (gf := 83) (lb := #[.pointer (some ⟨w.heap.size + 4, 0, none⟩)]) (by simp [go_sem]) trivial (enters_of Tryd.func83 (by kernel_rfl) rfl)
    (back_stops (6 - 1) (by omega) (w.heap.size + 4) W0.heap.size A c l W0 (by omega) (Nat.le_refl _) bS (hl.below hB0) (fun a h0 ha => by have := hlow a h0 ha; omega)) belowK_t (belowK_b (Nat.le_refl _)) (Below.refl _ _) (fun _ => rfl)
    (fun pre W => ((∀ x ∈ pre, (l[x.1].v == name) = false) ∧ Bx4 w.heap.size name f 0 false W) ∧ Below W0.heap.size W0 W)
    (fun cd pre W => ((cd = .ret ∧ ∃ (ini : List (Ix l)) (x : Ix l), pre = ini ++ [x] ∧ (∀ y ∈ ini, (l[y.1].v == name) = false) ∧ (l[x.1].v == name) = true ∧ Bx4 w.heap.size name f (fieldV l[x.1] f).1 (fieldV l[x.1] f).2 W)) ∧ Below w.heap.size w W)
    (OwnFrom.and (OwnFrom.and (ownFrom_pure _ _) (Own.from (fun s X Y row hs hg hr => hs.kept hg hr) _)) (ownFrom_below (Nat.le_refl _) (by omega)))
    (fun cd => OwnFrom.and (Own.from (fun s X Y row hs hg hr => by obtain ⟨h1, ini, x, e1, e2, e3, e4⟩ := hs; exact ⟨h1, ini, x, e1, e2, e3, e4.kept hg hr⟩) _) (ownFrom_below (Nat.le_refl _) (by omega)))
    ⟨⟨by simp, b4⟩, Below.refl _ _⟩
    (fun x a' W => ∃ Bq, w.heap.size + 3 < Bq ∧ Has W Bq 80 #[.string (str l[x.1].v), .slice l[x.1].A l[x.1].fs.length l[x.1].c, .slice l[x.1].B l[x.1].vs.length l[x.1].d] ∧ a' = { tmps := #[.slice A l.length c, .string (str name), .string (str f), undef, .pointer (some ⟨w.heap.size, 0, none⟩), .pointer (some ⟨w.heap.size + 1, 0, none⟩), .pointer (some ⟨w.heap.size + 2, 0, none⟩), .pointer (some ⟨w.heap.size + 3, 0, none⟩), undef, .pointer (some ⟨Bq, 0, none⟩), undef, .slice A l.length c, .func (.func 83) #[] #[.pointer (some ⟨w.heap.size + 4, 0, none⟩)], .int .i64 (x.1 : Int), l[x.1].val, undef, undef, undef, undef, undef, undef, undef, undef, undef, undef, undef, undef, undef, undef, undef, undef, undef, undef, undef, undef, undef, undef], defers := [] })
    (fun x a' _ X Y row hs hg hr => by obtain ⟨Bq, e1, e2, e3⟩ := hs; exact ⟨Bq, e1, e2.kept hg (fun r e => (hr r e).2), e3⟩)
    ?assign ?body ?done ?stop
  case assign =>
    rintro lp pre x W K ⟨⟨hp, b1⟩, hB1⟩ hK
    dsimp only [encB, Bd.val] at hK ⊢
    gi_wp2
    exact hK _ _ ((KeepsOthers.alloc _ _).from _) ((Below.refl _ W).alloc hB1.size _) ⟨⟨hp, b1.alloc _⟩, hB1.alloc hB1.size _⟩ ⟨W.heap.size, by have := hB1.size; omega, heap_alloc_new W _, rfl⟩
  case body =>
    rintro lp pre x a' W hlp ⟨r, hr⟩ ⟨⟨hp, b1⟩, hB1⟩ ⟨Bq, hBq, bq, rfl⟩ hlt
    obtain ⟨y, hy⟩ : ∃ y, l[x.1] = y := ⟨_, rfl⟩
    have hBw := hB0.trans (hB1.mono hB0.size)
    have hin := (hl.below hBw).1 x.1 y (by rw [← hy]; simp)
    obtain ⟨-, hst, hnm⟩ := hin
    obtain ⟨yv, yA, yf, yc, yB, yn, yd⟩ := y
    rw [hy] at bq ⊢
    simp only at hst hnm bq ⊢
    have q0 : W.cell? ⟨Bq, 0, none⟩ = some (.string (str yv)) := bq.cell 0
    have q1 : W.cell? ⟨Bq, 1, none⟩ = some (.slice yA yf.length yc) := bq.cell 1
    have q2 : W.cell? ⟨Bq, 2, none⟩ = some (.slice yB yn.length yd) := bq.cell 2
    have r0 := b1.1.1.1.cell
    have r1 := b1.1.1.2.cell
    have r2 := b1.1.2.frozen
    have r3 := b1.2.frozen
    have r4 := b1.1.2.cell
    have r5 := b1.2.cell
    have s1 := str_toList yv
    have s2 := str_toList name
    cases hm : (yv == name) with
    | false =>
      gi_wp2
      exact ⟨KeepsFrom.refl _ _, Below.refl _ _, ⟨fun z hz => (List.mem_append.1 hz).elim (hp z) (fun e => by simp at e; subst e; rw [hy]; exact hm), b1⟩, hB1⟩
    | true =>
      have hix := index_any yA yc yf f W hst
      obtain ⟨q, hq⟩ : ∃ q, indexV yf f = q := ⟨_, rfl⟩
      rw [hq] at hix
      have HI := Lib.hid hix
      have HFV : Hid (fieldV l[x.1] f = if q < 0 ∨ (yn.length : Int) ≤ q then (0, false) else (yn.getD q.toNat 0, true)) := Lib.hid (by rw [hy, fieldV]; simp only; rw [hq])
      have HM : Hid ((l[x.1].v == name) = true) := Lib.hid (by rw [hy]; exact hm)
      have HB1 := Lib.hid hBw
      have HBX := Lib.hid b1
      have HP := Lib.hid hp
      clear hix hq hy hst hp hB1 hBw b1 hl hlow
      obtain rfl : yv = name := eq_of_beq hm
      by_cases h1 : q < 0
      · gi_wp2_with (refine ⟨trivial, ?_⟩; gi_at_call 63; refine (CallsIn.inRound lp (callsIn_wide.2 HI.out)).mono ?_; rintro e w' ⟨rfl, rfl⟩)
        refine ⟨put_keeps _ _ _ _ _, ⟨rfl, pre, x, rfl, HP.out, HM.out, ?_⟩, put_below (Nat.le_refl _) HB1.out _ _⟩
        rw [HFV.out, if_pos (.inl h1)]
        exact HBX.out.put 0 false
      · obtain ⟨j, rfl⟩ : ∃ j : Nat, q = (j : Int) := ⟨q.toNat, by omega⟩
        by_cases h2 : yn.length ≤ j
        · gi_wp2_with (refine ⟨trivial, ?_⟩; gi_at_call 63; refine (CallsIn.inRound lp (callsIn_wide.2 HI.out)).mono ?_; rintro e w' ⟨rfl, rfl⟩)
          refine ⟨put_keeps _ _ _ _ _, ⟨rfl, pre, x, rfl, HP.out, HM.out, ?_⟩, put_below (Nat.le_refl _) HB1.out _ _⟩
          rw [HFV.out, if_pos (.inr (by omega))]
          exact HBX.out.put 0 false
        · have hj : j < yn.length := by omega
          obtain ⟨b, off, rfl, hcj⟩ := hnm.at_ hj
          have hcap := hnm.cap
          have HN : Hid (yn.getD j 0 = yn[j]) := Lib.hid (by simp [hj])
          obtain ⟨u, hu⟩ : ∃ u, yn[j] = u := ⟨_, rfl⟩
          rw [hu] at hcj HN
          clear hu hnm
          gi_wp2_with (refine ⟨trivial, ?_⟩; gi_at_call 63; refine (CallsIn.inRound lp (callsIn_wide.2 HI.out)).mono ?_; rintro e w' ⟨rfl, rfl⟩)
          refine ⟨put_keeps _ _ _ _ _, ⟨rfl, pre, x, rfl, HP.out, HM.out, ?_⟩, put_below (Nat.le_refl _) HB1.out _ _⟩
          rw [HFV.out, if_neg (by omega), Int.toNat_natCast, HN.out]
          exact HBX.out.put u true
  case done =>
    rintro D ys W hD ⟨hys, hall⟩ ⟨⟨hp, b1⟩, hB1⟩ hK
    have HN : Hid (lookV l name f = (0, false)) := Lib.hid (look_none f fun i hi => by
      have := hp _ (hall (l.length - 1 - i) (by omega) (by omega))
      rw [fB_at _ hi] at this
      exact this)
    have r2 := b1.1.2.frozen
    have r3 := b1.2.frozen
    have r4 := b1.1.2.cell
    have r5 := b1.2.cell
    gi_wp2
    have hK' := ((KeepsOthers.setCell W ⟨w.heap.size + 2, 0, none⟩ (.int .i64 0)).trans (KeepsOthers.setCell _ ⟨w.heap.size + 3, 0, none⟩ (.bool false))).same D _ hK rfl
    refine ⟨by simp, .inl ⟨_, _, rfl, run_takeDeferred hK', ?_⟩⟩
    have b2 := (b1.put 0 false).kept (grownBy_putObj' _ D (.deferred none)) (fun r e => by cases e; exact ⟨_, hK', rfl⟩)
    have hc6 := b2.1.2.cell
    have hc7 := b2.2.cell
    refine ⟨two (0, false), ?_, by rw [HN.out], (put_below (Nat.le_refl _) (hB0.trans (hB1.mono hB0.size)) _ _).trans (belowK_b (w := w) (Nat.le_refl _) _ D _ _ (by omega) hK' rfl rfl)⟩
    simp [results, Tryd.results32, go_sem, hc6, hc7, two]
  case stop =>
    rintro D cd pre W hD ⟨k, hk, hpre⟩ ⟨⟨rfl, ini, x, e1, e2, e3, b1⟩, hB1⟩ hK
    have h0 : 0 < l.length := by have := x.2; omega
    have e4 := hpre h0
    rw [e1] at e4
    obtain ⟨k', rfl⟩ : ∃ k', k = k' + 1 := by
      cases k with
      | zero => simp [upto] at e4
      | succ k' => exact ⟨k', rfl⟩
    rw [upto_succ] at e4
    obtain ⟨rfl, e5⟩ := List.append_inj' e4 rfl
    have hx : x = fB h0 k' := by simpa using e5
    have HN : Hid (lookV l name f = fieldV l[x.1] f) := Lib.hid (look_at f x.1 x.2 e3 fun i hi hgt => by
      have hxi : x.1 = l.length - 1 - k' := by rw [hx]; rfl
      have := e2 _ (upto_mem (f := fB h0) (j := l.length - 1 - i) (by omega))
      rw [fB_at _ hi] at this
      exact this)
    gi_wp2
    refine ⟨by simp, .inl ⟨_, _, rfl, run_takeDeferred hK, ?_⟩⟩
    have b2 := b1.kept (grownBy_putObj' _ D (.deferred none)) (fun r e => by cases e; exact ⟨_, hK, rfl⟩)
    have hc6 := b2.1.2.cell
    have hc7 := b2.2.cell
    refine ⟨two (fieldV l[x.1] f), ?_, by rw [HN.out], hB1.trans (belowK_b (w := w) (Nat.le_refl _) _ D _ _ (by omega) hK rfl rfl)⟩
    simp [results, Tryd.results32, go_sem, hc6, hc7, two]
end Go.Proofs.YtbhjimlikffalaaDoor
