/- slices.Grow of none, slices.Concat, for intervals. -/
import Derived.Test.YtadgplpbkephiaaSpDef
import Derived.Lib.AppendZerosOnto
namespace Go.Proofs.Ytadgplpbkephiaa
open Go.RowKit
set_option linter.unusedVariables false

/-- append(none, make(.., n)...): a new row, all of it to be written. -/
theorem run_grow (w : World) (n : Nat) (h0 : 0 < n) (hn : n ≤ 100000) {base : Nat} (hb : base ≤ w.heap.size) :
    ∃ C w', (Builtin.append_ #[22, 3] 22 #[.slice none 0 0, .int .i64 n]).run Try.prog w = .ok (.slice (some ⟨w.heap.size, 0, none⟩) n C) w' ∧ n ≤ C ∧ Ow w' base (.slice (some ⟨w.heap.size, 0, none⟩) 0 C) [] ∧ Below w.heap.size w w' := by
  obtain ⟨i0, hi, hz0, hz1, hz2⟩ := info_parts info_sp
  have hf : Builtin.nextslicecap (0 + n) 0 * i0.bytes ≤ 281474976710656 := growslice_fits (by omega) (by rw [hz2]; omega)
  have h := Lib.run_append_grow_zeros (P := Try.prog) w 22 3 22 43 i0 (.agg #[.int .i64 0, .int .i64 0]) .i64 .i64 Try.underlying22 Try.underlying3 hi hz0 none 0 0 [] (run_firstCells_none w.drew i0.size 0 0 0) n h0 (by omega) (by omega) (by omega) (by rw [hz2]; omega) hf
  simp only [Nat.zero_add] at h
  have hge := grownCap_ge w n 0 43
  have hle := grownCap_le_maxLen w n 0 43 (by unfold maxLen; omega)
  refine ⟨_, _, h, hge, ?_, ((Below.refl _ _).drew).alloc (Nat.le_refl _) _⟩
  have hm := World.ownsRow_made (e := 43) (size := 2) (base := base) w.drew (([] : List Value).toArray ++ Builtin.zeroCells (Value.agg #[Value.int IntKind.i64 0, Value.int IntKind.i64 0]).cells n ++ Builtin.zeroCells (Value.agg #[Value.int IntKind.i64 0, Value.int IntKind.i64 0]).cells (grownCap w n 0 43 - n)) (grownCap w n 0 43) hb hle (by
    simp only [Array.size_append, List.size_toArray, size_zeroCells]
    rw [show (Value.agg #[Value.int IntKind.i64 0, Value.int IntKind.i64 0]).cells.size = 2 from rfl]
    simp
    omega)
  exact hm
theorem wpList_app2 {P : Program} {w w' : World} {ops : Array Oper} {rest : List Oper} {o : Oper} {a : Act} {Q : Exit → Act → World → Prop} {s x : Operand} {t tn : TypeId} {v v' y : Value}
    (hrun : (Builtin.append_ #[t, tn] t #[v, y]).run P w = .ok v' w') (hgd : o.guard = none) (hty : o.type = t)
    (ho : o.op = .call { callee := .builtin .append, args := #[s, x], argTypes := #[t, tn] }) (hs : a.eval s = v) (hx : a.eval x = y)
    (h : wpList P ops Q rest (a.put o.dst v') w') : wpList P ops Q (o :: rest) a w := by
  refine wpList_plain hgd fun K hK => ?_
  subst hty
  unfold Oper.wp execOp
  simp only [ho, resolve, invoke, builtin, Sem.run_bind, Sem.run_pure, Result.andThen_ok, List.map_toArray, List.map_cons, List.map_nil, hs, hx, hrun]
  exact hK _ _ h
set_option maxHeartbeats 1000000 in
theorem grow_nil (w : World) (n : Nat) (h0 : 0 < n) (hn : n ≤ 100000) {base : Nat} (hb : base ≤ w.heap.size) :
    Calls Try.prog 31 #[.slice none 0 0, .int .i64 n] w fun e w' => ∃ v, e = .returned v ∧ Ow w' base v [] ∧ Below w.heap.size w w' := by
  obtain ⟨C, w', hr, hC, ho, hbel⟩ := run_grow w n h0 hn hb
  have HR := Lib.hid hr
  have HE := Lib.hid (And.intro ho hbel)
  have h1 : ¬ (n : Int) < 0 := by omega
  have h2 : IntKind.i64.wrap (n : Int) = (n : Int) := IntWalk.i64_in _ (by omega)
  have h3 : (0 : Int) < n := by omega
  clear hr ho hbel
  go_enter Try.func31, Try.ntmps31
  go_wp2_with (at_builtin; refine wpList_app2 HR.out rfl rfl rfl rfl rfl ?_)
  go_ret
  exact ⟨_, rfl, HE.out.1, HE.out.2⟩
theorem cat_mono {cat : Nat → List Sp} {k : Nat} (h : ∀ j, j < k → ∃ T, cat (j + 1) = cat j ++ T) : ∀ d j, j + d = k → (cat j).length ≤ (cat k).length
  | 0, j, e => by rw [show j = k by omega]; exact Nat.le_refl _
  | d + 1, j, e => by
    have h1 := cat_mono h d (j + 1) (by omega)
    obtain ⟨T, hT⟩ := h j (by omega)
    rw [hT, List.length_append] at h1
    omega
set_option maxHeartbeats 1000000 in
theorem concat_any {w : World} {g k : Nat} {cat : Nat → List Sp} (h0 : cat 0 = []) (hk : k ≤ 100) (hpos : 0 < (cat k).length) (hle : (cat k).length ≤ 1000)
    (h : ∀ j, j < k → ∃ A m c T, w.cell? ⟨g, j, none⟩ = some (.slice A m c) ∧ Sl w A m c T ∧ cat (j + 1) = cat j ++ T) :
    Calls Try.prog 29 #[.slice (some ⟨g, 0, none⟩) k k] w fun e w' => ∃ A c, e = .returned (.slice A (cat k).length c) ∧ Sl w' A (cat k).length c (cat k) ∧ Below w.heap.size w w' := by
  have hmono : ∀ j, j ≤ k → (cat j).length ≤ (cat k).length := fun j hj => cat_mono (fun j hj => by obtain ⟨A, m, c, T, -, -, e⟩ := h j hj; exact ⟨T, e⟩) (k - j) j (by omega)
  obtain ⟨N, hN⟩ : ∃ N, (cat k).length = N := ⟨_, rfl⟩
  have HM := Lib.hid hmono
  have HH := Lib.hid h
  have HN := Lib.hid hN
  rw [hN] at hpos hle
  have HZ := Lib.hid h0
  clear hmono h hN h0
  go_enter Try.func29, Try.ntmps29
  go_wp2
  go_loop [3, 11] (fun s i => ∃ j : Nat, j ≤ k ∧ i = .int .i64 j ∧ s = .int .i64 ((cat j).length : Nat)) (fun _ i => k - (intOf i).toNat)
  case atStart => exact ⟨0, Nat.zero_le _, rfl, by rw [HZ.out]; rfl⟩
  case round =>
    obtain ⟨j, hj, rfl, rfl⟩ := hrel
    have hb := HM.out j hj
    rw [HN.out] at hb
    by_cases hlt : j < k
    · obtain ⟨A, m, c, T, c1, hs, hT⟩ := HH.out j hlt
      have hb1 := HM.out (j + 1) hlt
      rw [HN.out, hT, List.length_append, hs.len] at hb1
      have HT : Hid ((cat (j + 1)).length = (cat j).length + m) := Lib.hid (by rw [hT, List.length_append, hs.len])
      clear hs hT
      generalize (cat j).length = u at *
      have e1 : IntKind.i64.wrap ((u : Int) + (m : Int)) = (u : Int) + (m : Int) := IntWalk.i64_in _ (by omega)
      have e2 : ¬ (u : Int) + (m : Int) < 0 := by omega
      go_wp2
      go_round
      case rel => exact ⟨j + 1, by omega, by go_num, by rw [HT.out]; simp⟩
      case measure => simp [intOf]; omega
    · obtain rfl : j = k := by omega
      rw [HN.out]
      have HG := Lib.hid (grow_nil w N hpos (by omega) (base := w.heap.size) (Nat.le_refl _))
      go_wp2_with fail
      refine HG.out.mono ?_
      rintro e w1 ⟨v, rfl, ho, hb1⟩
      have HO := Lib.hid ho
      have HB := Lib.hid hb1
      clear ho hb1 HG
      go_wp2
      go_loopw [6, 27] (fun v i wr => ∃ q : Nat, q ≤ j ∧ i = .int .i64 q ∧ Hid (Ow wr w.heap.size v (cat q)) ∧ Below w.heap.size w wr) (fun _ i _ => j - (intOf i).toNat)
      case atStart => exact ⟨0, Nat.zero_le _, rfl, by rw [HZ.out]; exact HO, HB.out⟩
      case round =>
        obtain ⟨q, hq, rfl, hov, hbel⟩ := hrel
        have HBL := Lib.hid hbel
        by_cases hlt : q < j
        · obtain ⟨A, m, c, T, c1, hs, hT⟩ := HH.out q hlt
          have hb1 := HM.out (q + 1) hlt
          rw [HN.out, hT, List.length_append, hs.len] at hb1
          have c2 := (hbel.cell (World.block_lt_of_cell? _ _ c1)).trans c1
          obtain ⟨v', w', hr, ho', hg, hv⟩ := sp_app hov.out hbel.size (hs.below hbel) (by omega)
          rw [← hT] at ho'
          have HR := Lib.hid hr
          have HOW := Lib.hid (And.intro ho' (Ow.bel hbel hbel.size hg hov.out (Nat.le_refl _)))
          clear hs hT c1 hr ho' hg hv hbel
          go_wp2_with (at_builtin; refine wpList_app HR.out rfl rfl rfl rfl rfl ?_)
          go_roundw
          case rel => exact ⟨q + 1, by omega, by go_num, Lib.hid HOW.out.1, HOW.out.2⟩
          case measure => simp [intOf]; omega
        · obtain rfl : q = j := by omega
          clear hbel
          go_wp2
          go_ret
          obtain ⟨A, c, rfl, hsl⟩ := hov.out.shape
          rw [HN.out] at hsl ⊢
          exact ⟨A, c, rfl, hsl, HBL.out⟩
end Go.Proofs.Ytadgplpbkephiaa
