/- Put: kind by kind. -/
import Derived.Test.YtkoomphkbiifhaaDoorScBuild
import Derived.Test.YtkoomphkbiifhaaDoorScPutMath
namespace Go.Proofs.YtkoomphkbiifhaaDoor
open Go.RowKit
set_option linter.unusedVariables false

theorem wopen_any (B b : Nat) (l : Nm) (w : World) (h : Bld B b l w) (hlen : l.length + 1 ≤ 140737488355328) (hBw : B ≤ w.heap.size) :
    Calls Tryd.prog 27 #[.pointer (some ⟨b, 0, none⟩), .int .u8 40] w fun e w' => e = .returned .nilIface ∧ Bld B b (l ++ [40]) w' ∧ Below B w w' ∧ Lib.OthersKept 5 (some b) w w' := wbyte_any B b l 40 w h hlen hBw
theorem wcomma_any (B b : Nat) (l : Nm) (w : World) (h : Bld B b l w) (hlen : l.length + 1 ≤ 140737488355328) (hBw : B ≤ w.heap.size) :
    Calls Tryd.prog 27 #[.pointer (some ⟨b, 0, none⟩), .int .u8 44] w fun e w' => e = .returned .nilIface ∧ Bld B b (l ++ [44]) w' ∧ Below B w w' ∧ Lib.OthersKept 5 (some b) w w' := wbyte_any B b l 44 w h hlen hBw
theorem wclose_any (B b : Nat) (l : Nm) (w : World) (h : Bld B b l w) (hlen : l.length + 2 ≤ 140737488355328) (hBw : B ≤ w.heap.size) :
    Calls Tryd.prog 26 #[.pointer (some ⟨b, 0, none⟩), .string { data := #[41, 59] }] w fun e w' => e = .returned (.tuple #[.int .i64 2, .nilIface]) ∧ Bld B b (l ++ [41, 59]) w' ∧ Below B w w' ∧ Lib.OthersKept 5 (some b) w w' := wstr_any B b l [41, 59] w h hlen hBw
/-- A block that is no builder's row stands. -/
theorem kept_box {b q : Nat} {w w' : World} {cs : Array Value} (h : Lib.OthersKept 5 (some b) w w') (hq : Has w q 40 cs) (hb : q ≠ b) : Has w' q 40 cs :=
  h q _ hq (fun e => hb (Option.some.inj e)) (fun c fz e => by injection e with _ e2 _; exact absurd e2 (by decide))
theorem Has.new (w : World) (t : TypeId) (cs : Array Value) : Has (w.alloc (.cells cs t)) w.heap.size t cs := heap_alloc_new w _

set_option maxHeartbeats 2000000 in
set_option maxRecDepth 100000 in
theorem put_any (l : List Kd) (A : Option Addr) (c : Nat) (w : World) (h : Kinds w A c l) (hlen : (putL l).length ≤ 140737488355328) :
    Calls Tryd.prog 12 #[.slice A l.length c] w fun e w' => e = .returned (.string (str (putL l))) ∧ Below w.heap.size w w' := by
  have hcap := h.cap
  go_enter Tryd.func12, Tryd.ntmps12
  go_wp2_with fail
  go_loopw [10] (fun i wr => ∃ j : Nat, j ≤ l.length ∧ i = .int .i64 j ∧ Bld w.heap.size w.heap.size (putL (l.take j)) wr ∧ Below w.heap.size w wr ∧ w.heap.size < wr.heap.size) (fun i _ => l.length - (intOf i).toNat)
  case atStart => exact ⟨0, Nat.zero_le _, rfl, Lib.IsBuilderF.of (Lib.fresh_isBuilder _ _ w), (Below.refl _ _).alloc (Nat.le_refl _) _, by simp⟩
  case round =>
    obtain ⟨j, hj, rfl, hB, br, hz⟩ := hrel
    by_cases hlt : j < l.length
    · obtain ⟨b, off, rfl, hc⟩ := h.shape (by omega)
      obtain ⟨F, d, g0', g1', hs⟩ := hc j hlt
      have g0 := (br.cell (World.block_lt_of_cell? _ _ g0')).trans g0'
      have g1 := (br.cell (World.block_lt_of_cell? _ _ g1')).trans g1'
      clear hc g0' g1'
      have hsp := putL_split hlt
      rw [kindTxt_length] at hsp
      obtain ⟨W, hW⟩ : ∃ W, W = wr.alloc (.cells #[Value.string (str l[j].1), .slice F l[j].2.length d] 40) := ⟨_, rfl⟩
      obtain ⟨q, hq⟩ : ∃ q, wr.heap.size = q := ⟨_, rfl⟩
      have bl : Below w.heap.size w W := by rw [hW]; exact br.alloc (by omega) _
      have hBW : Bld w.heap.size w.heap.size (putL (l.take j)) W := by rw [hW]; exact hB.alloc _
      have hX : Has W q 40 #[Value.string (str l[j].1), .slice F l[j].2.length d] := by rw [hW, ← hq]; exact Has.new _ _ _
      have hqn : q ≠ w.heap.size := by omega
      have X0 := hX.cell 0
      have X1 := hX.cell 1
      simp at X0 X1
      have hWz : w.heap.size ≤ W.heap.size := bl.size
      have HS := Lib.hid hsp
      have HW := Lib.hid hW
      have HX := Lib.hid hX
      have HQ := Lib.hid hq
      clear hsp hW hX hq
      go_wp2_with fail
      rw [← HW.out, HQ.out]
      have q1 : (putL (l.take j)).length + l[j].1.length ≤ 140737488355328 := by have := HS.out; omega
      refine (wstr_any w.heap.size w.heap.size (putL (l.take j)) l[j].1 W hBW q1 hWz).mono ?_
      rintro e w2 ⟨rfl, hB2, b2, k2⟩
      have Z2 := bl.trans b2
      have z2 := Z2.size
      have HX2 := Lib.hid (kept_box k2 HX.out hqn)
      clear X0 X1 HX hBW b2 k2
      go_wp2_with fail
      refine (wopen_any w.heap.size w.heap.size _ w2 hB2 (by rw [List.length_append]; have := HS.out; omega) z2).mono ?_
      rintro e w3 ⟨rfl, hB3, b3, k3⟩
      have Z3 := Z2.trans b3
      have z3 := Z3.size
      have HX3 := Lib.hid (kept_box k3 HX2.out hqn)
      have X1 := HX3.out.cell 1
      simp at X1
      have hcf := hs.cap
      clear HX2 hB2 b3 k3
      go_wp2_with fail
      clear X1
      rename_i wo _
      go_loopw [21] (fun i wi => ∃ k : Nat, k ≤ l[j].2.length ∧ i = .int .i64 k ∧ Bld w.heap.size w.heap.size (putL (l.take j) ++ l[j].1 ++ [40] ++ joinC (l[j].2.take k)) wi ∧ Below w.heap.size w wi ∧ Has wi q 40 #[Value.string (str l[j].1), .slice F l[j].2.length d]) (fun i _ => l[j].2.length - (intOf i).toNat)
      case atStart => exact ⟨0, Nat.zero_le _, rfl, by simpa [joinC] using hB3, Z3, HX3.out⟩
      case round =>
        rename World => wi
        obtain ⟨k, hk, rfl, hBi, bi, hXi⟩ := hrel
        have HXi := Lib.hid hXi
        clear hXi
        have zi := bi.size
        by_cases hlk : k < l[j].2.length
        · obtain ⟨fb, foff, rfl, hcf⟩ := (hs.below bi).shape (by omega)
          have hck := hcf k hlk
          clear hcf
          have tl := joinC_take hlk
          have tl2 := joinC_le (l := l[j].2) (j := k + 1) (by omega)
          rw [tl, List.length_append, List.length_append] at tl2
          have HTL := Lib.hid tl
          clear tl
          by_cases hk0 : 0 < k
          · rw [if_pos hk0] at tl2
            have HL := Lib.hid tl2
            clear tl2
            have e0 : decide (0 < (k : Int)) = true := by simp; omega
            go_wp2_with fail
            refine (wcomma_any w.heap.size w.heap.size _ wi hBi (by have := HS.out; have := HL.out; simp only [List.length_append, List.length_cons, List.length_nil] at *; omega) zi).mono ?_
            rintro e w4 ⟨rfl, hB4, b4, k4⟩
            have Z4 := bi.trans b4
            have HX4 := Lib.hid (kept_box k4 HXi.out hqn)
            clear b4 k4
            go_wp2_with fail
            refine (wstr_any w.heap.size w.heap.size _ l[j].2[k] w4 hB4 (by have := HS.out; have := HL.out; simp only [List.length_append, List.length_cons, List.length_nil] at *; omega) Z4.size).mono ?_
            rintro e w5 ⟨rfl, hB5, b5, k5⟩
            go_wp2_with fail
            go_roundw
            case rel => exact ⟨k + 1, by omega, by go_num, by rw [HTL.out, if_pos hk0]; simpa [List.append_assoc] using hB5, Z4.trans b5, kept_box k5 HX4.out hqn⟩
            case measure => simp [intOf]; omega
          · rw [if_neg hk0] at tl2
            have HL := Lib.hid tl2
            clear tl2
            have e0 : decide (0 < (k : Int)) = false := by simp; omega
            go_wp2_with fail
            refine (wstr_any w.heap.size w.heap.size _ l[j].2[k] wi hBi (by have := HS.out; have := HL.out; simp only [List.length_append, List.length_cons, List.length_nil] at *; omega) zi).mono ?_
            rintro e w5 ⟨rfl, hB5, b5, k5⟩
            go_wp2_with fail
            go_roundw
            case rel => exact ⟨k + 1, by omega, by go_num, by rw [HTL.out, if_neg hk0]; simpa [List.append_assoc] using hB5, bi.trans b5, kept_box k5 HXi.out hqn⟩
            case measure => simp [intOf]; omega
        · have e : l[j].2.take k = l[j].2 := List.take_of_length_le (by omega)
          rw [e] at hBi
          clear e
          go_wp2_with fail
          refine (wclose_any w.heap.size w.heap.size _ wi hBi (by have := HS.out; simp only [List.length_append, List.length_cons, List.length_nil] at *; omega) zi).mono ?_
          rintro e w5 ⟨rfl, hB5, b5, k5⟩
          have Z5 := bi.trans b5
          go_wp2_with fail
          go_roundw
          case rel => exact ⟨j + 1, by omega, by go_num, by rw [putL_take hlt]; simpa [kindTxt, List.append_assoc] using hB5, Z5, by have := HQ.out; have := lt_of_heap (kept_box k5 HXi.out hqn); omega⟩
          case measure => simp [intOf]; omega
    · have e : l.take j = l := List.take_of_length_le (by omega)
      rw [e] at hB
      clear e
      go_wp2_with fail
      refine (bstr_any w.heap.size w.heap.size (putL l) _ hB (by omega)).mono ?_
      rintro e w2 ⟨rfl, _, b2, _⟩
      go_wp2_with fail
      go_ret
      exact ⟨rfl, br.trans b2⟩
end Go.Proofs.YtkoomphkbiifhaaDoor
