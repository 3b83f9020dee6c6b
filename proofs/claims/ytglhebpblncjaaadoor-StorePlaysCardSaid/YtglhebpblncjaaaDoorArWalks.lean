/- What the plain calls of package arena return, as contracts: New, Charged, Limit, Live, SetLimit and the search of the least free slot. -/
import Derived.Test.YtglhebpblncjaaaDoorArMem
namespace Go.Proofs.YtglhebpblncjaaaDoor
open Go.RowKit
set_option linter.unusedVariables false

/-- A new arena's cells. -/
def nar (c : Int) : Array Value := (zar.setIfInBounds 0 (.int .i64 c)).setIfInBounds 1 (.int .i64 c)
theorem zar_at {i : Nat} (h : i < 64) : zar[5 + i]? = some (.int .u64 ((0 : Nat) : Int)) := by
  unfold zar
  rw [Array.getElem?_append_right (by simp)]
  simp [h]
theorem nar_cells (c : Int) : ArCells (nar c) ⟨c, c, []⟩ (.slice none 0 0) := by
  refine ⟨rfl, rfl, rfl, rfl, rfl, rfl, fun i hi => ⟨0, by omega, ?_, fun j hj => ?_⟩⟩
  · unfold nar
    rw [Array.getElem?_setIfInBounds_ne (by omega), Array.getElem?_setIfInBounds_ne (by omega)]
    exact zar_at hi
  · rw [Nat.zero_testBit]; rfl
set_option maxRecDepth 100000 in
theorem new_yes (c : Int) (w : World) (h0 : 0 ≤ c) (h1 : c ≤ 16777216) :
    Calls Tryd.prog 8 #[.int .i64 c] w fun e w' => e = .returned (.pointer (some ⟨w.heap.size, 0, none⟩)) ∧ ArAt w' w.heap.size w.heap.size (.slice none 0 0) ⟨c, c, []⟩ ∧ Below w.heap.size w w' := by
  have HW := Lib.hid (new_wf h0 h1)
  have hz := zero_run
  go_enter Tryd.func8, Tryd.ntmps8
  go_wp2
  go_ret
  exact ⟨rfl, ⟨Nat.le_refl _, by simp [Value.ownBlock], HW.out, World.ownsRow_nil _ _ _ _, nar c, heap_alloc_new w _, nar_cells c⟩, (Below.refl _ _).alloc (Nat.le_refl _) _⟩
theorem new_no (c : Int) (w : World) (h : c < 0 ∨ 16777216 < c) :
    Calls Tryd.prog 8 #[.int .i64 c] w fun e w' => e = .returned (.pointer none) ∧ w = w' := by
  rcases h with h | h
  all_goals
    go_enter Tryd.func8, Tryd.ntmps8
    go_wp2
    go_ret
    exact ⟨rfl, rfl⟩

theorem charged_any {w : World} {B g : Nat} {v : Value} {s : Ar} (h : ArAt w B g v s) :
    Calls Tryd.prog 25 #[.pointer (some ⟨g, 0, none⟩)] w fun e w' => e = .returned (.int .i64 (chg s.l)) ∧ w = w' := by
  obtain ⟨cs, h1, h2⟩ := h.blk
  have hc := (h1.cell 2).trans h2.chg
  clear h1 h2 h
  go_enter Tryd.func25, Tryd.ntmps25
  go_wp2
  go_ret
  exact ⟨rfl, rfl⟩
theorem limit_any {w : World} {B g : Nat} {v : Value} {s : Ar} (h : ArAt w B g v s) :
    Calls Tryd.prog 31 #[.pointer (some ⟨g, 0, none⟩)] w fun e w' => e = .returned (.int .i64 s.lim) ∧ w = w' := by
  obtain ⟨cs, h1, h2⟩ := h.blk
  have hc := (h1.cell 1).trans h2.lim
  clear h1 h2 h
  go_enter Tryd.func31, Tryd.ntmps31
  go_wp2
  go_ret
  exact ⟨rfl, rfl⟩
theorem live_any {w : World} {B g : Nat} {v : Value} {s : Ar} (h : ArAt w B g v s) :
    Calls Tryd.prog 30 #[.pointer (some ⟨g, 0, none⟩)] w fun e w' => e = .returned (.int .i64 (liv s.l)) ∧ w = w' := by
  obtain ⟨cs, h1, h2⟩ := h.blk
  have hc := (h1.cell 3).trans h2.liv
  clear h1 h2 h
  go_enter Tryd.func30, Tryd.ntmps30
  go_wp2
  go_ret
  exact ⟨rfl, rfl⟩

theorem ArCells.limit {cs : Array Value} {s : Ar} {v : Value} (h : ArCells cs s v) (n : Int) : ArCells (cs.setIfInBounds 1 (.int .i64 n)) ⟨s.cap, n, s.l⟩ v := by
  have hs := h.size
  refine ⟨by simpa using hs, ?_, ?_, ?_, ?_, ?_, fun i hi => ?_⟩
  · rw [Array.getElem?_setIfInBounds_ne (by omega)]; exact h.cap
  · rw [Array.getElem?_setIfInBounds_self_of_lt (by omega)]
  · rw [Array.getElem?_setIfInBounds_ne (by omega)]; exact h.chg
  · rw [Array.getElem?_setIfInBounds_ne (by omega)]; exact h.liv
  · rw [Array.getElem?_setIfInBounds_ne (by omega)]; exact h.row
  · rw [Array.getElem?_setIfInBounds_ne (by omega)]; exact h.bits i hi
theorem setg_owns {w : World} {base : Nat} {e : TypeId} {size : Nat} {v : Value} {n : Nat} {xs : List Value} (h : w.ownsRow base e size v n xs) {g : Nat} (hg : v.ownBlock ≠ some g) (i : Nat) (u : Value) : (w.setCell ⟨g, i, none⟩ u).ownsRow base e size v n xs :=
  owns_keep h fun k hk => Below.heap_setCell _ _ _ _ (fun e => hg (by rw [hk, e]))

/-- The least free slot. -/
def lst (l : List Blk) : Int := if fre l < 4096 then fre l else 0
def lsk (l : List Blk) : Bool := decide (fre l < 4096)
theorem ret_ib {a b : Int} {c d : Bool} (h : a = b) (k : c = d) : Ending.returned (.tuple #[.int .i64 a, .bool c]) = .returned (.tuple #[.int .i64 b, .bool d]) := by rw [h, k]
theorem sgn64 : IntKind.u64.signed = false := rfl
set_option maxHeartbeats 800000 in
theorem least_any {w : World} {B g : Nat} {v : Value} {s : Ar} (h : ArAt w B g v s) (hT : Dbt w) :
    Calls Tryd.prog 48 #[.pointer (some ⟨g, 0, none⟩)] w fun e w' => e = .returned (.tuple #[.int .i64 (lst s.l), .bool (lsk s.l)]) ∧ w = w' := by
  obtain ⟨cs, h1, h2⟩ := h.blk
  have H1 := Lib.hid h1
  have H2 := Lib.hid h2
  have HF := Lib.hid (fre_le s.l)
  have HT := Lib.hid hT
  clear h1 h2 h hT
  go_enter Tryd.func48, Tryd.ntmps48
  go_wp2
  go_loop [12] (fun i => ∃ k : Nat, k ≤ 64 ∧ i = .int .i64 k ∧ 64 * k ≤ fre s.l) (fun i => 64 - (intOf i).toNat)
  case atStart => exact ⟨0, by omega, rfl, by omega⟩
  case round =>
    obtain ⟨k, hk, rfl, hlo⟩ := hrel
    have HL := Lib.hid hlo
    clear hlo
    by_cases hlt : k < 64
    · obtain ⟨x, hx, hcx, hbx⟩ := H2.out.bits k hlt
      have hc := (H1.out.cell (5 + k)).trans hcx
      have HX := Lib.hid hx
      have HB := Lib.hid hbx
      have hsg := sgn64
      clear hcx hx hbx
      go_wp2_with fail
      clear hsg
      rw [flip_run x HX.out]
      refine (tz_any (flip x) (flip_lt x) _ HT.out).mono ?_
      rintro e w' ⟨rfl, rfl⟩
      by_cases hz : flip x = 0
      · have HN : Hid (64 * (k + 1) ≤ fre s.l) := Lib.hid (fre_ge fun j hj => by
          by_cases h3 : j < 64 * k
          · exact fre_lives _ _ (by have := HL.out; omega)
          · have h4 := HB.out (j - 64 * k) (by omega)
            rw [show 64 * k + (j - 64 * k) = j by omega] at h4
            rw [← h4]
            have h5 := flip_bit x HX.out (j - 64 * k) (by omega)
            rw [hz, Nat.zero_testBit] at h5
            simpa using h5)
        rw [hz, ctz_zero]
        clear hz
        go_wp2
        go_round
        case rel => exact ⟨k + 1, by omega, by go_num, HN.out⟩
        case measure => simp [intOf]; omega
      · obtain ⟨b1, b2, b3⟩ := ctz_bits (flip x) (flip_lt x) hz
        clear hz
        generalize Lib.ctz 64 (flip x) = t at b1 b2 b3
        have HN : Hid (fre s.l = 64 * k + t) := Lib.hid (fre_of (fun j hj => by
          by_cases h3 : j < 64 * k
          · exact fre_lives _ _ (by have := HL.out; omega)
          · have h4 := HB.out (j - 64 * k) (by omega)
            rw [show 64 * k + (j - 64 * k) = j by omega] at h4
            rw [← h4]
            have h5 := flip_bit x HX.out (j - 64 * k) (by omega)
            rw [b3 _ (by omega)] at h5
            simpa using h5) (by
          rw [← HB.out t b1]
          have h5 := flip_bit x HX.out t b1
          rw [b2] at h5
          simpa using h5))
        clear b2 b3
        go_wp2
        go_ret2
        exact ⟨ret_ib (by rw [lst, HN.out, if_pos (by omega)]; omega) (by rw [lsk, HN.out]; simp; omega), rfl⟩
    · obtain rfl : k = 64 := by omega
      go_wp2
      go_ret2
      exact ⟨by have := HL.out; rw [lst, lsk, if_neg (by omega), show decide (fre s.l < 4096) = false by simp; omega]; rfl, rfl⟩
end Go.Proofs.YtglhebpblncjaaaDoor
