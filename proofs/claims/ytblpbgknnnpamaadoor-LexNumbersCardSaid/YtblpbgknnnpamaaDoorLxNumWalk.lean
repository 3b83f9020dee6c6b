/- LexNumbers: the walk. -/
import Derived.Test.YtblpbgknnnpamaaDoorLxHead
import Derived.Test.YtblpbgknnnpamaaDoorLxNumMath
namespace Go.Proofs.YtblpbgknnnpamaaDoor
open Go.RowKit
set_option linter.unusedVariables false

theorem conv_bytes {wr : World} {g W : Nat} {l : List UInt8} (h : Has wr g 5 (bcells l)) (hl : l.length = W) :
    (convert 22 9 (.slice (some ⟨g, 0, none⟩) W W)).run Tryd.prog wr = .ok (.string (str l)) wr := by
  subst hl
  refine run_convert_bytes_back wr 22 9 5 ⟨g, 0, none⟩ l.length l Tryd.underlying22 Tryd.underlying5 Tryd.underlying9 ?_
  intro j hj
  rw [Go.WideShapes.add_plain, Nat.zero_add]
  exact (h.cell j).trans (bcells_get l j hj)
/-- A new slice of one byte, as a text. -/
theorem conv_one (x : Nat) (hx : x < 256) (wr : World) (y : Int) (hy : y = (x : Int)) : (convert 22 9 (.slice (some ⟨wr.heap.size, 0, none⟩) 1 1)).run Tryd.prog (wr.alloc (.cells #[.int .u8 y] 5)) = .ok (.string (str [UInt8.ofNat x])) (wr.alloc (.cells #[.int .u8 y] 5)) := by
  subst hy
  refine conv_bytes (l := [UInt8.ofNat x]) (W := 1) ?_ rfl
  have e : bcells [UInt8.ofNat x] = #[.int .u8 (x : Int)] := by
    unfold bcells
    simp only [List.map_cons, List.map_nil, UInt8.toNat_ofNat_of_lt' hx]
  rw [e]
  exact heap_alloc_new wr _
/-- Steps that are left. -/
def numM (s k : Value) : Nat := (intOf k).toNat + (match s with
  | .string b => if b.size = 0 then 1 else 0
  | _ => 0)
theorem numM_eq (l : Nm) (z : Int) : numM (.string (str l)) (.int .u64 z) = z.toNat + if l.length = 0 then 1 else 0 := by
  unfold numM
  simp only [str_size]
  rfl
/-- What is known ahead of a round. -/
def NumR (n z : Int) (l : Nm) : Prop := digs l ∧ n.toNat = z.toNat * 10 ^ l.length + vl 0 l ∧ (z = 0 → 1 < l.length → l.getD 0 0 ≠ 48) ∧ l.length ≤ 20
theorem num_round {n z : Int} {l : Nm} (h : NumR n z l) (hz0 : 0 ≤ z) (hn : n ≤ 18446744073709551615) (hg : l = [] ∨ 0 < z) {D : Nat} (hD : (D : Int) = 48 + z % 10) : NumR n (z / 10) (UInt8.ofNat D :: l) ∧ l.length ≤ 19 := by
  obtain ⟨h1, h2, h3, h4⟩ := h
  have hDt : (UInt8.ofNat D).toNat = D := UInt8.toNat_ofNat_of_lt' (by omega : D < 256)
  have hl : l.length ≤ 19 := by
    rcases hg with rfl | hg
    · simp
    · rcases Nat.lt_or_ge 19 l.length with hc | hc
      · exfalso
        have hp : 10 ^ 20 ≤ 10 ^ l.length := Nat.pow_le_pow_right (by omega) hc
        have hm : 1 * 10 ^ l.length ≤ z.toNat * 10 ^ l.length := Nat.mul_le_mul_right _ (by omega)
        have e20 : (10 : Nat) ^ 20 = 100000000000000000000 := by decide
        omega
      · exact hc
  refine ⟨⟨?_, ?_, ?_, by simp; omega⟩, hl⟩
  · intro b hb
    rcases List.mem_cons.1 hb with rfl | hb
    · rw [hDt]; omega
    · exact h1 b hb
  · rw [vl_cons, hDt, List.length_cons, h2]
    have e1 : z.toNat = (z / 10).toNat * 10 + (D - 48) := by omega
    rw [e1, Nat.pow_succ, Nat.add_mul, Nat.mul_assoc, Nat.mul_comm 10, Nat.add_assoc]
  · intro hz hlen
    have hzp : 0 < z := by
      rcases hg with rfl | hg
      · simp at hlen
      · exact hg
    simp only [List.getD_cons_zero]
    intro e
    have := congrArg UInt8.toNat e
    rw [hDt] at this
    have e48 : (48 : UInt8).toNat = 48 := rfl
    omega
set_option maxHeartbeats 2000000 in
set_option maxRecDepth 100000 in
theorem numbers_walk (n0 : Int) (small : Bool) (h0 : 0 ≤ n0) (h1 : n0 ≤ 18446744073709551615) (w : World) (hT : Tabs w) :
    Calls Tryd.prog 5 #[.int .u64 n0, .bool small] w fun e w' => e = .returned (.bool true) ∧ Below w.heap.size w w' := by
  obtain ⟨n, hsm⟩ : ∃ n, (small = true ∧ n0 % 1000 = n) ∨ (small = false ∧ n0 = n) := by
    cases small
    · exact ⟨n0, .inr ⟨rfl, rfl⟩⟩
    · exact ⟨n0 % 1000, .inl ⟨rfl, rfl⟩⟩
  have hn0 : 0 ≤ n := by omega
  have hn1 : n ≤ 18446744073709551615 := by omega
  rcases hsm with ⟨rfl, hm⟩ | ⟨rfl, rfl⟩
  all_goals
    go_enter Tryd.func5, Tryd.ntmps5
    go_wp2_with fail
    refine (examples_any w hT).mono ?_
    rintro e w1 ⟨rfl, bx⟩
    have hT1 := hT.below bx
    go_wp2_with fail
  · rw [hm]
    clear hm h0 h1
    go_loopw [6, 7] (fun s k wr => ∃ (l : Nm) (z : Int), s = .string (str l) ∧ k = .int .u64 z ∧ 0 ≤ z ∧ z ≤ 18446744073709551615 ∧ NumR n z l ∧ Below w1.heap.size w1 wr) (fun s k _ => numM s k)
    case atStart => exact ⟨[], n, rfl, rfl, by omega, by omega, ⟨fun b hb => (by cases hb), by rw [vl_nil]; simp, fun _ h => by simp at h, by simp⟩, Below.refl _ _⟩
    case round =>
      obtain ⟨l, z, rfl, rfl, hz0, hz1, hN, hb⟩ := hrel
      have HN := Lib.hid hN
      clear hN
      by_cases hg : l = [] ∨ 0 < z
      · obtain ⟨D, hD⟩ : ∃ D : Nat, (D : Int) = 48 + z % 10 := ⟨(48 + z % 10).toNat, by omega⟩
        obtain ⟨hr, hl19⟩ := num_round HN.out hz0 (by omega) hg hD
        have HR := Lib.hid hr
        have cv := conv_one D (by omega) wr (48 + z % 10) hD.symm
        have bl : Below w1.heap.size w1 (wr.alloc (.cells #[.int .u8 (48 + z % 10)] 5)) := hb.alloc hb.size _
        have ad : ∀ W, (Op.stringOp .add (str [UInt8.ofNat D]) (str l)).run Tryd.prog W = .ok (.string (str (UInt8.ofNat D :: l))) W := run_add_str [UInt8.ofNat D] l (by simp; omega)
        have HM : Hid (numM (.string (str (UInt8.ofNat D :: l))) (.int .u64 (z / 10)) < numM (.string (str l)) (.int .u64 z)) := Lib.hid (by
          rw [numM_eq, numM_eq, List.length_cons]
          rcases hg with h | h
          · subst h; simp; omega
          · split <;> split <;> omega)
        clear hr hD HN
        generalize UInt8.ofNat D = ch at *
        have hcs : ((str l).toList.isEmpty = true ∧ ((str l).toList = []) = True) ∨ ((str l).toList.isEmpty = false ∧ ((str l).toList = []) = False ∧ 0 < z) := by
          by_cases h : l = []
          · exact .inl ⟨by rw [str_toList]; simpa using h, by rw [str_toList]; simpa using h⟩
          · exact .inr ⟨by rw [str_toList]; simpa using h, by rw [str_toList]; simpa using h, hg.resolve_left h⟩
        clear hg
        rcases hcs with ⟨s1, s2⟩ | ⟨s1, s2, hzp⟩
        all_goals
          go_wp2_with fail
          go_roundw
          case rel => exact ⟨ch :: l, z / 10, rfl, rfl, by omega, by omega, HR.out, bl⟩
          case measure => exact HM.out
      · obtain ⟨hl0, hzz⟩ : l ≠ [] ∧ z = 0 := ⟨fun e => hg (.inl e), by by_cases h : z = 0; exact h; exact absurd (.inr (by omega)) hg⟩
        subst hzz
        have s1 : (str l).toList.isEmpty = false := by rw [str_toList]; simpa using hl0
        have s2 : ((str l).toList = []) = False := by rw [str_toList]; simpa using hl0
        obtain ⟨d1, d2, d3, d4⟩ := HN.out
        have hv : vl 0 l = (n).toNat := by rw [d2]; simp
        have hnv := num_val hl0 d1 (by omega) (d3 rfl)
        have hlx := lex_digs hl0 d1
        rw [hnv, hv] at hlx
        have hzr := lex_zero hl0 d1
        have hll : (48 :: l).length ≤ 2048 := by simp; omega
        have ad : ∀ W, (Op.stringOp .add { data := #[48] } (str l)).run Tryd.prog W = .ok (.string (str (48 :: l))) W := run_add_str [48] l (by simp; omega)
        have sz := str_size l
        have hT2 := hT1.below hb
        clear HN hnv d1 d2 d3 hv hg
        by_cases hlt : n < 9223372036854775808
        · rw [if_pos (by omega)] at hlx
          have hN : ((n).toNat : Int) = n := by omega
          dsimp only at hlx
          rw [hN] at hlx
          have ga := all_good hlx wr (by omega) hT2
          clear hlx hN
          go_wp2_with fail
          refine ga.mono ?_
          rintro e w2 ⟨A, c, rfl, hk, b2⟩
          have B2 := hb.trans (b2.mono hb.size)
          clear ga b2
          go_wp2_with fail
          refine (all_bad hzr w2 hll (hT1.below B2)).mono ?_
          rintro e w3 ⟨rfl, b3⟩
          have B3 := B2.trans (b3.mono B2.size)
          obtain ⟨b, off, rfl, p0, p1, p2, p3⟩ := (hk.below b3).at_ 0 (by simp)
          simp at p0 p2
          clear hk b3 B2 p1 p3
          go_wp2_with fail
          go_ret
          exact ⟨rfl, bx.trans (B3.mono bx.size)⟩
        · rw [if_neg (by omega)] at hlx
          have ga := all_bad hlx wr (by omega) hT2
          clear hlx
          go_wp2_with fail
          refine ga.mono ?_
          rintro e w2 ⟨rfl, b2⟩
          have B2 := hb.trans (b2.mono hb.size)
          clear ga b2
          go_wp2_with fail
          refine (all_bad hzr w2 hll (hT1.below B2)).mono ?_
          rintro e w3 ⟨rfl, b3⟩
          have B3 := B2.trans (b3.mono B2.size)
          clear b3 B2
          go_wp2_with fail
          go_ret
          exact ⟨rfl, bx.trans (B3.mono bx.size)⟩
  · go_loopw [6, 7] (fun s k wr => ∃ (l : Nm) (z : Int), s = .string (str l) ∧ k = .int .u64 z ∧ 0 ≤ z ∧ z ≤ 18446744073709551615 ∧ NumR n0 z l ∧ Below w1.heap.size w1 wr) (fun s k _ => numM s k)
    case atStart => exact ⟨[], n0, rfl, rfl, by omega, by omega, ⟨fun b hb => (by cases hb), by rw [vl_nil]; simp, fun _ h => by simp at h, by simp⟩, Below.refl _ _⟩
    case round =>
      obtain ⟨l, z, rfl, rfl, hz0, hz1, hN, hb⟩ := hrel
      have HN := Lib.hid hN
      clear hN
      by_cases hg : l = [] ∨ 0 < z
      · obtain ⟨D, hD⟩ : ∃ D : Nat, (D : Int) = 48 + z % 10 := ⟨(48 + z % 10).toNat, by omega⟩
        obtain ⟨hr, hl19⟩ := num_round HN.out hz0 (by omega) hg hD
        have HR := Lib.hid hr
        have cv := conv_one D (by omega) wr (48 + z % 10) hD.symm
        have bl : Below w1.heap.size w1 (wr.alloc (.cells #[.int .u8 (48 + z % 10)] 5)) := hb.alloc hb.size _
        have ad : ∀ W, (Op.stringOp .add (str [UInt8.ofNat D]) (str l)).run Tryd.prog W = .ok (.string (str (UInt8.ofNat D :: l))) W := run_add_str [UInt8.ofNat D] l (by simp; omega)
        have HM : Hid (numM (.string (str (UInt8.ofNat D :: l))) (.int .u64 (z / 10)) < numM (.string (str l)) (.int .u64 z)) := Lib.hid (by
          rw [numM_eq, numM_eq, List.length_cons]
          rcases hg with h | h
          · subst h; simp; omega
          · split <;> split <;> omega)
        clear hr hD HN
        generalize UInt8.ofNat D = ch at *
        have hcs : ((str l).toList.isEmpty = true ∧ ((str l).toList = []) = True) ∨ ((str l).toList.isEmpty = false ∧ ((str l).toList = []) = False ∧ 0 < z) := by
          by_cases h : l = []
          · exact .inl ⟨by rw [str_toList]; simpa using h, by rw [str_toList]; simpa using h⟩
          · exact .inr ⟨by rw [str_toList]; simpa using h, by rw [str_toList]; simpa using h, hg.resolve_left h⟩
        clear hg
        rcases hcs with ⟨s1, s2⟩ | ⟨s1, s2, hzp⟩
        all_goals
          go_wp2_with fail
          go_roundw
          case rel => exact ⟨ch :: l, z / 10, rfl, rfl, by omega, by omega, HR.out, bl⟩
          case measure => exact HM.out
      · obtain ⟨hl0, hzz⟩ : l ≠ [] ∧ z = 0 := ⟨fun e => hg (.inl e), by by_cases h : z = 0; exact h; exact absurd (.inr (by omega)) hg⟩
        subst hzz
        have s1 : (str l).toList.isEmpty = false := by rw [str_toList]; simpa using hl0
        have s2 : ((str l).toList = []) = False := by rw [str_toList]; simpa using hl0
        obtain ⟨d1, d2, d3, d4⟩ := HN.out
        have hv : vl 0 l = (n0).toNat := by rw [d2]; simp
        have hnv := num_val hl0 d1 (by omega) (d3 rfl)
        have hlx := lex_digs hl0 d1
        rw [hnv, hv] at hlx
        have hzr := lex_zero hl0 d1
        have hll : (48 :: l).length ≤ 2048 := by simp; omega
        have ad : ∀ W, (Op.stringOp .add { data := #[48] } (str l)).run Tryd.prog W = .ok (.string (str (48 :: l))) W := run_add_str [48] l (by simp; omega)
        have sz := str_size l
        have hT2 := hT1.below hb
        clear HN hnv d1 d2 d3 hv hg
        by_cases hlt : n0 < 9223372036854775808
        · rw [if_pos (by omega)] at hlx
          have hN : ((n0).toNat : Int) = n0 := by omega
          dsimp only at hlx
          rw [hN] at hlx
          have ga := all_good hlx wr (by omega) hT2
          clear hlx hN
          go_wp2_with fail
          refine ga.mono ?_
          rintro e w2 ⟨A, c, rfl, hk, b2⟩
          have B2 := hb.trans (b2.mono hb.size)
          clear ga b2
          go_wp2_with fail
          refine (all_bad hzr w2 hll (hT1.below B2)).mono ?_
          rintro e w3 ⟨rfl, b3⟩
          have B3 := B2.trans (b3.mono B2.size)
          obtain ⟨b, off, rfl, p0, p1, p2, p3⟩ := (hk.below b3).at_ 0 (by simp)
          simp at p0 p2
          clear hk b3 B2 p1 p3
          go_wp2_with fail
          go_ret
          exact ⟨rfl, bx.trans (B3.mono bx.size)⟩
        · rw [if_neg (by omega)] at hlx
          have ga := all_bad hlx wr (by omega) hT2
          clear hlx
          go_wp2_with fail
          refine ga.mono ?_
          rintro e w2 ⟨rfl, b2⟩
          have B2 := hb.trans (b2.mono hb.size)
          clear ga b2
          go_wp2_with fail
          refine (all_bad hzr w2 hll (hT1.below B2)).mono ?_
          rintro e w3 ⟨rfl, b3⟩
          have B3 := B2.trans (b3.mono B2.size)
          clear b3 B2
          go_wp2_with fail
          go_ret
          exact ⟨rfl, bx.trans (B3.mono bx.size)⟩
end Go.Proofs.YtblpbgknnnpamaaDoor
