/- The walk of SpansExact. -/
import Derived.Test.YtadgplpbkephiaaSpHead
import Derived.Test.YtadgplpbkephiaaSpExactM
namespace Go.Proofs.Ytadgplpbkephiaa
open Go.RowKit
set_option linter.unusedVariables false

theorem li_nil (w : World) : Li w none 0 0 [] := ⟨rfl, fun i u hu => by simp at hu, Nat.le_refl _, Nat.zero_le _⟩
abbrev I64 (x : Int) : Prop := -9223372036854775808 ≤ x ∧ x ≤ 9223372036854775807
set_option maxRecDepth 100000 in
set_option maxHeartbeats 2000000 in
theorem exact_walk (a b c d n : Int) (k : Nat) (w : World) (_ : I64 a) (_ : I64 b) (_ : I64 c) (_ : I64 d) (_ : I64 n) (hk : k < 256) :
    Calls Try.prog 5 #[.int .i64 a, .int .i64 b, .int .i64 c, .int .i64 d, .int .i64 n, .int .u8 k] w fun e w' => e = .returned (.bool true) ∧ Below w.heap.size w w' := by
  obtain ⟨a', ha⟩ := near_law a k hk
  obtain ⟨n', hn⟩ := near_law n k hk
  obtain ⟨c', hc⟩ := near_law c k hk
  have HA := Lib.hid ha
  have HN := Lib.hid hn
  have HC := Lib.hid hc
  clear ha hn hc
  go_enter Try.func5, Try.ntmps5
  go_wp2_with fail
  refine (ex_any _).mono ?_
  rintro e w1 ⟨rfl, b1⟩
  have L1 := Lib.hid b1
  clear b1
  go_wp2_with fail
  refine (HA.out _).mono ?_
  rintro e w2 ⟨rfl, b2⟩
  have L2 := Lib.hid (L1.out.trans (b2.mono L1.out.size))
  clear b2 L1
  go_wp2_with fail
  refine (HN.out _).mono ?_
  rintro e w3 ⟨rfl, b3⟩
  have L3 := Lib.hid (L2.out.trans (b3.mono L2.out.size))
  clear b3 L2
  go_wp2_with fail
  refine (HC.out _).mono ?_
  rintro e w4 ⟨rfl, b4⟩
  have L4 := Lib.hid (L3.out.trans (b4.mono L3.out.size))
  clear b4 L3 HA HN HC
  have k5 : Li (w4.alloc (.cells #[.int .i64 a', .int .i64 b, .int .i64 c', .int .i64 d] 2)) (some ⟨w4.heap.size, 0, none⟩) 4 4 [a', b, c', d] := li_lit w4 [a', b, c', d] rfl
  have b6 : Below (w4.heap.size + 1) (w4.alloc (.cells #[.int .i64 a', .int .i64 b, .int .i64 c', .int .i64 d] 2)) ((w4.alloc (.cells #[.int .i64 a', .int .i64 b, .int .i64 c', .int .i64 d] 2)).alloc (.cells #[.slice none 0 0] 24)) := (Below.refl _ _).alloc (by simp) _
  have L6 := Lib.hid ((L4.out.alloc L4.out.size (.cells #[.int .i64 a', .int .i64 b, .int .i64 c', .int .i64 d] 2)).alloc (by have := L4.out.size; simp; omega) (.cells #[.slice none 0 0] 24))
  have K6 : Hid (Li ((w4.alloc (.cells #[.int .i64 a', .int .i64 b, .int .i64 c', .int .i64 d] 2)).alloc (.cells #[.slice none 0 0] 24)) (some ⟨w4.heap.size, 0, none⟩) 4 4 [a', b, c', d]) := Lib.hid (k5.below ((Below.refl _ _).alloc (Nat.le_refl _) _))
  have X6 : Hid (Bx ((w4.alloc (.cells #[.int .i64 a', .int .i64 b, .int .i64 c', .int .i64 d] 2)).alloc (.cells #[.slice none 0 0] 24)) (w4.heap.size + 1) 24 none 0 0 []) := Lib.hid ⟨by
    have := heap_alloc_new (w4.alloc (.cells #[.int .i64 a', .int .i64 b, .int .i64 c', .int .i64 d] 2)) (.cells #[.slice none 0 0] 24)
    simpa [Has] using this, sl_nil _⟩
  have Z6 : Hid (w.heap.size ≤ w4.heap.size) := Lib.hid L4.out.size
  clear k5 b6 L4
  go_wp2
  generalize (w4.alloc (.cells #[.int .i64 a', .int .i64 b, .int .i64 c', .int .i64 d] 2)).alloc (.cells #[.slice none 0 0] 24) = w6 at *
  generalize w4.heap.size = gl at *
  generalize hq : ([a', b, c', d] : List Int) = q at *
  have HQ : Hid (q.length = 4) := Lib.hid (by rw [← hq]; rfl)
  clear hq
  go_loopw [16] (fun iv wr => ∃ (j : Nat) (A : Option Addr) (m e : Nat) (S : List Sp), j ≤ 4 ∧ iv = .int .i64 j ∧ Hid (Bx wr (gl + 1) 24 A m e S) ∧ Hid (Pts S (q.take j)) ∧ Hid (Li wr (some ⟨gl, 0, none⟩) 4 4 q) ∧ Hid (Below w.heap.size w wr)) (fun iv _ => 4 - (intOf iv).toNat)
  case atStart => exact ⟨0, none, 0, 0, [], Nat.zero_le _, rfl, X6, Lib.hid pts_nil, K6, L6⟩
  case round =>
    obtain ⟨j, A, m, e, S, hj, rfl, HB, HP, HI, HL⟩ := hrel
    clear X6 K6 L6
    have x0 := HB.out.box.cell 0
    by_cases hlt : j < 4
    · obtain ⟨g', off', x, eg, c1, hx⟩ := HI.out.cel j hlt
      cases eg
      rw [Nat.zero_add] at c1
      have HPN := Lib.hid (HP.out.next hx hlt)
      have HA := Lib.hid (add_any HB.out.sl.drew x)
      clear hx
      go_wp2_with fail
      go_region_law (go_simp; go_at_call 11; refine HA.out.mono ?_; rintro e w7 ⟨B, m2, d2, rfl, hsl, hb3⟩; have y2 := (HB.out.drew.below hb3).box.cell 0; have z2 := (HB.out.drew.below hb3).box.free 0)
      all_goals
        have HBN := Lib.hid ((HB.out.drew.below hb3).set hsl)
        have HIN := Lib.hid ((HI.out.below ((Below.refl _ _).drew.trans hb3)).set (HB.out.drew.below hb3).box (.slice B m2 d2))
        have HLN := Lib.hid ((HL.out.drew.trans (hb3.mono HL.out.size)).setCell (p := ⟨gl + 1, 0, none⟩) (by have := Z6.out; show _ ≤ gl + 1; omega) (.slice B m2 d2))
        clear hsl hb3 y2 z2 x0 c1 HB HI HL HP HA
        generalize w7.setCell ⟨gl + 1, 0, none⟩ (.slice B m2 d2) = w8 at *
        go_wp2
        go_roundw
        case rel => exact ⟨j + 1, B, m2, d2, addS S x, by omega, by go_num, HBN, HPN, HIN, HLN⟩
        case measure => simp [intOf]; omega
    · have hj4 : j = 4 := by omega
      have hp4 : Pts S q := by
        have := HP.out
        rwa [hj4, List.take_of_length_le (by rw [HQ.out]; exact Nat.le_refl _)] at this
      have HP4 := Lib.hid hp4
      clear hp4 HP hj4 hj
      have hbt : Below wr.heap.size wr (wr.alloc (.cells #[.slice A m e] 24)) := (Below.refl _ _).alloc (Nat.le_refl _) _
      have XS := Lib.hid (HB.out.below hbt)
      have XT : Hid (Bx (wr.alloc (.cells #[.slice A m e] 24)) wr.heap.size 24 A m e S) := Lib.hid ⟨heap_alloc_new wr _, HB.out.sl.below hbt⟩
      have XI := Lib.hid (HI.out.below hbt)
      have XL := Lib.hid (HL.out.alloc HL.out.size (.cells #[.slice A m e] 24))
      have XN : Hid (gl + 1 ≠ wr.heap.size) := Lib.hid (by have := HB.out.box.lt; omega)
      have XZ : Hid (w.heap.size ≤ wr.heap.size) := Lib.hid HL.out.size
      clear hbt HI HL
      go_wp2
      clear x0 HB
      generalize wr.alloc (.cells #[.slice A m e] 24) = w9 at *
      generalize wr.heap.size = gt at *
      go_loopw [18] (fun iv wq => ∃ (j : Nat) (B : Option Addr) (m2 e2 : Nat), j ≤ 4 ∧ iv = .int .i64 j ∧ Hid (Bx wq (gl + 1) 24 A m e S) ∧ Hid (Bx wq gt 24 B m2 e2 S) ∧ Hid (Li wq (some ⟨gl, 0, none⟩) 4 4 q) ∧ Hid (Below w.heap.size w wq)) (fun iv _ => 4 - (intOf iv).toNat)
      case atStart => exact ⟨0, A, m, e, Nat.zero_le _, rfl, XS, XT, XI, XL⟩
      case round =>
        obtain ⟨i, B, m2, e2, hj, rfl, HB, HT, HI, HL⟩ := hrel
        clear hlt
        clear XS XT XI XL
        have x0 := HT.out.box.cell 0
        by_cases hlt : i < 4
        · obtain ⟨g', off', x, eg, c1, hx⟩ := HI.out.cel i hlt
          cases eg
          rw [Nat.zero_add] at c1
          have HA := Lib.hid (add_any HT.out.sl.drew x)
          rw [HP4.out.again (List.mem_of_getElem? hx)] at HA
          clear hx
          go_wp2_with fail
          go_region_law (go_simp; go_at_call 11; refine HA.out.mono ?_; rintro e w7 ⟨B3, m3, d3, rfl, hsl, hb3⟩; have y2 := (HT.out.drew.below hb3).box.cell 0; have z2 := (HT.out.drew.below hb3).box.free 0)
          all_goals
            have HTN := Lib.hid ((HT.out.drew.below hb3).set hsl)
            have HBN := Lib.hid ((HB.out.drew.below hb3).other (HT.out.drew.below hb3).box XN.out (.slice B3 m3 d3))
            have HIN := Lib.hid ((HI.out.below ((Below.refl _ _).drew.trans hb3)).set (HT.out.drew.below hb3).box (.slice B3 m3 d3))
            have HLN := Lib.hid ((HL.out.drew.trans (hb3.mono HL.out.size)).setCell (p := ⟨gt, 0, none⟩) XZ.out (.slice B3 m3 d3))
            clear hsl hb3 y2 z2 x0 c1 HB HI HL HT HA
            generalize w7.setCell ⟨gt, 0, none⟩ (.slice B3 m3 d3) = w8 at *
            go_wp2
            go_roundw
            case rel => exact ⟨i + 1, B3, m3, d3, by omega, by go_num, HBN, HTN, HIN, HLN⟩
            case measure => simp [intOf]; omega
        · obtain rfl : i = 4 := by omega
          have x1 := HB.out.box.cell 0
          have C1 := Lib.hid (same_any HB.out.sl HT.out.sl)
          rw [decide_eq_true (rfl : S = S)] at C1
          obtain ⟨t, ht⟩ : ∃ t, hs S n' = t := ⟨_, rfl⟩
          have ht2 : decide (n' ∈ q) = t := by rw [← HP4.out.has]; exact ht
          have HTT := Lib.hid (And.intro ht ht2)
          clear ht ht2 hlt hj
          have hm4 : m ≤ 4 := by have h1 := HP4.out.len; have h2 := HB.out.sl.len; have h3 := HQ.out; omega
          have hm4' : (m : Int) ≤ 4 := by omega
          clear x0
          have x0 := HT.out.box.cell 0
          go_wp2_with fail
          refine C1.out.mono ?_
          rintro e w11 ⟨rfl, q1⟩
          have HB1 := Lib.hid (HB.out.below q1)
          have HI1 := Lib.hid (HI.out.below q1)
          have HL1 := Lib.hid (HL.out.trans (q1.mono HL.out.size))
          have y0 := HB1.out.box.cell 0
          have C2 := Lib.hid (has_any HB1.out.sl n')
          rw [HTT.out.1] at C2
          clear HB HI HL HT x0 x1 q1 C1
          go_wp2_with fail
          refine C2.out.mono ?_
          rintro e w12 ⟨rfl, q2⟩
          have HB2 := Lib.hid (HB1.out.below q2)
          have HI2 := Lib.hid (HI1.out.below q2)
          have HL2 := Lib.hid (HL1.out.trans (q2.mono HL1.out.size))
          have C3 := Lib.hid (has_law HI2.out n')
          rw [HTT.out.2] at C3
          clear HB1 HI1 HL1 y0 q2 C2
          have y0 := HB2.out.box.cell 0
          go_wp2_with fail
          refine C3.out.mono ?_
          rintro e w13 ⟨rfl, rfl⟩
          have C4 := Lib.hid (cover_any HB2.out.sl HI2.out)
          rw [HP4.out.cov] at C4
          have hteq : (t == t) = true := by simp
          go_wp2_with fail
          refine C4.out.mono ?_
          rintro e w14 ⟨rfl, q4⟩
          have HB4 := Lib.hid (HB2.out.below q4)
          have HL4 := Lib.hid (HL2.out.trans (q4.mono HL2.out.size))
          have C5 := Lib.hid (cover_any HB4.out.sl (li_nil w14))
          rw [show cov S [] = true from rfl] at C5
          clear HB2 HI2 HL2 y0 q4 C4 C3
          have y0 := HB4.out.box.cell 0
          go_wp2_with fail
          refine C5.out.mono ?_
          rintro e w15 ⟨rfl, q5⟩
          have HB5 := Lib.hid (HB4.out.below q5)
          have HL5 := Lib.hid (HL4.out.trans (q5.mono HL4.out.size))
          clear HB4 HL4 y0 q5 C5
          have y0 := HB5.out.box.cell 0
          go_wp2
          go_ret
          exact ⟨rfl, HL5.out⟩
end Go.Proofs.Ytadgplpbkephiaa
