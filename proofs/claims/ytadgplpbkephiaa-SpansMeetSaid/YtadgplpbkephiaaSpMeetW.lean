/- The walk of SpansMeet. -/
import Derived.Test.YtadgplpbkephiaaSpExactW
import Derived.Lib.QuietBelow
namespace Go.Proofs.Ytadgplpbkephiaa
open Go.RowKit
set_option linter.unusedVariables false

/-- What the statement gathers. -/
def somB (S : List Sp) (a b : Int) : Nat → Bool
  | 0 => decide (a ≤ b) && (hs S a || hs S b)
  | i + 1 => somB S a b i || (decide (a ≤ (sp S i).1) && decide ((sp S i).1 ≤ b))
theorem somB_iff (S : List Sp) (a b : Int) : ∀ i, somB S a b i = true ↔ (a ≤ b ∧ (hs S a = true ∨ hs S b = true)) ∨ ∃ j, j < i ∧ a ≤ (sp S j).1 ∧ (sp S j).1 ≤ b
  | 0 => by simp [somB]
  | i + 1 => by
    unfold somB
    rw [Bool.or_eq_true, somB_iff S a b i]
    simp only [Bool.and_eq_true, decide_eq_true_eq]
    constructor
    · rintro ((h | ⟨j, hj, h⟩) | h)
      · exact .inl h
      · exact .inr ⟨j, by omega, h⟩
      · exact .inr ⟨i, by omega, h⟩
    · rintro (h | ⟨j, hj, h⟩)
      · exact .inl (.inl h)
      · by_cases e : j = i
        · subst e; exact .inr h
        · exact .inl (.inr ⟨j, by omega, h⟩)
theorem somB_mts {S : List Sp} (h : Rgt S) (a b : Int) : somB S a b S.length = mts S a b := by
  have hp : ∀ p ∈ S, p.1 ≤ p.2 := fun p hp => by
    obtain ⟨i, hi, rfl⟩ := sp_of_mem hp
    exact (h.2 i hi).1
  rw [Bool.eq_iff_iff, somB_iff, mts_true]
  constructor
  · rintro (⟨h1, h2 | h2⟩ | ⟨j, hj, h1, h2⟩)
    · obtain ⟨p, hm, k1, k2⟩ := hs_iff.1 h2
      exact ⟨p, hm, by omega⟩
    · obtain ⟨p, hm, k1, k2⟩ := hs_iff.1 h2
      exact ⟨p, hm, by omega⟩
    · have := hp _ (sp_mem hj)
      exact ⟨_, sp_mem hj, by omega⟩
  · rintro ⟨p, hm, k⟩
    by_cases h1 : a ≤ p.1
    · obtain ⟨i, hi, rfl⟩ := sp_of_mem hm
      exact .inr ⟨i, hi, h1, by omega⟩
    · exact .inl ⟨by omega, .inl (hs_mem hm (by omega) (by omega))⟩
theorem mts_gt {S : List Sp} {a b : Int} (h : ¬ a ≤ b) : mts S a b = false := mts_none fun i _ => by omega
theorem near_100 (x : Int) : ∃ m : Int, ∀ w, Calls Try.prog 10 #[.int .i64 x, .int .u8 100] w fun e w' => e = .returned (.int .i64 m) ∧ Below w.heap.size w w' := near_law x 100 (by omega)
set_option maxRecDepth 100000 in
set_option maxHeartbeats 2000000 in
theorem meet_walk (L : Option Addr) (len cap : Nat) (l : List Int) (a b : Int) (k : Nat) (w : World) (hlen : l.length = len) (hlc : len ≤ cap) (hcm : cap ≤ maxLen) (_ : L = none → cap = 0) (hlies : Lies w L (l.map (Value.int .i64))) (_ : ∀ n ∈ l, (Lit.int .i64 n).wf = true)
    (_ : I64 a) (_ : I64 b) (hk : k < 256) :
    Calls Try.prog 6 #[.slice L len cap, .int .i64 a, .int .i64 b, .int .u8 k] w fun e w' => e = .returned (.bool true) ∧ Below w.heap.size w w' := by
  have hl0 : Li w L len cap l := ⟨hlen, hlies, hlc, hcm⟩
  obtain ⟨k1, hk1⟩ : ∃ k1, k % 160 = k1 := ⟨_, rfl⟩
  obtain ⟨k2, hk2⟩ : ∃ k2, k / 2 = k2 := ⟨_, rfl⟩
  obtain ⟨a', ha⟩ := near_law a k1 (by omega)
  obtain ⟨b', hb⟩ := near_law b k2 (by omega)
  have HA := Lib.hid ha
  have HBB := Lib.hid hb
  have m1 : (k : Int) % 160 = (k1 : Int) := by omega
  have m2 : (k : Int).tmod 160 = (k1 : Int) := by rw [Int.tmod_eq_emod_of_nonneg (by omega)]; exact m1
  have m3 : (k : Int) / 2 = (k2 : Int) := by omega
  have m4 : (k : Int).tdiv 2 = (k2 : Int) := by rw [Int.tdiv_eq_ediv_of_nonneg (by omega)]; exact m3
  have hln := hl0.max
  unfold maxLen at hln
  have HM := Lib.hid (And.intro m1 (And.intro m2 (And.intro m3 m4)))
  have HI0 := Lib.hid hl0
  clear ha hb hk1 hk2 m1 m2 m3 m4 hl0 hlies hcm
  go_enter Try.func6, Try.ntmps6
  go_wp2_with fail
  refine (ex_any _).mono ?_
  rintro e w1 ⟨rfl, b1⟩
  have L1 := Lib.hid (b1.alloc b1.size (.cells #[.slice none 0 0] 24))
  have I1 := Lib.hid (HI0.out.below (b1.alloc b1.size (.cells #[.slice none 0 0] 24)))
  have X1 : Hid (Bx (w1.alloc (.cells #[.slice none 0 0] 24)) w1.heap.size 24 none 0 0 []) := Lib.hid ⟨heap_alloc_new w1 _, sl_nil _⟩
  have Z1 : Hid (w.heap.size ≤ w1.heap.size) := Lib.hid b1.size
  clear b1 HI0
  go_wp2
  generalize w1.alloc (.cells #[.slice none 0 0] 24) = w2 at *
  generalize w1.heap.size = gs at *
  go_loopw [11] (fun iv wr => ∃ (j : Nat) (A : Option Addr) (m e : Nat) (S : List Sp), j ≤ len ∧ j ≤ 10 ∧ iv = .int .i64 j ∧ Hid (Bx wr gs 24 A m e S) ∧ Hid (Rgt S) ∧ Hid (Li wr L len cap l) ∧ Hid (Below w.heap.size w wr)) (fun iv _ => 10 - (intOf iv).toNat)
  case atStart => exact ⟨0, none, 0, 0, [], Nat.zero_le _, Nat.zero_le _, rfl, X1, Lib.hid rgt_nil, I1, L1⟩
  case round =>
    obtain ⟨j, A, m, e, S, hj, hj10, rfl, HB, HR, HI, HL⟩ := hrel
    clear X1 I1 L1
    have x0 := HB.out.box.cell 0
    by_cases hlt : j < len ∧ j < 10
    · obtain ⟨hlt, hlt10⟩ := hlt
      have hlt10' : (j : Int) < 10 := by omega
      obtain ⟨g', off', x, rfl, c1, hx⟩ := HI.out.cel j hlt
      obtain ⟨y, hy⟩ := near_100 x
      have HY := Lib.hid (hy wr.drew)
      clear hx hy
      go_wp2_with fail
      go_region_law (first
        | (go_simp; go_at_call 10; refine HY.out.mono ?_; rintro e w6 ⟨rfl, hb6⟩; have HB6 := Lib.hid (HB.out.drew.below hb6); have x6 := HB6.out.box.cell 0; have HL6 := Lib.hid (HL.out.drew.trans (hb6.mono HL.out.size)); have HI6 := Lib.hid (HI.out.below ((Below.refl _ _).drew.trans hb6)))
        | (go_simp; go_at_call 11; refine (add_any HB6.out.sl y).mono ?_; rintro e w7 ⟨B, m2, d2, rfl, hsl, hb7⟩; have y2 := (HB6.out.below hb7).box.cell 0; have z2 := (HB6.out.below hb7).box.free 0))
      all_goals
        have HBN := Lib.hid ((HB6.out.below hb7).set hsl)
        have HIN := Lib.hid ((HI6.out.below hb7).set (HB6.out.below hb7).box (.slice B m2 d2))
        have HLN := Lib.hid ((HL6.out.trans (hb7.mono HL6.out.size)).setCell (p := ⟨gs, 0, none⟩) Z1.out (.slice B m2 d2))
        have HRN := Lib.hid (add_rgt y HR.out)
        clear hsl hb7 hb6 x6 y2 z2 x0 c1 HB HI HL HR HB6 HL6 HI6 HY
        generalize w7.setCell ⟨gs, 0, none⟩ (.slice B m2 d2) = w8 at *
        go_wp2
        go_roundw
        case rel => exact ⟨j + 1, B, m2, d2, addS S y, by omega, by omega, by go_num, HBN, HRN, HIN, HLN⟩
        case measure => simp [intOf]; omega
    · have HJ := Lib.hid hj
      have HJT := Lib.hid hlt
      have HLT : ((j : Int) < len ∧ ¬ (j : Int) < 10) ∨ ¬ (j : Int) < len := by omega
      have hmath := somB_mts HR.out a' b'
      rw [HB.out.sl.len] at hmath
      obtain ⟨tm, htm⟩ : ∃ tm, mts S a' b' = tm := ⟨_, rfl⟩
      obtain ⟨ta, hta⟩ : ∃ ta, hs S a' = ta := ⟨_, rfl⟩
      obtain ⟨tb, htb⟩ : ∃ tb, hs S b' = tb := ⟨_, rfl⟩
      have h0 : somB S a' b' 0 = (decide (a' ≤ b') && (ta || tb)) := by rw [← hta, ← htb]; rfl
      rw [htm] at hmath
      obtain ⟨s0, hs0⟩ : ∃ s0, somB S a' b' 0 = s0 := ⟨_, rfl⟩
      have h1 : s0 = (decide (a' ≤ b') && (ta || tb)) := by rw [← hs0, h0]
      have HF := Lib.hid (And.intro h1 (And.intro hs0 hmath))
      have HT := Lib.hid (And.intro htm (And.intro hta htb))
      have HG : Hid (¬ a' ≤ b' → tm = false) := Lib.hid fun h => by rw [← htm]; exact mts_gt h
      have hm4 : m ≤ 4 := by have h1 := HR.out.1; have h2 := HB.out.sl.len; omega
      clear hj hj10 hlt h0 h1 hs0 hmath htm hta htb HI
      obtain ⟨m1, m2, m3, m4⟩ := HM.out
      rcases HLT with ⟨hlt, hlt10⟩ | hlt
      all_goals
        go_wp2_with fail
        refine (HA.out _).mono ?_
        rintro e w11 ⟨rfl, q1⟩
        have HB1 := Lib.hid (HB.out.below q1)
        have HL1 := Lib.hid (HL.out.trans (q1.mono HL.out.size))
        clear q1 x0
        go_wp2_with fail
        refine (HBB.out _).mono ?_
        rintro e w12 ⟨rfl, q2⟩
        have HB2 := Lib.hid (HB1.out.below q2)
        have HL2 := Lib.hid (HL1.out.trans (q2.mono HL1.out.size))
        have x2 := HB2.out.box.cell 0
        have CA := Lib.hid (has_any HB2.out.sl a')
        rw [HT.out.2.1] at CA
        clear q2 HB1 HL1
        go_upto_region 11 with fail
        go_cut [12] from 43 to 55 (fun v wx => v = .bool s0 ∧ Hid (Bx wx gs 24 A m e S) ∧ Hid (Below w.heap.size w wx))
        case first =>
          by_cases hab : a' ≤ b'
          · have hd : decide (a' ≤ b') = true := decide_eq_true hab
            have hs1 := HF.out.1
            rw [hd] at hs1
            cases ta with
            | true =>
              rw [show (true && (true || tb)) = true by simp] at hs1
              subst hs1
              go_wp2_with fail
              refine CA.out.mono ?_
              rintro e w14 ⟨rfl, q3⟩
              have HR1 := Lib.hid (And.intro (HB2.out.below q3) (HL2.out.trans (q3.mono HL2.out.size)))
              clear q3 x2
              go_wp2_with fail
              go_meet
              exact ⟨rfl, Lib.hid HR1.out.1, Lib.hid HR1.out.2⟩
            | false =>
              rw [show (true && (false || tb)) = tb by simp] at hs1
              subst hs1
              go_wp2_with fail
              refine CA.out.mono ?_
              rintro e w14 ⟨rfl, q3⟩
              have HB4 := Lib.hid (HB2.out.below q3)
              have HL4 := Lib.hid (HL2.out.trans (q3.mono HL2.out.size))
              have x4 := HB4.out.box.cell 0
              have CB := Lib.hid (has_any HB4.out.sl b')
              rw [HT.out.2.2] at CB
              clear q3 x2
              go_wp2_with fail
              refine CB.out.mono ?_
              rintro e w15 ⟨rfl, q4⟩
              have HR1 := Lib.hid (And.intro (HB4.out.below q4) (HL4.out.trans (q4.mono HL4.out.size)))
              clear q4 x4
              go_wp2_with fail
              go_meet
              exact ⟨rfl, Lib.hid HR1.out.1, Lib.hid HR1.out.2⟩
          · have hd : decide (a' ≤ b') = false := decide_eq_false hab
            have hs1 := HF.out.1
            rw [hd, Bool.false_and] at hs1
            subst hs1
            go_wp2_with fail
            go_meet
            exact ⟨rfl, Lib.hid HB2.out, Lib.hid HL2.out⟩
        case rest =>
        obtain ⟨rfl, HB3, HL3⟩ := hcut
        clear x2 HB2 HL2 CA
        rename World => w13
        have x3 := HB3.out.box.cell 0
        go_wp2
        go_loop [12, 13] (fun t i => ∃ q : Nat, q ≤ m ∧ i = .int .i64 q ∧ t = .bool (somB S a' b' q)) (fun _ i => m - (intOf i).toNat)
        case atStart => exact ⟨0, Nat.zero_le _, rfl, by rw [HF.out.2.1]⟩
        case round =>
          obtain ⟨q, hq, rfl, rfl⟩ := hrel
          by_cases hqm : q < m
          · obtain ⟨g, off, rfl, hg, c1, -⟩ := HB3.out.sl.cel q hqm
            have HNX : Hid (somB S a' b' (q + 1) = (somB S a' b' q || (decide (a' ≤ (sp S q).1) && decide ((sp S q).1 ≤ b')))) := Lib.hid rfl
            generalize (sp S q).1 = x at *
            generalize somB S a' b' q = sq at *
            cases sq with
            | true =>
              go_wp2
              go_round
              case rel => exact ⟨q + 1, by omega, by go_num, by rw [HNX.out]; rfl⟩
              case measure => simp [intOf]; omega
            | false =>
              by_cases g1 : a' ≤ x
              · have d1 : decide (a' ≤ x) = true := decide_eq_true g1
                have HN2 := HNX.out
                rw [d1, Bool.false_or, Bool.true_and] at HN2
                have HN3 := Lib.hid HN2
                clear HN2 HNX
                go_wp2
                go_round
                case rel => exact ⟨q + 1, by omega, by go_num, by rw [HN3.out]⟩
                case measure => simp [intOf]; omega
              · have d1 : decide (a' ≤ x) = false := decide_eq_false g1
                have HN2 := HNX.out
                rw [d1, Bool.false_or, Bool.false_and] at HN2
                have HN3 := Lib.hid HN2
                clear HN2 HNX
                go_wp2
                go_round
                case rel => exact ⟨q + 1, by omega, by go_num, by rw [HN3.out]⟩
                case measure => simp [intOf]; omega
          · obtain rfl : q = m := by omega
            rw [HF.out.2.2]
            have kx : w13.cell? ⟨gs, 0, none⟩ = some (.slice A q e) := HB3.out.box.cell 0
            have kx' := cell_regrown kx
            have cM : ∀ d os, Calls Try.prog 16 #[.agg #[.slice A q e], .int .i64 a', .int .i64 a'] (Go.Sort.grow (redrawn w13 d) os) fun r w'' => r = .returned (.bool ta) ∧ ∃ p : Regrown, w'' = Go.Sort.grow (redrawn w13 p.d) p.os := fun d os => by
              have := meets_any (HB3.out.sl.below (below_regrown w13 d os)) a' a'
              rw [show mts S a' a' = ta from HT.out.2.1] at this
              exact Calls.regrown_of this
            have cN : ∀ d os, Calls Try.prog 16 #[.agg #[.slice A q e], .int .i64 a', .int .i64 b'] (Go.Sort.grow (redrawn w13 d) os) fun r w'' => r = .returned (.bool tm) ∧ ∃ p : Regrown, w'' = Go.Sort.grow (redrawn w13 p.d) p.os := fun d os => by
              have := meets_any (HB3.out.sl.below (below_regrown w13 d os)) a' b'
              rw [HT.out.1] at this
              exact Calls.regrown_of this
            have cH : ∀ d os, Calls Try.prog 14 #[.agg #[.slice A q e], .int .i64 a'] (Go.Sort.grow (redrawn w13 d) os) fun r w'' => r = .returned (.bool ta) ∧ ∃ p : Regrown, w'' = Go.Sort.grow (redrawn w13 p.d) p.os := fun d os => by
              have := has_any (HB3.out.sl.below (below_regrown w13 d os)) a'
              rw [HT.out.2.1] at this
              exact Calls.regrown_of this
            have e1 : (ta == ta) = true := by simp
            have e2 : (tm == tm) = true := by simp
            clear hqm hq
            by_cases hab : a' ≤ b'
            · have hd : decide (a' ≤ b') = true := decide_eq_true hab
              go_wp2_with fail
              refine wp_region_quiet_below (by kernel_rfl) (by kernel_rfl) ?_
              repeat (go_big_quiet_step (first | (with_reducible exact cM _ _) | (with_reducible exact cN _ _) | (with_reducible exact cH _ _)))
              refine wpQuiet_nil ?_
              intro _ hw'
              obtain ⟨⟨dq, osq⟩, hw''⟩ := hw'
              subst hw''
              go_wp2
              go_ret
              exact ⟨rfl, HL3.out.trans ((below_regrown w13 dq osq).mono HL3.out.size)⟩
            · have hd : decide (a' ≤ b') = false := decide_eq_false hab
              have htm := HG.out (by omega)
              subst htm
              go_wp2_with fail
              refine wp_region_quiet_below (by kernel_rfl) (by kernel_rfl) ?_
              repeat (go_big_quiet_step (first | (with_reducible exact cM _ _) | (with_reducible exact cN _ _) | (with_reducible exact cH _ _)))
              refine wpQuiet_nil ?_
              intro _ hw'
              obtain ⟨⟨dq, osq⟩, hw''⟩ := hw'
              subst hw''
              go_wp2
              go_ret
              exact ⟨rfl, HL3.out.trans ((below_regrown w13 dq osq).mono HL3.out.size)⟩
end Go.Proofs.Ytadgplpbkephiaa
