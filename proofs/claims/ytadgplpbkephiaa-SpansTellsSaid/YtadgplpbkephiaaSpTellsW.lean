/- The walk of SpansTells. -/
import Derived.Test.YtadgplpbkephiaaSpRefE
import Derived.Test.YtadgplpbkephiaaSpKeepW
import Derived.Lib.QuietBelow
namespace Go.Proofs.Ytadgplpbkephiaa
open Go.RowKit
set_option linter.unusedVariables false

theorem li_take {w : World} {A : Option Addr} {n c : Nat} {l : List Int} (h : Li w A n c l) (m : Nat) (hm : m ≤ n) : Li w A m c (l.take m) := by
  have h1 := h.len
  have h2 := h.le
  refine ⟨by rw [List.length_take]; omega, fun i u hu => ?_, by omega, h.max⟩
  rw [List.map_take, List.getElem?_take] at hu
  split at hu
  · exact h.lies i u hu
  · cases hu
set_option maxRecDepth 100000 in
set_option maxHeartbeats 2000000 in
theorem tells_walk (A : Option Addr) (n c : Nat) (S0 : List Sp) (own : Bool) (L : Option Addr) (len cap : Nat) (l : List Int) (H : Option Addr) (hn hc : Nat) (hl : List Int) (a b : Int) (k : Nat) (Y : Option Addr) (ny cy : Nat) (Sy : List Sp) (w : World)
    (hS0 : Sl w A n c S0) (hlen : l.length = len) (hlc : len ≤ cap) (hcm : cap ≤ maxLen) (hLn : L = none → cap = 0) (hlies : Lies w L (l.map (Value.int .i64))) (_ : ∀ n ∈ l, (Lit.int .i64 n).wf = true)
    (hhn : hl.length = hn) (hhc : hn ≤ hc) (hhm : hc ≤ maxLen) (_ : H = none → hc = 0) (hhl : Lies w H (hl.map (Value.int .u8))) (hhw : ∀ n ∈ hl, (Lit.int .u8 n).wf = true) (_ : I64 a) (_ : I64 b) (hk : k < 256) (hSy : Sl w Y ny cy Sy) :
    Calls Try.prog 3 #[.agg #[.slice A n c], .bool own, .slice L len cap, .slice H hn hc, .int .i64 a, .int .i64 b, .int .u8 k, .agg #[.slice Y ny cy]] w fun e w' => e = .returned (.bool true) ∧ Below w.heap.size w w' := by
  have HI := Lib.hid (show Li w L len cap l from ⟨hlen, hlies, hlc, hcm⟩)
  have HU := Lib.hid (And.intro hhn (And.intro hhl hhw))
  obtain ⟨k2, hk2⟩ : ∃ k2, k / 2 = k2 := ⟨_, rfl⟩
  obtain ⟨a', ha⟩ := near_law a k hk
  obtain ⟨b', hb⟩ := near_law b k2 (by omega)
  have HA := Lib.hid ha
  have HBB := Lib.hid hb
  have m3 : (k : Int) / 2 = (k2 : Int) := by omega
  have m4 : (k : Int).tdiv 2 = (k2 : Int) := by rw [Int.tdiv_eq_ediv_of_nonneg (by omega)]; exact m3
  have HM := Lib.hid (And.intro m3 m4)
  obtain ⟨m6, hm6⟩ : ∃ m6, min n 6 = m6 := ⟨_, rfl⟩
  obtain ⟨m20, hm20⟩ : ∃ m20, min len 20 = m20 := ⟨_, rfl⟩
  have i6 : min (n : Int) 6 = (m6 : Int) := by omega
  have i6' : m6 ≤ c := by have := hS0.le; omega
  have hx0 := hS0.max
  have HM20 := Lib.hid hm20
  unfold maxLen at hcm hhm hx0
  have hb1 : Below w.heap.size w (w.alloc (.cells #[.slice A n c] 24)) := (Below.refl _ _).alloc (Nat.le_refl _) _
  have hb2 : Below w.heap.size w ((w.alloc (.cells #[.slice A n c] 24)).alloc (.cells #[.slice Y ny cy] 24)) := hb1.alloc hb1.size _
  have hx : Has (w.alloc (.cells #[.slice A n c] 24)) w.heap.size 24 #[.slice A n c] := heap_alloc_new w _
  have kx : Bx ((w.alloc (.cells #[.slice A n c] 24)).alloc (.cells #[.slice Y ny cy] 24)) w.heap.size 24 A n c S0 := ⟨hx.below ((Below.refl _ _).alloc (Nat.le_refl _) _) hx.lt, hS0.below hb2⟩
  have ky : Bx ((w.alloc (.cells #[.slice A n c] 24)).alloc (.cells #[.slice Y ny cy] 24)) (w.heap.size + 1) 24 Y ny cy Sy := ⟨by
    have := heap_alloc_new (w.alloc (.cells #[.slice A n c] 24)) (.cells #[.slice Y ny cy] 24)
    simpa [Has] using this, hSy.below hb2⟩
  have KX := Lib.hid kx
  have KY := Lib.hid ky
  have KL := Lib.hid hb2
  clear hlies hhl hhw ha hb m3 m4 hm6 hm20 hb1 hb2 hx kx ky hS0 hSy
  go_enter Try.func3, Try.ntmps3
  go_wp2_with fail
  refine (ex_any _).mono ?_
  rintro e w1 ⟨rfl, b1⟩
  generalize (w.alloc (.cells #[.slice A n c] 24)).alloc (.cells #[.slice Y ny cy] 24) = w0 at *
  have X1 := Lib.hid (KX.out.below b1)
  have Y1 := Lib.hid (KY.out.below b1)
  have L1 := Lib.hid (KL.out.trans (b1.mono KL.out.size))
  clear b1 KX KY KL
  have x1 := X1.out.box.cell 0
  have z1 := X1.out.box.free 0
  generalize hgx : w.heap.size = gx at *
  have HGX := Lib.hid hgx
  clear hgx
  have XS : Hid (Bx (w1.setCell ⟨gx, 0, none⟩ (.slice A m6 c)) gx 24 A m6 c (S0.take m6)) := Lib.hid (X1.out.set (X1.out.sl.pre m6 (by omega)))
  have YS := Lib.hid (Y1.out.other X1.out.box (Nat.succ_ne_self gx) (.slice A m6 c))
  have LS := Lib.hid (L1.out.setCell (p := ⟨gx, 0, none⟩) (Nat.le_refl _) (.slice A m6 c))
  clear X1 Y1 L1
  go_upto_region 5 with fail
  clear x1 z1
  generalize w1.setCell ⟨gx, 0, none⟩ (.slice A m6 c) = w2 at *
  have x2 := XS.out.box.cell 0
  have z2 := XS.out.box.free 0
  go_upto_if 32 with fail
  go_cut [] from 33 to 33 (fun wx => ∃ (A' : Option Addr) (m' c' : Nat) (S' : List Sp), Hid (Bx wx gx 24 A' m' c' S') ∧ Hid (Bx wx (gx + 1) 24 Y ny cy Sy) ∧ Hid (Below gx w wx))
  case first =>
    cases own with
    | true =>
      go_wp2_with fail
      go_meet
      exact ⟨none, 0, 0, [], Lib.hid (XS.out.set (sl_nil _)), Lib.hid (YS.out.other XS.out.box (Nat.succ_ne_self gx) _), Lib.hid (LS.out.setCell (p := ⟨gx, 0, none⟩) (Nat.le_refl _) _)⟩
    | false =>
      go_wp2_with fail
      go_meet
      exact ⟨A, m6, c, S0.take m6, XS, YS, LS⟩
  case rest =>
  obtain ⟨A1, n1, c1, S1, X3, Y3, L3⟩ := hcut
  clear x2 z2 XS YS LS i6
  rename World => w3
  have x3 := X3.out.box.cell 0
  have HRF : Hid (Calls Try.prog 9 #[.agg #[.slice A1 n1 c1]] w3 fun e w' => e = .returned (.agg #[.slice A1 n1 c1]) ∧ Below w3.heap.size w3 w') := Lib.hid ref_law
  go_wp2_with fail
  refine HRF.out.mono ?_
  rintro e w4 ⟨rfl, b4⟩
  have hsz : gx + 1 < w3.heap.size := Y3.out.box.lt
  have bb := b4.alloc b4.size (.cells #[.slice A1 n1 c1] 28)
  have X5 := Lib.hid (X3.out.below bb)
  have Y5 := Lib.hid (Y3.out.below bb)
  have L5 := Lib.hid (L3.out.trans (bb.mono (by omega)))
  have P5 : Hid (Bx (w4.alloc (.cells #[.slice A1 n1 c1] 28)) w4.heap.size 28 A1 n1 c1 S1) := Lib.hid ⟨heap_alloc_new w4 _, X3.out.sl.below bb⟩
  have hgp : gx + 1 < w4.heap.size := Nat.lt_of_lt_of_le hsz b4.size
  clear bb b4 X3 Y3 L3 x3 hsz HRF
  go_wp2
  generalize w4.alloc (.cells #[.slice A1 n1 c1] 28) = w5 at *
  generalize w4.heap.size = gp at *
  have nxp : gx ≠ gp := by omega
  have nyp : gx + 1 ≠ gp := by omega
  have NP := Lib.hid (And.intro nxp (And.intro nyp (show gx ≤ gp by omega)))
  clear nxp nyp hgp
  go_loopw [19] (fun iv wr => ∃ (j : Nat) (A2 : Option Addr) (n2 c2 : Nat) (B2 : Option Addr) (m2 d2 : Nat) (S2 : List Sp), j ≤ len ∧ j ≤ 20 ∧ iv = .int .i64 j ∧ Hid (Bx wr gx 24 A2 n2 c2 S2) ∧ Hid (Bx wr gp 28 B2 m2 d2 S2) ∧ Hid (Bx wr (gx + 1) 24 Y ny cy Sy) ∧ Hid (Below gx w wr)) (fun iv _ => 20 - (intOf iv).toNat)
  case atStart => exact ⟨0, A1, n1, c1, A1, n1, c1, S1, Nat.zero_le _, Nat.zero_le _, rfl, X5, P5, Y5, L5⟩
  case round =>
    obtain ⟨j, A2, n2, c2, B2, m2, d2, S2, hj, hj20, rfl, HX, HP, HY, HL⟩ := hrel
    clear X5 P5 Y5 L5
    by_cases hlt : j < len ∧ j < 20
    · obtain ⟨hlt, hlt20⟩ := hlt
      have hlt20' : (j : Int) < 20 := by omega
      have HLw : Hid (Below w.heap.size w wr) := Lib.hid (by rw [HGX.out]; exact HL.out)
      obtain ⟨g', off', x, rfl, e1, -⟩ := (HI.out.below HLw.out).cel j hlt
      obtain ⟨y, hy⟩ : ∃ y : Int, (¬ j < hn → y = x) ∧ (j < hn → ∃ (b off k : Nat), H = some ⟨b, off, none⟩ ∧ wr.cell? ⟨b, off + j, none⟩ = some (.int .u8 k) ∧ ∀ w, Calls Try.prog 10 #[.int .i64 x, .int .u8 k] w fun e w' => e = .returned (.int .i64 y) ∧ Below w.heap.size w w') := by
        by_cases h : j < hn
        · obtain ⟨b, off, k, e, hc, hk⟩ := u8_cel HU.out.1 (HU.out.2.1.below HLw.out) HU.out.2.2 j h
          obtain ⟨y, hy⟩ := near_law x k hk
          exact ⟨y, fun h' => absurd h h', fun _ => ⟨b, off, k, e, hc, hy⟩⟩
        · exact ⟨x, fun _ => rfl, fun h' => absurd h' h⟩
      have HYY := Lib.hid hy
      have HJ := Lib.hid (And.intro hj hj20)
      clear hy hj hj20 HLw
      go_upto_if 53 with fail
      go_cut [20] from 53 to 59 (fun t wx => t = .int .i64 y ∧ Hid (Below wr.heap.size wr wx))
      case first =>
        by_cases hjn : j < hn
        · obtain ⟨b, off, k, rfl, c2, hnear⟩ := HYY.out.2 hjn
          have HNR := Lib.hid hnear
          clear hnear
          go_wp2_with fail
          refine (HNR.out _).mono ?_
          rintro e w6 ⟨rfl, b6⟩
          have HB6 := Lib.hid b6
          clear b6
          go_wp2_with fail
          go_meet
          exact ⟨rfl, HB6⟩
        · have hyx := HYY.out.1 hjn
          subst hyx
          go_wp2_with fail
          go_meet
          exact ⟨rfl, Lib.hid (Below.refl _ _)⟩
      case rest =>
      obtain ⟨rfl, HW6⟩ := hcut
      rename World => w6
      have hgw : gx ≤ wr.heap.size := Nat.le_of_lt HX.out.box.lt
      have X6 := Lib.hid (HX.out.below HW6.out)
      have P6 := Lib.hid (HP.out.below HW6.out)
      have Y6 := Lib.hid (HY.out.below HW6.out)
      have L6 := Lib.hid (HL.out.trans (HW6.out.mono hgw))
      have x6 := X6.out.box.cell 0
      have CA := Lib.hid (add_any X6.out.sl y)
      clear e1 HX HP HY HL HW6 HYY hgw
      go_wp2_with fail
      refine CA.out.mono ?_
      rintro e w7 ⟨A3, n3, c3, rfl, hsl, b7⟩
      have y7 := (X6.out.below b7).box.cell 0
      have z7 := (X6.out.below b7).box.free 0
      have hgw : gx ≤ w6.heap.size := Nat.le_of_lt X6.out.box.lt
      have X7 := Lib.hid ((X6.out.below b7).set hsl)
      have P7 := Lib.hid ((P6.out.below b7).other (X6.out.below b7).box (Ne.symm NP.out.1) (.slice A3 n3 c3))
      have Y7 := Lib.hid ((Y6.out.below b7).other (X6.out.below b7).box (Nat.succ_ne_self gx) (.slice A3 n3 c3))
      have L7 := Lib.hid ((L6.out.trans (b7.mono hgw)).setCell (p := ⟨gx, 0, none⟩) (Nat.le_refl _) (.slice A3 n3 c3))
      clear hsl b7 hgw X6 P6 Y6 L6 CA x6
      go_upto_region 15 with fail
      clear y7 z7
      generalize w7.setCell ⟨gx, 0, none⟩ (.slice A3 n3 c3) = w8 at *
      have p8 := P7.out.box.cell 0
      have CB := Lib.hid (add19 P7.out.sl y)
      go_wp2_with fail
      refine CB.out.mono ?_
      rintro e w9 ⟨B3, m3, d3, rfl, hsl, b9⟩
      have y9 := (P7.out.below b9).box.cell 0
      have z9 := (P7.out.below b9).box.free 0
      have hgw : gx ≤ w8.heap.size := Nat.le_of_lt X7.out.box.lt
      have P9 := Lib.hid ((P7.out.below b9).set hsl)
      have X9 := Lib.hid ((X7.out.below b9).other (P7.out.below b9).box NP.out.1 (.slice B3 m3 d3))
      have Y9 := Lib.hid ((Y7.out.below b9).other (P7.out.below b9).box NP.out.2.1 (.slice B3 m3 d3))
      have L9 := Lib.hid ((L7.out.trans (b9.mono hgw)).setCell (p := ⟨gp, 0, none⟩) NP.out.2.2 (.slice B3 m3 d3))
      clear hsl b9 hgw X7 P7 Y7 L7 CB p8
      go_upto_region 16 with fail
      clear y9 z9
      generalize w9.setCell ⟨gp, 0, none⟩ (.slice B3 m3 d3) = w10 at *
      have kx := X9.out.box.cell 0
      have kp := P9.out.box.cell 0
      have kx' : ∀ d os, (Go.Sort.grow (redrawn w10 d) os).cell? ⟨gx, 0, none⟩ = some (.slice A3 n3 c3) := cell_regrown kx
      have kp' : ∀ d os, (Go.Sort.grow (redrawn w10 d) os).cell? ⟨gp, 0, none⟩ = some (.slice B3 m3 d3) := cell_regrown kp
      have cR : ∀ d os, Calls Try.prog 9 #[.agg #[.slice A3 n3 c3]] (Go.Sort.grow (redrawn w10 d) os) fun r w'' => r = .returned (.agg #[.slice A3 n3 c3]) ∧ ∃ p : Regrown, w'' = Go.Sort.grow (redrawn w10 p.d) p.os := fun d os => Calls.regrown_of ref_law
      have cS : ∀ d os, Calls Try.prog 13 #[.agg #[.slice A3 n3 c3], .agg #[.slice B3 m3 d3]] (Go.Sort.grow (redrawn w10 d) os) fun r w'' => r = .returned (.bool true) ∧ ∃ p : Regrown, w'' = Go.Sort.grow (redrawn w10 p.d) p.os := fun d os => by
        have := same19 (X9.out.sl.below (below_regrown w10 d os)) (P9.out.sl.below (below_regrown w10 d os))
        rw [decide_eq_true (rfl : addS S2 y = addS S2 y)] at this
        exact Calls.regrown_of this
      refine wp_region_quiet_below (by kernel_rfl) (by kernel_rfl) ?_
      repeat (go_big_quiet_step (first | (with_reducible exact cR _ _) | (with_reducible exact cS _ _)))
      refine wpQuiet_nil ?_
      intro _ hw'
      obtain ⟨⟨dq, osq⟩, hw''⟩ := hw'
      subst hw''
      have bq := below_regrown w10 dq osq
      have hgw : gx ≤ w10.heap.size := Nat.le_of_lt X9.out.box.lt
      have X11 := Lib.hid (X9.out.below bq)
      have P11 := Lib.hid (P9.out.below bq)
      have Y11 := Lib.hid (Y9.out.below bq)
      have L11 := Lib.hid (L9.out.trans (bq.mono hgw))
      clear bq hgw kx kp kx' kp' cR cS
      go_wp2
      go_roundw
      case rel => exact ⟨j + 1, A3, n3, c3, B3, m3, d3, addS S2 y, by omega, by omega, by go_num, X11, P11, Y11, L11⟩
      case measure => simp [intOf]; omega
    · have hLT : ((j : Int) < len ∧ ¬ (j : Int) < 20) ∨ ¬ (j : Int) < len := by omega
      obtain ⟨m3, m4⟩ := HM.out
      have i20 : min (len : Int) 20 = (m20 : Int) := by have := HM20.out; omega
      have i20' : m20 ≤ cap := by have := HM20.out; omega
      have i20'' : m20 ≤ len := by have := HM20.out; omega
      obtain ⟨ta, hta⟩ : ∃ t, hs S2 a' = t := ⟨_, rfl⟩
      obtain ⟨tm, htm⟩ : ∃ t, mts S2 a' b' = t := ⟨_, rfl⟩
      obtain ⟨tc, htc⟩ : ∃ t, cov S2 (l.take m20) = t := ⟨_, rfl⟩
      obtain ⟨tr, htr⟩ : ∃ t, decide (Rgt S2) = t := ⟨_, rfl⟩
      obtain ⟨ts, hts⟩ : ∃ t, decide (S2 = Sy) = t := ⟨_, rfl⟩
      have HT := Lib.hid (And.intro hta (And.intro htm (And.intro htc (And.intro htr hts))))
      have f1 : (ta == ta) = true := by simp
      have f2 : (tm == tm) = true := by simp
      have f3 : (tc == tc) = true := by simp
      have f4 : (tr == tr) = true := by simp
      have f5 : (ts == ts) = true := by simp
      clear hta htm htc htr hts hlt hj hj20
      rcases hLT with ⟨h1, h2⟩ | h1
      all_goals
        go_wp2_with fail
        refine (HA.out _).mono ?_
        rintro e w11 ⟨rfl, b11⟩
        have hgw : gx ≤ wr.heap.size := Nat.le_of_lt HX.out.box.lt
        have X11 := Lib.hid (HX.out.below b11)
        have P11 := Lib.hid (HP.out.below b11)
        have Y11 := Lib.hid (HY.out.below b11)
        have L11 := Lib.hid (HL.out.trans (b11.mono hgw))
        clear b11 hgw
        go_wp2_with fail
        refine (HBB.out _).mono ?_
        rintro e w12 ⟨rfl, b12⟩
        have hgw : gx ≤ w11.heap.size := Nat.le_of_lt X11.out.box.lt
        have X12 := Lib.hid (X11.out.below b12)
        have P12 := Lib.hid (P11.out.below b12)
        have Y12 := Lib.hid (Y11.out.below b12)
        have L12 := Lib.hid (L11.out.trans (b12.mono hgw))
        clear b12 hgw X11 P11 Y11 L11
        have I12 : Hid (Li w12 L m20 cap (l.take m20)) := Lib.hid (li_take (HI.out.below (by rw [HGX.out]; exact L12.out)) m20 i20'')
        have kx := X12.out.box.cell 0
        have kp := P12.out.box.cell 0
        have ky := Y12.out.box.cell 0
        have kx' : ∀ d os, (Go.Sort.grow (redrawn w12 d) os).cell? ⟨gx, 0, none⟩ = some (.slice A2 n2 c2) := cell_regrown kx
        have kp' : ∀ d os, (Go.Sort.grow (redrawn w12 d) os).cell? ⟨gp, 0, none⟩ = some (.slice B2 m2 d2) := cell_regrown kp
        have ky' : ∀ d os, (Go.Sort.grow (redrawn w12 d) os).cell? ⟨gx + 1, 0, none⟩ = some (.slice Y ny cy) := cell_regrown ky
        have cH : ∀ d os, Calls Try.prog 14 #[.agg #[.slice A2 n2 c2], .int .i64 a'] (Go.Sort.grow (redrawn w12 d) os) fun r w'' => r = .returned (.bool ta) ∧ ∃ p : Regrown, w'' = Go.Sort.grow (redrawn w12 p.d) p.os := fun d os => by
          have := has_any (X12.out.sl.below (below_regrown w12 d os)) a'
          rw [HT.out.1] at this
          exact Calls.regrown_of this
        have cH' : ∀ d os, Calls Try.prog 15 #[.agg #[.slice B2 m2 d2], .int .i64 a'] (Go.Sort.grow (redrawn w12 d) os) fun r w'' => r = .returned (.bool ta) ∧ ∃ p : Regrown, w'' = Go.Sort.grow (redrawn w12 p.d) p.os := fun d os => by
          have := has19 (P12.out.sl.below (below_regrown w12 d os)) a'
          rw [HT.out.1] at this
          exact Calls.regrown_of this
        have cM : ∀ d os, Calls Try.prog 16 #[.agg #[.slice A2 n2 c2], .int .i64 a', .int .i64 b'] (Go.Sort.grow (redrawn w12 d) os) fun r w'' => r = .returned (.bool tm) ∧ ∃ p : Regrown, w'' = Go.Sort.grow (redrawn w12 p.d) p.os := fun d os => by
          have := meets_any (X12.out.sl.below (below_regrown w12 d os)) a' b'
          rw [HT.out.2.1] at this
          exact Calls.regrown_of this
        have cM' : ∀ d os, Calls Try.prog 17 #[.agg #[.slice B2 m2 d2], .int .i64 a', .int .i64 b'] (Go.Sort.grow (redrawn w12 d) os) fun r w'' => r = .returned (.bool tm) ∧ ∃ p : Regrown, w'' = Go.Sort.grow (redrawn w12 p.d) p.os := fun d os => by
          have := meets19 (P12.out.sl.below (below_regrown w12 d os)) a' b'
          rw [HT.out.2.1] at this
          exact Calls.regrown_of this
        have cC : ∀ d os, Calls Try.prog 18 #[.agg #[.slice A2 n2 c2], .slice L m20 cap] (Go.Sort.grow (redrawn w12 d) os) fun r w'' => r = .returned (.bool tc) ∧ ∃ p : Regrown, w'' = Go.Sort.grow (redrawn w12 p.d) p.os := fun d os => by
          have := cover_any (X12.out.sl.below (below_regrown w12 d os)) (I12.out.below (below_regrown w12 d os))
          rw [HT.out.2.2.1] at this
          exact Calls.regrown_of this
        have cC' : ∀ d os, Calls Try.prog 19 #[.agg #[.slice B2 m2 d2], .slice L m20 cap] (Go.Sort.grow (redrawn w12 d) os) fun r w'' => r = .returned (.bool tc) ∧ ∃ p : Regrown, w'' = Go.Sort.grow (redrawn w12 p.d) p.os := fun d os => by
          have := cover19 (P12.out.sl.below (below_regrown w12 d os)) (I12.out.below (below_regrown w12 d os))
          rw [HT.out.2.2.1] at this
          exact Calls.regrown_of this
        have cG : ∀ d os, Calls Try.prog 20 #[.agg #[.slice A2 n2 c2]] (Go.Sort.grow (redrawn w12 d) os) fun r w'' => r = .returned (.bool tr) ∧ ∃ p : Regrown, w'' = Go.Sort.grow (redrawn w12 p.d) p.os := fun d os => by
          have := right_any (X12.out.sl.below (below_regrown w12 d os))
          rw [HT.out.2.2.2.1] at this
          exact Calls.regrown_of this
        have cG' : ∀ d os, Calls Try.prog 21 #[.agg #[.slice B2 m2 d2]] (Go.Sort.grow (redrawn w12 d) os) fun r w'' => r = .returned (.bool tr) ∧ ∃ p : Regrown, w'' = Go.Sort.grow (redrawn w12 p.d) p.os := fun d os => by
          have := right19 (P12.out.sl.below (below_regrown w12 d os))
          rw [HT.out.2.2.2.1] at this
          exact Calls.regrown_of this
        have cS : ∀ d os, Calls Try.prog 22 #[.agg #[.slice A2 n2 c2], .agg #[.slice Y ny cy]] (Go.Sort.grow (redrawn w12 d) os) fun r w'' => r = .returned (.bool ts) ∧ ∃ p : Regrown, w'' = Go.Sort.grow (redrawn w12 p.d) p.os := fun d os => by
          have := same_any (X12.out.sl.below (below_regrown w12 d os)) (Y12.out.sl.below (below_regrown w12 d os))
          rw [HT.out.2.2.2.2] at this
          exact Calls.regrown_of this
        have cS' : ∀ d os, Calls Try.prog 13 #[.agg #[.slice B2 m2 d2], .agg #[.slice Y ny cy]] (Go.Sort.grow (redrawn w12 d) os) fun r w'' => r = .returned (.bool ts) ∧ ∃ p : Regrown, w'' = Go.Sort.grow (redrawn w12 p.d) p.os := fun d os => by
          have := same19 (P12.out.sl.below (below_regrown w12 d os)) (Y12.out.sl.below (below_regrown w12 d os))
          rw [HT.out.2.2.2.2] at this
          exact Calls.regrown_of this
        have cR : ∀ d os, Calls Try.prog 9 #[.agg #[.slice Y ny cy]] (Go.Sort.grow (redrawn w12 d) os) fun r w'' => r = .returned (.agg #[.slice Y ny cy]) ∧ ∃ p : Regrown, w'' = Go.Sort.grow (redrawn w12 p.d) p.os := fun d os => by
          exact Calls.regrown_of ref_law
        have cT : ∀ d os, Calls Try.prog 22 #[.agg #[.slice A2 n2 c2], .agg #[.slice A2 n2 c2]] (Go.Sort.grow (redrawn w12 d) os) fun r w'' => r = .returned (.bool true) ∧ ∃ p : Regrown, w'' = Go.Sort.grow (redrawn w12 p.d) p.os := fun d os => by
          have := same_any (X12.out.sl.below (below_regrown w12 d os)) (X12.out.sl.below (below_regrown w12 d os))
          rw [decide_eq_true (rfl : S2 = S2)] at this
          exact Calls.regrown_of this
        go_upto_region 21 with fail
        refine wp_region_quiet_below (by kernel_rfl) (by kernel_rfl) ?_
        repeat (go_big_quiet_step (first | (with_reducible exact cH _ _) | (with_reducible exact cH' _ _) | (with_reducible exact cM _ _) | (with_reducible exact cM' _ _) | (with_reducible exact cC _ _) | (with_reducible exact cC' _ _) | (with_reducible exact cG _ _) | (with_reducible exact cG' _ _) | (with_reducible exact cS _ _) | (with_reducible exact cS' _ _) | (with_reducible exact cR _ _) | (with_reducible exact cT _ _)))
        refine wpQuiet_nil ?_
        intro _ hw'
        obtain ⟨⟨dq, osq⟩, hw''⟩ := hw'
        subst hw''
        have hgw : gx ≤ w12.heap.size := Nat.le_of_lt X12.out.box.lt
        go_wp2
        go_ret
        exact ⟨rfl, by rw [HGX.out]; exact L12.out.trans ((below_regrown w12 dq osq).mono hgw)⟩
end Go.Proofs.Ytadgplpbkephiaa
