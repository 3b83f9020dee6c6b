/- The walk of SpansKeep. -/
import Derived.Test.YtadgplpbkephiaaSpNums
namespace Go.Proofs.Ytadgplpbkephiaa
open Go.RowKit
set_option linter.unusedVariables false

/-- A slice of bytes: what lies in it. -/
theorem u8_cel {w : World} {A : Option Addr} {n : Nat} {l : List Int} (hn : l.length = n) (hl : Lies w A (l.map (Value.int .u8))) (hw : ∀ x ∈ l, (Lit.int .u8 x).wf = true) (i : Nat) (hi : i < n) :
    ∃ b off, ∃ x : Nat, A = some ⟨b, off, none⟩ ∧ w.cell? ⟨b, off + i, none⟩ = some (.int .u8 x) ∧ x < 256 := by
  have hl' : i < l.length := by omega
  obtain ⟨b, off, e, hc⟩ := hl.at_ (i := i) (u := .int .u8 l[i]) (by simp [List.getElem?_map, List.getElem?_eq_getElem hl'])
  have hb : 0 ≤ l[i] ∧ l[i] ≤ 255 := by simpa [Lit.wf, IntKind.min, IntKind.max, IntKind.signed, IntKind.bits] using hw l[i] (List.getElem_mem hl')
  refine ⟨b, off, l[i].toNat, e, ?_, by omega⟩
  rw [hc, show ((l[i].toNat : Nat) : Int) = l[i] by omega]
theorem Ow.belN {w0 w w' : World} {B base : Nat} {v : Value} {l : List Int} (h : Below B w0 w) (hB : B ≤ w.heap.size) (hg : w.grownBy w' v.ownBlock) (own : On w base v l) (hb : B ≤ base) : Below B w0 w' :=
  h.grown hg hB (fun g e => Nat.le_trans hb (World.ownsRow.lt own g e).1)
set_option maxRecDepth 100000 in
set_option maxHeartbeats 2000000 in
theorem keep_walk (L : Option Addr) (len cap : Nat) (l : List Int) (H : Option Addr) (hn hc : Nat) (hl : List Int) (w : World)
    (hlen : l.length = len) (hlc : len ≤ cap) (hcm : cap ≤ maxLen) (_ : L = none → cap = 0) (hlies : Lies w L (l.map (Value.int .i64))) (_ : ∀ n ∈ l, (Lit.int .i64 n).wf = true)
    (hhn : hl.length = hn) (hhc : hn ≤ hc) (hhm : hc ≤ maxLen) (_ : H = none → hc = 0) (hhl : Lies w H (hl.map (Value.int .u8))) (hhw : ∀ n ∈ hl, (Lit.int .u8 n).wf = true) :
    Calls Try.prog 4 #[.slice L len cap, .slice H hn hc] w fun e w' => e = .returned (.bool true) ∧ Below w.heap.size w w' := by
  have HI := Lib.hid (show Li w L len cap l from ⟨hlen, hlies, hlc, hcm⟩)
  have HU := Lib.hid (And.intro hhn (And.intro hhl hhw))
  unfold maxLen at hcm hhm
  clear hlies hhl hhw
  go_enter Try.func4, Try.ntmps4
  go_wp2_with fail
  refine (ex_any _).mono ?_
  rintro e w1 ⟨rfl, b1⟩
  have L1 := Lib.hid (b1.alloc b1.size (.cells #[.slice none 0 0] 24))
  have X1 : Hid (Bx (w1.alloc (.cells #[.slice none 0 0] 24)) w1.heap.size 24 none 0 0 []) := Lib.hid ⟨heap_alloc_new w1 _, sl_nil _⟩
  have Z1 : Hid (w.heap.size ≤ w1.heap.size) := Lib.hid b1.size
  have O1 : Hid (On (w1.alloc (.cells #[.slice none 0 0] 24)) (w1.heap.size + 1) (.slice none 0 0) []) := Lib.hid (on_nil _ _)
  have Y1 : Hid (w1.heap.size + 1 ≤ (w1.alloc (.cells #[.slice none 0 0] 24)).heap.size) := Lib.hid (by simp)
  clear b1
  go_wp2
  generalize w1.alloc (.cells #[.slice none 0 0] 24) = w2 at *
  generalize w1.heap.size = gs at *
  go_loopw [7, 8] (fun v iv wr => ∃ (j : Nat) (A : Option Addr) (m e : Nat) (S : List Sp) (q : List Int), j ≤ len ∧ j ≤ 40 ∧ q.length = j ∧ iv = .int .i64 j ∧ Hid (Bx wr gs 24 A m e S) ∧ Hid (Kept S q) ∧ Hid (On wr (gs + 1) v q) ∧ Hid (Dj v A m) ∧ Hid (gs + 1 ≤ wr.heap.size) ∧ Hid (Below w.heap.size w wr)) (fun _ iv _ => 40 - (intOf iv).toNat)
  case atStart => exact ⟨0, none, 0, 0, [], [], Nat.zero_le _, Nat.zero_le _, rfl, rfl, X1, Lib.hid kept_nil, O1, Lib.hid (fun _ b off e => by cases e), Y1, L1⟩
  case round =>
    obtain ⟨j, A, m, e, S, q, hj, hj40, hq, rfl, HB, HK, HO, HD, HY, HL⟩ := hrel
    clear X1 O1 Y1 L1
    have x0 := HB.out.box.cell 0
    have HJ := Lib.hid (And.intro hj (And.intro hj40 hq))
    by_cases hlt : j < len ∧ j < 40
    · obtain ⟨hlt, hlt40⟩ := hlt
      have hlt40' : (j : Int) < 40 := by omega
      obtain ⟨g', off', x, rfl, c1, -⟩ := (HI.out.below HL.out).cel j hlt
      obtain ⟨y, hy⟩ : ∃ y : Int, (¬ j < hn → y = x) ∧ (j < hn → ∃ (b off k : Nat), H = some ⟨b, off, none⟩ ∧ wr.cell? ⟨b, off + j, none⟩ = some (.int .u8 k) ∧ ∀ w, Calls Try.prog 10 #[.int .i64 x, .int .u8 k] w fun e w' => e = .returned (.int .i64 y) ∧ Below w.heap.size w w') := by
        by_cases h : j < hn
        · obtain ⟨b, off, k, e, hc, hk⟩ := u8_cel HU.out.1 (HU.out.2.1.below HL.out) HU.out.2.2 j h
          obtain ⟨y, hy⟩ := near_law x k hk
          exact ⟨y, fun h' => absurd h h', fun _ => ⟨b, off, k, e, hc, hy⟩⟩
        · exact ⟨x, fun _ => rfl, fun h' => absurd h' h⟩
      have HYY := Lib.hid hy
      clear hy hq hj hj40
      go_upto_if 32 with fail
      go_cut [9] from 32 to 38 (fun t wx => t = .int .i64 y ∧ Hid (Below wr.heap.size wr wx))
      case first =>
        by_cases hjn : j < hn
        · obtain ⟨b, off, k, rfl, c2, hnear⟩ := HYY.out.2 hjn
          have HNR := Lib.hid hnear
          clear hnear
          go_wp2_with fail
          refine (HNR.out _).mono ?_
          rintro e w3 ⟨rfl, b3⟩
          have HB3 := Lib.hid b3
          clear b3
          go_wp2_with fail
          go_meet
          exact ⟨rfl, HB3⟩
        · have hyx := HYY.out.1 hjn
          subst hyx
          go_wp2_with fail
          go_meet
          exact ⟨rfl, Lib.hid (Below.refl _ _)⟩
      case rest =>
      obtain ⟨rfl, HW3⟩ := hcut
      rename World => w3
      have HB3 := Lib.hid (HB.out.below HW3.out)
      have HO3 := Lib.hid (HO.out.below HW3.out)
      have HL3 := Lib.hid (HL.out.trans (HW3.out.mono HL.out.size))
      have HY3 : Hid (gs + 1 ≤ w3.heap.size) := Lib.hid (Nat.le_trans HY.out HW3.out.size)
      have x3 := HB3.out.box.cell 0
      have CA := Lib.hid (add_anyN HB3.out.sl y)
      have HKN := Lib.hid (HK.out.next y)
      clear x0 c1 HB HO HL HY HK HW3 HYY
      go_wp2_with fail
      refine CA.out.mono ?_
      rintro e w4 ⟨B, m2, d2, rfl, hsl, b4, hnw⟩
      have y4 := (HB3.out.below b4).box.cell 0
      have z4 := (HB3.out.below b4).box.free 0
      have HB4 := Lib.hid ((HB3.out.below b4).set hsl)
      have HO4 := Lib.hid ((HO3.out.below b4).set (Nat.lt_succ_self gs) (.slice B m2 d2))
      have HL4 := Lib.hid ((HL3.out.trans (b4.mono HL3.out.size)).setCell (p := ⟨gs, 0, none⟩) Z1.out (.slice B m2 d2))
      have HY4 : Hid (gs + 1 ≤ (w4.setCell ⟨gs, 0, none⟩ (.slice B m2 d2)).heap.size) := Lib.hid (by have := HY3.out; have := b4.size; simp [World.setCell]; omega)
      have hkm : m2 ≤ 4 ∧ 0 < m2 := by
        have h1 := HKN.out.rgt.1
        have h2 := hsl.len
        refine ⟨by omega, ?_⟩
        rcases Nat.eq_zero_or_pos m2 with h0 | h0
        · have h3 : addS S y = [] := List.eq_nil_of_length_eq_zero (by omega)
          have h4 := HKN.out.had y (by simp)
          rw [h3] at h4
          cases h4
        · exact h0
      have HD4 : Hid (Dj u7 B m2) := Lib.hid fun _ b off eb ev => by
        rcases hnw with ⟨e1, e2⟩ | e1
        · exact HD.out (by have := hkm.2; omega) b off (by rw [← e1]; exact eb) ev
        · have h1 := e1 b off eb
          have h2 := (World.ownsRow.lt HO3.out b ev).2
          omega
      clear hsl b4 hnw HB3 HO3 HL3 HY3 HD CA x3
      go_upto_region 13 with fail
      clear y4 z4
      generalize w4.setCell ⟨gs, 0, none⟩ (.slice B m2 d2) = w5 at *
      have ba : Below w5.heap.size w5 (w5.alloc (.cells #[.int .i64 y] 2)) := (Below.refl _ _).alloc (Nat.le_refl _) _
      obtain ⟨v', w6, hr, ho6, hg6, hv6⟩ := num_app (HO4.out.below ba) (Nat.le_trans HY4.out ba.size) (li_lit w5 [y] (n := 1) rfl) (fun e => by cases e) (by have h1 := HJ.out.2.2; simp; omega)
      have hvg : u7.ownBlock ≠ some gs := fun ev => by have := (World.ownsRow.lt HO4.out gs ev).1; omega
      have HB6 := Lib.hid ((HB4.out.below ba).grow hg6 hvg (fun h0 b off eb => HD4.out h0 b off eb))
      have HD6 : Hid (Dj v' B m2) := Lib.hid fun h0 b off eb ev => by
        rcases hv6 with e1 | e1
        · exact HD4.out h0 b off eb (by rw [← e1]; exact ev)
        · rw [e1] at ev
          have h1 : w5.heap.size + 1 = b := by simpa using ev
          obtain ⟨b2, off2, e2, h2, -⟩ := HB4.out.sl.cel 0 h0
          rw [eb] at e2
          cases e2
          omega
      have HY6 : Hid (gs + 1 ≤ w6.heap.size) := Lib.hid (Nat.le_trans HY4.out (Nat.le_trans ba.size hg6.size))
      have HL6 := Lib.hid (Ow.belN (HL4.out.trans (ba.mono HL4.out.size)) (Nat.le_trans HL4.out.size ba.size) hg6 (HO4.out.below ba) (Nat.le_trans Z1.out (Nat.le_succ gs)))
      have HO6 := Lib.hid ho6
      have HR := Lib.hid hr
      clear ba hr ho6 hg6 hv6 hvg HB4 HO4 HL4 HY4 HD4
      obtain ⟨A2, c2, hv2, hli⟩ := HO6.out.li
      have hq1 : (q ++ [y]).length = j + 1 := by simp [HJ.out.2.2]
      rw [hq1] at hv2 hli
      obtain ⟨j1, hj1⟩ : ∃ j1, j + 1 = j1 := ⟨_, rfl⟩
      rw [hj1] at hv2 hli
      have HI6 := Lib.hid hli
      have HQ1 := Lib.hid (And.intro hq1 hj1)
      subst hv2
      have x6 := HB6.out.box.cell 0
      have CR := Lib.hid (right_any HB6.out.sl)
      rw [decide_eq_true HKN.out.rgt] at CR
      have hm4 : ¬ (4 : Int) < (m2 : Int) := by have := hkm.1; omega
      have hm5 := hkm.2
      have HM := Lib.hid hkm
      clear hli hq1 hj1 hkm
      go_wp2_with (at_builtin; refine wpList_app HR.out rfl rfl rfl rfl rfl ?_)
      refine CR.out.mono ?_
      rintro e w7 ⟨rfl, b7⟩
      have HB7 := Lib.hid (HB6.out.below b7)
      have HI7 := Lib.hid (HI6.out.below b7)
      have HO7 := Lib.hid (HO6.out.below b7)
      have HL7 := Lib.hid (HL6.out.trans (b7.mono HL6.out.size))
      have HY7 : Hid (gs + 1 ≤ w7.heap.size) := Lib.hid (Nat.le_trans HY6.out b7.size)
      have x7 := HB7.out.box.cell 0
      have CC := Lib.hid (cover_any HB7.out.sl HI7.out)
      rw [HKN.out.all] at CC
      clear b7 x6 HB6 HI6 HO6 HL6 HY6 CR HR
      go_wp2_with fail
      refine CC.out.mono ?_
      rintro e w8 ⟨rfl, b8⟩
      have HB8 := Lib.hid (HB7.out.below b8)
      have HI8 := Lib.hid (HI7.out.below b8)
      have HO8 := Lib.hid (HO7.out.below b8)
      have HL8 := Lib.hid (HL7.out.trans (b8.mono HL7.out.size))
      have HY8 : Hid (gs + 1 ≤ w8.heap.size) := Lib.hid (Nat.le_trans HY7.out b8.size)
      have x8 := HB8.out.box.cell 0
      clear b8 x7 HB7 HI7 HO7 HL7 HY7 CC
      go_wp2
      go_loop [10] (fun iv => ∃ k : Nat, k ≤ m2 ∧ iv = .int .i64 k) (fun iv => m2 - (intOf iv).toNat)
      case atStart => exact ⟨0, Nat.zero_le _, rfl⟩
      case round =>
        obtain ⟨k, hk, rfl⟩ := hrel
        by_cases hkm : k < m2
        · obtain ⟨b, off, rfl, hb, d1, d2'⟩ := HB8.out.sl.cel k hkm
          have hen := HKN.out.ends _ (sp_mem (S := addS S y) (i := k) (by rw [HB8.out.sl.len]; exact hkm))
          have C1 := Lib.hid (has_law HI8.out (sp (addS S y) k).1)
          have C2 := Lib.hid (has_law HI8.out (sp (addS S y) k).2)
          rw [decide_eq_true hen.1] at C1
          rw [decide_eq_true hen.2] at C2
          clear hen
          generalize (sp (addS S y) k).1 = lo at *
          generalize (sp (addS S y) k).2 = hi at *
          go_wp2_with fail
          refine C1.out.mono ?_
          rintro e w9 ⟨rfl, rfl⟩
          go_wp2_with fail
          refine C2.out.mono ?_
          rintro e w9 ⟨rfl, rfl⟩
          go_wp2
          go_round
          case rel => exact ⟨k + 1, by omega, by go_num⟩
          case measure => simp [intOf]; omega
        · have hkk : k = m2 := by omega
          go_wp2
          go_roundw
          case rel => exact ⟨j + 1, B, m2, d2, addS S y, q ++ [y], by omega, by omega, HQ1.out.1, by go_num, HB8, HKN, HO8, HD6, HY8, HL8⟩
          case measure => simp [intOf]; omega
    · obtain ⟨A2, c2, hv2, -⟩ := HO.out.li
      rw [hq] at hv2
      subst hv2
      have hs : j = 0 → m = 0 := fun h0 => by
        have hq0 : q = [] := List.eq_nil_of_length_eq_zero (by omega)
        have hk := HK.out
        rw [hq0] at hk
        have h1 := HB.out.sl.len
        rw [hk.none] at h1
        exact h1.symm
      have HLT : ((j : Int) < len ∧ ¬ (j : Int) < 40) ∨ ¬ (j : Int) < len := by omega
      clear hlt hq HO HK HD HY HB
      by_cases hj0 : 0 < j
      · have hj0' : decide ((0 : Int) < (j : Int)) = true := decide_eq_true (by omega)
        rcases HLT with ⟨h1, h2⟩ | h1
        all_goals
          go_wp2
          go_ret
          exact ⟨rfl, HL.out⟩
      · have hj0' : decide ((0 : Int) < (j : Int)) = false := decide_eq_false (by omega)
        obtain rfl : m = 0 := hs (by omega)
        rcases HLT with ⟨h1, h2⟩ | h1
        · exact absurd (show (j : Int) < 40 by omega) h2
        · go_wp2
          go_ret
          exact ⟨rfl, HL.out⟩
end Go.Proofs.Ytadgplpbkephiaa
