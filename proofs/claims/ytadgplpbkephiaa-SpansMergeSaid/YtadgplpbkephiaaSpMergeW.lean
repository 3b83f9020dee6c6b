/- The walk of SpansMerge. -/
import Derived.Test.YtadgplpbkephiaaSpMerged
import Derived.Test.YtadgplpbkephiaaSpNums
namespace Go.Proofs.Ytadgplpbkephiaa
open Go.RowKit
set_option linter.unusedVariables false

/-- The distances, one by one. -/
def qv (q0 q1 q2 q3 q4 : Nat) (j : Nat) : Int := ([q0, q1, q2, q3, q4].getD j 0 : Nat)
/-- The numbers, one by one. -/
def px (f : Nat → Int) : Nat → Int
  | 0 => -3
  | j + 1 => px f j + 2 + f j
def ats (f : Nat → Int) : Nat → List Int
  | 0 => []
  | j + 1 => ats f j ++ [px f (j + 1)]
theorem ats_len (f : Nat → Int) : ∀ j, (ats f j).length = j
  | 0 => rfl
  | j + 1 => by simp [ats, ats_len f j]
def mS (P : List Int) : Nat → List Sp
  | 0 => []
  | j + 1 => addS (mS P j) (P.getD (j * 3 % 5) 0)
theorem px_b {f : Nat → Int} (h : ∀ j, 0 ≤ f j ∧ f j ≤ 255) : ∀ j, -3 ≤ px f j ∧ px f j ≤ 257 * j
  | 0 => by simp [px]
  | j + 1 => by
    have := px_b h j
    have := h j
    unfold px
    omega
theorem mS_five {f : Nat → Int} (h : ∀ j, 0 ≤ f j ∧ f j ≤ 255) : ∃ i0, Mg (mS (ats f 5) 5) (ats f 5) i0 := by
  have e : ats f 5 = five (px f 1) (px f 2) (px f 3) (px f 4) (px f 5) := rfl
  have b1 := px_b h 1
  have b5 := px_b h 5
  have g1 := h 1
  have g2 := h 2
  have g3 := h 3
  have g4 := h 4
  have s1 : px f 2 = px f 1 + 2 + f 1 := rfl
  have s2 : px f 3 = px f 2 + 2 + f 2 := rfl
  have s3 : px f 4 = px f 3 + 2 + f 3 := rfl
  have s4 : px f 5 = px f 4 + 2 + f 4 := rfl
  rw [e]
  exact merge_math (p0 := px f 1) (p1 := px f 2) (p2 := px f 3) (p3 := px f 4) (p4 := px f 5) b1.1 (by omega) (by omega) (by omega) (by omega) (by omega)
set_option maxRecDepth 100000 in
set_option maxHeartbeats 2000000 in
theorem merge_few (f : Nat → Int) (arr : Array Value) (w : World) (hf : ∀ j, 0 ≤ f j ∧ f j ≤ 255) (harr : ∀ j, j < 5 → arr[j]? = some (.int .u8 (f j))) (hsz : arr.size = 5) :
    Calls Try.prog 7 #[.agg arr] w fun e w' => e = .returned (.bool true) ∧ Below w.heap.size w w' := by
  have HF := Lib.hid hf
  have HAR := Lib.hid harr
  have hb0 : Below w.heap.size w (w.alloc (.cells arr 47)) := (Below.refl _ _).alloc (Nat.le_refl _) _
  have hq0 : Has (w.alloc (.cells arr 47)) w.heap.size 47 arr := heap_alloc_new w _
  have HB0 := Lib.hid hb0
  have HQ0 := Lib.hid hq0
  clear hb0 hq0 hf harr
  go_enter Try.func7, Try.ntmps7
  go_wp2_with fail
  refine (ex_any _).mono ?_
  rintro e w1 ⟨rfl, b1⟩
  have bb := b1.alloc b1.size (.cells #[.slice none 0 0] 24)
  have L1 := Lib.hid (HB0.out.trans (bb.mono HB0.out.size))
  have X1 : Hid (Bx (w1.alloc (.cells #[.slice none 0 0] 24)) w1.heap.size 24 none 0 0 []) := Lib.hid ⟨heap_alloc_new w1 _, sl_nil _⟩
  have Q1 := Lib.hid (HQ0.out.below bb HQ0.out.lt)
  have Z1 : Hid (w.heap.size < w1.heap.size) := Lib.hid (Nat.lt_of_lt_of_le HQ0.out.lt b1.size)
  have O1 : Hid (On (w1.alloc (.cells #[.slice none 0 0] 24)) (w1.heap.size + 1) (.slice none 0 0) []) := Lib.hid (on_nil _ _)
  have Y1 : Hid (w1.heap.size + 1 ≤ (w1.alloc (.cells #[.slice none 0 0] 24)).heap.size) := Lib.hid (by simp)
  clear b1 bb HB0 HQ0
  go_wp2
  generalize w1.alloc (.cells #[.slice none 0 0] 24) = w2 at *
  generalize w1.heap.size = gs at *
  generalize hgb : w.heap.size = gb at *
  have HGB := Lib.hid hgb
  clear hgb
  go_loopw [5, 6, 7] (fun v n iv wr => ∃ j : Nat, j ≤ 5 ∧ iv = .int .i64 j ∧ n = .int .i64 (px f j) ∧ Hid (On wr (gs + 1) v (ats f j)) ∧ Hid (Bx wr gs 24 none 0 0 []) ∧ Hid (Has wr gb 47 arr) ∧ Hid (gs + 1 ≤ wr.heap.size) ∧ Hid (Below gb w wr)) (fun _ _ iv _ => 5 - (intOf iv).toNat)
  case atStart => exact ⟨0, Nat.zero_le _, rfl, rfl, O1, X1, Q1, Y1, L1⟩
  case round =>
    obtain ⟨j, hj, rfl, rfl, HO, HX, HQ, HY, HL⟩ := hrel
    clear O1 X1 Q1 Y1 L1
    by_cases hlt : j < 5
    · have hlt' : (j : Int) < 5 := by omega
      have c1 := (HQ.out.cell j).trans (HAR.out j hlt)
      have hb := px_b HF.out j
      have hfj := HF.out j
      obtain ⟨n1, hn1⟩ : ∃ n1, px f j + 2 = n1 := ⟨_, rfl⟩
      obtain ⟨n2, hn2⟩ : ∃ n2, n1 + f j = n2 := ⟨_, rfl⟩
      have HN : Hid (px f (j + 1) = n2) := Lib.hid (by rw [← hn2, ← hn1]; rfl)
      generalize px f j = n0 at *
      generalize f j = lj at *
      have a1 : IntKind.i64.wrap (n0 + 2) = n1 := by rw [IntWalk.i64_in _ (by omega)]; exact hn1
      have a2 : IntKind.i64.wrap n1 = n1 := IntWalk.i64_in _ (by omega)
      have a3 : IntKind.i64.wrap lj = lj := IntWalk.i64_in _ (by omega)
      have a4 : IntKind.i64.wrap (n1 + lj) = n2 := by rw [IntWalk.i64_in _ (by omega)]; exact hn2
      have a5 : IntKind.i64.wrap n2 = n2 := IntWalk.i64_in _ (by omega)
      have ba : Below wr.heap.size wr (wr.alloc (.cells #[.int .i64 n2] 2)) := (Below.refl _ _).alloc (Nat.le_refl _) _
      obtain ⟨v', w6, hr, ho6, hg6, hv6⟩ := num_app (HO.out.below ba) (Nat.le_trans HY.out ba.size) (li_lit wr [n2] (n := 1) rfl) (fun e => by cases e) (by rw [ats_len]; omega)
      have hvg : u5.ownBlock ≠ some gs := fun ev => by have := (World.ownsRow.lt HO.out gs ev).1; omega
      have hvb : u5.ownBlock ≠ some gb := fun ev => by have := (World.ownsRow.lt HO.out gb ev).1; have := Z1.out; omega
      have HX6 := Lib.hid ((HX.out.below ba).grow hg6 hvg (fun h0 => absurd h0 (Nat.lt_irrefl _)))
      have HQ6 : Hid (Has w6 gb 47 arr) := Lib.hid ((hg6.block gb (HQ.out.below ba HQ.out.lt).lt (fun e => hvb e.symm)).trans (HQ.out.below ba HQ.out.lt))
      have HY6 : Hid (gs + 1 ≤ w6.heap.size) := Lib.hid (Nat.le_trans HY.out (Nat.le_trans ba.size hg6.size))
      have HO6 : Hid (On w6 (gs + 1) v' (ats f (j + 1))) := Lib.hid (by show On _ _ _ (ats f j ++ [px f (j + 1)]); rw [HN.out]; exact ho6)
      have HL6 : Hid (Below gb w w6) := Lib.hid ((HL.out.trans (ba.mono (by have := Z1.out; have := HY.out; omega))).grown hg6 (by have := Z1.out; have := HY.out; have := ba.size; omega) (fun g e => by have := (World.ownsRow.lt HO.out g e).1; have := Z1.out; omega))
      have HR := Lib.hid hr
      clear ba hr ho6 hg6 hv6 hvg hvb hn1 hn2 HO HX HQ HY HL
      go_wp2_with (at_builtin; refine wpList_app HR.out rfl rfl rfl rfl rfl ?_)
      go_roundw
      case rel => exact ⟨j + 1, by omega, by go_num, by rw [HN.out], HO6, HX6, HQ6, HY6, HL6⟩
      case measure => simp [intOf]; omega
    · have hj5 : j = 5 := by omega
      have hlt' : ¬ (j : Int) < 5 := by omega
      obtain ⟨A2, c2, hv2, hli⟩ := HO.out.li
      rw [ats_len] at hv2 hli
      have HI : Hid (Li wr A2 5 c2 (ats f 5)) := Lib.hid (by rw [hj5] at hli; exact hli)
      rw [show u5 = .slice A2 5 c2 by rw [hv2, hj5]]
      obtain ⟨i0, hM⟩ := mS_five HF.out
      have HM := Lib.hid hM
      generalize hP : ats f 5 = P at *
      have hP5 : P.length = 5 := by rw [← hP]; exact ats_len f 5
      have HP5 := Lib.hid hP5
      clear hP hP5 hM hli hj hj5 HO HQ hv2
      go_wp2
      go_loopw [8] (fun iv wq => ∃ (i : Nat) (A : Option Addr) (m e : Nat), i ≤ 5 ∧ iv = .int .i64 i ∧ Hid (Bx wq gs 24 A m e (mS P i)) ∧ Hid (Li wq A2 5 c2 P) ∧ Hid (Below gb w wq)) (fun iv _ => 5 - (intOf iv).toNat)
      case atStart => exact ⟨0, none, 0, 0, Nat.zero_le _, rfl, HX, HI, HL⟩
      case round =>
        obtain ⟨i, A, m, e, hi, rfl, HB, HI2, HL2⟩ := hrel
        clear HX HI HL
        have x0 := HB.out.box.cell 0
        by_cases hil : i < 5
        · have hil' : (i : Int) < 5 := by omega
          obtain ⟨u, hu⟩ : ∃ u, i * 3 = u := ⟨_, rfl⟩
          obtain ⟨r, hr⟩ : ∃ r, u % 5 = r := ⟨_, rfl⟩
          obtain ⟨gl, ol, rfl, hcl⟩ := HI2.out.celD (by omega)
          have hr5 : r < 5 := by omega
          have hr5' : (r : Int) < 5 := by omega
          have c1 := hcl r hr5
          have HS : Hid (mS P (i + 1) = addS (mS P i) (P.getD r 0)) := Lib.hid (by rw [← hr, ← hu]; rfl)
          have a1 : (i : Int) * 3 = (u : Int) := by omega
          have a2 : IntKind.i64.wrap ((i : Int) * 3) = (u : Int) := by rw [IntWalk.i64_in _ (by omega)]; omega
          have a3 : IntKind.i64.wrap (u : Int) = (u : Int) := IntWalk.i64_in _ (by omega)
          have a4 : (u : Int).tmod 5 = (r : Int) := by rw [Int.tmod_eq_emod_of_nonneg (by omega)]; omega
          have a5 : (u : Int) % 5 = (r : Int) := by omega
          have a6 : IntKind.i64.wrap (r : Int) = (r : Int) := IntWalk.i64_in _ (by omega)
          clear hcl hu hr
          generalize P.getD r 0 = x at *
          have HA := Lib.hid (add_any HB.out.sl.drew x)
          go_wp2_with fail
          go_region_law (go_simp; go_at_call 11; refine HA.out.mono ?_; rintro e w7 ⟨B, m2, d2, rfl, hsl, hb3⟩; have y2 := (HB.out.drew.below hb3).box.cell 0; have z2 := (HB.out.drew.below hb3).box.free 0)
          all_goals
            have HBN : Hid (Bx (w7.setCell ⟨gs, 0, none⟩ (.slice B m2 d2)) gs 24 B m2 d2 (mS P (i + 1))) := Lib.hid (by rw [HS.out]; exact (HB.out.drew.below hb3).set hsl)
            have HIN := Lib.hid ((HI2.out.below ((Below.refl _ _).drew.trans hb3)).set (HB.out.drew.below hb3).box (.slice B m2 d2))
            have HLN := Lib.hid ((HL2.out.drew.trans (hb3.mono (by have := Z1.out; have := HB.out.box.lt; show gb ≤ wr.heap.size; omega))).setCell (p := ⟨gs, 0, none⟩) (Nat.le_of_lt Z1.out) (.slice B m2 d2))
            clear hsl hb3 y2 z2 x0 c1 HB HI2 HL2 HA
            generalize w7.setCell ⟨gs, 0, none⟩ (.slice B m2 d2) = w8 at *
            go_wp2
            go_roundw
            case rel => exact ⟨i + 1, B, m2, d2, by omega, by go_num, HBN, HIN, HLN⟩
            case measure => simp [intOf]; omega
        · have hi5 : i = 5 := by omega
          have hb5 := HB.out
          rw [hi5] at hb5
          have hm : m = 4 := by rw [← hb5.sl.len]; exact HM.out.len
          subst hm
          have CM := Lib.hid (merged_yes HM.out hb5.sl HI2.out)
          clear hb5 hi5
          go_wp2_with fail
          refine CM.out.mono ?_
          rintro e w9 ⟨rfl, b9⟩
          go_wp2
          go_ret
          exact ⟨rfl, by rw [HGB.out]; exact HL2.out.trans (b9.mono (by have := Z1.out; have := HB.out.box.lt; omega))⟩
theorem merge_walk (q0 q1 q2 q3 q4 : Nat) (w : World) (b0 : q0 ≤ 255) (b1 : q1 ≤ 255) (b2 : q2 ≤ 255) (b3 : q3 ≤ 255) (b4 : q4 ≤ 255) :
    Calls Try.prog 7 #[.agg #[.int .u8 q0, .int .u8 q1, .int .u8 q2, .int .u8 q3, .int .u8 q4]] w fun e w' => e = .returned (.bool true) ∧ Below w.heap.size w w' :=
  merge_few (qv q0 q1 q2 q3 q4) _ w (fun j => by
    unfold qv
    match j with
    | 0 => simp; omega
    | 1 => simp; omega
    | 2 => simp; omega
    | 3 => simp; omega
    | 4 => simp; omega
    | j + 5 => simp) (fun j hj => by
    match j, hj with
    | 0, _ => rfl
    | 1, _ => rfl
    | 2, _ => rfl
    | 3, _ => rfl
    | 4, _ => rfl) rfl
end Go.Proofs.Ytadgplpbkephiaa
