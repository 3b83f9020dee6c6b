/- Kinds that a statement makes of numbers: some few, with short names; which ones is not told. -/
import Derived.Test.YtkoomphkbiifhaaDoorScMade
import Derived.Deep.DeepCutAuto
namespace Go.Proofs.YtkoomphkbiifhaaDoor
open Go.RowKit
set_option linter.unusedVariables false

/-- Few kinds, with short names. -/
def Few (l : List Kd) : Prop := l.length ≤ 18 ∧ ∀ k ∈ l, k.1.length ≤ 26 ∧ k.2.length ≤ 9 ∧ ∀ f ∈ k.2, f.length ≤ 25
def SomeKinds (w : World) (e : Ending) (w' : World) : Prop := ∃ (l : List Kd) (A : Option Addr) (c : Nat), Few l ∧ e = .returned (.slice A l.length c) ∧ Kinds w' A c l ∧ Below w.heap.size w w'
theorem Few.snoc {l : List Kd} {k : Kd} (h : Few l) (hl : l.length < 18) (h1 : k.1.length ≤ 26) (h2 : k.2.length ≤ 9) (h3 : ∀ f ∈ k.2, f.length ≤ 25) : Few (l ++ [k]) := by
  refine ⟨by simp; omega, fun x hx => ?_⟩
  rcases List.mem_append.1 hx with hx | hx
  · exact h.2 x hx
  · simp at hx; subst hx; exact ⟨h1, h2, h3⟩
theorem Has.cell0 {w : World} {q : Nat} {t : TypeId} {x y : Value} (h : Has w q t #[x, y]) : w.cell? ⟨q, 0, none⟩ = some x ∧ w.cell? ⟨q, 1, none⟩ = some y := ⟨by simpa using h.cell 0, by simpa using h.cell 1⟩
/-- As they are. -/
theorem some_plain (v : Value) (u : Value) (w : World) (A : Option Addr) (n c : Nat) (hv : v = .slice A n c) :
    Calls Tryd.prog 10 #[.agg #[v, .bool false, u]] w fun e w' => e = .returned v ∧ Below w.heap.size w w' := by
  subst hv
  go_enter Tryd.func10, Tryd.ntmps10
  go_wp2_with fail
  go_ret
  exact ⟨rfl, (Below.refl _ _).alloc (Nat.le_refl _) _⟩
set_option maxHeartbeats 4000000 in
set_option maxRecDepth 100000 in
theorem some_own (v : Value) (a : Option Addr) (len cap : Nat) (zs : List Int) (w : World) (hr : IsRow .u8 w a len cap zs) (hz : ∀ z ∈ zs, 0 ≤ z ∧ z ≤ 255) (hv : ∃ A n c, v = .slice A n c) :
    Calls Tryd.prog 10 #[.agg #[v, .bool true, .slice a len cap]] w (SomeKinds w) := by
  obtain ⟨vA, vn, vc, rfl⟩ := hv
  have hlen := hr.1
  have hcap : len ≤ 9223372036854775807 := by have := hr.2.2.1; have := hr.2.1; unfold maxLen at *; omega
  have HZ := Lib.hid hz
  obtain ⟨W, hW⟩ : ∃ W, W = w.alloc (.cells #[.slice vA vn vc, .bool true, .slice a len cap] 25) := ⟨_, rfl⟩
  have bW : Below w.heap.size w W := by rw [hW]; exact (Below.refl _ _).alloc (Nat.le_refl _) _
  have hX : Has W w.heap.size 25 #[.slice vA vn vc, .bool true, .slice a len cap] := by rw [hW]; exact heap_alloc_new w _
  have hrW := hr.below bW
  obtain ⟨B, hB⟩ : ∃ B, w.heap.size = B := ⟨_, rfl⟩
  rw [hB] at hX
  have hBW : B < W.heap.size := hX.lt
  have HX := Lib.hid hX
  have HW := Lib.hid hW
  have HB := Lib.hid hB
  clear hX hW hB hz hr
  go_enter Tryd.func10, Tryd.ntmps10
  go_wp2_with fail
  rw [← HW.out, HB.out]
  go_loopw [3, 4] (fun v i wr => ∃ (l : List Kd) (j : Nat), l.length = j ∧ j ≤ 18 ∧ j ≤ len ∧ i = .int .i64 j ∧ KW wr W.heap.size v l ∧ Few l ∧ Below W.heap.size W wr) (fun _ i _ => 18 - (intOf i).toNat)
  case atStart => exact ⟨[], 0, rfl, by omega, by omega, rfl, KW.nil _ _, ⟨by simp, fun k hk => by cases hk⟩, Below.refl _ _⟩
  case round =>
    rename World => wo
    obtain ⟨l, j, hlj, hj18, hjl, rfl, hK, hF, br⟩ := hrel
    have HK := Lib.hid hK
    have HF := Lib.hid hF
    have HJ := Lib.hid hlj
    have hXo := HX.out.below br hBW
    have y1 : wo.cell? ⟨B, 1, none⟩ = some (.bool true) := by simpa using hXo.cell 1
    have y2 : wo.cell? ⟨B, 2, none⟩ = some (.slice a len cap) := by simpa using hXo.cell 2
    have HXo := Lib.hid hXo
    clear hK hF hlj hXo
    by_cases hlt : j < len ∧ j < 18
    · obtain ⟨hl1, hl2⟩ := hlt
      have hlz : j < zs.length := by omega
      obtain ⟨b, off, rfl, hc⟩ := (hrW.below br).at_ hlz
      have hmem : zs.getD j 0 ∈ zs := by simp [List.getD, hlz]
      have hzk := HZ.out _ hmem
      generalize zs.getD j 0 = x at *
      obtain ⟨x0, x1⟩ := hzk
      clear hmem
      go_wp2_with fail
      refine (name_any (x % 8) wo (by omega) (by omega)).mono ?_
      rintro e w2 ⟨nm, hnm, rfl, b2⟩
      have hbl := World.block_lt_of_cell? _ _ hc
      have yb := World.block_lt_of_cell? _ _ y2
      have scn : ∀ wx, Below wo.heap.size wo wx → wx.cell? ⟨B, 2, none⟩ = some (.slice (some ⟨b, off, none⟩) len cap) ∧ wx.cell? ⟨b, off + j, none⟩ = some (.int .u8 x) := fun wx hb => ⟨(hb.cell yb).trans y2, (hb.cell hbl).trans hc⟩
      have SCN := Lib.hid scn
      clear scn y1 y2 hc
      obtain ⟨q, hq⟩ : ∃ q, w2.heap.size = q := ⟨_, rfl⟩
      have hqo : wo.heap.size ≤ q := by rw [← hq]; exact b2.size
      obtain ⟨W3, hW3⟩ : ∃ W3, W3 = w2.alloc (.cells #[.string (str nm), .slice none 0 0] 40) := ⟨_, rfl⟩
      have b3 : Below wo.heap.size wo W3 := by rw [hW3]; exact b2.alloc b2.size _
      have hX3 : Has W3 q 40 #[.string (str nm), .slice none 0 0] := by rw [hW3, ← hq]; exact heap_alloc_new w2 _
      have y2 := (SCN.out W3 b3).1
      have hc := (SCN.out W3 b3).2
      have HX3 := Lib.hid hX3
      have HW3 := Lib.hid hW3
      have HQ := Lib.hid hq
      clear hX3 hW3 hq
      rw [HW3.out] at y2 hc
      obtain ⟨t2, ht2⟩ : ∃ b : Bool, decide (200 < x) = b := ⟨_, rfl⟩
      go_upto_if 37 with fail
      clear ht2
      rw [← HW3.out, HQ.out]
      clear y2 hc
      go_cut [44] from 38 to 44 (fun _ wx => ∃ nm : Nm, nm.length ≤ 25 ∧ Has wx q 40 #[.string (str nm), .slice none 0 0] ∧ Below wo.heap.size wo wx)
      case first =>
        have y2 := (SCN.out W3 b3).1
        have hc := (SCN.out W3 b3).2
        cases t2 with
        | true =>
          go_wp2_with fail
          refine (name_any x W3 (by omega) (by omega)).mono ?_
          rintro e w4 ⟨nm4, hnm4, rfl, b4⟩
          have hX4 := HX3.out.below b4 HX3.out.lt
          have HX4 := Lib.hid hX4
          have z0 := hX4.cell0.1
          have f0 := hX4.free 0
          clear hX4
          go_wp2_with fail
          go_meet
          exact ⟨nm4, hnm4, HX4.out.put 0 _, (b3.trans (b4.mono b3.size)).setCell (by simp only; omega) _⟩
        | false =>
          go_wp2_with fail
          go_meet
          exact ⟨nm, hnm, HX3.out, b3⟩
      case rest =>
        clear HX3 HW3 b3
        rename World => w4
        obtain ⟨nm4, hnm4, hX4, b4⟩ := hcut
        have HX4 := Lib.hid hX4
        clear hX4 hnm
        have y2 := (SCN.out w4 b4).1
        have hc := (SCN.out w4 b4).2
        obtain ⟨t3, ht3⟩ : ∃ b : Bool, decide (0 < x % 3) = b := ⟨_, rfl⟩
        go_upto_if 51 with fail
        clear y2 hc ht3
        go_cut [60] from 52 to 60 (fun _ wx => ∃ nm : Nm, nm.length ≤ 26 ∧ Has wx q 40 #[.string (str nm), .slice none 0 0] ∧ Below wo.heap.size wo wx)
        case first =>
          have y2 := (SCN.out w4 b4).1
          have hc := (SCN.out w4 b4).2
          cases t3 with
          | true =>
            obtain ⟨c, hcc⟩ : ∃ c : UInt8, UInt8.ofNat (97 + j) = c := ⟨_, rfl⟩
            have cv := conv_one (97 + j) (by omega) w4 (97 + (j : Int)) (by omega)
            rw [hcc] at cv
            clear hcc
            have ad : ∀ W, (Op.stringOp .add (str nm4) (str [c])).run Tryd.prog W = .ok (.string (str (nm4 ++ [c]))) W := run_add_str nm4 [c] (by simp; omega)
            have b5 : Below w4.heap.size w4 (w4.alloc (.cells #[.int .u8 (97 + (j : Int))] 5)) := (Below.refl _ _).alloc (Nat.le_refl _) _
            have hX5 := HX4.out.below b5 HX4.out.lt
            have HX5 := Lib.hid hX5
            have u0 := HX4.out.cell0.1
            have z0 := hX5.cell0.1
            have f0 := hX5.free 0
            clear hX5
            go_wp2_with fail
            go_meet
            exact ⟨nm4 ++ [c], by simp; omega, HX5.out.put 0 _, (b4.trans (b5.mono b4.size)).setCell (by simp only; omega) _⟩
          | false =>
            go_wp2_with fail
            go_meet
            exact ⟨nm4, by omega, HX4.out, b4⟩
        case rest =>
          clear HX4 b4
          rename World => w5
          obtain ⟨nm5, hnm5, hX5, b5⟩ := hcut
          have HX5 := Lib.hid hX5
          clear hX5 hnm4
          obtain ⟨N, hN⟩ : ∃ N : Nat, x / 8 % 10 = (N : Int) := ⟨(x / 8 % 10).toNat, by omega⟩
          have hN9 : N ≤ 9 := by omega
          go_wp2_with fail
          go_loopw [6] (fun i wi => ∃ (k : Nat) (v : Value) (fs : List Nm), k ≤ N ∧ i = .int .i64 k ∧ fs.length = k ∧ (∀ f ∈ fs, f.length ≤ 25) ∧ Has wi q 40 #[.string (str nm5), v] ∧ SW wi wo.heap.size v fs ∧ v.ownBlock ≠ some q ∧ Below wo.heap.size wo wi) (fun i _ => N - (intOf i).toNat)
          case atStart => exact ⟨0, _, [], Nat.zero_le _, rfl, rfl, (fun f hf => by cases hf), HX5.out, SW.nil _ _, by simp [Value.ownBlock], b5⟩
          case round =>
            rename World => wi
            obtain ⟨k, v, fs, hk, rfl, hfl, hfs, hXi, hSi, hvq, bi⟩ := hrel
            have HXi := Lib.hid hXi
            have HSi := Lib.hid hSi
            have HFL := Lib.hid hfl
            have HFS := Lib.hid hfs
            clear hXi hSi hfl hfs HX5 b5
            have y2 := (SCN.out wi bi).1
            have hc := (SCN.out wi bi).2
            by_cases hlk : k < N
            · go_wp2_with fail
              refine (name_any (k : Int) wi (by omega) (by omega)).mono ?_
              rintro e w6 ⟨f6, hf6, rfl, b6⟩
              clear y2 hc
              have B6 := bi.trans (b6.mono bi.size)
              have HX6 := Lib.hid (HXi.out.below b6 HXi.out.lt)
              have HS6 := Lib.hid (HSi.out.below b6)
              clear HXi HSi b6
              go_upto_region 16 with fail
              go_cut [85] from 76 to 85 (fun t wx => ∃ b : Bool, t = .bool b ∧ wx = w6)
              case first =>
                have y2 := (SCN.out w6 B6).1
                have hc := (SCN.out w6 B6).2
                by_cases h7 : 7 < k
                · have e7 : decide (7 < (k : Int)) = true := by simp; omega
                  go_wp2_with fail
                  go_meet
                  exact ⟨_, rfl, rfl⟩
                · have e7 : decide (7 < (k : Int)) = false := by simp; omega
                  go_wp2_with fail
                  go_meet
                  exact ⟨_, rfl, rfl⟩
              case rest =>
                obtain ⟨t5, rfl, rfl⟩ := hcut
                go_upto_if 85 with fail
                go_cut [7] from 86 to 94 (fun fv wx => ∃ f : Nm, f.length ≤ 25 ∧ fv = .string (str f) ∧ Has wx q 40 #[.string (str nm5), v] ∧ SW wx wo.heap.size v fs ∧ Below wo.heap.size wo wx)
                case first =>
                  have y2 := (SCN.out _ B6).1
                  have hc := (SCN.out _ B6).2
                  cases t5 with
                  | true =>
                    have hov : x + (k : Int) ≤ 255 := by omega
                    go_wp2_with fail
                    refine (name_any (x + (k : Int)) _ (by omega) hov).mono ?_
                    rintro e w9 ⟨f9, hf9, rfl, b9⟩
                    go_wp2_with fail
                    go_meet
                    exact ⟨f9, hf9, rfl, HX6.out.below b9 HX6.out.lt, HS6.out.below b9, B6.trans (b9.mono B6.size)⟩
                  | false =>
                    go_wp2_with fail
                    go_meet
                    exact ⟨f6, hf6, rfl, HX6.out, HS6.out, B6⟩
                case rest =>
                  clear HX6 HS6 B6
                  rename World => w7
                  obtain ⟨f7, hf7, rfl, hX7, hS7, b7⟩ := hcut
                  obtain ⟨v', w8, hrun, hS8, b8, g8, z8, o8⟩ := hS7.app b7.size f7 (by rw [HFL.out]; omega)
                  have bS : Below w7.heap.size w7 (w7.alloc (.cells #[.string (str f7)] 9)) := (Below.refl _ _).alloc (Nat.le_refl _) _
                  have hq7 := hX7.lt
                  have hX8 : Has w8 q 40 #[.string (str nm5), v] := (hX7.below bS (by omega)).grown g8 hvq
                  have hvq' : v'.ownBlock ≠ some q := by
                    rcases o8 with e | e
                    · rw [e]; exact hvq
                    · rw [e]; intro h; have := Option.some.inj h; omega
                  have B8 := b7.trans b8
                  obtain ⟨ao, n', cap', rfl⟩ : ∃ ao n' cap, v' = .slice ao n' cap := by
                    obtain ⟨A, c, e, _⟩ := hS8.shape
                    exact ⟨_, _, _, e⟩
                  have u1 := hX7.cell0.2
                  have y1 := hX8.cell0.2
                  have f1 := hX8.free 1
                  have HR := Lib.hid hrun
                  have HX8 := Lib.hid hX8
                  have HS8 := Lib.hid hS8
                  clear hrun bS g8 b8 z8 o8 hX8 hS8 hX7 hS7
                  go_wp2_with (at_builtin; refine wpList_app HR.out rfl rfl rfl rfl rfl ?_)
                  go_roundw
                  case rel =>
                    refine ⟨k + 1, .slice ao n' cap', fs ++ [f7], by omega, by go_num, by simp [HFL.out], fun f hf => ?_, by simpa using HX8.out.put 1 (.slice ao n' cap'), HS8.out.set _ _ hvq', hvq', B8.setCell (by simp only; omega) _⟩
                    rcases List.mem_append.1 hf with hf | hf
                    · exact HFS.out f hf
                    · simp at hf; subst hf; exact hf7
                  case measure => simp [intOf]; omega
            · have hSi := HSi.out
              obtain ⟨A, c, rfl, hst⟩ := hSi.shape
              have hlt5 := hSi.lt
              have hltK := HK.out.lt
              have x0' := HXi.out.cell0.1
              have x1' := HXi.out.cell0.2
              obtain ⟨v', w6, hrun, hK6, b6, _, _, _⟩ := (HK.out.below bi).app (by have := br.size; have := bi.size; omega) (nm5, fs) A c hst (fun _ a ha e => by
                have h1 := (hltK _ e).2
                have h2 := (hlt5 a.block (by rw [ha]; rfl)).1
                omega) (by rw [HJ.out]; omega)
              have HR := Lib.hid hrun
              clear hrun
              go_wp2_with (at_builtin; refine wpList_app HR.out rfl rfl rfl rfl rfl ?_)
              go_roundw
              case rel =>
                refine ⟨l ++ [(nm5, fs)], j + 1, by simp [HJ.out], by omega, by omega, by go_num, hK6, HF.out.snoc (by rw [HJ.out]; omega) hnm5 (by simp only; have := HFL.out; omega) HFS.out, (br.trans (bi.mono br.size)).trans b6⟩
              case measure => simp [intOf]; omega
    · have hex : decide (j < len) = false ∨ (decide (j < len) = true ∧ decide ((j : Int) < 18) = false) := by
        by_cases h : j < len
        · exact .inr ⟨by simpa using h, by simp; omega⟩
        · exact .inl (by simpa using h)
      obtain ⟨A, c, rfl, hKd⟩ := HK.out.shape
      rcases hex with e1 | ⟨e1, e2⟩
      all_goals
        go_wp2_with fail
        go_ret
        exact ⟨l, A, c, HF.out, rfl, hKd, by rw [← HB.out] at *; exact bW.trans (br.mono bW.size)⟩
end Go.Proofs.YtkoomphkbiifhaaDoor
