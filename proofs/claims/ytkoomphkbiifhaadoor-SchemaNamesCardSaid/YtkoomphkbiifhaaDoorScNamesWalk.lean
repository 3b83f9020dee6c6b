/- SchemaNames: the walk. -/
import Derived.Test.YtkoomphkbiifhaaDoorScHead
import Derived.Test.YtkoomphkbiifhaaDoorScWords
import Derived.Test.YtkoomphkbiifhaaDoorScRunes
import Derived.Test.YtkoomphkbiifhaaDoorScRowDef
namespace Go.Proofs.YtkoomphkbiifhaaDoor
open Go.RowKit
set_option linter.unusedVariables false

/-- The rune that the statement makes of a number. -/
def fixN (z : Int) : Nat := if (55296 ≤ z ∧ z ≤ 57343) ∨ (z < 128 ∧ (z < 97 ∨ 122 < z)) then 113 else z.toNat
theorem fix_good {z : Int} (h0 : 0 ≤ z) (h1 : z ≤ 65535) : Good (fixN z) := by
  unfold fixN Good
  split <;> omega
theorem fix_snoc (l : List Int) (z : Int) : cat ((l ++ [z]).map fixN) = cat (l.map fixN) ++ enc (fixN z) := by simp [cat]
set_option maxRecDepth 1000000 in
theorem enc_str (r : Nat) : Utf8.encode (r : Int) = str (enc r) := by unfold enc; rw [str_of]
theorem take_snocZ (zs : List Int) (k : Nat) (h : k < zs.length) : zs.take (k + 1) = zs.take k ++ [zs.getD k 0] := by
  rw [List.take_succ_eq_append_getElem h]
  simp [List.getD, h]

set_option maxHeartbeats 4000000 in
set_option maxRecDepth 100000 in
theorem names_walk (a : Option Addr) (len cap : Nat) (zs : List Int) (g : Int) (g0 : 0 ≤ g) (g1 : g ≤ 255) (w : World) (hr : IsRow .u16 w a len cap zs) (hz : ∀ z ∈ zs, (Lit.int .u16 z).wf = true) (hT : Tabs w) :
    Calls Tryd.prog 6 #[.slice a len cap, .int .u8 g] w fun e w' => e = .returned (.bool true) ∧ Below w.heap.size w w' := by
  have hzb : ∀ z ∈ zs, 0 ≤ z ∧ z ≤ 65535 := fun z h => by simpa [Lit.wf, IntKind.min, IntKind.max, IntKind.signed, IntKind.bits] using hz z h
  have hcap := hr.2.2.1
  have hlen := hr.1
  have hzl := hr.2.1
  unfold maxLen at hcap
  have HZ := Lib.hid hzb
  have HL := Lib.hid hzl
  clear hz hzb hzl
  go_enter Tryd.func6, Tryd.ntmps6
  go_wp2_with fail
  refine (examples_any w hT).mono ?_
  rintro e w1 ⟨rfl, bx⟩
  have hT1 := hT.below bx
  have hr1 := hr.below bx
  go_wp2_with fail
  go_loop [6, 7] (fun s i => ∃ k : Nat, k ≤ len ∧ k ≤ 12 ∧ i = .int .i64 k ∧ s = .string (str (cat ((zs.take k).map fixN)))) (fun _ i => 12 - (intOf i).toNat)
  case atStart => exact ⟨0, by omega, by omega, rfl, rfl⟩
  case round =>
    obtain ⟨k, hk, hk12, rfl, rfl⟩ := hrel
    have hg : ∀ r ∈ (zs.take k).map fixN, Good r := by
      intro r hr
      obtain ⟨z, hz, rfl⟩ := List.mem_map.1 hr
      have := HZ.out z (List.mem_of_mem_take hz)
      exact fix_good this.1 this.2
    have hcl := cat_len hg
    rw [List.length_map, List.length_take] at hcl
    have HG := Lib.hid hg
    clear hg
    by_cases hlt : k < len ∧ k < 12
    · obtain ⟨hl1, hl2⟩ := hlt
      have hlz : k < zs.length := by omega
      obtain ⟨b, off, rfl, hc⟩ := hr1.at_ hlz
      have hts := take_snocZ zs k hlz
      have hmem : zs.getD k 0 ∈ zs := by simp [List.getD, hlz]
      have hzk := HZ.out _ hmem
      generalize zs.getD k 0 = z at *
      obtain ⟨z0, z1⟩ := hzk
      have HT := Lib.hid hts
      clear hts hmem
      have S0 : List.length (cat ((zs.take k).map fixN)) ≤ 36 := by omega
      generalize hS : cat ((zs.take k).map fixN) = Sx at *
      have HS := Lib.hid hS
      clear hS
      have he1 := (dec_enc (fix_good z0 z1) []).2.2.1
      have HE : ∀ m : Nat, fixN z = m → Hid (cat ((zs.take (k + 1)).map fixN) = Sx ++ enc m) := fun m hm => Lib.hid (by rw [HT.out, fix_snoc, HS.out, hm])
      have l113 : (enc 113).length ≤ 3 := (dec_enc (r := 113) (.inl (by omega)) []).2.2.1
      by_cases hfx : (55296 ≤ z ∧ z ≤ 57343) ∨ (z < 128 ∧ (z < 97 ∨ 122 < z))
      · have hE := HE 113 (if_pos hfx)
        have ad1 : ∀ W, (Op.stringOp .add (str Sx) (Utf8.encode 113)).run Tryd.prog W = .ok (.string (str (Sx ++ enc 113))) W := fun W => by
          rw [show Utf8.encode 113 = str (enc 113) from enc_str 113]
          exact run_add_str Sx (enc 113) (by omega) W
        clear HE he1
        rcases hfx with ⟨p1, p2⟩ | ⟨p1, p2 | p2⟩
        all_goals
          go_wp2_with fail
          go_round
          case rel => exact ⟨k + 1, by omega, by omega, by go_num, by rw [hE.out]⟩
          case measure => simp [intOf]; omega
      · have hfz : fixN z = z.toNat := by unfold fixN; rw [if_neg hfx]
        have hE := HE z.toNat hfz
        rw [hfz] at he1
        obtain ⟨E, hEn⟩ : ∃ E, Utf8.encode z = E := ⟨_, rfl⟩
        have ad2 : ∀ W, (Op.stringOp .add (str Sx) E).run Tryd.prog W = .ok (.string (str (Sx ++ enc z.toNat))) W := fun W => by
          have e : E = str (enc z.toNat) := by rw [← hEn, ← enc_str, Int.toNat_of_nonneg z0]
          rw [e]
          exact run_add_str Sx (enc z.toNat) (by omega) W
        generalize enc z.toNat = ez at *
        have hcs : (97 ≤ z ∧ z ≤ 122) ∨ (128 ≤ z ∧ z < 55296) ∨ (57343 < z ∧ 128 ≤ z) := by omega
        clear HE hfz hfx
        rcases hcs with ⟨p1, p2⟩ | ⟨p1, p2⟩ | ⟨p1, p2⟩
        all_goals
          go_wp2_with fail
          go_round
          case rel => exact ⟨k + 1, by omega, by omega, by go_num, by rw [hE.out]⟩
          case measure => simp [intOf]; omega
    · obtain ⟨D, hD⟩ : ∃ D : Nat, 48 + g % 10 = (D : Int) := ⟨(48 + g % 10).toNat, by omega⟩
      have D0 : 48 ≤ D := by omega
      have D1 : D ≤ 57 := by omega
      have N1 := nm1 HG.out
      have N2 := nm2 HG.out D0 D1
      have N3 := nm3 D0 D1 (cat ((zs.take k).map fixN))
      have N4 := nm4 HG.out
      have N5 := nm5 HG.out
      have cv := conv_one D (by omega) w1 (48 + g % 10) hD
      have bW : Below w1.heap.size w1 (w1.alloc (.cells #[.int .u8 (48 + g % 10)] 5)) := (Below.refl _ _).alloc (Nat.le_refl _) _
      clear HG
      generalize cat ((zs.take k).map fixN) = Sx at *
      generalize UInt8.ofNat D = c at *
      clear hD
      have sl : Sx.length ≤ 36 := by omega
      have a1 : ∀ W, (Op.stringOp .add (str Sx) (str [c])).run Tryd.prog W = .ok (.string (str (Sx ++ [c]))) W := run_add_str Sx [c] (by simp; omega)
      have a2 : ∀ W, (Op.stringOp .add (str [c]) (str Sx)).run Tryd.prog W = .ok (.string (str (c :: Sx))) W := run_add_str [c] Sx (by simp; omega)
      have a3 : ∀ W, (Op.stringOp .add (str Sx) { data := #[32] }).run Tryd.prog W = .ok (.string (str (Sx ++ [32]))) W := run_add_str Sx [32] (by simp; omega)
      have a4 : ∀ W, (Op.stringOp .add (str Sx) { data := #[255] }).run Tryd.prog W = .ok (.string (str (Sx ++ [255]))) W := run_add_str Sx [255] (by simp; omega)
      have sz1 := str_size Sx
      have M3 := Lib.hid N3
      have M4 := Lib.hid N4
      have M5 := Lib.hid N5
      clear N3 N4 N5
      have hex : decide (k < len) = false ∨ (decide (k < len) = true ∧ decide ((k : Int) < 12) = false) := by
        by_cases h : k < len
        · exact .inr ⟨by simpa using h, by simp; omega⟩
        · exact .inl (by simpa using h)
      by_cases hS : Sx = []
      · have es : (str Sx).toList.isEmpty = true := by rw [str_toList]; simpa using hS
        have es2 : ((str Sx).toList = []) = True := by rw [str_toList]; simpa using hS
        have es3 : (!(str Sx).toList.isEmpty) = false := by rw [es]; rfl
        have M1 : Hid (nameB Sx = false) := Lib.hid (by rw [N1]; simp [hS])
        have M2 : Hid (nameB (Sx ++ [c]) = false) := Lib.hid (by rw [N2]; simp [hS])
        clear N1 N2 hS
        rcases hex with x1 | ⟨x1, x2⟩
        all_goals
          go_wp2_with fail
          clear cv
          refine (isName_any Sx _ (by omega) (hT1.below bW)).mono ?_
          rw [M1.out]
          rintro e w2 ⟨rfl, b2⟩
          have B2 := bW.trans (b2.mono bW.size)
          clear b2
          go_wp2_with fail
          refine (isName_any (Sx ++ [c]) w2 (by rw [List.length_append]; simp; omega) (hT1.below B2)).mono ?_
          rw [M2.out]
          rintro e w3 ⟨rfl, b3⟩
          have B3 := B2.trans (b3.mono B2.size)
          clear b3 B2
          go_wp2_with fail
          refine (isName_any (c :: Sx) w3 (by simp; omega) (hT1.below B3)).mono ?_
          rw [M3.out]
          rintro e w4 ⟨rfl, b4⟩
          have B4 := B3.trans (b4.mono B3.size)
          clear b4 B3
          go_wp2_with fail
          refine (isName_any (Sx ++ [32]) w4 (by rw [List.length_append]; simp; omega) (hT1.below B4)).mono ?_
          rw [M4.out]
          rintro e w5 ⟨rfl, b5⟩
          have B5 := B4.trans (b5.mono B4.size)
          clear b5 B4
          go_wp2_with fail
          refine (isName_any (Sx ++ [255]) w5 (by rw [List.length_append]; simp; omega) (hT1.below B5)).mono ?_
          rw [M5.out]
          rintro e w6 ⟨rfl, b6⟩
          have B6 := B5.trans (b6.mono B5.size)
          go_wp2_with fail
          go_ret
          exact ⟨rfl, bx.trans (B6.mono bx.size)⟩
      · have es : (str Sx).toList.isEmpty = false := by rw [str_toList]; simpa using hS
        have es2 : ((str Sx).toList = []) = False := by rw [str_toList]; simpa using hS
        have es3 : (!(str Sx).toList.isEmpty) = true := by rw [es]; rfl
        by_cases h24 : Sx.length ≤ 24
        · have M1 : Hid (nameB Sx = true) := Lib.hid (by rw [N1, decide_eq_true hS, decide_eq_true h24]; rfl)
          by_cases h23 : Sx.length < 24
          · have M2 : Hid (nameB (Sx ++ [c]) = true) := Lib.hid (by rw [N2, decide_eq_true hS, decide_eq_true h23]; rfl)
            clear N1 N2
            rcases hex with x1 | ⟨x1, x2⟩
            all_goals
              go_wp2_with fail
              clear cv
              refine (isName_any Sx _ (by omega) (hT1.below bW)).mono ?_
              rw [M1.out]
              rintro e w2 ⟨rfl, b2⟩
              have B2 := bW.trans (b2.mono bW.size)
              clear b2
              go_wp2_with fail
              refine (isName_any (Sx ++ [c]) w2 (by rw [List.length_append]; simp; omega) (hT1.below B2)).mono ?_
              rw [M2.out]
              rintro e w3 ⟨rfl, b3⟩
              have B3 := B2.trans (b3.mono B2.size)
              clear b3 B2
              go_wp2_with fail
              refine (isName_any (c :: Sx) w3 (by simp; omega) (hT1.below B3)).mono ?_
              rw [M3.out]
              rintro e w4 ⟨rfl, b4⟩
              have B4 := B3.trans (b4.mono B3.size)
              clear b4 B3
              go_wp2_with fail
              refine (isName_any (Sx ++ [32]) w4 (by rw [List.length_append]; simp; omega) (hT1.below B4)).mono ?_
              rw [M4.out]
              rintro e w5 ⟨rfl, b5⟩
              have B5 := B4.trans (b5.mono B4.size)
              clear b5 B4
              go_wp2_with fail
              refine (isName_any (Sx ++ [255]) w5 (by rw [List.length_append]; simp; omega) (hT1.below B5)).mono ?_
              rw [M5.out]
              rintro e w6 ⟨rfl, b6⟩
              have B6 := B5.trans (b6.mono B5.size)
              go_wp2_with fail
              go_ret
              exact ⟨rfl, bx.trans (B6.mono bx.size)⟩
          · have M2 : Hid (nameB (Sx ++ [c]) = false) := Lib.hid (by rw [N2, decide_eq_true hS, decide_eq_false h23]; rfl)
            have q23 : decide ((Sx.length : Int) < 24) = false := by simp; omega
            clear N1 N2
            rcases hex with x1 | ⟨x1, x2⟩
            all_goals
              go_wp2_with fail
              clear cv
              refine (isName_any Sx _ (by omega) (hT1.below bW)).mono ?_
              rw [M1.out]
              rintro e w2 ⟨rfl, b2⟩
              have B2 := bW.trans (b2.mono bW.size)
              clear b2
              go_wp2_with fail
              refine (isName_any (Sx ++ [c]) w2 (by rw [List.length_append]; simp; omega) (hT1.below B2)).mono ?_
              rw [M2.out]
              rintro e w3 ⟨rfl, b3⟩
              have B3 := B2.trans (b3.mono B2.size)
              clear b3 B2
              go_wp2_with fail
              refine (isName_any (c :: Sx) w3 (by simp; omega) (hT1.below B3)).mono ?_
              rw [M3.out]
              rintro e w4 ⟨rfl, b4⟩
              have B4 := B3.trans (b4.mono B3.size)
              clear b4 B3
              go_wp2_with fail
              refine (isName_any (Sx ++ [32]) w4 (by rw [List.length_append]; simp; omega) (hT1.below B4)).mono ?_
              rw [M4.out]
              rintro e w5 ⟨rfl, b5⟩
              have B5 := B4.trans (b5.mono B4.size)
              clear b5 B4
              go_wp2_with fail
              refine (isName_any (Sx ++ [255]) w5 (by rw [List.length_append]; simp; omega) (hT1.below B5)).mono ?_
              rw [M5.out]
              rintro e w6 ⟨rfl, b6⟩
              have B6 := B5.trans (b6.mono B5.size)
              go_wp2_with fail
              go_ret
              exact ⟨rfl, bx.trans (B6.mono bx.size)⟩
        · have M1 : Hid (nameB Sx = false) := Lib.hid (by rw [N1, decide_eq_false h24]; simp)
          have M2 : Hid (nameB (Sx ++ [c]) = false) := Lib.hid (by rw [N2, decide_eq_false (show ¬ Sx.length < 24 by omega)]; simp)
          have q23 : decide ((Sx.length : Int) < 24) = false := by simp; omega
          have q24 : decide ((Sx.length : Int) ≤ 24) = false := by simp; omega
          clear N1 N2
          rcases hex with x1 | ⟨x1, x2⟩
          all_goals
            go_wp2_with fail
            clear cv
            refine (isName_any Sx _ (by omega) (hT1.below bW)).mono ?_
            rw [M1.out]
            rintro e w2 ⟨rfl, b2⟩
            have B2 := bW.trans (b2.mono bW.size)
            clear b2
            go_wp2_with fail
            refine (isName_any (Sx ++ [c]) w2 (by rw [List.length_append]; simp; omega) (hT1.below B2)).mono ?_
            rw [M2.out]
            rintro e w3 ⟨rfl, b3⟩
            have B3 := B2.trans (b3.mono B2.size)
            clear b3 B2
            go_wp2_with fail
            refine (isName_any (c :: Sx) w3 (by simp; omega) (hT1.below B3)).mono ?_
            rw [M3.out]
            rintro e w4 ⟨rfl, b4⟩
            have B4 := B3.trans (b4.mono B3.size)
            clear b4 B3
            go_wp2_with fail
            refine (isName_any (Sx ++ [32]) w4 (by rw [List.length_append]; simp; omega) (hT1.below B4)).mono ?_
            rw [M4.out]
            rintro e w5 ⟨rfl, b5⟩
            have B5 := B4.trans (b5.mono B4.size)
            clear b5 B4
            go_wp2_with fail
            refine (isName_any (Sx ++ [255]) w5 (by rw [List.length_append]; simp; omega) (hT1.below B5)).mono ?_
            rw [M5.out]
            rintro e w6 ⟨rfl, b6⟩
            have B6 := B5.trans (b6.mono B5.size)
            go_wp2_with fail
            go_ret
            exact ⟨rfl, bx.trans (B6.mono bx.size)⟩
end Go.Proofs.YtkoomphkbiifhaaDoor
