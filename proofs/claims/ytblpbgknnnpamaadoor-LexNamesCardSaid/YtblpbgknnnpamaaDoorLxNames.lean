/- LexNames: the walk. -/
import Derived.Test.YtblpbgknnnpamaaDoorLxHead
import Derived.Test.YtblpbgknnnpamaaDoorScRowDef
namespace Go.Proofs.YtblpbgknnnpamaaDoor
open Go.RowKit
set_option linter.unusedVariables false

/-- No space. -/
def NoSp (s : Nm) : Prop := ∀ b ∈ s, spB (b.toNat : Int) = false
theorem Lx.none {p : Nat} {l : Nm} {ts : List Tok} (h : Lx p l ts) (hn : NoSp l) (ht : ts = []) : l = [] := by
  cases h with
  | nil => rfl
  | sp _ b l' _ hb _ => rw [hn b (by simp)] at hb; cases hb
  | wd => cases ht
theorem lx_name {s : Nm} {t : Tok} (h : Lx 0 s [t]) (hn : NoSp s) (hk : t.k = 1) : nameB s = true := by
  generalize he : [t] = ts at h
  cases h with
  | nil => cases he
  | sp _ b l' _ hb _ => rw [hn b (by simp)] at hb; cases hb
  | wd _ k w n l us hw hg h =>
    injection he with e1 e2
    have hl : l = [] := h.none (fun b hb => hn b (by simp [hb])) e2.symm
    subst hl
    rw [e1] at hk
    rw [List.append_nil]
    rcases hw with ⟨_, h1, _⟩ | ⟨rfl, _⟩ | ⟨rfl, _⟩ | ⟨rfl, _⟩
    · exact h1
    all_goals cases hk
theorem name_yes {s : Nm} (h : nameB s = true) : lexA s = .good [⟨1, s, 0, 0⟩] := by
  have := complA (Lx.wd 0 1 s 0 [] [] (.inl ⟨rfl, h, rfl⟩) (.inl rfl) (.nil _))
  rwa [List.append_nil] at this
set_option maxRecDepth 1000000 in
theorem enc_sp {r : Nat} (h : 128 ≤ r) : NoSp (enc r) := by
  have hb : ∀ n : Nat, 128 ≤ n → n < 256 → spB (((UInt8.ofNat n).toNat : Nat) : Int) = false := by
    intro n h1 h2
    rw [UInt8.toNat_ofNat_of_lt' h2]
    unfold spB
    simp
    omega
  obtain ⟨c, hc, hc1, hc2⟩ : ∃ c : Nat, (if Utf8.valid (r : Int) then ((r : Int)).toNat else Utf8.runeError) = c ∧ 128 ≤ c ∧ c ≤ 1114111 := by
    refine ⟨_, rfl, ?_, ?_⟩
    · split
      · omega
      · decide
    · split
      · rename_i hv
        simp only [Utf8.valid, Bool.or_eq_true, Bool.and_eq_true, decide_eq_true_eq] at hv
        omega
      · decide
  intro b hm
  unfold enc Utf8.encode at hm
  simp only [hc] at hm
  rw [if_neg (by omega)] at hm
  split at hm
  · simp only [List.mem_cons, List.not_mem_nil, or_false] at hm
    rcases hm with rfl | rfl <;> exact hb _ (by omega) (by omega)
  · split at hm
    · simp only [List.mem_cons, List.not_mem_nil, or_false] at hm
      rcases hm with rfl | rfl | rfl <;> exact hb _ (by omega) (by omega)
    · simp only [List.mem_cons, List.not_mem_nil, or_false] at hm
      rcases hm with rfl | rfl | rfl | rfl <;> exact hb _ (by omega) (by omega)
set_option maxRecDepth 100000 in
theorem keys : lexA [87, 73, 84, 72, 73, 78, 32, 66, 89] = .good [⟨4, [87, 73, 84, 72, 73, 78], 0, 0⟩, ⟨4, [66, 89], 0, 7⟩] := by kernel_rfl
theorem NoSp.app {a b : Nm} (h : NoSp a) (k : NoSp b) : NoSp (a ++ b) := fun x hx => by
  rcases List.mem_append.1 hx with h1 | h1
  · exact h x h1
  · exact k x h1
set_option maxHeartbeats 4000000 in
set_option maxRecDepth 100000 in
theorem names_walk (a : Option Addr) (len cap : Nat) (zs : List Int) (w : World) (hr : IsRow .u16 w a len cap zs) (hz : ∀ z ∈ zs, (Lit.int .u16 z).wf = true) (hT : Tabs w) :
    Calls Tryd.prog 4 #[.slice a len cap] w fun e w' => e = .returned (.bool true) ∧ Below w.heap.size w w' := by
  have hzb : ∀ z ∈ zs, 0 ≤ z ∧ z ≤ 65535 := fun z h => by simpa [Lit.wf, IntKind.min, IntKind.max, IntKind.signed, IntKind.bits] using hz z h
  have hcap := hr.2.2.1
  have hlen := hr.1
  have hzl := hr.2.1
  unfold maxLen at hcap
  have HZ := Lib.hid hzb
  have HL := Lib.hid hzl
  clear hz hzb hzl
  go_enter Tryd.func4, Tryd.ntmps4
  go_wp2_with fail
  refine (examples_any w hT).mono ?_
  rintro e w1 ⟨rfl, bx⟩
  have hT1 := hT.below bx
  have hr1 := hr.below bx
  go_wp2_with fail
  go_loop [4, 5] (fun s i => ∃ (k : Nat) (S : Nm), k ≤ len ∧ k ≤ 14 ∧ i = .int .i64 k ∧ s = .string (str S) ∧ NoSp S ∧ S.length ≤ 4 * k) (fun _ i => 14 - (intOf i).toNat)
  case atStart => exact ⟨0, [], by omega, by omega, rfl, rfl, (fun b hb => by cases hb), by simp⟩
  case round =>
    obtain ⟨k, Sx, hk, hk14, rfl, rfl, hns, hsl⟩ := hrel
    have HNS := Lib.hid hns
    clear hns
    by_cases hlt : k < len ∧ k < 14
    · obtain ⟨hl1, hl2⟩ := hlt
      have hlz : k < zs.length := by omega
      obtain ⟨b, off, rfl, hc⟩ := hr1.at_ hlz
      have hmem : zs.getD k 0 ∈ zs := by simp [List.getD, hlz]
      have hzk := HZ.out _ hmem
      generalize zs.getD k 0 = z at *
      obtain ⟨z0, z1⟩ := hzk
      clear hmem
      have FIN : ∀ (r : Nat) (E : Nm), enc r = E → Utf8.encode (r : Int) = str E ∧ E.length ≤ 4 := fun r E h => by subst h; exact ⟨enc_str r, enc_len r⟩
      by_cases hsur : 55296 ≤ z ∧ z ≤ 57343
      · -- 'Z': 90, then below 128: abT[0] = 97
        obtain ⟨p1, p2⟩ := hsur
        have e97 : enc 97 = [97] := enc_ascii (b := 97) (by decide)
        have he : Utf8.encode 97 = str [97] := (FIN 97 _ e97).1
        have ad : ∀ W, (Op.stringOp .add (str Sx) (str [97])).run Tryd.prog W = .ok (.string (str (Sx ++ [97]))) W := run_add_str Sx [97] (by simp; omega)
        have hg0 : (({ data := #[97, 98, 122, 65, 90, 48, 49, 57, 95, 59] } : ByteArray)[0]'(by decide)).toNat = 97 := rfl
        have hw0 : wrap32 97 = 97 := by unfold wrap32; omega
        clear FIN e97
        go_wp2_with fail
        go_round
        case rel => exact ⟨k + 1, Sx ++ [97], by omega, by omega, by go_num, rfl, HNS.out.app (by intro b hb; simp at hb; subst hb; decide), by simp; omega⟩
        case measure => simp [intOf]; omega
      · by_cases hlo : z < 128
        · have htm : z.tmod 10 = z % 10 := Int.tmod_eq_emod_of_nonneg z0
          have hcs : z % 10 = 0 ∨ z % 10 = 1 ∨ z % 10 = 2 ∨ z % 10 = 3 ∨ z % 10 = 4 ∨ z % 10 = 5 ∨ z % 10 = 6 ∨ z % 10 = 7 ∨ z % 10 = 8 ∨ z % 10 = 9 := by omega
          have hlt5 : z < 55296 := by omega
          rcases hcs with hj | hj | hj | hj | hj | hj | hj | hj | hj | hj
          · rw [hj] at htm
            have hg0 : (({ data := #[97, 98, 122, 65, 90, 48, 49, 57, 95, 59] } : ByteArray)[0]'(by decide)).toNat = 97 := rfl
            have hw0 : wrap32 97 = 97 := by unfold wrap32; omega
            have he : Utf8.encode 97 = str [97] := (FIN 97 _ (enc_ascii (b := 97) (by decide))).1
            have ad : ∀ W, (Op.stringOp .add (str Sx) (str [97])).run Tryd.prog W = .ok (.string (str (Sx ++ [97]))) W := run_add_str Sx [97] (by simp; omega)
            clear FIN
            go_wp2_with fail
            go_round
            case rel => exact ⟨k + 1, Sx ++ [97], by omega, by omega, by go_num, rfl, HNS.out.app (by intro b hb; simp at hb; subst hb; decide), by simp; omega⟩
            case measure => simp [intOf]; omega
          · rw [hj] at htm
            have hg0 : (({ data := #[97, 98, 122, 65, 90, 48, 49, 57, 95, 59] } : ByteArray)[1]'(by decide)).toNat = 98 := rfl
            have hw0 : wrap32 98 = 98 := by unfold wrap32; omega
            have he : Utf8.encode 98 = str [98] := (FIN 98 _ (enc_ascii (b := 98) (by decide))).1
            have ad : ∀ W, (Op.stringOp .add (str Sx) (str [98])).run Tryd.prog W = .ok (.string (str (Sx ++ [98]))) W := run_add_str Sx [98] (by simp; omega)
            clear FIN
            go_wp2_with fail
            go_round
            case rel => exact ⟨k + 1, Sx ++ [98], by omega, by omega, by go_num, rfl, HNS.out.app (by intro b hb; simp at hb; subst hb; decide), by simp; omega⟩
            case measure => simp [intOf]; omega
          · rw [hj] at htm
            have hg0 : (({ data := #[97, 98, 122, 65, 90, 48, 49, 57, 95, 59] } : ByteArray)[2]'(by decide)).toNat = 122 := rfl
            have hw0 : wrap32 122 = 122 := by unfold wrap32; omega
            have he : Utf8.encode 122 = str [122] := (FIN 122 _ (enc_ascii (b := 122) (by decide))).1
            have ad : ∀ W, (Op.stringOp .add (str Sx) (str [122])).run Tryd.prog W = .ok (.string (str (Sx ++ [122]))) W := run_add_str Sx [122] (by simp; omega)
            clear FIN
            go_wp2_with fail
            go_round
            case rel => exact ⟨k + 1, Sx ++ [122], by omega, by omega, by go_num, rfl, HNS.out.app (by intro b hb; simp at hb; subst hb; decide), by simp; omega⟩
            case measure => simp [intOf]; omega
          · rw [hj] at htm
            have hg0 : (({ data := #[97, 98, 122, 65, 90, 48, 49, 57, 95, 59] } : ByteArray)[3]'(by decide)).toNat = 65 := rfl
            have hw0 : wrap32 65 = 65 := by unfold wrap32; omega
            have he : Utf8.encode 65 = str [65] := (FIN 65 _ (enc_ascii (b := 65) (by decide))).1
            have ad : ∀ W, (Op.stringOp .add (str Sx) (str [65])).run Tryd.prog W = .ok (.string (str (Sx ++ [65]))) W := run_add_str Sx [65] (by simp; omega)
            clear FIN
            go_wp2_with fail
            go_round
            case rel => exact ⟨k + 1, Sx ++ [65], by omega, by omega, by go_num, rfl, HNS.out.app (by intro b hb; simp at hb; subst hb; decide), by simp; omega⟩
            case measure => simp [intOf]; omega
          · rw [hj] at htm
            have hg0 : (({ data := #[97, 98, 122, 65, 90, 48, 49, 57, 95, 59] } : ByteArray)[4]'(by decide)).toNat = 90 := rfl
            have hw0 : wrap32 90 = 90 := by unfold wrap32; omega
            have he : Utf8.encode 90 = str [90] := (FIN 90 _ (enc_ascii (b := 90) (by decide))).1
            have ad : ∀ W, (Op.stringOp .add (str Sx) (str [90])).run Tryd.prog W = .ok (.string (str (Sx ++ [90]))) W := run_add_str Sx [90] (by simp; omega)
            clear FIN
            go_wp2_with fail
            go_round
            case rel => exact ⟨k + 1, Sx ++ [90], by omega, by omega, by go_num, rfl, HNS.out.app (by intro b hb; simp at hb; subst hb; decide), by simp; omega⟩
            case measure => simp [intOf]; omega
          · rw [hj] at htm
            have hg0 : (({ data := #[97, 98, 122, 65, 90, 48, 49, 57, 95, 59] } : ByteArray)[5]'(by decide)).toNat = 48 := rfl
            have hw0 : wrap32 48 = 48 := by unfold wrap32; omega
            have he : Utf8.encode 48 = str [48] := (FIN 48 _ (enc_ascii (b := 48) (by decide))).1
            have ad : ∀ W, (Op.stringOp .add (str Sx) (str [48])).run Tryd.prog W = .ok (.string (str (Sx ++ [48]))) W := run_add_str Sx [48] (by simp; omega)
            clear FIN
            go_wp2_with fail
            go_round
            case rel => exact ⟨k + 1, Sx ++ [48], by omega, by omega, by go_num, rfl, HNS.out.app (by intro b hb; simp at hb; subst hb; decide), by simp; omega⟩
            case measure => simp [intOf]; omega
          · rw [hj] at htm
            have hg0 : (({ data := #[97, 98, 122, 65, 90, 48, 49, 57, 95, 59] } : ByteArray)[6]'(by decide)).toNat = 49 := rfl
            have hw0 : wrap32 49 = 49 := by unfold wrap32; omega
            have he : Utf8.encode 49 = str [49] := (FIN 49 _ (enc_ascii (b := 49) (by decide))).1
            have ad : ∀ W, (Op.stringOp .add (str Sx) (str [49])).run Tryd.prog W = .ok (.string (str (Sx ++ [49]))) W := run_add_str Sx [49] (by simp; omega)
            clear FIN
            go_wp2_with fail
            go_round
            case rel => exact ⟨k + 1, Sx ++ [49], by omega, by omega, by go_num, rfl, HNS.out.app (by intro b hb; simp at hb; subst hb; decide), by simp; omega⟩
            case measure => simp [intOf]; omega
          · rw [hj] at htm
            have hg0 : (({ data := #[97, 98, 122, 65, 90, 48, 49, 57, 95, 59] } : ByteArray)[7]'(by decide)).toNat = 57 := rfl
            have hw0 : wrap32 57 = 57 := by unfold wrap32; omega
            have he : Utf8.encode 57 = str [57] := (FIN 57 _ (enc_ascii (b := 57) (by decide))).1
            have ad : ∀ W, (Op.stringOp .add (str Sx) (str [57])).run Tryd.prog W = .ok (.string (str (Sx ++ [57]))) W := run_add_str Sx [57] (by simp; omega)
            clear FIN
            go_wp2_with fail
            go_round
            case rel => exact ⟨k + 1, Sx ++ [57], by omega, by omega, by go_num, rfl, HNS.out.app (by intro b hb; simp at hb; subst hb; decide), by simp; omega⟩
            case measure => simp [intOf]; omega
          · rw [hj] at htm
            have hg0 : (({ data := #[97, 98, 122, 65, 90, 48, 49, 57, 95, 59] } : ByteArray)[8]'(by decide)).toNat = 95 := rfl
            have hw0 : wrap32 95 = 95 := by unfold wrap32; omega
            have he : Utf8.encode 95 = str [95] := (FIN 95 _ (enc_ascii (b := 95) (by decide))).1
            have ad : ∀ W, (Op.stringOp .add (str Sx) (str [95])).run Tryd.prog W = .ok (.string (str (Sx ++ [95]))) W := run_add_str Sx [95] (by simp; omega)
            clear FIN
            go_wp2_with fail
            go_round
            case rel => exact ⟨k + 1, Sx ++ [95], by omega, by omega, by go_num, rfl, HNS.out.app (by intro b hb; simp at hb; subst hb; decide), by simp; omega⟩
            case measure => simp [intOf]; omega
          · rw [hj] at htm
            have hg0 : (({ data := #[97, 98, 122, 65, 90, 48, 49, 57, 95, 59] } : ByteArray)[9]'(by decide)).toNat = 59 := rfl
            have hw0 : wrap32 59 = 59 := by unfold wrap32; omega
            have he : Utf8.encode 59 = str [59] := (FIN 59 _ (enc_ascii (b := 59) (by decide))).1
            have ad : ∀ W, (Op.stringOp .add (str Sx) (str [59])).run Tryd.prog W = .ok (.string (str (Sx ++ [59]))) W := run_add_str Sx [59] (by simp; omega)
            clear FIN
            go_wp2_with fail
            go_round
            case rel => exact ⟨k + 1, Sx ++ [59], by omega, by omega, by go_num, rfl, HNS.out.app (by intro b hb; simp at hb; subst hb; decide), by simp; omega⟩
            case measure => simp [intOf]; omega
        · obtain ⟨E, hE⟩ : ∃ E, enc z.toNat = E := ⟨_, rfl⟩
          obtain ⟨he0, hEl⟩ := FIN _ _ hE
          have hsp : NoSp E := by rw [← hE]; exact enc_sp (by omega)
          have HSP := Lib.hid hsp
          have he : Utf8.encode z = str E := by rw [← he0, Int.toNat_of_nonneg z0]
          have ad : ∀ W, (Op.stringOp .add (str Sx) (str E)).run Tryd.prog W = .ok (.string (str (Sx ++ E))) W := run_add_str Sx E (by omega)
          clear FIN hE hsp he0
          have hcs : z < 55296 ∨ 57343 < z := by omega
          rcases hcs with p1 | p1
          all_goals
            go_wp2_with fail
            go_round
            case rel => exact ⟨k + 1, Sx ++ E, by omega, by omega, by go_num, rfl, HNS.out.app HSP.out, by rw [List.length_append]; omega⟩
            case measure => simp [intOf]; omega
    · have sz := str_size Sx
      have hs2 : Sx.length ≤ 56 := by omega
      have hex : decide (k < len) = false ∨ (decide (k < len) = true ∧ decide ((k : Int) < 14) = false) := by
        by_cases h : k < len
        · exact .inr ⟨by simpa using h, by simp; omega⟩
        · exact .inl (by simpa using h)
      have gk := fun (u : World) (hu : Tabs u) => all_good keys u (by decide) hu
      have HK := Lib.hid gk
      clear gk hlt
      cases hnm : nameB Sx with
      | true =>
        have ga := all_good (name_yes hnm) w1 (by omega) hT1
        rcases hex with x1 | ⟨x1, x2⟩
        all_goals
          go_wp2_with fail
          refine ga.mono ?_
          rintro e w2 ⟨A, c, rfl, hk2, b2⟩
          obtain ⟨b, off, rfl, p0, p1, p2, p3⟩ := hk2.at_ 0 (by simp)
          simp at p0
          clear p1 p2 p3 ga
          go_wp2_with fail
          refine (HK.out w2 (hT1.below b2)).mono ?_
          rintro e w3 ⟨A3, c3, rfl, hk3, b3⟩
          clear p0 hk2
          have B3 := b2.trans (b3.mono b2.size)
          obtain ⟨b4, off4, rfl, q0, q1, q2, q3⟩ := hk3.at_ 0 (by simp)
          obtain ⟨_, _, e1, r0, r1, r2, r3⟩ := hk3.at_ 1 (by simp)
          cases e1
          simp at q0 r0
          clear q1 q2 q3 r1 r2 r3 hk3 b3
          go_wp2_with fail
          refine (isName_any Sx w3 (by omega) (hT1.below B3)).mono ?_
          rw [hnm]
          rintro e w4 ⟨rfl, b4'⟩
          have B4 := B3.trans (b4'.mono B3.size)
          have q0' := (b4'.cell (World.block_lt_of_cell? _ _ q0)).trans q0
          have r0' := (b4'.cell (World.block_lt_of_cell? _ _ r0)).trans r0
          clear q0 r0 b4' B3
          go_wp2_with fail
          go_ret
          exact ⟨rfl, bx.trans (B4.mono bx.size)⟩
      | false =>
        cases hlx : lexA Sx with
        | bad p =>
          have ga := all_bad hlx w1 (by omega) hT1
          clear hlx
          rcases hex with x1 | ⟨x1, x2⟩
          all_goals
            go_wp2_with fail
            refine ga.mono ?_
            rintro e w2 ⟨rfl, b2⟩
            clear ga
            go_wp2_with fail
            refine (HK.out w2 (hT1.below b2)).mono ?_
            rintro e w3 ⟨A3, c3, rfl, hk3, b3⟩
            have B3 := b2.trans (b3.mono b2.size)
            obtain ⟨b4, off4, rfl, q0, q1, q2, q3⟩ := hk3.at_ 0 (by simp)
            obtain ⟨_, _, e1, r0, r1, r2, r3⟩ := hk3.at_ 1 (by simp)
            cases e1
            simp at q0 r0
            clear q1 q2 q3 r1 r2 r3 hk3 b3
            go_wp2_with fail
            refine (isName_any Sx w3 (by omega) (hT1.below B3)).mono ?_
            rw [hnm]
            rintro e w4 ⟨rfl, b4'⟩
            have B4 := B3.trans (b4'.mono B3.size)
            have q0' := (b4'.cell (World.block_lt_of_cell? _ _ q0)).trans q0
            have r0' := (b4'.cell (World.block_lt_of_cell? _ _ r0)).trans r0
            clear q0 r0 b4' B3
            go_wp2_with fail
            go_ret
            exact ⟨rfl, bx.trans (B4.mono bx.size)⟩
        | good ts =>
          have hso : ∀ t, ts = [t] → t.k ≠ 1 := fun t e h1 => by
            have := lx_name (by rw [← e]; exact soundA hlx) HNS.out h1
            rw [hnm] at this
            cases this
          have ga := all_good hlx w1 (by omega) hT1
          clear hlx
          by_cases hone : ts.length = 1
          · obtain ⟨t, rfl⟩ : ∃ t, ts = [t] := by
              match ts, hone with
              | [t], _ => exact ⟨t, rfl⟩
            have hk1 := hso t rfl
            have d1 : ((t.k : Int) == 1) = false := by rw [beq_eq_false_iff_ne]; omega
            obtain ⟨tk, htk⟩ : ∃ tk, t.k = tk := ⟨_, rfl⟩
            clear hso hone
            rcases hex with x1 | ⟨x1, x2⟩
            all_goals
              go_wp2_with fail
              refine ga.mono ?_
              rintro e w2 ⟨A, c, rfl, hk2, b2⟩
              obtain ⟨b, off, rfl, p0, p1, p2, p3⟩ := hk2.at_ 0 (by simp)
              simp at p0
              clear p1 p2 p3 ga
              go_wp2_with fail
              refine (HK.out w2 (hT1.below b2)).mono ?_
              rintro e w3 ⟨A3, c3, rfl, hk3, b3⟩
              clear p0 hk2
              have B3 := b2.trans (b3.mono b2.size)
              obtain ⟨b4, off4, rfl, q0, q1, q2, q3⟩ := hk3.at_ 0 (by simp)
              obtain ⟨_, _, e1, r0, r1, r2, r3⟩ := hk3.at_ 1 (by simp)
              cases e1
              simp at q0 r0
              clear q1 q2 q3 r1 r2 r3 hk3 b3
              go_wp2_with fail
              refine (isName_any Sx w3 (by omega) (hT1.below B3)).mono ?_
              rw [hnm]
              rintro e w4 ⟨rfl, b4'⟩
              have B4 := B3.trans (b4'.mono B3.size)
              have q0' := (b4'.cell (World.block_lt_of_cell? _ _ q0)).trans q0
              have r0' := (b4'.cell (World.block_lt_of_cell? _ _ r0)).trans r0
              clear q0 r0 b4' B3
              go_wp2_with fail
              go_ret
              exact ⟨rfl, bx.trans (B4.mono bx.size)⟩
          · have d1 : ((ts.length : Int) == 1) = false := by rw [beq_eq_false_iff_ne]; omega
            clear hso hone
            rcases hex with x1 | ⟨x1, x2⟩
            all_goals
              go_wp2_with fail
              refine ga.mono ?_
              rintro e w2 ⟨A, c, rfl, hk2, b2⟩
              clear ga hk2
              go_wp2_with fail
              refine (HK.out w2 (hT1.below b2)).mono ?_
              rintro e w3 ⟨A3, c3, rfl, hk3, b3⟩
              have B3 := b2.trans (b3.mono b2.size)
              obtain ⟨b4, off4, rfl, q0, q1, q2, q3⟩ := hk3.at_ 0 (by simp)
              obtain ⟨_, _, e1, r0, r1, r2, r3⟩ := hk3.at_ 1 (by simp)
              cases e1
              simp at q0 r0
              clear q1 q2 q3 r1 r2 r3 hk3 b3
              go_wp2_with fail
              refine (isName_any Sx w3 (by omega) (hT1.below B3)).mono ?_
              rw [hnm]
              rintro e w4 ⟨rfl, b4'⟩
              have B4 := B3.trans (b4'.mono B3.size)
              have q0' := (b4'.cell (World.block_lt_of_cell? _ _ q0)).trans q0
              have r0' := (b4'.cell (World.block_lt_of_cell? _ _ r0)).trans r0
              clear q0 r0 b4' B3
              go_wp2_with fail
              go_ret
              exact ⟨rfl, bx.trans (B4.mono bx.size)⟩
end Go.Proofs.YtblpbgknnnpamaaDoor
