/- Merged by program: VrA, VrRune, VrRune2, VrName, VrLev, VrRight, VrTypes, VrNums, VrLook, VrEval, VrKl, VrKc, VrExprM, VrExpr, VrOwn, VrBinds, VtM. -/
import Derived.Test.YtbhjimlikffalaaDoorExIsName
import Derived.Test.YtbhjimlikffalaaDoorLxRunes
import Derived.Lib.MapLaws
import Derived.Test.YtbhjimlikffalaaDoorVaMade
import Derived.Test.YtbhjimlikffalaaDoorVaRk
import Derived.Test.YtbhjimlikffalaaDoorVaOps
import Derived.Test.YtbhjimlikffalaaDoorVaLook
import Derived.Test.YtbhjimlikffalaaDoorVaEval
import Derived.Test.YtbhjimlikffalaaDoorExDef
import Derived.Test.YtbhjimlikffalaaDoorVaGen
import Derived.Test.YtbhjimlikffalaaDoorAppStep
import Derived.Test.YtbhjimlikffalaaDoorExSame
import Derived.Deep.RegionLaw
import Derived.Test.YtbhjimlikffalaaDoorVaOwn
import Derived.Test.YtbhjimlikffalaaDoorVaBindsW
import Derived.Test.YtbhjimlikffalaaDoorVaEx
import Derived.Test.YtbhjimlikffalaaDoorVaNear
import Derived.Test.YtbhjimlikffalaaDoorVaCut
/- The reference of chapter 4: letters, digits. -/
namespace Go.Proofs.YtbhjimlikffalaaDoor
open Go.RowKit
set_option linter.unusedVariables false

theorem letter_any (r : Int) (w : World) (h0 : 0 ≤ r) (h1 : r ≤ 1114111) :
    Calls Tryd.prog 118 #[.int .i64 r] w fun e w' => e = .returned (.bool (begB r)) ∧ w = w' := by
  go_enter Tryd.func118, Tryd.ntmps118
  go_wp2
  all_goals go_ret
  all_goals exact ⟨ret_bool (by first | rfl | (unfold begB; rw [Bool.eq_iff_iff]; simp; omega)), rfl⟩
theorem digit_any (r : Int) (w : World) (h0 : 0 ≤ r) (h1 : r ≤ 1114111) :
    Calls Tryd.prog 119 #[.int .i64 r] w fun e w' => e = .returned (.bool (digB r)) ∧ w = w' := by
  go_enter Tryd.func119, Tryd.ntmps119
  go_wp2
  all_goals go_ret
  all_goals exact ⟨ret_bool (by first | rfl | (unfold digB; rw [Bool.eq_iff_iff]; simp; omega)), rfl⟩
theorem str_eqB (a b : Nm) : ((str a).toList == (str b).toList) = (a == b) := by rw [str_toList, str_toList]
end Go.Proofs.YtbhjimlikffalaaDoor
/- The reference's rune: what it tells is what is decoded. -/
namespace Go.Proofs.YtbhjimlikffalaaDoor
open Go.RowKit
set_option linter.unusedVariables false

/-- The rune that a text begins with, and how many bytes it has; 0 and 0, if there is none that is right. -/
def runeR (l : Nm) : Nat × Nat := if l = [] ∨ ((Lib.decodeL l).1 = 65533 ∧ (Lib.decodeL l).2 = 1) then (0, 0) else Lib.decodeL l
theorem str_get (l : Nm) (k : Nat) (h : k < (str l).size) : (str l)[k]'h = l.getD k 0 := by
  have h2 : k < l.length := by rw [← str_size l]; exact h
  simp only [str, ByteArray.getElem_eq_getElem_data, List.getElem_toArray]
  simp [List.getD, h2]
set_option maxHeartbeats 1000000 in
set_option maxRecDepth 100000 in
theorem rune_none (w : World) : Calls Tryd.prog 117 #[.string (str [])] w fun e w' => e = .returned (.tuple #[.int .i64 0, .int .i64 0]) ∧ w = w' := by
  have es : (str ([] : Nm)).toList = [] := str_toList []
  go_enter Tryd.func117, Tryd.ntmps117
  go_wp2_with fail
  go_ret2
  exact ⟨rfl, rfl⟩
set_option maxHeartbeats 1000000 in
set_option maxRecDepth 100000 in
theorem rune_ascii (l : Nm) (w : World) (h : l ≠ []) (hb : (l.getD 0 0).toNat < 128) (hl : l.length ≤ 9223372036854775807) : Calls Tryd.prog 117 #[.string (str l)] w fun e w' => e = .returned (.tuple #[.int .i64 ((l.getD 0 0).toNat : Int), .int .i64 1]) ∧ w = w' := by
  have hz := str_size l
  have hp : 0 < l.length := List.length_pos_iff.2 h
  have es : (str l).toList.isEmpty = false := by rw [str_toList]; simpa using h
  have es2 : ((str l).toList = []) = False := by rw [str_toList]; simpa using h
  have hg : ((str l)[0]'(by omega)).toNat = (l.getD 0 0).toNat := by rw [str_get]
  generalize (l.getD 0 0).toNat = n0 at *
  go_enter Tryd.func117, Tryd.ntmps117
  go_wp2_with fail
  go_ret2
  exact ⟨rfl, rfl⟩
set_option maxHeartbeats 1000000 in
set_option maxRecDepth 100000 in
theorem rune_lone (l : Nm) (w : World) (h : l ≠ []) (hb : 128 ≤ (l.getD 0 0).toNat ∧ (l.getD 0 0).toNat < 192 ∨ 248 ≤ (l.getD 0 0).toNat) (hl : l.length ≤ 9223372036854775807) : Calls Tryd.prog 117 #[.string (str l)] w fun e w' => e = .returned (.tuple #[.int .i64 0, .int .i64 0]) ∧ w = w' := by
  have hz := str_size l
  have hp : 0 < l.length := List.length_pos_iff.2 h
  have es : (str l).toList.isEmpty = false := by rw [str_toList]; simpa using h
  have es2 : ((str l).toList = []) = False := by rw [str_toList]; simpa using h
  have hg : ((str l)[0]'(by omega)).toNat = (l.getD 0 0).toNat := by rw [str_get]
  have h256 : (l.getD 0 0).toNat < 256 := UInt8.toNat_lt _
  generalize (l.getD 0 0).toNat = n0 at *
  rcases hb with ⟨q1, q2⟩ | q1
  all_goals
    go_enter Tryd.func117, Tryd.ntmps117
    go_wp2_with fail
    go_ret2
    exact ⟨rfl, rfl⟩
/-- The number of k bytes. -/
def vr (lo : Nat) (bs : Nat → Nat) : Nat → Int
  | 0 => 0
  | 1 => (bs 0 : Int) - lo
  | k + 2 => vr lo bs (k + 1) * 64 + (bs (k + 1) : Int) - 128
def okc (bs : Nat → Nat) (k : Nat) : Prop := ∀ j, 1 ≤ j → j < k → 128 ≤ bs j ∧ bs j ≤ 191
theorem vr_succ (lo : Nat) (bs : Nat → Nat) {k : Nat} (h : 1 ≤ k) : vr lo bs (k + 1) = vr lo bs k * 64 + (bs k : Int) - 128 := by
  obtain ⟨m, rfl⟩ : ∃ m, k = m + 1 := ⟨k - 1, by omega⟩
  rfl
theorem vr_bd {lo : Nat} {bs : Nat → Nat} (h0 : lo ≤ bs 0) (h1 : bs 0 < lo + 32) : ∀ {k : Nat}, okc bs k → 1 ≤ k → k ≤ 4 → 0 ≤ vr lo bs k ∧ vr lo bs k ≤ 8388607 := by
  intro k hk k1 k4
  have e1 : vr lo bs 1 = (bs 0 : Int) - lo := rfl
  have e2 : vr lo bs 2 = vr lo bs 1 * 64 + (bs 1 : Int) - 128 := vr_succ lo bs (k := 1) (by omega)
  have e3 : vr lo bs 3 = vr lo bs 2 * 64 + (bs 2 : Int) - 128 := vr_succ lo bs (k := 2) (by omega)
  have e4 : vr lo bs 4 = vr lo bs 3 * 64 + (bs 3 : Int) - 128 := vr_succ lo bs (k := 3) (by omega)
  have c1 := hk 1
  have c2 := hk 2
  have c3 := hk 3
  rcases (by omega : k = 1 ∨ k = 2 ∨ k = 3 ∨ k = 4) with rfl | rfl | rfl | rfl
  · omega
  · have := c1 (by omega) (by omega); omega
  · have := c1 (by omega) (by omega); have := c2 (by omega) (by omega); omega
  · have := c1 (by omega) (by omega); have := c2 (by omega) (by omega); have := c3 (by omega) (by omega); omega
def RunePost (C : Prop) (v n : Int) (w : World) (e : Ending) (w' : World) : Prop := w = w' ∧ (C → e = .returned (.tuple #[.int .i64 v, .int .i64 n])) ∧ (¬ C → e = .returned (.tuple #[.int .i64 0, .int .i64 0]))
/-- Are N bytes a rune, of no fewer than it needs? -/
def RuneC (len N lo least : Nat) (bs : Nat → Nat) : Prop := N ≤ len ∧ okc bs N ∧ (least : Int) ≤ vr lo bs N ∧ vr lo bs N ≤ 1114111 ∧ ¬ (55296 ≤ vr lo bs N ∧ vr lo bs N ≤ 57343)
set_option maxHeartbeats 4000000 in
set_option maxRecDepth 100000 in
theorem rune_multi (l : Nm) (w : World) (N lo least : Nat) (bs : Nat → Nat) (hbs : ∀ j, bs j = (l.getD j 0).toNat) (hc : (N = 2 ∧ lo = 192 ∧ least = 128 ∧ bs 0 < 224) ∨ (N = 3 ∧ lo = 224 ∧ least = 2048 ∧ bs 0 < 240) ∨ (N = 4 ∧ lo = 240 ∧ least = 65536 ∧ bs 0 < 248)) (h : l ≠ []) (h0 : lo ≤ bs 0) (hl : l.length ≤ 9223372036854775807) :
    Calls Tryd.prog 117 #[.string (str l)] w (RunePost (RuneC l.length N lo least bs) (vr lo bs N) N w) := by
  have hz := str_size l
  have hp : 0 < l.length := List.length_pos_iff.2 h
  have es : (str l).toList.isEmpty = false := by rw [str_toList]; simpa using h
  have es2 : ((str l).toList = []) = False := by rw [str_toList]; simpa using h
  have hg0 : ((str l)[0]'(by omega)).toNat = bs 0 := by rw [str_get, hbs]
  have h256 : ∀ j, bs j < 256 := fun j => by rw [hbs]; exact UInt8.toNat_lt _
  have hgk : ∀ j (hj : j < (str l).size), ((str l)[j]'hj).toNat = bs j := fun j hj => by rw [str_get, hbs]
  have HG := Lib.hid hgk
  have H256 := Lib.hid h256
  have hvb : ∀ k, okc bs k → 1 ≤ k → k ≤ 4 → 0 ≤ vr lo bs k ∧ vr lo bs k ≤ 8388607 := fun k => vr_bd h0 (by omega)
  have HV := Lib.hid hvb
  have e1 : vr lo bs 1 = (bs 0 : Int) - lo := rfl
  have HE1 := Lib.hid e1
  clear hgk h256 hbs hvb e1
  have hb0 := H256.out 0
  by_cases hN : N ≤ l.length
  · rcases hc with ⟨rfl, rfl, rfl, h1⟩ | ⟨rfl, rfl, rfl, h1⟩ | ⟨rfl, rfl, rfl, h1⟩
    · go_enter Tryd.func117, Tryd.ntmps117
      go_wp2_with fail
      go_loop [6, 8] (fun r i => ∃ k : Nat, 1 ≤ k ∧ k ≤ 2 ∧ i = .int .i64 k ∧ r = .int .i64 (vr 192 bs k) ∧ okc bs k) (fun _ i => 2 - (intOf i).toNat)
      case atStart => exact ⟨1, by omega, by omega, rfl, by rw [HE1.out]; rfl, fun j _ _ => by omega⟩
      case round =>
        obtain ⟨k, hk1, hk2, rfl, rfl, hok⟩ := hrel
        have hv := HV.out k hok hk1 (by omega)
        obtain ⟨V, hV⟩ : ∃ V, vr 192 bs k = V := ⟨_, rfl⟩
        rw [hV] at hv ⊢
        obtain ⟨v0, v1⟩ := hv
        have HOK := Lib.hid hok
        clear hok
        by_cases hlt : k < 2
        · have gk := HG.out k (by omega)
          have hsu := vr_succ 192 bs hk1
          rw [hV] at hsu
          have HSU := Lib.hid hsu
          clear hsu hV
          have bk := H256.out k
          obtain ⟨nk, hnk⟩ : ∃ nk, bs k = nk := ⟨_, rfl⟩
          rw [hnk] at gk bk
          have HNK := Lib.hid hnk
          clear hnk
          by_cases cc : 128 ≤ nk ∧ nk ≤ 191
          · obtain ⟨cc1, cc2⟩ := cc
            have hok' : okc bs (k + 1) := fun j j1 j2 => by
              by_cases e : j = k
              · subst e; rw [HNK.out]; exact ⟨cc1, cc2⟩
              · exact HOK.out j j1 (by omega)
            have HOK' := Lib.hid hok'
            clear hok'
            go_wp2_with fail
            exact ⟨⟨_, _, _, _, ⟨k + 1, by omega, by omega, by go_num, by rw [HSU.out, HNK.out], HOK'.out⟩, rfl, rfl, rfl, rfl⟩, by simp [intOf]; omega⟩
          · have hno : ¬ RuneC l.length 2 192 128 bs := fun hh => by have := hh.2.1 k hk1 (by omega); rw [HNK.out] at this; omega
            have HNO := Lib.hid hno
            clear hno
            by_cases cc2 : nk < 128
            · go_wp2_with fail
              go_ret2
              exact ⟨rfl, fun c => absurd c HNO.out, fun _ => rfl⟩
            · have cc3 : 191 < nk := by omega
              go_wp2_with fail
              go_ret2
              exact ⟨rfl, fun c => absurd c HNO.out, fun _ => rfl⟩
        · obtain rfl : k = 2 := by omega
          have HVV := Lib.hid hV
          clear hV
          have hRC : RuneC l.length 2 192 128 bs ↔ 128 ≤ V ∧ V ≤ 1114111 ∧ ¬ (55296 ≤ V ∧ V ≤ 57343) := by
            unfold RuneC
            rw [HVV.out]
            exact ⟨fun c => ⟨by have := c.2.2.1; omega, c.2.2.2⟩, fun c => ⟨hN, HOK.out, by omega, c.2⟩⟩
          have HRC := Lib.hid hRC
          clear hRC
          rw [HVV.out]
          by_cases q1 : V < 128
          · go_wp2_with fail
            go_ret2
            exact ⟨rfl, fun c => by have := HRC.out.1 c; omega, fun _ => rfl⟩
          · by_cases q2 : 1114111 < V
            · go_wp2_with fail
              go_ret2
              exact ⟨rfl, fun c => by have := HRC.out.1 c; omega, fun _ => rfl⟩
            · by_cases q3 : 55296 ≤ V
              · by_cases q4 : V ≤ 57343
                · go_wp2_with fail
                  go_ret2
                  exact ⟨rfl, fun c => by have := HRC.out.1 c; omega, fun _ => rfl⟩
                · go_wp2_with fail
                  go_ret2
                  exact ⟨rfl, fun _ => by rw [HVV.out]; rfl, fun c => absurd (HRC.out.2 (by omega)) c⟩
              · go_wp2_with fail
                go_ret2
                exact ⟨rfl, fun _ => by rw [HVV.out]; rfl, fun c => absurd (HRC.out.2 (by omega)) c⟩
    · go_enter Tryd.func117, Tryd.ntmps117
      go_wp2_with fail
      go_loop [6, 8] (fun r i => ∃ k : Nat, 1 ≤ k ∧ k ≤ 3 ∧ i = .int .i64 k ∧ r = .int .i64 (vr 224 bs k) ∧ okc bs k) (fun _ i => 3 - (intOf i).toNat)
      case atStart => exact ⟨1, by omega, by omega, rfl, by rw [HE1.out]; rfl, fun j _ _ => by omega⟩
      case round =>
        obtain ⟨k, hk1, hk2, rfl, rfl, hok⟩ := hrel
        have hv := HV.out k hok hk1 (by omega)
        obtain ⟨V, hV⟩ : ∃ V, vr 224 bs k = V := ⟨_, rfl⟩
        rw [hV] at hv ⊢
        obtain ⟨v0, v1⟩ := hv
        have HOK := Lib.hid hok
        clear hok
        by_cases hlt : k < 3
        · have gk := HG.out k (by omega)
          have hsu := vr_succ 224 bs hk1
          rw [hV] at hsu
          have HSU := Lib.hid hsu
          clear hsu hV
          have bk := H256.out k
          obtain ⟨nk, hnk⟩ : ∃ nk, bs k = nk := ⟨_, rfl⟩
          rw [hnk] at gk bk
          have HNK := Lib.hid hnk
          clear hnk
          by_cases cc : 128 ≤ nk ∧ nk ≤ 191
          · obtain ⟨cc1, cc2⟩ := cc
            have hok' : okc bs (k + 1) := fun j j1 j2 => by
              by_cases e : j = k
              · subst e; rw [HNK.out]; exact ⟨cc1, cc2⟩
              · exact HOK.out j j1 (by omega)
            have HOK' := Lib.hid hok'
            clear hok'
            go_wp2_with fail
            exact ⟨⟨_, _, _, _, ⟨k + 1, by omega, by omega, by go_num, by rw [HSU.out, HNK.out], HOK'.out⟩, rfl, rfl, rfl, rfl⟩, by simp [intOf]; omega⟩
          · have hno : ¬ RuneC l.length 3 224 2048 bs := fun hh => by have := hh.2.1 k hk1 (by omega); rw [HNK.out] at this; omega
            have HNO := Lib.hid hno
            clear hno
            by_cases cc2 : nk < 128
            · go_wp2_with fail
              go_ret2
              exact ⟨rfl, fun c => absurd c HNO.out, fun _ => rfl⟩
            · have cc3 : 191 < nk := by omega
              go_wp2_with fail
              go_ret2
              exact ⟨rfl, fun c => absurd c HNO.out, fun _ => rfl⟩
        · obtain rfl : k = 3 := by omega
          have HVV := Lib.hid hV
          clear hV
          have hRC : RuneC l.length 3 224 2048 bs ↔ 2048 ≤ V ∧ V ≤ 1114111 ∧ ¬ (55296 ≤ V ∧ V ≤ 57343) := by
            unfold RuneC
            rw [HVV.out]
            exact ⟨fun c => ⟨by have := c.2.2.1; omega, c.2.2.2⟩, fun c => ⟨hN, HOK.out, by omega, c.2⟩⟩
          have HRC := Lib.hid hRC
          clear hRC
          rw [HVV.out]
          by_cases q1 : V < 2048
          · go_wp2_with fail
            go_ret2
            exact ⟨rfl, fun c => by have := HRC.out.1 c; omega, fun _ => rfl⟩
          · by_cases q2 : 1114111 < V
            · go_wp2_with fail
              go_ret2
              exact ⟨rfl, fun c => by have := HRC.out.1 c; omega, fun _ => rfl⟩
            · by_cases q3 : 55296 ≤ V
              · by_cases q4 : V ≤ 57343
                · go_wp2_with fail
                  go_ret2
                  exact ⟨rfl, fun c => by have := HRC.out.1 c; omega, fun _ => rfl⟩
                · go_wp2_with fail
                  go_ret2
                  exact ⟨rfl, fun _ => by rw [HVV.out]; rfl, fun c => absurd (HRC.out.2 (by omega)) c⟩
              · go_wp2_with fail
                go_ret2
                exact ⟨rfl, fun _ => by rw [HVV.out]; rfl, fun c => absurd (HRC.out.2 (by omega)) c⟩
    · go_enter Tryd.func117, Tryd.ntmps117
      go_wp2_with fail
      go_loop [6, 8] (fun r i => ∃ k : Nat, 1 ≤ k ∧ k ≤ 4 ∧ i = .int .i64 k ∧ r = .int .i64 (vr 240 bs k) ∧ okc bs k) (fun _ i => 4 - (intOf i).toNat)
      case atStart => exact ⟨1, by omega, by omega, rfl, by rw [HE1.out]; rfl, fun j _ _ => by omega⟩
      case round =>
        obtain ⟨k, hk1, hk2, rfl, rfl, hok⟩ := hrel
        have hv := HV.out k hok hk1 (by omega)
        obtain ⟨V, hV⟩ : ∃ V, vr 240 bs k = V := ⟨_, rfl⟩
        rw [hV] at hv ⊢
        obtain ⟨v0, v1⟩ := hv
        have HOK := Lib.hid hok
        clear hok
        by_cases hlt : k < 4
        · have gk := HG.out k (by omega)
          have hsu := vr_succ 240 bs hk1
          rw [hV] at hsu
          have HSU := Lib.hid hsu
          clear hsu hV
          have bk := H256.out k
          obtain ⟨nk, hnk⟩ : ∃ nk, bs k = nk := ⟨_, rfl⟩
          rw [hnk] at gk bk
          have HNK := Lib.hid hnk
          clear hnk
          by_cases cc : 128 ≤ nk ∧ nk ≤ 191
          · obtain ⟨cc1, cc2⟩ := cc
            have hok' : okc bs (k + 1) := fun j j1 j2 => by
              by_cases e : j = k
              · subst e; rw [HNK.out]; exact ⟨cc1, cc2⟩
              · exact HOK.out j j1 (by omega)
            have HOK' := Lib.hid hok'
            clear hok'
            go_wp2_with fail
            exact ⟨⟨_, _, _, _, ⟨k + 1, by omega, by omega, by go_num, by rw [HSU.out, HNK.out], HOK'.out⟩, rfl, rfl, rfl, rfl⟩, by simp [intOf]; omega⟩
          · have hno : ¬ RuneC l.length 4 240 65536 bs := fun hh => by have := hh.2.1 k hk1 (by omega); rw [HNK.out] at this; omega
            have HNO := Lib.hid hno
            clear hno
            by_cases cc2 : nk < 128
            · go_wp2_with fail
              go_ret2
              exact ⟨rfl, fun c => absurd c HNO.out, fun _ => rfl⟩
            · have cc3 : 191 < nk := by omega
              go_wp2_with fail
              go_ret2
              exact ⟨rfl, fun c => absurd c HNO.out, fun _ => rfl⟩
        · obtain rfl : k = 4 := by omega
          have HVV := Lib.hid hV
          clear hV
          have hRC : RuneC l.length 4 240 65536 bs ↔ 65536 ≤ V ∧ V ≤ 1114111 ∧ ¬ (55296 ≤ V ∧ V ≤ 57343) := by
            unfold RuneC
            rw [HVV.out]
            exact ⟨fun c => ⟨by have := c.2.2.1; omega, c.2.2.2⟩, fun c => ⟨hN, HOK.out, by omega, c.2⟩⟩
          have HRC := Lib.hid hRC
          clear hRC
          rw [HVV.out]
          by_cases q1 : V < 65536
          · go_wp2_with fail
            go_ret2
            exact ⟨rfl, fun c => by have := HRC.out.1 c; omega, fun _ => rfl⟩
          · by_cases q2 : 1114111 < V
            · go_wp2_with fail
              go_ret2
              exact ⟨rfl, fun c => by have := HRC.out.1 c; omega, fun _ => rfl⟩
            · by_cases q3 : 55296 ≤ V
              · by_cases q4 : V ≤ 57343
                · go_wp2_with fail
                  go_ret2
                  exact ⟨rfl, fun c => by have := HRC.out.1 c; omega, fun _ => rfl⟩
                · go_wp2_with fail
                  go_ret2
                  exact ⟨rfl, fun _ => by rw [HVV.out]; rfl, fun c => absurd (HRC.out.2 (by omega)) c⟩
              · go_wp2_with fail
                go_ret2
                exact ⟨rfl, fun _ => by rw [HVV.out]; rfl, fun c => absurd (HRC.out.2 (by omega)) c⟩
  · rcases hc with ⟨rfl, rfl, rfl, h1⟩ | ⟨rfl, rfl, rfl, h1⟩ | ⟨rfl, rfl, rfl, h1⟩
    all_goals
      have hN2 : l.length < 4 := by omega
      go_enter Tryd.func117, Tryd.ntmps117
      go_wp2_with fail
      go_ret2
      exact ⟨rfl, fun c => absurd c.1 hN, fun _ => rfl⟩
end Go.Proofs.YtbhjimlikffalaaDoor
/- The reference's rune, whatever the text. -/
namespace Go.Proofs.YtbhjimlikffalaaDoor
open Go.RowKit
set_option linter.unusedVariables false

set_option maxHeartbeats 4000000 in
set_option maxRecDepth 100000 in
theorem d2 (n n0 n1 n2 n3 : Nat) (h0 : 192 ≤ n0) (h1 : n0 < 224) (b1 : n1 < 256) : Lib.decodeN n n0 n1 n2 n3 = if 2 ≤ n ∧ 128 ≤ n1 ∧ n1 ≤ 191 ∧ 128 ≤ (n0 - 192) * 64 + (n1 - 128) then ((n0 - 192) * 64 + (n1 - 128), 2) else (65533, 1) := by
  unfold Lib.decodeN
  repeat' split
  all_goals first | rfl | (exfalso; omega) | (apply Prod.ext <;> simp only <;> omega)
set_option maxHeartbeats 4000000 in
set_option maxRecDepth 100000 in
theorem d3 (n n0 n1 n2 n3 : Nat) (h0 : 224 ≤ n0) (h1 : n0 < 240) (b1 : n1 < 256) (b2 : n2 < 256) : Lib.decodeN n n0 n1 n2 n3 = if 3 ≤ n ∧ (128 ≤ n1 ∧ n1 ≤ 191) ∧ (128 ≤ n2 ∧ n2 ≤ 191) ∧ 2048 ≤ ((n0 - 224) * 64 + (n1 - 128)) * 64 + (n2 - 128) ∧ ¬ (55296 ≤ ((n0 - 224) * 64 + (n1 - 128)) * 64 + (n2 - 128) ∧ ((n0 - 224) * 64 + (n1 - 128)) * 64 + (n2 - 128) ≤ 57343) then (((n0 - 224) * 64 + (n1 - 128)) * 64 + (n2 - 128), 3) else (65533, 1) := by
  unfold Lib.decodeN
  repeat' split
  all_goals first | rfl | (exfalso; omega) | (apply Prod.ext <;> simp only <;> omega)
set_option maxHeartbeats 4000000 in
set_option maxRecDepth 100000 in
theorem d4 (n n0 n1 n2 n3 : Nat) (h0 : 240 ≤ n0) (h1 : n0 < 248) (b1 : n1 < 256) (b2 : n2 < 256) (b3 : n3 < 256) : Lib.decodeN n n0 n1 n2 n3 = if 4 ≤ n ∧ (128 ≤ n1 ∧ n1 ≤ 191) ∧ (128 ≤ n2 ∧ n2 ≤ 191) ∧ (128 ≤ n3 ∧ n3 ≤ 191) ∧ 65536 ≤ (((n0 - 240) * 64 + (n1 - 128)) * 64 + (n2 - 128)) * 64 + (n3 - 128) ∧ (((n0 - 240) * 64 + (n1 - 128)) * 64 + (n2 - 128)) * 64 + (n3 - 128) ≤ 1114111 then ((((n0 - 240) * 64 + (n1 - 128)) * 64 + (n2 - 128)) * 64 + (n3 - 128), 4) else (65533, 1) := by
  unfold Lib.decodeN
  repeat' split
  all_goals first | rfl | (exfalso; omega) | (apply Prod.ext <;> simp only <;> omega)
theorem d0 (n n0 n1 n2 n3 : Nat) (h : 128 ≤ n0 ∧ n0 < 192 ∨ 248 ≤ n0) (b0 : n0 < 256) : Lib.decodeN n n0 n1 n2 n3 = (65533, 1) := by
  unfold Lib.decodeN
  repeat' split
  all_goals first | rfl | (exfalso; omega)
theorem ok2 (bs : Nat → Nat) : okc bs 2 ↔ 128 ≤ bs 1 ∧ bs 1 ≤ 191 := ⟨fun c => c 1 (by omega) (by omega), fun c j j1 j2 => by
  obtain rfl : j = 1 := by omega
  exact c⟩
theorem ok3 (bs : Nat → Nat) : okc bs 3 ↔ (128 ≤ bs 1 ∧ bs 1 ≤ 191) ∧ 128 ≤ bs 2 ∧ bs 2 ≤ 191 := ⟨fun c => ⟨c 1 (by omega) (by omega), c 2 (by omega) (by omega)⟩, fun c j j1 j2 => by
  rcases (by omega : j = 1 ∨ j = 2) with rfl | rfl
  · exact c.1
  · exact c.2⟩
theorem ok4 (bs : Nat → Nat) : okc bs 4 ↔ (128 ≤ bs 1 ∧ bs 1 ≤ 191) ∧ (128 ≤ bs 2 ∧ bs 2 ≤ 191) ∧ 128 ≤ bs 3 ∧ bs 3 ≤ 191 := ⟨fun c => ⟨c 1 (by omega) (by omega), c 2 (by omega) (by omega), c 3 (by omega) (by omega)⟩, fun c j j1 j2 => by
  rcases (by omega : j = 1 ∨ j = 2 ∨ j = 3) with rfl | rfl | rfl
  · exact c.1
  · exact c.2.1
  · exact c.2.2⟩
def RuneIs (l : Nm) (w : World) (e : Ending) (w' : World) : Prop := w = w' ∧ e = .returned (.tuple #[.int .i64 ((runeR l).1 : Int), .int .i64 ((runeR l).2 : Int)])
theorem runeR_bad {l : Nm} (h : Lib.decodeL l = (65533, 1)) : runeR l = (0, 0) := by unfold runeR; rw [if_pos (.inr (by rw [h]; exact ⟨rfl, rfl⟩))]
theorem runeR_ok {l : Nm} {r n : Nat} (hl : l ≠ []) (h : Lib.decodeL l = (r, n)) (hn : r = 65533 → n ≠ 1) : runeR l = (r, n) := by
  unfold runeR
  rw [if_neg, h]
  rintro (h0 | h0)
  · exact hl h0
  · rw [h] at h0; exact hn h0.1 h0.2
theorem rune_any (l : Nm) (w : World) (hl : l.length ≤ 9223372036854775807) : Calls Tryd.prog 117 #[.string (str l)] w (RuneIs l w) := by
  by_cases h : l = []
  · subst h
    refine (rune_none w).mono ?_
    rintro e w' ⟨rfl, rfl⟩
    exact ⟨rfl, rfl⟩
  have hd := Lib.decodeL_N l
  have b0 : (l.getD 0 0).toNat < 256 := UInt8.toNat_lt _
  have b1 : (l.getD 1 0).toNat < 256 := UInt8.toNat_lt _
  have b2 : (l.getD 2 0).toNat < 256 := UInt8.toNat_lt _
  have b3 : (l.getD 3 0).toNat < 256 := UInt8.toNat_lt _
  by_cases h128 : (l.getD 0 0).toNat < 128
  · refine (rune_ascii l w h h128 hl).mono ?_
    rintro e w' ⟨rfl, rfl⟩
    have hr : runeR l = ((l.getD 0 0).toNat, 1) := runeR_ok h (by rw [hd]; unfold Lib.decodeN; rw [if_pos h128]) (by omega)
    refine ⟨rfl, ?_⟩
    rw [hr]
    rfl
  by_cases hlone : 128 ≤ (l.getD 0 0).toNat ∧ (l.getD 0 0).toNat < 192 ∨ 248 ≤ (l.getD 0 0).toNat
  · refine (rune_lone l w h hlone hl).mono ?_
    rintro e w' ⟨rfl, rfl⟩
    refine ⟨rfl, ?_⟩
    rw [runeR_bad (by rw [hd, d0 _ _ _ _ _ hlone b0])]
    rfl
  obtain ⟨bs, hbs⟩ : ∃ bs : Nat → Nat, ∀ j, bs j = (l.getD j 0).toNat := ⟨_, fun _ => rfl⟩
  rw [← hbs] at h128 hlone b0 b1 b2 b3
  rw [← hbs, ← hbs, ← hbs, ← hbs] at hd
  have fin : ∀ (N lo least : Nat), (N = 2 ∧ lo = 192 ∧ least = 128 ∧ bs 0 < 224) ∨ (N = 3 ∧ lo = 224 ∧ least = 2048 ∧ bs 0 < 240) ∨ (N = 4 ∧ lo = 240 ∧ least = 65536 ∧ bs 0 < 248) → lo ≤ bs 0 →
      (RuneC l.length N lo least bs → ∃ r : Nat, (r : Int) = vr lo bs N ∧ runeR l = (r, N)) → (¬ RuneC l.length N lo least bs → runeR l = (0, 0)) → Calls Tryd.prog 117 #[.string (str l)] w (RuneIs l w) := by
    intro N lo least hc h0 hy hn
    refine (rune_multi l w N lo least bs hbs hc h h0 hl).mono ?_
    rintro e w' ⟨rfl, p1, p2⟩
    refine ⟨rfl, ?_⟩
    by_cases hC : RuneC l.length N lo least bs
    · obtain ⟨r, hr, hrr⟩ := hy hC
      rw [p1 hC, hrr, ← hr]
    · rw [p2 hC, hn hC]; rfl
  have e1 : ∀ lo, vr lo bs 1 = (bs 0 : Int) - lo := fun _ => rfl
  have e2 : ∀ lo, vr lo bs 2 = vr lo bs 1 * 64 + (bs 1 : Int) - 128 := fun lo => vr_succ lo bs (k := 1) (by omega)
  have e3 : ∀ lo, vr lo bs 3 = vr lo bs 2 * 64 + (bs 2 : Int) - 128 := fun lo => vr_succ lo bs (k := 2) (by omega)
  have e4 : ∀ lo, vr lo bs 4 = vr lo bs 3 * 64 + (bs 3 : Int) - 128 := fun lo => vr_succ lo bs (k := 3) (by omega)
  by_cases h224 : bs 0 < 224
  · have f1 := e1 192
    have f2 := e2 192
    refine fin 2 192 128 (.inl ⟨rfl, rfl, rfl, h224⟩) (by omega) (fun c => ?_) fun c => ?_
    · obtain ⟨c1, c2, c3, _⟩ := c
      rw [ok2] at c2
      rw [d2 _ _ _ _ _ (by omega) h224 b1, if_pos (by omega)] at hd
      exact ⟨_, by omega, runeR_ok h hd (by omega)⟩
    · rw [d2 _ _ _ _ _ (by omega) h224 b1, if_neg (fun hh => c ⟨by omega, (ok2 bs).2 (by omega), by omega, by omega, by omega⟩)] at hd
      exact runeR_bad hd
  by_cases h240 : bs 0 < 240
  · have f1 := e1 224
    have f2 := e2 224
    have f3 := e3 224
    refine fin 3 224 2048 (.inr (.inl ⟨rfl, rfl, rfl, h240⟩)) (by omega) (fun c => ?_) fun c => ?_
    · obtain ⟨c1, c2, c3, c4, c5⟩ := c
      rw [ok3] at c2
      rw [d3 _ _ _ _ _ (by omega) h240 b1 b2, if_pos (by omega)] at hd
      exact ⟨_, by omega, runeR_ok h hd (by omega)⟩
    · rw [d3 _ _ _ _ _ (by omega) h240 b1 b2, if_neg (fun hh => c ⟨by omega, (ok3 bs).2 (by omega), by omega, by omega, by omega⟩)] at hd
      exact runeR_bad hd
  · have f1 := e1 240
    have f2 := e2 240
    have f3 := e3 240
    have f4 := e4 240
    refine fin 4 240 65536 (.inr (.inr ⟨rfl, rfl, rfl, by omega⟩)) (by omega) (fun c => ?_) fun c => ?_
    · obtain ⟨c1, c2, c3, c4, c5⟩ := c
      rw [ok4] at c2
      rw [d4 _ _ _ _ _ (by omega) (by omega) b1 b2 b3, if_pos (by omega)] at hd
      exact ⟨_, by omega, runeR_ok h hd (by omega)⟩
    · rw [d4 _ _ _ _ _ (by omega) (by omega) b1 b2 b3, if_neg (fun hh => c ⟨by omega, (ok4 bs).2 (by omega), by omega, by omega, by omega⟩)] at hd
      exact runeR_bad hd
end Go.Proofs.YtbhjimlikffalaaDoor
/- The reference's IsName tells what the program's does. -/
namespace Go.Proofs.YtbhjimlikffalaaDoor
open Go.RowKit
set_option linter.unusedVariables false
theorem runeR_nil (l : Nm) : (runeR l).1 ≤ 1114111 ∧ (runeR l).2 ≤ 4 := by
  unfold runeR
  split
  · simp
  · refine ⟨Lib.decodeL_rune l, ?_⟩
    rw [Lib.decodeL_N]
    unfold Lib.decodeN
    repeat' split
    all_goals simp
theorem runeR_len {l : Nm} (h : l ≠ []) : (runeR l).2 ≤ l.length := by
  unfold runeR
  split
  · simp
  · exact Lib.decodeL_le l h
/-- A step of J, by the reference's rune. -/
theorem J_rune (b : Bool) {l : Nm} (h : l ≠ []) : J b l = (!decide ((runeR l).2 = 0) && (begB ((runeR l).1 : Int) || (!b && digB ((runeR l).1 : Int))) && J false (l.drop (runeR l).2)) := by
  rw [J_step b l h]
  have w := dec_w l
  by_cases hb : (Lib.decodeL l).1 = 65533 ∧ (Lib.decodeL l).2 = 1
  · have : runeR l = (0, 0) := by unfold runeR; rw [if_pos (.inr hb)]
    rw [this, decide_eq_true hb]
    simp
  · have : runeR l = Lib.decodeL l := by unfold runeR; rw [if_neg (by rintro (h0 | h0); exact h h0; exact hb h0)]
    rw [this, decide_eq_false hb, decide_eq_false (show ¬ (Lib.decodeL l).2 = 0 by omega)]
theorem extract_str (l : Nm) (k : Nat) : (str l).extract k l.length = str (l.drop k) := by
  rw [← str_of ((str l).extract k l.length)]
  congr 1
  rw [Lib.extract_data, str_data]
  rw [List.take_of_length_le (by rw [List.length_drop]; omega)]
set_option maxHeartbeats 1000000 in
theorem rname_any (l : Nm) (w : World) (hl : l.length ≤ 9223372036854775807) :
    Calls Tryd.prog 102 #[.string (str l)] w fun e w' => e = .returned (.bool (nameB l)) ∧ w = w' := by
  have hz := str_size l
  by_cases h0 : l = []
  · rw [not_name (.inl h0)]
    subst h0
    have es : (str ([] : Nm)).toList = [] := str_toList []
    go_enter Tryd.func102, Tryd.ntmps102
    go_wp2_with fail
    go_ret
    exact ⟨rfl, rfl⟩
  have es : (str l).toList.isEmpty = false := by rw [str_toList]; simpa using h0
  have es2 : ((str l).toList = []) = False := by rw [str_toList]; simpa using h0
  have hp : 0 < l.length := List.length_pos_iff.2 h0
  by_cases h24 : 24 < l.length
  · rw [not_name (.inr (.inl h24))]
    go_enter Tryd.func102, Tryd.ntmps102
    go_wp2_with fail
    go_ret
    exact ⟨rfl, rfl⟩
  have q1 : ((str l).toList == [87, 73, 84, 72, 73, 78]) = (l == wWithin) := by rw [str_toList]; rfl
  have q2 : ((str l).toList == [66, 89]) = (l == wBy) := by rw [str_toList]; rfl
  cases hw : (l == wWithin) with
  | true =>
    rw [not_name (.inr (.inr (.inl (by simpa using hw))))]
    go_enter Tryd.func102, Tryd.ntmps102
    go_wp2_with fail
    go_ret
    exact ⟨rfl, rfl⟩
  | false =>
  cases hy : (l == wBy) with
  | true =>
    rw [not_name (.inr (.inr (.inr (by simpa using hy))))]
    go_enter Tryd.func102, Tryd.ntmps102
    go_wp2_with fail
    go_ret
    exact ⟨rfl, rfl⟩
  | false =>
  have HV := Lib.hid (show nameB l = J true l from by
    rw [nameB_J, hw, hy, decide_eq_true h0, decide_eq_true (show l.length ≤ 24 by omega)]; simp)
  go_enter Tryd.func102, Tryd.ntmps102
  go_wp2_with fail
  clear q1 q2 hw hy
  go_loop [3] (fun i => ∃ k : Nat, k ≤ l.length ∧ i = .int .i64 k ∧ J (decide (k = 0)) (l.drop k) = J true l) (fun i => l.length - (intOf i).toNat)
  case atStart => exact ⟨0, Nat.zero_le _, rfl, rfl⟩
  case round =>
    obtain ⟨k, hk, rfl, hj⟩ := hrel
    have HJ := Lib.hid hj
    clear hj
    by_cases hlt : k < l.length
    · have hne : l.drop k ≠ [] := by
        intro h
        have := congrArg List.length h
        simp at this
        omega
      have hex := extract_str l k
      have hst := J_rune (decide (k = 0)) hne
      have hrl := runeR_nil (l.drop k)
      have hrn := runeR_len hne
      rw [List.length_drop] at hrn
      have hrc := rune_any (l.drop k) w (by rw [List.length_drop]; omega)
      unfold RuneIs at hrc
      rw [List.drop_drop] at hst
      generalize (runeR (l.drop k)).1 = r at *
      generalize (runeR (l.drop k)).2 = n at *
      have HST := Lib.hid hst
      clear hst
      go_wp2_with fail
      refine hrc.mono ?_
      rintro e w' ⟨rfl, rfl⟩
      by_cases hn0 : n = 0
      · subst hn0
        go_wp2_with fail
        go_ret
        refine ⟨ret_bool ?_, rfl⟩
        rw [HV.out, ← HJ.out, HST.out]
        simp
      · have dn : ((n : Int) == 0) = false := by rw [beq_eq_false_iff_ne]; omega
        cases hbg : begB (r : Int) with
        | true =>
          go_wp2_with fail
          refine (letter_any (r : Int) _ (by omega) (by omega)).mono ?_; rintro e w1 ⟨rfl, rfl⟩
          go_wp2_with fail
          go_round
          case rel =>
            refine ⟨k + n, by omega, by go_num, ?_⟩
            rw [← HJ.out, HST.out, hbg, decide_eq_false hn0, decide_eq_false (show ¬ k + n = 0 by omega)]
            simp
          case measure => simp [intOf]; omega
        | false =>
          by_cases hk0 : k = 0
          · have dk : ((k : Int) == 0) = true := by simp; omega
            have HK0 := Lib.hid hk0
            clear hk0
            go_wp2_with fail
            refine (letter_any (r : Int) _ (by omega) (by omega)).mono ?_; rintro e w1 ⟨rfl, rfl⟩
            go_wp2_with fail
            go_ret
            refine ⟨ret_bool ?_, rfl⟩
            rw [HV.out, ← HJ.out, HST.out, hbg, decide_eq_true HK0.out]
            simp
          · have dk : ((k : Int) == 0) = false := by rw [beq_eq_false_iff_ne]; omega
            cases hdg : digB (r : Int) with
            | true =>
              go_wp2_with fail
              refine (letter_any (r : Int) _ (by omega) (by omega)).mono ?_; rintro e w1 ⟨rfl, rfl⟩
              go_wp2_with fail
              refine (digit_any (r : Int) _ (by omega) (by omega)).mono ?_
              rintro e w2 ⟨rfl, rfl⟩
              go_wp2_with fail
              go_round
              case rel =>
                refine ⟨k + n, by omega, by go_num, ?_⟩
                rw [← HJ.out, HST.out, hbg, hdg, decide_eq_false hn0, decide_eq_false hk0, decide_eq_false (show ¬ k + n = 0 by omega)]
                simp
              case measure => simp [intOf]; omega
            | false =>
              go_wp2_with fail
              refine (letter_any (r : Int) _ (by omega) (by omega)).mono ?_; rintro e w1 ⟨rfl, rfl⟩
              go_wp2_with fail
              refine (digit_any (r : Int) _ (by omega) (by omega)).mono ?_
              rintro e w2 ⟨rfl, rfl⟩
              go_wp2_with fail
              go_ret
              refine ⟨ret_bool ?_, rfl⟩
              rw [HV.out, ← HJ.out, HST.out, hbg, hdg]
              simp
    · go_wp2_with fail
      go_ret
      refine ⟨ret_bool ?_, rfl⟩
      rw [HV.out, ← HJ.out, List.drop_eq_nil_of_le (by omega), J_nil]
end Go.Proofs.YtbhjimlikffalaaDoor
/- The reference of chapter 7: Ops, Level. -/
namespace Go.Proofs.YtbhjimlikffalaaDoor
open Go.RowKit
set_option linter.unusedVariables false

/-- The operations, and their levels. -/
def opsR : List Nm := [[124, 124], [38, 38], [61, 61], [33, 61], [60], [60, 61], [62], [62, 61], [43], [45], [42], [47], [37]]
def levR : List Int := [1, 2, 3, 3, 4, 4, 4, 4, 5, 5, 6, 6, 6]
theorem rops_any (w : World) : Calls Tryd.prog 36 #[] w fun e w' => ∃ A, e = .returned (.slice A 13 13) ∧ Strs w' A 13 opsR ∧ Below w.heap.size w w' := by
  go_enter Tryd.func36, Tryd.ntmps36
  go_wp2
  go_ret
  exact ⟨_, rfl, strs_new w opsR 9 (by decide), (Below.refl _ _).alloc (Nat.le_refl _) _⟩
theorem levR_at : ∀ j, j < 13 → ∃ o l, opsR[j]? = some o ∧ levR[j]? = some l ∧ levB o = l := by
  intro j hj
  match j, hj with
  | 0, _ => exact ⟨_, _, rfl, rfl, by decide⟩
  | 1, _ => exact ⟨_, _, rfl, rfl, by decide⟩
  | 2, _ => exact ⟨_, _, rfl, rfl, by decide⟩
  | 3, _ => exact ⟨_, _, rfl, rfl, by decide⟩
  | 4, _ => exact ⟨_, _, rfl, rfl, by decide⟩
  | 5, _ => exact ⟨_, _, rfl, rfl, by decide⟩
  | 6, _ => exact ⟨_, _, rfl, rfl, by decide⟩
  | 7, _ => exact ⟨_, _, rfl, rfl, by decide⟩
  | 8, _ => exact ⟨_, _, rfl, rfl, by decide⟩
  | 9, _ => exact ⟨_, _, rfl, rfl, by decide⟩
  | 10, _ => exact ⟨_, _, rfl, rfl, by decide⟩
  | 11, _ => exact ⟨_, _, rfl, rfl, by decide⟩
  | 12, _ => exact ⟨_, _, rfl, rfl, by decide⟩
theorem levB_none {op : Nm} (h : ∀ j (hj : j < opsR.length), (opsR[j] == op) = false) : levB op = 0 := by
  have h' : op ∉ opsR := by
    intro hm
    obtain ⟨j, hj, e⟩ := List.getElem_of_mem hm
    have := h j hj
    rw [e] at this
    simp at this
  simp only [opsR, List.mem_cons, not_or] at h'
  unfold levB
  simp [h']
set_option maxHeartbeats 2000000 in
theorem rlevel_any (op : Nm) (w : World) : Calls Tryd.prog 103 #[.string (str op)] w fun e w' => e = .returned (.int .i64 (levB op)) ∧ Below w.heap.size w w' := by
  obtain ⟨lv, hlv⟩ : ∃ x, levB op = x := ⟨_, rfl⟩
  rw [hlv]
  have HV := Lib.hid hlv
  clear hlv
  have hs := str_toList op
  go_enter Tryd.func103, Tryd.ntmps103
  go_wp2_with fail
  refine (rops_any w).mono ?_
  rintro e w1 ⟨A, rfl, hS, b1⟩
  obtain ⟨W, hW⟩ : ∃ W, w1.alloc (.cells ((levR.map (Value.int .i64)).toArray) 3) = W := ⟨_, rfl⟩
  have s1 : Below w1.heap.size w1 W := by rw [← hW]; exact step1 _ _
  have hN : Nums W (some ⟨w1.heap.size, 0, none⟩) levR.length levR := by rw [← hW]; exact nums_new w1 levR 3 (by decide)
  have HS := Lib.hid (hS.below s1)
  have HN := Lib.hid hN
  have HB := Lib.hid (b1.trans (s1.mono b1.size))
  have hW2 : w1.alloc (.cells #[.int .i64 1, .int .i64 2, .int .i64 3, .int .i64 3, .int .i64 4, .int .i64 4, .int .i64 4, .int .i64 4, .int .i64 5, .int .i64 5, .int .i64 6, .int .i64 6, .int .i64 6] 3) = W := hW
  clear hS s1 hN b1 hW
  go_wp2_with fail
  go_loop [5] (fun i => ∃ k : Nat, k ≤ 13 ∧ i = .int .i64 k ∧ ∀ j (h : j < opsR.length), j < k → (opsR[j] == op) = false) (fun i => 13 - (intOf i).toNat)
  case atStart => exact ⟨0, Nat.zero_le _, rfl, fun j h hk => by omega⟩
  case round =>
    obtain ⟨k, hk, rfl, hno⟩ := hrel
    have HNO := Lib.hid hno
    clear hno
    by_cases hlt : k < 13
    · obtain ⟨o, l, ho, hl, hol⟩ := levR_at k hlt
      obtain ⟨b, off, hA, hc⟩ := HS.out.shape (by decide)
      subst hA
      have hk2 : k < opsR.length := hlt
      have c1 := hc k hk2
      have e1 : opsR[k] = o := Option.some.inj ((List.getElem?_eq_getElem hk2).symm.trans ho)
      rw [e1] at c1
      have hk3 : k < levR.length := hlt
      obtain ⟨b2, off2, hA2, c2⟩ := HN.out.at_ hk3
      cases hA2
      have e2 : levR[k] = l := Option.some.inj ((List.getElem?_eq_getElem hk3).symm.trans hl)
      rw [e2, Nat.zero_add] at c2
      have HE := Lib.hid e1
      have HOL := Lib.hid hol
      have so := str_toList o
      have hkI : (k : Int) < 13 := by omega
      clear hc e1 e2 ho hl hol
      cases hoo : (o == op) with
      | true =>
        go_wp2_with fail
        go_ret
        refine ⟨ret_int ?_, HB.out⟩
        rw [← HV.out, ← HOL.out]
        exact congrArg levB (eq_of_beq hoo)
      | false =>
        go_wp2_with fail
        go_round
        case rel => exact ⟨k + 1, by omega, by go_num, fun j hj hjk => by
          by_cases e : j = k
          · subst e; rw [HE.out]; exact hoo
          · exact HNO.out j hj (by omega)⟩
        case measure => simp [intOf]; omega
    · have hkI : ¬ (k : Int) < 13 := by omega
      go_wp2_with fail
      go_ret
      refine ⟨ret_int ?_, HB.out⟩
      rw [← HV.out]
      exact (levB_none fun j hj => HNO.out j hj (by have : opsR.length = 13 := rfl; omega)).symm
end Go.Proofs.YtbhjimlikffalaaDoor
/- The reference of chapter 7: Right. -/
namespace Go.Proofs.YtbhjimlikffalaaDoor
open Go.RowKit
set_option linter.unusedVariables false

theorem right_split (k : Int) (op : Nm) (n : Int) (v f : Nm) (A : Option Addr) (c : Nat) (ks : List ET) (h : ∀ t ∈ ks, rightT t = true) : rightT (.mk k op n v f A c ks) = oneB k op n v f ks.length := by
  cases ho : oneB k op n v f ks.length with
  | true => exact right_of ho h
  | false =>
    cases hr : rightT (.mk k op n v f A c ks) with
    | false => rfl
    | true => rw [right_one hr] at ho; cases ho
theorem right_kid_no {k : Int} {op : Nm} {n : Int} {v f : Nm} {A : Option Addr} {c : Nat} {ks : List ET} {t : ET} (ht : t ∈ ks) (h : rightT t = false) : rightT (.mk k op n v f A c ks) = false := by
  cases hr : rightT (.mk k op n v f A c ks) with
  | false => rfl
  | true => rw [right_kids hr t ht] at h; cases h
theorem oneB_b (k : Int) (op : Nm) (n : Int) (v f : Nm) (m : Nat) : oneB k op n v f m = (if k = 0 then (op == []) && (v == []) && (f == []) && (m == 0) && decide (0 ≤ n) else if k = 1 then (op == []) && (n == 0) && (m == 0) && nameB v && nameB f
    else if k = 2 then (n == 0) && (v == []) && (f == []) && ((op == [45]) || (op == [33])) && (m == 1) else if k = 3 then (n == 0) && (v == []) && (f == []) && decide (0 < levB op) && (m == 2) else false) := by
  have hl := (lev_le op).1
  unfold oneB bareB
  rw [Bool.eq_iff_iff]
  by_cases h0 : k = 0
  · simp [h0, and_assoc]
  by_cases h1 : k = 1
  · simp [h1, and_assoc]
  by_cases h2 : k = 2
  · simp [h2, and_assoc]
  by_cases h3 : k = 3
  · have : (levB op = 0) = ¬ (0 < levB op) := by apply propext; omega
    simp [h3, and_assoc, this]
  · simp [h0, h1, h2, h3]
theorem isE (v : Nm) : v.isEmpty = (v == []) := by cases v <;> rfl
theorem isE2 (v : Nm) : (v = []) = ((v == []) = true) := by simp
set_option maxRecDepth 100000 in
set_option maxHeartbeats 16000000 in
theorem rright_any : ∀ (t : ET) (w : World), t.In w → Calls Tryd.prog 80 #[t.val] w fun e w' => e = .returned (.bool (rightT t)) ∧ Below w.heap.size w w' := by
  refine ET.ind fun k op n v f A c ks ih w hin => ?_
  have hok := hin.ok
  have hcap : ks.length ≤ 9223372036854775807 := by have := hok.2.2.2.2.2.2; unfold maxLen at this; omega
  have hvl : v.length ≤ 9223372036854775807 := by have := hok.2.2.2.1; omega
  have hfl : f.length ≤ 9223372036854775807 := by have := hok.2.2.2.2.1; omega
  obtain ⟨R, hR⟩ : ∃ R, rightT (.mk k op n v f A c ks) = R := ⟨_, rfl⟩
  rw [hR]
  obtain ⟨W, hW⟩ : ∃ W, W = w.alloc (.cells #[.int .i64 k, .string (str op), .int .i64 n, .string (str v), .string (str f), .slice A ks.length c] 55) := ⟨_, rfl⟩
  have hx : Has W w.heap.size 55 #[.int .i64 k, .string (str op), .int .i64 n, .string (str v), .string (str f), .slice A ks.length c] := by rw [hW]; exact heap_alloc_new w _
  have bl : Below w.heap.size w W := by rw [hW]; exact (Below.refl _ _).alloc (Nat.le_refl _) _
  have HB := Lib.hid bl
  have HR := Lib.hid hR
  have HX := Lib.hid hx
  have HI := Lib.hid ih
  have HK := Lib.hid (hin.below bl)
  have hW' := hW.symm
  clear bl hR hx ih hin hW hok
  show Calls _ _ #[ex k op n v f A ks.length c] _ _
  unfold ex
  go_enter Tryd.func80, Tryd.ntmps80
  go_wp2_with fail
  clear hW'
  go_loopw [3] (fun i wr => ∃ j : Nat, j ≤ ks.length ∧ i = .int .i64 j ∧ (∀ q (h : q < ks.length), q < j → rightT ks[q] = true) ∧ Below W.heap.size W wr) (fun i _ => ks.length - (intOf i).toNat)
  case atStart => exact ⟨0, Nat.zero_le _, rfl, fun q h hq => by omega, Below.refl _ _⟩
  case round =>
    obtain ⟨j, hj, rfl, hall, hb⟩ := hrel
    have HA := Lib.hid hall
    have HBB := Lib.hid hb
    have HXr := Lib.hid (HX.out.below hb HX.out.lt)
    clear hall hb
    have c5 : wr.cell? ⟨w.heap.size, 5, none⟩ = some (.slice A ks.length c) := HXr.out.cell 5
    by_cases hlt : j < ks.length
    · obtain ⟨⟨b', off, rfl, g0, g1, g2, g3, g4, g5⟩, hkin⟩ := (HK.out.kids j hlt).imp (fun h => h.below HBB.out) (fun h => h.below HBB.out)
      obtain ⟨x, hx⟩ : ∃ x, ks[j] = x := ⟨_, rfl⟩
      have hmem : x ∈ ks := by rw [← hx]; exact List.getElem_mem _
      rw [hx] at g0 g1 g2 g3 g4 g5 hkin
      have hcl := HI.out x hmem wr hkin
      rw [show x.val = Value.agg #[.int .i64 x.k, .string (str x.op), .int .i64 x.n, .string (str x.v), .string (str x.f), .slice x.A x.ks.length x.c] from rfl] at hcl
      obtain ⟨y, hy⟩ : ∃ y, rightT x = y := ⟨_, rfl⟩
      rw [hy] at hcl
      have HC := Lib.hid hcl
      have HXX := Lib.hid hx
      have HY := Lib.hid hy
      have HM := Lib.hid hmem
      clear hcl hkin hx hmem hy
      cases y with
      | true =>
        go_wp2_with (go_at_call 80; refine HC.out.mono ?_; rintro e w' ⟨rfl, hb2⟩)
        go_roundw
        case rel => exact ⟨j + 1, by omega, by go_num, (fun q hq hqj => by
          by_cases e : q = j
          · subst e; rw [HXX.out]; exact HY.out
          · exact HA.out q hq (by omega)), HBB.out.trans (hb2.mono HBB.out.size)⟩
        case measure => simp [intOf]; omega
      | false =>
        have HE : Hid (R = false) := Lib.hid (by rw [← HR.out]; exact right_kid_no HM.out HY.out)
        go_wp2_with (go_at_call 80; refine HC.out.mono ?_; rintro e w' ⟨rfl, hb2⟩)
        go_ret
        exact ⟨ret_bool HE.out.symm, HB.out.trans ((HBB.out.trans (hb2.mono HBB.out.size)).mono HB.out.size)⟩
    · have hall : ∀ t ∈ ks, rightT t = true := fun t ht => by
        obtain ⟨q, hq, rfl⟩ := List.getElem_of_mem ht
        exact HA.out q hq (by omega)
      have hRo : oneB k op n v f ks.length = R := by rw [← HR.out]; exact (right_split k op n v f A c ks hall).symm
      have HRO := Lib.hid hRo
      have hj2 : ¬ (j : Int) < ks.length := by omega
      have HEnd : Hid (∀ w', Below wr.heap.size wr w' → Below w.heap.size w w') := Lib.hid fun w' hb => HB.out.trans ((HBB.out.trans (hb.mono HBB.out.size)).mono HB.out.size)
      have hbf := Lib.hid (Below.refl wr.heap.size wr)
      obtain ⟨c0, c1, c2, c3, c4, -⟩ : six wr w.heap.size k op n v f A ks.length c := six_has HXr.out
      have tv := str_toList v
      have tf := str_toList f
      have top := str_toList op
      have e1 := isE v
      have e2 := isE f
      have e3 := isE op
      obtain ⟨m, hm⟩ : ∃ m, ks.length = m := ⟨_, rfl⟩
      rw [hm] at hcap c5 hj2 hj HRO
      have HN1 : Hid (Calls Tryd.prog 102 #[.string (str v)] wr fun e w' => e = .returned (.bool (nameB v)) ∧ wr = w') := Lib.hid (rname_any v wr hvl)
      have HN2 : Hid (Calls Tryd.prog 102 #[.string (str f)] wr fun e w' => e = .returned (.bool (nameB f)) ∧ wr = w') := Lib.hid (rname_any f wr hfl)
      have HLV : Hid (Calls Tryd.prog 103 #[.string (str op)] wr fun e w' => e = .returned (.int .i64 (levB op)) ∧ Below wr.heap.size wr w') := Lib.hid (rlevel_any op wr)
      have hxq := (fun (w' : World) (hb : Below wr.heap.size wr w') => six_has (HXr.out.below hb HXr.out.lt))
      rw [hm] at hxq
      have HXq := Lib.hid hxq
      have hlv := lev_le op
      have hlv0 : (levB op ≠ 0) = (0 < levB op) := by apply propext; omega
      obtain ⟨lv, hlvv⟩ : ∃ x, levB op = x := ⟨_, rfl⟩
      rw [hlvv] at HLV hlv hlv0
      obtain ⟨nv, hnv⟩ : ∃ x, nameB v = x := ⟨_, rfl⟩
      obtain ⟨nf, hnf⟩ : ∃ x, nameB f = x := ⟨_, rfl⟩
      rw [hnv] at HN1
      rw [hnf] at HN2
      clear hall hRo hm hxq HR HI HK HX HA HBB HB HXr hvl hfl hcap
      have hk : k = 0 ∨ k = 1 ∨ k = 2 ∨ k = 3 ∨ ((k == 0) = false ∧ (k == 1) = false ∧ (k == 2) = false ∧ (k == 3) = false) := by
        by_cases h0 : k = 0
        · exact .inl h0
        by_cases h1 : k = 1
        · exact .inr (.inl h1)
        by_cases h2 : k = 2
        · exact .inr (.inr (.inl h2))
        by_cases h3 : k = 3
        · exact .inr (.inr (.inr (.inl h3)))
        · exact .inr (.inr (.inr (.inr ⟨by simpa using h0, by simpa using h1, by simpa using h2, by simpa using h3⟩)))
      have hm0 : ((m : Int) == 0) = (m == 0) := by rw [Bool.eq_iff_iff]; simp
      have hm1 : ((m : Int) == 1) = (m == 1) := by rw [Bool.eq_iff_iff]; simp; omega
      have hm2 : ((m : Int) == 2) = (m == 2) := by rw [Bool.eq_iff_iff]; simp; omega
      obtain ⟨x0, hx0⟩ : ∃ b, (m == 0) = b := ⟨_, rfl⟩
      obtain ⟨x1, hx1⟩ : ∃ b, (m == 1) = b := ⟨_, rfl⟩
      obtain ⟨x2, hx2⟩ : ∃ b, (m == 2) = b := ⟨_, rfl⟩
      rw [hx0] at hm0
      rw [hx1] at hm1
      rw [hx2] at hm2
      obtain ⟨bo, hbo⟩ : ∃ b, (op == []) = b := ⟨_, rfl⟩
      obtain ⟨bv, hbv⟩ : ∃ b, (v == []) = b := ⟨_, rfl⟩
      obtain ⟨bf, hbf2⟩ : ∃ b, (f == []) = b := ⟨_, rfl⟩
      rw [hbv] at e1
      rw [hbf2] at e2
      rw [hbo] at e3
      obtain ⟨n0, hn0⟩ : ∃ b, (n == 0) = b := ⟨_, rfl⟩
      obtain ⟨ng, hng⟩ : ∃ b, decide (0 ≤ n) = b := ⟨_, rfl⟩
      have HF := Lib.hid (And.intro hx0 (And.intro hx1 (And.intro hx2 (And.intro hnv (And.intro hnf hlvv)))))
      clear hx0 hx1 hx2 hnv hnf hlvv hlv0
      rcases hk with rfl | rfl | rfl | rfl | ⟨k0, k1, k2, k3⟩
      all_goals
        go_wp2_with (first
          | (go_at_call 102; with_reducible refine HN1.out.mono ?_; rintro e w' ⟨rfl, rfl⟩)
          | (go_at_call 102; with_reducible refine HN2.out.mono ?_; rintro e w' ⟨rfl, rfl⟩)
          | (go_at_call 103; go_loud (with_reducible refine HLV.out.mono ?_; rintro e w2 h9; obtain ⟨h9a, b2⟩ := h9; subst h9a; have q9 := HXq.out w2 b2; unfold six at q9; obtain ⟨q0, q1, q2, q3, q4, q5⟩ := q9)))
        all_goals (first | go_ret | exact foo_here2)
        all_goals (first | refine ⟨ret_bool ?_, HEnd.out _ b2⟩ | refine ⟨ret_bool ?_, HEnd.out _ hbf.out⟩)
        all_goals (obtain ⟨hx0, hx1, hx2, hnv, hnf, hlvv⟩ := HF.out; rw [← HRO.out, oneB_b]; clear HRO HN1 HN2 HLV HXq HEnd hbf HF; simp only [hbo, hbv, hbf2, hn0, hng, hx0, hx1, hx2, hnv, hnf, hlvv]; clear hbo hbv hbf2 hx0 hx1 hx2 hnv hnf hlvv; first | (simp_all; done) | (have h00 : decide (0 < lv) = false := (decide_eq_false (by omega)); simp only [h00]; simp_all; done))
end Go.Proofs.YtbhjimlikffalaaDoor
/- The reference of chapter 7: types, Type. -/
namespace Go.Proofs.YtbhjimlikffalaaDoor
open Go.RowKit
set_option linter.unusedVariables false

theorem typ_1 (k : Int) (op : Nm) (n : Int) (v f : Nm) (A : Option Addr) (c : Nat) (x : ET) : typT (.mk k op n v f A c [x]) = if typT x = (opT op).1 then (opT op).2 else 0 := by
  rw [typT_eq, typL_cons, typL_nil]
  by_cases h : typT x = (opT op).1 <;> simp [h]
theorem typ_2 (k : Int) (op : Nm) (n : Int) (v f : Nm) (A : Option Addr) (c : Nat) (x y : ET) : typT (.mk k op n v f A c [x, y]) = if typT x = (opT op).1 ∧ typT y = (opT op).1 then (opT op).2 else 0 := by
  rw [typT_eq, typL_cons, typL_cons, typL_nil]
  by_cases h : typT x = (opT op).1 <;> by_cases h2 : typT y = (opT op).1 <;> simp [h, h2]
/-- What the reference tells of an operation of two, by what its Kids tell. -/
def ty2 (lv T : Int) : Int := if lv = 1 ∨ lv = 2 then (if T = 2 then 2 else 0) else if lv < 5 then (if T = 1 then 2 else 0) else (if T = 1 then 1 else 0)
theorem ty2_is {op : Nm} (h : levB op ≠ 0) (k : Int) (n : Int) (v f : Nm) (A : Option Addr) (c : Nat) (x y : ET) : typT (.mk k op n v f A c [x, y]) = ty2 (levB op) (if typT y = typT x then typT x else 0) := by
  rw [typ_2]
  have hl := lev_le op
  have h33 : op ≠ [33] := by rintro rfl; exact h (by kernel_rfl)
  generalize typT x = T
  generalize typT y = U
  have hc : (levB op = 1 ∨ levB op = 2) ∨ (¬ (levB op = 1 ∨ levB op = 2) ∧ (levB op = 3 ∨ levB op = 4) ∧ levB op < 5) ∨ (¬ (levB op = 1 ∨ levB op = 2) ∧ ¬ (levB op = 3 ∨ levB op = 4) ∧ ¬ levB op < 5) := by omega
  rcases hc with h1 | ⟨h1, h2, h3⟩ | ⟨h1, h2, h3⟩
  · have e : opT op = (2, 2) := by unfold opT; rw [if_pos h1]
    rw [e]
    unfold ty2
    rw [if_pos h1]
    by_cases hUT : U = T
    · rw [if_pos hUT]; repeat' split
      all_goals omega
    · rw [if_neg hUT]; repeat' split
      all_goals omega
  · have e : opT op = (1, 2) := by unfold opT; rw [if_neg h1, if_pos h2]
    rw [e]
    unfold ty2
    rw [if_neg h1, if_pos h3]
    by_cases hUT : U = T
    · rw [if_pos hUT]; repeat' split
      all_goals omega
    · rw [if_neg hUT]; repeat' split
      all_goals omega
  · have e : opT op = (1, 1) := by unfold opT; rw [if_neg h1, if_neg h2, if_neg h33]
    rw [e]
    unfold ty2
    rw [if_neg h1, if_neg h3]
    by_cases hUT : U = T
    · rw [if_pos hUT]; repeat' split
      all_goals omega
    · rw [if_neg hUT]; repeat' split
      all_goals omega
set_option maxRecDepth 100000 in
set_option maxHeartbeats 16000000 in
theorem rtypes_any : ∀ (t : ET) (w : World), t.In w → rightT t = true → Calls Tryd.prog 81 #[t.val] w fun e w' => e = .returned (.int .i64 (typT t)) ∧ Below w.heap.size w w' := by
  refine ET.ind fun k op n v f A c ks ih w hin hr => ?_
  have hok := hin.ok
  obtain ⟨R, hR⟩ : ∃ R, typT (.mk k op n v f A c ks) = R := ⟨_, rfl⟩
  rw [hR]
  have h1 := one_kinds (right_one hr)
  have hkr := right_kids hr
  obtain ⟨W, hW⟩ : ∃ W, W = w.alloc (.cells #[.int .i64 k, .string (str op), .int .i64 n, .string (str v), .string (str f), .slice A ks.length c] 55) := ⟨_, rfl⟩
  have hx : Has W w.heap.size 55 #[.int .i64 k, .string (str op), .int .i64 n, .string (str v), .string (str f), .slice A ks.length c] := by rw [hW]; exact heap_alloc_new w _
  have bl : Below w.heap.size w W := by rw [hW]; exact (Below.refl _ _).alloc (Nat.le_refl _) _
  have HB := Lib.hid bl
  have HX := Lib.hid hx
  have HK := Lib.hid (hin.below bl)
  have hW' := hW.symm
  have top := str_toList op
  obtain ⟨c0, c1, c2, c3, c4, c5⟩ : six W w.heap.size k op n v f A ks.length c := six_has hx
  have HL := Lib.hid (rlevel_any op)
  have HXq := Lib.hid (fun (w' : World) (hb : Below W.heap.size W w') => six_has (hx.below hb hx.lt))
  clear bl hx hin hW hok hr
  show Calls _ _ #[ex k op n v f A ks.length c] _ _
  unfold ex
  rcases h1 with ⟨rfl, hm, hn, rfl, rfl, rfl⟩ | ⟨rfl, hm, hv, hf, rfl, rfl⟩ | ⟨rfl, hm, ho, rfl, rfl, rfl⟩ | ⟨rfl, hm, hl, rfl, rfl, rfl⟩
  · obtain rfl := List.eq_nil_of_length_eq_zero hm
    rw [typ_nil] at hR
    have HR := Lib.hid hR
    simp only [List.length_nil] at *
    clear hR
    go_enter Tryd.func81, Tryd.ntmps81
    go_wp2_with fail
    go_ret
    exact ⟨ret_int HR.out, HB.out⟩
  · obtain rfl := List.eq_nil_of_length_eq_zero hm
    rw [typ_nil] at hR
    have HR := Lib.hid hR
    simp only [List.length_nil] at *
    clear hR
    go_enter Tryd.func81, Tryd.ntmps81
    go_wp2_with fail
    go_ret
    exact ⟨ret_int HR.out, HB.out⟩
  · obtain ⟨x, rfl⟩ := List.length_eq_one_iff.1 hm
    simp only [List.length_cons, List.length_nil, Nat.zero_add] at hW' c5 HXq HX
    obtain ⟨⟨b', off, rfl, g0, g1, g2, g3, g4, g5⟩, hkin⟩ := HK.out.kids 0 (by simp)
    simp only [List.getElem_cons_zero, Nat.zero_mul, Nat.add_zero] at g0 g1 g2 g3 g4 g5 hkin
    have hcl := ih x (by simp) W hkin (hkr x (by simp))
    rw [show x.val = Value.agg #[.int .i64 x.k, .string (str x.op), .int .i64 x.n, .string (str x.v), .string (str x.f), .slice x.A x.ks.length x.c] from rfl] at hcl
    rw [typ_1] at hR
    obtain ⟨T, hT⟩ : ∃ T, typT x = T := ⟨_, rfl⟩
    rw [hT] at hR hcl
    have HC := Lib.hid hcl
    have hlv : levB op = 5 ∧ op = [45] ∧ (if T = 1 then 1 else 0) = R ∨ levB op = 0 ∧ op = [33] ∧ (if T = 2 then 2 else 0) = R := by
      rcases ho with rfl | rfl
      · exact .inl ⟨by kernel_rfl, rfl, by rw [← hR]; rfl⟩
      · exact .inr ⟨by kernel_rfl, rfl, by rw [← hR]; rfl⟩
    clear ih hcl hkin hR ho
    go_enter Tryd.func81, Tryd.ntmps81
    go_wp2_with (go_at_call 81; refine HC.out.mono ?_; rintro e w1 ⟨rfl, b1⟩)
    obtain ⟨d0, d1, d2, d3, d4, d5⟩ := HXq.out w1 b1
    have HB1 := Lib.hid (b1)
    clear hW' c0 c1 c2 c3 c4 c5 b1 g0 g1 g2 g3 g4 g5
    go_loopw [3, 4] (fun K i wr => K = .int .i64 T ∧ i = .int .i64 1 ∧ w1 = wr) (fun _ _ _ => 0)
    case atStart => exact ⟨rfl, rfl, rfl⟩
    case round =>
      obtain ⟨rfl, rfl, rfl⟩ := hrel
      obtain ⟨lv, hlvv⟩ : ∃ l, levB op = l := ⟨_, rfl⟩
      have HLL := HL.out w1
      rw [hlvv] at HLL hlv
      have HLH := Lib.hid HLL
      clear HLL hlvv HL
      rcases hlv with ⟨rfl, rfl, hR⟩ | ⟨rfl, rfl, hR⟩
      all_goals
        go_wp2_with (go_at_call 103; refine HLH.out.mono ?_; rintro e w2 ⟨rfl, b2⟩; obtain ⟨q0, q1, q2, q3, q4, q5⟩ := HXq.out w2 (HB1.out.trans (b2.mono HB1.out.size)))
        all_goals go_ret
        all_goals (refine ⟨ret_int ?_, HB.out.trans ((HB1.out.trans (b2.mono HB1.out.size)).mono HB.out.size)⟩; rw [← hR]; simp_all)
  · obtain ⟨x, y, rfl⟩ := len_two hm
    simp only [List.length_cons, List.length_nil, Nat.zero_add, Nat.reduceAdd] at hW' c5 HXq HX
    obtain ⟨⟨b', off, rfl, g0, g1, g2, g3, g4, g5⟩, hkin⟩ := HK.out.kids 0 (by simp)
    obtain ⟨⟨b'', off', he, y0, y1, y2, y3, y4, y5⟩, hkin2⟩ := HK.out.kids 1 (by simp)
    cases he
    simp only [List.getElem_cons_zero, List.getElem_cons_succ, Nat.zero_mul, Nat.add_zero] at g0 g1 g2 g3 g4 g5 hkin y0 y1 y2 y3 y4 y5 hkin2
    have hcl := ih x (by simp) W hkin (hkr x (by simp))
    rw [show x.val = Value.agg #[.int .i64 x.k, .string (str x.op), .int .i64 x.n, .string (str x.v), .string (str x.f), .slice x.A x.ks.length x.c] from rfl] at hcl
    have hcl2 := fun (w' : World) (hb : Below W.heap.size W w') => ih y (by simp) w' (hkin2.below hb) (hkr y (by simp))
    rw [ty2_is hl] at hR
    obtain ⟨T, hT⟩ : ∃ T, typT x = T := ⟨_, rfl⟩
    obtain ⟨U, hU⟩ : ∃ T, typT y = T := ⟨_, rfl⟩
    rw [hT, hU] at hR
    rw [hT] at hcl
    rw [hU] at hcl2
    have HC := Lib.hid hcl
    have HC2 : Hid (∀ (w' : World), Below W.heap.size W w' → Calls Tryd.prog 81 #[.agg #[.int .i64 y.k, .string (str y.op), .int .i64 y.n, .string (str y.v), .string (str y.f), .slice y.A y.ks.length y.c]] w' fun e w2 => e = .returned (.int .i64 U) ∧ Below w'.heap.size w' w2) := Lib.hid hcl2
    have hlv := lev_le op
    have HY : Hid (∀ w', Below W.heap.size W w' → CellsAt w' (some ⟨b', off, none⟩) 1 y) := Lib.hid fun w' hb => CellsAt.below ⟨b', off, rfl, y0, y1, y2, y3, y4, y5⟩ hb
    have HR := Lib.hid hR
    clear ih hcl hcl2 hkin hkin2 hR
    go_enter Tryd.func81, Tryd.ntmps81
    go_wp2_with (go_at_call 81; refine HC.out.mono ?_; rintro e w1 ⟨rfl, b1⟩)
    have HB1 := Lib.hid (b1)
    clear hW' c0 c1 c2 c3 c4 c5 b1 g0 g1 g2 g3 g4 g5 y0 y1 y2 y3 y4 y5
    go_loopw [3, 4] (fun K i wr => ((i = .int .i64 1 ∧ K = .int .i64 T) ∨ (i = .int .i64 2 ∧ K = .int .i64 (if U = T then T else 0))) ∧ Below W.heap.size W wr) (fun _ i _ => 2 - (intOf i).toNat)
    case atStart => exact ⟨.inl ⟨rfl, rfl⟩, HB1.out⟩
    case round =>
      obtain ⟨hrel, hb⟩ := hrel
      have HBr := Lib.hid hb
      obtain ⟨d0, d1, d2, d3, d4, d5⟩ := HXq.out wr hb
      rcases hrel with ⟨rfl, rfl⟩ | ⟨rfl, rfl⟩
      · obtain ⟨b2, o2, he, y0, y1, y2, y3, y4, y5⟩ := HY.out wr hb
        cases he
        simp only [Nat.one_mul] at y0 y1 y2 y3 y4 y5
        have HCC := Lib.hid (HC2.out wr hb)
        clear hb
        by_cases hUT : U = T
        · subst hUT
          have dd : (U != U) = false := by simp
          go_wp2_with (go_at_call 81; refine HCC.out.mono ?_; rintro e w2 ⟨rfl, b2⟩)
          go_roundw
          case rel => exact ⟨.inr ⟨rfl, by simp⟩, HBr.out.trans (b2.mono HBr.out.size)⟩
          case measure => simp [intOf]
        · have dd : (U != T) = true := by simpa using hUT
          go_wp2_with (go_at_call 81; refine HCC.out.mono ?_; rintro e w2 ⟨rfl, b2⟩)
          go_roundw
          case rel => exact ⟨.inr ⟨rfl, by simp [hUT]⟩, HBr.out.trans (b2.mono HBr.out.size)⟩
          case measure => simp [intOf]
      · obtain ⟨K, hK⟩ : ∃ K, (if U = T then T else 0) = K := ⟨_, rfl⟩
        have hR := HR.out
        rw [hK] at hR
        rw [hK]
        have hq := HL.out wr
        obtain ⟨lv, hlvv⟩ : ∃ l, levB op = l := ⟨_, rfl⟩
        rw [hlvv] at hq hR hlv hl
        have HLH := Lib.hid hq
        have HR2 := Lib.hid hR
        clear hb hK hq hR HR hlvv HL
        go_wp2_with (go_at_call 103; refine HLH.out.mono ?_; rintro e w2 ⟨rfl, b2⟩; obtain ⟨q0, q1, q2, q3, q4, q5⟩ := HXq.out w2 (HBr.out.trans (b2.mono HBr.out.size)))
        all_goals go_ret
        all_goals (refine ⟨ret_int ?_, HB.out.trans ((HBr.out.trans (b2.mono HBr.out.size)).mono HB.out.size)⟩; rw [← HR2.out, ty2]; clear HB HX HK HXq HC HC2 HY HR2 HB1 HBr HLH; simp_all)
set_option maxHeartbeats 4000000 in
theorem rtype_any (t : ET) (w : World) (hin : t.In w) :
    Calls Tryd.prog 60 #[t.val] w fun e w' => e = .returned (.int .i64 (typeT t)) ∧ Below w.heap.size w w' := by
  obtain ⟨u, hu⟩ : ∃ u, u = t.val := ⟨_, rfl⟩
  have hv : u = .agg #[.int .i64 t.k, .string (str t.op), .int .i64 t.n, .string (str t.v), .string (str t.f), .slice t.A t.ks.length t.c] := hu
  obtain ⟨W, hW⟩ : ∃ W, W = w.alloc (.cells #[.int .i64 t.k, .string (str t.op), .int .i64 t.n, .string (str t.v), .string (str t.f), .slice t.A t.ks.length t.c] 55) := ⟨_, rfl⟩
  have hx : Has W w.heap.size 55 #[.int .i64 t.k, .string (str t.op), .int .i64 t.n, .string (str t.v), .string (str t.f), .slice t.A t.ks.length t.c] := by rw [hW]; exact heap_alloc_new w _
  have bl : Below w.heap.size w W := by rw [hW]; exact (Below.refl _ _).alloc (Nat.le_refl _) _
  have h1 := rright_any t W (hin.below bl)
  have h2 := fun (w' : World) (hb : Below W.heap.size W w') (hr : rightT t = true) => rtypes_any t w' ((hin.below bl).below hb) hr
  have htd : typeT t = if rightT t = true then typT t else 0 := rfl
  obtain ⟨R, hR⟩ : ∃ R, rightT t = R := ⟨_, rfl⟩
  rw [hR] at h1 h2 htd
  rw [← hu] at h1 h2 ⊢
  rw [hv] at h1 h2 ⊢
  have H1 := Lib.hid h1
  have H2 := Lib.hid h2
  have HX := Lib.hid hx
  have HB := Lib.hid bl
  have hW' := hW.symm
  obtain ⟨c0, c1, c2, c3, c4, c5⟩ := six_has hx
  rw [htd]
  clear h1 h2 hx bl hW hin hR hu hv htd
  cases R with
  | false =>
    rw [if_neg (by decide)]
    go_enter Tryd.func60, Tryd.ntmps60
    go_wp2_with (go_at_call 80; refine H1.out.mono ?_; rintro e w1 ⟨rfl, b1⟩)
    go_ret
    exact ⟨rfl, HB.out.trans (b1.mono HB.out.size)⟩
  | true =>
    rw [if_pos rfl]
    go_enter Tryd.func60, Tryd.ntmps60
    go_wp2_with (first | (go_at_call 80; refine H1.out.mono ?_; rintro e w1 ⟨rfl, b1⟩; obtain ⟨d0, d1, d2, d3, d4, d5⟩ := six_has (HX.out.below b1 HX.out.lt)) | (go_at_call 81; (refine (H2.out w1 b1 (by trivial)).mono ?_; rintro e w2 ⟨rfl, b2⟩)))
    go_ret
    exact ⟨rfl, HB.out.trans ((b1.trans (b2.mono b1.size)).mono HB.out.size)⟩
end Go.Proofs.YtbhjimlikffalaaDoor
/- The reference of chapter 8: Add, Sub, Mul, Div, Rem, bit, binary. -/
namespace Go.Proofs.YtbhjimlikffalaaDoor
open Go.RowKit
set_option linter.unusedVariables false

set_option maxHeartbeats 1000000 in
theorem radd_any (a b : Int) (ha : in64 a) (hb : in64 b) (w : World) :
    Calls Tryd.prog 20 #[.int .i64 a, .int .i64 b] w fun e w' => e = .returned (two (addV a b)) ∧ w = w' := by
  obtain ⟨p, hp⟩ : ∃ p, addV a b = p := ⟨_, rfl⟩
  rw [hp]
  by_cases h : in64 (a + b)
  · have HP : Hid ((a + b, true) = p) := Lib.hid (by rw [← hp, addV, ck_yes h])
    have h1 : -9223372036854775808 ≤ a + b ∧ a + b ≤ 9223372036854775807 := h
    have h2 : decide (a + b < a) = decide (b < 0) := by by_cases hb0 : b < 0 <;> simp [hb0] <;> omega
    clear hp h
    go_enter Tryd.func20, Tryd.ntmps20
    go_wp2
    all_goals go_ret2
    all_goals first | exact ⟨ret_tw HP.out, rfl⟩ | (exfalso; simp_all; done) | (exfalso; omega)
  · have HP : Hid ((0, false) = p) := Lib.hid (by rw [← hp, addV, ck_no h])
    obtain ⟨s, hs⟩ : ∃ s, s = IntKind.i64.wrap (a + b) := ⟨_, rfl⟩
    have h2 := add_no ha hb h hs
    have h3 := hs.symm
    clear hp h hs
    go_enter Tryd.func20, Tryd.ntmps20
    go_wp2
    all_goals go_ret2
    all_goals first | exact ⟨ret_tw HP.out, rfl⟩ | (exfalso; simp_all; done) | (exfalso; omega)
set_option maxHeartbeats 1000000 in
theorem rsub_any (a b : Int) (ha : in64 a) (hb : in64 b) (w : World) :
    Calls Tryd.prog 22 #[.int .i64 a, .int .i64 b] w fun e w' => e = .returned (two (subV a b)) ∧ w = w' := by
  obtain ⟨p, hp⟩ : ∃ p, subV a b = p := ⟨_, rfl⟩
  rw [hp]
  by_cases h : in64 (a - b)
  · have HP : Hid ((a - b, true) = p) := Lib.hid (by rw [← hp, subV, ck_yes h])
    have h1 : -9223372036854775808 ≤ a - b ∧ a - b ≤ 9223372036854775807 := h
    have h2 : decide (a < a - b) = decide (b < 0) := by by_cases hb0 : b < 0 <;> simp [hb0] <;> omega
    clear hp h
    go_enter Tryd.func22, Tryd.ntmps22
    go_wp2
    all_goals go_ret2
    all_goals first | exact ⟨ret_tw HP.out, rfl⟩ | (exfalso; simp_all; done) | (exfalso; omega)
  · have HP : Hid ((0, false) = p) := Lib.hid (by rw [← hp, subV, ck_no h])
    obtain ⟨s, hs⟩ : ∃ s, s = IntKind.i64.wrap (a - b) := ⟨_, rfl⟩
    have h2 := sub_no ha hb h hs
    have h3 := hs.symm
    clear hp h hs
    go_enter Tryd.func22, Tryd.ntmps22
    go_wp2
    all_goals go_ret2
    all_goals first | exact ⟨ret_tw HP.out, rfl⟩ | (exfalso; simp_all; done) | (exfalso; omega)
set_option maxHeartbeats 1000000 in
theorem rdiv_any (a b : Int) (ha : in64 a) (hb : in64 b) (w : World) :
    Calls Tryd.prog 26 #[.int .i64 a, .int .i64 b] w fun e w' => e = .returned (two (divV a b)) ∧ w = w' := by
  obtain ⟨p, hp⟩ : ∃ p, divV a b = p := ⟨_, rfl⟩
  rw [hp]
  by_cases h : divOk a b
  · have HP : Hid ((a.tdiv b, true) = p) := Lib.hid (by rw [← hp, divV, if_pos h])
    have h1 : -9223372036854775808 ≤ a.tdiv b ∧ a.tdiv b ≤ 9223372036854775807 := tdiv_in ha h
    have h3 : b ≠ 0 := h.1
    have h4 : (b == 0) = false := by simpa using h.1
    obtain ⟨x, hx⟩ : ∃ x, (a == -9223372036854775808) = x := ⟨_, rfl⟩
    obtain ⟨y, hy⟩ : ∃ y, (b == -1) = y := ⟨_, rfl⟩
    have hxy : x = false ∨ x = true ∧ y = false := by
      rcases h.2 with h | h
      · left; rw [← hx]; simpa using h
      · cases x
        · exact .inl rfl
        · right; exact ⟨rfl, by rw [← hy]; simpa using h⟩
    clear hp h
    rcases hxy with rfl | ⟨rfl, rfl⟩
    all_goals
      go_enter Tryd.func26, Tryd.ntmps26
      go_wp2
      go_ret2
      exact ⟨ret_tw HP.out, rfl⟩
  · have HP : Hid ((0, false) = p) := Lib.hid (by rw [← hp, divV, if_neg h])
    have hc : (b == 0) = true ∨ (b == 0) = false ∧ (a == -9223372036854775808) = true ∧ (b == -1) = true := by
      by_cases h0 : b = 0
      · exact .inl (by simpa using h0)
      · refine .inr ⟨by simpa using h0, ?_⟩
        by_cases ha0 : a = -9223372036854775808
        · by_cases hb0 : b = -1
          · exact ⟨by simpa using ha0, by simpa using hb0⟩
          · exact absurd ⟨h0, .inr hb0⟩ h
        · exact absurd ⟨h0, .inl ha0⟩ h
    clear hp h
    rcases hc with h0 | ⟨h0, h1, h2⟩
    all_goals
      go_enter Tryd.func26, Tryd.ntmps26
      go_wp2
      go_ret2
      exact ⟨ret_tw HP.out, rfl⟩
set_option maxHeartbeats 1000000 in
theorem rrem_any (a b : Int) (ha : in64 a) (hb : in64 b) (w : World) :
    Calls Tryd.prog 28 #[.int .i64 a, .int .i64 b] w fun e w' => e = .returned (two (remV a b)) ∧ w = w' := by
  obtain ⟨p, hp⟩ : ∃ p, remV a b = p := ⟨_, rfl⟩
  rw [hp]
  by_cases h : divOk a b
  · have HP : Hid ((a.tmod b, true) = p) := Lib.hid (by rw [← hp, remV, if_pos h])
    have h1 : -9223372036854775808 ≤ a.tmod b ∧ a.tmod b ≤ 9223372036854775807 := tmod_in ha hb h
    have h3 : b ≠ 0 := h.1
    have h4 : (b == 0) = false := by simpa using h.1
    obtain ⟨x, hx⟩ : ∃ x, (a == -9223372036854775808) = x := ⟨_, rfl⟩
    obtain ⟨y, hy⟩ : ∃ y, (b == -1) = y := ⟨_, rfl⟩
    have hxy : x = false ∨ x = true ∧ y = false := by
      rcases h.2 with h | h
      · left; rw [← hx]; simpa using h
      · cases x
        · exact .inl rfl
        · right; exact ⟨rfl, by rw [← hy]; simpa using h⟩
    clear hp h
    rcases hxy with rfl | ⟨rfl, rfl⟩
    all_goals
      go_enter Tryd.func28, Tryd.ntmps28
      go_wp2
      go_ret2
      exact ⟨ret_tw HP.out, rfl⟩
  · have HP : Hid ((0, false) = p) := Lib.hid (by rw [← hp, remV, if_neg h])
    have hc : (b == 0) = true ∨ (b == 0) = false ∧ (a == -9223372036854775808) = true ∧ (b == -1) = true := by
      by_cases h0 : b = 0
      · exact .inl (by simpa using h0)
      · refine .inr ⟨by simpa using h0, ?_⟩
        by_cases ha0 : a = -9223372036854775808
        · by_cases hb0 : b = -1
          · exact ⟨by simpa using ha0, by simpa using hb0⟩
          · exact absurd ⟨h0, .inr hb0⟩ h
        · exact absurd ⟨h0, .inl ha0⟩ h
    clear hp h
    rcases hc with h0 | ⟨h0, h1, h2⟩
    all_goals
      go_enter Tryd.func28, Tryd.ntmps28
      go_wp2
      go_ret2
      exact ⟨ret_tw HP.out, rfl⟩
set_option maxHeartbeats 2000000 in
theorem rmul_any (a b : Int) (ha : in64 a) (hb : in64 b) (w : World) :
    Calls Tryd.prog 24 #[.int .i64 a, .int .i64 b] w fun e w' => e = .returned (two (mulV a b)) ∧ w = w' := by
  obtain ⟨p, hp⟩ : ∃ p, mulV a b = p := ⟨_, rfl⟩
  rw [hp]
  by_cases hz : (a == 0) = true ∨ (a == 0) = false ∧ (b == 0) = true
  · have HP : Hid ((0, true) = p) := Lib.hid (by
      have : a * b = 0 := by
        rcases hz with h | ⟨_, h⟩
        · have : a = 0 := by simpa using h
          rw [this, Int.zero_mul]
        · have : b = 0 := by simpa using h
          rw [this, Int.mul_zero]
      rw [← hp, mulV, this, ck_yes (by unfold in64; decide)])
    clear hp
    rcases hz with h | ⟨h, h2⟩
    all_goals
      go_enter Tryd.func24, Tryd.ntmps24
      go_wp2
      go_ret2
      exact ⟨ret_tw HP.out, rfl⟩
  have za : (a == 0) = false := by
    cases h : (a == 0) with
    | false => rfl
    | true => exact absurd (.inl h) hz
  have zb : (b == 0) = false := by
    cases h : (b == 0) with
    | false => rfl
    | true => exact absurd (.inr ⟨za, h⟩) hz
  clear hz
  by_cases ha1 : a = -1
  · subst ha1
    have hc := rsub_any 0 b (by unfold in64; decide) hb w
    rw [subV, show (0 : Int) - b = -1 * b by omega, show ck (-1 * b) = p from hp] at hc
    have HC := Lib.hid hc
    clear hc hp
    go_enter Tryd.func24, Tryd.ntmps24
    go_wp2_with (go_at_call 22; refine HC.out.mono ?_; rw [two]; rintro e w' ⟨rfl, rfl⟩)
    go_ret2
    exact ⟨ret_tw rfl, rfl⟩
  have a1 : (a == -1) = false := by simpa using ha1
  by_cases hb1 : b = -1
  · subst hb1
    have hc := rsub_any 0 a (by unfold in64; decide) ha w
    rw [subV, show (0 : Int) - a = a * -1 by omega, show ck (a * -1) = p from hp] at hc
    have HC := Lib.hid hc
    clear hc hp
    go_enter Tryd.func24, Tryd.ntmps24
    go_wp2_with (go_at_call 22; refine HC.out.mono ?_; rw [two]; rintro e w' ⟨rfl, rfl⟩)
    go_ret2
    exact ⟨ret_tw rfl, rfl⟩
  have b1 : (b == -1) = false := by simpa using hb1
  have hb0 : b ≠ 0 := by simpa using zb
  obtain ⟨q, hq⟩ : ∃ q, IntKind.i64.wrap (a * b) = q := ⟨_, rfl⟩
  have hqi : in64 q := by rw [← hq, IntKind.wrap_i64]; unfold in64; omega
  have hdo : divOk q b := ⟨hb0, .inr hb1⟩
  obtain ⟨d, hd⟩ : ∃ d, q.tdiv b = d := ⟨_, rfl⟩
  obtain ⟨m, hm⟩ : ∃ d, q.tmod b = d := ⟨_, rfl⟩
  have hdi : -9223372036854775808 ≤ d ∧ d ≤ 9223372036854775807 := by rw [← hd]; exact tdiv_in hqi hdo
  have hmi : -9223372036854775808 ≤ m ∧ m ≤ 9223372036854775807 := by rw [← hm]; exact tmod_in hqi hb hdo
  by_cases h : in64 (a * b)
  · have HP : Hid ((q, true) = p) := Lib.hid (by rw [← hp, mulV, ck_yes h, ← hq, IntKind.wrap_i64]; unfold in64 at h; congr 1; omega)
    have hqe : q = a * b := by rw [← hq, IntKind.wrap_i64]; unfold in64 at h; omega
    have hd1 : (d != a) = false := by
      have := (mul_yes ha hb0 h).2
      rw [← hd, hqe, this]; simp
    have hm1 : (m != 0) = false := by
      rw [← hm, hqe]
      have : (a * b).tmod b = 0 := Int.mul_tmod_left a b
      rw [this]; rfl
    clear hp h hqe hqi hdo
    go_enter Tryd.func24, Tryd.ntmps24
    go_wp2
    go_ret2
    exact ⟨ret_tw HP.out, rfl⟩
  · have HP : Hid ((0, false) = p) := Lib.hid (by rw [← hp, mulV, ck_no h])
    have hd1 : (d != a) = true := by
      have := mul_no ha hb h hq.symm hdo
      rw [hd] at this
      simpa using this
    clear hp h hqi hdo
    go_enter Tryd.func24, Tryd.ntmps24
    go_wp2
    go_ret2
    exact ⟨ret_tw HP.out, rfl⟩
def bitV (b : Bool) : Int := if b = true then 1 else 0
theorem bit_any (b : Bool) (w : World) : Calls Tryd.prog 104 #[.bool b] w fun e w' => e = .returned (.int .i64 (bitV b)) ∧ w = w' := by
  cases b
  all_goals
    go_enter Tryd.func104, Tryd.ntmps104
    go_wp2
    go_ret
    exact ⟨rfl, rfl⟩
/-- What binary tells of two numbers. -/
def bnV (op : Nm) (a b : Int) : Int × Bool :=
  if op = [61, 61] then (bitV (a == b), true) else if op = [33, 61] then (bitV (a != b), true) else if op = [60] then (bitV (decide (a < b)), true) else if op = [60, 61] then (bitV (decide (a ≤ b)), true) else if op = [62] then (bitV (decide (b < a)), true) else if op = [62, 61] then (bitV (decide (b ≤ a)), true)
  else if op = [43] then addV a b else if op = [45] then subV a b else if op = [42] then mulV a b else if op = [47] then divV a b else remV a b
set_option maxHeartbeats 4000000 in
theorem binary_any (op : Nm) (a b : Int) (ha : in64 a) (hb : in64 b) (w : World) :
    Calls Tryd.prog 82 #[.string (str op), .int .i64 a, .int .i64 b] w fun e w' => e = .returned (two (bnV op a b)) ∧ w = w' := by
  obtain ⟨p, hp⟩ : ∃ p, bnV op a b = p := ⟨_, rfl⟩
  rw [hp]
  have HP := Lib.hid hp
  have e1 := str_toList op
  have C1 := Lib.hid (radd_any a b ha hb w)
  have C2 := Lib.hid (rsub_any a b ha hb w)
  have C3 := Lib.hid (rmul_any a b ha hb w)
  have C4 := Lib.hid (rdiv_any a b ha hb w)
  have C5 := Lib.hid (rrem_any a b ha hb w)
  clear hp
  go_enter Tryd.func82, Tryd.ntmps82
  go_wp2_with (first
    | (go_at_call 104; refine (bit_any _ _).mono ?_; rintro e w' ⟨rfl, rfl⟩)
    | (go_at_call 20; refine C1.out.mono ?_; rw [two]; rintro e w' ⟨rfl, rfl⟩)
    | (go_at_call 22; refine C2.out.mono ?_; rw [two]; rintro e w' ⟨rfl, rfl⟩)
    | (go_at_call 24; refine C3.out.mono ?_; rw [two]; rintro e w' ⟨rfl, rfl⟩)
    | (go_at_call 26; refine C4.out.mono ?_; rw [two]; rintro e w' ⟨rfl, rfl⟩)
    | (go_at_call 28; refine C5.out.mono ?_; rw [two]; rintro e w' ⟨rfl, rfl⟩))
  all_goals go_ret2
  all_goals
    refine ⟨ret_tw ?_, rfl⟩
    rw [← HP.out, bnV]
    clear HP C1 C2 C3 C4 C5
    simp_all
end Go.Proofs.YtbhjimlikffalaaDoor
/- The reference of chapter 8: Look. -/
namespace Go.Proofs.YtbhjimlikffalaaDoor
open Go.RowKit
set_option linter.unusedVariables false

set_option maxHeartbeats 4000000 in
theorem rlook_any (A : Option Addr) (c : Nat) (l : List Bd) (name f : Nm) (w : World) (hl : Bds w A c l) :
    Calls Tryd.prog 33 #[.slice A l.length c, .string (str name), .string (str f)] w fun e w' => e = .returned (two (lookV l name f)) ∧ w = w' := by
  have hcap := hl.cap
  obtain ⟨p, hp⟩ : ∃ p, lookV l name f = p := ⟨_, rfl⟩
  rw [hp]
  have HP := Lib.hid hp
  have HL := Lib.hid hl
  have hcap2 : l.length ≤ 9223372036854775807 := hcap
  clear hp hl
  go_enter Tryd.func33, Tryd.ntmps33
  go_wp2
  go_loop [8] (fun i => ∃ k : Nat, k ≤ l.length ∧ i = .int .i64 ((k : Int) - 1) ∧ ∀ j (h : j < l.length), k ≤ j → (l[j].v == name) = false) (fun i => (intOf i + 1).toNat)
  case atStart => exact ⟨l.length, Nat.le_refl _, rfl, fun j h hk => by omega⟩
  case round =>
    obtain ⟨k, hk, rfl, hno⟩ := hrel
    have HN := Lib.hid hno
    clear hno
    rcases Nat.eq_zero_or_pos k with rfl | hpos
    · have hneg : decide ((0 : Int) ≤ ((0 : Nat) : Int) - 1) = false := by decide
      go_wp2
      go_ret2
      exact ⟨ret_tw (by rw [← HP.out]; exact (look_none f fun i hi => HN.out i hi (by omega)).symm), rfl⟩
    · obtain ⟨q, rfl⟩ : ∃ q, k = q + 1 := ⟨k - 1, by omega⟩
      have hq : q < l.length := by omega
      have hqI : (q : Int) < l.length := by omega
      have hge : (0 : Int) ≤ (q : Int) := by omega
      have ei : (((q + 1 : Nat) : Int) - 1) = (q : Int) := by omega
      rw [ei]
      obtain ⟨⟨b, off, rfl, g0, g1, g2⟩, hs, hn⟩ := HL.out.1 q l[q] (List.getElem?_eq_getElem hq)
      obtain ⟨x, hx⟩ : ∃ x, l[q] = x := ⟨_, rfl⟩
      rw [hx] at g0 g1 g2 hs hn
      have es := str_toList x.v
      have en := str_toList name
      have hw1 : IntKind.i64.wrap ((q : Int) - 1) = (q : Int) - 1 := by rw [IntKind.wrap_i64]; omega
      have hc1 := hs.cap
      have hc2 := hn.cap
      have HX := Lib.hid hx
      have HS := Lib.hid hs
      have HM := Lib.hid hn
      clear hs hn hx
      cases hv : (x.v == name) with
      | false =>
        go_wp2
        go_round
        case rel => exact ⟨q, by omega, rfl, fun j hj hqj => by
          by_cases e : j = q
          · subst e; simp only [HX.out]; first | done | exact hv
          · exact HN.out j hj (by omega)⟩
        case measure => simp [intOf]
      | true =>
        have hfin : fieldV x f = p := by rw [← HP.out, look_at f q hq (by rw [HX.out]; exact hv) (fun i hi hqi => HN.out i hi (by omega)), HX.out]
        have HF := Lib.hid hfin
        clear hfin
        go_wp2
        go_loop [9] (fun i => ∃ m : Nat, m ≤ x.fs.length ∧ i = .int .i64 m ∧ ∀ j (h : j < x.fs.length), j < m → (x.fs[j] == f) = false) (fun i => x.fs.length - (intOf i).toNat)
        case atStart => exact ⟨0, Nat.zero_le _, rfl, fun j h hk => by omega⟩
        case round =>
          obtain ⟨m, hm, rfl, hnf⟩ := hrel
          have HNF := Lib.hid hnf
          clear hnf
          by_cases hlt : m < x.fs.length
          · obtain ⟨fb, fo, hfa, hfc⟩ := HS.out.shape (by omega)
            rw [hfa] at g1
            have cm := hfc m hlt
            obtain ⟨s, hs⟩ : ∃ s, x.fs[m] = s := ⟨_, rfl⟩
            rw [hs] at cm
            have HSS := Lib.hid hs
            have ss := str_toList s
            have sf := str_toList f
            clear hfc hs
            have hmI : (m : Int) < x.fs.length := by omega
            cases hsf : (s == f) with
            | false =>
              go_wp2
              go_round
              case rel => exact ⟨m + 1, by omega, by go_num, fun j hj hjm => by
                by_cases e : j = m
                · subst e; rw [HSS.out]; exact hsf
                · exact HNF.out j hj (by omega)⟩
              case measure => simp [intOf]; omega
            | true =>
              have hix : indexV x.fs f = m := idx_at _ _ m hlt (by rw [HSS.out]; exact hsf) (fun i hi him => HNF.out i hi him)
              by_cases hvm : m < x.vs.length
              · obtain ⟨vb, vo, hva, hvc⟩ := HM.out.at_ hvm
                rw [hva] at g2
                have hmv : (m : Int) < x.vs.length := by omega
                have hpe : (x.vs[m], true) = p := by
                  rw [← HF.out, fieldV, hix, if_neg (by omega)]
                  simp [List.getD, hvm]
                have HPE := Lib.hid hpe
                clear hpe hix
                go_wp2
                go_ret2
                exact ⟨ret_tw HPE.out, rfl⟩
              · have hmv : (x.vs.length : Int) ≤ (m : Int) := by omega
                have hpe : (0, false) = p := by
                  rw [← HF.out, fieldV, hix, if_pos (.inr hmv)]
                have HPE := Lib.hid hpe
                clear hpe hix
                go_wp2
                go_ret2
                exact ⟨ret_tw HPE.out, rfl⟩
          · have hix : indexV x.fs f = -1 := idx_none _ _ (fun i hi => HNF.out i hi (by omega))
            have hpe : (0, false) = p := by
              rw [← HF.out, fieldV, hix, if_pos (.inl (by omega))]
            have HPE := Lib.hid hpe
            have hmI : ¬ (m : Int) < x.fs.length := by omega
            clear hpe hix
            go_wp2
            go_ret2
            exact ⟨ret_tw HPE.out, rfl⟩
end Go.Proofs.YtbhjimlikffalaaDoor
/- The reference of chapter 8: eval, Eval, Holds. -/
namespace Go.Proofs.YtbhjimlikffalaaDoor
open Go.RowKit
set_option linter.unusedVariables false

/-- What the reference tells of what is reckoned. -/
def rv (p : Vl × Bool) : Int × Bool := if p.2 = true then (0, false) else (asN p.1, true)
theorem rv_bad (v : Vl) : rv (v, true) = (0, false) := by simp [rv]
theorem rv_ok (v : Vl) : rv (v, false) = (asN v, true) := by simp [rv]
theorem look_no {l : List Bd} {v f : Nm} (h : (lookV l v f).2 = false) : (lookV l v f).1 = 0 := by
  unfold lookV at h ⊢
  split at h
  · unfold fieldV at h ⊢
    split at h
    · rename_i hc
      rw [if_pos hc]
    · cases h
  · rfl
theorem rv_look (l : List Bd) (v f : Nm) : rv (.n (lookV l v f).1, !(lookV l v f).2) = lookV l v f := by
  cases h : (lookV l v f).2 with
  | true => rw [show (!true) = false from rfl, rv_ok]; exact Prod.ext rfl h.symm
  | false => rw [show (!false) = true from rfl, rv_bad]; exact Prod.ext (look_no h).symm h.symm
theorem rv_pair {p : Int × Bool} (h : p.2 = false → p.1 = 0) : rv (.n p.1, !p.2) = p := by
  obtain ⟨x, b⟩ := p
  cases b with
  | true => rfl
  | false => have := h rfl; simp only at this; subst this; rfl
theorem div_no {a b : Int} (h : (divV a b).2 = false) : (divV a b).1 = 0 := by
  unfold divV at h ⊢; split at h
  · cases h
  · rename_i hn; rw [if_neg hn]
theorem rem_no {a b : Int} (h : (remV a b).2 = false) : (remV a b).1 = 0 := by
  unfold remV at h ⊢; split at h
  · cases h
  · rename_i hn; rw [if_neg hn]
theorem bn_rv {op : Nm} (a b : Int) (hl : 3 ≤ levB op) : bnV op a b = rv (operV op a b) := by
  have key : op ∈ ([[61, 61], [33, 61], [60], [60, 61], [62], [62, 61], [43], [45], [42], [47], [37]] : List Nm) := by
    by_cases hm : op ∈ ([[61, 61], [33, 61], [60], [60, 61], [62], [62, 61], [43], [45], [42], [47], [37]] : List Nm)
    · exact hm
    · exfalso
      simp only [List.mem_cons, not_or] at hm
      unfold levB at hl
      by_cases h1 : op = [124, 124]
      · rw [if_pos h1] at hl; omega
      · by_cases h2 : op = [38, 38]
        · rw [if_neg h1, if_pos h2] at hl; omega
        · obtain ⟨a1, a2, a3, a4, a5, a6, a7, a8, a9, a10, a11, -⟩ := hm
          rw [if_neg h1, if_neg h2, if_neg a1, if_neg a2, if_neg a3, if_neg a4, if_neg a5, if_neg a6, if_neg a7, if_neg a8, if_neg a9, if_neg a10, if_neg a11] at hl
          omega
  simp only [List.mem_cons, List.not_mem_nil, or_false] at key
  rcases key with rfl | rfl | rfl | rfl | rfl | rfl | rfl | rfl | rfl | rfl | rfl
  · simp [bnV, operV, rv, bitV, asN, cmpV]
  · simp [bnV, operV, rv, bitV, asN, cmpV]
  · simp [bnV, operV, rv, bitV, asN, cmpV]
  · simp [bnV, operV, rv, bitV, asN, cmpV]
  · simp [bnV, operV, rv, bitV, asN, cmpV]
  · simp [bnV, operV, rv, bitV, asN, cmpV]
  · exact (rv_pair (p := addV a b) (fun h => ck_no_eq h)).symm
  · exact (rv_pair (p := subV a b) (fun h => ck_no_eq h)).symm
  · exact (rv_pair (p := mulV a b) (fun h => ck_no_eq h)).symm
  · exact (rv_pair (p := divV a b) div_no).symm
  · exact (rv_pair (p := remV a b) rem_no).symm
theorem lev_of_op {op : Nm} (h : (opT op).1 = 1) (h2 : levB op ≠ 0) : 3 ≤ levB op := by
  have hl := lev_le op
  unfold opT at h
  split at h
  · cases h
  · split at h
    · omega
    · omega
theorem lev_big {op : Nm} (h1 : op ≠ [124, 124]) (h2 : op ≠ [38, 38]) : levB op = 0 ∨ 3 ≤ levB op := by
  unfold levB
  rw [if_neg h1, if_neg h2]
  by_cases a0 : op = [61, 61]
  · rw [if_pos a0]; omega
  rw [if_neg a0]
  by_cases a1 : op = [33, 61]
  · rw [if_pos a1]; omega
  rw [if_neg a1]
  by_cases a2 : op = [60]
  · rw [if_pos a2]; omega
  rw [if_neg a2]
  by_cases a3 : op = [60, 61]
  · rw [if_pos a3]; omega
  rw [if_neg a3]
  by_cases a4 : op = [62]
  · rw [if_pos a4]; omega
  rw [if_neg a4]
  by_cases a5 : op = [62, 61]
  · rw [if_pos a5]; omega
  rw [if_neg a5]
  by_cases a6 : op = [43]
  · rw [if_pos a6]; omega
  rw [if_neg a6]
  by_cases a7 : op = [45]
  · rw [if_pos a7]; omega
  rw [if_neg a7]
  by_cases a8 : op = [42]
  · rw [if_pos a8]; omega
  rw [if_neg a8]
  by_cases a9 : op = [47]
  · rw [if_pos a9]; omega
  rw [if_neg a9]
  by_cases a10 : op = [37]
  · rw [if_pos a10]; omega
  rw [if_neg a10]
  exact .inl rfl
theorem lev_two {op : Nm} (h : (opT op).1 = 2) (h2 : levB op ≠ 0) : op = [38, 38] ∨ op = [124, 124] := by
  have hl := lev_le op
  have h3 : levB op = 1 ∨ levB op = 2 := by
    unfold opT at h
    split at h
    · assumption
    · split at h
      · cases h
      · split at h
        · rename_i h33; subst h33; exact absurd (by kernel_rfl) h2
        · cases h
  by_cases h1 : op = [124, 124]
  · exact .inr h1
  · by_cases h2' : op = [38, 38]
    · exact .inl h2'
    · have := lev_big h1 h2'
      omega
set_option maxRecDepth 100000 in
set_option maxHeartbeats 16000000 in
theorem reval_any {A : Option Addr} {c : Nat} {l : List Bd} (h64 : Bd64 l) {w0 : World} (hB0 : Bds w0 A c l) : ∀ (t : ET) (w : World), t.In w → Below w0.heap.size w0 w → rightT t = true → typT t ≠ 0 →
    Calls Tryd.prog 61 #[t.val, .slice A l.length c] w fun e w' => e = .returned (two (rv (rk l t))) ∧ Below w.heap.size w w' := by
  refine ET.ind fun k op n v f B d ks ih w hin hbw hr ht => ?_
  have h1 := one_kinds (right_one hr)
  have hkr := right_kids hr
  obtain ⟨R, hR⟩ : ∃ R, rv (rk l (.mk k op n v f B d ks)) = R := ⟨_, rfl⟩
  rw [hR]
  obtain ⟨W, hW⟩ : ∃ W, W = w.alloc (.cells #[.int .i64 k, .string (str op), .int .i64 n, .string (str v), .string (str f), .slice B ks.length d] 55) := ⟨_, rfl⟩
  have hx : Has W w.heap.size 55 #[.int .i64 k, .string (str op), .int .i64 n, .string (str v), .string (str f), .slice B ks.length d] := by rw [hW]; exact heap_alloc_new w _
  have bl : Below w.heap.size w W := by rw [hW]; exact (Below.refl _ _).alloc (Nat.le_refl _) _
  have hbW := hbw.trans (bl.mono hbw.size)
  have hBd := hB0.below hbW
  have HB := Lib.hid bl
  have HX := Lib.hid hx
  have hK := hin.below bl
  have HK := Lib.hid hK
  have hW' := hW.symm
  have top := str_toList op
  obtain ⟨c0, c1, c2, c3, c4, c5⟩ : six W w.heap.size k op n v f B ks.length d := six_has hx
  have HXq := Lib.hid (fun (w' : World) (hb : Below W.heap.size W w') => six_has (hx.below hb hx.lt))
  show Calls _ _ #[ex k op n v f B ks.length d, _] _ _
  unfold ex
  rcases h1 with ⟨rfl, hm, hn, rfl, rfl, rfl⟩ | ⟨rfl, hm, hv, hf, rfl, rfl⟩ | ⟨rfl, hm, ho, rfl, rfl, rfl⟩ | ⟨rfl, hm, hl, rfl, rfl, rfl⟩
  · obtain rfl := List.eq_nil_of_length_eq_zero hm
    rw [rk_0, rv_ok] at hR
    have HR : Hid ((n, true) = R) := Lib.hid hR
    simp only [List.length_nil] at *
    clear hR bl hx hin hW hr ht ih hkr hBd hbW hbw hK
    go_enter Tryd.func61, Tryd.ntmps61
    go_wp2_with fail
    go_ret2
    exact ⟨ret_tw HR.out, HB.out⟩
  · obtain rfl := List.eq_nil_of_length_eq_zero hm
    rw [rk_1, rv_look] at hR
    simp only [List.length_nil] at *
    have hc := rlook_any A c l v f W hBd
    rw [hR] at hc
    have HC := Lib.hid hc
    clear hR bl hx hin hW hr ht ih hkr hBd hbW hbw hK hc
    go_enter Tryd.func61, Tryd.ntmps61
    go_wp2_with (go_at_call 33; refine HC.out.mono ?_; rw [two]; rintro e w1 ⟨rfl, rfl⟩)
    go_ret2
    exact ⟨ret_tw rfl, HB.out⟩
  · obtain ⟨x, rfl⟩ := List.length_eq_one_iff.1 hm
    simp only [List.length_cons, List.length_nil, Nat.zero_add] at hW' c5 HXq HX
    obtain ⟨⟨b', off, rfl, g0, g1, g2, g3, g4, g5⟩, hkin⟩ := HK.out.kids 0 (by simp)
    simp only [List.getElem_cons_zero, Nat.zero_mul, Nat.add_zero] at g0 g1 g2 g3 g4 g5 hkin
    obtain ⟨t1, t2⟩ := typ_one ht
    have hxr := hkr x (by simp)
    have hx0 : typT x ≠ 0 := by rcases ho with rfl | rfl <;> rw [t1] <;> decide
    have hof := rk_of h64 x hkin hxr hx0
    rw [t1] at hof
    have hcl := ih x (by simp) W hkin hbW hxr hx0
    rw [show x.val = Value.agg #[.int .i64 x.k, .string (str x.op), .int .i64 x.n, .string (str x.v), .string (str x.f), .slice x.A x.ks.length x.c] from rfl] at hcl
    rw [rk_2] at hR
    obtain ⟨⟨p, bad⟩, hp⟩ : ∃ p, rk l x = p := ⟨_, rfl⟩
    rw [hp] at hR hcl hof
    have hrv : rv (p, bad) = if bad = true then (0, false) else (asN p, true) := rfl
    rcases ho with rfl | rfl
    · cases p with
      | t b => exact absurd hof (by simp [Vl.of]; decide)
      | n a =>
        have ha : in64 a := hof.2
        have hs := fun w => rsub_any 0 a (by unfold in64; decide) ha w
        have hne : ([45] : List UInt8) = [45] := rfl
        cases bad with
        | true =>
          have HR : Hid ((0, false) = R) := Lib.hid (by rw [← hR]; simp [unV, rv])
          have HC := Lib.hid hcl
          rw [rv_bad] at HC
          clear hR bl hx hin hW hr ht ih hkr hBd hbW hbw hK hcl hof hp hs hrv hkin t1 t2 hxr hx0 ha
          go_enter Tryd.func61, Tryd.ntmps61
          go_wp2_with (go_at_call 61; refine HC.out.mono ?_; rw [two]; rintro e w1 ⟨rfl, b1⟩)
          go_ret2
          exact ⟨ret_tw HR.out, HB.out.trans (b1.mono HB.out.size)⟩
        | false =>
          have hR2 : subV 0 a = R := by rw [← hR]; exact (rv_pair (p := subV 0 a) (fun h => ck_no_eq h)).symm.trans (by simp [unV, contrV])
          have HS : Hid (∀ w, Calls Tryd.prog 22 #[.int .i64 0, .int .i64 a] w fun e w' => e = .returned (two R) ∧ w = w') := Lib.hid fun w => by rw [← hR2]; exact hs w
          have HC := Lib.hid hcl
          rw [rv_ok] at HC
          clear hR bl hx hin hW hr ht ih hkr hBd hbW hbw hK hcl hof hp hs hrv hkin t1 t2 hxr hx0 ha hR2
          go_enter Tryd.func61, Tryd.ntmps61
          go_wp2_with (first | (go_at_call 61; refine HC.out.mono ?_; rw [two]; rintro e w1 ⟨rfl, b1⟩; simp only [asN]; obtain ⟨q0, q1, q2, q3, q4, q5⟩ := HXq.out w1 b1) | (go_at_call 22; refine (HS.out _).mono ?_; rw [two]; rintro e w2 ⟨rfl, rfl⟩))
          go_ret2
          exact ⟨ret_tw rfl, HB.out.trans (b1.mono HB.out.size)⟩
    · cases p with
      | n a => exact absurd hof.1 (by decide)
      | t b =>
        cases bad with
        | true =>
          have HR : Hid ((0, false) = R) := Lib.hid (by rw [← hR]; simp [unV, rv])
          have HC := Lib.hid hcl
          rw [rv_bad] at HC
          clear hR bl hx hin hW hr ht ih hkr hBd hbW hbw hK hcl hof hp hrv hkin t1 t2 hxr hx0
          go_enter Tryd.func61, Tryd.ntmps61
          go_wp2_with (go_at_call 61; refine HC.out.mono ?_; rw [two]; rintro e w1 ⟨rfl, b1⟩)
          go_ret2
          exact ⟨ret_tw HR.out, HB.out.trans (b1.mono HB.out.size)⟩
        | false =>
          have HC := Lib.hid hcl
          rw [rv_ok] at HC
          clear bl hx hin hW hr ht ih hkr hBd hbW hbw hK hcl hof hp hrv hkin t1 t2 hxr hx0
          have HR : Hid (((1 - asN (.t b)), true) = R) := Lib.hid (by rw [← hR]; cases b <;> rfl)
          clear hR
          cases b
          all_goals
            simp only [asN] at HC HR
            go_enter Tryd.func61, Tryd.ntmps61
            go_wp2_with (go_at_call 61; refine HC.out.mono ?_; rw [two]; rintro e w1 ⟨rfl, b1⟩; obtain ⟨q0, q1, q2, q3, q4, q5⟩ := HXq.out w1 b1)
            go_ret2
            exact ⟨ret_tw HR.out, HB.out.trans (b1.mono HB.out.size)⟩
  · obtain ⟨x, y, rfl⟩ := len_two hm
    simp only [List.length_cons, List.length_nil, Nat.zero_add, Nat.reduceAdd] at hW' c5 HXq HX
    obtain ⟨⟨b', off, rfl, g0, g1, g2, g3, g4, g5⟩, hkin⟩ := HK.out.kids 0 (by simp)
    obtain ⟨⟨b'', off', he, y0, y1, y2, y3, y4, y5⟩, hkin2⟩ := HK.out.kids 1 (by simp)
    cases he
    simp only [List.getElem_cons_zero, List.getElem_cons_succ, Nat.zero_mul, Nat.add_zero] at g0 g1 g2 g3 g4 g5 hkin y0 y1 y2 y3 y4 y5 hkin2
    obtain ⟨t1, t2, t3⟩ := typ_two ht
    have hn : (opT op).1 ≠ 0 := by rcases opT_pair op with e | e | e <;> rw [e] <;> decide
    have hxr := hkr x (by simp)
    have hyr := hkr y (by simp)
    have hx0 : typT x ≠ 0 := by rw [t1]; exact hn
    have hy0 : typT y ≠ 0 := by rw [t2]; exact hn
    have hof := rk_of h64 x hkin hxr hx0
    have hof2 := rk_of h64 y hkin2 hyr hy0
    rw [t1] at hof
    rw [t2] at hof2
    have hcl := ih x (by simp) W hkin hbW hxr hx0
    rw [show x.val = Value.agg #[.int .i64 x.k, .string (str x.op), .int .i64 x.n, .string (str x.v), .string (str x.f), .slice x.A x.ks.length x.c] from rfl] at hcl
    have hcl2 : ∀ (w' : World), Below W.heap.size W w' → Calls Tryd.prog 61 #[.agg #[.int .i64 y.k, .string (str y.op), .int .i64 y.n, .string (str y.v), .string (str y.f), .slice y.A y.ks.length y.c], .slice A l.length c] w' fun e w2 => e = .returned (two (rv (rk l y))) ∧ Below w'.heap.size w' w2 := fun w' hb => ih y (by simp) w' (hkin2.below hb) (hbW.trans (hb.mono hbW.size)) hyr hy0
    have HY : Hid (∀ w', Below W.heap.size W w' → CellsAt w' (some ⟨b', off, none⟩) 1 y) := Lib.hid fun w' hb => CellsAt.below ⟨b', off, rfl, y0, y1, y2, y3, y4, y5⟩ hb
    rw [rk_3] at hR
    obtain ⟨⟨p, bad⟩, hp⟩ : ∃ p, rk l x = p := ⟨_, rfl⟩
    obtain ⟨⟨p2, bad2⟩, hp2⟩ : ∃ p, rk l y = p := ⟨_, rfl⟩
    rw [hp, hp2] at hR
    rw [hp] at hcl hof
    rw [hp2] at hcl2 hof2
    have HC := Lib.hid hcl
    have HC2 := Lib.hid hcl2
    have hpair := opT_pair op
    clear hcl hcl2 bl hx hin hW hr ht ih hkr hBd hbW hbw hK hkin hkin2 t1 t2 t3 hxr hyr hx0 hy0 hp hp2 hn y0 y1 y2 y3 y4 y5
    cases p with
    | t dd =>
      have h2 : (opT op).1 = 2 := hof
      cases p2 with
      | n a => rw [h2] at hof2; exact absurd hof2.1 (by decide)
      | t d2 =>
        have ho := lev_two h2 hl
        have HR : Hid (R = rv (binV op (.t dd, bad) (.t d2, bad2))) := Lib.hid hR.symm
        clear hR hof hof2 hpair h2 hl
        cases bad with
        | true =>
          have HR2 : Hid ((0, false) = R) := Lib.hid (by rw [HR.out]; rcases ho with rfl | rfl <;> cases dd <;> simp [binV, rv])
          rw [rv_bad] at HC
          clear ho
          go_enter Tryd.func61, Tryd.ntmps61
          go_wp2_with (go_at_call 61; refine HC.out.mono ?_; rw [two]; rintro e w1 ⟨rfl, b1⟩)
          go_ret2
          exact ⟨ret_tw HR2.out, HB.out.trans (b1.mono HB.out.size)⟩
        | false =>
          rw [rv_ok] at HC
          have hrb : rv (.t d2, bad2) = if bad2 = true then (0, false) else (asN (.t d2), true) := rfl
          rw [hrb] at HC2
          rcases ho with rfl | rfl <;> cases dd <;> cases bad2 <;> cases d2
          all_goals
            simp only [asN, if_true, if_false, Bool.false_eq_true] at HC HC2
            go_enter Tryd.func61, Tryd.ntmps61
            go_wp2_with (first | (go_at_call 61; (with_reducible refine HC.out.mono ?_); rw [two]; rintro e w1 ⟨rfl, b1⟩; obtain ⟨q0, q1, q2, q3, q4, q5⟩ := HXq.out w1 b1; obtain ⟨_, _, hee, u0, u1, u2, u3, u4, u5⟩ := HY.out w1 b1; cases hee; simp only [Nat.one_mul] at u0 u1 u2 u3 u4 u5) | (go_at_call 61; (with_reducible refine (HC2.out w1 b1).mono ?_); rw [two]; rintro e w2 ⟨rfl, b2⟩; obtain ⟨r0, r1, r2, r3, r4, r5⟩ := HXq.out w2 (b1.trans (b2.mono b1.size))))
            go_ret2
            first
              | exact ⟨ret_tw (by rw [HR.out]; rfl), HB.out.trans (b1.mono HB.out.size)⟩
              | exact ⟨ret_tw (by rw [HR.out]; rfl), HB.out.trans ((b1.trans (b2.mono b1.size)).mono HB.out.size)⟩
    | n a =>
      have h2 : (opT op).1 = 1 := hof.1
      cases p2 with
      | t b => rw [h2] at hof2; exact absurd hof2 (by simp [Vl.of])
      | n b =>
        have hlv := lev_of_op h2 hl
        have hna : (op == [38, 38]) = false ∧ (op == [124, 124]) = false := by
          constructor
          · rw [beq_eq_false_iff_ne]; rintro rfl; revert hlv; decide
          · rw [beq_eq_false_iff_ne]; rintro rfl; revert hlv; decide
        obtain ⟨hna1, hna2⟩ := hna
        have hbn := fun w => binary_any op a b hof.2 hof2.2 w
        have hbr := bn_rv (op := op) a b hlv
        have HR : Hid (R = rv ((operV op a b).1, (bad || bad2) || (operV op a b).2)) := Lib.hid hR.symm
        clear hR hof hof2 hpair h2 hl hlv
        cases bad with
        | true =>
          have HR2 : Hid ((0, false) = R) := Lib.hid (by rw [HR.out]; simp [rv])
          rw [rv_bad] at HC
          clear hbn hbr
          go_enter Tryd.func61, Tryd.ntmps61
          go_wp2_with (go_at_call 61; refine HC.out.mono ?_; rw [two]; rintro e w1 ⟨rfl, b1⟩)
          go_ret2
          exact ⟨ret_tw HR2.out, HB.out.trans (b1.mono HB.out.size)⟩
        | false =>
          rw [rv_ok] at HC
          cases bad2 with
          | true =>
            have HR2 : Hid ((0, false) = R) := Lib.hid (by rw [HR.out]; simp [rv])
            rw [rv_bad] at HC2
            clear hbn hbr
            simp only [asN] at HC
            go_enter Tryd.func61, Tryd.ntmps61
            go_wp2_with (first | (go_at_call 61; (with_reducible refine HC.out.mono ?_); rw [two]; rintro e w1 ⟨rfl, b1⟩; obtain ⟨q0, q1, q2, q3, q4, q5⟩ := HXq.out w1 b1; obtain ⟨_, _, hee, u0, u1, u2, u3, u4, u5⟩ := HY.out w1 b1; cases hee; simp only [Nat.one_mul] at u0 u1 u2 u3 u4 u5) | (go_at_call 61; (with_reducible refine (HC2.out w1 b1).mono ?_); rw [two]; rintro e w2 ⟨rfl, b2⟩; obtain ⟨r0, r1, r2, r3, r4, r5⟩ := HXq.out w2 (b1.trans (b2.mono b1.size))))
            go_ret2
            exact ⟨ret_tw HR2.out, HB.out.trans ((b1.trans (b2.mono b1.size)).mono HB.out.size)⟩
          | false =>
            have hR2 : bnV op a b = R := by rw [HR.out, hbr]; simp
            rw [rv_ok] at HC2
            simp only [asN] at HC HC2
            have HBN : Hid (∀ w, Calls Tryd.prog 82 #[.string (str op), .int .i64 a, .int .i64 b] w fun e w' => e = .returned (two R) ∧ w = w') := Lib.hid fun w => by rw [← hR2]; exact hbn w
            clear hbn hbr hR2
            go_enter Tryd.func61, Tryd.ntmps61
            go_wp2_with (first | (go_at_call 61; (with_reducible refine HC.out.mono ?_); rw [two]; rintro e w1 ⟨rfl, b1⟩; obtain ⟨q0, q1, q2, q3, q4, q5⟩ := HXq.out w1 b1; obtain ⟨_, _, hee, u0, u1, u2, u3, u4, u5⟩ := HY.out w1 b1; cases hee; simp only [Nat.one_mul] at u0 u1 u2 u3 u4 u5) | (go_at_call 61; (with_reducible refine (HC2.out w1 b1).mono ?_); rw [two]; rintro e w2 ⟨rfl, b2⟩; obtain ⟨r0, r1, r2, r3, r4, r5⟩ := HXq.out w2 (b1.trans (b2.mono b1.size))) | (go_at_call 82; refine (HBN.out _).mono ?_; rw [two]; rintro e w3 ⟨rfl, rfl⟩))
            go_ret2
            exact ⟨ret_tw rfl, HB.out.trans ((b1.trans (b2.mono b1.size)).mono HB.out.size)⟩
theorem ev_is (l : List Bd) (t : ET) : evV l t = if typeT t = 0 then (0, false) else rv (rk l t) := rfl
set_option maxHeartbeats 4000000 in
theorem rEval_any {A : Option Addr} {c : Nat} {l : List Bd} (h64 : Bd64 l) {w0 : World} (hB0 : Bds w0 A c l) (t : ET) (w : World) (hin : t.In w) (hbw : Below w0.heap.size w0 w) :
    Calls Tryd.prog 30 #[t.val, .slice A l.length c] w fun e w' => e = .returned (two (evV l t)) ∧ Below w.heap.size w w' := by
  obtain ⟨u, hu⟩ : ∃ u, u = t.val := ⟨_, rfl⟩
  have hv : u = .agg #[.int .i64 t.k, .string (str t.op), .int .i64 t.n, .string (str t.v), .string (str t.f), .slice t.A t.ks.length t.c] := hu
  obtain ⟨W, hW⟩ : ∃ W, W = w.alloc (.cells #[.int .i64 t.k, .string (str t.op), .int .i64 t.n, .string (str t.v), .string (str t.f), .slice t.A t.ks.length t.c] 55) := ⟨_, rfl⟩
  have hx : Has W w.heap.size 55 #[.int .i64 t.k, .string (str t.op), .int .i64 t.n, .string (str t.v), .string (str t.f), .slice t.A t.ks.length t.c] := by rw [hW]; exact heap_alloc_new w _
  have bl : Below w.heap.size w W := by rw [hW]; exact (Below.refl _ _).alloc (Nat.le_refl _) _
  have hbW := hbw.trans (bl.mono hbw.size)
  have h1 := rtype_any t W (hin.below bl)
  have h2 := fun (w' : World) (hb : Below W.heap.size W w') (h0 : typeT t ≠ 0) => by
    have hr : rightT t = true := by
      cases h : rightT t with
      | true => rfl
      | false => unfold typeT at h0; rw [h] at h0; exact absurd rfl h0
    have ht : typT t ≠ 0 := by unfold typeT at h0; rw [if_pos hr] at h0; exact h0
    exact reval_any h64 hB0 t w' ((hin.below bl).below hb) (hbW.trans (hb.mono hbW.size)) hr ht
  rw [ev_is]
  obtain ⟨T, hT⟩ : ∃ T, typeT t = T := ⟨_, rfl⟩
  obtain ⟨R, hR⟩ : ∃ R, rv (rk l t) = R := ⟨_, rfl⟩
  rw [hT] at h1 h2 ⊢
  rw [hR] at h2 ⊢
  rw [← hu] at h1 h2 ⊢
  rw [hv] at h1 h2 ⊢
  have H1 := Lib.hid h1
  have H2 := Lib.hid h2
  have HX := Lib.hid hx
  have HB := Lib.hid bl
  have hW' := hW.symm
  obtain ⟨c0, c1, c2, c3, c4, c5⟩ := six_has hx
  clear h1 h2 hx bl hW hin hR hu hv hT hbw hbW hB0
  by_cases h0 : T = 0
  · subst h0
    rw [if_pos rfl]
    go_enter Tryd.func30, Tryd.ntmps30
    go_wp2_with (go_at_call 60; refine H1.out.mono ?_; rintro e w1 ⟨rfl, b1⟩)
    go_ret2
    exact ⟨ret_tw rfl, HB.out.trans (b1.mono HB.out.size)⟩
  · rw [if_neg h0]
    have hT0 : (T == 0) = false := by simpa using h0
    go_enter Tryd.func30, Tryd.ntmps30
    go_wp2_with (first | (go_at_call 60; refine H1.out.mono ?_; rintro e w1 ⟨rfl, b1⟩; obtain ⟨d0, d1, d2, d3, d4, d5⟩ := six_has (HX.out.below b1 HX.out.lt)) | (go_at_call 61; refine (H2.out w1 b1 h0).mono ?_; rw [two]; rintro e w2 ⟨rfl, b2⟩))
    go_ret2
    exact ⟨ret_tw rfl, HB.out.trans ((b1.trans (b2.mono b1.size)).mono HB.out.size)⟩
set_option maxHeartbeats 4000000 in
theorem rHolds_any {A : Option Addr} {c : Nat} {l : List Bd} (h64 : Bd64 l) {w0 : World} (hB0 : Bds w0 A c l) (t : ET) (w : World) (hin : t.In w) (hbw : Below w0.heap.size w0 w) :
    Calls Tryd.prog 35 #[t.val, .slice A l.length c] w fun e w' => e = .returned (.bool (holdsV l t)) ∧ Below w.heap.size w w' := by
  obtain ⟨u, hu⟩ : ∃ u, u = t.val := ⟨_, rfl⟩
  have hv : u = .agg #[.int .i64 t.k, .string (str t.op), .int .i64 t.n, .string (str t.v), .string (str t.f), .slice t.A t.ks.length t.c] := hu
  obtain ⟨W, hW⟩ : ∃ W, W = w.alloc (.cells #[.int .i64 t.k, .string (str t.op), .int .i64 t.n, .string (str t.v), .string (str t.f), .slice t.A t.ks.length t.c] 55) := ⟨_, rfl⟩
  have hx : Has W w.heap.size 55 #[.int .i64 t.k, .string (str t.op), .int .i64 t.n, .string (str t.v), .string (str t.f), .slice t.A t.ks.length t.c] := by rw [hW]; exact heap_alloc_new w _
  have bl : Below w.heap.size w W := by rw [hW]; exact (Below.refl _ _).alloc (Nat.le_refl _) _
  have hbW := hbw.trans (bl.mono hbw.size)
  have h1 := rEval_any h64 hB0 t W (hin.below bl) hbW
  have h2 := fun (w' : World) (hb : Below W.heap.size W w') => rtype_any t w' ((hin.below bl).below hb)
  have hhv : holdsV l t = ((evV l t).2 && decide ((evV l t).1 = 1) && decide (typeT t = 2)) := rfl
  rw [hhv]
  obtain ⟨T, hT⟩ : ∃ T, typeT t = T := ⟨_, rfl⟩
  obtain ⟨⟨n, ok⟩, hR⟩ : ∃ R, evV l t = R := ⟨_, rfl⟩
  rw [hR] at h1 ⊢
  rw [hT] at h2 ⊢
  rw [two] at h1
  dsimp only at h1 ⊢
  obtain ⟨nb, hnb⟩ : ∃ b, decide (n = 1) = b := ⟨_, rfl⟩
  obtain ⟨tb, htb⟩ : ∃ b, decide (T = 2) = b := ⟨_, rfl⟩
  have hn1 : (n == 1) = nb := by rw [← hnb]; rfl
  have ht1 : (T == 2) = tb := by rw [← htb]; rfl
  rw [hnb, htb]
  rw [← hu] at h1 h2 ⊢
  rw [hv] at h1 h2 ⊢
  have H1 := Lib.hid h1
  have H2 := Lib.hid h2
  have HX := Lib.hid hx
  have HB := Lib.hid bl
  have hW' := hW.symm
  obtain ⟨c0, c1, c2, c3, c4, c5⟩ := six_has hx
  clear h1 h2 hx bl hW hin hR hu hv hT hbw hbW hB0 hhv hnb htb
  cases ok <;> cases nb <;> cases tb
  all_goals
    go_enter Tryd.func35, Tryd.ntmps35
    go_wp2_with (first | (go_at_call 30; refine H1.out.mono ?_; rintro e w1 ⟨rfl, b1⟩; obtain ⟨d0, d1, d2, d3, d4, d5⟩ := six_has (HX.out.below b1 HX.out.lt)) | (go_at_call 60; refine (H2.out w1 b1).mono ?_; rintro e w2 ⟨rfl, b2⟩))
    go_ret
    exact ⟨rfl, HB.out.trans ((b1.trans (b2.mono b1.size)).mono HB.out.size)⟩
end Go.Proofs.YtbhjimlikffalaaDoor
/- Expressions whose lists of Kids are of a machine's size. -/
namespace Go.Proofs.YtbhjimlikffalaaDoor
open Go.RowKit
set_option linter.unusedVariables false

mutual
/-- Each list of Kids takes at most 2^47 bytes. -/
def Kl : ET → Prop
  | .mk _ _ _ _ _ _ _ ks => ks.length ≤ 1599289640355 ∧ KlL ks
def KlL : List ET → Prop
  | [] => True
  | t :: ts => Kl t ∧ KlL ts
end
theorem klL_of : ∀ {ks : List ET}, (∀ t ∈ ks, Kl t) → KlL ks
  | [], _ => by rw [KlL]; trivial
  | t :: ts, h => by rw [KlL]; exact ⟨h t (by simp), klL_of fun u hu => h u (by simp [hu])⟩
theorem klL_mem : ∀ {ks : List ET}, KlL ks → ∀ t ∈ ks, Kl t
  | [], _, t, ht => by cases ht
  | x :: ts, h, t, ht => by
    rw [KlL] at h
    rcases List.mem_cons.1 ht with rfl | ht
    · exact h.1
    · exact klL_mem h.2 t ht
theorem kl_mk {k : Int} {op : Nm} {n : Int} {v f : Nm} {A : Option Addr} {c : Nat} {ks : List ET} (h : ks.length ≤ 1599289640355) (hk : ∀ t ∈ ks, Kl t) : Kl (.mk k op n v f A c ks) := by
  rw [Kl]; exact ⟨h, klL_of hk⟩
theorem Kl.len {k : Int} {op : Nm} {n : Int} {v f : Nm} {A : Option Addr} {c : Nat} {ks : List ET} (h : Kl (.mk k op n v f A c ks)) : ks.length ≤ 1599289640355 := by rw [Kl] at h; exact h.1
theorem Kl.kids {k : Int} {op : Nm} {n : Int} {v f : Nm} {A : Option Addr} {c : Nat} {ks : List ET} (h : Kl (.mk k op n v f A c ks)) : ∀ t ∈ ks, Kl t := by rw [Kl] at h; exact klL_mem h.2
theorem len_sizeL (ks : List ET) : ks.length ≤ sizeL ks := by
  induction ks with
  | nil => simp
  | cons t ts ih =>
    rw [sizeL_cons, List.length_cons]
    have := size_pos t
    omega
theorem mem_sizeL {ks : List ET} {t : ET} (h : t ∈ ks) : t.size ≤ sizeL ks := by
  induction ks with
  | nil => cases h
  | cons x ts ih =>
    rw [sizeL_cons]
    rcases List.mem_cons.1 h with rfl | h
    · omega
    · have := ih h; omega
theorem kl_small : ∀ t : ET, t.size ≤ 1000000 → Kl t := by
  refine ET.ind fun k op n v f A c ks ih h => ?_
  rw [size_mk] at h
  have := len_sizeL ks
  exact kl_mk (by omega) fun t ht => ih t ht (by have := mem_sizeL ht; omega)
end Go.Proofs.YtbhjimlikffalaaDoor
/- Cells of slices of expressions. -/
namespace Go.Proofs.YtbhjimlikffalaaDoor
open Go.RowKit
set_option linter.unusedVariables false

/-- An expression's cells. -/
def ec (x : ET) : List Value := [.int .i64 x.k, .string (str x.op), .int .i64 x.n, .string (str x.v), .string (str x.f), .slice x.A x.ks.length x.c]
def kcells (z : List ET) : List Value := z.flatMap ec
theorem kcells_snoc (l : List ET) (x : ET) : kcells (l ++ [x]) = kcells l ++ ec x := by simp [kcells]
theorem kcells_len (l : List ET) : (kcells l).length = l.length * 6 := by
  induction l with
  | nil => rfl
  | cons b r ih =>
    have e : kcells (b :: r) = ec b ++ kcells r := rfl
    rw [e, List.length_append, ih, List.length_cons]
    have : (ec b).length = 6 := rfl
    omega
theorem kcells_get {l : List ET} {i r : Nat} {x : ET} (hi : l[i]? = some x) (hr : r < 6) : (kcells l)[i * 6 + r]? = (ec x)[r]? := by
  induction l generalizing i with
  | nil => simp at hi
  | cons b t ih =>
    have e : kcells (b :: t) = ec b ++ kcells t := rfl
    have hl : (ec b).length = 6 := rfl
    cases i with
    | zero =>
      simp at hi
      subst hi
      rw [e, Nat.zero_mul, Nat.zero_add, List.getElem?_append_left (by omega)]
    | succ i =>
      have h1 := ih (i := i) (by simpa using hi)
      rw [e, List.getElem?_append_right (by omega), hl, show (i + 1) * 6 + r - 6 = i * 6 + r by omega]
      exact h1
theorem kcells_at {l : List ET} {j : Nat} {u : Value} (h : (kcells l)[j]? = some u) : ∃ i r x, l[i]? = some x ∧ r < 6 ∧ j = i * 6 + r ∧ (ec x)[r]? = some u := by
  have hlt : j < l.length * 6 := by
    have := (List.getElem?_eq_some_iff.1 h).1
    rwa [kcells_len] at this
  have hi : j / 6 < l.length := by omega
  refine ⟨j / 6, j % 6, l[j / 6], List.getElem?_eq_getElem hi, by omega, by omega, ?_⟩
  rw [← kcells_get (List.getElem?_eq_getElem hi) (by omega), show j / 6 * 6 + j % 6 = j by omega]
  exact h
theorem kcells_one (l : List ET) : ∀ u ∈ kcells l, u.oneCell' = true := by
  intro u hu
  simp only [kcells, List.mem_flatMap] at hu
  obtain ⟨x, _, hx⟩ := hu
  simp [ec] at hx
  rcases hx with rfl | rfl | rfl | rfl | rfl | rfl <;> rfl
theorem info_expr : (Tryd.prog.info? 24).map (fun i => (i.zero, i.size, i.bytes)) = some (some (.agg #[.int .i64 0, .string { data := #[] }, .int .i64 0, .string { data := #[] }, .string { data := #[] }, .slice none 0 0]), 6, 88) := by kernel_rfl
theorem cell_six {w : World} {A : Option Addr} {i r : Nat} {x : ET} {u : Value} (h : CellsAt w A i x) (hr : r < 6) (hu : (ec x)[r]? = some u) : ∃ b off, A = some ⟨b, off, none⟩ ∧ w.cell? ⟨b, off + (i * 6 + r), none⟩ = some u := by
  obtain ⟨b, off, rfl, g0, g1, g2, g3, g4, g5⟩ := h
  refine ⟨b, off, rfl, ?_⟩
  match r, hr with
  | 0, _ => simp [ec] at hu; subst hu; exact g0
  | 1, _ => simp [ec] at hu; subst hu; exact g1
  | 2, _ => simp [ec] at hu; subst hu; exact g2
  | 3, _ => simp [ec] at hu; subst hu; exact g3
  | 4, _ => simp [ec] at hu; subst hu; exact g4
  | 5, _ => simp [ec] at hu; subst hu; exact g5
theorem info_parts6 {e : TypeId} {z : Value} {s b : Nat} (h : (Tryd.prog.info? e).map (fun i => (i.zero, i.size, i.bytes)) = some (some z, s, b)) : ∃ i, Tryd.prog.info? e = some i ∧ i.zero = some z ∧ i.size = s ∧ i.bytes = b := by
  cases hi : Tryd.prog.info? e with
  | none => rw [hi] at h; cases h
  | some i => rw [hi] at h; simp at h; exact ⟨i, rfl, h.1, h.2.1, h.2.2⟩
theorem own_belowE {w w' : World} {base : Nat} {e : TypeId} {s n : Nat} {v : Value} {xs : List Value} (h : w.ownsRow base e s v n xs) (hb : Below w.heap.size w w') : w'.ownsRow base e s v n xs :=
  h.kept (row := none) ⟨hb.os, hb.tape, hb.output, hb.size, fun k hk _ => hb.block k hk⟩ (by cases v.ownBlock with | none => exact .inl rfl | some k => exact .inr (by simp))
end Go.Proofs.YtbhjimlikffalaaDoor
/- An expression as the reference's, without the walk: own slices of expressions. -/
namespace Go.Proofs.YtbhjimlikffalaaDoor
open Go.RowKit
set_option linter.unusedVariables false

/-- The world with the block that a slice owns laid aside. -/
def hidO (v : Value) (w : World) : World := match v.ownBlock with | none => w | some g => hidB g w
theorem hidO_size (v : Value) (w : World) : (hidO v w).heap.size = w.heap.size := by
  unfold hidO
  cases v.ownBlock with
  | none => rfl
  | some g => exact hid_size g w
theorem hid_cell_ne {p : Nat} {w : World} {a : Addr} {v : Value} (h : (hidB p w).cell? a = some v) : a.block ≠ p := by
  intro e
  have hlt := World.block_lt_of_cell? _ _ h
  rw [hid_size] at hlt
  have h2 := hid_same (p := p) w (by rw [← e]; exact hlt)
  simp only [World.cell?, e, h2] at h
  revert h
  cases a.spot <;> simp
theorem hidO_cell {v : Value} {w : World} {a : Addr} {u : Value} (h : (hidO v w).cell? a = some u) : v.ownBlock ≠ some a.block ∧ w.cell? a = some u := by
  unfold hidO at h
  cases hv : v.ownBlock with
  | none => rw [hv] at h; exact ⟨by simp, h⟩
  | some g =>
    rw [hv] at h
    exact ⟨fun e => hid_cell_ne h (Option.some.inj e).symm, hid_cell h⟩
theorem hidO_block {v : Value} {q : Nat} (w : World) (h : v.ownBlock ≠ some q) : (hidO v w).heap[q]? = w.heap[q]? := by
  unfold hidO
  cases hv : v.ownBlock with
  | none => rfl
  | some g => exact hid_block w fun e => h (by rw [hv, e])
/-- t lies in w, in blocks from N on, in none that v owns. -/
def NwO (N : Nat) (v : Value) (w : World) (t : ET) : Prop := t.In (hidL N (hidO v w))
theorem NwO.imp {N N' : Nat} {v v' : Value} {w w' : World} {t : ET} (h : NwO N v w t) (hN : N' ≤ N) (hb : ∀ b, N ≤ b → b < w.heap.size → v.ownBlock ≠ some b → w'.heap[b]? = w.heap[b]? ∧ v'.ownBlock ≠ some b) : NwO N' v' w' t :=
  ET.In.imp (fun a u hv => by
    obtain ⟨h1, h2⟩ := hidL_cell hv
    obtain ⟨h3, h4⟩ := hidO_cell h2
    have hlt := World.block_lt_of_cell? _ _ h4
    obtain ⟨h5, h6⟩ := hb a.block h1 hlt h3
    rw [cell_block (hidL_block (hidO v' w') (by omega : N' ≤ a.block)), cell_block (hidO_block w' h6), cell_block h5]
    exact h4) t h
theorem NwO.nw {N N' : Nat} {v : Value} {w : World} {t : ET} (h : NwO N v w t) (hN : N' ≤ N) : Nw N' w t :=
  ET.In.imp (fun a u hv => by
    obtain ⟨h1, h2⟩ := hidL_cell hv
    rw [cell_block (hidL_block w (by omega : N' ≤ a.block))]
    exact (hidO_cell h2).2) t h
theorem Nw.own {N N' : Nat} {v : Value} {w : World} {t : ET} (h : Nw N w t) (hN : N' ≤ N) (hv : ∀ g, v.ownBlock = some g → g < N) : NwO N' v w t :=
  ET.In.imp (fun a u hu => by
    obtain ⟨h1, h2⟩ := hidL_cell hu
    rw [cell_block (hidL_block (hidO v w) (by omega : N' ≤ a.block)), cell_block (hidO_block w fun e => by have := hv _ e; omega)]
    exact h2) t h
theorem rinfo_expr : (Tryd.prog.info? 55).map (fun i => (i.zero, i.size, i.bytes)) = some (some (.agg #[.int .i64 0, .string { data := #[] }, .int .i64 0, .string { data := #[] }, .string { data := #[] }, .slice none 0 0]), 6, 88) := by kernel_rfl
/-- An own slice of expressions. -/
def OW (w : World) (N : Nat) (v : Value) (ts : List ET) : Prop := w.ownsRow N 55 6 v ts.length (kcells ts) ∧ ∀ t ∈ ts, NwO N v w t
theorem OW.nil (w : World) (N : Nat) : OW w N (.slice none 0 0) [] := ⟨World.ownsRow_nil w N _ 6, fun t ht => by cases ht⟩
theorem OW.lt {w : World} {N : Nat} {v : Value} {ts : List ET} (h : OW w N v ts) : ∀ k, v.ownBlock = some k → N ≤ k ∧ k < w.heap.size := h.1.lt
theorem OW.below {w w' : World} {N : Nat} {v : Value} {ts : List ET} (h : OW w N v ts) (hb : Below w.heap.size w w') : OW w' N v ts :=
  ⟨own_belowE h.1 hb, fun t ht => (h.2 t ht).imp (Nat.le_refl _) fun b _ hl hv => ⟨hb.block b hl, hv⟩⟩
theorem OW.set {w : World} {N : Nat} {v : Value} {ts : List ET} (h : OW w N v ts) {a : Addr} (ha : a.block < N) (u : Value) : OW (w.setCell a u) N v ts :=
  ⟨ownsRow_setCell_below h.1 ha u, fun t ht => (h.2 t ht).imp (Nat.le_refl _) fun b hN hl hv => ⟨by simp [World.setCell, Array.getElem?_modify, show a.block ≠ b by omega], hv⟩⟩
theorem OW.slice {w : World} {N : Nat} {v : Value} {ts : List ET} (h : OW w N v ts) : ∃ A c, v = .slice A ts.length c := by
  rcases h.1.2 with ⟨rfl, h0⟩ | ⟨g, cap, cur, rfl, _⟩
  · obtain rfl := List.eq_nil_of_length_eq_zero h0
    exact ⟨none, 0, rfl⟩
  · exact ⟨_, cap, rfl⟩
/-- What an append of an expression leaves. -/
theorem OW.app {w : World} {N : Nat} {v : Value} {ts : List ET} (h : OW w N v ts) (hbase : N ≤ w.heap.size) (x : ET) (hx : NwO N v w x) (hl : ts.length ≤ 1599289640354) :
    ∃ v' w', (Builtin.append_ #[53, 53] 53 #[v, .slice (some ⟨w.heap.size, 0, none⟩) 1 1]).run Tryd.prog (w.alloc (.cells (cs1 x) 55)) = .ok v' w' ∧ OW w' N v' (ts ++ [x]) ∧ Below N w w' := by
  obtain ⟨h2, h3⟩ := h
  obtain ⟨i0, hi, hz0, hz1, hz2⟩ := info_parts6 rinfo_expr
  obtain ⟨W, hW⟩ : ∃ W, W = w.alloc (.cells (cs1 x) 55) := ⟨_, rfl⟩
  have hWz : W.heap.size = w.heap.size + 1 := by rw [hW]; simp
  have bw : Below w.heap.size w W := by rw [hW]; exact step1 _ _
  have hq : Has W w.heap.size 55 (cs1 x) := by rw [hW]; exact has_at rfl rfl
  rw [← hW]
  have h2W := own_belowE h2 bw
  obtain ⟨v', w', r1, r2, r3, _, r4⟩ := run_append_own_at (P := Tryd.prog) W N 53 53 55 i0 (.agg #[.int .i64 0, .string { data := #[] }, .int .i64 0, .string { data := #[] }, .string { data := #[] }, .slice none 0 0]) 6 88 Tryd.underlying53 hi hz0 hz1 hz2 rfl (by omega) v ts.length (kcells ts) h2W
    ⟨w.heap.size, 0, none⟩ 1 1 (ec x) rfl (fun j u hu => by
      rw [Go.WideShapes.add_plain, Nat.zero_add, hq.cell j]
      simpa [ec, cs1] using hu) (by intro u hu; simp [ec] at hu; rcases hu with rfl | rfl | rfl | rfl | rfl | rfl <;> rfl) (by unfold maxLen; omega) (by omega) (by omega)
  have keep : ∀ y : ET, NwO N v w y → NwO N v' w' y := fun y hy => hy.imp (Nat.le_refl _) fun b hNb hlt hv => by
    refine ⟨(r3.block b (by omega) (fun e => hv e.symm)).trans (bw.block b hlt), ?_⟩
    rcases r4 with e | e
    · rw [e]; exact hv
    · rw [e]
      intro e2
      have := Option.some.inj e2
      omega
  refine ⟨v', w', r1, ⟨by rw [kcells_snoc]; simpa using r2, fun y hy => ?_⟩, (bw.mono hbase).grown r3 (by omega) (fun j hj => (h2.lt j hj).1)⟩
  rcases List.mem_append.1 hy with hy | hy
  · exact keep y (h3 y hy)
  · simp at hy
    subst hy
    exact keep y hx
/-- The expression whose Kids are these. -/
theorem OW.tree {w : World} {N : Nat} {v : Value} {ts : List ET} (h : OW w N v ts) (k n : Int) (op v1 f : Nm) (hok : -9223372036854775808 ≤ n ∧ n ≤ 9223372036854775807 ∧ op.length ≤ 140737488355328 ∧ v1.length ≤ 140737488355328 ∧ f.length ≤ 140737488355328) :
    ∃ A c, v = .slice A ts.length c ∧ Nw N w (.mk k op n v1 f A c ts) := by
  rcases h.1.2 with ⟨rfl, h0⟩ | ⟨g, cap, cur, rfl, hg, hh, hn, hm, _, _⟩
  · obtain rfl := List.eq_nil_of_length_eq_zero h0
    exact ⟨none, 0, rfl, .of ⟨hok.1, hok.2.1, hok.2.2.1, hok.2.2.2.1, hok.2.2.2.2, fun _ => rfl, Nat.le_refl _, Nat.zero_le _⟩ fun j hj => absurd hj (by simp)⟩
  · refine ⟨_, cap, rfl, .of ⟨hok.1, hok.2.1, hok.2.2.1, hok.2.2.2.1, hok.2.2.2.2, (fun h => by cases h), hn, hm⟩ fun j hj => ⟨?_, (h.2 _ (List.getElem_mem _)).nw (Nat.le_refl _)⟩⟩
    have gx : ∀ r u, r < 6 → (ec ts[j])[r]? = some u → (hidL N w).cell? ⟨g, 0 + (j * 6 + r), none⟩ = some u := fun r u hr hu => by
      have := h.1.cells (g := g) rfl (j * 6 + r) u ((kcells_get (List.getElem?_eq_getElem hj) hr).trans hu)
      rw [Go.WideShapes.add_plain] at this
      rw [cell_block (hidL_block w hg)]
      exact this
    exact ⟨g, 0, rfl, gx 0 _ (by omega) rfl, gx 1 _ (by omega) rfl, gx 2 _ (by omega) rfl, gx 3 _ (by omega) rfl, gx 4 _ (by omega) rfl, gx 5 _ (by omega) rfl⟩
theorem erL_map (ks : List ET) : erL ks = ks.map ET.er := by
  induction ks with
  | nil => rw [erL_nil]; rfl
  | cons t ts ih => rw [erL_cons, ih]; rfl
end Go.Proofs.YtbhjimlikffalaaDoor
/- An expression as the reference's: refExpr. -/
namespace Go.Proofs.YtbhjimlikffalaaDoor
open Go.RowKit
set_option linter.unusedVariables false

set_option maxRecDepth 100000 in
set_option maxHeartbeats 16000000 in
theorem refExpr_any : ∀ (t : ET) (w : World), t.In w → Kl t → Calls Tryd.prog 31 #[t.val] w fun e w' => ∃ t' : ET, e = .returned (.agg (cs1 t')) ∧ t'.er = t.er ∧ Nw w.heap.size w' t' ∧ Below w.heap.size w w' := by
  refine ET.ind fun k op n v f A c ks ih w hin hkl => ?_
  have hok := hin.ok
  have hcap : ks.length ≤ 9223372036854775807 := by have := hok.2.2.2.2.2.2; unfold maxLen at this; omega
  have hls := hkl.len
  have HKL := Lib.hid hkl.kids
  clear hkl
  obtain ⟨Wa, hWa⟩ : ∃ W, w.alloc (.cells #[.int .i64 k, .string (str op), .int .i64 n, .string (str v), .string (str f), .slice A ks.length c] 24) = W := ⟨_, rfl⟩
  obtain ⟨Wb, hWb⟩ : ∃ W, Wa.alloc (.cells zer 55) = W := ⟨_, rfl⟩
  obtain ⟨W, hW⟩ : ∃ W, Wb.alloc (.cells #[.int .i64 k, .string (str op), .int .i64 n, .string (str v), .string (str f), .slice none 0 0] 55) = W := ⟨_, rfl⟩
  have za : Wa.heap.size = w.heap.size + 1 := by rw [← hWa]; simp
  have zb : Wb.heap.size = w.heap.size + 2 := by rw [← hWb]; simp [za]
  have zw : W.heap.size = w.heap.size + 3 := by rw [← hW]; simp [zb]
  have sa : Below w.heap.size w Wa := by rw [← hWa]; exact step1 _ _
  have sb : Below Wa.heap.size Wa Wb := by rw [← hWb]; exact step1 _ _
  have sc : Below Wb.heap.size Wb W := by rw [← hW]; exact step1 _ _
  have hx0 : Has Wa w.heap.size 24 #[.int .i64 k, .string (str op), .int .i64 n, .string (str v), .string (str f), .slice A ks.length c] := by rw [← hWa]; exact has_at rfl rfl
  have hz0 : Has Wb (w.heap.size + 1) 55 zer := by rw [← hWb]; exact has_at rfl za.symm
  have hr0 : Has W (w.heap.size + 2) 55 #[.int .i64 k, .string (str op), .int .i64 n, .string (str v), .string (str f), .slice none 0 0] := by rw [← hW]; exact has_at rfl zb.symm
  have hx1 := (hx0.below sb hx0.lt).below sc (by omega)
  have hz1 := hz0.below sc hz0.lt
  have bW : Below w.heap.size w W := (sa.trans (sb.mono (by omega))).trans (sc.mono (by omega))
  obtain ⟨a0, a1, a2, a3, a4, a5⟩ := six_has hx0
  have s1' := six_has (hx0.below sb hx0.lt)
  obtain ⟨f0, f1, f2, f3, f4, f5⟩ := s1'
  obtain ⟨z0, z1, z2, z3, z4, z5⟩ := six_free hr0
  obtain ⟨y0, y1, y2, y3, y4, y5⟩ : six W (w.heap.size + 2) k op n v f none 0 0 := six_has hr0
  obtain ⟨V, hV⟩ : ∃ V, W.setCell ⟨w.heap.size + 2, 5, none⟩ (.slice none 0 0) = V := ⟨_, rfl⟩
  have fV : FrP (w.heap.size + 2) W V := by rw [← hV]; exact FrP.set hr0.lt 5 _
  have bV : Below w.heap.size w V := by rw [← hV]; exact bW.setCell (p := ⟨w.heap.size + 2, 5, none⟩) (by simp) _
  have hrV : Has V (w.heap.size + 2) 55 #[.int .i64 k, .string (str op), .int .i64 n, .string (str v), .string (str f), .slice none 0 0] := by rw [← hV]; exact hr0.put 5 _
  have zV : V.heap.size = w.heap.size + 3 := by rw [← hV, ← zw]; simp [World.setCell]
  have HB := Lib.hid bV
  have HI := Lib.hid ih
  have HK := Lib.hid hin
  have HX := Lib.hid (fV.has hx1 (by omega))
  have HZ := Lib.hid (fV.has hz1 (by omega))
  have HR := Lib.hid hrV
  have HZW := Lib.hid zV
  have HOK := Lib.hid hok
  clear sa sb sc hx0 hz0 hr0 hx1 hz1 bW hin ih hok fV bV hrV zV
  show Calls _ _ #[ex k op n v f A ks.length c] _ _
  unfold ex
  go_enter Tryd.func31, Tryd.ntmps31
  go_wp2_with fail
  clear a0 a1 a2 a3 a4 a5 f0 f1 f2 f3 f4 f5 z0 z1 z2 z3 z4 z5 y0 y1 y2 y3 y4 y5 hWa hWb hW hV
  go_loopw [4] (fun i wr => ∃ (j : Nat) (u : Value) (ts : List ET), j ≤ ks.length ∧ i = .int .i64 j ∧ ts.map ET.er = (ks.take j).map ET.er ∧ OW wr (w.heap.size + 3) u ts ∧ Has wr (w.heap.size + 2) 55 #[.int .i64 k, .string (str op), .int .i64 n, .string (str v), .string (str f), u]
      ∧ Has wr w.heap.size 24 #[.int .i64 k, .string (str op), .int .i64 n, .string (str v), .string (str f), .slice A ks.length c] ∧ Has wr (w.heap.size + 1) 55 zer ∧ Below w.heap.size w wr ∧ w.heap.size + 3 ≤ wr.heap.size) (fun i _ => ks.length - (intOf i).toNat)
  case atStart => exact ⟨0, _, [], Nat.zero_le _, rfl, rfl, OW.nil _ _, HR.out, HX.out, HZ.out, HB.out, by rw [HZW.out]; exact Nat.le_refl _⟩
  case round =>
    obtain ⟨j, u, ts, hj, rfl, her, hO, hr, hx, hz, hb, hn⟩ := hrel
    have htl : ts.length = j := by
      have := congrArg List.length her
      simp only [List.length_map, List.length_take] at this
      omega
    have c5 : wr.cell? ⟨w.heap.size, 5, none⟩ = some (.slice A ks.length c) := hx.cell 5
    have d5 : wr.cell? ⟨w.heap.size + 2, 5, none⟩ = some u := hr.cell 5
    by_cases hlt : j < ks.length
    · obtain ⟨⟨b', off, rfl, g0, g1, g2, g3, g4, g5⟩, hkin⟩ := (HK.out.kids j hlt).imp (fun h => h) (fun h => h.below hb)
      have hbl : b' < w.heap.size := World.block_lt_of_cell? _ _ g0
      obtain ⟨x, hxx⟩ : ∃ x, ks[j] = x := ⟨_, rfl⟩
      have hmem : x ∈ ks := by rw [← hxx]; exact List.getElem_mem _
      rw [hxx] at g0 g1 g2 g3 g4 g5 hkin
      have cl0 : ∀ {i : Nat} {v : Value}, w.cell? ⟨b', i, none⟩ = some v → wr.cell? ⟨b', i, none⟩ = some v := fun h => (hb.cell (World.block_lt_of_cell? _ _ h)).trans h
      replace g0 := cl0 g0
      replace g1 := cl0 g1
      replace g2 := cl0 g2
      replace g3 := cl0 g3
      replace g4 := cl0 g4
      replace g5 := cl0 g5
      have S0 := Lib.hid (And.intro d5 (And.intro c5 (And.intro g0 (And.intro g1 (And.intro g2 (And.intro g3 (And.intro g4 g5)))))))
      have bd : Below wr.heap.size wr wr.drew := (Below.refl _ _).drew
      have hcl := HI.out x hmem wr.drew (hkin.below bd) (HKL.out x hmem)
      rw [show x.val = Value.agg #[.int .i64 x.k, .string (str x.op), .int .i64 x.n, .string (str x.v), .string (str x.f), .slice x.A x.ks.length x.c] from rfl] at hcl
      have HC := Lib.hid hcl
      have HE := Lib.hid her
      have HO := Lib.hid hO
      have Hr := Lib.hid hr
      have Hx := Lib.hid hx
      have Hz := Lib.hid hz
      have Hb := Lib.hid hb
      have Hbl := Lib.hid hbl
      have Hn := Lib.hid hn
      have HXX := Lib.hid hxx
      have HTL := Lib.hid htl
      clear hcl her hO hr hx hz hb hn hkin hxx htl bd hmem hbl cl0
      go_wp2_with fail
      go_region_law (first
          | (refine step_app (R := fun x y => .slice A' (ts ++ [t']).length c' = x ∧ w7 = y) ⟨.slice A' (ts ++ [t']).length c', w7, HRUN.out, rfl, rfl⟩ rfl rfl rfl (by simp [Act.eval]) (by simp [Act.eval]) ?_; rintro _ _ ⟨rfl, rfl⟩)
          | (go_simp; go_at_call 31; refine HC.out.mono ?_; rintro e w5 ⟨t', rfl, er', nw', b5⟩; simp only [cs1]
             have b5' : Below wr.heap.size wr w5 := (Below.refl wr.heap.size wr).drew.trans b5
             have cl : ∀ {p : Addr} {v : Value}, wr.cell? p = some v → w5.cell? p = some v := fun h => (b5'.cell (World.block_lt_of_cell? _ _ h)).trans h
             have S5 := Lib.hid (And.intro (cl d5) (And.intro (cl c5) (And.intro (cl g0) (And.intro (cl g1) (And.intro (cl g2) (And.intro (cl g3) (And.intro (cl g4) (cl g5))))))))
             have s6 := step1 w5 (.cells (cs1 t') 55)
             have cl6 : ∀ {p : Addr} {v : Value}, w5.cell? p = some v → (w5.alloc (.cells (cs1 t') 55)).cell? p = some v := fun h => (s6.cell (World.block_lt_of_cell? _ _ h)).trans h
             have S6 := Lib.hid (And.intro (cl6 S5.out.1) (And.intro (cl6 S5.out.2.1) (And.intro (cl6 S5.out.2.2.1) (And.intro (cl6 S5.out.2.2.2.1) (And.intro (cl6 S5.out.2.2.2.2.1) (And.intro (cl6 S5.out.2.2.2.2.2.1) (And.intro (cl6 S5.out.2.2.2.2.2.2.1) (cl6 S5.out.2.2.2.2.2.2.2))))))))
             have d5' : w5.cell? ⟨w.heap.size + 2, 5, none⟩ = some u := S5.out.1
             have d6' : (w5.alloc (.cells #[.int .i64 t'.k, .string (str t'.op), .int .i64 t'.n, .string (str t'.v), .string (str t'.f), .slice t'.A t'.ks.length t'.c] 55)).cell? ⟨w.heap.size + 2, 5, none⟩ = some u := S6.out.1
             obtain ⟨v', w7, hrun, hO7, b7⟩ := (HO.out.below b5').app (Nat.le_trans Hn.out b5'.size) t' (nw'.own (by exact Hn.out) fun g hg => (HO.out.lt g hg).2) (by have := HTL.out; omega)
             obtain ⟨A', c', hv'⟩ := hO7.slice
             subst hv'
             have b57 : Below (w.heap.size + 3) wr w7 := (b5'.mono Hn.out).trans b7
             have hr7 := Hr.out.below b57 (by omega)
             have cl7 : ∀ {p : Addr} {v : Value}, p.block < w.heap.size + 3 → wr.cell? p = some v → w7.cell? p = some v := fun hp h => (b57.cell hp).trans h
             have hbb := Hbl.out
             have d7' : w7.cell? ⟨w.heap.size + 2, 5, none⟩ = some u := cl7 (by simp) S0.out.1
             have S7 := Lib.hid (And.intro d7' (And.intro (cl7 (by simp) S0.out.2.1) (And.intro (cl7 (by simp; omega) S0.out.2.2.1) (And.intro (cl7 (by simp; omega) S0.out.2.2.2.1) (And.intro (cl7 (by simp; omega) S0.out.2.2.2.2.1) (And.intro (cl7 (by simp; omega) S0.out.2.2.2.2.2.1) (And.intro (cl7 (by simp; omega) S0.out.2.2.2.2.2.2.1) (cl7 (by simp; omega) S0.out.2.2.2.2.2.2.2))))))))
             have d7 : w7.cell? ⟨w.heap.size + 2, 5, none⟩ = some u := hr7.cell 5
             have f7 : w7.frozen? ⟨w.heap.size + 2, 5, none⟩ = false := hr7.free 5
             have HRUN := Lib.hid hrun
             have HO7 := Lib.hid (And.intro hO7 (And.intro er' b57))
             clear hrun hO7 b7 b57 hr7 er' nw' b5 b5' cl cl6 s6 cl7 d7' hbb))
      all_goals
        go_wp2_with fail
        go_roundw
        case rel =>
          have b57 := HO7.out.2.2
          have hr7 := Hr.out.below b57 (by omega)
          have hO8 := HO7.out.1
          rw [show (ts ++ [t']).length = ts.length + 1 by simp] at hO8
          have hx7 := Hx.out.below b57 (by omega)
          have hz7 := Hz.out.below b57 (by omega)
          refine ⟨j + 1, .slice A' (ts.length + 1) c', ts ++ [t'], by omega, by go_num, ?_, hO8.set (by simp) _, hr7.put 5 _, (FrP.set hr7.lt 5 _).has hx7 (by omega), (FrP.set hr7.lt 5 _).has hz7 (by omega), (Hb.out.trans (b57.mono (by omega))).setCell (p := ⟨w.heap.size + 2, 5, none⟩) (by simp) _, ?_⟩
          · rw [List.take_succ_eq_append_getElem hlt, List.map_append, List.map_append, HE.out, HXX.out]
            simp [HO7.out.2.1]
          · have := b57.size
            have := Hn.out
            simp [World.setCell]
            omega
        case measure => simp [intOf]; omega
    · have hjl : ¬ (j : Int) < ks.length := by omega
      have hks : ks.take j = ks := List.take_of_length_le (by omega)
      rw [hks] at her
      obtain ⟨A', c', hu, hT⟩ := hO.tree k n op v f ⟨HOK.out.1, HOK.out.2.1, HOK.out.2.2.1, HOK.out.2.2.2.1, HOK.out.2.2.2.2.1⟩
      subst hu
      have hbb := hb.trans ((set6_below (w := wr) (q := w.heap.size + 1) (B := w.heap.size) (by omega) (.int .i64 k) (.string (str op)) (.int .i64 n) (.string (str v)) (.string (str f)) (.slice A' ts.length c')))
      have hTT := hT.set (N' := w.heap.size) (q := w.heap.size + 1) (by omega) (by omega) (.int .i64 k) (.string (str op)) (.int .i64 n) (.string (str v)) (.string (str f)) (.slice A' ts.length c')
      have hxx := set6_has hz (.int .i64 k) (.string (str op)) (.int .i64 n) (.string (str v)) (.string (str f)) (.slice A' ts.length c')
      have HX2 := Lib.hid (And.intro hxx (And.intro hbb hTT))
      have HE := Lib.hid her
      obtain ⟨r0, r1, r2, r3, r4, r5⟩ := six_has hr
      obtain ⟨z0, z1, z2, z3, z4, z5⟩ := zer_six hz
      obtain ⟨f0, f1, f2, f3, f4, f5⟩ := six_free hz
      clear hxx hbb hTT hT her hO hr hx hz hb hn d5 htl hks HB HI HK HX HZ HR HZW HOK
      go_wp2_with fail
      rw [set6_fold]
      clear r0 r1 r2 r3 r4 r5 z0 z1 z2 z3 z4 z5 f0 f1 f2 f3 f4 f5 c5
      generalize set6 wr (w.heap.size + 1) (.int .i64 k) (.string (str op)) (.int .i64 n) (.string (str v)) (.string (str f)) (.slice A' ts.length c') = X at HX2 ⊢
      have y0 : X.cell? ⟨w.heap.size + 1, 0, none⟩ = some (.int .i64 k) := HX2.out.1.cell 0
      have y1 : X.cell? ⟨w.heap.size + 1, 1, none⟩ = some (.string (str op)) := HX2.out.1.cell 1
      have y2 : X.cell? ⟨w.heap.size + 1, 2, none⟩ = some (.int .i64 n) := HX2.out.1.cell 2
      have y3 : X.cell? ⟨w.heap.size + 1, 3, none⟩ = some (.string (str v)) := HX2.out.1.cell 3
      have y4 : X.cell? ⟨w.heap.size + 1, 4, none⟩ = some (.string (str f)) := HX2.out.1.cell 4
      have y5 : X.cell? ⟨w.heap.size + 1, 5, none⟩ = some (.slice A' ts.length c') := HX2.out.1.cell 5
      refine bodyPost_ret (v := .agg (cs1 (.mk k op n v f A' c' ts))) (by simp [results, Tryd.results31, go_sem, y0, y1, y2, y3, y4, y5, ET.k, ET.op, ET.n, ET.v, ET.f, ET.A, ET.c, ET.ks]) rfl ?_
      exact ⟨_, rfl, by rw [er_mk, er_mk, erL_map, erL_map, HE.out], HX2.out.2.2, HX2.out.2.1⟩
end Go.Proofs.YtbhjimlikffalaaDoor
/- The reference's binds: an own slice of them. -/
namespace Go.Proofs.YtbhjimlikffalaaDoor
open Go.RowKit
set_option linter.unusedVariables false

def BWr (w : World) (base : Nat) (v : Value) (l : List Bd) : Prop := w.ownsRow base 83 3 v l.length (bdcells l) ∧ ∀ x ∈ l, (Strs w x.A x.c x.fs ∧ Nums w x.B x.d x.vs) ∧ Apart v x
theorem BWr.nil (w : World) (base : Nat) : BWr w base (.slice none 0 0) [] := ⟨World.ownsRow_nil w base _ 3, fun x hx => by cases hx⟩
theorem BWr.below {w w' : World} {base : Nat} {v : Value} {l : List Bd} (h : BWr w base v l) (hb : Below w.heap.size w w') : BWr w' base v l :=
  ⟨own_below3 h.1 hb, fun x hx => ⟨⟨(h.2 x hx).1.1.below hb, (h.2 x hx).1.2.below hb⟩, (h.2 x hx).2⟩⟩
theorem BWr.lt {w : World} {base : Nat} {v : Value} {l : List Bd} (h : BWr w base v l) : ∀ k, v.ownBlock = some k → base ≤ k ∧ k < w.heap.size := h.1.lt
theorem BWr.shape {w : World} {base : Nat} {v : Value} {l : List Bd} (h : BWr w base v l) : ∃ A c, v = .slice A l.length c ∧ Bds w A c l := by
  obtain ⟨h2, h3⟩ := h
  have h2' := h2
  rcases h2.2 with ⟨rfl, h0⟩ | ⟨g, cap, cur, rfl, _, hh, hn, hm, _, _⟩
  · have hz : l = [] := by simpa using h0
    subst hz
    exact ⟨none, 0, rfl, Bds.nil w⟩
  · refine ⟨_, cap, rfl, fun i x hx => ?_, (fun h => by cases h), hn, hm⟩
    obtain ⟨c0, c1, c2⟩ := bdcells_get hx
    have g0 := h2'.cells (g := g) rfl (i * 3) _ c0
    have g1 := h2'.cells (g := g) rfl (i * 3 + 1) _ c1
    have g2 := h2'.cells (g := g) rfl (i * 3 + 2) _ c2
    rw [Go.WideShapes.add_plain] at g0 g1 g2
    have hx' := h3 x (List.mem_of_getElem? hx)
    exact ⟨⟨g, 0, rfl, g0, by simpa [Nat.add_assoc] using g1, by simpa [Nat.add_assoc] using g2⟩, hx'.1.1, hx'.1.2⟩
theorem rinfo_bind : (Tryd.prog.info? 83).map (fun i => (i.zero, i.size, i.bytes)) = some (some (.agg #[.string { data := #[] }, .slice none 0 0, .slice none 0 0]), 3, 64) := by kernel_rfl
theorem rblies (w : World) (x : Bd) : ∀ j u, (bc x)[j]? = some u → (w.alloc (.cells (bc1 x) 83)).cell? ((⟨w.heap.size, 0, none⟩ : Addr).add j) = some u := by
  intro j u hu
  rw [Go.WideShapes.add_plain, Nat.zero_add, cell_of_row _ w.heap.size j _ 83 (0, 0) (heap_alloc_new w _)]
  simpa [bc] using hu
/-- What an append of a Bind leaves. -/
theorem BWr.app {w : World} {base : Nat} {v : Value} {l : List Bd} (h : BWr w base v l) (hbase : base ≤ w.heap.size) (x : Bd) (hs : Strs w x.A x.c x.fs) (hn : Nums w x.B x.d x.vs) (ha : Apart v x) (hl : l.length ≤ 1000000000) :
    ∃ v' w', (Builtin.append_ #[47, 47] 47 #[v, .slice (some ⟨w.heap.size, 0, none⟩) 1 1]).run Tryd.prog (w.alloc (.cells (bc1 x) 83)) = .ok v' w' ∧ BWr w' base v' (l ++ [x]) ∧ Below base w w' := by
  obtain ⟨h2, h3⟩ := h
  obtain ⟨i0, hi, hz0, hz1, hz2⟩ := info_parts rinfo_bind
  obtain ⟨W, hW⟩ : ∃ W, W = w.alloc (.cells (bc1 x) 83) := ⟨_, rfl⟩
  have hWz : W.heap.size = w.heap.size + 1 := by rw [hW]; simp
  have bw : Below w.heap.size w W := by rw [hW]; exact (Below.refl _ _).alloc (Nat.le_refl _) _
  have hlie := rblies w x
  rw [← hW] at hlie ⊢
  have h2W := own_below3 h2 bw
  obtain ⟨v', w', r1, r2, r3, _, r4⟩ := run_append_own_at (P := Tryd.prog) W base 47 47 83 i0 (.agg #[.string { data := #[] }, .slice none 0 0, .slice none 0 0]) 3 64 Tryd.underlying47 hi hz0 hz1 hz2 rfl (by omega) v l.length (bdcells l) h2W
    ⟨w.heap.size, 0, none⟩ 1 1 (bc x) rfl hlie (by intro u hu; simp [bc] at hu; rcases hu with rfl | rfl | rfl <;> rfl) (by unfold maxLen; omega) (by omega) (by omega)
  have keep : ∀ y : Bd, (Strs w y.A y.c y.fs ∧ Nums w y.B y.d y.vs) → Apart v y → (Strs w' y.A y.c y.fs ∧ Nums w' y.B y.d y.vs) ∧ Apart v' y := by
    intro y hy hap
    have k1 := apart_keep bw hWz r3 r4 hy.1.1 (by rw [List.length_map]; exact hap.1)
    have k2 := apart_keep bw hWz r3 r4 hy.2.1 (by rw [List.length_map]; exact hap.2)
    rw [List.length_map] at k1 k2
    exact ⟨⟨⟨k1.1, hy.1.2⟩, ⟨k2.1, hy.2.2⟩⟩, k1.2, k2.2⟩
  refine ⟨v', w', r1, ⟨by rw [bdcells_snoc]; simpa using r2, fun y hy => ?_⟩, (bw.mono hbase).grown r3 (by omega) (fun j hj => (h2.lt j hj).1)⟩
  rcases List.mem_append.1 hy with hy | hy
  · exact keep y (h3 y hy).1 (h3 y hy).2
  · simp at hy
    subst hy
    exact keep y ⟨hs, hn⟩ ha
end Go.Proofs.YtbhjimlikffalaaDoor
/- What is bound, as the reference's: refBinds. -/
namespace Go.Proofs.YtbhjimlikffalaaDoor
open Go.RowKit
set_option linter.unusedVariables false

set_option maxHeartbeats 4000000 in
set_option maxRecDepth 100000 in
theorem refBinds_any (l : List Bd) (A : Option Addr) (c : Nat) (w : World) (h : Bds w A c l) (hl : l.length ≤ 1000) :
    Calls Tryd.prog 18 #[.slice A l.length c] w fun e w' => ∃ A' c', e = .returned (.slice A' l.length c') ∧ Bds w' A' c' l ∧ Below w.heap.size w w' := by
  have hcap := h.cap
  have H := Lib.hid h
  clear h
  go_enter Tryd.func18, Tryd.ntmps18
  go_wp2_with fail
  go_loopw [3, 4] (fun v i wr => ∃ j : Nat, j ≤ l.length ∧ i = .int .i64 j ∧ BWr wr w.heap.size v (l.take j) ∧ Below w.heap.size w wr) (fun _ i _ => l.length - (intOf i).toNat)
  case atStart => exact ⟨0, Nat.zero_le _, rfl, BWr.nil w _, Below.refl _ _⟩
  case round =>
    rename World => wr
    obtain ⟨j, hj, rfl, hK, br⟩ := hrel
    by_cases hlt : j < l.length
    · obtain ⟨⟨b, off, rfl, g0', g1', g2'⟩, hs', hn'⟩ := H.out.1 j l[j] (List.getElem?_eq_getElem hlt)
      obtain ⟨x, hx⟩ : ∃ x, l[j] = x := ⟨_, rfl⟩
      rw [hx] at g0' g1' g2' hs' hn'
      have g0 := (br.cell (World.block_lt_of_cell? _ _ g0')).trans g0'
      have g1 := (br.cell (World.block_lt_of_cell? _ _ g1')).trans g1'
      have g2 := (br.cell (World.block_lt_of_cell? _ _ g2')).trans g2'
      have hlK := hK.lt
      have bd : Below wr.heap.size wr wr.drew := (Below.refl _ _).drew
      obtain ⟨v', w4, hrun, hK4, b4⟩ := (hK.below bd).app (w := wr.drew) br.size x ((hs'.below br).below bd) ((hn'.below br).below bd) ⟨fun h0 a ha e => by
        have h1 := (hlK _ e).1
        obtain ⟨fb, foff, e5, hc⟩ := hs'.shape h0
        have hlt := World.block_lt_of_cell? _ _ (hc 0 h0)
        rw [ha] at e5
        cases e5
        simp only at *
        omega, fun h0 a ha e => by
        have h1 := (hlK _ e).1
        obtain ⟨fb, foff, e5, hc⟩ := hn'.at_ h0
        have hlt := World.block_lt_of_cell? _ _ hc
        rw [ha] at e5
        cases e5
        simp only at *
        omega⟩ (by simp; omega)
      have HR := Lib.hid hrun
      have HK4 := Lib.hid hK4
      have B4 := br.drew.trans b4
      have HX := Lib.hid hx
      clear hrun hK4 hlK b4 hs' hn' g0' g1' g2' hx bd
      go_wp2_with fail
      go_region_law (refine step_app (R := fun x y => x = v' ∧ y = w4) ⟨v', w4, HR.out, rfl, rfl⟩ rfl rfl rfl (by simp [Act.eval]) (by simp [Act.eval]) ?_; rintro _ _ ⟨rfl, rfl⟩)
      all_goals
       go_wp2_with fail
       go_roundw
       case rel => exact ⟨j + 1, by omega, by go_num, by rw [List.take_succ_eq_append_getElem hlt, HX.out]; exact HK4.out, B4⟩
       case measure => simp [intOf]; omega
    · have e : l.take j = l := List.take_of_length_le (by omega)
      rw [e] at hK
      obtain ⟨A', c', rfl, hB⟩ := hK.shape
      clear e
      go_wp2_with fail
      go_ret
      exact ⟨A', c', rfl, hB, br⟩
end Go.Proofs.YtbhjimlikffalaaDoor
/- ValueTells without the walk: what is told of an expression is told of it without its places. -/
namespace Go.Proofs.YtbhjimlikffalaaDoor
open Go.RowKit
set_option linter.unusedVariables false

theorem right_eq (k : Int) (op : Nm) (n : Int) (v f : Nm) (A : Option Addr) (c : Nat) (ks : List ET) : rightT (.mk k op n v f A c ks) = (oneB k op n v f ks.length && ks.all rightT) := by
  cases h : ks.all rightT with
  | true => rw [Bool.and_true]; exact right_split k op n v f A c ks fun t ht => List.all_eq_true.1 h t ht
  | false =>
    rw [Bool.and_false]
    cases hr : rightT (.mk k op n v f A c ks) with
    | false => rfl
    | true => rw [List.all_eq_true.2 (right_kids hr)] at h; cases h
theorem all_er : ∀ l : List ET, (∀ t ∈ l, rightT t.er = rightT t) → (l.map ET.er).all rightT = l.all rightT
  | [], _ => rfl
  | t :: ts, h => by rw [List.map_cons, List.all_cons, List.all_cons, h t (by simp), all_er ts fun u hu => h u (by simp [hu])]
theorem right_er : ∀ t : ET, rightT t.er = rightT t := by
  refine ET.ind fun k op n v f A c ks ih => ?_
  rw [er_mk, right_eq, right_eq, erL_map, List.length_map, all_er ks ih]
theorem typL_er (x : Int) : ∀ l : List ET, (∀ t ∈ l, typT t.er = typT t) → typL x (l.map ET.er) = typL x l
  | [], _ => rfl
  | t :: ts, h => by rw [List.map_cons, typL_cons, typL_cons, h t (by simp), typL_er x ts fun u hu => h u (by simp [hu])]
theorem typ_er : ∀ t : ET, typT t.er = typT t := by
  refine ET.ind fun k op n v f A c ks ih => ?_
  rw [er_mk, typT_eq, typT_eq, erL_map, typL_er _ ks ih]
theorem type_er (t : ET) : typeT t.er = typeT t := by unfold typeT; rw [right_er, typ_er]
theorem rk_er (l : List Bd) : ∀ t : ET, rk l t.er = rk l t := by
  refine ET.ind fun k op n v f A c ks ih => ?_
  have e1 : rk1 l (ks.map ET.er) = rk1 l ks := by
    cases ks with
    | nil => rfl
    | cons t ts => rw [List.map_cons, rk1, rk1, ih t (by simp)]
  have e3 : ∀ ts : List ET, (∀ t ∈ ts, rk l t.er = rk l t) → rk3 l (ts.map ET.er) = rk3 l ts := by
    intro ts h
    cases ts with
    | nil => rfl
    | cons t ts => rw [List.map_cons, rk3, rk3, h t (by simp)]
  have e2 : rk2 l op (ks.map ET.er) = rk2 l op ks := by
    cases ks with
    | nil => rfl
    | cons t ts => rw [List.map_cons, rk2, rk2, ih t (by simp), e3 ts fun u hu => ih u (by simp [hu])]
  rw [er_mk, erL_map, rk, rk, e1, e2]
theorem ev_er (l : List Bd) (t : ET) : evV l t.er = evV l t := by unfold evV; rw [type_er, rk_er]
theorem ev_same {l : List Bd} {t t' : ET} (h : t'.er = t.er) : evV l t' = evV l t := by rw [← ev_er l t', h, ev_er]
theorem holds_same {l : List Bd} {t t' : ET} (h : t'.er = t.er) : holdsV l t' = holdsV l t := by
  unfold holdsV
  rw [ev_same h, ← type_er t', h, type_er]
/-- The reader's truth, three deep. -/
theorem call3 {N : Nat} {x : Option Addr} {len cap : Nat} {W : World} {zs : List Int} (h : Rdr N x len cap W) (hr : IsRow .u8 W x len cap zs) (hz : ∀ n ∈ zs, 0 ≤ n ∧ n ≤ 255) (hx : ∀ a, x = some a → 0 < len → a.block < N) :
    Calls Tryd.prog 16 #[.pointer (some ⟨N + 2, 0, none⟩), .string { data := #[99] }, .string { data := #[67] }, .int .i64 3] W fun e w' => ∃ t : ET, e = .returned (.agg (cs1 t)) ∧ t.size ≤ 63 ∧ Nw W.heap.size w' t ∧ FrP (N + 2) W w' := by
  obtain ⟨hC, hF⟩ := h.start hr hz hx
  obtain ⟨T0, i2, htr⟩ := tru_at3 hC (N + 2) 0
  refine (htr W hF).mono ?_
  rintro e w' ⟨t, he, -, hg, hn, -, hf⟩
  exact ⟨t, he, hg.2.2, hn, hf⟩
/-- The field that is looked for. -/
def fldL : List Nm := [[107], [120], [121], []]
theorem fld_at : ∀ j, j < 4 → ∃ s, fldL[j]? = some s := by
  intro j hj
  match j, hj with
  | 0, _ => exact ⟨_, rfl⟩
  | 1, _ => exact ⟨_, rfl⟩
  | 2, _ => exact ⟨_, rfl⟩
  | 3, _ => exact ⟨_, rfl⟩
end Go.Proofs.YtbhjimlikffalaaDoor
