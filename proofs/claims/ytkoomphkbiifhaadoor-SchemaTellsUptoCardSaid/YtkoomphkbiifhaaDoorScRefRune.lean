/- The reference's rune: what it tells is what is decoded. -/
import Derived.Test.YtkoomphkbiifhaaDoorScRefA
import Derived.Test.YtkoomphkbiifhaaDoorScRunes
namespace Go.Proofs.YtkoomphkbiifhaaDoor
open Go.RowKit
set_option linter.unusedVariables false

/-- The rune that a text begins with, and how many bytes it has; 0 and 0, if there is none that is right. -/
def runeR (l : Nm) : Nat × Nat := if l = [] ∨ ((Lib.decodeL l).1 = 65533 ∧ (Lib.decodeL l).2 = 1) then (0, 0) else Lib.decodeL l
theorem str_get (l : Nm) (k : Nat) (h : k < (str l).size) : (str l)[k]'h = l.getD k 0 := by
  have h2 : k < l.length := by rw [← str_size l]; exact h
  simp only [str, ByteArray.getElem_eq_getElem_data, List.getElem_toArray]
  simp [List.getD, h2]
set_option maxHeartbeats 1000000 in
set_option maxRecDepth 100000 in
theorem rune_none (w : World) : Calls Tryd.prog 37 #[.string (str [])] w fun e w' => e = .returned (.tuple #[.int .i64 0, .int .i64 0]) ∧ w = w' := by
  have es : (str ([] : Nm)).toList = [] := str_toList []
  go_enter Tryd.func37, Tryd.ntmps37
  go_wp2_with fail
  go_ret2
  exact ⟨rfl, rfl⟩
set_option maxHeartbeats 1000000 in
set_option maxRecDepth 100000 in
theorem rune_ascii (l : Nm) (w : World) (h : l ≠ []) (hb : (l.getD 0 0).toNat < 128) (hl : l.length ≤ 9223372036854775807) : Calls Tryd.prog 37 #[.string (str l)] w fun e w' => e = .returned (.tuple #[.int .i64 ((l.getD 0 0).toNat : Int), .int .i64 1]) ∧ w = w' := by
  have hz := str_size l
  have hp : 0 < l.length := List.length_pos_iff.2 h
  have es : (str l).toList.isEmpty = false := by rw [str_toList]; simpa using h
  have es2 : ((str l).toList = []) = False := by rw [str_toList]; simpa using h
  have hg : ((str l)[0]'(by omega)).toNat = (l.getD 0 0).toNat := by rw [str_get]
  generalize (l.getD 0 0).toNat = n0 at *
  go_enter Tryd.func37, Tryd.ntmps37
  go_wp2_with fail
  go_ret2
  exact ⟨rfl, rfl⟩
set_option maxHeartbeats 1000000 in
set_option maxRecDepth 100000 in
theorem rune_lone (l : Nm) (w : World) (h : l ≠ []) (hb : 128 ≤ (l.getD 0 0).toNat ∧ (l.getD 0 0).toNat < 192 ∨ 248 ≤ (l.getD 0 0).toNat) (hl : l.length ≤ 9223372036854775807) : Calls Tryd.prog 37 #[.string (str l)] w fun e w' => e = .returned (.tuple #[.int .i64 0, .int .i64 0]) ∧ w = w' := by
  have hz := str_size l
  have hp : 0 < l.length := List.length_pos_iff.2 h
  have es : (str l).toList.isEmpty = false := by rw [str_toList]; simpa using h
  have es2 : ((str l).toList = []) = False := by rw [str_toList]; simpa using h
  have hg : ((str l)[0]'(by omega)).toNat = (l.getD 0 0).toNat := by rw [str_get]
  have h256 : (l.getD 0 0).toNat < 256 := UInt8.toNat_lt _
  generalize (l.getD 0 0).toNat = n0 at *
  rcases hb with ⟨q1, q2⟩ | q1
  all_goals
    go_enter Tryd.func37, Tryd.ntmps37
    go_wp2_with fail
    go_ret2
    exact ⟨rfl, rfl⟩
/-- The number of k bytes. -/
def vr (lo : Nat) (bs : Nat → Nat) : Nat → Int
  | 0 => 0
  | 1 => (bs 0 : Int) - lo
  | k + 2 => vr lo bs (k + 1) * 64 + (bs (k + 1) : Int) - 128
def okc (bs : Nat → Nat) (k : Nat) : Prop := ∀ j, 1 ≤ j → j < k → 128 ≤ bs j ∧ bs j ≤ 191
theorem vr_succ (lo : Nat) (bs : Nat → Nat) {k : Nat} (h : 1 ≤ k) : vr lo bs (k + 1) = vr lo bs k * 64 + (bs k : Int) - 128 := by
  obtain ⟨m, rfl⟩ : ∃ m, k = m + 1 := ⟨k - 1, by omega⟩
  rfl
theorem vr_bd {lo : Nat} {bs : Nat → Nat} (h0 : lo ≤ bs 0) (h1 : bs 0 < lo + 32) : ∀ {k : Nat}, okc bs k → 1 ≤ k → k ≤ 4 → 0 ≤ vr lo bs k ∧ vr lo bs k ≤ 8388607 := by
  intro k hk k1 k4
  have e1 : vr lo bs 1 = (bs 0 : Int) - lo := rfl
  have e2 : vr lo bs 2 = vr lo bs 1 * 64 + (bs 1 : Int) - 128 := vr_succ lo bs (k := 1) (by omega)
  have e3 : vr lo bs 3 = vr lo bs 2 * 64 + (bs 2 : Int) - 128 := vr_succ lo bs (k := 2) (by omega)
  have e4 : vr lo bs 4 = vr lo bs 3 * 64 + (bs 3 : Int) - 128 := vr_succ lo bs (k := 3) (by omega)
  have c1 := hk 1
  have c2 := hk 2
  have c3 := hk 3
  rcases (by omega : k = 1 ∨ k = 2 ∨ k = 3 ∨ k = 4) with rfl | rfl | rfl | rfl
  · omega
  · have := c1 (by omega) (by omega); omega
  · have := c1 (by omega) (by omega); have := c2 (by omega) (by omega); omega
  · have := c1 (by omega) (by omega); have := c2 (by omega) (by omega); have := c3 (by omega) (by omega); omega
def RunePost (C : Prop) (v n : Int) (w : World) (e : Ending) (w' : World) : Prop := w = w' ∧ (C → e = .returned (.tuple #[.int .i64 v, .int .i64 n])) ∧ (¬ C → e = .returned (.tuple #[.int .i64 0, .int .i64 0]))
/-- Are N bytes a rune, of no fewer than it needs? -/
def RuneC (len N lo least : Nat) (bs : Nat → Nat) : Prop := N ≤ len ∧ okc bs N ∧ (least : Int) ≤ vr lo bs N ∧ vr lo bs N ≤ 1114111 ∧ ¬ (55296 ≤ vr lo bs N ∧ vr lo bs N ≤ 57343)
set_option maxHeartbeats 4000000 in
set_option maxRecDepth 100000 in
theorem rune_multi (l : Nm) (w : World) (N lo least : Nat) (bs : Nat → Nat) (hbs : ∀ j, bs j = (l.getD j 0).toNat) (hc : (N = 2 ∧ lo = 192 ∧ least = 128 ∧ bs 0 < 224) ∨ (N = 3 ∧ lo = 224 ∧ least = 2048 ∧ bs 0 < 240) ∨ (N = 4 ∧ lo = 240 ∧ least = 65536 ∧ bs 0 < 248)) (h : l ≠ []) (h0 : lo ≤ bs 0) (hl : l.length ≤ 9223372036854775807) :
    Calls Tryd.prog 37 #[.string (str l)] w (RunePost (RuneC l.length N lo least bs) (vr lo bs N) N w) := by
  have hz := str_size l
  have hp : 0 < l.length := List.length_pos_iff.2 h
  have es : (str l).toList.isEmpty = false := by rw [str_toList]; simpa using h
  have es2 : ((str l).toList = []) = False := by rw [str_toList]; simpa using h
  have hg0 : ((str l)[0]'(by omega)).toNat = bs 0 := by rw [str_get, hbs]
  have h256 : ∀ j, bs j < 256 := fun j => by rw [hbs]; exact UInt8.toNat_lt _
  have hgk : ∀ j (hj : j < (str l).size), ((str l)[j]'hj).toNat = bs j := fun j hj => by rw [str_get, hbs]
  have HG := Lib.hid hgk
  have H256 := Lib.hid h256
  have hvb : ∀ k, okc bs k → 1 ≤ k → k ≤ 4 → 0 ≤ vr lo bs k ∧ vr lo bs k ≤ 8388607 := fun k => vr_bd h0 (by omega)
  have HV := Lib.hid hvb
  have e1 : vr lo bs 1 = (bs 0 : Int) - lo := rfl
  have HE1 := Lib.hid e1
  clear hgk h256 hbs hvb e1
  have hb0 := H256.out 0
  by_cases hN : N ≤ l.length
  · rcases hc with ⟨rfl, rfl, rfl, h1⟩ | ⟨rfl, rfl, rfl, h1⟩ | ⟨rfl, rfl, rfl, h1⟩
    · go_enter Tryd.func37, Tryd.ntmps37
      go_wp2_with fail
      go_loop [6, 8] (fun r i => ∃ k : Nat, 1 ≤ k ∧ k ≤ 2 ∧ i = .int .i64 k ∧ r = .int .i64 (vr 192 bs k) ∧ okc bs k) (fun _ i => 2 - (intOf i).toNat)
      case atStart => exact ⟨1, by omega, by omega, rfl, by rw [HE1.out]; rfl, fun j _ _ => by omega⟩
      case round =>
        obtain ⟨k, hk1, hk2, rfl, rfl, hok⟩ := hrel
        have hv := HV.out k hok hk1 (by omega)
        obtain ⟨V, hV⟩ : ∃ V, vr 192 bs k = V := ⟨_, rfl⟩
        rw [hV] at hv ⊢
        obtain ⟨v0, v1⟩ := hv
        have HOK := Lib.hid hok
        clear hok
        by_cases hlt : k < 2
        · have gk := HG.out k (by omega)
          have hsu := vr_succ 192 bs hk1
          rw [hV] at hsu
          have HSU := Lib.hid hsu
          clear hsu hV
          have bk := H256.out k
          obtain ⟨nk, hnk⟩ : ∃ nk, bs k = nk := ⟨_, rfl⟩
          rw [hnk] at gk bk
          have HNK := Lib.hid hnk
          clear hnk
          by_cases cc : 128 ≤ nk ∧ nk ≤ 191
          · obtain ⟨cc1, cc2⟩ := cc
            have hok' : okc bs (k + 1) := fun j j1 j2 => by
              by_cases e : j = k
              · subst e; rw [HNK.out]; exact ⟨cc1, cc2⟩
              · exact HOK.out j j1 (by omega)
            have HOK' := Lib.hid hok'
            clear hok'
            go_wp2_with fail
            exact ⟨⟨_, _, _, _, ⟨k + 1, by omega, by omega, by go_num, by rw [HSU.out, HNK.out], HOK'.out⟩, rfl, rfl, rfl, rfl⟩, by simp [intOf]; omega⟩
          · have hno : ¬ RuneC l.length 2 192 128 bs := fun hh => by have := hh.2.1 k hk1 (by omega); rw [HNK.out] at this; omega
            have HNO := Lib.hid hno
            clear hno
            by_cases cc2 : nk < 128
            · go_wp2_with fail
              go_ret2
              exact ⟨rfl, fun c => absurd c HNO.out, fun _ => rfl⟩
            · have cc3 : 191 < nk := by omega
              go_wp2_with fail
              go_ret2
              exact ⟨rfl, fun c => absurd c HNO.out, fun _ => rfl⟩
        · obtain rfl : k = 2 := by omega
          have HVV := Lib.hid hV
          clear hV
          have hRC : RuneC l.length 2 192 128 bs ↔ 128 ≤ V ∧ V ≤ 1114111 ∧ ¬ (55296 ≤ V ∧ V ≤ 57343) := by
            unfold RuneC
            rw [HVV.out]
            exact ⟨fun c => ⟨by have := c.2.2.1; omega, c.2.2.2⟩, fun c => ⟨hN, HOK.out, by omega, c.2⟩⟩
          have HRC := Lib.hid hRC
          clear hRC
          rw [HVV.out]
          by_cases q1 : V < 128
          · go_wp2_with fail
            go_ret2
            exact ⟨rfl, fun c => by have := HRC.out.1 c; omega, fun _ => rfl⟩
          · by_cases q2 : 1114111 < V
            · go_wp2_with fail
              go_ret2
              exact ⟨rfl, fun c => by have := HRC.out.1 c; omega, fun _ => rfl⟩
            · by_cases q3 : 55296 ≤ V
              · by_cases q4 : V ≤ 57343
                · go_wp2_with fail
                  go_ret2
                  exact ⟨rfl, fun c => by have := HRC.out.1 c; omega, fun _ => rfl⟩
                · go_wp2_with fail
                  go_ret2
                  exact ⟨rfl, fun _ => by rw [HVV.out]; rfl, fun c => absurd (HRC.out.2 (by omega)) c⟩
              · go_wp2_with fail
                go_ret2
                exact ⟨rfl, fun _ => by rw [HVV.out]; rfl, fun c => absurd (HRC.out.2 (by omega)) c⟩
    · go_enter Tryd.func37, Tryd.ntmps37
      go_wp2_with fail
      go_loop [6, 8] (fun r i => ∃ k : Nat, 1 ≤ k ∧ k ≤ 3 ∧ i = .int .i64 k ∧ r = .int .i64 (vr 224 bs k) ∧ okc bs k) (fun _ i => 3 - (intOf i).toNat)
      case atStart => exact ⟨1, by omega, by omega, rfl, by rw [HE1.out]; rfl, fun j _ _ => by omega⟩
      case round =>
        obtain ⟨k, hk1, hk2, rfl, rfl, hok⟩ := hrel
        have hv := HV.out k hok hk1 (by omega)
        obtain ⟨V, hV⟩ : ∃ V, vr 224 bs k = V := ⟨_, rfl⟩
        rw [hV] at hv ⊢
        obtain ⟨v0, v1⟩ := hv
        have HOK := Lib.hid hok
        clear hok
        by_cases hlt : k < 3
        · have gk := HG.out k (by omega)
          have hsu := vr_succ 224 bs hk1
          rw [hV] at hsu
          have HSU := Lib.hid hsu
          clear hsu hV
          have bk := H256.out k
          obtain ⟨nk, hnk⟩ : ∃ nk, bs k = nk := ⟨_, rfl⟩
          rw [hnk] at gk bk
          have HNK := Lib.hid hnk
          clear hnk
          by_cases cc : 128 ≤ nk ∧ nk ≤ 191
          · obtain ⟨cc1, cc2⟩ := cc
            have hok' : okc bs (k + 1) := fun j j1 j2 => by
              by_cases e : j = k
              · subst e; rw [HNK.out]; exact ⟨cc1, cc2⟩
              · exact HOK.out j j1 (by omega)
            have HOK' := Lib.hid hok'
            clear hok'
            go_wp2_with fail
            exact ⟨⟨_, _, _, _, ⟨k + 1, by omega, by omega, by go_num, by rw [HSU.out, HNK.out], HOK'.out⟩, rfl, rfl, rfl, rfl⟩, by simp [intOf]; omega⟩
          · have hno : ¬ RuneC l.length 3 224 2048 bs := fun hh => by have := hh.2.1 k hk1 (by omega); rw [HNK.out] at this; omega
            have HNO := Lib.hid hno
            clear hno
            by_cases cc2 : nk < 128
            · go_wp2_with fail
              go_ret2
              exact ⟨rfl, fun c => absurd c HNO.out, fun _ => rfl⟩
            · have cc3 : 191 < nk := by omega
              go_wp2_with fail
              go_ret2
              exact ⟨rfl, fun c => absurd c HNO.out, fun _ => rfl⟩
        · obtain rfl : k = 3 := by omega
          have HVV := Lib.hid hV
          clear hV
          have hRC : RuneC l.length 3 224 2048 bs ↔ 2048 ≤ V ∧ V ≤ 1114111 ∧ ¬ (55296 ≤ V ∧ V ≤ 57343) := by
            unfold RuneC
            rw [HVV.out]
            exact ⟨fun c => ⟨by have := c.2.2.1; omega, c.2.2.2⟩, fun c => ⟨hN, HOK.out, by omega, c.2⟩⟩
          have HRC := Lib.hid hRC
          clear hRC
          rw [HVV.out]
          by_cases q1 : V < 2048
          · go_wp2_with fail
            go_ret2
            exact ⟨rfl, fun c => by have := HRC.out.1 c; omega, fun _ => rfl⟩
          · by_cases q2 : 1114111 < V
            · go_wp2_with fail
              go_ret2
              exact ⟨rfl, fun c => by have := HRC.out.1 c; omega, fun _ => rfl⟩
            · by_cases q3 : 55296 ≤ V
              · by_cases q4 : V ≤ 57343
                · go_wp2_with fail
                  go_ret2
                  exact ⟨rfl, fun c => by have := HRC.out.1 c; omega, fun _ => rfl⟩
                · go_wp2_with fail
                  go_ret2
                  exact ⟨rfl, fun _ => by rw [HVV.out]; rfl, fun c => absurd (HRC.out.2 (by omega)) c⟩
              · go_wp2_with fail
                go_ret2
                exact ⟨rfl, fun _ => by rw [HVV.out]; rfl, fun c => absurd (HRC.out.2 (by omega)) c⟩
    · go_enter Tryd.func37, Tryd.ntmps37
      go_wp2_with fail
      go_loop [6, 8] (fun r i => ∃ k : Nat, 1 ≤ k ∧ k ≤ 4 ∧ i = .int .i64 k ∧ r = .int .i64 (vr 240 bs k) ∧ okc bs k) (fun _ i => 4 - (intOf i).toNat)
      case atStart => exact ⟨1, by omega, by omega, rfl, by rw [HE1.out]; rfl, fun j _ _ => by omega⟩
      case round =>
        obtain ⟨k, hk1, hk2, rfl, rfl, hok⟩ := hrel
        have hv := HV.out k hok hk1 (by omega)
        obtain ⟨V, hV⟩ : ∃ V, vr 240 bs k = V := ⟨_, rfl⟩
        rw [hV] at hv ⊢
        obtain ⟨v0, v1⟩ := hv
        have HOK := Lib.hid hok
        clear hok
        by_cases hlt : k < 4
        · have gk := HG.out k (by omega)
          have hsu := vr_succ 240 bs hk1
          rw [hV] at hsu
          have HSU := Lib.hid hsu
          clear hsu hV
          have bk := H256.out k
          obtain ⟨nk, hnk⟩ : ∃ nk, bs k = nk := ⟨_, rfl⟩
          rw [hnk] at gk bk
          have HNK := Lib.hid hnk
          clear hnk
          by_cases cc : 128 ≤ nk ∧ nk ≤ 191
          · obtain ⟨cc1, cc2⟩ := cc
            have hok' : okc bs (k + 1) := fun j j1 j2 => by
              by_cases e : j = k
              · subst e; rw [HNK.out]; exact ⟨cc1, cc2⟩
              · exact HOK.out j j1 (by omega)
            have HOK' := Lib.hid hok'
            clear hok'
            go_wp2_with fail
            exact ⟨⟨_, _, _, _, ⟨k + 1, by omega, by omega, by go_num, by rw [HSU.out, HNK.out], HOK'.out⟩, rfl, rfl, rfl, rfl⟩, by simp [intOf]; omega⟩
          · have hno : ¬ RuneC l.length 4 240 65536 bs := fun hh => by have := hh.2.1 k hk1 (by omega); rw [HNK.out] at this; omega
            have HNO := Lib.hid hno
            clear hno
            by_cases cc2 : nk < 128
            · go_wp2_with fail
              go_ret2
              exact ⟨rfl, fun c => absurd c HNO.out, fun _ => rfl⟩
            · have cc3 : 191 < nk := by omega
              go_wp2_with fail
              go_ret2
              exact ⟨rfl, fun c => absurd c HNO.out, fun _ => rfl⟩
        · obtain rfl : k = 4 := by omega
          have HVV := Lib.hid hV
          clear hV
          have hRC : RuneC l.length 4 240 65536 bs ↔ 65536 ≤ V ∧ V ≤ 1114111 ∧ ¬ (55296 ≤ V ∧ V ≤ 57343) := by
            unfold RuneC
            rw [HVV.out]
            exact ⟨fun c => ⟨by have := c.2.2.1; omega, c.2.2.2⟩, fun c => ⟨hN, HOK.out, by omega, c.2⟩⟩
          have HRC := Lib.hid hRC
          clear hRC
          rw [HVV.out]
          by_cases q1 : V < 65536
          · go_wp2_with fail
            go_ret2
            exact ⟨rfl, fun c => by have := HRC.out.1 c; omega, fun _ => rfl⟩
          · by_cases q2 : 1114111 < V
            · go_wp2_with fail
              go_ret2
              exact ⟨rfl, fun c => by have := HRC.out.1 c; omega, fun _ => rfl⟩
            · by_cases q3 : 55296 ≤ V
              · by_cases q4 : V ≤ 57343
                · go_wp2_with fail
                  go_ret2
                  exact ⟨rfl, fun c => by have := HRC.out.1 c; omega, fun _ => rfl⟩
                · go_wp2_with fail
                  go_ret2
                  exact ⟨rfl, fun _ => by rw [HVV.out]; rfl, fun c => absurd (HRC.out.2 (by omega)) c⟩
              · go_wp2_with fail
                go_ret2
                exact ⟨rfl, fun _ => by rw [HVV.out]; rfl, fun c => absurd (HRC.out.2 (by omega)) c⟩
  · rcases hc with ⟨rfl, rfl, rfl, h1⟩ | ⟨rfl, rfl, rfl, h1⟩ | ⟨rfl, rfl, rfl, h1⟩
    all_goals
      have hN2 : l.length < 4 := by omega
      go_enter Tryd.func37, Tryd.ntmps37
      go_wp2_with fail
      go_ret2
      exact ⟨rfl, fun c => absurd c.1 hN, fun _ => rfl⟩
end Go.Proofs.YtkoomphkbiifhaaDoor
