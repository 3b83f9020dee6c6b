/- The reference's Right tells what the program's does. -/
import Derived.Test.YtkoomphkbiifhaaDoorScRefName
import Derived.Test.YtkoomphkbiifhaaDoorScRight
import Derived.Test.YtkoomphkbiifhaaDoorScBackMath
import Derived.Deep.RegionHeld3
import Derived.Deep.QuietTactic
import Derived.BigQuiet
namespace Go.Proofs.YtkoomphkbiifhaaDoor
open Go.RowKit
set_option linter.unusedVariables false

theorem idx_take {α : Type} (p : α → Bool) {l : List α} {i : Nat} (hi : i < l.length) (hp : p l[i] = true) : idx p l = i ↔ idx p (l.take i) < 0 := by
  constructor
  · intro h
    have hno : ∀ x ∈ l.take i, p x = false := by
      intro x hx
      obtain ⟨j, hj, rfl⟩ := List.getElem_of_mem hx
      rw [List.length_take] at hj
      rw [List.getElem_take]
      cases hpj : p (l[j]'(by omega)) with
      | false => rfl
      | true =>
        exfalso
        unfold idx at h
        split at h
        · rename_i m hm
          obtain ⟨hm1, hm2, hm3⟩ := List.findIdx?_eq_some_iff_getElem.1 hm
          have : m = i := by omega
          subst this
          have := hm3 j (by omega)
          rw [hpj] at this
          exact this rfl
        · omega
    have : idx p (l.take i) = -1 := idx_none p _ fun j hj => hno _ (List.getElem_mem _)
    omega
  · intro h
    refine idx_at p l i hi hp fun j hj hji => ?_
    refine idx_neg h l[j] ?_
    have : l[j] = (l.take i)[j]'(by simp; omega) := by simp
    rw [this]
    exact List.getElem_mem _
/-- What Right tells of one kind, as the reference reckons it. -/
theorem rightK_cases (l : List Kd) {i : Nat} (hi : i < l.length) : rightK (l.take i) l[i] = if 8 < l[i].2.length then 4 else if nameB l[i].1 = true ∧ idx (fun x : Kd => x.1 == l[i].1) l = i then firstNZ (fldE l[i].2) l[i].2.length else 5 := by
  unfold rightK
  have := idx_take (fun x : Kd => x.1 == l[i].1) hi (by simp)
  simp only [this]
theorem fldE_cases (l : List Nm) {i : Nat} (hi : i < l.length) : fldE l i = if nameB l[i] = true ∧ idx (fun x => x == l[i]) l = i then 0 else 5 := by
  unfold fldE
  rw [List.getElem?_eq_getElem hi]
  have := idx_take (fun x => x == l[i]) hi (by simp)
  simp only [this]
set_option maxHeartbeats 4000000 in
set_option maxRecDepth 100000 in
theorem rright_any (l : List Kd) (A : Option Addr) (c : Nat) (w : World) (h : Kinds w A c l)
    (hl : ∀ k ∈ l, k.1.length ≤ 9223372036854775807 ∧ ∀ f ∈ k.2, f.length ≤ 9223372036854775807) :
    Calls Tryd.prog 21 #[.slice A l.length c] w fun e w' => e = .returned (.int .i64 (rightE l)) ∧ Below w.heap.size w w' := by
  have hcap := h.cap
  by_cases h0 : l.length = 0
  · have e : rightE l = 4 := if_pos (.inl (List.eq_nil_of_length_eq_zero h0))
    rw [e]
    go_enter Tryd.func21, Tryd.ntmps21
    go_wp2_with fail
    go_ret
    exact ⟨rfl, Below.refl _ _⟩
  by_cases h16 : 16 < l.length
  · have e : rightE l = 4 := if_pos (.inr h16)
    rw [e]
    go_enter Tryd.func21, Tryd.ntmps21
    go_wp2_with fail
    go_ret
    exact ⟨rfl, Below.refl _ _⟩
  have e : rightE l = firstNZ (kindE l) l.length := if_neg (by rintro (rfl | h); exact h0 rfl; exact h16 h)
  rw [e]
  clear e
  have d0 : ((l.length : Int) == 0) = false := by rw [beq_eq_false_iff_ne]; omega
  have d1 : decide (16 < (l.length : Int)) = false := by simp; omega
  go_enter Tryd.func21, Tryd.ntmps21
  go_wp2_with fail
  go_loopw [3] (fun i wr => ∃ j : Nat, j ≤ l.length ∧ i = .int .i64 j ∧ (∀ i, i < j → kindE l i = 0) ∧ Below w.heap.size w wr) (fun i _ => l.length - (intOf i).toNat)
  case atStart => exact ⟨0, Nat.zero_le _, rfl, fun _ h => by omega, Below.refl _ _⟩
  case round =>
    rename World => wo
    obtain ⟨j, hj, rfl, hno, br⟩ := hrel
    have HZ := Lib.hid hno
    clear hno
    by_cases hlt : j < l.length
    · obtain ⟨b, off, rfl, hc⟩ := (h.below br).shape (by omega)
      obtain ⟨B, d, g0, g1, hs⟩ := hc j hlt
      clear hc
      have hlj := hl l[j] (List.getElem_mem _)
      have hK := (kindE_at hlt).trans (rightK_cases l hlt)
      have hcf := hs.cap
      by_cases h8 : 8 < l[j].2.length
      · rw [if_pos h8] at hK
        have HK := Lib.hid hK
        clear hK
        go_wp2_with fail
        go_ret
        refine ⟨ret_int ?_, br⟩
        rw [firstNZ_at (by rw [HK.out]; omega) HZ.out hlt, HK.out]
      · rw [if_neg h8] at hK
        obtain ⟨x, hx⟩ : ∃ x, idx (fun y : Kd => y.1 == l[j].1) l = x := ⟨_, rfl⟩
        rw [hx] at hK
        have HX := Lib.hid hx
        clear hx
        cases hnm : nameB l[j].1 with
        | false =>
          rw [if_neg (by simp [hnm])] at hK
          have HK := Lib.hid hK
          clear hK
          go_wp2_with fail
          refine (rname_any l[j].1 wo hlj.1).mono ?_
          rw [hnm]
          rintro e w2 ⟨rfl, rfl⟩
          go_wp2_with fail
          go_ret
          refine ⟨ret_int ?_, br⟩
          rw [firstNZ_at (by rw [HK.out]; omega) HZ.out hlt, HK.out]
        | true =>
          by_cases hxj : x = j
          · subst hxj
            rw [if_pos ⟨hnm, rfl⟩] at hK
            have HK := Lib.hid hK
            clear hK
            go_wp2_with fail
            refine (rname_any l[j].1 wo hlj.1).mono ?_
            rw [hnm]
            rintro e w2 ⟨rfl, rfl⟩
            go_wp2_with fail
            refine (rfind_any l _ c l[j].1 wo (h.below br)).mono ?_
            rw [HX.out]
            rintro e w2 ⟨rfl, rfl⟩
            have nj : ((j : Int) != (j : Int)) = false := by simp
            go_wp2_with fail
            clear g0 g1 nj
            go_loopw [4] (fun i wi => ∃ k : Nat, k ≤ l[j].2.length ∧ i = .int .i64 k ∧ (∀ i, i < k → fldE l[j].2 i = 0) ∧ Below w.heap.size w wi) (fun i _ => l[j].2.length - (intOf i).toNat)
            case atStart => exact ⟨0, Nat.zero_le _, rfl, (fun _ h => by omega), br⟩
            case round =>
              rename World => wi
              obtain ⟨k, hk, rfl, hnf, bi⟩ := hrel
              have HZ2 := Lib.hid hnf
              clear hnf
              obtain ⟨b', off', e', hc⟩ := (h.below bi).shape (by omega)
              cases e'
              obtain ⟨F', d', g0', g1', hst2⟩ := hc j hlt
              clear hc
              by_cases hlk : k < l[j].2.length
              · obtain ⟨fb, foff, rfl, hcc⟩ := hst2.shape (by omega)
                have hck := hcc k hlk
                clear hcc
                have hlf := hlj.2 l[j].2[k] (List.getElem_mem _)
                have hF := fldE_cases l[j].2 hlk
                obtain ⟨y, hy⟩ : ∃ y, idx (fun z => z == l[j].2[k]) l[j].2 = y := ⟨_, rfl⟩
                rw [hy] at hF
                have HY := Lib.hid hy
                clear hy
                cases hnf : nameB l[j].2[k] with
                | false =>
                  rw [if_neg (by simp [hnf])] at hF
                  have HF := Lib.hid hF
                  clear hF
                  have hrn := rname_any l[j].2[k]
                  rw [hnf] at hrn
                  go_wp2_with fail
                  go_quiet ((go_at_call 19; exact Calls.quiet_of_same ((hrn _ hlf).mono fun _ _ h => ⟨h.1, h.2.symm⟩)))
                  go_wp2_with fail
                  go_ret
                  refine ⟨ret_int ?_, below_drewN bi _⟩
                  have e2 : kindE l j = 5 := by rw [HK.out, firstNZ_at (by rw [HF.out]; omega) HZ2.out hlk, HF.out]
                  rw [firstNZ_at (by rw [e2]; omega) HZ.out hlt, e2]
                | true =>
                  have HST := Lib.hid hst2
                  clear hst2
                  have C0 : Hid (wi.cell? ⟨b, off + j * 2, none⟩ = some (.string (str l[j].1)) ∧ wi.cell? ⟨b, off + j * 2 + 1, none⟩ = some (.slice (some ⟨fb, foff, none⟩) l[j].2.length d') ∧ wi.cell? ⟨fb, foff + k, none⟩ = some (.string (str l[j].2[k]))) := Lib.hid ⟨g0', g1', hck⟩
                  have hrn := rname_any l[j].2[k]
                  rw [hnf] at hrn
                  have HRN := Lib.hid hrn
                  clear hrn
                  by_cases hyk : y = k
                  · subst hyk
                    rw [if_pos ⟨hnf, rfl⟩] at hF
                    have HF := Lib.hid hF
                    clear hF
                    have nk : ((k : Int) != (k : Int)) = false := by simp
                    have nk2 : ((k : Int) == (k : Int)) = true := by simp
                    go_wp2_with fail
                    go_region_held3 (fun w' => w'.cell? ⟨b, off + j * 2, none⟩ = some (.string (str l[j].1)) ∧ w'.cell? ⟨b, off + j * 2 + 1, none⟩ = some (.slice (some ⟨fb, foff, none⟩) l[j].2.length d') ∧ w'.cell? ⟨fb, foff + k, none⟩ = some (.string (str l[j].2[k])))
                      (first | exact C6.out | exact C5.out | exact C0.out)
                      (first
                        | (go_at_call 19; refine (HRN.out _ hlf).mono ?_; rintro e w5 ⟨rfl, rfl⟩; have C5 : Hid (wi.drew.cell? ⟨b, off + j * 2, none⟩ = some (.string (str l[j].1)) ∧ wi.drew.cell? ⟨b, off + j * 2 + 1, none⟩ = some (.slice (some ⟨fb, foff, none⟩) l[j].2.length d') ∧ wi.drew.cell? ⟨fb, foff + k, none⟩ = some (.string (str l[j].2[k]))) := Lib.hid C0.out)
                        | (go_at_call 17; refine (rfield_any l[j].1 l[j].2 _ d' l[j].2[k] _ (HST.out.below (Below.refl _ _).drew)).mono ?_; rw [HY.out]; rintro e w6 ⟨rfl, b6'⟩; have b6 : Below wi.heap.size wi w6 := (Below.refl _ wi).drew.trans b6'; have C6 : Hid (w6.cell? ⟨b, off + j * 2, none⟩ = some (.string (str l[j].1)) ∧ w6.cell? ⟨b, off + j * 2 + 1, none⟩ = some (.slice (some ⟨fb, foff, none⟩) l[j].2.length d') ∧ w6.cell? ⟨fb, foff + k, none⟩ = some (.string (str l[j].2[k]))) := Lib.hid ⟨(b6.cell (World.block_lt_of_cell? _ _ C0.out.1)).trans C0.out.1, (b6.cell (World.block_lt_of_cell? _ _ C0.out.2.1)).trans C0.out.2.1, (b6.cell (World.block_lt_of_cell? _ _ C0.out.2.2)).trans C0.out.2.2⟩; have B6 := bi.trans (b6.mono bi.size); clear b6'))
                    clear C0 C5 C6
                    go_wp2_with fail
                    go_roundw
                    case rel => exact ⟨k + 1, by omega, by go_num, (fun i hi => by
                      by_cases e : i = k
                      · subst e; exact HF.out
                      · exact HZ2.out i (by omega)), B6⟩
                    case measure => simp [intOf]; omega
                  · rw [if_neg (fun hh => hyk hh.2)] at hF
                    have HF := Lib.hid hF
                    clear hF
                    have nk : (y != (k : Int)) = true := by simpa using hyk
                    go_wp2_with fail
                    go_region_held3 (fun w' => w'.cell? ⟨b, off + j * 2, none⟩ = some (.string (str l[j].1)) ∧ w'.cell? ⟨b, off + j * 2 + 1, none⟩ = some (.slice (some ⟨fb, foff, none⟩) l[j].2.length d') ∧ w'.cell? ⟨fb, foff + k, none⟩ = some (.string (str l[j].2[k])))
                      (first | exact C6.out | exact C5.out | exact C0.out)
                      (first
                        | (go_at_call 19; refine (HRN.out _ hlf).mono ?_; rintro e w5 ⟨rfl, rfl⟩; have C5 : Hid (wi.drew.cell? ⟨b, off + j * 2, none⟩ = some (.string (str l[j].1)) ∧ wi.drew.cell? ⟨b, off + j * 2 + 1, none⟩ = some (.slice (some ⟨fb, foff, none⟩) l[j].2.length d') ∧ wi.drew.cell? ⟨fb, foff + k, none⟩ = some (.string (str l[j].2[k]))) := Lib.hid C0.out)
                        | (go_at_call 17; refine (rfield_any l[j].1 l[j].2 _ d' l[j].2[k] _ (HST.out.below (Below.refl _ _).drew)).mono ?_; rw [HY.out]; rintro e w6 ⟨rfl, b6'⟩; have b6 : Below wi.heap.size wi w6 := (Below.refl _ wi).drew.trans b6'; have C6 : Hid (w6.cell? ⟨b, off + j * 2, none⟩ = some (.string (str l[j].1)) ∧ w6.cell? ⟨b, off + j * 2 + 1, none⟩ = some (.slice (some ⟨fb, foff, none⟩) l[j].2.length d') ∧ w6.cell? ⟨fb, foff + k, none⟩ = some (.string (str l[j].2[k]))) := Lib.hid ⟨(b6.cell (World.block_lt_of_cell? _ _ C0.out.1)).trans C0.out.1, (b6.cell (World.block_lt_of_cell? _ _ C0.out.2.1)).trans C0.out.2.1, (b6.cell (World.block_lt_of_cell? _ _ C0.out.2.2)).trans C0.out.2.2⟩; have B6 := bi.trans (b6.mono bi.size); clear b6'))
                    clear C0 C5 C6
                    go_wp2_with fail
                    go_ret
                    refine ⟨ret_int ?_, B6⟩
                    have e2 : kindE l j = 5 := by rw [HK.out, firstNZ_at (by rw [HF.out]; omega) HZ2.out hlk, HF.out]
                    rw [firstNZ_at (by rw [e2]; omega) HZ.out hlt, e2]
              · go_wp2_with fail
                go_roundw
                case rel => exact ⟨j + 1, by omega, by go_num, (fun i hi => by
                  by_cases e : i = j
                  · subst e; rw [HK.out]; exact firstNZ_zero fun m hm => HZ2.out m (by omega)
                  · exact HZ.out i (by omega)), bi⟩
                case measure => simp [intOf]; omega
          · rw [if_neg (fun hh => hxj hh.2)] at hK
            have HK := Lib.hid hK
            clear hK
            have nj : (x != (j : Int)) = true := by simpa using hxj
            go_wp2_with fail
            refine (rname_any l[j].1 wo hlj.1).mono ?_
            rw [hnm]
            rintro e w2 ⟨rfl, rfl⟩
            go_wp2_with fail
            refine (rfind_any l _ c l[j].1 wo (h.below br)).mono ?_
            rw [HX.out]
            rintro e w2 ⟨rfl, rfl⟩
            go_wp2_with fail
            go_ret
            refine ⟨ret_int ?_, br⟩
            rw [firstNZ_at (by rw [HK.out]; omega) HZ.out hlt, HK.out]
    · go_wp2_with fail
      go_ret
      exact ⟨ret_int (firstNZ_zero fun i hi => HZ.out i (by omega)).symm, br⟩
end Go.Proofs.YtkoomphkbiifhaaDoor
