/- The reference's Same tells whether the lists are one. -/
import Derived.Test.YtkoomphkbiifhaaDoorScRefA
import Derived.Test.YtkoomphkbiifhaaDoorScSame
import Derived.Test.YtkoomphkbiifhaaDoorScGet
import Derived.Deep.QuietTactic
import Derived.BigQuiet
namespace Go.Proofs.YtkoomphkbiifhaaDoor
open Go.RowKit
set_option linter.unusedVariables false

theorem kd_beq (a b : Kd) : (a == b) = (a.1 == b.1 && a.2 == b.2) := rfl
set_option maxHeartbeats 4000000 in
set_option maxRecDepth 100000 in
theorem rsame_any (l m : List Kd) (A B : Option Addr) (c d : Nat) (w : World) (h : Kinds w A c l) (h' : Kinds w B d m) :
    Calls Tryd.prog 15 #[.slice A l.length c, .slice B m.length d] w fun e w' => e = .returned (.bool (l == m)) ∧ Below w.heap.size w w' := by
  have hcap := h.cap
  have hcap' := h'.cap
  by_cases hl : l.length = m.length
  · have d1 : ((l.length : Int) != (m.length : Int)) = false := by simp; omega
    go_enter Tryd.func15, Tryd.ntmps15
    go_wp2_with fail
    go_loopw [5] (fun i wr => ∃ j : Nat, j ≤ l.length ∧ i = .int .i64 j ∧ (∀ i (h1 : i < l.length) (h2 : i < m.length), i < j → (l[i] == m[i]) = true) ∧ Below w.heap.size w wr) (fun i _ => l.length - (intOf i).toNat)
    case atStart => exact ⟨0, Nat.zero_le _, rfl, fun _ _ _ h => by omega, Below.refl _ _⟩
    case round =>
      rename World => wo
      obtain ⟨j, hj, rfl, hno, br⟩ := hrel
      have HN := Lib.hid hno
      clear hno
      by_cases hlt : j < l.length
      · have hlt' : j < m.length := by omega
        obtain ⟨b, off, rfl, hc⟩ := (h.below br).shape (by omega)
        obtain ⟨F, f, g0, g1, hs⟩ := hc j hlt
        obtain ⟨b', off', rfl, hc'⟩ := (h'.below br).shape (by omega)
        obtain ⟨F', f', g0', g1', hs'⟩ := hc' j hlt'
        clear hc hc'
        have hcf := hs.cap
        have hcf' := hs'.cap
        have es := str_eqB l[j].1 m[j].1
        have HE := Lib.hid (kd_beq l[j] m[j])
        cases hn : (l[j].1 == m[j].1) with
        | false =>
          rw [hn] at es
          go_wp2_with fail
          go_quiet (fail)
          go_wp2_with fail
          go_ret
          exact ⟨ret_bool (eqs_false hlt hlt' (by rw [HE.out, hn]; rfl)).symm, below_drewN br _⟩
        | true =>
          rw [hn] at es
          by_cases hf : l[j].2.length = m[j].2.length
          · have d2 : ((l[j].2.length : Int) != (m[j].2.length : Int)) = false := by simp; omega
            go_wp2_with fail
            go_quiet (fail)
            go_wp2_with fail
            rename_i wq _
            clear g0 g1 g0' g1' es
            go_loopw [6] (fun i wi => ∃ k : Nat, k ≤ l[j].2.length ∧ i = .int .i64 k ∧ (∀ i (h1 : i < l[j].2.length) (h2 : i < m[j].2.length), i < k → (l[j].2[i] == m[j].2[i]) = true) ∧ Below w.heap.size w wi) (fun i _ => l[j].2.length - (intOf i).toNat)
            case atStart => exact ⟨0, Nat.zero_le _, rfl, (fun _ _ _ h => by omega), below_drewN br _⟩
            case round =>
              rename World => wi
              obtain ⟨k, hk, rfl, hnk, bi⟩ := hrel
              have HK := Lib.hid hnk
              clear hnk
              obtain ⟨b1, off1, e1, hc⟩ := (h.below bi).shape (by omega)
              cases e1
              obtain ⟨F1, f1, g0, g1, hst⟩ := hc j hlt
              obtain ⟨b2, off2, e2, hc'⟩ := (h'.below bi).shape (by omega)
              cases e2
              obtain ⟨F2, f2, g0', g1', hst'⟩ := hc' j hlt'
              clear hc hc'
              by_cases hlk : k < l[j].2.length
              · have hlk' : k < m[j].2.length := by omega
                obtain ⟨fb, foff, rfl, hcc⟩ := hst.shape (by omega)
                have hck := hcc k hlk
                obtain ⟨fb', foff', rfl, hcc'⟩ := hst'.shape (by omega)
                have hck' := hcc' k hlk'
                clear hcc hcc'
                have es := str_eqB l[j].2[k] m[j].2[k]
                cases hn2 : (l[j].2[k] == m[j].2[k]) with
                | false =>
                  rw [hn2] at es
                  go_wp2_with fail
                  go_quiet (fail)
                  go_wp2_with fail
                  go_ret
                  exact ⟨ret_bool (eqs_false hlt hlt' (by rw [HE.out, hn, eqs_false hlk hlk' hn2]; rfl)).symm, below_drewN bi _⟩
                | true =>
                  rw [hn2] at es
                  go_wp2_with fail
                  go_quiet (fail)
                  go_wp2_with fail
                  go_roundw
                  case rel => exact ⟨k + 1, by omega, by go_num, (fun i h1 h2 hi => by
                    by_cases e : i = k
                    · subst e; exact hn2
                    · exact HK.out i h1 h2 (by omega)), below_drewN bi _⟩
                  case measure => simp [intOf]; omega
              · go_wp2_with fail
                go_roundw
                case rel => exact ⟨j + 1, by omega, by go_num, (fun i h1 h2 hi => by
                  by_cases e : i = j
                  · subst e; rw [HE.out, hn, eqs_true hf fun m h1 h2 => HK.out m h1 h2 (by omega)]; rfl
                  · exact HN.out i h1 h2 (by omega)), bi⟩
                case measure => simp [intOf]; omega
          · have d2 : ((l[j].2.length : Int) != (m[j].2.length : Int)) = true := by simp; omega
            go_wp2_with fail
            go_quiet (fail)
            go_wp2_with fail
            go_ret
            exact ⟨ret_bool (eqs_false hlt hlt' (by rw [HE.out, hn, eqs_len hf]; rfl)).symm, below_drewN br _⟩
      · go_wp2_with fail
        go_ret
        exact ⟨ret_bool (eqs_true hl fun i h1 h2 => HN.out i h1 h2 (by omega)).symm, br⟩
  · rw [eqs_len hl]
    have d1 : ((l.length : Int) != (m.length : Int)) = true := by simp; omega
    go_enter Tryd.func15, Tryd.ntmps15
    go_wp2_with fail
    go_ret
    exact ⟨rfl, Below.refl _ _⟩
end Go.Proofs.YtkoomphkbiifhaaDoor
