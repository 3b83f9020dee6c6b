/- What size.Sum returns for a slice of which its elements alone are known, and what an append of numbers onto a slice of the call's own leaves. -/
import Derived.Test.YtbojiphhcciliaaDoorSizeHead
import Derived.Test.YtbojiphhcciliaaDoorApp
namespace Go.Proofs.YtbojiphhcciliaaDoor
open Go.RowKit
set_option linter.unusedVariables false

abbrev ints (l : List Int) : List Value := l.map (Value.int .i64)
theorem ints_get {l : List Int} {k : Nat} (h : k < l.length) : (ints l)[k]? = some (.int .i64 (l.getD k 0)) := by
  simp [ints, List.getD, h]
theorem ints_one (l : List Int) : ∀ u ∈ ints l, u.oneCell' = true := by
  intro u hu
  simp only [ints, List.mem_map] at hu
  obtain ⟨x, _, rfl⟩ := hu
  rfl

set_option maxHeartbeats 800000 in
theorem sum_lies (A : Option Addr) (len cap : Nat) (ls : List Int) (w : World) (ht : Tab w) (hl : ls.length = len) (hm : len ≤ maxLen) (hr : Lies w A (ints ls)) :
    Calls Tryd.prog 11 #[.slice A len cap] w fun e w' => e = .returned (.tuple #[.int .i64 (smv ls), .bool (smk ls)]) ∧ w = w' := by
  unfold maxLen at hm
  have HR := Lib.hid hr
  have HL := Lib.hid hl
  have hlen : (len : Int) ≤ 9223372036854775807 := by omega
  clear hr hl hm
  go_enter Tryd.func11, Tryd.ntmps11
  go_wp2
  go_loop [4, 10] (fun t i => ∃ (k : Nat) (s : Int), k ≤ len ∧ i = .int .i64 k ∧ t = .int .i64 s ∧ 0 ≤ s ∧ s ≤ 2147483647 ∧ smo s (ls.drop k) = smo 0 ls) (fun _ i => len - (intOf i).toNat)
  case atStart => exact ⟨0, 0, by omega, rfl, rfl, by omega, by omega, rfl⟩
  case round =>
    obtain ⟨k, s, hk, rfl, rfl, hs0, hs1, hsm⟩ := hrel
    by_cases hlt : k < len
    · have hkl : k < ls.length := by rw [HL.out]; exact hlt
      obtain ⟨b, off, rfl, hc⟩ := HR.out.at_ (ints_get hkl)
      have hd : ls.drop k = ls.getD k 0 :: ls.drop (k + 1) := drop_step hkl
      rw [hd] at hsm
      clear hd hkl
      generalize ls.getD k 0 = x at hc hsm
      have HM := Lib.hid hsm
      clear hsm
      have hb := rnd_bd x
      by_cases hok : rok x = true
      · have HO := Lib.hid hok
        clear hok
        by_cases hfit : rnd x ≤ 2147483647 - s
        · have HN : Hid (smo (s + rnd x) (ls.drop (k + 1)) = smo 0 ls) := Lib.hid (by rw [← HM.out, smo_yes HO.out (by omega)])
          go_wp2_with fail
          refine (round_any x _ ht).mono ?_
          rintro e w' ⟨rfl, rfl⟩
          rw [HO.out]
          go_wp2
          go_round
          case rel => exact ⟨k + 1, s + rnd x, by omega, by go_num, by go_num, by omega, by omega, HN.out⟩
          case measure => simp [intOf]; omega
        · have HN : Hid (none = smo 0 ls) := Lib.hid (by rw [← HM.out, smo_no (.inr (by omega))])
          go_wp2_with fail
          refine (round_any x _ ht).mono ?_
          rintro e w' ⟨rfl, rfl⟩
          rw [HO.out]
          go_wp2
          go_ret2
          exact ⟨by rw [smv, smk, ← HN.out]; rfl, rfl⟩
      · have HO : Hid (rok x = false) := Lib.hid (by simpa using hok)
        clear hok
        have HN : Hid (none = smo 0 ls) := Lib.hid (by rw [← HM.out, smo_no (.inl HO.out)])
        go_wp2_with fail
        refine (round_any x _ ht).mono ?_
        rintro e w' ⟨rfl, rfl⟩
        rw [HO.out]
        go_wp2
        go_ret2
        exact ⟨by rw [smv, smk, ← HN.out]; rfl, rfl⟩
    · have HN : Hid (some s = smo 0 ls) := Lib.hid (by rw [← hsm, List.drop_of_length_le (by rw [HL.out]; omega), smo_nil])
      clear hsm
      go_wp2
      go_ret2
      exact ⟨by rw [smv, smk, ← HN.out]; rfl, rfl⟩

/-- An append of numbers onto a slice of the call's own. -/
theorem app_ints (w : World) (base : Nat) (v : Value) (n : Nat) (xs ys : List Int) (hown : w.ownsRow base 3 1 v n (ints xs)) (A : Option Addr) (m c : Nat) (hl : ys.length = m) (hlies : Lies w A (ints ys)) (hnil : A = none → c = 0)
    (hsmall : n + m ≤ 100000) (hbase : base ≤ w.heap.size) :
    ∃ v' w', (Builtin.append_ #[22, 22] 22 #[v, .slice A m c]).run Tryd.prog w = .ok v' w' ∧ w'.ownsRow base 3 1 v' (n + m) (ints (xs ++ ys)) ∧ w.grownBy w' v.ownBlock ∧ (v'.ownBlock = v.ownBlock ∨ v'.ownBlock = some w.heap.size) := by
  obtain ⟨i0, hi, hz0, hz1, hz2⟩ := info_parts info_int
  obtain ⟨v', w', h1, h2, h3, h4⟩ := run_app (P := Tryd.prog) w base 22 22 3 i0 (.int .i64 0) 8 Tryd.underlying22 hi hz0 hz1 hz2 rfl v n (ints xs) hown A m c (ints ys) (by simpa using hl) hlies hnil (ints_one ys) (by unfold maxLen; omega) (by omega) hbase
  exact ⟨v', w', h1, by simpa [ints] using h2, h3, h4⟩
end Go.Proofs.YtbojiphhcciliaaDoor
