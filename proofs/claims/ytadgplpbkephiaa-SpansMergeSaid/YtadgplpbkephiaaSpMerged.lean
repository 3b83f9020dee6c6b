/- The law's merged: true of such intervals. -/
import Derived.Test.YtadgplpbkephiaaSpExactW
import Derived.Test.YtadgplpbkephiaaSpMergeM
namespace Go.Proofs.Ytadgplpbkephiaa
open Go.RowKit
set_option linter.unusedVariables false

theorem Li.celD {w : World} {A : Option Addr} {n c : Nat} {l : List Int} (h : Li w A n c l) (hn : 0 < n) :
    ∃ b off, A = some ⟨b, off, none⟩ ∧ ∀ i, i < n → w.cell? ⟨b, off + i, none⟩ = some (.int .i64 (l.getD i 0)) := by
  obtain ⟨b, off, x, e, -, -⟩ := h.cel 0 hn
  refine ⟨b, off, e, fun i hi => ?_⟩
  obtain ⟨b', off', x', e', hc, hx⟩ := h.cel i hi
  rw [e] at e'
  cases e'
  rw [hc, List.getD_eq_getElem?_getD, hx]
  rfl
set_option maxRecDepth 100000 in
set_option maxHeartbeats 2000000 in
theorem merged_yes {w : World} {A : Option Addr} {c : Nat} {S : List Sp} {P : List Int} {i0 : Nat} (hM : Mg S P i0) (h : Sl w A 4 c S) {L : Option Addr} {d : Nat} (hl : Li w L 5 d P) :
    Calls Try.prog 24 #[.agg #[.slice A 4 c], .slice L 5 d] w fun e w' => e = .returned (.bool true) ∧ Below w.heap.size w w' := by
  have hb0 : Below w.heap.size w (w.alloc (.cells #[.slice A 4 c] 24)) := (Below.refl _ _).alloc (Nat.le_refl _) _
  have X0 : Hid (Bx (w.alloc (.cells #[.slice A 4 c] 24)) w.heap.size 24 A 4 c S) := Lib.hid ⟨heap_alloc_new w _, h.below hb0⟩
  have I0 := Lib.hid (hl.below hb0)
  have L0 := Lib.hid hb0
  have HM := Lib.hid hM
  have hi0 := hM.i4
  clear hb0 h hl hM
  go_enter Try.func24, Try.ntmps24
  go_wp2
  generalize w.alloc (.cells #[.slice A 4 c] 24) = w1 at *
  generalize hgs : w.heap.size = gs at *
  have HGS := Lib.hid hgs
  clear hgs
  go_loopw [5, 6] (fun o iv wr => ∃ i : Nat, i ≤ 4 ∧ iv = .int .i64 i ∧ o = .int .i64 (if i0 < i then 1 else 0) ∧ Hid (Below w1.heap.size w1 wr)) (fun _ iv _ => 4 - (intOf iv).toNat)
  case atStart => exact ⟨0, Nat.zero_le _, rfl, by simp, Lib.hid (Below.refl _ _)⟩
  case round =>
    obtain ⟨i, hi, rfl, rfl, HB⟩ := hrel
    have x0 := (X0.out.below HB.out).box.cell 0
    by_cases hlt : i < 4
    · have hlt' : (i : Int) < 4 := by omega
      obtain ⟨g, off, rfl, hg, c1, c2⟩ := (X0.out.below HB.out).sl.cel i hlt
      by_cases hii : i = i0
      · have hlo := HM.out.lo
        have hhi := HM.out.hi
        rw [show (sp S i).1 = P.getD i0 0 by rw [hii]; exact hlo] at c1
        rw [show (sp S i).2 = P.getD (i0 + 1) 0 by rw [hii]; exact hhi] at c2
        have hinc := HM.out.inc i0 hi0
        have HLE : Hid (∀ k, k < 4 → P.getD (i0 + 1) 0 - P.getD i0 0 ≤ P.getD (k + 1) 0 - P.getD k 0) := Lib.hid HM.out.least
        have HS1 := HM.out.small i0 (by omega)
        have HS2 := HM.out.small (i0 + 1) (by omega)
        have HIN : Hid (∀ k, k < 4 → P.getD k 0 = P.getD i0 0 → P.getD (k + 1) 0 = P.getD (i0 + 1) 0) := Lib.hid fun k hk e => by rw [HM.out.inj k hk e]
        have HIF : Hid ((if i0 < i then (1 : Int) else 0) = 0) := Lib.hid (by simp [hii])
        have HIG : Hid ((if i0 < i + 1 then (1 : Int) else 0) = 1) := Lib.hid (by simp [hii])
        rw [HIF.out]
        have HI4 := Lib.hid hi
        clear hlo hhi hii HIF
        generalize P.getD i0 0 = lo at *
        generalize P.getD (i0 + 1) 0 = hi' at *
        have hne : (lo == hi') = false := by simp; omega
        have dd : hi' - lo = hi' - lo := rfl
        obtain ⟨D, hD⟩ : ∃ D, hi' - lo = D := ⟨_, rfl⟩
        have wD : IntKind.i64.wrap (hi' - lo) = D := by rw [IntWalk.i64_in _ (by omega)]; exact hD
        have wD2 : IntKind.i64.wrap D = D := IntWalk.i64_in _ (by omega)
        clear dd
        go_wp2
        go_loopw [9] (fun kv wq => ∃ k : Nat, 1 ≤ k ∧ k ≤ 5 ∧ kv = .int .i64 k ∧ Hid (Below w1.heap.size w1 wq)) (fun kv _ => 5 - (intOf kv).toNat)
        case atStart => exact ⟨1, Nat.le_refl _, by omega, rfl, HB⟩
        case round =>
          obtain ⟨k, hk1, hk5, rfl, HB2⟩ := hrel
          clear c1 c2 x0
          by_cases hk : k < 5
          · obtain ⟨gl, ol, rfl, hcl⟩ := (I0.out.below HB2.out).celD (by omega)
            obtain ⟨k0, hk0⟩ : ∃ k0, k0 + 1 = k := ⟨k - 1, by omega⟩
            have d1 := hcl k hk
            have d0 := hcl k0 (by omega)
            have hle := HLE.out k0 (by omega)
            have hin := HIN.out k0 (by omega)
            have s1 := HM.out.small k (by omega)
            have s0 := HM.out.small k0 (by omega)
            rw [hk0] at hle hin
            clear hcl
            have a1 : IntKind.i64.wrap ((k : Int) - 1) = (k0 : Int) := by rw [IntWalk.i64_in _ (by omega)]; omega
            have a2 : (k : Int) - 1 = (k0 : Int) := by omega
            have a3 : IntKind.i64.wrap (k0 : Int) = (k0 : Int) := IntWalk.i64_in _ (by omega)
            have k05 : k0 < 5 := by omega
            clear hk0
            generalize P.getD k 0 = pk at *
            generalize P.getD k0 0 = pk0 at *
            obtain ⟨E, hE⟩ : ∃ E, pk - pk0 = E := ⟨_, rfl⟩
            have wE : IntKind.i64.wrap (pk - pk0) = E := by rw [IntWalk.i64_in _ (by omega)]; exact hE
            have wE2 : IntKind.i64.wrap E = E := IntWalk.i64_in _ (by omega)
            have hED : ¬ E < D := by omega
            by_cases he : pk0 = lo
            · have hph := hin he
              subst he
              subst hph
              have e1 : (pk0 == pk0) = true := by simp
              have e2 : (pk == pk) = true := by simp
              clear hin
              go_wp2_with fail
              go_region
              go_wp2
              go_roundw
              case rel => exact ⟨k + 1, by omega, by omega, by go_num, Lib.hid HB2.out.drew⟩
              case measure => simp [intOf]; omega
            · have e1 : (pk0 == lo) = false := by simp [he]
              clear hin
              go_wp2_with fail
              go_region
              go_wp2
              go_roundw
              case rel => exact ⟨k + 1, by omega, by omega, by go_num, Lib.hid HB2.out.drew⟩
              case measure => simp [intOf]; omega
          · go_wp2
            go_roundw
            case rel => exact ⟨i + 1, by omega, by go_num, by rw [HIG.out], HB2⟩
            case measure => simp [intOf]; omega
      · have hpt := HM.out.pts i hlt hii
        rw [← hpt] at c2
        have HIF : Hid ((if i0 < i + 1 then (1 : Int) else 0) = (if i0 < i then (1 : Int) else 0)) := Lib.hid (by
          by_cases h1 : i0 < i
          · rw [if_pos h1, if_pos (by omega)]
          · rw [if_neg h1, if_neg (by omega)])
        generalize (if i0 < i then (1 : Int) else 0) = o1 at *
        clear hpt hii
        generalize (sp S i).1 = x at *
        have e1 : (x == x) = true := by simp
        go_wp2
        go_roundw
        case rel => exact ⟨i + 1, by omega, by go_num, by rw [HIF.out], HB⟩
        case measure => simp [intOf]; omega
    · have hi4 : i = 4 := by omega
      have HIF : (if i0 < i then (1 : Int) else 0) = 1 := if_pos (by omega)
      rw [HIF]
      have CC := Lib.hid (cover_any (X0.out.below HB.out).sl (I0.out.below HB.out))
      rw [HM.out.cov] at CC
      clear HIF hi4
      go_wp2_with fail
      refine CC.out.mono ?_
      rintro e w3 ⟨rfl, b3⟩
      go_wp2
      go_ret
      have hz := L0.out.size
      exact ⟨rfl, by
        have hz2 := HB.out.size
        rw [HGS.out]
        exact L0.out.trans ((HB.out.mono (by have := HGS.out; omega)).trans (b3.mono (by have := HGS.out; omega)))⟩
end Go.Proofs.Ytadgplpbkephiaa
