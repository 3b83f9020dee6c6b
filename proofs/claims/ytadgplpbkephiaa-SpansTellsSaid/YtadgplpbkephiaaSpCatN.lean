/- slices.Concat, with where its answer lies. -/
import Derived.Test.YtadgplpbkephiaaSpCat
namespace Go.Proofs.Ytadgplpbkephiaa
open Go.RowKit
set_option linter.unusedVariables false

/-- It lies in a block from N on. -/
def Nw (N : Nat) (A : Option Addr) : Prop := ∀ b off, A = some ⟨b, off, none⟩ → N ≤ b
theorem Nw.mono {N M : Nat} {A : Option Addr} (h : Nw N A) (hm : M ≤ N) : Nw M A := fun b off e => Nat.le_trans hm (h b off e)
set_option maxHeartbeats 1000000 in
theorem concat_new {w : World} {g k : Nat} {cat : Nat → List Sp} (h0 : cat 0 = []) (hk : k ≤ 100) (hpos : 0 < (cat k).length) (hle : (cat k).length ≤ 1000)
    (h : ∀ j, j < k → ∃ A m c T, w.cell? ⟨g, j, none⟩ = some (.slice A m c) ∧ Sl w A m c T ∧ cat (j + 1) = cat j ++ T) :
    Calls Try.prog 29 #[.slice (some ⟨g, 0, none⟩) k k] w fun e w' => ∃ A c, e = .returned (.slice A (cat k).length c) ∧ Sl w' A (cat k).length c (cat k) ∧ Below w.heap.size w w' ∧ Nw w.heap.size A := by
  have hmono : ∀ j, j ≤ k → (cat j).length ≤ (cat k).length := fun j hj => cat_mono (fun j hj => by obtain ⟨A, m, c, T, -, -, e⟩ := h j hj; exact ⟨T, e⟩) (k - j) j (by omega)
  obtain ⟨N, hN⟩ : ∃ N, (cat k).length = N := ⟨_, rfl⟩
  have HM := Lib.hid hmono
  have HH := Lib.hid h
  have HN := Lib.hid hN
  rw [hN] at hpos hle
  have HZ := Lib.hid h0
  clear hmono h hN h0
  go_enter Try.func29, Try.ntmps29
  go_wp2
  go_loop [3, 11] (fun s i => ∃ j : Nat, j ≤ k ∧ i = .int .i64 j ∧ s = .int .i64 ((cat j).length : Nat)) (fun _ i => k - (intOf i).toNat)
  case atStart => exact ⟨0, Nat.zero_le _, rfl, by rw [HZ.out]; rfl⟩
  case round =>
    obtain ⟨j, hj, rfl, rfl⟩ := hrel
    have hb := HM.out j hj
    rw [HN.out] at hb
    by_cases hlt : j < k
    · obtain ⟨A, m, c, T, c1, hs, hT⟩ := HH.out j hlt
      have hb1 := HM.out (j + 1) hlt
      rw [HN.out, hT, List.length_append, hs.len] at hb1
      have HT : Hid ((cat (j + 1)).length = (cat j).length + m) := Lib.hid (by rw [hT, List.length_append, hs.len])
      clear hs hT
      generalize (cat j).length = u at *
      have e1 : IntKind.i64.wrap ((u : Int) + (m : Int)) = (u : Int) + (m : Int) := IntWalk.i64_in _ (by omega)
      have e2 : ¬ (u : Int) + (m : Int) < 0 := by omega
      go_wp2
      go_round
      case rel => exact ⟨j + 1, by omega, by go_num, by rw [HT.out]; simp⟩
      case measure => simp [intOf]; omega
    · obtain rfl : j = k := by omega
      rw [HN.out]
      have HG := Lib.hid (grow_nil w N hpos (by omega) (base := w.heap.size) (Nat.le_refl _))
      go_wp2_with fail
      refine HG.out.mono ?_
      rintro e w1 ⟨v, rfl, ho, hb1⟩
      have HO := Lib.hid ho
      have HB := Lib.hid hb1
      clear ho hb1 HG
      go_wp2
      go_loopw [6, 27] (fun v i wr => ∃ q : Nat, q ≤ j ∧ i = .int .i64 q ∧ Hid (Ow wr w.heap.size v (cat q)) ∧ Below w.heap.size w wr) (fun _ i _ => j - (intOf i).toNat)
      case atStart => exact ⟨0, Nat.zero_le _, rfl, by rw [HZ.out]; exact HO, HB.out⟩
      case round =>
        obtain ⟨q, hq, rfl, hov, hbel⟩ := hrel
        have HBL := Lib.hid hbel
        by_cases hlt : q < j
        · obtain ⟨A, m, c, T, c1, hs, hT⟩ := HH.out q hlt
          have hb1 := HM.out (q + 1) hlt
          rw [HN.out, hT, List.length_append, hs.len] at hb1
          have c2 := (hbel.cell (World.block_lt_of_cell? _ _ c1)).trans c1
          obtain ⟨v', w', hr, ho', hg, hv⟩ := sp_app hov.out hbel.size (hs.below hbel) (by omega)
          rw [← hT] at ho'
          have HR := Lib.hid hr
          have HOW := Lib.hid (And.intro ho' (Ow.bel hbel hbel.size hg hov.out (Nat.le_refl _)))
          clear hs hT c1 hr ho' hg hv hbel
          go_wp2_with (at_builtin; refine wpList_app HR.out rfl rfl rfl rfl rfl ?_)
          go_roundw
          case rel => exact ⟨q + 1, by omega, by go_num, Lib.hid HOW.out.1, HOW.out.2⟩
          case measure => simp [intOf]; omega
        · obtain rfl : q = j := by omega
          clear hbel
          go_wp2
          go_ret
          obtain ⟨A, c, rfl, hsl⟩ := hov.out.shape
          have hnw : Nw w.heap.size A := fun b off e => (World.ownsRow.lt hov.out b (by rw [e]; rfl)).1
          rw [HN.out] at hsl ⊢
          exact ⟨A, c, rfl, hsl, HBL.out, hnw⟩
end Go.Proofs.Ytadgplpbkephiaa
