/- Layer 8: binds, walked. -/
import Derived.Test.YtbhjimlikffalaaDoorVaBinds
namespace Go.Proofs.YtbhjimlikffalaaDoor
open Go.RowKit
set_option linter.unusedVariables false

set_option maxRecDepth 100000 in
set_option maxHeartbeats 8000000 in
theorem binds_any (x : Option Addr) (len cap : Nat) (zs : List Int) (cut : Int) (hc0 : 0 ≤ cut) (hc1 : cut ≤ 255) (w : World) (hr : IsRow .i64 w x len cap zs) (hz : ∀ n ∈ zs, in64 n) :
    Calls Tryd.prog 17 #[.slice x len cap, .int .u8 cut] w fun e w' => ∃ A c bl, e = .returned (.slice A bl.length c) ∧ Bds w' A c bl ∧ Bd64 bl ∧ bl.length ≤ 8 ∧ Below w.heap.size w w' := by
  obtain ⟨hl0, hz0, hm0, _⟩ := id hr
  unfold maxLen at hm0
  have hlen : (len : Int) ≤ 9223372036854775807 := by omega
  have HR := Lib.hid hr
  have HZ := Lib.hid hz
  have HL := Lib.hid hl0
  obtain ⟨hbn, hbb⟩ := bn_of w
  have HBN := Lib.hid hbn
  have HBB := Lib.hid hbb
  clear hr hz hl0 hz0 hm0 hbn hbb
  have hcm : cut.tmod 3 = cut % 3 := Int.tmod_eq_emod_of_nonneg hc0
  go_enter Tryd.func17, Tryd.ntmps17
  go_wp2_with fail
  obtain ⟨W, hW⟩ : ∃ W, bnW w = W := ⟨_, rfl⟩
  rw [hW] at HBN HBB
  have hWl : (((((w.alloc (.cells #[.string { data := #[97] }, .string { data := #[98] }, .string { data := #[99] }, .string { data := #[97] }] 9)).alloc (.cells #[.string { data := #[107] }, .string { data := #[120] }] 9)).alloc (.cells #[.string { data := #[107] }, .string { data := #[121] }] 9)).alloc (.cells #[.string { data := #[120] }, .string { data := #[107] }, .string { data := #[120] }] 9)).alloc (.cells #[.string { data := #[107] }] 9)).alloc (.cells #[.slice (some ⟨w.heap.size + 1, 0, none⟩) 2 2, .slice (some ⟨w.heap.size + 1 + 1, 0, none⟩) 2 2, .slice (some ⟨w.heap.size + 1 + 1 + 1, 0, none⟩) 3 3, .slice (some ⟨w.heap.size + 1 + 1 + 1 + 1, 0, none⟩) 1 1] 35) = W := hW
  rw [hWl]
  have hWs : W.heap.size = w.heap.size + 1 + 1 + 1 + 1 + 1 + 1 := by rw [← hWl]; simp
  clear hW hWl
  obtain ⟨N, hN⟩ : ∃ N, w.heap.size = N := ⟨_, rfl⟩
  rw [hN] at HBN hWs
  have HWS := Lib.hid hWs
  have HRW := Lib.hid (HR.out.below HBB.out)
  rw [hN] at HBB
  rw [hN]
  clear hWs HR
  go_loopw [5, 8] (fun v i wr => ∃ k : Nat, k ≤ 8 ∧ i = .int .i64 k ∧ ∃ bl : List Bd, bl.length = k ∧ BW wr W.heap.size v bl ∧ Bd64 bl ∧ Below W.heap.size W wr) (fun _ i _ => 8 - (intOf i).toNat)
  case atStart => exact ⟨0, by omega, rfl, [], rfl, BW.nil _ _, (fun x hx => nomatch hx), Below.refl _ _⟩
  case round =>
    obtain ⟨k, hk, rfl, bl, hbl, hbw, h64, hb⟩ := hrel
    have HBW := Lib.hid hbw
    have H64 := Lib.hid h64
    have HB := Lib.hid hb
    have HBL := Lib.hid hbl
    clear hbw h64 hb hbl
    by_cases hlt : k < len
    · by_cases hlt8 : k < 8
      · have hkz : k < zs.length := by have := HL.out; omega
        obtain ⟨b, off, rfl, hcell⟩ := (HRW.out.below HB.out).at_ hkz
        have hzi : in64 (zs.getD k 0) := by
          rw [List.getD_eq_getElem?_getD, List.getElem?_eq_getElem hkz, Option.getD_some]
          exact HZ.out _ (List.getElem_mem _)
        generalize zs.getD k 0 = z at hcell hzi
        have HZI := Lib.hid hzi
        clear hzi
        have hb0 := World.block_lt_of_cell? _ _ hcell
        simp only at hb0
        obtain ⟨j, hj⟩ : ∃ j : Nat, (k : Int) % 4 = (j : Int) := ⟨((k : Int) % 4).toNat, by omega⟩
        have h4 : (k : Int).tmod 4 = (j : Int) := by rw [Int.tmod_eq_emod_of_nonneg (by omega)]; exact hj
        have hj4 : j < 4 := by omega
        have hjI : (j : Int) < 4 := by omega
        have hjz : (0 : Int) ≤ (j : Int) := by omega
        have HBNR := Lib.hid (HBN.out.below HB.out)
        obtain ⟨s, hs, hsl⟩ := bn_at j hj4
        have c0 := HBNR.out.names j s hs
        obtain ⟨F, fs, c1, hF, hFN⟩ := HBNR.out.flds j hj4
        have l0 := World.block_lt_of_cell? _ _ c0
        have l1 := World.block_lt_of_cell? _ _ c1
        simp only at l0 l1
        have HFS := Lib.hid hF
        have HFN := Lib.hid hFN
        clear hj hs hsl hF hFN
        have main : ∀ (vs : List Int), vs.length ≤ 3 → (∀ n ∈ vs, in64 n) → Lies (wr.alloc (.cells #[.int .i64 z, .int .i64 k, .int .i64 z] 2)) (some ⟨wr.heap.size, 0, none⟩) (vs.map (Value.int .i64)) → ∀ v : Value, BW wr W.heap.size v bl →
            ∃ v' w4, (Builtin.append_ #[45, 45] 45 #[v, .slice (some ⟨wr.heap.size + 1, 0, none⟩) 1 1]).run Tryd.prog ((wr.alloc (.cells #[.int .i64 z, .int .i64 k, .int .i64 z] 2)).drew.drew.alloc (.cells #[.string (str s), .slice (some ⟨F, 0, none⟩) fs.length fs.length, .slice (some ⟨wr.heap.size, 0, none⟩) vs.length 3] 80)) = .ok v' w4
              ∧ (∃ bl2 : List Bd, bl2.length = k + 1 ∧ BW w4 W.heap.size v' bl2 ∧ Bd64 bl2) ∧ Below W.heap.size W w4 := by
          intro vs hvl hv64 hvn v hv
          have hbw2 : Below wr.heap.size wr (wr.alloc (.cells #[.int .i64 z, .int .i64 k, .int .i64 z] 2)).drew.drew := ((Below.refl _ wr).alloc (Nat.le_refl _) _).drew.drew
          have hsz : (wr.alloc (.cells #[.int .i64 z, .int .i64 k, .int .i64 z] 2)).drew.drew.heap.size = wr.heap.size + 1 := by simp
          obtain ⟨v', w4, r1, r2, r3⟩ := (hv.below hbw2).app (w := (wr.alloc (.cells #[.int .i64 z, .int .i64 k, .int .i64 z] 2)).drew.drew) (by have := HB.out.size; omega) ⟨s, some ⟨F, 0, none⟩, fs, fs.length, some ⟨wr.heap.size, 0, none⟩, vs, 3⟩ (HFS.out.below hbw2)
            ⟨(hvn.below (Below.refl _ _).drew).below (Below.refl _ _).drew, (fun h => by cases h), hvl, by show 3 ≤ maxLen; unfold maxLen; omega⟩
            ⟨fun _ a ha e => by cases ha; exact absurd (hv.lt _ e).1 (by show ¬ W.heap.size ≤ F; have := HFN.out; have := HWS.out; omega), fun _ a ha e => by cases ha; exact absurd (hv.lt _ e).2 (by show ¬ wr.heap.size < wr.heap.size; omega)⟩ (by have := HBL.out; omega)
          rw [hsz] at r1
          refine ⟨v', w4, r1, ⟨bl ++ [⟨s, some ⟨F, 0, none⟩, fs, fs.length, some ⟨wr.heap.size, 0, none⟩, vs, 3⟩], by simp [HBL.out], r2, fun y hy => ?_⟩, (HB.out.trans (hbw2.mono HB.out.size)).trans r3⟩
          rcases List.mem_append.1 hy with hy | hy
          · exact H64.out y hy
          · simp at hy
            subst hy
            exact hv64
        have hin3 : ∀ n ∈ ([z, (k : Int), z] : List Int), in64 n := by
          intro n hn
          simp only [List.mem_cons, List.not_mem_nil, or_false] at hn
          rcases hn with rfl | rfl | rfl
          · exact HZI.out
          · unfold in64; omega
          · exact HZI.out
        have hal := lies_new wr [.int .i64 z, .int .i64 k, .int .i64 z] 2
        by_cases hcut : 200 < cut
        · obtain ⟨m, hm⟩ : ∃ m : Nat, cut % 3 = (m : Int) := ⟨(cut % 3).toNat, by omega⟩
          rw [hm] at hcm
          have hm3 : m ≤ 3 := by omega
          have hlen3 : (([z, (k : Int), z] : List Int).take m).length = m := by rw [List.length_take]; simp; omega
          obtain ⟨v', w4, hrun, hrest, hbel⟩ := main (([z, (k : Int), z] : List Int).take m) (by rw [hlen3]; omega) (fun n hn => hin3 n (List.mem_of_mem_take hn)) (fun i u hu => by
            rw [List.map_take, List.getElem?_take] at hu
            split at hu
            · exact hal i u hu
            · cases hu) _ HBW.out
          rw [hlen3] at hrun
          have HR := Lib.hid hrun
          have HX := Lib.hid (And.intro hrest hbel)
          clear hin3 hrun hrest hbel main hal hlen3 hm
          go_wp2_with fail
          go_region
          go_wp2_with fail
          go_region_law (refine step_app (R := fun x y => x = v' ∧ y = w4) ⟨v', w4, HR.out, rfl, rfl⟩ rfl rfl rfl (by simp [Act.eval]) (by simp [Act.eval]) ?_; rintro _ _ ⟨rfl, rfl⟩)
          all_goals
            go_wp2_with fail
            go_roundw
            case rel => obtain ⟨⟨bl2, q1, q2, q3⟩, q4⟩ := HX.out; exact ⟨k + 1, by omega, by go_num, bl2, q1, q2, q3, q4⟩
            case measure => simp [intOf]; omega
        · obtain ⟨v', w4, hrun, hrest, hbel⟩ := main [z, (k : Int), z] (by simp) hin3 hal _ HBW.out
          have HR := Lib.hid hrun
          have HX := Lib.hid (And.intro hrest hbel)
          clear hin3 hrun hrest hbel main hal
          go_wp2_with fail
          go_region
          go_wp2_with fail
          go_region_law (refine step_app (R := fun x y => x = v' ∧ y = w4) ⟨v', w4, HR.out, rfl, rfl⟩ rfl rfl rfl (by simp [Act.eval]) (by simp [Act.eval]) ?_; rintro _ _ ⟨rfl, rfl⟩)
          all_goals
            go_wp2_with fail
            go_roundw
            case rel => obtain ⟨⟨bl2, q1, q2, q3⟩, q4⟩ := HX.out; exact ⟨k + 1, by omega, by go_num, bl2, q1, q2, q3, q4⟩
            case measure => simp [intOf]; omega
      · obtain rfl : k = 8 := by omega
        obtain ⟨A, c, rfl, hB⟩ := HBW.out.shape
        have HS := Lib.hid hB
        clear hB
        go_wp2_with fail
        go_ret
        exact ⟨A, c, bl, rfl, HS.out, H64.out, by have := HBL.out; omega, hN ▸ HBB.out.trans (HB.out.mono (by have := HWS.out; omega))⟩
    · obtain ⟨A, c, rfl, hB⟩ := HBW.out.shape
      have HS := Lib.hid hB
      clear hB
      go_wp2_with fail
      go_ret
      exact ⟨A, c, bl, rfl, HS.out, H64.out, by have := HBL.out; omega, hN ▸ HBB.out.trans (HB.out.mono (by have := HWS.out; omega))⟩
end Go.Proofs.YtbhjimlikffalaaDoor
