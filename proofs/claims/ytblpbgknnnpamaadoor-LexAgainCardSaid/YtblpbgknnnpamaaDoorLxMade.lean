/- Texts of pieces of queries, and of space, as the statements make them. -/
import Derived.Test.YtblpbgknnnpamaaDoorLxHead
import Derived.Test.YtblpbgknnnpamaaDoorLxCut
import Derived.Test.YtblpbgknnnpamaaDoorScRowDef
namespace Go.Proofs.YtblpbgknnnpamaaDoor
open Go.RowKit
set_option linter.unusedVariables false

def spT : List Nm := [[32], [9], [10], [13]]
def sp2T : List Nm := [[32], [9], [10], [32, 13]]
def ptT : List Nm := [[65], [66], [97], [98], [120], [107], [59], [33], [124], [40], [41], [123], [125], [44], [91], [93], [46], [43], [45], [42], [47], [37], [60], [62], [61, 61], [33, 61], [60, 61], [62, 61], [38, 38], [124, 124], [48], [49], [50], [51], [52, 50], [87, 73, 84, 72, 73, 78], [66, 89], [57, 50, 50, 51, 51, 55, 50, 48, 51, 54, 56, 53, 52, 55, 55, 53, 56, 48, 55], [57, 50, 50, 51, 51, 55, 50, 48, 51, 54, 56, 53, 52, 55, 55, 53, 56, 48, 56], [48, 55], [195, 169], [240, 159, 152, 128], [239, 191, 189], [255], [64], [97, 98, 99, 100, 101, 102, 103, 104, 105, 106, 107, 108, 109, 110, 111, 112, 113, 114, 115, 116, 117, 118, 119, 120, 121], [61], [38], [87, 73, 84, 72, 73, 78, 120], [195]]
theorem spT_at : ∀ j, j < 4 → ∃ E, spT[j]? = some E ∧ Sp E ∧ E.length = 1
  | 0, _ => ⟨_, rfl, Sp.one (by decide), rfl⟩
  | 1, _ => ⟨_, rfl, Sp.one (by decide), rfl⟩
  | 2, _ => ⟨_, rfl, Sp.one (by decide), rfl⟩
  | 3, _ => ⟨_, rfl, Sp.one (by decide), rfl⟩
  | n + 4, h => absurd h (by omega)
theorem sp2T_at : ∀ j, j < 4 → ∃ E, sp2T[j]? = some E ∧ E.length ≤ 2
  | 0, _ => ⟨_, rfl, by decide⟩
  | 1, _ => ⟨_, rfl, by decide⟩
  | 2, _ => ⟨_, rfl, by decide⟩
  | 3, _ => ⟨_, rfl, by decide⟩
  | n + 4, h => absurd h (by omega)
theorem ptT_len : ∀ x ∈ ptT, x.length ≤ 25 := by decide +kernel
theorem ptT_at (j : Nat) (h : j < 50) : ∃ E, ptT[j]? = some E ∧ E.length ≤ 25 := by
  have hl : ptT.length = 50 := rfl
  have hj : j < ptT.length := by omega
  exact ⟨ptT[j], List.getElem?_eq_getElem hj, ptT_len _ (List.getElem_mem hj)⟩
theorem cell_new (w : World) (l : List Nm) (t : TypeId) (j : Nat) (E : Nm) (h : l[j]? = some E) :
    (w.alloc (.cells ((l.map fun s => Value.string (str s)).toArray) t)).cell? ⟨w.heap.size, j, none⟩ = some (.string (str E)) := by
  rw [cell_of_row _ w.heap.size j _ t (0, 0) (heap_alloc_new w _), List.getElem?_toArray, List.getElem?_map, h]
  rfl
set_option maxHeartbeats 1000000 in
set_option maxRecDepth 100000 in
theorem space_any (a : Option Addr) (len cap : Nat) (zs : List Int) (w : World) (hr : IsRow .u8 w a len cap zs) (hz : ∀ z ∈ zs, (Lit.int .u8 z).wf = true) :
    Calls Tryd.prog 12 #[.slice a len cap] w fun e w' => ∃ S, e = .returned (.string (str S)) ∧ Sp S ∧ S.length ≤ 10 ∧ Below w.heap.size w w' := by
  have hzb : ∀ z ∈ zs, 0 ≤ z ∧ z ≤ 255 := fun z h => by simpa [Lit.wf, IntKind.min, IntKind.max, IntKind.signed, IntKind.bits] using hz z h
  have hcap := hr.2.2.1
  have hlen := hr.1
  have hzl := hr.2.1
  unfold maxLen at hcap
  have HZ := Lib.hid hzb
  have HL := Lib.hid hzl
  have HR := Lib.hid hr
  clear hz hzb hzl hr
  go_enter Tryd.func12, Tryd.ntmps12
  go_wp2_with fail
  go_loopw [3, 4] (fun s i wr => ∃ (k : Nat) (S : Nm), k ≤ len ∧ k ≤ 10 ∧ i = .int .i64 k ∧ s = .string (str S) ∧ Hid (Sp S) ∧ S.length ≤ k ∧ Below w.heap.size w wr) (fun _ i _ => 10 - (intOf i).toNat)
  case atStart => exact ⟨0, [], by omega, by omega, rfl, rfl, Lib.hid Sp.nil, by simp, Below.refl _ _⟩
  case round =>
    obtain ⟨k, Sx, hk, hk10, rfl, rfl, hns, hsl, hb⟩ := hrel
    by_cases hlt : k < len ∧ k < 10
    · obtain ⟨hl1, hl2⟩ := hlt
      have hlz : k < zs.length := by have := HL.out; omega
      obtain ⟨b, off, rfl, hc⟩ := (HR.out.below hb).at_ hlz
      have hmem : zs.getD k 0 ∈ zs := by simp [List.getD, hlz]
      have hzk := HZ.out _ hmem
      generalize zs.getD k 0 = z at *
      obtain ⟨z0, z1⟩ := hzk
      clear hmem
      obtain ⟨j, hj⟩ : ∃ j : Nat, z % 4 = (j : Int) := ⟨(z % 4).toNat, by omega⟩
      have htm : z.tmod 4 = (j : Int) := by rw [Int.tmod_eq_emod_of_nonneg z0]; exact hj
      have hj4 : j < 4 := by omega
      obtain ⟨E, hE, hsE, hlE⟩ := spT_at j hj4
      have hcE := cell_new wr spT 9 j E hE
      have bA : Below wr.heap.size wr (wr.alloc (.cells ((spT.map fun s => Value.string (str s)).toArray) 9)) := (Below.refl _ _).alloc (Nat.le_refl _) _
      have hcA := (bA.cell (World.block_lt_of_cell? _ _ hc)).trans hc
      obtain ⟨W, hW⟩ : ∃ W, wr.alloc (.cells ((spT.map fun s => Value.string (str s)).toArray) 9) = W := ⟨_, rfl⟩
      rw [hW] at hcE bA hcA
      have hW2 : wr.alloc (.cells #[.string { data := #[32] }, .string { data := #[9] }, .string { data := #[10] }, .string { data := #[13] }] 9) = W := hW
      have ad : ∀ W, (Op.stringOp .add (str Sx) (str E)).run Tryd.prog W = .ok (.string (str (Sx ++ E))) W := run_add_str Sx E (by omega)
      have HE := Lib.hid hsE
      have HB := Lib.hid (hb.trans (bA.mono hb.size))
      clear hW hE hsE hb bA hj hc
      go_wp2_with fail
      go_roundw
      case rel => exact ⟨k + 1, Sx ++ E, by omega, by omega, by go_num, rfl, Lib.hid (hns.out.app HE.out), by rw [List.length_append]; omega, HB.out⟩
      case measure => simp [intOf]; omega
    · have hex : decide (k < len) = false ∨ (decide (k < len) = true ∧ decide ((k : Int) < 10) = false) := by
        by_cases h : k < len
        · exact .inr ⟨by simp; omega, by simp; omega⟩
        · exact .inl (by simp; omega)
      clear hlt
      rcases hex with x1 | ⟨x1, x2⟩
      all_goals
        go_wp2_with fail
        go_ret
        exact ⟨Sx, rfl, hns.out, by omega, hb⟩
set_option maxHeartbeats 2000000 in
set_option maxRecDepth 100000 in
theorem words_any (a : Option Addr) (len cap : Nat) (zs : List Int) (tight : Bool) (w : World) (hr : IsRow .u8 w a len cap zs) (hz : ∀ z ∈ zs, (Lit.int .u8 z).wf = true) :
    Calls Tryd.prog 9 #[.slice a len cap, .bool tight] w fun e w' => ∃ S, e = .returned (.string (str S)) ∧ S.length ≤ 810 ∧ Below w.heap.size w w' := by
  have hzb : ∀ z ∈ zs, 0 ≤ z ∧ z ≤ 255 := fun z h => by simpa [Lit.wf, IntKind.min, IntKind.max, IntKind.signed, IntKind.bits] using hz z h
  have hcap := hr.2.2.1
  have hlen := hr.1
  have hzl := hr.2.1
  unfold maxLen at hcap
  have b0 : Below w.heap.size w (w.alloc (.cells ((ptT.map fun s => Value.string (str s)).toArray) 9)) := (Below.refl _ _).alloc (Nat.le_refl _) _
  have hp : ∀ j E, ptT[j]? = some E → (w.alloc (.cells ((ptT.map fun s => Value.string (str s)).toArray) 9)).cell? ⟨w.heap.size, j, none⟩ = some (.string (str E)) := fun j E h => cell_new w ptT _ j E h
  obtain ⟨W0, hW0⟩ : ∃ W0, w.alloc (.cells ((ptT.map fun s => Value.string (str s)).toArray) 9) = W0 := ⟨_, rfl⟩
  rw [hW0] at b0 hp
  have hW00 : w.alloc (.cells #[.string { data := #[65] }, .string { data := #[66] }, .string { data := #[97] }, .string { data := #[98] }, .string { data := #[120] }, .string { data := #[107] }, .string { data := #[59] }, .string { data := #[33] }, .string { data := #[124] }, .string { data := #[40] }, .string { data := #[41] }, .string { data := #[123] }, .string { data := #[125] }, .string { data := #[44] }, .string { data := #[91] }, .string { data := #[93] }, .string { data := #[46] }, .string { data := #[43] }, .string { data := #[45] }, .string { data := #[42] }, .string { data := #[47] }, .string { data := #[37] }, .string { data := #[60] }, .string { data := #[62] }, .string { data := #[61, 61] }, .string { data := #[33, 61] }, .string { data := #[60, 61] }, .string { data := #[62, 61] }, .string { data := #[38, 38] }, .string { data := #[124, 124] }, .string { data := #[48] }, .string { data := #[49] }, .string { data := #[50] }, .string { data := #[51] }, .string { data := #[52, 50] }, .string { data := #[87, 73, 84, 72, 73, 78] }, .string { data := #[66, 89] }, .string { data := #[57, 50, 50, 51, 51, 55, 50, 48, 51, 54, 56, 53, 52, 55, 55, 53, 56, 48, 55] }, .string { data := #[57, 50, 50, 51, 51, 55, 50, 48, 51, 54, 56, 53, 52, 55, 55, 53, 56, 48, 56] }, .string { data := #[48, 55] }, .string { data := #[195, 169] }, .string { data := #[240, 159, 152, 128] }, .string { data := #[239, 191, 189] }, .string { data := #[255] }, .string { data := #[64] }, .string { data := #[97, 98, 99, 100, 101, 102, 103, 104, 105, 106, 107, 108, 109, 110, 111, 112, 113, 114, 115, 116, 117, 118, 119, 120, 121] }, .string { data := #[61] }, .string { data := #[38] }, .string { data := #[87, 73, 84, 72, 73, 78, 120] }, .string { data := #[195] }] 9) = W0 := hW0
  have HZ := Lib.hid hzb
  have HL := Lib.hid hzl
  have HR := Lib.hid (hr.below b0)
  have HP := Lib.hid hp
  clear hz hzb hzl hr hp hW0
  go_enter Tryd.func9, Tryd.ntmps9
  go_wp2_with fail
  go_loopw [6, 7] (fun s i wr => ∃ (k : Nat) (S : Nm), k ≤ len ∧ k ≤ 30 ∧ i = .int .i64 k ∧ s = .string (str S) ∧ S.length ≤ 27 * k ∧ Below W0.heap.size W0 wr) (fun _ i _ => 30 - (intOf i).toNat)
  case atStart => exact ⟨0, [], by omega, by omega, rfl, rfl, by simp, Below.refl _ _⟩
  case round =>
    clear hW00
    obtain ⟨k, Sx, hk, hk30, rfl, rfl, hsl, hb⟩ := hrel
    by_cases hlt : k < len ∧ k < 30
    · obtain ⟨hl1, hl2⟩ := hlt
      have hlz : k < zs.length := by have := HL.out; omega
      obtain ⟨b, off, rfl, hc⟩ := (HR.out.below hb).at_ hlz
      have hmem : zs.getD k 0 ∈ zs := by simp [List.getD, hlz]
      have hzk := HZ.out _ hmem
      generalize zs.getD k 0 = z at *
      obtain ⟨z0, z1⟩ := hzk
      clear hmem
      have hex : ∃ y : Int, 0 ≤ y ∧ y ≤ 255 ∧ ((z < 235 ∧ z.tmod 38 = y) ∨ (235 ≤ z ∧ z = y)) := by
        by_cases h : z < 235
        · exact ⟨z % 38, by omega, by omega, .inl ⟨h, Int.tmod_eq_emod_of_nonneg z0⟩⟩
        · exact ⟨z, z0, z1, .inr ⟨by omega, rfl⟩⟩
      obtain ⟨y, y0, y1, hy⟩ := hex
      obtain ⟨i, hi⟩ : ∃ i : Nat, y % 50 = (i : Int) := ⟨(y % 50).toNat, by omega⟩
      have hti : y.tmod 50 = (i : Int) := by rw [Int.tmod_eq_emod_of_nonneg y0]; exact hi
      have hi50 : i < 50 := by omega
      obtain ⟨F, hF, hlF⟩ := ptT_at i hi50
      have hcF := HP.out i F hF
      have hcF := (hb.cell (World.block_lt_of_cell? _ _ hcF)).trans hcF
      have ad1 : ∀ W, (Op.stringOp .add (str Sx) (str F)).run Tryd.prog W = .ok (.string (str (Sx ++ F))) W := run_add_str Sx F (by omega)
      clear hi hF
      cases tight with
      | true =>
        have HB := Lib.hid hb
        clear hb
        rcases hy with ⟨p1, p2⟩ | ⟨p1, rfl⟩
        all_goals
          go_wp2_with fail
          go_roundw
          case rel => exact ⟨k + 1, Sx ++ F, by omega, by omega, by go_num, rfl, by rw [List.length_append]; omega, HB.out⟩
          case measure => simp [intOf]; omega
      | false =>
        obtain ⟨j, hj⟩ : ∃ j : Nat, z % 4 = (j : Int) := ⟨(z % 4).toNat, by omega⟩
        have htm : z.tmod 4 = (j : Int) := by rw [Int.tmod_eq_emod_of_nonneg z0]; exact hj
        have hj4 : j < 4 := by omega
        obtain ⟨E, hE, hlE⟩ := sp2T_at j hj4
        have hcE := cell_new wr sp2T 9 j E hE
        have bA : Below wr.heap.size wr (wr.alloc (.cells ((sp2T.map fun s => Value.string (str s)).toArray) 9)) := (Below.refl _ _).alloc (Nat.le_refl _) _
        have hcA := (bA.cell (World.block_lt_of_cell? _ _ hc)).trans hc
        obtain ⟨W, hW⟩ : ∃ W, wr.alloc (.cells ((sp2T.map fun s => Value.string (str s)).toArray) 9) = W := ⟨_, rfl⟩
        rw [hW] at hcE bA hcA
        have hW2 : wr.alloc (.cells #[.string { data := #[32] }, .string { data := #[9] }, .string { data := #[10] }, .string { data := #[32, 13] }] 9) = W := hW
        have ad2 : ∀ W, (Op.stringOp .add (str (Sx ++ F)) (str E)).run Tryd.prog W = .ok (.string (str (Sx ++ (F ++ E)))) W := by rw [← List.append_assoc]; exact run_add_str (Sx ++ F) E (by rw [List.length_append]; omega)
        have HB := Lib.hid (hb.trans (bA.mono hb.size))
        clear hW hE hb bA hj
        rcases hy with ⟨p1, p2⟩ | ⟨p1, rfl⟩
        all_goals
          go_wp2_with fail
          go_roundw
          case rel => exact ⟨k + 1, Sx ++ (F ++ E), by omega, by omega, by go_num, rfl, by rw [List.length_append, List.length_append]; omega, HB.out⟩
          case measure => simp [intOf]; omega
    · have hex : decide (k < len) = false ∨ (decide (k < len) = true ∧ decide ((k : Int) < 30) = false) := by
        by_cases h : k < len
        · exact .inr ⟨by simp; omega, by simp; omega⟩
        · exact .inl (by simp; omega)
      clear hlt
      rcases hex with x1 | ⟨x1, x2⟩
      all_goals
        go_wp2_with fail
        go_ret
        exact ⟨Sx, rfl, by omega, b0.trans (hb.mono b0.size)⟩
end Go.Proofs.YtblpbgknnnpamaaDoor
