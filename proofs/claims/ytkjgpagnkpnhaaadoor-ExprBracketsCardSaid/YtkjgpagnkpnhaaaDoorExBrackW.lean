/- Layer 7: ExprBrackets, walked. -/
import Derived.Test.YtkjgpagnkpnhaaaDoorExEx
import Derived.Test.YtkjgpagnkpnhaaaDoorExPutWalk
import Derived.BigQuiet
import Derived.Lib.QuietBelow
namespace Go.Proofs.YtkjgpagnkpnhaaaDoor
open Go.RowKit
set_option linter.unusedVariables false

def levL : List Int := [1, 2, 3, 3, 4, 4, 4, 4, 5, 5, 6, 6, 6]
theorem opl_at : ∀ j, j < 13 → ∃ o l, opsL[j]? = some o ∧ levL[j]? = some l ∧ levB o = l ∧ oneB 3 o 0 [] [] 2 = true ∧ 1 ≤ o.length ∧ o.length ≤ 2 ∧ 1 ≤ l ∧ l ≤ 6
  | 0, _ => ⟨_, _, rfl, rfl, by kernel_rfl, by kernel_rfl, by decide, by decide, by decide, by decide⟩
  | 1, _ => ⟨_, _, rfl, rfl, by kernel_rfl, by kernel_rfl, by decide, by decide, by decide, by decide⟩
  | 2, _ => ⟨_, _, rfl, rfl, by kernel_rfl, by kernel_rfl, by decide, by decide, by decide, by decide⟩
  | 3, _ => ⟨_, _, rfl, rfl, by kernel_rfl, by kernel_rfl, by decide, by decide, by decide, by decide⟩
  | 4, _ => ⟨_, _, rfl, rfl, by kernel_rfl, by kernel_rfl, by decide, by decide, by decide, by decide⟩
  | 5, _ => ⟨_, _, rfl, rfl, by kernel_rfl, by kernel_rfl, by decide, by decide, by decide, by decide⟩
  | 6, _ => ⟨_, _, rfl, rfl, by kernel_rfl, by kernel_rfl, by decide, by decide, by decide, by decide⟩
  | 7, _ => ⟨_, _, rfl, rfl, by kernel_rfl, by kernel_rfl, by decide, by decide, by decide, by decide⟩
  | 8, _ => ⟨_, _, rfl, rfl, by kernel_rfl, by kernel_rfl, by decide, by decide, by decide, by decide⟩
  | 9, _ => ⟨_, _, rfl, rfl, by kernel_rfl, by kernel_rfl, by decide, by decide, by decide, by decide⟩
  | 10, _ => ⟨_, _, rfl, rfl, by kernel_rfl, by kernel_rfl, by decide, by decide, by decide, by decide⟩
  | 11, _ => ⟨_, _, rfl, rfl, by kernel_rfl, by kernel_rfl, by decide, by decide, by decide, by decide⟩
  | 12, _ => ⟨_, _, rfl, rfl, by kernel_rfl, by kernel_rfl, by decide, by decide, by decide, by decide⟩
  | n + 13, h => absurd h (by omega)
theorem lst_strs (w : World) (l : List Nm) (t : TypeId) (j : Nat) (E : Nm) (h : l[j]? = some E) :
    (w.alloc (.cells ((l.map fun s => Value.string (str s)).toArray) t)).cell? ⟨w.heap.size, j, none⟩ = some (.string (str E)) := by
  rw [cell_of_row _ w.heap.size j _ t (0, 0) (heap_alloc_new w _), List.getElem?_toArray, List.getElem?_map, h]
  rfl
theorem lst_ints (w : World) (l : List Int) (t : TypeId) (j : Nat) (E : Int) (h : l[j]? = some E) :
    (w.alloc (.cells ((l.map (Value.int .i64)).toArray) t)).cell? ⟨w.heap.size, j, none⟩ = some (.int .i64 E) := by
  rw [cell_of_row _ w.heap.size j _ t (0, 0) (heap_alloc_new w _), List.getElem?_toArray, List.getElem?_map, h]
  rfl
/-- What stands within. -/
abbrev eI (ob : Nm) (Q : Nat) : ET := .mk 3 ob 0 [] [] (some ⟨Q, 0, none⟩) 2 [nm 1, nm 1]
set_option maxHeartbeats 4000000 in
theorem brackets_any (K N : Int) (left : Bool) (hK : 0 ≤ K ∧ K ≤ 255) (hN : 0 ≤ N ∧ N ≤ 255) (w : World) (hT : Tabs w) :
    Calls Tryd.prog 4 #[.int .u8 K, .int .u8 N, .bool left] w fun e w' => e = .returned (.bool true) ∧ Below w.heap.size w w' := by
  obtain ⟨a, ha⟩ : ∃ a : Nat, K % 13 = (a : Int) := ⟨(K % 13).toNat, by omega⟩
  obtain ⟨b, hb⟩ : ∃ b : Nat, N % 13 = (b : Int) := ⟨(N % 13).toNat, by omega⟩
  have hKt : K.tmod 13 = (a : Int) := by rw [Int.tmod_eq_emod_of_nonneg hK.1]; exact ha
  have hNt : N.tmod 13 = (b : Int) := by rw [Int.tmod_eq_emod_of_nonneg hN.1]; exact hb
  have ha13 : a < 13 := by omega
  have hb13 : b < 13 := by omega
  obtain ⟨oa, la, a1, a2, a3, a4, a5, a6, a7, a8⟩ := opl_at a ha13
  obtain ⟨ob, lb, b1, b2, b3, b4, b5, b6, b7, b8⟩ := opl_at b hb13
  have HA := Lib.hid (And.intro a3 (And.intro a4 (And.intro a5 a6)))
  have HBo := Lib.hid (And.intro b3 (And.intro b4 (And.intro b5 b6)))
  have HE := Lib.hid (ex_any w hT)
  have HT := Lib.hid hT
  have haI : (a : Int) < 13 := by omega
  have hbI : (b : Int) < 13 := by omega
  have haz : (0 : Int) ≤ (a : Int) := by omega
  have hbz : (0 : Int) ≤ (b : Int) := by omega
  clear a3 a4 a5 a6 b3 b4 b5 b6 hT ha hb hK hN
  go_enter Tryd.func4, Tryd.ntmps4
  go_wp2_with fail
  refine HE.out.mono ?_
  rintro e w1 ⟨rfl, be1⟩
  obtain ⟨W2, hW2⟩ : ∃ W2, (w1.alloc (.cells ((opsL.map fun s => Value.string (str s)).toArray) 9)).alloc (.cells ((levL.map (Value.int .i64)).toArray) 3) = W2 := ⟨_, rfl⟩
  have s1 := step1 w1 (.cells ((opsL.map fun s => Value.string (str s)).toArray) 9)
  have s2 := step1 (w1.alloc (.cells ((opsL.map fun s => Value.string (str s)).toArray) 9)) (.cells ((levL.map (Value.int .i64)).toArray) 3)
  have p1 := lst_strs w1 opsL 9 a oa a1
  have p2 := lst_strs w1 opsL 9 b ob b1
  have p3 := lst_ints (w1.alloc (.cells ((opsL.map fun s => Value.string (str s)).toArray) 9)) levL 3 a la a2
  have p4 := lst_ints (w1.alloc (.cells ((opsL.map fun s => Value.string (str s)).toArray) 9)) levL 3 b lb b2
  have ez : (w1.alloc (.cells ((opsL.map fun s => Value.string (str s)).toArray) 9)).heap.size = w1.heap.size + 1 := by simp
  rw [ez] at p3 p4
  have p1' := (s2.cell (World.block_lt_of_cell? _ _ p1)).trans p1
  have p2' := (s2.cell (World.block_lt_of_cell? _ _ p2)).trans p2
  have s12 := s1.trans (s2.mono s1.size)
  rw [hW2] at p3 p4 p1' p2' s12
  have l1 := World.block_lt_of_cell? _ _ p1'
  have l3 := World.block_lt_of_cell? _ _ p3
  simp only at l1 l3
  have hW2' : (w1.alloc (.cells #[.string { data := #[124, 124] }, .string { data := #[38, 38] }, .string { data := #[61, 61] }, .string { data := #[33, 61] }, .string { data := #[60] }, .string { data := #[60, 61] }, .string { data := #[62] }, .string { data := #[62, 61] }, .string { data := #[43] }, .string { data := #[45] }, .string { data := #[42] }, .string { data := #[47] }, .string { data := #[37] }] 9)).alloc (.cells #[.int .i64 1, .int .i64 2, .int .i64 3, .int .i64 3, .int .i64 4, .int .i64 4, .int .i64 4, .int .i64 4, .int .i64 5, .int .i64 5, .int .i64 6, .int .i64 6, .int .i64 6] 3) = W2 := hW2
  have HB2 := Lib.hid (be1.trans (s12.mono be1.size))
  clear s1 s2 s12 p1 p2 ez hW2 be1
  go_upto_region 9 with fail
  have s3 := step1 W2 (.cells (cs1 (nm 1)) 24)
  have hx3 : Has (W2.alloc (.cells (cs1 (nm 1)) 24)) W2.heap.size 24 (cs1 (nm 1)) := has_at rfl rfl
  have q1 := (s3.cell (World.block_lt_of_cell? _ _ p1')).trans p1'
  have q2 := (s3.cell (World.block_lt_of_cell? _ _ p2')).trans p2'
  have q3 := (s3.cell (World.block_lt_of_cell? _ _ p3)).trans p3
  have q4 := (s3.cell (World.block_lt_of_cell? _ _ p4)).trans p4
  change Code.wp _ _ _ _ (W2.alloc (.cells (cs1 (nm 1)) 24))
  generalize hX : W2.heap.size = X at hx3 ⊢
  generalize W2.alloc (.cells (cs1 (nm 1)) 24) = W3 at s3 hx3 q1 q2 q3 q4 ⊢
  obtain ⟨x0, x1, x2, x3, x4, x5⟩ : W3.cell? ⟨X, 0, none⟩ = some (.int .i64 0) ∧ W3.cell? ⟨X, 1, none⟩ = some (.string { data := #[] }) ∧ W3.cell? ⟨X, 2, none⟩ = some (.int .i64 1) ∧ W3.cell? ⟨X, 3, none⟩ = some (.string { data := #[] }) ∧ W3.cell? ⟨X, 4, none⟩ = some (.string { data := #[] }) ∧ W3.cell? ⟨X, 5, none⟩ = some (.slice none 0 0) :=
    ⟨hx3.cell 0, hx3.cell 1, hx3.cell 2, hx3.cell 3, hx3.cell 4, hx3.cell 5⟩
  have HB3 := Lib.hid (HB2.out.trans (s3.mono HB2.out.size))
  have HX3 := Lib.hid hx3
  have HQ := Lib.hid (And.intro q1 (And.intro q2 (And.intro q3 q4)))
  clear s3 hx3 p1' p2' p3 p4 l1 l3 hW2' HB2
  have kp : ∀ W4, Below W3.heap.size W3 W4 → W4.cell? ⟨w1.heap.size, b, none⟩ = some (.string (str ob)) ∧ W4.cell? ⟨X, 0, none⟩ = some (.int .i64 0) ∧ W4.cell? ⟨X, 1, none⟩ = some (.string { data := #[] }) ∧ W4.cell? ⟨X, 2, none⟩ = some (.int .i64 1) ∧ W4.cell? ⟨X, 3, none⟩ = some (.string { data := #[] }) ∧ W4.cell? ⟨X, 4, none⟩ = some (.string { data := #[] }) ∧ W4.cell? ⟨X, 5, none⟩ = some (.slice none 0 0) := fun W4 h => ⟨(h.cell (World.block_lt_of_cell? _ _ q2)).trans q2, (h.cell (World.block_lt_of_cell? _ _ x0)).trans x0, (h.cell (World.block_lt_of_cell? _ _ x1)).trans x1, (h.cell (World.block_lt_of_cell? _ _ x2)).trans x2, (h.cell (World.block_lt_of_cell? _ _ x3)).trans x3, (h.cell (World.block_lt_of_cell? _ _ x4)).trans x4, (h.cell (World.block_lt_of_cell? _ _ x5)).trans x5⟩
  have kA : Hid (∀ o, (W3.alloc o).drew.cell? ⟨w1.heap.size, b, none⟩ = some (.string (str ob)) ∧ (W3.alloc o).drew.cell? ⟨X, 0, none⟩ = some (.int .i64 0) ∧ (W3.alloc o).drew.cell? ⟨X, 1, none⟩ = some (.string { data := #[] }) ∧ (W3.alloc o).drew.cell? ⟨X, 2, none⟩ = some (.int .i64 1) ∧ (W3.alloc o).drew.cell? ⟨X, 3, none⟩ = some (.string { data := #[] }) ∧ (W3.alloc o).drew.cell? ⟨X, 4, none⟩ = some (.string { data := #[] }) ∧ (W3.alloc o).drew.cell? ⟨X, 5, none⟩ = some (.slice none 0 0)) := Lib.hid fun o => kp _ ((Below.refl _ W3).alloc (Nat.le_refl _) _).drew
  have kB : Hid (∀ o o2, ((W3.alloc o).alloc o2).drew.cell? ⟨w1.heap.size, b, none⟩ = some (.string (str ob)) ∧ ((W3.alloc o).alloc o2).drew.cell? ⟨X, 0, none⟩ = some (.int .i64 0) ∧ ((W3.alloc o).alloc o2).drew.cell? ⟨X, 1, none⟩ = some (.string { data := #[] }) ∧ ((W3.alloc o).alloc o2).drew.cell? ⟨X, 2, none⟩ = some (.int .i64 1) ∧ ((W3.alloc o).alloc o2).drew.cell? ⟨X, 3, none⟩ = some (.string { data := #[] }) ∧ ((W3.alloc o).alloc o2).drew.cell? ⟨X, 4, none⟩ = some (.string { data := #[] }) ∧ ((W3.alloc o).alloc o2).drew.cell? ⟨X, 5, none⟩ = some (.slice none 0 0)) := Lib.hid fun o o2 => kp _ (((Below.refl _ W3).alloc (Nat.le_refl _) _).alloc (by simp) _).drew
  clear kp
  go_cut [13] from 29 to 36 (fun u wx => ∃ (P Q : Nat), u = .pointer (some ⟨P, 0, none⟩) ∧ Hid (Below W3.heap.size W3 wx ∧ Has wx P 24 #[.int .i64 3, .string (str ob), .int .i64 0, .string { data := #[] }, .string { data := #[] }, .slice (some ⟨Q, 0, none⟩) 2 2] ∧ Has wx Q 24 (cs2 (nm 1) (nm 1)) ∧ W3.heap.size ≤ P))
  case first =>
    go_region_held3 (fun w' => w'.cell? ⟨w1.heap.size, b, none⟩ = some (.string (str ob)) ∧ w'.cell? ⟨X, 0, none⟩ = some (.int .i64 0) ∧ w'.cell? ⟨X, 1, none⟩ = some (.string { data := #[] }) ∧ w'.cell? ⟨X, 2, none⟩ = some (.int .i64 1) ∧ w'.cell? ⟨X, 3, none⟩ = some (.string { data := #[] }) ∧ w'.cell? ⟨X, 4, none⟩ = some (.string { data := #[] }) ∧ w'.cell? ⟨X, 5, none⟩ = some (.slice none 0 0))
      (first | exact ⟨q2, x0, x1, x2, x3, x4, x5⟩ | (with_reducible exact kA.out _) | (with_reducible exact kB.out _ _))
      (fail)
    · go_wp2_with fail
      go_meet
      refine ⟨W3.heap.size + 1, W3.heap.size, rfl, Lib.hid ⟨(((Below.refl _ W3).alloc (Nat.le_refl _) _).alloc (by simp) _).drew, ?_, ?_, by omega⟩⟩
      · exact has_at (w := W3.alloc (.cells (cs2 (nm 1) (nm 1)) 24)) rfl (by simp)
      · have h1 : Has (W3.alloc (.cells (cs2 (nm 1) (nm 1)) 24)) W3.heap.size 24 (cs2 (nm 1) (nm 1)) := has_at rfl rfl
        exact h1.below (((Below.refl _ _).alloc (Nat.le_refl _) _).drew) h1.lt
    · go_wp2_with fail
      go_meet
      refine ⟨W3.heap.size, W3.heap.size + 1, rfl, Lib.hid ⟨(((Below.refl _ W3).alloc (Nat.le_refl _) _).alloc (by simp) _).drew, ?_, ?_, by omega⟩⟩
      · have h1 : Has (W3.alloc (.cells #[.int .i64 3, .string (str ob), .int .i64 0, .string { data := #[] }, .string { data := #[] }, .slice (some ⟨W3.heap.size + 1, 0, none⟩) 2 2] 24)) W3.heap.size 24 #[.int .i64 3, .string (str ob), .int .i64 0, .string { data := #[] }, .string { data := #[] }, .slice (some ⟨W3.heap.size + 1, 0, none⟩) 2 2] := has_at rfl rfl
        exact h1.below (((Below.refl _ _).alloc (Nat.le_refl _) _).drew) h1.lt
      · exact has_at (w := W3.alloc (.cells #[.int .i64 3, .string (str ob), .int .i64 0, .string { data := #[] }, .string { data := #[] }, .slice (some ⟨W3.heap.size + 1, 0, none⟩) 2 2] 24)) (o := .cells (cs2 (nm 1) (nm 1)) 24) rfl (by simp)
  case rest =>
  obtain ⟨P, Q, rfl, H4⟩ := hcut
  rename World => W4
  have u1 := (H4.out.1.cell (World.block_lt_of_cell? _ _ q1)).trans q1
  have u2 := (H4.out.1.cell (World.block_lt_of_cell? _ _ q2)).trans q2
  obtain ⟨y0, y1, y2, y3, y4, y5⟩ : W4.cell? ⟨X, 0, none⟩ = some (.int .i64 0) ∧ W4.cell? ⟨X, 1, none⟩ = some (.string { data := #[] }) ∧ W4.cell? ⟨X, 2, none⟩ = some (.int .i64 1) ∧ W4.cell? ⟨X, 3, none⟩ = some (.string { data := #[] }) ∧ W4.cell? ⟨X, 4, none⟩ = some (.string { data := #[] }) ∧ W4.cell? ⟨X, 5, none⟩ = some (.slice none 0 0) :=
    ⟨(H4.out.1.cell (World.block_lt_of_cell? _ _ x0)).trans x0, (H4.out.1.cell (World.block_lt_of_cell? _ _ x1)).trans x1, (H4.out.1.cell (World.block_lt_of_cell? _ _ x2)).trans x2, (H4.out.1.cell (World.block_lt_of_cell? _ _ x3)).trans x3, (H4.out.1.cell (World.block_lt_of_cell? _ _ x4)).trans x4, (H4.out.1.cell (World.block_lt_of_cell? _ _ x5)).trans x5⟩
  obtain ⟨e0, e1, e2, e3, e4, e5⟩ : W4.cell? ⟨P, 0, none⟩ = some (.int .i64 3) ∧ W4.cell? ⟨P, 1, none⟩ = some (.string (str ob)) ∧ W4.cell? ⟨P, 2, none⟩ = some (.int .i64 0) ∧ W4.cell? ⟨P, 3, none⟩ = some (.string { data := #[] }) ∧ W4.cell? ⟨P, 4, none⟩ = some (.string { data := #[] }) ∧ W4.cell? ⟨P, 5, none⟩ = some (.slice (some ⟨Q, 0, none⟩) 2 2) :=
    ⟨H4.out.2.1.cell 0, H4.out.2.1.cell 1, H4.out.2.1.cell 2, H4.out.2.1.cell 3, H4.out.2.1.cell 4, H4.out.2.1.cell 5⟩
  clear q1 q2 q3 q4 x0 x1 x2 x3 x4 x5 kA kB
  have lob : ob.length ≤ 2 := HBo.out.2.2.2
  have loa : oa.length ≤ 2 := HA.out.2.2.2
  obtain ⟨c1, hc1⟩ : ∃ u : Nm, [49, 32] ++ ob = u := ⟨_, rfl⟩
  obtain ⟨c2, hc2⟩ : ∃ u : Nm, c1 ++ [32, 49] = u := ⟨_, rfl⟩
  have r1 : ∀ W, (Op.stringOp .add { data := #[49, 32] } (str ob)).run Tryd.prog W = .ok (.string (str c1)) W := fun W => by rw [← hc1]; exact run_add_str [49, 32] ob (by simp; omega) W
  have r2 : ∀ W, (Op.stringOp .add (str c1) { data := #[32, 49] }).run Tryd.prog W = .ok (.string (str c2)) W := fun W => by rw [← hc2]; exact run_add_str c1 [32, 49] (by rw [← hc1]; simp; omega) W
  go_upto_region 11 with fail
  have kp : ∀ W5, Below W4.heap.size W4 W5 → W5.cell? ⟨w1.heap.size, a, none⟩ = some (.string (str oa)) ∧ W5.cell? ⟨X, 0, none⟩ = some (.int .i64 0) ∧ W5.cell? ⟨X, 1, none⟩ = some (.string { data := #[] }) ∧ W5.cell? ⟨X, 2, none⟩ = some (.int .i64 1) ∧ W5.cell? ⟨X, 3, none⟩ = some (.string { data := #[] }) ∧ W5.cell? ⟨X, 4, none⟩ = some (.string { data := #[] }) ∧ W5.cell? ⟨X, 5, none⟩ = some (.slice none 0 0) ∧ W5.cell? ⟨P, 0, none⟩ = some (.int .i64 3) ∧ W5.cell? ⟨P, 1, none⟩ = some (.string (str ob)) ∧ W5.cell? ⟨P, 2, none⟩ = some (.int .i64 0) ∧ W5.cell? ⟨P, 3, none⟩ = some (.string { data := #[] }) ∧ W5.cell? ⟨P, 4, none⟩ = some (.string { data := #[] }) ∧ W5.cell? ⟨P, 5, none⟩ = some (.slice (some ⟨Q, 0, none⟩) 2 2) := fun W5 h => ⟨(h.cell (World.block_lt_of_cell? _ _ u1)).trans u1, (h.cell (World.block_lt_of_cell? _ _ y0)).trans y0, (h.cell (World.block_lt_of_cell? _ _ y1)).trans y1, (h.cell (World.block_lt_of_cell? _ _ y2)).trans y2, (h.cell (World.block_lt_of_cell? _ _ y3)).trans y3, (h.cell (World.block_lt_of_cell? _ _ y4)).trans y4, (h.cell (World.block_lt_of_cell? _ _ y5)).trans y5, (h.cell (World.block_lt_of_cell? _ _ e0)).trans e0, (h.cell (World.block_lt_of_cell? _ _ e1)).trans e1, (h.cell (World.block_lt_of_cell? _ _ e2)).trans e2, (h.cell (World.block_lt_of_cell? _ _ e3)).trans e3, (h.cell (World.block_lt_of_cell? _ _ e4)).trans e4, (h.cell (World.block_lt_of_cell? _ _ e5)).trans e5⟩
  have kA : Hid (∀ o, (W4.alloc o).drew.cell? ⟨w1.heap.size, a, none⟩ = some (.string (str oa)) ∧ (W4.alloc o).drew.cell? ⟨X, 0, none⟩ = some (.int .i64 0) ∧ (W4.alloc o).drew.cell? ⟨X, 1, none⟩ = some (.string { data := #[] }) ∧ (W4.alloc o).drew.cell? ⟨X, 2, none⟩ = some (.int .i64 1) ∧ (W4.alloc o).drew.cell? ⟨X, 3, none⟩ = some (.string { data := #[] }) ∧ (W4.alloc o).drew.cell? ⟨X, 4, none⟩ = some (.string { data := #[] }) ∧ (W4.alloc o).drew.cell? ⟨X, 5, none⟩ = some (.slice none 0 0) ∧ (W4.alloc o).drew.cell? ⟨P, 0, none⟩ = some (.int .i64 3) ∧ (W4.alloc o).drew.cell? ⟨P, 1, none⟩ = some (.string (str ob)) ∧ (W4.alloc o).drew.cell? ⟨P, 2, none⟩ = some (.int .i64 0) ∧ (W4.alloc o).drew.cell? ⟨P, 3, none⟩ = some (.string { data := #[] }) ∧ (W4.alloc o).drew.cell? ⟨P, 4, none⟩ = some (.string { data := #[] }) ∧ (W4.alloc o).drew.cell? ⟨P, 5, none⟩ = some (.slice (some ⟨Q, 0, none⟩) 2 2)) := Lib.hid fun o => kp _ ((Below.refl _ W4).alloc (Nat.le_refl _) _).drew
  have kB : Hid (∀ o o2, ((W4.alloc o).alloc o2).drew.cell? ⟨w1.heap.size, a, none⟩ = some (.string (str oa)) ∧ ((W4.alloc o).alloc o2).drew.cell? ⟨X, 0, none⟩ = some (.int .i64 0) ∧ ((W4.alloc o).alloc o2).drew.cell? ⟨X, 1, none⟩ = some (.string { data := #[] }) ∧ ((W4.alloc o).alloc o2).drew.cell? ⟨X, 2, none⟩ = some (.int .i64 1) ∧ ((W4.alloc o).alloc o2).drew.cell? ⟨X, 3, none⟩ = some (.string { data := #[] }) ∧ ((W4.alloc o).alloc o2).drew.cell? ⟨X, 4, none⟩ = some (.string { data := #[] }) ∧ ((W4.alloc o).alloc o2).drew.cell? ⟨X, 5, none⟩ = some (.slice none 0 0) ∧ ((W4.alloc o).alloc o2).drew.cell? ⟨P, 0, none⟩ = some (.int .i64 3) ∧ ((W4.alloc o).alloc o2).drew.cell? ⟨P, 1, none⟩ = some (.string (str ob)) ∧ ((W4.alloc o).alloc o2).drew.cell? ⟨P, 2, none⟩ = some (.int .i64 0) ∧ ((W4.alloc o).alloc o2).drew.cell? ⟨P, 3, none⟩ = some (.string { data := #[] }) ∧ ((W4.alloc o).alloc o2).drew.cell? ⟨P, 4, none⟩ = some (.string { data := #[] }) ∧ ((W4.alloc o).alloc o2).drew.cell? ⟨P, 5, none⟩ = some (.slice (some ⟨Q, 0, none⟩) 2 2)) := Lib.hid fun o o2 => kp _ (((Below.refl _ W4).alloc (Nat.le_refl _) _).alloc (by simp) _).drew
  clear kp
  go_cut [15] from 43 to 50 (fun u wx => ∃ (R S : Nat), u = .pointer (some ⟨R, 0, none⟩) ∧ Hid (Below W4.heap.size W4 wx ∧ Has wx R 24 #[.int .i64 3, .string (str oa), .int .i64 0, .string { data := #[] }, .string { data := #[] }, .slice (some ⟨S, 0, none⟩) 2 2] ∧ Has wx S 24 (cs2 (nm 1) (eI ob Q)) ∧ W4.heap.size ≤ R))
  case first =>
    go_region_held3 (fun w' => w'.cell? ⟨w1.heap.size, a, none⟩ = some (.string (str oa)) ∧ w'.cell? ⟨X, 0, none⟩ = some (.int .i64 0) ∧ w'.cell? ⟨X, 1, none⟩ = some (.string { data := #[] }) ∧ w'.cell? ⟨X, 2, none⟩ = some (.int .i64 1) ∧ w'.cell? ⟨X, 3, none⟩ = some (.string { data := #[] }) ∧ w'.cell? ⟨X, 4, none⟩ = some (.string { data := #[] }) ∧ w'.cell? ⟨X, 5, none⟩ = some (.slice none 0 0) ∧ w'.cell? ⟨P, 0, none⟩ = some (.int .i64 3) ∧ w'.cell? ⟨P, 1, none⟩ = some (.string (str ob)) ∧ w'.cell? ⟨P, 2, none⟩ = some (.int .i64 0) ∧ w'.cell? ⟨P, 3, none⟩ = some (.string { data := #[] }) ∧ w'.cell? ⟨P, 4, none⟩ = some (.string { data := #[] }) ∧ w'.cell? ⟨P, 5, none⟩ = some (.slice (some ⟨Q, 0, none⟩) 2 2))
      (first | exact ⟨u1, y0, y1, y2, y3, y4, y5, e0, e1, e2, e3, e4, e5⟩ | (with_reducible exact kA.out _) | (with_reducible exact kB.out _ _))
      (fail)
    · go_wp2_with fail
      go_meet
      refine ⟨W4.heap.size + 1, W4.heap.size, rfl, Lib.hid ⟨(((Below.refl _ W4).alloc (Nat.le_refl _) _).alloc (by simp) _).drew, ?_, ?_, by omega⟩⟩
      · exact has_at (w := W4.alloc (.cells (cs2 (nm 1) (eI ob Q)) 24)) rfl (by simp)
      · have h1 : Has (W4.alloc (.cells (cs2 (nm 1) (eI ob Q)) 24)) W4.heap.size 24 (cs2 (nm 1) (eI ob Q)) := has_at rfl rfl
        exact h1.below (((Below.refl _ _).alloc (Nat.le_refl _) _).drew) h1.lt
    · go_wp2_with fail
      go_meet
      refine ⟨W4.heap.size, W4.heap.size + 1, rfl, Lib.hid ⟨(((Below.refl _ W4).alloc (Nat.le_refl _) _).alloc (by simp) _).drew, ?_, ?_, by omega⟩⟩
      · have h1 : Has (W4.alloc (.cells #[.int .i64 3, .string (str oa), .int .i64 0, .string { data := #[] }, .string { data := #[] }, .slice (some ⟨W4.heap.size + 1, 0, none⟩) 2 2] 24)) W4.heap.size 24 #[.int .i64 3, .string (str oa), .int .i64 0, .string { data := #[] }, .string { data := #[] }, .slice (some ⟨W4.heap.size + 1, 0, none⟩) 2 2] := has_at rfl rfl
        exact h1.below (((Below.refl _ _).alloc (Nat.le_refl _) _).drew) h1.lt
      · exact has_at (w := W4.alloc (.cells #[.int .i64 3, .string (str oa), .int .i64 0, .string { data := #[] }, .string { data := #[] }, .slice (some ⟨W4.heap.size + 1, 0, none⟩) 2 2] 24)) (o := .cells (cs2 (nm 1) (eI ob Q)) 24) rfl (by simp)
  case rest =>
  obtain ⟨R, S, rfl, H5⟩ := hcut
  rename World => W5
  have v1 := (H5.out.1.cell (World.block_lt_of_cell? _ _ u1)).trans u1
  have g34 := H4.out.1.trans (H5.out.1.mono H4.out.1.size)
  have v3 := (g34.cell (World.block_lt_of_cell? _ _ HQ.out.2.2.1)).trans HQ.out.2.2.1
  have v4 := (g34.cell (World.block_lt_of_cell? _ _ HQ.out.2.2.2)).trans HQ.out.2.2.2
  have HB5 := Lib.hid (HB3.out.trans (g34.mono HB3.out.size))
  have HT5 := Lib.hid (HT.out.below HB5.out)
  have iI := in2 3 ob 0 [] [] 2 H4.out.2.2.1 (in_nm W4 1 (by omega) (by omega)) (in_nm W4 1 (by omega) (by omega)) (okE_small _ _ _ _ (by omega) (by omega) (by omega))
  have HI5 := Lib.hid (iI.below H5.out.1)
  have HP5 := Lib.hid (H4.out.2.1.below H5.out.1 H4.out.2.1.lt)
  have HX5 := Lib.hid (HX3.out.below g34 HX3.out.lt)
  clear u1 u2 y0 y1 y2 y3 y4 y5 e0 e1 e2 e3 e4 e5 kA kB g34 iI
  have lc1 : c1.length = ob.length + 2 := by rw [← hc1]; simp
  have lc2 : c2.length = c1.length + 2 := by rw [← hc2]; simp
  have i1 : Lib.itoa 1 = [49] := by simp [Lib.itoa, Lib.decDigits]
  have pI : ∀ l : Int, putT l (eI ob Q) = brk (decide (lb < l)) c2 := fun l => by
    unfold eI nm
    rw [putT_3, putT_0, putT_0, i1, HBo.out.1, ← hc2, ← hc1]
    simp
  have HPI := Lib.hid pI
  have HC1 := Lib.hid hc1
  have HC2 := Lib.hid hc2
  clear pI i1 hc1 hc2
  cases left with
  | false =>
    have r50 := H5.out.2.1.cell 0
    obtain ⟨r0, r1', r2', r3, r4, r5⟩ : W5.cell? ⟨R, 0, none⟩ = some (.int .i64 3) ∧ W5.cell? ⟨R, 1, none⟩ = some (.string (str oa)) ∧ W5.cell? ⟨R, 2, none⟩ = some (.int .i64 0) ∧ W5.cell? ⟨R, 3, none⟩ = some (.string { data := #[] }) ∧ W5.cell? ⟨R, 4, none⟩ = some (.string { data := #[] }) ∧ W5.cell? ⟨R, 5, none⟩ = some (.slice (some ⟨S, 0, none⟩) 2 2) := ⟨H5.out.2.1.cell 0, H5.out.2.1.cell 1, H5.out.2.1.cell 2, H5.out.2.1.cell 3, H5.out.2.1.cell 4, H5.out.2.1.cell 5⟩
    have iE : ET.In W5 (.mk 3 oa 0 [] [] (some ⟨S, 0, none⟩) 2 [nm 1, eI ob Q]) := in2 3 oa 0 [] [] 2 H5.out.2.2.1 (in_nm W5 1 (by omega) (by omega)) HI5.out (okE_small _ _ _ _ (by omega) (by omega) (by omega))
    have rE : rightT (.mk 3 oa 0 [] [] (some ⟨S, 0, none⟩) 2 [nm 1, eI ob Q]) = true := right_of HA.out.2.1 fun t ht => by
      have rn : rightT (nm 1) = true := by kernel_rfl
      have rI : rightT (eI ob Q) = true := right_of HBo.out.2.1 fun t ht => by simp at ht; rcases ht with rfl | rfl <;> exact rn
      simp at ht
      rcases ht with rfl | rfl
      · exact rn
      · exact rI
    obtain ⟨d1, hd1⟩ : ∃ u : Nm, [49, 32] ++ oa = u := ⟨_, rfl⟩
    obtain ⟨d2, hd2⟩ : ∃ u : Nm, d1 ++ [32] = u := ⟨_, rfl⟩
    have ld1 : d1.length = oa.length + 2 := by rw [← hd1]; simp
    have ld2 : d2.length = d1.length + 1 := by rw [← hd2]; simp
    have t1 : ∀ W, (Op.stringOp .add { data := #[49, 32] } (str oa)).run Tryd.prog W = .ok (.string (str d1)) W := fun W => by rw [← hd1]; exact run_add_str [49, 32] oa (by simp; omega) W
    have t2 : ∀ W, (Op.stringOp .add (str d1) { data := #[32] }).run Tryd.prog W = .ok (.string (str d2)) W := fun W => by rw [← hd2]; exact run_add_str d1 [32] (by simp; omega) W
    have pE : putT 0 (.mk 3 oa 0 [] [] (some ⟨S, 0, none⟩) 2 [nm 1, eI ob Q]) = d2 ++ brk (decide (lb ≤ la)) c2 := by
      rw [putT_3, HPI.out, HA.out.1]
      unfold nm
      rw [putT_0, show Lib.itoa 1 = [49] by simp [Lib.itoa, Lib.decDigits], ← hd2, ← hd1, show decide (la < 0) = false by simp; omega, show (decide (lb < la + 1)) = decide (lb ≤ la) by simp only [decide_eq_decide]; omega]
      simp [brk]
    have sE : (ET.mk 3 oa 0 [] [] (some ⟨S, 0, none⟩) 2 [nm 1, eI ob Q]).size = 5 := by kernel_rfl
    by_cases hbr : lb ≤ la
    · have db : decide (lb ≤ la) = true := decide_eq_true hbr
      rw [db] at pE
      obtain ⟨c3, hc3⟩ : ∃ u : Nm, [40] ++ c2 = u := ⟨_, rfl⟩
      obtain ⟨c4, hc4⟩ : ∃ u : Nm, c3 ++ [41] = u := ⟨_, rfl⟩
      have lc3 : c3.length = c2.length + 1 := by rw [← hc3]; simp
      have lc4 : c4.length = c3.length + 1 := by rw [← hc4]; simp
      have t3 : ∀ W, (Op.stringOp .add { data := #[40] } (str c2)).run Tryd.prog W = .ok (.string (str c3)) W := fun W => by rw [← hc3]; exact run_add_str [40] c2 (by simp; omega) W
      have t4 : ∀ W, (Op.stringOp .add (str c3) { data := #[41] }).run Tryd.prog W = .ok (.string (str c4)) W := fun W => by rw [← hc4]; exact run_add_str c3 [41] (by simp; omega) W
      obtain ⟨F, hF⟩ : ∃ u : Nm, d2 ++ c4 = u := ⟨_, rfl⟩
      have t5 : ∀ W, (Op.stringOp .add (str d2) (str c4)).run Tryd.prog W = .ok (.string (str F)) W := fun W => by rw [← hF]; exact run_add_str d2 c4 (by omega) W
      have lF : F.length = d2.length + c4.length := by rw [← hF]; simp
      rw [show d2 ++ brk true c2 = F by rw [← hF, ← hc4, ← hc3]; simp [brk]] at pE
      have HpE := Lib.hid pE
      have HsE := Lib.hid sE
      have HrE := Lib.hid rE
      have HiE := Lib.hid iE
      clear pE sE rE iE hF hd1 hd2 r50 hc3 hc4
      go_wp2_with fail
      go_quiet (fail)
      go_wp2_with fail
      rename Nat => nq
      have s6 : Below W5.heap.size W5 (W5.drewN nq) := (Below.refl _ W5).trans ⟨rfl, rfl, rfl, Nat.le_refl _, fun _ _ => rfl⟩
      have kv1 := (s6.cell (World.block_lt_of_cell? _ _ v1)).trans v1
      have kv3 := (s6.cell (World.block_lt_of_cell? _ _ v3)).trans v3
      have kr0 := (s6.cell (World.block_lt_of_cell? _ _ r0)).trans r0
      have kr1 := (s6.cell (World.block_lt_of_cell? _ _ r1')).trans r1'
      have kr2 := (s6.cell (World.block_lt_of_cell? _ _ r2')).trans r2'
      have kr3 := (s6.cell (World.block_lt_of_cell? _ _ r3)).trans r3
      have kr4 := (s6.cell (World.block_lt_of_cell? _ _ r4)).trans r4
      have kr5 := (s6.cell (World.block_lt_of_cell? _ _ r5)).trans r5
      have HiE6 := Lib.hid (HiE.out.below s6)
      have HT6 := Lib.hid (HT5.out.below s6)
      have HB6 := Lib.hid (HB5.out.trans (s6.mono HB5.out.size))
      clear s6 v1 v3 r0 r1' r2' r3 r4 r5
      generalize W5.drewN nq = W6 at kv1 kv3 kr0 kr1 kr2 kr3 kr4 kr5 HiE6 HT6 HB6 ⊢
      have cP : ∀ (d : Nat) (os : Array Obj), Calls Tryd.prog 12 #[.agg #[.int .i64 3, .string (str oa), .int .i64 0, .string { data := #[] }, .string { data := #[] }, .slice (some ⟨S, 0, none⟩) 2 2]] (Sort.grow (redrawn W6 d) os) fun e w'' => e = .returned (.string (str F)) ∧ ∃ p : Regrown, w'' = Sort.grow (redrawn W6 p.d) p.os := fun d os => by
        have b5 := below_regrown W6 d os
        have := putE_any (.mk 3 oa 0 [] [] (some ⟨S, 0, none⟩) 2 [nm 1, eI ob Q]) (Sort.grow (redrawn W6 d) os) (HiE6.out.below b5) (HT6.out.below b5) HrE.out (by rw [HpE.out]; omega)
        rw [HpE.out] at this
        exact Calls.regrown_of this
      have cL : ∀ (d : Nat) (os : Array Obj), Calls Tryd.prog 14 #[.string (str oa)] (Sort.grow (redrawn W6 d) os) fun e w'' => e = .returned (.int .i64 la) ∧ ∃ p : Regrown, w'' = Sort.grow (redrawn W6 p.d) p.os := fun d os => by
        have := level_any oa (Sort.grow (redrawn W6 d) os)
        rw [HA.out.1] at this
        exact this.mono fun e w'' h => ⟨h.1, ⟨d, os⟩, h.2.symm⟩
      have cS : ∀ (d : Nat) (os : Array Obj), Calls Tryd.prog 15 #[.agg #[.int .i64 3, .string (str oa), .int .i64 0, .string { data := #[] }, .string { data := #[] }, .slice (some ⟨S, 0, none⟩) 2 2]] (Sort.grow (redrawn W6 d) os) fun e w'' => e = .returned (.int .i64 5) ∧ ∃ p : Regrown, w'' = Sort.grow (redrawn W6 p.d) p.os := fun d os => by
        have b5 := below_regrown W6 d os
        have := size_any (.mk 3 oa 0 [] [] (some ⟨S, 0, none⟩) 2 [nm 1, eI ob Q]) (Sort.grow (redrawn W6 d) os) (HiE6.out.below b5) (by rw [HsE.out]; omega)
        rw [HsE.out] at this
        exact Calls.regrown_of this
      have z1 := cell_regrown kv1
      have z3 := cell_regrown kv3
      have w0' := cell_regrown kr0
      have w1' := cell_regrown kr1
      have w2' := cell_regrown kr2
      have w3' := cell_regrown kr3
      have w4' := cell_regrown kr4
      have w5' := cell_regrown kr5
      refine wp_region_quiet_below (by kernel_rfl) (by kernel_rfl) ?_
      repeat (quiet_step (first | exact cP _ _ | exact cL _ _ | exact cS _ _))
      refine wpQuiet_nil ?_
      intro _ hw'
      obtain ⟨⟨dq, osq⟩, hw''⟩ := hw'
      subst hw''
      go_wp2
      go_ret
      exact ⟨rfl, HB6.out.trans ((below_regrown W6 dq osq).mono HB6.out.size)⟩
    · have db : decide (lb ≤ la) = false := decide_eq_false hbr
      rw [db] at pE
      obtain ⟨F, hF⟩ : ∃ u : Nm, d2 ++ c2 = u := ⟨_, rfl⟩
      have t5 : ∀ W, (Op.stringOp .add (str d2) (str c2)).run Tryd.prog W = .ok (.string (str F)) W := fun W => by rw [← hF]; exact run_add_str d2 c2 (by omega) W
      have lF : F.length = d2.length + c2.length := by rw [← hF]; simp
      rw [show d2 ++ brk false c2 = F by rw [← hF]; simp [brk]] at pE
      have HpE := Lib.hid pE
      have HsE := Lib.hid sE
      have HrE := Lib.hid rE
      have HiE := Lib.hid iE
      clear pE sE rE iE hF hd1 hd2 r50 
      go_wp2_with fail
      go_quiet (fail)
      go_wp2_with fail
      rename Nat => nq
      have s6 : Below W5.heap.size W5 (W5.drewN nq) := (Below.refl _ W5).trans ⟨rfl, rfl, rfl, Nat.le_refl _, fun _ _ => rfl⟩
      have kv1 := (s6.cell (World.block_lt_of_cell? _ _ v1)).trans v1
      have kv3 := (s6.cell (World.block_lt_of_cell? _ _ v3)).trans v3
      have kr0 := (s6.cell (World.block_lt_of_cell? _ _ r0)).trans r0
      have kr1 := (s6.cell (World.block_lt_of_cell? _ _ r1')).trans r1'
      have kr2 := (s6.cell (World.block_lt_of_cell? _ _ r2')).trans r2'
      have kr3 := (s6.cell (World.block_lt_of_cell? _ _ r3)).trans r3
      have kr4 := (s6.cell (World.block_lt_of_cell? _ _ r4)).trans r4
      have kr5 := (s6.cell (World.block_lt_of_cell? _ _ r5)).trans r5
      have HiE6 := Lib.hid (HiE.out.below s6)
      have HT6 := Lib.hid (HT5.out.below s6)
      have HB6 := Lib.hid (HB5.out.trans (s6.mono HB5.out.size))
      clear s6 v1 v3 r0 r1' r2' r3 r4 r5
      generalize W5.drewN nq = W6 at kv1 kv3 kr0 kr1 kr2 kr3 kr4 kr5 HiE6 HT6 HB6 ⊢
      have cP : ∀ (d : Nat) (os : Array Obj), Calls Tryd.prog 12 #[.agg #[.int .i64 3, .string (str oa), .int .i64 0, .string { data := #[] }, .string { data := #[] }, .slice (some ⟨S, 0, none⟩) 2 2]] (Sort.grow (redrawn W6 d) os) fun e w'' => e = .returned (.string (str F)) ∧ ∃ p : Regrown, w'' = Sort.grow (redrawn W6 p.d) p.os := fun d os => by
        have b5 := below_regrown W6 d os
        have := putE_any (.mk 3 oa 0 [] [] (some ⟨S, 0, none⟩) 2 [nm 1, eI ob Q]) (Sort.grow (redrawn W6 d) os) (HiE6.out.below b5) (HT6.out.below b5) HrE.out (by rw [HpE.out]; omega)
        rw [HpE.out] at this
        exact Calls.regrown_of this
      have cL : ∀ (d : Nat) (os : Array Obj), Calls Tryd.prog 14 #[.string (str oa)] (Sort.grow (redrawn W6 d) os) fun e w'' => e = .returned (.int .i64 la) ∧ ∃ p : Regrown, w'' = Sort.grow (redrawn W6 p.d) p.os := fun d os => by
        have := level_any oa (Sort.grow (redrawn W6 d) os)
        rw [HA.out.1] at this
        exact this.mono fun e w'' h => ⟨h.1, ⟨d, os⟩, h.2.symm⟩
      have cS : ∀ (d : Nat) (os : Array Obj), Calls Tryd.prog 15 #[.agg #[.int .i64 3, .string (str oa), .int .i64 0, .string { data := #[] }, .string { data := #[] }, .slice (some ⟨S, 0, none⟩) 2 2]] (Sort.grow (redrawn W6 d) os) fun e w'' => e = .returned (.int .i64 5) ∧ ∃ p : Regrown, w'' = Sort.grow (redrawn W6 p.d) p.os := fun d os => by
        have b5 := below_regrown W6 d os
        have := size_any (.mk 3 oa 0 [] [] (some ⟨S, 0, none⟩) 2 [nm 1, eI ob Q]) (Sort.grow (redrawn W6 d) os) (HiE6.out.below b5) (by rw [HsE.out]; omega)
        rw [HsE.out] at this
        exact Calls.regrown_of this
      have z1 := cell_regrown kv1
      have z3 := cell_regrown kv3
      have w0' := cell_regrown kr0
      have w1' := cell_regrown kr1
      have w2' := cell_regrown kr2
      have w3' := cell_regrown kr3
      have w4' := cell_regrown kr4
      have w5' := cell_regrown kr5
      refine wp_region_quiet_below (by kernel_rfl) (by kernel_rfl) ?_
      repeat (quiet_step (first | exact cP _ _ | exact cL _ _ | exact cS _ _))
      refine wpQuiet_nil ?_
      intro _ hw'
      obtain ⟨⟨dq, osq⟩, hw''⟩ := hw'
      subst hw''
      go_wp2
      go_ret
      exact ⟨rfl, HB6.out.trans ((below_regrown W6 dq osq).mono HB6.out.size)⟩
  | true =>
    have lw : w1.heap.size + 1 < R := by
      have h1 := World.block_lt_of_cell? _ _ HQ.out.2.2.1
      have h2 := H4.out.1.size
      have h3 := H5.out.2.2.2
      simp only at h1
      omega
    have lR : R < W5.heap.size := H5.out.2.1.lt
    obtain ⟨e0, e1, e2, e3, e4, e5⟩ : W5.cell? ⟨P, 0, none⟩ = some (.int .i64 3) ∧ W5.cell? ⟨P, 1, none⟩ = some (.string (str ob)) ∧ W5.cell? ⟨P, 2, none⟩ = some (.int .i64 0) ∧ W5.cell? ⟨P, 3, none⟩ = some (.string { data := #[] }) ∧ W5.cell? ⟨P, 4, none⟩ = some (.string { data := #[] }) ∧ W5.cell? ⟨P, 5, none⟩ = some (.slice (some ⟨Q, 0, none⟩) 2 2) := ⟨HP5.out.cell 0, HP5.out.cell 1, HP5.out.cell 2, HP5.out.cell 3, HP5.out.cell 4, HP5.out.cell 5⟩
    obtain ⟨x0, x1, x2, x3, x4, x5⟩ : W5.cell? ⟨X, 0, none⟩ = some (.int .i64 0) ∧ W5.cell? ⟨X, 1, none⟩ = some (.string { data := #[] }) ∧ W5.cell? ⟨X, 2, none⟩ = some (.int .i64 1) ∧ W5.cell? ⟨X, 3, none⟩ = some (.string { data := #[] }) ∧ W5.cell? ⟨X, 4, none⟩ = some (.string { data := #[] }) ∧ W5.cell? ⟨X, 5, none⟩ = some (.slice none 0 0) := ⟨HX5.out.cell 0, HX5.out.cell 1, HX5.out.cell 2, HX5.out.cell 3, HX5.out.cell 4, HX5.out.cell 5⟩
    obtain ⟨g0, g1, g2, g3, g4, g5⟩ : W5.cell? ⟨R, 0, none⟩ = some (.int .i64 3) ∧ W5.cell? ⟨R, 1, none⟩ = some (.string (str oa)) ∧ W5.cell? ⟨R, 2, none⟩ = some (.int .i64 0) ∧ W5.cell? ⟨R, 3, none⟩ = some (.string { data := #[] }) ∧ W5.cell? ⟨R, 4, none⟩ = some (.string { data := #[] }) ∧ W5.cell? ⟨R, 5, none⟩ = some (.slice (some ⟨S, 0, none⟩) 2 2) := ⟨H5.out.2.1.cell 0, H5.out.2.1.cell 1, H5.out.2.1.cell 2, H5.out.2.1.cell 3, H5.out.2.1.cell 4, H5.out.2.1.cell 5⟩
    obtain ⟨Z, hZz⟩ : ∃ Z, W5.heap.size = Z := ⟨_, rfl⟩
    obtain ⟨V, hV⟩ : ∃ V, (W5.alloc (.cells (cs2 (eI ob Q) (nm 1)) 24)).setCell ⟨R, 5, none⟩ (.slice (some ⟨Z, 0, none⟩) 2 2) = V := ⟨_, rfl⟩
    have sA := step1 W5 (.cells (cs2 (eI ob Q) (nm 1)) 24)
    have b45 : Below W4.heap.size W4 V := by rw [← hV]; exact (H5.out.1.trans (sA.mono H5.out.1.size)).setCell H5.out.2.2.2 _
    have keep : ∀ (q : Addr) (u : Value), q ≠ ⟨R, 5, none⟩ → W5.cell? q = some u → V.cell? q = some u := fun q u hq h => by
      rw [← hV, World.cell?_setCell_other _ _ _ _ (by first | exact hq | exact fun e => hq e.symm)]
      exact (sA.cell (World.block_lt_of_cell? _ _ h)).trans h
    have kR : ∀ o, (W5.alloc o).cell? ⟨R, 5, none⟩ = some (.slice (some ⟨S, 0, none⟩) 2 2) := fun o => ((step1 W5 o).cell (World.block_lt_of_cell? _ _ g5)).trans g5
    have fR : ∀ o, (W5.alloc o).frozen? ⟨R, 5, none⟩ = false := fun o => (H5.out.2.1.below (step1 W5 o) lR).free 5
    have r5 : V.cell? ⟨R, 5, none⟩ = some (.slice (some ⟨Z, 0, none⟩) 2 2) := by rw [← hV]; exact World.cell?_setCell_same _ _ _ (kR _)
    have hZ : Has V Z 24 (cs2 (eI ob Q) (nm 1)) := by
      have h1 : Has (W5.alloc (.cells (cs2 (eI ob Q) (nm 1)) 24)) Z 24 (cs2 (eI ob Q) (nm 1)) := has_at rfl hZz.symm
      rw [← hV]
      exact (Below.heap_setCell _ ⟨R, 5, none⟩ _ _ (by show Z ≠ R; omega)).trans h1
    have r0 := keep _ _ (by simp) g0
    have r1' := keep _ _ (by simp) g1
    have r2' := keep _ _ (by simp) g2
    have r3 := keep _ _ (by simp) g3
    have r4 := keep _ _ (by simp) g4
    have n1 : ∀ j, (⟨w1.heap.size, j, none⟩ : Addr) ≠ ⟨R, 5, none⟩ := fun j e => by injection e with e1; omega
    have n2 : ∀ j, (⟨w1.heap.size + 1, j, none⟩ : Addr) ≠ ⟨R, 5, none⟩ := fun j e => by injection e with e1; omega
    replace v1 := keep _ _ (n1 _) v1
    replace v3 := keep _ _ (n2 _) v3
    replace v4 := keep _ _ (n2 _) v4
    replace HB5 := Lib.hid (HB3.out.trans ((H4.out.1.trans (b45.mono H4.out.1.size)).mono HB3.out.size))
    replace HT5 := Lib.hid (HT.out.below HB5.out)
    have iE : ET.In V (.mk 3 oa 0 [] [] (some ⟨Z, 0, none⟩) 2 [eI ob Q, nm 1]) := in2 3 oa 0 [] [] 2 hZ (in2 3 ob 0 [] [] 2 (H4.out.2.2.1.below b45 H4.out.2.2.1.lt) (in_nm V 1 (by omega) (by omega)) (in_nm V 1 (by omega) (by omega)) (okE_small _ _ _ _ (by omega) (by omega) (by omega))) (in_nm V 1 (by omega) (by omega)) (okE_small _ _ _ _ (by omega) (by omega) (by omega))
    have hV' : (W5.alloc (.cells #[.int .i64 3, .string (str ob), .int .i64 0, .string { data := #[] }, .string { data := #[] }, .slice (some ⟨Q, 0, none⟩) 2 2, .int .i64 0, .string { data := #[] }, .int .i64 1, .string { data := #[] }, .string { data := #[] }, .slice none 0 0] 24)).setCell ⟨R, 5, none⟩ (.slice (some ⟨Z, 0, none⟩) 2 2) = V := hV
    have rE : rightT (.mk 3 oa 0 [] [] (some ⟨Z, 0, none⟩) 2 [eI ob Q, nm 1]) = true := right_of HA.out.2.1 fun t ht => by
      have rn : rightT (nm 1) = true := by kernel_rfl
      have rI : rightT (eI ob Q) = true := right_of HBo.out.2.1 fun t ht => by simp at ht; rcases ht with rfl | rfl <;> exact rn
      simp at ht
      rcases ht with rfl | rfl
      · exact rI
      · exact rn
    obtain ⟨d1, hd1⟩ : ∃ u : Nm, [49, 32] ++ oa = u := ⟨_, rfl⟩
    obtain ⟨d2, hd2⟩ : ∃ u : Nm, d1 ++ [32] = u := ⟨_, rfl⟩
    have ld1 : d1.length = oa.length + 2 := by rw [← hd1]; simp
    have ld2 : d2.length = d1.length + 1 := by rw [← hd2]; simp
    have t1 : ∀ W, (Op.stringOp .add { data := #[49, 32] } (str oa)).run Tryd.prog W = .ok (.string (str d1)) W := fun W => by rw [← hd1]; exact run_add_str [49, 32] oa (by simp; omega) W
    have t2 : ∀ W, (Op.stringOp .add (str d1) { data := #[32] }).run Tryd.prog W = .ok (.string (str d2)) W := fun W => by rw [← hd2]; exact run_add_str d1 [32] (by simp; omega) W
    have pE : putT 0 (.mk 3 oa 0 [] [] (some ⟨Z, 0, none⟩) 2 [eI ob Q, nm 1]) = brk (decide (lb < la)) c2 ++ [32] ++ oa ++ [32, 49] := by
      rw [putT_3, HPI.out, HA.out.1]
      unfold nm
      rw [putT_0, show Lib.itoa 1 = [49] by simp [Lib.itoa, Lib.decDigits], show decide (la < 0) = false by simp; omega]
      simp [brk]
    have sE : (ET.mk 3 oa 0 [] [] (some ⟨Z, 0, none⟩) 2 [eI ob Q, nm 1]).size = 5 := by kernel_rfl
    clear hV sA b45 keep hZ n1 n2 g0 g1 g2 g3 g4 g5 lw lR
    by_cases hbr : lb < la
    · have db : decide (lb < la) = true := decide_eq_true hbr
      rw [db] at pE
      obtain ⟨c3, hc3⟩ : ∃ u : Nm, [40] ++ c2 = u := ⟨_, rfl⟩
      obtain ⟨c4, hc4⟩ : ∃ u : Nm, c3 ++ [41] = u := ⟨_, rfl⟩
      have lc3 : c3.length = c2.length + 1 := by rw [← hc3]; simp
      have lc4 : c4.length = c3.length + 1 := by rw [← hc4]; simp
      have t3 : ∀ W, (Op.stringOp .add { data := #[40] } (str c2)).run Tryd.prog W = .ok (.string (str c3)) W := fun W => by rw [← hc3]; exact run_add_str [40] c2 (by simp; omega) W
      have t4 : ∀ W, (Op.stringOp .add (str c3) { data := #[41] }).run Tryd.prog W = .ok (.string (str c4)) W := fun W => by rw [← hc4]; exact run_add_str c3 [41] (by simp; omega) W
      obtain ⟨F0, hF0⟩ : ∃ u : Nm, d2 ++ c4 = u := ⟨_, rfl⟩
      obtain ⟨m1, hm1⟩ : ∃ u : Nm, c4 ++ [32] = u := ⟨_, rfl⟩
      obtain ⟨m2, hm2⟩ : ∃ u : Nm, m1 ++ oa = u := ⟨_, rfl⟩
      obtain ⟨F, hF⟩ : ∃ u : Nm, m2 ++ [32, 49] = u := ⟨_, rfl⟩
      have lm1 : m1.length = c4.length + 1 := by rw [← hm1]; simp
      have lm2 : m2.length = m1.length + oa.length := by rw [← hm2]; simp
      have lF : F.length = m2.length + 2 := by rw [← hF]; simp
      have t5 : ∀ W, (Op.stringOp .add (str d2) (str c4)).run Tryd.prog W = .ok (.string (str F0)) W := fun W => by rw [← hF0]; exact run_add_str d2 c4 (by omega) W
      have t6 : ∀ W, (Op.stringOp .add (str c4) { data := #[32] }).run Tryd.prog W = .ok (.string (str m1)) W := fun W => by rw [← hm1]; exact run_add_str c4 [32] (by simp; omega) W
      have t7 : ∀ W, (Op.stringOp .add (str m1) (str oa)).run Tryd.prog W = .ok (.string (str m2)) W := fun W => by rw [← hm2]; exact run_add_str m1 oa (by omega) W
      have t8 : ∀ W, (Op.stringOp .add (str m2) { data := #[32, 49] }).run Tryd.prog W = .ok (.string (str F)) W := fun W => by rw [← hF]; exact run_add_str m2 [32, 49] (by simp; omega) W
      rw [show brk true c2 ++ [32] ++ oa ++ [32, 49] = F by rw [← hF, ← hm2, ← hm1, ← hc4, ← hc3]; simp [brk]] at pE
      have HpE := Lib.hid pE
      have HsE := Lib.hid sE
      have HrE := Lib.hid rE
      have HiE := Lib.hid iE
      clear pE sE rE iE hF hF0 hm1 hm2 hd1 hd2 hc3 hc4
      go_wp2_with fail
      clear hV' kR fR hZz
      go_quiet (fail)
      go_wp2_with fail
      rename Nat => nq
      have s6 : Below V.heap.size V (V.drewN nq) := (Below.refl _ V).trans ⟨rfl, rfl, rfl, Nat.le_refl _, fun _ _ => rfl⟩
      have kv1 := (s6.cell (World.block_lt_of_cell? _ _ v1)).trans v1
      have kv3 := (s6.cell (World.block_lt_of_cell? _ _ v3)).trans v3
      have kr0 := (s6.cell (World.block_lt_of_cell? _ _ r0)).trans r0
      have kr1 := (s6.cell (World.block_lt_of_cell? _ _ r1')).trans r1'
      have kr2 := (s6.cell (World.block_lt_of_cell? _ _ r2')).trans r2'
      have kr3 := (s6.cell (World.block_lt_of_cell? _ _ r3)).trans r3
      have kr4 := (s6.cell (World.block_lt_of_cell? _ _ r4)).trans r4
      have kr5 := (s6.cell (World.block_lt_of_cell? _ _ r5)).trans r5
      have HiE6 := Lib.hid (HiE.out.below s6)
      have HT6 := Lib.hid (HT5.out.below s6)
      have HB6 := Lib.hid (HB5.out.trans (s6.mono HB5.out.size))
      clear s6 v1 v3 r0 r1' r2' r3 r4 r5
      generalize V.drewN nq = W6 at kv1 kv3 kr0 kr1 kr2 kr3 kr4 kr5 HiE6 HT6 HB6 ⊢
      have cP : ∀ (d : Nat) (os : Array Obj), Calls Tryd.prog 12 #[.agg #[.int .i64 3, .string (str oa), .int .i64 0, .string { data := #[] }, .string { data := #[] }, .slice (some ⟨Z, 0, none⟩) 2 2]] (Sort.grow (redrawn W6 d) os) fun e w'' => e = .returned (.string (str F)) ∧ ∃ p : Regrown, w'' = Sort.grow (redrawn W6 p.d) p.os := fun d os => by
        have b5 := below_regrown W6 d os
        have := putE_any (.mk 3 oa 0 [] [] (some ⟨Z, 0, none⟩) 2 [eI ob Q, nm 1]) (Sort.grow (redrawn W6 d) os) (HiE6.out.below b5) (HT6.out.below b5) HrE.out (by rw [HpE.out]; omega)
        rw [HpE.out] at this
        exact Calls.regrown_of this
      have cL : ∀ (d : Nat) (os : Array Obj), Calls Tryd.prog 14 #[.string (str oa)] (Sort.grow (redrawn W6 d) os) fun e w'' => e = .returned (.int .i64 la) ∧ ∃ p : Regrown, w'' = Sort.grow (redrawn W6 p.d) p.os := fun d os => by
        have := level_any oa (Sort.grow (redrawn W6 d) os)
        rw [HA.out.1] at this
        exact this.mono fun e w'' h => ⟨h.1, ⟨d, os⟩, h.2.symm⟩
      have cS : ∀ (d : Nat) (os : Array Obj), Calls Tryd.prog 15 #[.agg #[.int .i64 3, .string (str oa), .int .i64 0, .string { data := #[] }, .string { data := #[] }, .slice (some ⟨Z, 0, none⟩) 2 2]] (Sort.grow (redrawn W6 d) os) fun e w'' => e = .returned (.int .i64 5) ∧ ∃ p : Regrown, w'' = Sort.grow (redrawn W6 p.d) p.os := fun d os => by
        have b5 := below_regrown W6 d os
        have := size_any (.mk 3 oa 0 [] [] (some ⟨Z, 0, none⟩) 2 [eI ob Q, nm 1]) (Sort.grow (redrawn W6 d) os) (HiE6.out.below b5) (by rw [HsE.out]; omega)
        rw [HsE.out] at this
        exact Calls.regrown_of this
      have z1 := cell_regrown kv1
      have z3 := cell_regrown kv3
      have w0' := cell_regrown kr0
      have w1' := cell_regrown kr1
      have w2' := cell_regrown kr2
      have w3' := cell_regrown kr3
      have w4' := cell_regrown kr4
      have w5' := cell_regrown kr5
      refine wp_region_quiet_below (by kernel_rfl) (by kernel_rfl) ?_
      repeat (quiet_step (first | exact cP _ _ | exact cL _ _ | exact cS _ _))
      refine wpQuiet_nil ?_
      intro _ hw'
      obtain ⟨⟨dq, osq⟩, hw''⟩ := hw'
      subst hw''
      go_wp2
      go_ret
      exact ⟨rfl, HB6.out.trans ((below_regrown W6 dq osq).mono HB6.out.size)⟩
    · have db : decide (lb < la) = false := decide_eq_false hbr
      rw [db] at pE
      obtain ⟨F0, hF0⟩ : ∃ u : Nm, d2 ++ c2 = u := ⟨_, rfl⟩
      obtain ⟨m1, hm1⟩ : ∃ u : Nm, c2 ++ [32] = u := ⟨_, rfl⟩
      obtain ⟨m2, hm2⟩ : ∃ u : Nm, m1 ++ oa = u := ⟨_, rfl⟩
      obtain ⟨F, hF⟩ : ∃ u : Nm, m2 ++ [32, 49] = u := ⟨_, rfl⟩
      have lm1 : m1.length = c2.length + 1 := by rw [← hm1]; simp
      have lm2 : m2.length = m1.length + oa.length := by rw [← hm2]; simp
      have lF : F.length = m2.length + 2 := by rw [← hF]; simp
      have t5 : ∀ W, (Op.stringOp .add (str d2) (str c2)).run Tryd.prog W = .ok (.string (str F0)) W := fun W => by rw [← hF0]; exact run_add_str d2 c2 (by omega) W
      have t6 : ∀ W, (Op.stringOp .add (str c2) { data := #[32] }).run Tryd.prog W = .ok (.string (str m1)) W := fun W => by rw [← hm1]; exact run_add_str c2 [32] (by simp; omega) W
      have t7 : ∀ W, (Op.stringOp .add (str m1) (str oa)).run Tryd.prog W = .ok (.string (str m2)) W := fun W => by rw [← hm2]; exact run_add_str m1 oa (by omega) W
      have t8 : ∀ W, (Op.stringOp .add (str m2) { data := #[32, 49] }).run Tryd.prog W = .ok (.string (str F)) W := fun W => by rw [← hF]; exact run_add_str m2 [32, 49] (by simp; omega) W
      rw [show brk false c2 ++ [32] ++ oa ++ [32, 49] = F by rw [← hF, ← hm2, ← hm1]; simp [brk]] at pE
      have HpE := Lib.hid pE
      have HsE := Lib.hid sE
      have HrE := Lib.hid rE
      have HiE := Lib.hid iE
      clear pE sE rE iE hF hF0 hm1 hm2 hd1 hd2
      go_wp2_with fail
      clear hV' kR fR hZz
      go_quiet (fail)
      go_wp2_with fail
      rename Nat => nq
      have s6 : Below V.heap.size V (V.drewN nq) := (Below.refl _ V).trans ⟨rfl, rfl, rfl, Nat.le_refl _, fun _ _ => rfl⟩
      have kv1 := (s6.cell (World.block_lt_of_cell? _ _ v1)).trans v1
      have kv3 := (s6.cell (World.block_lt_of_cell? _ _ v3)).trans v3
      have kr0 := (s6.cell (World.block_lt_of_cell? _ _ r0)).trans r0
      have kr1 := (s6.cell (World.block_lt_of_cell? _ _ r1')).trans r1'
      have kr2 := (s6.cell (World.block_lt_of_cell? _ _ r2')).trans r2'
      have kr3 := (s6.cell (World.block_lt_of_cell? _ _ r3)).trans r3
      have kr4 := (s6.cell (World.block_lt_of_cell? _ _ r4)).trans r4
      have kr5 := (s6.cell (World.block_lt_of_cell? _ _ r5)).trans r5
      have HiE6 := Lib.hid (HiE.out.below s6)
      have HT6 := Lib.hid (HT5.out.below s6)
      have HB6 := Lib.hid (HB5.out.trans (s6.mono HB5.out.size))
      clear s6 v1 v3 r0 r1' r2' r3 r4 r5
      generalize V.drewN nq = W6 at kv1 kv3 kr0 kr1 kr2 kr3 kr4 kr5 HiE6 HT6 HB6 ⊢
      have cP : ∀ (d : Nat) (os : Array Obj), Calls Tryd.prog 12 #[.agg #[.int .i64 3, .string (str oa), .int .i64 0, .string { data := #[] }, .string { data := #[] }, .slice (some ⟨Z, 0, none⟩) 2 2]] (Sort.grow (redrawn W6 d) os) fun e w'' => e = .returned (.string (str F)) ∧ ∃ p : Regrown, w'' = Sort.grow (redrawn W6 p.d) p.os := fun d os => by
        have b5 := below_regrown W6 d os
        have := putE_any (.mk 3 oa 0 [] [] (some ⟨Z, 0, none⟩) 2 [eI ob Q, nm 1]) (Sort.grow (redrawn W6 d) os) (HiE6.out.below b5) (HT6.out.below b5) HrE.out (by rw [HpE.out]; omega)
        rw [HpE.out] at this
        exact Calls.regrown_of this
      have cL : ∀ (d : Nat) (os : Array Obj), Calls Tryd.prog 14 #[.string (str oa)] (Sort.grow (redrawn W6 d) os) fun e w'' => e = .returned (.int .i64 la) ∧ ∃ p : Regrown, w'' = Sort.grow (redrawn W6 p.d) p.os := fun d os => by
        have := level_any oa (Sort.grow (redrawn W6 d) os)
        rw [HA.out.1] at this
        exact this.mono fun e w'' h => ⟨h.1, ⟨d, os⟩, h.2.symm⟩
      have cS : ∀ (d : Nat) (os : Array Obj), Calls Tryd.prog 15 #[.agg #[.int .i64 3, .string (str oa), .int .i64 0, .string { data := #[] }, .string { data := #[] }, .slice (some ⟨Z, 0, none⟩) 2 2]] (Sort.grow (redrawn W6 d) os) fun e w'' => e = .returned (.int .i64 5) ∧ ∃ p : Regrown, w'' = Sort.grow (redrawn W6 p.d) p.os := fun d os => by
        have b5 := below_regrown W6 d os
        have := size_any (.mk 3 oa 0 [] [] (some ⟨Z, 0, none⟩) 2 [eI ob Q, nm 1]) (Sort.grow (redrawn W6 d) os) (HiE6.out.below b5) (by rw [HsE.out]; omega)
        rw [HsE.out] at this
        exact Calls.regrown_of this
      have z1 := cell_regrown kv1
      have z3 := cell_regrown kv3
      have w0' := cell_regrown kr0
      have w1' := cell_regrown kr1
      have w2' := cell_regrown kr2
      have w3' := cell_regrown kr3
      have w4' := cell_regrown kr4
      have w5' := cell_regrown kr5
      refine wp_region_quiet_below (by kernel_rfl) (by kernel_rfl) ?_
      repeat (quiet_step (first | exact cP _ _ | exact cL _ _ | exact cS _ _))
      refine wpQuiet_nil ?_
      intro _ hw'
      obtain ⟨⟨dq, osq⟩, hw''⟩ := hw'
      subst hw''
      go_wp2
      go_ret
      exact ⟨rfl, HB6.out.trans ((below_regrown W6 dq osq).mono HB6.out.size)⟩
theorem brackets_at (K N : Int) (left : Bool) (h1 : 0 ≤ K) (h2 : K ≤ 255) (h3 : 0 ≤ N) (h4 : N ≤ 255) (w : World) (hT : Tabs w) :
    Calls Tryd.prog 4 #[.int .u8 K, .int .u8 N, .bool left] w fun e w' => e = .returned (.bool true) ∧ Below w.heap.size w w' :=
  brackets_any K N left ⟨h1, h2⟩ ⟨h3, h4⟩ w hT
end Go.Proofs.YtkjgpagnkpnhaaaDoor
