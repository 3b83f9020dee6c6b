/- LexSpace: the walk. -/
import Derived.Test.YtblpbgknnnpamaaDoorLxMade
namespace Go.Proofs.YtblpbgknnnpamaaDoor
open Go.RowKit
set_option linter.unusedVariables false

def ltT : List Nm := [[97], [87, 73, 84, 72, 73, 78], [49, 50], [195, 169], [60, 61], [40], [120, 57], [33, 61]]
set_option maxRecDepth 100000 in
theorem ltT_at : ∀ j, j < 8 → ∃ E k n, ltT[j]? = some E ∧ Wd k E n ∧ E.length ≤ 6
  | 0, _ => ⟨_, 1, 0, rfl, .inl ⟨rfl, by kernel_rfl, rfl⟩, by decide⟩
  | 1, _ => ⟨_, 4, 0, rfl, .inr (.inl ⟨rfl, .inl rfl, rfl⟩), by decide⟩
  | 2, _ => ⟨_, 2, 12, rfl, .inr (.inr (.inl ⟨rfl, by decide, by unfold digs; decide, by kernel_rfl⟩)), by decide⟩
  | 3, _ => ⟨_, 1, 0, rfl, .inl ⟨rfl, by kernel_rfl, rfl⟩, by decide⟩
  | 4, _ => ⟨_, 3, 0, rfl, .inr (.inr (.inr ⟨rfl, by decide, rfl⟩)), by decide⟩
  | 5, _ => ⟨_, 3, 0, rfl, .inr (.inr (.inr ⟨rfl, by decide, rfl⟩)), by decide⟩
  | 6, _ => ⟨_, 1, 0, rfl, .inl ⟨rfl, by kernel_rfl, rfl⟩, by decide⟩
  | 7, _ => ⟨_, 3, 0, rfl, .inr (.inr (.inr ⟨rfl, by decide, rfl⟩)), by decide⟩
  | n + 8, h => absurd h (by omega)
theorem space_lex {X Y Z A B : Nm} {k k' : Nat} {n n' : Int} (hX : Sp X) (hY : Sp Y) (hZ : Sp Z) (hA : Wd k A n) (hB : Wd k' B n') {U V S2 S3 S : Nm} (h0 : X ++ A = U) (h1 : U ++ [32] = V) (h2 : V ++ Y = S2) (h7 : S2 ++ B = S3) (h8 : S3 ++ Z = S) :
    lexA S = .good [⟨k, A, n, X.length⟩, ⟨k', B, n', S2.length⟩] := by
  have h3 : ∀ p, Lx p Z [] := fun p => by
    have := Lx.sps Z (p := p) hZ (.nil _)
    simpa using this
  have h4 : ∀ p, Lx p (B ++ Z) [⟨k', B, n', p⟩] := fun p => .wd p k' B n' Z [] hB (by
    cases Z with
    | nil => exact .inl rfl
    | cons b z => exact .inr (goes_sp _ _ (hZ b (by simp)) _)) (h3 _)
  have h5 := Lx.sps X (p := 0) hX (Lx.wd (0 + X.length) k A n (32 :: (Y ++ (B ++ Z))) _ hA (.inr (goes_sp _ _ (by decide) _)) (.sp _ 32 _ _ (by decide) (Lx.sps Y hY (h4 _))))
  have h6 := complA h5
  subst h0 h1 h2 h7 h8
  have e : 0 + X.length + A.length + 1 + Y.length = (X ++ A ++ [32] ++ Y).length := by simp only [List.length_append, List.length_cons, List.length_nil]; omega
  rw [show X ++ A ++ [32] ++ Y ++ B ++ Z = X ++ (A ++ 32 :: (Y ++ (B ++ Z))) by simp, h6, e, Nat.zero_add]
set_option maxHeartbeats 4000000 in
set_option maxRecDepth 100000 in
theorem space_walk (a b : Int) (xa : Option Addr) (xl xc : Nat) (xz : List Int) (ya : Option Addr) (yl yc : Nat) (yz : List Int) (za : Option Addr) (zl zc : Nat) (zz : List Int) (ha0 : 0 ≤ a) (ha1 : a ≤ 255) (hb0 : 0 ≤ b) (hb1 : b ≤ 255) (w : World)
    (hx : IsRow .u8 w xa xl xc xz) (hxz : ∀ z ∈ xz, (Lit.int .u8 z).wf = true) (hy : IsRow .u8 w ya yl yc yz) (hyz : ∀ z ∈ yz, (Lit.int .u8 z).wf = true) (hz : IsRow .u8 w za zl zc zz) (hzz : ∀ z ∈ zz, (Lit.int .u8 z).wf = true) (hT : Tabs w) :
    Calls Tryd.prog 6 #[.int .u8 a, .int .u8 b, .slice xa xl xc, .slice ya yl yc, .slice za zl zc] w fun e w' => e = .returned (.bool true) ∧ Below w.heap.size w w' := by
  obtain ⟨i, hi⟩ : ∃ i : Nat, a % 8 = (i : Int) := ⟨(a % 8).toNat, by omega⟩
  obtain ⟨j, hj⟩ : ∃ j : Nat, b % 8 = (j : Int) := ⟨(b % 8).toNat, by omega⟩
  have ti : a.tmod 8 = (i : Int) := by rw [Int.tmod_eq_emod_of_nonneg ha0]; exact hi
  have tj : b.tmod 8 = (j : Int) := by rw [Int.tmod_eq_emod_of_nonneg hb0]; exact hj
  have hi8 : (i : Int) < 8 := by omega
  have hj8 : (j : Int) < 8 := by omega
  obtain ⟨A, ka, na, eA, wA, lA⟩ := ltT_at i (by omega)
  obtain ⟨B, kb, nb, eB, wB, lB⟩ := ltT_at j (by omega)
  have HWA := Lib.hid wA
  have HWB := Lib.hid wB
  have HX := Lib.hid hxz
  have HY := Lib.hid hyz
  have HZ := Lib.hid hzz
  clear hi hj wA wB hxz hyz hzz
  go_enter Tryd.func6, Tryd.ntmps6
  go_wp2_with fail
  refine (examples_any w hT).mono ?_
  rintro e w1 ⟨rfl, bx⟩
  have bA : Below w1.heap.size w1 (w1.alloc (.cells ((ltT.map fun s => Value.string (str s)).toArray) 9)) := (Below.refl _ _).alloc (Nat.le_refl _) _
  have cA := cell_new w1 ltT 9 i A eA
  have cB := cell_new w1 ltT 9 j B eB
  obtain ⟨W, hW⟩ : ∃ W, w1.alloc (.cells ((ltT.map fun s => Value.string (str s)).toArray) 9) = W := ⟨_, rfl⟩
  rw [hW] at bA cA cB
  have hW2 : w1.alloc (.cells #[.string { data := #[97] }, .string { data := #[87, 73, 84, 72, 73, 78] }, .string { data := #[49, 50] }, .string { data := #[195, 169] }, .string { data := #[60, 61] }, .string { data := #[40] }, .string { data := #[120, 57] }, .string { data := #[33, 61] }] 9) = W := hW
  obtain ⟨g, hg⟩ : ∃ g, w1.heap.size = g := ⟨_, rfl⟩
  rw [hg] at cA cB
  have B0 := bx.trans (bA.mono bx.size)
  have gc : g < W.heap.size := World.block_lt_of_cell? _ _ cA
  clear hW eA eB bA
  go_wp2_with fail
  clear hW2 hg
  refine (space_any xa xl xc xz W (hx.below B0) HX.out).mono ?_
  rintro e w2 ⟨X, rfl, sX, lX, b2⟩
  have B2 := B0.trans (b2.mono B0.size)
  have hy2 := hy.below B2
  have C2 : Hid (w2.drew.cell? ⟨g, i, none⟩ = some (.string (str A))) := Lib.hid ((b2.cell gc).trans cA)
  have cB2 := (b2.cell gc).trans cB
  have cA2 := (b2.cell gc).trans cA
  have HSX := Lib.hid sX
  have zX := str_size X
  obtain ⟨U, hU, a1⟩ : ∃ U, X ++ A = U ∧ ∀ W, (Op.stringOp .add (str X) (str A)).run Tryd.prog W = .ok (.string (str U)) W := ⟨_, rfl, run_add_str X A (by omega)⟩
  have lU : U.length ≤ 16 := by rw [← hU, List.length_append]; omega
  obtain ⟨V, hV, a2⟩ : ∃ V, U ++ [32] = V ∧ ∀ W, (Op.stringOp .add (str U) { data := #[32] }).run Tryd.prog W = .ok (.string (str V)) W := ⟨_, rfl, run_add_str U [32] (by simp; omega)⟩
  have lV : V.length ≤ 17 := by rw [← hV, List.length_append, List.length_singleton]; omega
  have HU := Lib.hid hU
  have HV := Lib.hid hV
  have gc2 : g < w2.heap.size := Nat.lt_of_lt_of_le gc b2.size
  clear sX cA cB B0 b2 hU hV
  go_wp2_with fail
  go_region_held3 (fun w' => w'.cell? ⟨g, i, none⟩ = some (.string (str A)))
    (first | with_reducible exact C3.out | with_reducible exact C2.out)
    ((go_at_call 12; refine (space_any ya yl yc yz _ (hy2.below (Below.refl _ _).drew) HY.out).mono ?_; rintro e w3 ⟨Y, rfl, sY, lY, b3'⟩; have b3 : Below w2.heap.size w2 w3 := (Below.refl _ w2).drew.trans b3'; have C3 : Hid (w3.cell? ⟨g, i, none⟩ = some (.string (str A))) := Lib.hid ((b3.cell gc2).trans cA2); obtain ⟨S2, hS2, a3⟩ : ∃ S2, V ++ Y = S2 ∧ ∀ W, (Op.stringOp .add (str V) (str Y)).run Tryd.prog W = .ok (.string (str S2)) W := ⟨_, rfl, run_add_str V Y (by omega)⟩; have HS2 := Lib.hid hS2; have l2 : S2.length ≤ 27 := (by rw [← hS2, List.length_append]; omega); clear hS2; have HSY := Lib.hid sY; clear b3' sY))
  have cA3 := (b3.cell gc2).trans cA2
  have cB3 := (b3.cell gc2).trans cB2
  have B3 := B2.trans (b3.mono B2.size)
  have hz3 := hz.below B3
  have z2 := str_size S2
  have gc3 : g < w3.heap.size := Nat.lt_of_lt_of_le gc2 b3.size
  have C4 : Hid (w3.drew.cell? ⟨g, j, none⟩ = some (.string (str B))) := Lib.hid cB3
  obtain ⟨S3, hS3, a4⟩ : ∃ S3, S2 ++ B = S3 ∧ ∀ W, (Op.stringOp .add (str S2) (str B)).run Tryd.prog W = .ok (.string (str S3)) W := ⟨_, rfl, run_add_str S2 B (by omega)⟩
  have l3 : S3.length ≤ 33 := by rw [← hS3, List.length_append]; omega
  have HS3 := Lib.hid hS3
  clear a1 a2 a3 C2 C3 cA2 cB2 B2 b3 hS3
  go_wp2_with fail
  go_region_held3 (fun w' => w'.cell? ⟨g, j, none⟩ = some (.string (str B)))
    (first | with_reducible exact C5.out | with_reducible exact C4.out)
    ((go_at_call 12; refine (space_any za zl zc zz _ (hz3.below (Below.refl _ _).drew) HZ.out).mono ?_; rintro e w4 ⟨Z, rfl, sZ, lZ, b4'⟩; have b4 : Below w3.heap.size w3 w4 := (Below.refl _ w3).drew.trans b4'; have C5 : Hid (w4.cell? ⟨g, j, none⟩ = some (.string (str B))) := Lib.hid ((b4.cell gc3).trans cB3); obtain ⟨S, hS, a5⟩ : ∃ S, S3 ++ Z = S ∧ ∀ W, (Op.stringOp .add (str S3) (str Z)).run Tryd.prog W = .ok (.string (str S)) W := ⟨_, rfl, run_add_str S3 Z (by omega)⟩; have HS := Lib.hid hS; have lS : S.length ≤ 2048 := (by rw [← hS, List.length_append]; omega); clear hS; have HSZ := Lib.hid sZ; clear b4' sZ))
  have cA4 := (b4.cell gc3).trans cA3
  have cB4 := (b4.cell gc3).trans cB3
  have B4 := B3.trans (b4.mono B3.size)
  have hlx := space_lex HSX.out HSY.out HSZ.out HWA.out HWB.out HU.out HV.out HS2.out HS3.out HS.out
  have zS := str_size S
  have gc4 : g < w4.heap.size := Nat.lt_of_lt_of_le gc3 b4.size
  clear a4 a5 C4 C5 cA3 cB3 B3 b4
  have ga := all_good hlx w4 lS (hT.below B4)
  clear hlx
  go_wp2_with fail
  refine ga.mono ?_
  rintro e w5 ⟨Ad, c, rfl, hk, b5⟩
  obtain ⟨bl, off, rfl, p0, p1, p2, p3⟩ := hk.at_ 0 (by simp)
  obtain ⟨_, _, e1, q0, q1, q2, q3⟩ := hk.at_ 1 (by simp)
  cases e1
  simp at p1 p3 q1 q3
  have cA5 := (b5.cell gc4).trans cA4
  have cB5 := (b5.cell gc4).trans cB4
  have B5 := B4.trans (b5.mono B4.size)
  clear ga p0 p2 q0 q2 hk cA4 cB4 b5 B4
  go_wp2_with fail
  go_quiet (fail)
  go_wp2_with fail
  go_ret
  exact ⟨rfl, below_drewN B5 _⟩
end Go.Proofs.YtblpbgknnnpamaaDoor
