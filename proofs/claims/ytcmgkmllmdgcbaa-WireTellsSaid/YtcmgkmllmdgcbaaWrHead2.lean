/- What the statements of layer 5 ask ahead, that the chapter's examples are so, returns true, in any memory. -/
import Derived.Test.YtcmgkmllmdgcbaaWrHead
namespace Go.Proofs.Ytcmgkmllmdgcbaa
open Go.RowKit
set_option linter.unusedVariables false

def exT : List UInt8 := wput 1 (-2) [7, -1]
theorem ex1 : exT.length = 26 := by kernel_rfl
theorem ex2 : wok 1 [7, -1] = true := by kernel_rfl
theorem ex3 : gK exT = 1 := by kernel_rfl
theorem ex4 : gT exT = -2 := by kernel_rfl
theorem ex5 : gV exT = [7, -1] := by kernel_rfl
theorem ex6 : gE exT = 0 := by kernel_rfl
theorem ex7 : gok (exT ++ [120]) = false := by kernel_rfl
theorem ex8 : gok [] = false := by kernel_rfl
theorem ex9 : wok 256 [] = false := by kernel_rfl
theorem ex10 : sameE 1 (-2) [7, -1] 1 (-2) [7, -1] = true := by unfold sameE; simp
theorem ex11 : fitE [2, 2, 3] 1 2 = 0 := by kernel_rfl
theorem ex12 : fitE [2, 2, 3] 3 0 = 5 := by kernel_rfl
theorem ex13 : fitE [2, 2, 3] 0 0 = 7 := by kernel_rfl
theorem fl_small : ∀ (i m : Nat), [2, 2, 3][i]? = some m → m ≤ maxLen := by
  intro i m hi
  unfold maxLen
  match i, hi with
  | 0, hi => cases hi; omega
  | 1, hi => cases hi; omega
  | 2, hi => cases hi; omega
theorem exSame (A B : Option Addr) (c d : Nat) (w : World) (h1 : Lies w A (ints [7, -1])) (h2 : Lies w B (ints [7, -1])) :
    Calls Try.prog 18 #[ev 1 (-2) A 2 c, ev 1 (-2) B 2 d] w fun e w' => e = .returned (.bool true) ∧ Below w.heap.size w w' := by
  have := wsame_any 1 (-2) 1 (-2) A B 2 c 2 d [7, -1] [7, -1] w rfl rfl (by unfold maxLen; omega) (by unfold maxLen; omega) h1 h2
  rwa [ex10] at this
theorem exSize (A : Option Addr) (c : Nat) (w : World) (h1 : Lies w A (ints [7, -1])) :
    Calls Try.prog 16 #[ev 1 (-2) A 2 c] w fun e w' => e = .returned (.int .i64 26) ∧ Below w.heap.size w w' := by
  have := wsize_any 1 (-2) A 2 c [7, -1] w (by omega) (by omega) rfl (by unfold maxLen; omega) h1
  rwa [show wput 1 (-2) [7, -1] = exT from rfl, ex1] at this
theorem exFits1 (A B : Option Addr) (c : Nat) (w : World) (h : KLies w B [2, 2, 3]) :
    Calls Try.prog 19 #[.slice B 3 3, ev 1 (-2) A 2 c] w fun e w' => e = .returned (.int .i64 0) ∧ Below w.heap.size w w' := by
  have := wfits_any B A [2, 2, 3] 3 3 1 (-2) 2 c w rfl (by unfold maxLen; omega) (by unfold maxLen; omega) fl_small h (by omega)
  rwa [ex11] at this
theorem exFits2 (B : Option Addr) (w : World) (h : KLies w B [2, 2, 3]) :
    Calls Try.prog 19 #[.slice B 3 3, ev 3 0 none 0 0] w fun e w' => e = .returned (.int .i64 5) ∧ Below w.heap.size w w' := by
  have := wfits_any B none [2, 2, 3] 3 3 3 0 0 0 w rfl (by unfold maxLen; omega) (by unfold maxLen; omega) fl_small h (by omega)
  rwa [ex12] at this
theorem exFits3 (B : Option Addr) (w : World) (h : KLies w B [2, 2, 3]) :
    Calls Try.prog 19 #[.slice B 3 3, ev 0 0 none 0 0] w fun e w' => e = .returned (.int .i64 7) ∧ Below w.heap.size w w' := by
  have := wfits_any B none [2, 2, 3] 3 3 0 0 0 0 w rfl (by unfold maxLen; omega) (by unfold maxLen; omega) fl_small h (by omega)
  rwa [ex13] at this
theorem wget_bad (s : ByteArray) (l : List UInt8) (w : World) (hl : s.data.toList = l) (hs : s.size ≤ 4611686018427387904) (h : gok l = false) :
    Calls Try.prog 12 #[.string s] w fun e w' => ∃ A, e = .returned (.tuple #[ev 0 0 A 0 0, .int .i64 7]) ∧ Below w.heap.size w w' := by
  refine (wget_any s l w hl hs).mono ?_
  rintro e w' ⟨A, rfl, hb, _⟩
  exact ⟨A, by simp [gK, gT, gV, gE, h], hb⟩
theorem exGet (w : World) :
    Calls Try.prog 12 #[.string (str exT)] w fun e w' => ∃ A, e = .returned (.tuple #[ev 1 (-2) A 2 2, .int .i64 0]) ∧ Below w.heap.size w w' ∧ Lies w' A (ints [7, -1]) := by
  refine (wget_any (str exT) exT w (str_data _) (by rw [str_size, ex1]; omega)).mono ?_
  rintro e w' ⟨A, rfl, hb, hl⟩
  rw [ex5] at hl
  exact ⟨A, by rw [ex3, ex4, ex5, ex6]; rfl, hb, hl⟩
theorem exPut (A : Option Addr) (c : Nat) (w : World) (h1 : Lies w A (ints [7, -1])) :
    Calls Try.prog 9 #[ev 1 (-2) A 2 c] w fun e w' => e = .returned (.tuple #[.string (str exT), .bool true]) ∧ Below w.heap.size w w' := by
  have := wput_any 1 (-2) A 2 c [7, -1] w (by omega) (by omega) rfl (by unfold maxLen; omega) h1
  rwa [ex2] at this
theorem lies_nil (w : World) (A : Option Addr) : Lies w A (ints []) := fun i u hu => by simp at hu
theorem exPut2 (w : World) :
    Calls Try.prog 9 #[ev 256 0 none 0 0] w fun e w' => e = .returned (.tuple #[.string (str []), .bool false]) ∧ Below w.heap.size w w' := by
  have := wput_any 256 0 none 0 0 [] w (by omega) (by omega) rfl (by unfold maxLen; omega) (lies_nil _ _)
  rwa [ex9, wput_no ex9] at this
theorem lies_two (w : World) (t : TypeId) (x y : Int) : Lies (w.alloc (.cells #[.int .i64 x, .int .i64 y] t)) (some ⟨w.heap.size, 0, none⟩) (ints [x, y]) :=
  Has.lies (t := t) (has_new w #[.int .i64 x, .int .i64 y] t)
/-- Both events of the examples lie in memory. -/
structure ExW (w0 wk : World) (p q : Nat) (A B : Option Addr) (c d : Nat) : Prop where
  e : Has wk p 24 #[.int .i64 1, .int .i64 (-2), .slice A 2 c]
  f : Has wk q 24 #[.int .i64 1, .int .i64 (-2), .slice B 2 d]
  la : Lies wk A (ints [7, -1])
  lb : Lies wk B (ints [7, -1])
  bel : Below w0.heap.size w0 wk
theorem ExW.next {w0 wk w' : World} {p q c d : Nat} {A B : Option Addr} (h : ExW w0 wk p q A B c d) (hb : Below wk.heap.size wk w') : ExW w0 w' p q A B c d :=
  ⟨h.e.next hb, h.f.next hb, h.la.below hb, h.lb.below hb, Below.step h.bel hb (Nat.le_refl _)⟩
theorem ExW.drew {w0 wk : World} {p q c d : Nat} {A B : Option Addr} (h : ExW w0 wk p q A B c d) : ExW w0 wk.drew p q A B c d := ⟨h.e, h.f, h.la, h.lb, h.bel.drew⟩
theorem ExW.cells {w0 wk : World} {p q c d : Nat} {A B : Option Addr} (h : ExW w0 wk p q A B c d) : (wk.cell? ⟨p, 0, none⟩ = some (.int .i64 1) ∧ wk.cell? ⟨p, 1, none⟩ = some (.int .i64 (-2)) ∧ wk.cell? ⟨p, 2, none⟩ = some (.slice A 2 c)) ∧ wk.cell? ⟨q, 0, none⟩ = some (.int .i64 1) ∧ wk.cell? ⟨q, 1, none⟩ = some (.int .i64 (-2)) ∧ wk.cell? ⟨q, 2, none⟩ = some (.slice B 2 d) :=
  ⟨h.e.three, h.f.three⟩

set_option maxRecDepth 100000 in
set_option maxHeartbeats 4000000 in
theorem examples_any (w : World) :
    Calls Try.prog 8 #[] w fun e w' => e = .returned (.bool true) ∧ Below w.heap.size w w' := by
  go_enter Try.func8, Try.ntmps8
  go_wp2_with fail
  have L0 := (lies_two w 2 7 (-1)).alloc (.cells #[.int .i64 1, .int .i64 (-2), .slice (some ⟨w.heap.size, 0, none⟩) 2 2] 24)
  have E0 : Has ((w.alloc (.cells #[.int .i64 7, .int .i64 (-1)] 2)).alloc (.cells #[.int .i64 1, .int .i64 (-2), .slice (some ⟨w.heap.size, 0, none⟩) 2 2] 24)) (w.heap.size + 1) 24 #[.int .i64 1, .int .i64 (-2), .slice (some ⟨w.heap.size, 0, none⟩) 2 2] := (two_new w #[.int .i64 7, .int .i64 (-1)] #[.int .i64 1, .int .i64 (-2), .slice (some ⟨w.heap.size, 0, none⟩) 2 2] 2 24).2.1
  have B0 := (two_new w #[.int .i64 7, .int .i64 (-1)] #[.int .i64 1, .int .i64 (-2), .slice (some ⟨w.heap.size, 0, none⟩) 2 2] 2 24).2.2
  generalize (w.alloc (.cells #[.int .i64 7, .int .i64 (-1)] 2)).alloc (.cells #[.int .i64 1, .int .i64 (-2), .slice (some ⟨w.heap.size, 0, none⟩) 2 2] 24) = v0 at *
  refine (exPut _ _ v0 L0).mono ?_
  rintro e v1 ⟨rfl, h1⟩
  have L1 := Lib.hid (L0.below h1)
  have E1 := Lib.hid (E0.next h1)
  have B1 := Lib.hid (Below.step B0 h1 (Nat.le_refl _))
  clear L0 E0 B0 h1
  go_wp2_with fail
  refine (exGet v1).mono ?_
  rintro e v2 ⟨Z, rfl, h2, hz⟩
  have L2 := Lib.hid ((L1.out.below h2).alloc (.cells #[.int .i64 1, .int .i64 (-2), .slice Z 2 2] 24))
  have E2 := Lib.hid ((E1.out.next h2).alloc (.cells #[.int .i64 1, .int .i64 (-2), .slice Z 2 2] 24))
  have F2 := Lib.hid (has_new v2 #[.int .i64 1, .int .i64 (-2), .slice Z 2 2] 24)
  have Z2 := Lib.hid (hz.alloc (.cells #[.int .i64 1, .int .i64 (-2), .slice Z 2 2] 24))
  have B2 := Lib.hid ((Below.step B1.out h2 (Nat.le_refl _)).alloc (Below.step B1.out h2 (Nat.le_refl _)).size (.cells #[.int .i64 1, .int .i64 (-2), .slice Z 2 2] 24))
  clear L1 E1 B1 h2 hz
  unfold ev
  have hr := run_add_str exT [120] (by rw [ex1]; decide)
  rw [show str [120] = { data := #[120] } from rfl] at hr
  go_wp2_with fail
  have X00 := Lib.hid (ExW.mk (w0 := w) E2.out F2.out L2.out Z2.out B2.out)
  clear E2 F2 L2 Z2 B2 hr
  generalize v2.alloc (.cells #[.int .i64 1, .int .i64 (-2), .slice Z 2 2] 24) = v3 at *
  refine (wget_bad (str (exT ++ [120])) (exT ++ [120]) v3 (str_data _) (by rw [str_size, List.length_append, ex1]; decide) ex7).mono ?_
  rintro e v4 ⟨Y, rfl, h4⟩
  have X01 := Lib.hid (X00.out.next h4)
  clear X00 h4
  unfold ev
  go_wp2_with fail
  have X02 := Lib.hid (X01.out.next ((Below.refl _ _).alloc (Nat.le_refl _) (.cells #[.int .i64 0, .int .i64 0, .slice Y 0 0] 24)))
  clear X01
  generalize v4.alloc (.cells #[.int .i64 0, .int .i64 0, .slice Y 0 0] 24) = v5 at *
  refine (wget_bad { data := #[] } [] v5 rfl (by decide) ex8).mono ?_
  rintro e v6 ⟨Y2, rfl, h6⟩
  have X03 := Lib.hid (X02.out.next h6)
  clear X02 h6
  unfold ev
  go_wp2_with fail
  have X04 := Lib.hid (X03.out.next ((Below.refl _ _).alloc (Nat.le_refl _) (.cells #[.int .i64 0, .int .i64 0, .slice Y2 0 0] 24)))
  clear X03
  generalize v6.alloc (.cells #[.int .i64 0, .int .i64 0, .slice Y2 0 0] 24) = v7 at *
  refine (exPut2 v7).mono ?_
  rintro e v8 ⟨rfl, h8⟩
  have X0 := Lib.hid (X04.out.next h8)
  clear X04 h8
  have hsz : (str exT).size = 26 := (str_size _).trans ex1
  go_wp2_with fail
  go_region_held3 (fun w' => (w'.cell? ⟨w.heap.size + 1, 0, none⟩ = some (.int .i64 1) ∧ w'.cell? ⟨w.heap.size + 1, 1, none⟩ = some (.int .i64 (-2)) ∧ w'.cell? ⟨w.heap.size + 1, 2, none⟩ = some (.slice (some ⟨w.heap.size, 0, none⟩) 2 2)) ∧ w'.cell? ⟨v2.heap.size, 0, none⟩ = some (.int .i64 1) ∧ w'.cell? ⟨v2.heap.size, 1, none⟩ = some (.int .i64 (-2)) ∧ w'.cell? ⟨v2.heap.size, 2, none⟩ = some (.slice Z 2 2))
    (first | exact X8.out.cells | exact X7.out.cells | exact X6.out.cells | exact X5.out.cells | exact X4.out.cells | exact X3.out.cells | exact X2.out.cells | exact X1.out.cells | exact X0.out.cells)
    (first
      | (have h9 := X7; clear h9; go_at_call 19; refine (exFits3 _ _ KL7.out).mono ?_; rintro e w107 ⟨rfl, h7⟩; have X8 := Lib.hid (X7.out.next h7); clear h7)
      | (have h9 := X6; clear h9; go_at_call 15; refine (kinds_any _).mono ?_; rintro e w106 ⟨A6, rfl, h6, hk6⟩; have X7 := Lib.hid (X6.out.next h6); have KL7 := Lib.hid hk6; clear h6 hk6)
      | (have h9 := X5; clear h9; go_at_call 19; refine (exFits2 _ _ KL5.out).mono ?_; rintro e w105 ⟨rfl, h5⟩; have X6 := Lib.hid (X5.out.next h5); clear h5)
      | (have h9 := X4; clear h9; go_at_call 15; refine (kinds_any _).mono ?_; rintro e w104 ⟨A4, rfl, h4, hk4⟩; have X5 := Lib.hid (X4.out.next h4); have KL5 := Lib.hid hk4; clear h4 hk4)
      | (have h9 := X3; clear h9; go_at_call 19; refine (exFits1 _ _ _ _ KL3.out).mono ?_; rintro e w103 ⟨rfl, h3⟩; have X4 := Lib.hid (X3.out.next h3); clear h3)
      | (have h9 := X2; clear h9; go_at_call 15; refine (kinds_any _).mono ?_; rintro e w102 ⟨A2, rfl, h2, hk2⟩; have X3 := Lib.hid (X2.out.next h2); have KL3 := Lib.hid hk2; clear h2 hk2)
      | (have h9 := X1; clear h9; go_at_call 16; refine (exSize _ _ _ X1.out.la).mono ?_; rintro e w101 ⟨rfl, h1⟩; have X2 := Lib.hid (X1.out.next h1); clear h1)
      | (have h9 := X0; clear h9; go_at_call 18; refine (exSame _ _ _ _ _ X0.out.drew.la X0.out.drew.lb).mono ?_; rintro e w100 ⟨rfl, h0⟩; have X1 := Lib.hid (X0.out.drew.next h0); clear h0))
  go_wp2
  go_ret
  exact ⟨rfl, X8.out.bel⟩
end Go.Proofs.Ytcmgkmllmdgcbaa
