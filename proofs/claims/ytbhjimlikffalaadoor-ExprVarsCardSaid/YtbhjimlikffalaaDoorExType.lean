/- Layer 7: Type. -/
import Derived.Test.YtbhjimlikffalaaDoorExRight
namespace Go.Proofs.YtbhjimlikffalaaDoor
open Go.RowKit
set_option linter.unusedVariables false

/- What an expression tells, Right or not. -/
mutual
def typT : ET → Int
  | .mk _ op _ _ _ _ _ ks => if typL (opT op).1 ks = true then (opT op).2 else 0
def typL (x : Int) : List ET → Bool
  | [] => true
  | t :: ts => decide (typT t = x) && typL x ts
end
theorem typT_eq (k : Int) (op : Nm) (n : Int) (v f : Nm) (A : Option Addr) (c : Nat) (ks : List ET) : typT (.mk k op n v f A c ks) = if typL (opT op).1 ks = true then (opT op).2 else 0 := by rw [typT]
theorem typL_cons (x : Int) (t : ET) (ts : List ET) : typL x (t :: ts) = (decide (typT t = x) && typL x ts) := by rw [typL]
theorem typL_nil (x : Int) : typL x [] = true := by rw [typL]
set_option maxHeartbeats 4000000 in
theorem typT_any : ∀ (t : ET) (w : World), t.In w → Calls Tryd.prog 42 #[t.val] w fun e w' => e = .returned (.int .i64 (typT t)) ∧ Below w.heap.size w w' := by
  refine ET.ind fun k op n v f A c ks ih w hin => ?_
  have hcap : ks.length ≤ 9223372036854775807 := by have := hin.ok.2.2.2.2.2.2; unfold maxLen at this; omega
  obtain ⟨R, hR⟩ : ∃ R, typT (.mk k op n v f A c ks) = R := ⟨_, rfl⟩
  rw [hR]
  rw [typT_eq] at hR
  obtain ⟨a, ha⟩ : ∃ x, (opT op).1 = x := ⟨_, rfl⟩
  obtain ⟨b, hb⟩ : ∃ x, (opT op).2 = x := ⟨_, rfl⟩
  rw [ha, hb] at hR
  obtain ⟨W, hW⟩ : ∃ W, W = w.alloc (.cells #[.int .i64 k, .string (str op), .int .i64 n, .string (str v), .string (str f), .slice A ks.length c] 24) := ⟨_, rfl⟩
  have hx : Has W w.heap.size 24 #[.int .i64 k, .string (str op), .int .i64 n, .string (str v), .string (str f), .slice A ks.length c] := by rw [hW]; exact heap_alloc_new w _
  have bl : Below w.heap.size w W := by rw [hW]; exact (Below.refl _ _).alloc (Nat.le_refl _) _
  have ho := operation_any k op n v f A ks.length c W
  rw [ha, hb] at ho
  unfold ex at ho
  have HO := Lib.hid ho
  have HB := Lib.hid bl
  have HR := Lib.hid hR
  have HX := Lib.hid hx
  have HI := Lib.hid ih
  have HK := Lib.hid hin
  have HW := Lib.hid hW
  clear ho bl hR hx ih hin hW ha hb
  show Calls _ _ #[ex k op n v f A ks.length c] _ _
  unfold ex
  go_enter Tryd.func42, Tryd.ntmps42
  go_wp2_with (go_at_call 67; rw [← HW.out]; refine HO.out.mono ?_; rintro e w1 ⟨rfl, b1⟩; have c5 : w1.cell? ⟨w.heap.size, 5, none⟩ = some (.slice A ks.length c) := Has.cell (HX.out.below b1 HX.out.lt) 5)
  have HB1 := Lib.hid (HB.out.trans (b1.mono HB.out.size))
  clear c5 b1 HB HX HO HW
  go_loopw [15] (fun i wr => ∃ j : Nat, j ≤ ks.length ∧ i = .int .i64 j ∧ typL a (ks.drop j) = typL a ks ∧ Below w.heap.size w wr) (fun i _ => ks.length - (intOf i).toNat)
  case atStart => exact ⟨0, Nat.zero_le _, rfl, rfl, HB1.out⟩
  case round =>
    obtain ⟨j, hj, rfl, hrest, hb⟩ := hrel
    have HRR := Lib.hid hrest
    have HBB := Lib.hid hb
    clear hrest hb
    by_cases hlt : j < ks.length
    · obtain ⟨⟨b', off, rfl, g0, g1, g2, g3, g4, g5⟩, hkin⟩ := (HK.out.kids j hlt).imp (fun h => h.below HBB.out) (fun h => h.below HBB.out)
      have e1 := drop_at hlt
      obtain ⟨x, hx⟩ : ∃ x, ks[j] = x := ⟨_, rfl⟩
      have hmem : x ∈ ks := by rw [← hx]; exact List.getElem_mem _
      rw [hx] at g0 g1 g2 g3 g4 g5 hkin e1
      obtain ⟨W, hW⟩ : ∃ W, W = wr.alloc (.cells #[.int .i64 x.k, .string (str x.op), .int .i64 x.n, .string (str x.v), .string (str x.f), .slice x.A x.ks.length x.c] 24) := ⟨_, rfl⟩
      have bl : Below wr.heap.size wr W := by rw [hW]; exact (Below.refl _ _).alloc (Nat.le_refl _) _
      have hcl := HI.out x hmem W (hkin.below bl)
      rw [show x.val = Value.agg #[.int .i64 x.k, .string (str x.op), .int .i64 x.n, .string (str x.v), .string (str x.f), .slice x.A x.ks.length x.c] from rfl] at hcl
      have bt := HBB.out.trans (bl.mono HBB.out.size)
      have hst : typL a (ks.drop j) = (decide (typT x = a) && typL a (ks.drop (j + 1))) := by rw [e1, typL_cons]
      obtain ⟨y, hy⟩ : ∃ y, typT x = y := ⟨_, rfl⟩
      rw [hy] at hcl hst
      have HC := Lib.hid hcl
      have HW := Lib.hid hW
      have HBT := Lib.hid bt
      have HST := Lib.hid hst
      clear hcl hW bt hst hkin e1 hx hmem bl hy
      by_cases hya : y = a
      · subst hya
        have d1 : (y != y) = false := by simp
        have HE := Lib.hid (HST.out.symm.trans HRR.out)
        clear HST HRR
        go_wp2_with (go_at_call 42; rw [← HW.out]; refine HC.out.mono ?_; rintro e w' ⟨rfl, hb2⟩)
        go_roundw
        case rel => exact ⟨j + 1, by omega, by go_num, by rw [← HE.out]; simp, HBT.out.trans (hb2.mono HBT.out.size)⟩
        case measure => simp [intOf]; omega
      · have d1 : (y != a) = true := by simpa using hya
        have HE : Hid (R = 0) := Lib.hid (by rw [← HR.out, ← HRR.out, HST.out, decide_eq_false hya]; rfl)
        clear HST HRR hya
        go_wp2_with (go_at_call 42; rw [← HW.out]; refine HC.out.mono ?_; rintro e w' ⟨rfl, hb2⟩)
        go_ret
        exact ⟨ret_int HE.out.symm, HBT.out.trans (hb2.mono HBT.out.size)⟩
    · have HE : Hid (R = b) := Lib.hid (by rw [← HR.out, ← HRR.out, List.drop_eq_nil_of_le (by omega), typL_nil, if_pos rfl])
      go_wp2
      go_ret
      exact ⟨ret_int HE.out.symm, HBB.out⟩
/-- What Type tells. -/
def typeT (t : ET) : Int := if rightT t = true then typT t else 0
theorem type_any (t : ET) (w : World) (hin : t.In w) (hT : Tabs8 w) :
    Calls Tryd.prog 8 #[t.val] w fun e w' => e = .returned (.int .i64 (typeT t)) ∧ Below w.heap.size w w' := by
  obtain ⟨u, hu⟩ : ∃ u, u = t.val := ⟨_, rfl⟩
  have hv : u = .agg #[.int .i64 t.k, .string (str t.op), .int .i64 t.n, .string (str t.v), .string (str t.f), .slice t.A t.ks.length t.c] := hu
  obtain ⟨W, hW⟩ : ∃ W, W = w.alloc (.cells #[.int .i64 t.k, .string (str t.op), .int .i64 t.n, .string (str t.v), .string (str t.f), .slice t.A t.ks.length t.c] 24) := ⟨_, rfl⟩
  have hx : Has W w.heap.size 24 #[.int .i64 t.k, .string (str t.op), .int .i64 t.n, .string (str t.v), .string (str t.f), .slice t.A t.ks.length t.c] := by rw [hW]; exact heap_alloc_new w _
  have bl : Below w.heap.size w W := by rw [hW]; exact (Below.refl _ _).alloc (Nat.le_refl _) _
  have hc := right_any t W (hin.below bl) (hT.below bl)
  have ht : ∀ u2 : World, Below W.heap.size W u2 → Calls Tryd.prog 42 #[t.val] u2 fun e w' => e = .returned (.int .i64 (typT t)) ∧ Below u2.heap.size u2 w' := fun u2 h => typT_any t u2 ((hin.below bl).below h)
  obtain ⟨R, hR⟩ : ∃ R, typeT t = R := ⟨_, rfl⟩
  rw [hR]
  rw [← hu] at hc ht ⊢
  rw [hv] at hc ht ⊢
  rw [typeT] at hR
  have HC := Lib.hid hc
  have HT := Lib.hid ht
  have HW := Lib.hid hW
  have HX := Lib.hid hx
  have HB := Lib.hid bl
  have HR := Lib.hid hR
  cases hr : rightT t with
  | false =>
    rw [hr] at HC HR
    clear hc ht hW hx bl hR hu hv
    go_enter Tryd.func8, Tryd.ntmps8
    go_wp2_with (go_at_call 9; rw [← HW.out]; refine HC.out.mono ?_; rintro e w1 ⟨rfl, b1⟩)
    go_ret
    exact ⟨ret_int (by rw [← HR.out]; rfl), HB.out.trans (b1.mono HB.out.size)⟩
  | true =>
    rw [hr] at HC HR
    obtain ⟨y, hy⟩ : ∃ y, typT t = y := ⟨_, rfl⟩
    rw [hy] at HT HR
    clear hc ht hW hx bl hR hu hv hy
    go_enter Tryd.func8, Tryd.ntmps8
    go_wp2_with (first | (go_at_call 9; rw [← HW.out]; refine HC.out.mono ?_; rintro e w1 ⟨rfl, b1⟩; obtain ⟨c0, c1, c2, c3, c4, c5⟩ := six_has (HX.out.below b1 HX.out.lt)) | (go_at_call 42; refine (HT.out _ b1).mono ?_; rintro e w2 ⟨rfl, b2⟩))
    go_ret
    exact ⟨ret_int (by rw [← HR.out]; rfl), HB.out.trans ((b1.trans (b2.mono b1.size)).mono HB.out.size)⟩
end Go.Proofs.YtbhjimlikffalaaDoor
