/- Layer 8: the closure that notes what is bad; contrary, operate, asNumber. -/
import Derived.Test.YtbhjimlikffalaaDoorVaLook
import Derived.Test.YtbhjimlikffalaaDoorExFr
import Derived.Test.YtbhjimlikffalaaDoorExSaid
namespace Go.Proofs.YtbhjimlikffalaaDoor
open Go.RowKit
set_option linter.unusedVariables false

/-- A value: a number, or a truth. -/
inductive Vl where
  | n (x : Int)
  | t (b : Bool)
def Vl.val : Vl → Value
  | .n x => .iface 85 (.int .i64 x)
  | .t b => .iface 110 (.bool b)
/-- The closure over block p. -/
abbrev clo (p : Nat) : Value := .func (.func 57) #[] #[.pointer (some ⟨p, 0, none⟩)]
/-- Block p says whether something was bad. -/
abbrev Bad (w : World) (p : Nat) (b : Bool) : Prop := Has w p 4 #[.bool b]
theorem enters_clo : ∀ args w, (callFunc 57 args).run Tryd.prog w = .ok (.enter 57 args) w := enters_of Tryd.func57 (by kernel_rfl) rfl
set_option maxHeartbeats 1000000 in
theorem clo_any (x : Int) (ok bad : Bool) (p : Nat) (w : World) (h : Bad w p bad) :
    Calls Tryd.prog 57 #[.int .i64 x, .bool ok, .pointer (some ⟨p, 0, none⟩)] w fun e w' => e = .returned (.int .i64 x) ∧ Bad w' p (bad || !ok) ∧ FrP p w w' := by
  have c0 : w.cell? ⟨p, 0, none⟩ = some (.bool bad) := h.cell 0
  have f0 : w.frozen? ⟨p, 0, none⟩ = false := h.free 0
  have HP : ∀ b, Bad (w.setCell ⟨p, 0, none⟩ (.bool b)) p b := fun b => h.put 0 (.bool b)
  have HF : ∀ b, FrP p w (w.setCell ⟨p, 0, none⟩ (.bool b)) := fun b => FrP.set h.lt 0 (.bool b)
  have H1 := Lib.hid HP
  have H2 := Lib.hid HF
  clear HP HF h
  cases bad <;> cases ok
  all_goals
    go_enter Tryd.func57, Tryd.ntmps57
    go_wp2
    all_goals go_ret
    all_goals exact ⟨rfl, H1.out _, H2.out _⟩
/-- What an operation of two numbers tells; whether it is bad. -/
def operV (op : Nm) (a b : Int) : Vl × Bool :=
  if op = [43] then (.n (addV a b).1, !(addV a b).2) else if op = [45] then (.n (subV a b).1, !(subV a b).2) else if op = [42] then (.n (mulV a b).1, !(mulV a b).2)
  else if op = [47] then (.n (divV a b).1, !(divV a b).2) else if op = [37] then (.n (remV a b).1, !(remV a b).2) else (.t (cmpV op a b), false)
theorem ret_vl {a b : Vl} (h : a = b) : Ending.returned a.val = .returned b.val := by rw [h]
set_option maxHeartbeats 4000000 in
theorem operate_any (op : Nm) (a b : Int) (ha : in64 a) (hb : in64 b) (bad : Bool) (p : Nat) (w : World) (h : Bad w p bad) :
    Calls Tryd.prog 79 #[.string (str op), .int .i64 a, .int .i64 b, clo p] w fun e w' => e = .returned (operV op a b).1.val ∧ Bad w' p (bad || (operV op a b).2) ∧ FrP p w w' := by
  obtain ⟨r, hr⟩ : ∃ r, operV op a b = r := ⟨_, rfl⟩
  rw [hr]
  have e1 := str_toList op
  have ec := enters_clo
  have HR := Lib.hid hr
  have HA := Lib.hid (add_any a b ha hb)
  have HS := Lib.hid (sub_any a b ha hb)
  have HM := Lib.hid (mul_any a b ha hb)
  have HD := Lib.hid (div_any a b ha)
  have HQ := Lib.hid (rem_any a b ha hb)
  have HC := Lib.hid (compares_any op a b)
  have HB := Lib.hid (fun x ok => clo_any x ok bad p w h)
  have HF := Lib.hid (FrP.refl p w)
  have HH := Lib.hid h
  clear hr ha hb h
  go_enter Tryd.func79, Tryd.ntmps79
  go_wp2_with (first
    | (go_at_call 19; refine (HA.out _).mono ?_; rw [two]; rintro e w' ⟨rfl, rfl⟩)
    | (go_at_call 21; refine (HS.out _).mono ?_; rw [two]; rintro e w' ⟨rfl, rfl⟩)
    | (go_at_call 23; refine (HM.out _).mono ?_; rw [two]; rintro e w' ⟨rfl, rfl⟩)
    | (go_at_call 25; refine (HD.out _).mono ?_; rw [two]; rintro e w' ⟨rfl, rfl⟩)
    | (go_at_call 27; refine (HQ.out _).mono ?_; rw [two]; rintro e w' ⟨rfl, rfl⟩)
    | (go_at_call 101; refine (HC.out _).mono ?_; rintro e w' ⟨rfl, rfl⟩)
    | (go_at_fn 57; refine (HB.out _ _).mono ?_; rintro e w1 ⟨rfl, bd1, fr1⟩))
  all_goals go_ret
  all_goals rw [← HR.out]
  all_goals refine ⟨ret_val ?_, ?_, ?_⟩
  all_goals first | exact HF.out | assumption | (simp_all [operV, Vl.val]; done) | (have := HH.out; simp_all [operV]; done)
end Go.Proofs.YtbhjimlikffalaaDoor
