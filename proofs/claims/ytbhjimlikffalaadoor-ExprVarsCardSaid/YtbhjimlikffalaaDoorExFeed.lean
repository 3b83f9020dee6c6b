/- Layer 7: bytes that a tree is made of; what a call leaves that turns one block alone. -/
import Derived.Test.YtbhjimlikffalaaDoorExTr
import Derived.Test.YtbhjimlikffalaaDoorExFr
namespace Go.Proofs.YtbhjimlikffalaaDoor
open Go.RowKit
set_option linter.unusedVariables false

/-- What lies below the bytes' reader: the bytes, the names. -/
structure FdC (w0 : World) (bs : List Int) (L V O : Option Addr) (n c : Nat) : Prop where
  len : bs.length = n
  cap : n ≤ 9223372036854775807
  byt : ∀ x ∈ bs, 0 ≤ x ∧ x ≤ 255
  l : Lies w0 L (bs.map (Value.int .u8))
  v : Strs w0 V 2 [[97], [98]]
  o : Strs w0 O 2 [[65], [66]]
/-- The reader at block p has come to place i. -/
def Fd (w0 : World) (p : Nat) (L V O : Option Addr) (n c : Nat) (i : Nat) (w : World) : Prop :=
  Below w0.heap.size w0 w ∧ Has w p 67 #[.slice L n c, .int .i64 i, .slice V 2 2, .slice O 2 2] ∧ i ≤ n ∧ w0.heap.size ≤ p
theorem Fd.below {w0 : World} {p : Nat} {L V O : Option Addr} {n c i : Nat} {w w' : World} (h : Fd w0 p L V O n c i w) (hb : Below w.heap.size w w') : Fd w0 p L V O n c i w' :=
  ⟨h.1.trans (hb.mono h.1.size), h.2.1.below hb h.2.1.lt, h.2.2⟩
/-- The next byte, and the place behind it. -/
def nx (bs : List Int) (i : Nat) : Int × Nat := if i < bs.length then (bs.getD i 0, i + 1) else (0, i)
theorem nx_b {bs : List Int} (h : ∀ x ∈ bs, 0 ≤ x ∧ x ≤ 255) (i : Nat) : 0 ≤ (nx bs i).1 ∧ (nx bs i).1 ≤ 255 := by
  unfold nx
  split
  · rename_i hi
    rw [List.getD_eq_getElem?_getD, List.getElem?_eq_getElem hi, Option.getD_some]
    exact h _ (List.getElem_mem hi)
  · simp
set_option maxHeartbeats 2000000 in
theorem next_any {w0 : World} {bs : List Int} {L V O : Option Addr} {n c : Nat} (hC : FdC w0 bs L V O n c) (p i : Nat) (w : World) (h : Fd w0 p L V O n c i w) :
    Calls Tryd.prog 65 #[.pointer (some ⟨p, 0, none⟩)] w fun e w' => e = .returned (.int .i64 (nx bs i).1) ∧ Fd w0 p L V O n c (nx bs i).2 w' ∧ FrP p w w' := by
  obtain ⟨h0, h1, h2, h3⟩ := h
  have hn := hC.cap
  have hl := hC.len
  have hlt := h1.lt
  have c0 : w.cell? ⟨p, 0, none⟩ = some (.slice L n c) := h1.cell 0
  have c1 : w.cell? ⟨p, 1, none⟩ = some (.int .i64 i) := h1.cell 1
  by_cases hin : i < n
  · have hu : (bs.map (Value.int .u8))[i]? = some (.int .u8 (bs.getD i 0)) := by
      rw [List.getElem?_map, List.getElem?_eq_getElem (by omega), List.getD_eq_getElem?_getD, List.getElem?_eq_getElem (by omega)]; rfl
    obtain ⟨b, off, rfl, hc⟩ := hC.l.at_ hu
    have hbl := World.block_lt_of_cell? _ _ hc
    simp only at hbl
    have hcw := (h0.cell (p := ⟨b, off + i, none⟩) hbl).trans hc
    have hbp : b ≠ p := by omega
    have e1 : nx bs i = (bs.getD i 0, i + 1) := by unfold nx; rw [if_pos (by omega)]
    have hby : 0 ≤ bs.getD i 0 ∧ bs.getD i 0 ≤ 255 := by
      rw [List.getD_eq_getElem?_getD, List.getElem?_eq_getElem (by omega), Option.getD_some]
      exact hC.byt _ (List.getElem_mem _)
    rw [e1]
    generalize bs.getD i 0 = x at *
    have f0 := h1.free 0
    have f1 : w.frozen? ⟨p, 1, none⟩ = false := h1.free 1
    have HP := Lib.hid (h1.put 1 (.int .i64 ((i : Int) + 1)))
    have HF := Lib.hid (FrP.set (p := p) hlt 1 (.int .i64 ((i : Int) + 1)))
    have H0 := Lib.hid h0
    have H3 := Lib.hid h3
    have HI := Lib.hid hin
    have k0 : (w.setCell ⟨p, 1, none⟩ (.int .i64 ((i : Int) + 1))).cell? ⟨p, 0, none⟩ = some (.slice (some ⟨b, off, none⟩) n c) := by have := HP.out.cell 0; simpa using this
    have k1 : (w.setCell ⟨p, 1, none⟩ (.int .i64 ((i : Int) + 1))).cell? ⟨p, 1, none⟩ = some (.int .i64 ((i : Int) + 1)) := by have := HP.out.cell 1; simpa using this
    have k2 : (w.setCell ⟨p, 1, none⟩ (.int .i64 ((i : Int) + 1))).cell? ⟨b, off + i, none⟩ = some (.int .u8 x) := by rw [cell_block (p := ⟨b, off + i, none⟩) ((HF.out).block (q := b) (by have := h0.size; omega) hbp)]; exact hcw
    have HBP := Lib.hid hbp
    have HLT := Lib.hid hlt
    have hge : ¬ n ≤ i := by omega
    clear h0 h3 hC hu hc e1 h1 hcw hbl hbp
    go_enter Tryd.func65, Tryd.ntmps65
    go_wp2_with fail
    go_region
    go_wp2_with fail
    clear c0 c1 f0 f1
    go_region
    go_wp2_with fail
    go_ret
    refine ⟨rfl, ⟨?_, ?_, HI.out, H3.out⟩, ?_⟩
    · have hb := H0.out.trans (HF.out.low H3.out H0.out.size)
      exact ⟨hb.os, hb.tape, hb.output, hb.size, hb.block⟩
    · have hp := HP.out
      rw [Int.natCast_succ]
      simp at hp
      exact hp
    · have hb : Below w.heap.size (hidB p w) (hidB p (w.setCell ⟨p, 1, none⟩ (.int .i64 ((i : Int) + 1)))) := HF.out
      exact ⟨hb.os, hb.tape, hb.output, hb.size, hb.block⟩
  · have e1 : nx bs i = (0, i) := by unfold nx; rw [if_neg (by omega)]
    rw [e1]
    have hge : n ≤ i := by omega
    have H0 := Lib.hid (show Fd w0 p L V O n c i w from ⟨h0, h1, h2, h3⟩)
    have HL := Lib.hid hlt
    clear h0 h1 h2 h3 hC hl hin e1 hlt
    go_enter Tryd.func65, Tryd.ntmps65
    go_wp2_with fail
    go_region
    go_wp2_with fail
    go_ret
    exact ⟨rfl, H0.out.below (Below.refl _ w).drew, FrP.below HL.out (Below.refl _ w).drew⟩
/- The Ref that a byte makes. -/
def refV (x : Int) : Nm := if x % 3 = 0 then (if x / 3 % 2 = 0 then [97] else [98]) else [99]
def refF (x : Int) : Nm := if x / 64 % 2 = 0 then [107] else if x % 3 = 0 ∧ x / 3 % 2 ≠ 0 then [121] else [120]
theorem map3_any (l : Nm) (w : World) : Calls Tryd.prog 105 #[.string (str l)] w fun e w' => e = .returned (.string (str (if l = [66] then [121] else [120]))) ∧ w = w' := by
  have hs := str_toList l
  obtain ⟨r, hr⟩ : ∃ r, (if l = [66] then ([121] : Nm) else [120]) = r := ⟨_, rfl⟩
  rw [hr]
  go_enter Tryd.func105, Tryd.ntmps105
  go_wp2
  all_goals go_ret
  all_goals (refine ⟨?_, rfl⟩; subst hr; simp_all [str])
end Go.Proofs.YtbhjimlikffalaaDoor
