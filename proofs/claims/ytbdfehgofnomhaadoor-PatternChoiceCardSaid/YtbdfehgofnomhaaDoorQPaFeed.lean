/- Layer 9: bytes that a query is made of: the reader, a Ref. -/
import Derived.Test.YtbdfehgofnomhaaDoorQMe
namespace Go.Proofs.YtbdfehgofnomhaaDoor
open Go.RowKit
set_option linter.unusedVariables false

/-- What the reader bears: the bytes, the names ahead, their kinds, how many items there were. -/
structure PK where
  L : Option Addr
  V : Option Addr
  O : Option Addr
  n : Nat
  c : Nat
  m : Nat
  cv : Nat
  co : Nat
  M : Int
abbrev PK.row (K : PK) (i : Int) : Array Value := #[.slice K.L K.n K.c, .int .i64 i, .slice K.V K.m K.cv, .slice K.O K.m K.co, .int .i64 K.M]
/-- What lies below it. -/
structure PdC (w0 : World) (K : PK) (bs : List Int) (vs os : List Nm) : Prop where
  len : bs.length = K.n
  cap : K.n ≤ 9223372036854775807
  byt : ∀ x ∈ bs, 0 ≤ x ∧ x ≤ 255
  l : Lies w0 K.L (bs.map (Value.int .u8))
  v : Strs w0 K.V K.cv vs
  o : Strs w0 K.O K.co os
  vm : vs.length = K.m
  om : os.length = K.m
  nam : ∀ x ∈ vs, nameB x = true
theorem PdC.below {w0 w : World} {K : PK} {bs : List Int} {vs os : List Nm} (h : PdC w0 K bs vs os) (hb : Below w0.heap.size w0 w) : PdC w K bs vs os :=
  ⟨h.len, h.cap, h.byt, h.l.below hb, h.v.below hb, h.o.below hb, h.vm, h.om, h.nam⟩
theorem hidB_below {p B : Nat} {w w' : World} (hb : Below B w w') (hp : p < w.heap.size) : Below B (hidB p w) (hidB p w') :=
  ⟨hb.os, hb.tape, hb.output, by rw [hid_size, hid_size]; exact hb.size, fun q hq => by
    by_cases e : q = p
    · subst e; rw [hid_same _ hp, hid_same _ (Nat.lt_of_lt_of_le hp hb.size)]
    · rw [hid_block _ e, hid_block _ e]; exact hb.block q hq⟩
theorem hid_ne {p : Nat} {w : World} {a : Addr} {v : Value} (h : (hidB p w).cell? a = some v) (hp : p < w.heap.size) : a.block ≠ p := by
  intro e
  have h2 := hid_same (p := p) w hp
  simp only [World.cell?, e, h2] at h
  revert h
  cases a.spot <;> simp
/-- The reader at block p: what lies below it lies in w0, none of it in p. -/
def Pd (w0 : World) (p : Nat) (K : PK) (w : World) : Prop := ∃ i : Nat, Below w0.heap.size w0 (hidB p w) ∧ Has w p 70 (K.row i) ∧ i ≤ K.n
theorem Pd.size {w0 w : World} {p : Nat} {K : PK} (h : Pd w0 p K w) : w0.heap.size ≤ w.heap.size := by
  have := h.choose_spec.1.size
  rwa [hid_size] at this
theorem Pd.lt {w0 w : World} {p : Nat} {K : PK} (h : Pd w0 p K w) : p < w.heap.size := h.choose_spec.2.1.lt
theorem Pd.hcell {w0 w : World} {p : Nat} {K : PK} (h : Pd w0 p K w) {a : Addr} {v : Value} (hv : w0.cell? a = some v) : (hidB p w).cell? a = some v := below_imp h.choose_spec.1 _ _ hv
theorem Pd.cell {w0 w : World} {p : Nat} {K : PK} (h : Pd w0 p K w) {a : Addr} {v : Value} (hv : w0.cell? a = some v) : w.cell? a = some v := hid_cell (h.hcell hv)
theorem Pd.belowB {w0 : World} {p : Nat} {K : PK} {B : Nat} {w w' : World} (h : Pd w0 p K w) (hb : Below B w w') (hp : p < B) (h0 : w0.heap.size ≤ B) : Pd w0 p K w' := by
  have hpl := h.lt
  obtain ⟨i, h1, h2, h3⟩ := h
  exact ⟨i, h1.trans ((hidB_below hb hpl).mono h0), h2.below hb hp, h3⟩
theorem Pd.below {w0 : World} {p : Nat} {K : PK} {w w' : World} (h : Pd w0 p K w) (hb : Below w.heap.size w w') : Pd w0 p K w' := h.belowB hb h.lt h.size
theorem Pd.vars {w0 w : World} {p : Nat} {K : PK} (h : Pd w0 p K w) : w.cell? ⟨p, 2, none⟩ = some (.slice K.V K.m K.cv) ∧ w.cell? ⟨p, 3, none⟩ = some (.slice K.O K.m K.co) := by
  obtain ⟨i, h1, h2, h3⟩ := h
  exact ⟨h2.cell 2, h2.cell 3⟩
set_option maxHeartbeats 2000000 in
theorem next_p {w0 : World} {K : PK} {bs : List Int} {vs os : List Nm} (hC : PdC w0 K bs vs os) (p : Nat) (w : World) (h : Pd w0 p K w) :
    Calls Tryd.prog 32 #[.pointer (some ⟨p, 0, none⟩)] w fun e w' => ∃ x : Int, e = .returned (.int .i64 x) ∧ (0 ≤ x ∧ x ≤ 255) ∧ Pd w0 p K w' ∧ FrP p w w' := by
  have hPd := h
  have hpl := h.lt
  obtain ⟨i, h0, h1, h2⟩ := h
  have hn := hC.cap
  have hl := hC.len
  have hlt := h1.lt
  have c0 : w.cell? ⟨p, 0, none⟩ = some (.slice K.L K.n K.c) := h1.cell 0
  have c1 : w.cell? ⟨p, 1, none⟩ = some (.int .i64 i) := h1.cell 1
  by_cases hin : i < K.n
  · have hu : (bs.map (Value.int .u8))[i]? = some (.int .u8 (bs.getD i 0)) := by
      rw [List.getElem?_map, List.getElem?_eq_getElem (by omega), List.getD_eq_getElem?_getD, List.getElem?_eq_getElem (by omega)]; rfl
    obtain ⟨b, off, hKL, hc⟩ := hC.l.at_ hu
    rw [hKL] at c0
    have hbl := World.block_lt_of_cell? _ _ hc
    simp only at hbl
    have hcw := hPd.cell hc
    have hbp : b ≠ p := hid_ne (hPd.hcell hc) hpl
    have hby : 0 ≤ bs.getD i 0 ∧ bs.getD i 0 ≤ 255 := by
      rw [List.getD_eq_getElem?_getD, List.getElem?_eq_getElem (by omega), Option.getD_some]
      exact hC.byt _ (List.getElem_mem _)
    generalize bs.getD i 0 = x at *
    have f0 := h1.free 0
    have f1 : w.frozen? ⟨p, 1, none⟩ = false := h1.free 1
    have HP := Lib.hid (h1.put 1 (.int .i64 ((i : Int) + 1)))
    have HF := Lib.hid (FrP.set (p := p) hlt 1 (.int .i64 ((i : Int) + 1)))
    have H0 := Lib.hid h0
    have HSZ := Lib.hid hPd.size
    have HI := Lib.hid hin
    have HBY := Lib.hid hby
    have k0 : (w.setCell ⟨p, 1, none⟩ (.int .i64 ((i : Int) + 1))).cell? ⟨p, 0, none⟩ = some (.slice (some ⟨b, off, none⟩) K.n K.c) := by have := HP.out.cell 0; rw [← hKL]; simpa using this
    have k1 : (w.setCell ⟨p, 1, none⟩ (.int .i64 ((i : Int) + 1))).cell? ⟨p, 1, none⟩ = some (.int .i64 ((i : Int) + 1)) := by have := HP.out.cell 1; simpa using this
    have k2 : (w.setCell ⟨p, 1, none⟩ (.int .i64 ((i : Int) + 1))).cell? ⟨b, off + i, none⟩ = some (.int .u8 x) := by rw [cell_block (p := ⟨b, off + i, none⟩) ((HF.out).block (q := b) (by have := hPd.size; omega) hbp)]; exact hcw
    have hge : ¬ K.n ≤ i := by omega
    clear h0 hC hu hc h1 hcw hbl hbp hKL hPd hpl
    go_enter Tryd.func32, Tryd.ntmps32
    go_wp2_with fail
    go_region
    go_wp2_with fail
    clear c0 c1 f0 f1
    go_region
    go_wp2_with fail
    go_ret
    refine ⟨x, rfl, HBY.out, ⟨i + 1, ?_, ?_, HI.out⟩, ?_⟩
    · have hb := H0.out.trans (Below.mono (show Below w.heap.size (hidB p w) (hidB p (w.setCell ⟨p, 1, none⟩ (.int .i64 ((i : Int) + 1)))) from HF.out) HSZ.out)
      exact ⟨hb.os, hb.tape, hb.output, hb.size, hb.block⟩
    · have hp := HP.out
      rw [Int.natCast_succ]
      simp at hp
      exact hp
    · have hb : Below w.heap.size (hidB p w) (hidB p (w.setCell ⟨p, 1, none⟩ (.int .i64 ((i : Int) + 1)))) := HF.out
      exact ⟨hb.os, hb.tape, hb.output, hb.size, hb.block⟩
  · have hge : K.n ≤ i := by omega
    have H0 := Lib.hid hPd
    have HL := Lib.hid hlt
    clear h0 h1 h2 hC hl hin hlt hPd hpl
    go_enter Tryd.func32, Tryd.ntmps32
    go_wp2_with fail
    go_region
    go_wp2_with fail
    go_ret
    exact ⟨0, rfl, by omega, H0.out.below (Below.refl _ w).drew, FrP.below HL.out (Below.refl _ w).drew⟩
theorem pmap3_any (l : Nm) (w : World) : Calls Tryd.prog 82 #[.string (str l)] w fun e w' => e = .returned (.string (str (if l = [66] then [121] else [120]))) ∧ w = w' := by
  have hs := str_toList l
  obtain ⟨r, hr⟩ : ∃ r, (if l = [66] then ([121] : Nm) else [120]) = r := ⟨_, rfl⟩
  rw [hr]
  go_enter Tryd.func82, Tryd.ntmps82
  go_wp2
  all_goals go_ret
  all_goals (refine ⟨?_, rfl⟩; subst hr; simp_all [str])
end Go.Proofs.YtbdfehgofnomhaaDoor
