/- What Free does to an arena, as a contract. -/
import Derived.Test.YtglhebpblncjaaaDoorArFind
import Derived.BigRegion
namespace Go.Proofs.YtglhebpblncjaaaDoor
open Go.RowKit
set_option linter.unusedVariables false

/-- The arena's cells, with one slot's bit, what is charged and how many live turned. -/
theorem arc_word {cs cs' : Array Value} {s : Ar} {v v' : Value} (h : ArCells cs s v) {l : List Blk} {i x : Nat} (hi : i < 4096) (hx : x < 18446744073709551616)
    (hs : cs'.size = 69) (h0 : cs'[0]? = cs[0]?) (h1 : cs'[1]? = cs[1]?) (h2 : cs'[2]? = some (.int .i64 (chg l))) (h3 : cs'[3]? = some (.int .i64 (liv l))) (h4 : cs'[4]? = some v')
    (h5 : ∀ k, k ≠ i / 64 → cs'[5 + k]? = cs[5 + k]?) (h6 : cs'[5 + i / 64]? = some (.int .u64 (x : Int))) (hb : ∀ j, j < 64 → x.testBit j = lvb l (64 * (i / 64) + j)) (ho : ∀ j, j ≠ i → lvb l j = lvb s.l j) :
    ArCells cs' ⟨s.cap, s.lim, l⟩ v' := by
  refine ⟨hs, h0.trans h.cap, h1.trans h.lim, h2, h3, h4, fun k hk => ?_⟩
  by_cases e : k = i / 64
  · rw [e]; exact ⟨x, hx, h6, hb⟩
  · obtain ⟨y, a, b, c⟩ := h.bits k hk
    exact ⟨y, a, (h5 k e).trans b, fun j hj => (c j hj).trans (ho _ (by omega)).symm⟩

theorem free_lvb {l : List Blk} {i : Nat} (h : i < l.length) (j : Nat) : lvb (l.set i (frb (bk l i))) j = (lvb l j && decide (j ≠ i)) := by
  rw [lvb, lvb, bk_set h]
  by_cases e : j = i
  · rw [if_pos e, e]; simp [frb]
  · rw [if_neg e]; simp [e]
theorem free_cells {cs : Array Value} {s : Ar} {v : Value} (h : ArCells cs s v) {i x : Nat} (hl : i < s.l.length) (hi : i < 4096) (hx : x < 18446744073709551616) (hr : (bk s.l i).r ≠ 0) (hb : ∀ j, j < 64 → x.testBit j = lvb s.l (64 * (i / 64) + j)) :
    ArCells (((cs.setIfInBounds 2 (.int .i64 (chg s.l - (bk s.l i).r))).setIfInBounds 3 (.int .i64 (liv s.l - 1))).setIfInBounds (5 + i / 64) (.int .u64 ((clr x (i % 64) : Nat) : Int))) ⟨s.cap, s.lim, s.l.set i (frb (bk s.l i))⟩ v := by
  have hs := h.size
  refine arc_word h hi (clr_lt x (i % 64)) (by simpa using hs) ?_ ?_ ?_ ?_ ?_ (fun k hk => ?_) ?_ (fun j hj => ?_) (fun j hj => ?_)
  · rw [Array.getElem?_setIfInBounds_ne (by omega), Array.getElem?_setIfInBounds_ne (by omega), Array.getElem?_setIfInBounds_ne (by omega)]
  · rw [Array.getElem?_setIfInBounds_ne (by omega), Array.getElem?_setIfInBounds_ne (by omega), Array.getElem?_setIfInBounds_ne (by omega)]
  · rw [Array.getElem?_setIfInBounds_ne (by omega), Array.getElem?_setIfInBounds_ne (by omega), Array.getElem?_setIfInBounds_self_of_lt (by omega), chg_set hl]
    simp [frb]
  · rw [Array.getElem?_setIfInBounds_ne (by omega), Array.getElem?_setIfInBounds_self_of_lt (by simp; omega), liv_set hl]
    simp [frb, one, hr]
  · rw [Array.getElem?_setIfInBounds_ne (by omega), Array.getElem?_setIfInBounds_ne (by omega), Array.getElem?_setIfInBounds_ne (by omega)]
    exact h.row
  · rw [Array.getElem?_setIfInBounds_ne (by omega), Array.getElem?_setIfInBounds_ne (by omega), Array.getElem?_setIfInBounds_ne (by omega)]
  · rw [Array.getElem?_setIfInBounds_self_of_lt (by simp; omega)]
  · rw [clr_bit _ _ _ (by omega) hj, free_lvb hl, hb j hj]
    congr 1
    simp only [decide_eq_decide]
    omega
  · rw [free_lvb hl]; simp [hj]

theorem ArAt.drew {w : World} {B g : Nat} {v : Value} {s : Ar} (h : ArAt w B g v s) : ArAt w.drew B g v s := ⟨h.low, h.ne, h.wf, h.row, h.blk⟩
/-- The world that Free leaves. -/
theorem free_done {w w1 : World} {B g q cap : Nat} {s : Ar} (hA : ArAt w1 B g (.slice (some ⟨q, 0, none⟩) s.l.length cap) s) (hB : Below w.heap.size w w1) {i x : Nat} {gn : Int} (hh : hit s.l i gn = true) (hl : i < 4096) (hqg : g ≠ q) {b : Blk} (hbk : bk s.l i = b) {cs : Array Value}
    (k1 : Has w1 g 64 cs) (k2 : ArCells cs s (.slice (some ⟨q, 0, none⟩) s.l.length cap)) (hx : x < 18446744073709551616) (hb : ∀ j, j < 64 → x.testBit j = lvb s.l (64 * (i / 64) + j)) (W : World)
    (hW : W = (((((w1.setCell ⟨g, 2, none⟩ (.int .i64 (chg s.l - b.r))).setCell ⟨g, 3, none⟩ (.int .i64 (liv s.l - 1))).setCell ⟨g, 5 + i / 64, none⟩ (.int .u64 (bits BinOp.andNot IntKind.u64 (x : Int) (IntKind.u64.wrap (2 ^ (i % 64)))))).setCell ⟨q, i * 3, none⟩ (.string ⟨#[]⟩)).setCell ⟨q, i * 3 + 1, none⟩ (.int .i64 0)).setCell ⟨q, i * 3 + 2, none⟩ (.int .u32 ((b.g + 1) % 4294967296))) :
    ArAt W B g (.slice (some ⟨q, 0, none⟩) s.l.length cap) (fro s i gn) ∧ Fr g (some q) w W := by
  have hll := hit_lt hh
  have hr0 := hit_r hh
  have hw := fro_wf hA.wf i gn
  rw [clr_run x (i % 64) hx (by omega)] at hW
  have hrow := ((((setg_owns (setg_owns (setg_owns hA.row hA.ne 2 (.int .i64 (chg s.l - b.r))) hA.ne 3 (.int .i64 (liv s.l - 1))) hA.ne (5 + i / 64) (.int .u64 ((clr x (i % 64) : Nat) : Int))).stored (i * 3) (.string ⟨#[]⟩)).1.stored (i * 3 + 1) (.int .i64 0)).1.stored (i * 3 + 2) (.int .u32 ((b.g + 1) % 4294967296))).1
  have hset : (((scells s.l).set (i * 3) (.string ⟨#[]⟩)).set (i * 3 + 1) (.int .i64 0)).set (i * 3 + 2) (.int .u32 ((b.g + 1) % 4294967296)) = scells (s.l.set i (frb b)) := by
    have := scells_set s.l i (frb b)
    rw [Nat.mul_comm 3 i] at this
    exact this
  rw [hset] at hrow
  have hfc := free_cells k2 hll hl hx hr0.1 hb
  have k3 := ((k1.put 2 (.int .i64 (chg s.l - b.r))).put 3 (.int .i64 (liv s.l - 1))).put (5 + i / 64) (.int .u64 ((clr x (i % 64) : Nat) : Int))
  have hfr := ((((((Fr.of_below (g := g) (o := some q) hB).setg 2 (.int .i64 (chg s.l - b.r))).setg 3 (.int .i64 (liv s.l - 1))).setg (5 + i / 64) (.int .u64 ((clr x (i % 64) : Nat) : Int))).seto (i * 3) (.string ⟨#[]⟩)).seto (i * 3 + 1) (.int .i64 0)).seto (i * 3 + 2) (.int .u32 ((b.g + 1) % 4294967296))
  rw [fro, if_pos hh] at hw ⊢
  rw [hbk] at hfc hw ⊢
  generalize hw3 : ((w1.setCell ⟨g, 2, none⟩ (.int .i64 (chg s.l - b.r))).setCell ⟨g, 3, none⟩ (.int .i64 (liv s.l - 1))).setCell ⟨g, 5 + i / 64, none⟩ (.int .u64 ((clr x (i % 64) : Nat) : Int)) = w3 at *
  have e1 := Below.heap_setCell ((w3.setCell ⟨q, i * 3, none⟩ (.string ⟨#[]⟩)).setCell ⟨q, i * 3 + 1, none⟩ (.int .i64 0)) ⟨q, i * 3 + 2, none⟩ (.int .u32 ((b.g + 1) % 4294967296)) g hqg
  have e2 := Below.heap_setCell (w3.setCell ⟨q, i * 3, none⟩ (.string ⟨#[]⟩)) ⟨q, i * 3 + 1, none⟩ (.int .i64 0) g hqg
  have e3 := Below.heap_setCell w3 ⟨q, i * 3, none⟩ (.string ⟨#[]⟩) g hqg
  rw [← hW] at hrow hfr e1
  have hlen : (s.l.set i (frb b)).length = s.l.length := List.length_set
  refine ⟨⟨hA.low, hA.ne, hw, ?_, _, e1.trans (e2.trans (e3.trans k3)), hfc⟩, hfr⟩
  show W.ownsRow B 111 3 _ (s.l.set i (frb b)).length (scells (s.l.set i (frb b)))
  rw [hlen]
  exact hrow

set_option maxHeartbeats 1600000 in
theorem free_yes {w : World} {B g q cap : Nat} {s : Ar} (h : ArAt w B g (.slice (some ⟨q, 0, none⟩) s.l.length cap) s) (i : Nat) (gn : Int) (hh : hit s.l i gn = true) :
    Calls Tryd.prog 37 #[.pointer (some ⟨g, 0, none⟩), .agg #[.int .u32 i, .int .u32 gn]] w fun e w' => e = .returned (.bool true) ∧ ArAt w' B g (.slice (some ⟨q, 0, none⟩) s.l.length cap) (fro s i gn) ∧ Fr g (some q) w w' := by
  have HA := Lib.hid (h.below (boxed w (.int .u32 i) (.int .u32 gn)))
  have hll := hit_lt hh
  have hr0 := hit_r hh
  have hl : i < 4096 := by have := h.wf.len; omega
  have hgs : g < w.heap.size := h.lt
  have HH := Lib.hid hh
  have HL := Lib.hid hll
  have HR := Lib.hid hr0
  have hn1 : g ≠ w.heap.size := by omega
  have hn2 : w.heap.size ≠ g := by omega
  have b2 : chg s.l ≤ 16777216 := by have := h.wf.chl; have := h.wf.limc; have := h.wf.cap1; omega
  have b4 : liv s.l ≤ 4096 := by have := (liv_bd s.l).2; have := h.wf.len; omega
  have b3 : 1 ≤ liv s.l := by
    have h1 := (liv_bd (s.l.set i (frb (bk s.l i)))).1
    rw [liv_set hll] at h1
    simp [frb, one, hr0.1] at h1
    omega
  have b1 := chg_bk h.wf.ok i
  have hok := h.wf.ok.at_ i
  have b0 : 0 ≤ (bk s.l i).r := by have := hok.1; omega
  have b5 := hok.2.2.1
  have b6 := hok.2.2.2
  clear h hh hr0 hok hll
  go_enter Tryd.func37, Tryd.ntmps37
  go_wp2_with fail
  refine (find_hit HA.out i gn HH.out).mono ?_
  rintro e w1 ⟨rfl, hb⟩
  have hx0 := (boxed_at w w1 (.int .u32 i) (.int .u32 gn) hb).1
  have HB := Lib.hid ((boxed w (.int .u32 i) (.int .u32 gn)).trans (hb.mono (by simp)))
  have hA := HA.out.below hb
  obtain ⟨q', cap', e, hqg, hq, _, cr0, cr, cg, f2⟩ := hA.slot HL.out
  simp only [Value.slice.injEq, Option.some.injEq, Addr.mk.injEq, and_true, true_and] at e
  obtain ⟨rfl, rfl⟩ := e
  obtain ⟨cs, k1, k2⟩ := hA.blk
  have c2 := (k1.cell 2).trans k2.chg
  have c3 := (k1.cell 3).trans k2.liv
  obtain ⟨x, hx, cx, hbit⟩ := k2.bits (i / 64) (by omega)
  have c5 := (k1.cell (5 + i / 64)).trans cx
  have f1 := k1.free
  have hqg' : g ≠ q := fun e => hqg e.symm
  have HA1 := Lib.hid hA
  have K1 := Lib.hid k1
  have K2 := Lib.hid k2
  have HX := Lib.hid hx
  have HT := Lib.hid hbit
  clear hb hA k1 k2 cx hx hbit HA
  generalize hbk : bk s.l i = b at *
  have HK := Lib.hid hbk
  clear hbk
  go_wp2
  go_region
  go_wp2
  go_region
  go_wp2
  go_ret
  have fin := free_done HA1.out HB.out HH.out hl hqg' HK.out K1.out K2.out HX.out HT.out _ rfl
  exact ⟨rfl, fin.1.drew.drew, fin.2.drew.drew⟩

theorem free_any {w : World} {B g : Nat} {v : Value} {s : Ar} (h : ArAt w B g v s) (i : Nat) (gn : Int) (hi : i ≤ 4294967295) (hgn0 : 0 ≤ gn) (hgn1 : gn ≤ 4294967295) :
    Calls Tryd.prog 37 #[.pointer (some ⟨g, 0, none⟩), .agg #[.int .u32 i, .int .u32 gn]] w fun e w' => e = .returned (.bool (hit s.l i gn)) ∧ ArAt w' B g v (fro s i gn) ∧ Fr g v.ownBlock w w' := by
  cases hh : hit s.l i gn with
  | true =>
    obtain ⟨q, cap, rfl, _⟩ := h.slot (hit_lt hh)
    exact free_yes h i gn hh
  | false =>
    have HA := Lib.hid (h.below (boxed w (.int .u32 i) (.int .u32 gn)))
    have HH := Lib.hid hh
    have H := Lib.hid h
    clear hh h
    go_enter Tryd.func37, Tryd.ntmps37
    go_wp2_with fail
    refine (find_miss HA.out i gn hi hgn0 hgn1 HH.out).mono ?_
    rintro e w1 ⟨rfl, hb⟩
    have HB := Lib.hid ((boxed w (.int .u32 i) (.int .u32 gn)).trans (hb.mono (by simp)))
    clear hb
    go_wp2
    go_ret
    exact ⟨rfl, by rw [fro, if_neg (by rw [HH.out]; decide)]; exact H.out.below HB.out, .of_below HB.out⟩
end Go.Proofs.YtglhebpblncjaaaDoor
