/- What Alloc does to the reference's arena, as a contract. -/
import Derived.Test.YtiandhfpdehicaaDoorArRefPut
namespace Go.Proofs.YtiandhfpdehicaaDoor
open Go.RowKit
set_option linter.unusedVariables false

/-- What the reference's Alloc leaves: a handle, an error, the arena. -/
def RAlloced (B g : Nat) (v : Value) (s : Ar) (t : List UInt8) (w : World) (e : Ending) (w' : World) : Prop :=
  ∃ v2, e = .returned (.tuple #[.agg #[.int .u32 (aslot s t.length), .int .u32 (agen s t.length)], .int .i64 (aerr s t.length)]) ∧ RfAt w' B g v2 (alo s t) ∧ (v2.ownBlock = v.ownBlock ∨ ∃ n, v2.ownBlock = some n ∧ w.heap.size ≤ n) ∧ Fr g v.ownBlock w w'
theorem ret_ralloced {B g : Nat} {v : Value} {s : Ar} {t : List UInt8} {w w' : World} {a b c : Int} (ha : a = aslot s t.length) (hb : b = agen s t.length) (hc : c = aerr s t.length) (hc0 : aerr s t.length ≠ 0) (h : RfAt w' B g v s) (hf : Fr g v.ownBlock w w') :
    RAlloced B g v s t w (.returned (.tuple #[.agg #[.int .u32 a, .int .u32 b], .int .i64 c])) w' :=
  ⟨v, by rw [ha, hb, hc], by rw [alo, if_neg hc0]; exact h, .inl rfl, hf⟩
theorem RfAt.put_far {w : World} {B g : Nat} {v : Value} {s : Ar} (h : RfAt w B g v s) {R : Nat} (hg : g ≠ R) (hv : v.ownBlock ≠ some R) (i j : Nat) (x y : Value) : RfAt ((w.setCell ⟨R, i, none⟩ x).setCell ⟨R, j, none⟩ y) B g v s :=
  h.keep fun k hk => by
    have hkn : k ≠ R := by
      rcases hk with rfl | hk
      · exact hg
      · intro e; exact hv (by rw [hk, e])
    exact (Below.heap_setCell _ _ _ _ hkn).trans (Below.heap_setCell _ _ _ _ hkn)

set_option maxHeartbeats 1600000 in
theorem refAlloc_no {w : World} {B g : Nat} {v : Value} {s : Ar} (h : RfAt w B g v s) (t : List UInt8) (hlen : t.length ≤ maxLen) (hno : aerr s t.length ≠ 0) :
    Calls Tryd.prog 9 #[.pointer (some ⟨g, 0, none⟩), .string (str t)] w (RAlloced B g v s t w) := by
  unfold maxLen at hlen
  have hbx := rboxed w (.int .u32 0) (.int .u32 0)
  have HA := Lib.hid (h.below hbx)
  have HX := Lib.hid hbx
  have hsz := str_size t
  have hgs : g < w.heap.size := h.lt
  have HV := Lib.hid h.vlt
  have hn1 : g ≠ w.heap.size := by omega
  have hnv : v.ownBlock ≠ some w.heap.size := fun e => by have := (h.vlt _ e).2; omega
  have HNV := Lib.hid hnv
  have HNO := Lib.hid hno
  have hlb : s.lim ≤ 16777216 := by have := h.wf.limc; have := h.wf.cap1; omega
  have hc0 := chg_ge h.wf.ok
  have hc1 := h.wf.chl
  have HS : Hid (aslot s t.length = 0 ∧ agen s t.length = 0) := Lib.hid ⟨by rw [aslot, if_neg hno], by rw [agen, if_neg hno]⟩
  have HR0 : Hid (Has (w.alloc (.cells #[.int .u32 0, .int .u32 0] 35)) w.heap.size 35 #[.int .u32 0, .int .u32 0]) := Lib.hid (heap_alloc_new w _)
  clear hbx hnv hno
  cases hk : rok (t.length : Int) with
  | false =>
    have HE : Hid (aerr s t.length = 1) := Lib.hid (by rw [aerr, if_pos hk])
    have HK := Lib.hid hk
    clear h hk
    go_enter Tryd.func9, Tryd.ntmps9
    go_wp2_with fail
    refine (refRound_any _ _).mono ?_
    rintro e w1 ⟨rfl, hb⟩
    have hR := HR0.out.below hb (by simp)
    have hR0 := hR.cell 0
    have hR1 := hR.cell 1
    simp only [List.getElem?_toArray, List.getElem?_cons_zero, List.getElem?_cons_succ] at hR0 hR1
    have fR := hR.free
    have HW := Lib.hid (HA.out.below hb)
    have HB := Lib.hid (HX.out.trans (hb.mono (by simp)))
    clear hb hR
    rw [HK.out]
    go_wp2
    refine bodyPost_ret (v := .tuple #[.agg #[.int .u32 0, .int .u32 0], .int .i64 1]) (by simp [results, Tryd.results9, go_sem, hR0, hR1]) rfl ?_
    exact ret_ralloced HS.out.1.symm HS.out.2.symm HE.out.symm HNO.out (HW.out.put_far hn1 HNV.out _ _ _ _) (((Fr.of_below HB.out).set_ok (b := w.heap.size) (.inr (.inr (Nat.le_refl _))) 0 _).set_ok (b := w.heap.size) (.inr (.inr (Nat.le_refl _))) 1 _)
  | true =>
    have HK := Lib.hid hk
    have hr := rnd_bd (t.length : Int)
    have hr1 := hr.1
    have hr2 := hr.2
    have hw1 : IntKind.i64.wrap (chg s.l + rnd (t.length : Int)) = chg s.l + rnd (t.length : Int) := IntWalk.i64_in _ (by omega)
    by_cases hfit : chg s.l + rnd (t.length : Int) ≤ s.lim
    · have hfr : ¬ fre s.l < 4096 := fun hf => HNO.out (aerr_of hk hfit hf)
      have HE : Hid (aerr s t.length = 11) := Lib.hid (by rw [aerr, if_neg (by rw [hk]; decide), if_neg (by omega), if_pos (by omega)])
      have hfl := fre_le s.l
      have hll := h.wf.len
      clear h hk hr
      go_enter Tryd.func9, Tryd.ntmps9
      go_wp2_with fail
      refine (refRound_any _ _).mono ?_
      rintro e w1 ⟨rfl, hb⟩
      have HR1 := Lib.hid (HR0.out.below hb (by simp))
      have HW := Lib.hid (HA.out.below hb)
      have HB := Lib.hid (HX.out.trans (hb.mono (by simp)))
      have hl1 : w1.cell? ⟨g, 1, none⟩ = some (.int .i64 s.lim) := HW.out.blk.cell 1
      clear hb
      rw [HK.out]
      go_wp2_with fail
      go_quiet ((go_at_call 21; exact Calls.quiet_of_same ((refCharged_any (HW.out.below (below_drewN (Below.refl _ _) _))).mono fun _ _ h => ⟨h.1, h.2.symm⟩)))
      have HR2 : Hid (Has (w1.drewN nq) w.heap.size 35 #[.int .u32 0, .int .u32 0]) := Lib.hid HR1.out
      have HW2 := Lib.hid (HW.out.below (below_drewN (Below.refl _ _) nq))
      have HB2 := Lib.hid (below_drewN HB.out nq)
      clear HR1 HW HB hl1 hw1
      generalize w1.drewN nq = w2 at *
      have c2 : w2.cell? ⟨g, 2, none⟩ = some v := HW2.out.blk.cell 2
      obtain ⟨A, c, rfl⟩ := own_slice HW2.out.row
      go_wp2_with fail
      go_loop [8] (fun i => ∃ k : Nat, k ≤ fre s.l ∧ i = .int .i64 k) (fun i => fre s.l - (intOf i).toNat)
      case atStart => exact ⟨0, by omega, rfl⟩
      case round =>
        obtain ⟨k, hk, rfl⟩ := hrel
        by_cases hlt : k < fre s.l
        · have hkl : k < s.l.length := by omega
          obtain ⟨q, cap, e, _, _, _, _, d1, _, _, _⟩ := HW2.out.slot hkl
          simp only [Value.slice.injEq, true_and] at e
          obtain ⟨rfl, rfl⟩ := e
          have hlv := fre_lives s.l k hlt
          have hlv' : ((bk s.l k).r != 0) = true := hlv
          rw [hlv'] at d1
          have hk0 : (0 : Int) ≤ (k : Int) := by omega
          have hk1 : (k : Int) < (s.l.length : Int) := by omega
          clear hlv hlv'
          go_wp2
          go_round
          case rel => exact ⟨k + 1, by omega, by go_num⟩
          case measure => simp [intOf]; omega
        · obtain rfl : k = fre s.l := by omega
          have hd1 : decide (fre s.l < s.l.length) = false := decide_eq_false (by omega)
          have hd2 : decide ((fre s.l : Int) < (s.l.length : Int)) = false := decide_eq_false (by omega)
          have hd3 : ((fre s.l : Int) == 4096) = true := by simp; omega
          have hR0 := HR2.out.cell 0
          have hR1 := HR2.out.cell 1
          simp only [List.getElem?_toArray, List.getElem?_cons_zero, List.getElem?_cons_succ] at hR0 hR1
          have fR := HR2.out.free
          go_wp2
          refine bodyPost_ret (v := .tuple #[.agg #[.int .u32 0, .int .u32 0], .int .i64 11]) (by simp [results, Tryd.results9, go_sem, hR0, hR1]) rfl ?_
          exact ret_ralloced HS.out.1.symm HS.out.2.symm HE.out.symm HNO.out (HW2.out.put_far hn1 HNV.out _ _ _ _) (((Fr.of_below HB2.out).set_ok (b := w.heap.size) (.inr (.inr (Nat.le_refl _))) 0 _).set_ok (b := w.heap.size) (.inr (.inr (Nat.le_refl _))) 1 _)
    · have HE : Hid (aerr s t.length = 9) := Lib.hid (by rw [aerr, if_neg (by rw [hk]; decide), if_pos (by omega)])
      have hfit' : s.lim < chg s.l + rnd (t.length : Int) := by omega
      clear h hk hr
      go_enter Tryd.func9, Tryd.ntmps9
      go_wp2_with fail
      refine (refRound_any _ _).mono ?_
      rintro e w1 ⟨rfl, hb⟩
      have hR := HR0.out.below hb (by simp)
      have hR0 := hR.cell 0
      have hR1 := hR.cell 1
      simp only [List.getElem?_toArray, List.getElem?_cons_zero, List.getElem?_cons_succ] at hR0 hR1
      have fR := hR.free
      have HW := Lib.hid (HA.out.below hb)
      have HB := Lib.hid (HX.out.trans (hb.mono (by simp)))
      have hl1 : w1.cell? ⟨g, 1, none⟩ = some (.int .i64 s.lim) := HW.out.blk.cell 1
      clear hb hR
      rw [HK.out]
      go_wp2_with fail
      go_quiet ((go_at_call 21; exact Calls.quiet_of_same ((refCharged_any (HW.out.below (below_drewN (Below.refl _ _) _))).mono fun _ _ h => ⟨h.1, h.2.symm⟩)))
      go_wp2
      refine bodyPost_ret (v := .tuple #[.agg #[.int .u32 0, .int .u32 0], .int .i64 9]) (by simp [results, Tryd.results9, go_sem, hR0, hR1]) rfl ?_
      exact ret_ralloced HS.out.1.symm HS.out.2.symm HE.out.symm HNO.out ((HW.out.below (below_drewN (Below.refl _ _) _)).put_far hn1 HNV.out _ _ _ _) (((Fr.of_below (below_drewN HB.out _)).set_ok (b := w.heap.size) (.inr (.inr (Nat.le_refl _))) 0 _).set_ok (b := w.heap.size) (.inr (.inr (Nat.le_refl _))) 1 _)
end Go.Proofs.YtiandhfpdehicaaDoor
