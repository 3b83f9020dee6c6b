/- What Alloc does to the reference's arena, as a contract. -/
import Derived.Test.YtglhebpblncjaaaDoorQRf
namespace Go.Proofs.YtglhebpblncjaaaDoor
open Go.RowKit
set_option linter.unusedVariables false

/-- What the reference's Alloc leaves: a handle, an error, the arena. -/
def RAlloced (B g : Nat) (v : Value) (s : Ar) (t : List UInt8) (w : World) (e : Ending) (w' : World) : Prop :=
  ∃ v2, e = .returned (.tuple #[.agg #[.int .u32 (aslot s t.length), .int .u32 (agen s t.length)], .int .i64 (aerr s t.length)]) ∧ RfAt w' B g v2 (alo s t) ∧ (v2.ownBlock = v.ownBlock ∨ ∃ n, v2.ownBlock = some n ∧ w.heap.size ≤ n) ∧ Fr g v.ownBlock w w'
theorem ret_ralloced {B g : Nat} {v : Value} {s : Ar} {t : List UInt8} {w w' : World} {a b c : Int} (ha : a = aslot s t.length) (hb : b = agen s t.length) (hc : c = aerr s t.length) (hc0 : aerr s t.length ≠ 0) (h : RfAt w' B g v s) (hf : Fr g v.ownBlock w w') :
    RAlloced B g v s t w (.returned (.tuple #[.agg #[.int .u32 a, .int .u32 b], .int .i64 c])) w' :=
  ⟨v, by rw [ha, hb, hc], by rw [alo, if_neg hc0]; exact h, .inl rfl, hf⟩
theorem RfAt.put_far {w : World} {B g : Nat} {v : Value} {s : Ar} (h : RfAt w B g v s) {R : Nat} (hg : g ≠ R) (hv : v.ownBlock ≠ some R) (i j : Nat) (x y : Value) : RfAt ((w.setCell ⟨R, i, none⟩ x).setCell ⟨R, j, none⟩ y) B g v s :=
  h.keep fun k hk => by
    have hkn : k ≠ R := by
      rcases hk with rfl | hk
      · exact hg
      · intro e; exact hv (by rw [hk, e])
    exact (Below.heap_setCell _ _ _ _ hkn).trans (Below.heap_setCell _ _ _ _ hkn)

set_option maxHeartbeats 1600000 in
theorem refAlloc_no {w : World} {B g : Nat} {v : Value} {s : Ar} (h : RfAt w B g v s) (t : List UInt8) (hlen : t.length ≤ maxLen) (hno : aerr s t.length ≠ 0) :
    Calls Tryd.prog 36 #[.pointer (some ⟨g, 0, none⟩), .string (str t)] w (RAlloced B g v s t w) := by
  unfold maxLen at hlen
  have hbx := rboxed w (.int .u32 0) (.int .u32 0)
  have HA := Lib.hid (h.below hbx)
  have HX := Lib.hid hbx
  have hsz := str_size t
  have hgs : g < w.heap.size := h.lt
  have HV := Lib.hid h.vlt
  have hn1 : g ≠ w.heap.size := by omega
  have hnv : v.ownBlock ≠ some w.heap.size := fun e => by have := (h.vlt _ e).2; omega
  have HNV := Lib.hid hnv
  have HNO := Lib.hid hno
  have hlb : s.lim ≤ 16777216 := by have := h.wf.limc; have := h.wf.cap1; omega
  have hc0 := chg_ge h.wf.ok
  have hc1 := h.wf.chl
  have HS : Hid (aslot s t.length = 0 ∧ agen s t.length = 0) := Lib.hid ⟨by rw [aslot, if_neg hno], by rw [agen, if_neg hno]⟩
  have HR0 : Hid (Has (w.alloc (.cells #[.int .u32 0, .int .u32 0] 85)) w.heap.size 85 #[.int .u32 0, .int .u32 0]) := Lib.hid (heap_alloc_new w _)
  clear hbx hnv hno
  cases hk : rok (t.length : Int) with
  | false =>
    have HE : Hid (aerr s t.length = 1) := Lib.hid (by rw [aerr, if_pos hk])
    have HK := Lib.hid hk
    clear h hk
    go_enter Tryd.func36, Tryd.ntmps36
    go_wp2_with fail
    refine (refRound_any _ _).mono ?_
    rintro e w1 ⟨rfl, hb⟩
    have hR := HR0.out.below hb (by simp)
    have hR0 := hR.cell 0
    have hR1 := hR.cell 1
    simp only [List.getElem?_toArray, List.getElem?_cons_zero, List.getElem?_cons_succ] at hR0 hR1
    have fR := hR.free
    have HW := Lib.hid (HA.out.below hb)
    have HB := Lib.hid (HX.out.trans (hb.mono (by simp)))
    clear hb hR
    rw [HK.out]
    go_wp2
    refine bodyPost_ret (v := .tuple #[.agg #[.int .u32 0, .int .u32 0], .int .i64 1]) (by simp [results, Tryd.results36, go_sem, hR0, hR1]) rfl ?_
    exact ret_ralloced HS.out.1.symm HS.out.2.symm HE.out.symm HNO.out (HW.out.put_far hn1 HNV.out _ _ _ _) (((Fr.of_below HB.out).set_ok (b := w.heap.size) (.inr (.inr (Nat.le_refl _))) 0 _).set_ok (b := w.heap.size) (.inr (.inr (Nat.le_refl _))) 1 _)
  | true =>
    have HK := Lib.hid hk
    have hr := rnd_bd (t.length : Int)
    have hr1 := hr.1
    have hr2 := hr.2
    have hw1 : IntKind.i64.wrap (chg s.l + rnd (t.length : Int)) = chg s.l + rnd (t.length : Int) := IntWalk.i64_in _ (by omega)
    by_cases hfit : chg s.l + rnd (t.length : Int) ≤ s.lim
    · have hfr : ¬ fre s.l < 4096 := fun hf => HNO.out (aerr_of hk hfit hf)
      have HE : Hid (aerr s t.length = 11) := Lib.hid (by rw [aerr, if_neg (by rw [hk]; decide), if_neg (by omega), if_pos (by omega)])
      have hfl := fre_le s.l
      have hll := h.wf.len
      clear h hk hr
      go_enter Tryd.func36, Tryd.ntmps36
      go_wp2_with fail
      refine (refRound_any _ _).mono ?_
      rintro e w1 ⟨rfl, hb⟩
      have HR1 := Lib.hid (HR0.out.below hb (by simp))
      have HW := Lib.hid (HA.out.below hb)
      have HB := Lib.hid (HX.out.trans (hb.mono (by simp)))
      have hl1 : w1.cell? ⟨g, 1, none⟩ = some (.int .i64 s.lim) := HW.out.blk.cell 1
      clear hb
      rw [HK.out]
      go_wp2_with fail
      go_quiet ((go_at_call 26; exact Calls.quiet_of_same ((refCharged_any (HW.out.below (below_drewN (Below.refl _ _) _))).mono fun _ _ h => ⟨h.1, h.2.symm⟩)))
      have HR2 : Hid (Has (w1.drewN nq) w.heap.size 85 #[.int .u32 0, .int .u32 0]) := Lib.hid HR1.out
      have HW2 := Lib.hid (HW.out.below (below_drewN (Below.refl _ _) nq))
      have HB2 := Lib.hid (below_drewN HB.out nq)
      clear HR1 HW HB hl1 hw1
      generalize w1.drewN nq = w2 at *
      have c2 : w2.cell? ⟨g, 2, none⟩ = some v := HW2.out.blk.cell 2
      obtain ⟨A, c, rfl⟩ := own_slice HW2.out.row
      go_wp2_with fail
      go_loop [8] (fun i => ∃ k : Nat, k ≤ fre s.l ∧ i = .int .i64 k) (fun i => fre s.l - (intOf i).toNat)
      case atStart => exact ⟨0, by omega, rfl⟩
      case round =>
        obtain ⟨k, hk, rfl⟩ := hrel
        by_cases hlt : k < fre s.l
        · have hkl : k < s.l.length := by omega
          obtain ⟨q, cap, e, _, _, _, _, d1, _, _, _⟩ := HW2.out.slot hkl
          simp only [Value.slice.injEq, true_and] at e
          obtain ⟨rfl, rfl⟩ := e
          have hlv := fre_lives s.l k hlt
          have hlv' : ((bk s.l k).r != 0) = true := hlv
          rw [hlv'] at d1
          have hk0 : (0 : Int) ≤ (k : Int) := by omega
          have hk1 : (k : Int) < (s.l.length : Int) := by omega
          clear hlv hlv'
          go_wp2
          go_round
          case rel => exact ⟨k + 1, by omega, by go_num⟩
          case measure => simp [intOf]; omega
        · obtain rfl : k = fre s.l := by omega
          have hd1 : decide (fre s.l < s.l.length) = false := decide_eq_false (by omega)
          have hd2 : decide ((fre s.l : Int) < (s.l.length : Int)) = false := decide_eq_false (by omega)
          have hd3 : ((fre s.l : Int) == 4096) = true := by simp; omega
          have hR0 := HR2.out.cell 0
          have hR1 := HR2.out.cell 1
          simp only [List.getElem?_toArray, List.getElem?_cons_zero, List.getElem?_cons_succ] at hR0 hR1
          have fR := HR2.out.free
          go_wp2
          refine bodyPost_ret (v := .tuple #[.agg #[.int .u32 0, .int .u32 0], .int .i64 11]) (by simp [results, Tryd.results36, go_sem, hR0, hR1]) rfl ?_
          exact ret_ralloced HS.out.1.symm HS.out.2.symm HE.out.symm HNO.out (HW2.out.put_far hn1 HNV.out _ _ _ _) (((Fr.of_below HB2.out).set_ok (b := w.heap.size) (.inr (.inr (Nat.le_refl _))) 0 _).set_ok (b := w.heap.size) (.inr (.inr (Nat.le_refl _))) 1 _)
    · have HE : Hid (aerr s t.length = 9) := Lib.hid (by rw [aerr, if_neg (by rw [hk]; decide), if_pos (by omega)])
      have hfit' : s.lim < chg s.l + rnd (t.length : Int) := by omega
      clear h hk hr
      go_enter Tryd.func36, Tryd.ntmps36
      go_wp2_with fail
      refine (refRound_any _ _).mono ?_
      rintro e w1 ⟨rfl, hb⟩
      have hR := HR0.out.below hb (by simp)
      have hR0 := hR.cell 0
      have hR1 := hR.cell 1
      simp only [List.getElem?_toArray, List.getElem?_cons_zero, List.getElem?_cons_succ] at hR0 hR1
      have fR := hR.free
      have HW := Lib.hid (HA.out.below hb)
      have HB := Lib.hid (HX.out.trans (hb.mono (by simp)))
      have hl1 : w1.cell? ⟨g, 1, none⟩ = some (.int .i64 s.lim) := HW.out.blk.cell 1
      clear hb hR
      rw [HK.out]
      go_wp2_with fail
      go_quiet ((go_at_call 26; exact Calls.quiet_of_same ((refCharged_any (HW.out.below (below_drewN (Below.refl _ _) _))).mono fun _ _ h => ⟨h.1, h.2.symm⟩)))
      go_wp2
      refine bodyPost_ret (v := .tuple #[.agg #[.int .u32 0, .int .u32 0], .int .i64 9]) (by simp [results, Tryd.results36, go_sem, hR0, hR1]) rfl ?_
      exact ret_ralloced HS.out.1.symm HS.out.2.symm HE.out.symm HNO.out ((HW.out.below (below_drewN (Below.refl _ _) _)).put_far hn1 HNV.out _ _ _ _) (((Fr.of_below (below_drewN HB.out _)).set_ok (b := w.heap.size) (.inr (.inr (Nat.le_refl _))) 0 _).set_ok (b := w.heap.size) (.inr (.inr (Nat.le_refl _))) 1 _)
end Go.Proofs.YtglhebpblncjaaaDoor
/- What Alloc does to the reference's arena where it has room, as a contract; and Alloc in all. -/
namespace Go.Proofs.YtglhebpblncjaaaDoor
open Go.RowKit
set_option linter.unusedVariables false

theorem ref_set4 {w : World} {B g q cap : Nat} {s : Ar} (hA : RfAt w B g (.slice (some ⟨q, 0, none⟩) s.l.length cap) s) (hqg : g ≠ q) {f : Nat} (t : List UInt8) {r g0 : Int} (hr : r ≠ 0) (hw : Wf ⟨s.cap, s.lim, s.l.set f ⟨t, r, g0⟩⟩) :
    RfAt ((((w.setCell ⟨q, f * 4, none⟩ (.int .u32 g0)).setCell ⟨q, f * 4 + 1, none⟩ (.bool true)).setCell ⟨q, f * 4 + 2, none⟩ (.int .i64 r)).setCell ⟨q, f * 4 + 3, none⟩ (.string (str t))) B g (.slice (some ⟨q, 0, none⟩) s.l.length cap) ⟨s.cap, s.lim, s.l.set f ⟨t, r, g0⟩⟩ := by
  have hrow := ((((hA.row.stored (f * 4) (.int .u32 g0)).1.stored (f * 4 + 1) (.bool true)).1.stored (f * 4 + 2) (.int .i64 r)).1.stored (f * 4 + 3) (.string (str t))).1
  have hset := rcells_set s.l f ⟨t, r, g0⟩
  have hb : (r != 0) = true := by simpa using hr
  simp only [hb] at hset
  rw [hset] at hrow
  refine ⟨hA.low, hA.ne, hw, ?_, (Below.heap_setCell _ _ _ _ hqg).trans ((Below.heap_setCell _ _ _ _ hqg).trans ((Below.heap_setCell _ _ _ _ hqg).trans ((Below.heap_setCell _ _ _ _ hqg).trans hA.blk)))⟩
  show World.ownsRow _ _ _ _ _ (s.l.set _ _).length _
  rw [List.length_set]
  exact hrow
theorem info_rblk : (Tryd.prog.info? 99).map (fun i => (i.zero, i.size, i.bytes)) = some (some (.agg #[.int .u32 0, .bool false, .int .i64 0, .string ⟨#[]⟩]), 4, 32) := by kernel_rfl
abbrev rblanks : Array Value := #[.int .u32 1, .bool false, .int .i64 0, .string ⟨#[]⟩]
theorem rblanks_lie (w : World) : ∀ j u, rblanks.toList[j]? = some u → (w.alloc (.cells rblanks 99)).cell? ((⟨w.heap.size, 0, none⟩ : Addr).add j) = some u := by
  intro j u hu
  rw [Go.WideShapes.add_plain, Nat.zero_add, cell_of_row _ w.heap.size j rblanks 99 (0, 0) (heap_alloc_new w _)]
  simpa using hu
theorem app_rblk (w : World) (B : Nat) (v : Value) (n : Nat) (l : List Blk) (hown : w.ownsRow B 99 4 v n (rcells l)) (hn : n ≤ 4096) (hB : B ≤ w.heap.size) :
    ∃ v' w', (Builtin.append_ #[65, 65] 65 #[v, .slice (some ⟨w.heap.size, 0, none⟩) 1 1]).run Tryd.prog (w.alloc (.cells rblanks 99)) = .ok v' w' ∧ w'.ownsRow B 99 4 v' (n + 1) (rcells (l ++ [blank])) ∧ (w.alloc (.cells rblanks 99)).grownBy w' v.ownBlock ∧ (v'.ownBlock = v.ownBlock ∨ v'.ownBlock = some (w.heap.size + 1)) := by
  obtain ⟨i0, hi, hz0, hz1, hz2⟩ := info_parts info_rblk
  obtain ⟨v', w', h1, h2, h3, _, h4⟩ := run_append_own_at (P := Tryd.prog) (w.alloc (.cells rblanks 99)) B 65 65 99 i0 (.agg #[.int .u32 0, .bool false, .int .i64 0, .string ⟨#[]⟩]) 4 32 Tryd.underlying65 hi hz0 hz1 hz2 rfl (by omega) v n (rcells l) (hown.alloc _)
    ⟨w.heap.size, 0, none⟩ 1 1 rblanks.toList rfl (rblanks_lie w) (by intro u hu; simp at hu; rcases hu with rfl | rfl | rfl | rfl <;> rfl) (by unfold maxLen; omega) (by omega) (by simp; omega)
  exact ⟨v', w', h1, by rw [rcells_snoc]; exact h2, h3, by simpa using h4⟩

set_option maxHeartbeats 1600000 in
theorem refAlloc_old {w : World} {B g : Nat} {v : Value} {s : Ar} (h : RfAt w B g v s) (t : List UInt8) (hlen : t.length ≤ maxLen) (hk : rok (t.length : Int) = true) (hfit : chg s.l + rnd (t.length : Int) ≤ s.lim) (hfl : fre s.l < s.l.length) :
    Calls Tryd.prog 36 #[.pointer (some ⟨g, 0, none⟩), .string (str t)] w (RAlloced B g v s t w) := by
  unfold maxLen at hlen
  have hll := h.wf.len
  have hbx := rboxed w (.int .u32 0) (.int .u32 0)
  have HA := Lib.hid (h.below hbx)
  have HX := Lib.hid hbx
  have hsz := str_size t
  have hgs : g < w.heap.size := h.lt
  have hn1 : g ≠ w.heap.size := by omega
  have hn2 : w.heap.size ≠ g := by omega
  have hnv : v.ownBlock ≠ some w.heap.size := fun e => by have := (h.vlt _ e).2; omega
  have HNV := Lib.hid hnv
  have hlb : s.lim ≤ 16777216 := by have := h.wf.limc; have := h.wf.cap1; omega
  have hc0 := chg_ge h.wf.ok
  have HR0 : Hid (Has (w.alloc (.cells #[.int .u32 0, .int .u32 0] 85)) w.heap.size 85 #[.int .u32 0, .int .u32 0]) := Lib.hid (heap_alloc_new w _)
  have he := aerr_of hk hfit (by omega)
  have HE := Lib.hid he
  have HWF := Lib.hid (alo_wf h.wf t)
  have HAL : Hid (alo s t = ⟨s.cap, s.lim, s.l.set (fre s.l) ⟨t, rnd t.length, (bk s.l (fre s.l)).g⟩⟩) := Lib.hid (by rw [alo, if_pos he, tak, if_pos hfl, tkb])
  have HK := Lib.hid hk
  have hr16 := rnd16 hk
  have hr1 := hr16.1
  have hr2 := hr16.2.1
  have hok := h.wf.ok.at_ (fre s.l)
  have hg1 := hok.2.2.1
  have hg2 := hok.2.2.2
  have hw1 : IntKind.i64.wrap (chg s.l + rnd (t.length : Int)) = chg s.l + rnd (t.length : Int) := IntWalk.i64_in _ (by omega)
  clear hbx hnv he hk hr16 hok h
  go_enter Tryd.func36, Tryd.ntmps36
  go_wp2_with fail
  refine (refRound_any _ _).mono ?_
  rintro e w1 ⟨rfl, hb⟩
  have HR1 := Lib.hid (HR0.out.below hb (by simp))
  have HW := Lib.hid (HA.out.below hb)
  have HB := Lib.hid (HX.out.trans (hb.mono (by simp)))
  have hl1 : w1.cell? ⟨g, 1, none⟩ = some (.int .i64 s.lim) := HW.out.blk.cell 1
  clear hb
  rw [HK.out]
  go_wp2_with fail
  go_quiet ((go_at_call 26; exact Calls.quiet_of_same ((refCharged_any (HW.out.below (below_drewN (Below.refl _ _) _))).mono fun _ _ h => ⟨h.1, h.2.symm⟩)))
  have HR2 : Hid (Has (w1.drewN nq) w.heap.size 85 #[.int .u32 0, .int .u32 0]) := Lib.hid HR1.out
  have HW2 := Lib.hid (HW.out.below (below_drewN (Below.refl _ _) nq))
  have HB2 := Lib.hid (below_drewN HB.out nq)
  clear HR1 HW HB hl1 hw1
  generalize w1.drewN nq = w2 at *
  have c2 : w2.cell? ⟨g, 2, none⟩ = some v := HW2.out.blk.cell 2
  obtain ⟨A, c, rfl⟩ := own_slice HW2.out.row
  go_wp2_with fail
  go_loop [8] (fun i => ∃ k : Nat, k ≤ fre s.l ∧ i = .int .i64 k) (fun i => fre s.l - (intOf i).toNat)
  case atStart => exact ⟨0, by omega, rfl⟩
  case round =>
    obtain ⟨k, hk, rfl⟩ := hrel
    by_cases hlt : k < fre s.l
    · have hkl : k < s.l.length := by omega
      obtain ⟨q, cap, e, _, _, _, _, d1, _, _, _⟩ := HW2.out.slot hkl
      simp only [Value.slice.injEq, true_and] at e
      obtain ⟨rfl, rfl⟩ := e
      have hlv := fre_lives s.l k hlt
      have hlv' : ((bk s.l k).r != 0) = true := hlv
      rw [hlv'] at d1
      have hk0 : (0 : Int) ≤ (k : Int) := by omega
      have hk1 : (k : Int) < (s.l.length : Int) := by omega
      clear hlv hlv'
      go_wp2
      go_round
      case rel => exact ⟨k + 1, by omega, by go_num⟩
      case measure => simp [intOf]; omega
    · obtain rfl : k = fre s.l := by omega
      obtain ⟨q, cap, e, hqg, hq, hcap, d0, d1, d2, d3, fz⟩ := HW2.out.slot hfl
      simp only [Value.slice.injEq, true_and] at e
      obtain ⟨rfl, rfl⟩ := e
      have hfr := fre_r s.l
      rw [show ((bk s.l (fre s.l)).r != 0) = false by rw [hfr]; rfl] at d1
      have hd3 : ((fre s.l : Int) == 4096) = false := by simp; omega
      have hd4 : ((fre s.l : Int) == (s.l.length : Int)) = false := by simp; omega
      have hk0 : (0 : Int) ≤ (fre s.l : Int) := by omega
      have hk1 : (fre s.l : Int) < (s.l.length : Int) := by omega
      have hR0 := HR2.out.cell 0
      have hR1 := HR2.out.cell 1
      simp only [List.getElem?_toArray, List.getElem?_cons_zero, List.getElem?_cons_succ] at hR0 hR1
      have fR := HR2.out.free
      have hRlt := HR2.out.lt
      have hqR : q ≠ w.heap.size := fun e => HNV.out (by rw [e]; rfl)
      have hRq : w.heap.size ≠ q := fun e => hqR e.symm
      have hqg' : g ≠ q := fun e => hqg e.symm
      clear hfr
      have HFIN := Lib.hid (fun (hw : Wf ⟨s.cap, s.lim, s.l.set (fre s.l) ⟨t, rnd t.length, (bk s.l (fre s.l)).g⟩⟩) => ref_set4 (f := fre s.l) HW2.out hqg' t (by omega : rnd (t.length : Int) ≠ 0) hw)
      generalize hgb : (bk s.l (fre s.l)).g = g0 at *
      have HGB := Lib.hid hgb
      clear hgb hk
      go_wp2_with fail
      go_region
      go_wp2
      refine bodyPost_ret (v := .tuple #[.agg #[.int .u32 (fre s.l : Int), .int .u32 g0], .int .i64 0]) (by simp [results, Tryd.results36, go_sem, hR0, hR1]) rfl ?_
      have hw := HWF.out
      rw [HAL.out] at hw
      refine ⟨_, by rw [aslot, agen, HE.out, HGB.out]; rfl, ?_, .inl rfl, ?_⟩
      · rw [HAL.out]
        exact ((HFIN.out hw).put_far hn1 (by simpa [Value.ownBlock] using hqR) _ _ _ _).below (Below.refl _ _).drew
      · exact (((((((Fr.of_below HB2.out).seto _ _).seto _ _).seto _ _).seto _ _).set_ok (b := w.heap.size) (.inr (.inr (Nat.le_refl _))) 0 _).set_ok (b := w.heap.size) (.inr (.inr (Nat.le_refl _))) 1 _).drew
end Go.Proofs.YtglhebpblncjaaaDoor
/- What Alloc does to the reference's arena where each of its blocks lives: one more block. -/
namespace Go.Proofs.YtglhebpblncjaaaDoor
open Go.RowKit
set_option linter.unusedVariables false

set_option maxHeartbeats 1600000 in
theorem refAlloc_new {w : World} {B g : Nat} {v : Value} {s : Ar} (h : RfAt w B g v s) (t : List UInt8) (hlen : t.length ≤ maxLen) (hk : rok (t.length : Int) = true) (hfit : chg s.l + rnd (t.length : Int) ≤ s.lim) (hB : B ≤ w.heap.size) (hfe : fre s.l = s.l.length) (hf4 : fre s.l < 4096) :
    Calls Tryd.prog 36 #[.pointer (some ⟨g, 0, none⟩), .string (str t)] w (RAlloced B g v s t w) := by
  unfold maxLen at hlen
  have hll := h.wf.len
  have hbx := rboxed w (.int .u32 0) (.int .u32 0)
  have HA := Lib.hid (h.below hbx)
  have HX := Lib.hid hbx
  have hsz := str_size t
  have hgs : g < w.heap.size := h.lt
  have hn1 : g ≠ w.heap.size := by omega
  have hn2 : w.heap.size ≠ g := by omega
  have hnv : v.ownBlock ≠ some w.heap.size := fun e => by have := (h.vlt _ e).2; omega
  have HNV := Lib.hid hnv
  have hlb : s.lim ≤ 16777216 := by have := h.wf.limc; have := h.wf.cap1; omega
  have hc0 := chg_ge h.wf.ok
  have HR0 : Hid (Has (w.alloc (.cells #[.int .u32 0, .int .u32 0] 85)) w.heap.size 85 #[.int .u32 0, .int .u32 0]) := Lib.hid (heap_alloc_new w _)
  have he := aerr_of hk hfit hf4
  have HE := Lib.hid he
  have HWF := Lib.hid (alo_wf h.wf t)
  have hbb : bk s.l (fre s.l) = blank := bk_ge (by omega)
  have HBB := Lib.hid hbb
  have HAL : Hid (alo s t = ⟨s.cap, s.lim, (s.l ++ [blank]).set s.l.length ⟨t, rnd t.length, 1⟩⟩) := Lib.hid (by rw [alo, if_pos he, tak, if_neg (by omega), tkb, hbb]; simp [blank])
  have HWB : Hid (Wf ⟨s.cap, s.lim, s.l ++ [blank]⟩) := Lib.hid ⟨h.wf.lim0, h.wf.limc, h.wf.cap1, by show (s.l ++ [blank]).length ≤ 4096; simp; omega, by show chg (s.l ++ [blank]) ≤ s.lim; rw [(blank_chg s.l).1]; exact h.wf.chl, h.wf.ok.snoc blank_ok⟩
  have HFE := Lib.hid hfe
  have HK := Lib.hid hk
  have hr16 := rnd16 hk
  have hr1 := hr16.1
  have hr2 := hr16.2.1
  have hw1 : IntKind.i64.wrap (chg s.l + rnd (t.length : Int)) = chg s.l + rnd (t.length : Int) := IntWalk.i64_in _ (by omega)
  clear hbx hnv he hk hr16 h hbb
  go_enter Tryd.func36, Tryd.ntmps36
  go_wp2_with fail
  refine (refRound_any _ _).mono ?_
  rintro e w1 ⟨rfl, hb⟩
  have HR1 := Lib.hid (HR0.out.below hb (by simp))
  have HW := Lib.hid (HA.out.below hb)
  have HB := Lib.hid (HX.out.trans (hb.mono (by simp)))
  have hl1 : w1.cell? ⟨g, 1, none⟩ = some (.int .i64 s.lim) := HW.out.blk.cell 1
  clear hb
  rw [HK.out]
  go_wp2_with fail
  go_quiet ((go_at_call 26; exact Calls.quiet_of_same ((refCharged_any (HW.out.below (below_drewN (Below.refl _ _) _))).mono fun _ _ h => ⟨h.1, h.2.symm⟩)))
  have HR2 : Hid (Has (w1.drewN nq) w.heap.size 85 #[.int .u32 0, .int .u32 0]) := Lib.hid HR1.out
  have HW2 := Lib.hid (HW.out.below (below_drewN (Below.refl _ _) nq))
  have HB2 := Lib.hid (below_drewN HB.out nq)
  clear HR1 HW HB hl1 hw1
  generalize w1.drewN nq = w2 at *
  have c2 : w2.cell? ⟨g, 2, none⟩ = some v := HW2.out.blk.cell 2
  obtain ⟨A, c, rfl⟩ := own_slice HW2.out.row
  go_wp2_with fail
  go_loop [8] (fun i => ∃ k : Nat, k ≤ fre s.l ∧ i = .int .i64 k) (fun i => fre s.l - (intOf i).toNat)
  case atStart => exact ⟨0, by omega, rfl⟩
  case round =>
    obtain ⟨k, hk, rfl⟩ := hrel
    by_cases hlt : k < fre s.l
    · have hkl : k < s.l.length := by omega
      obtain ⟨q, cap, e, _, _, _, _, d1, _, _, _⟩ := HW2.out.slot hkl
      simp only [Value.slice.injEq, true_and] at e
      obtain ⟨rfl, rfl⟩ := e
      have hlv := fre_lives s.l k hlt
      have hlv' : ((bk s.l k).r != 0) = true := hlv
      rw [hlv'] at d1
      have hk0 : (0 : Int) ≤ (k : Int) := by omega
      have hk1 : (k : Int) < (s.l.length : Int) := by omega
      clear hlv hlv'
      go_wp2
      go_round
      case rel => exact ⟨k + 1, by omega, by go_num⟩
      case measure => simp [intOf]; omega
    · obtain rfl : k = fre s.l := by omega
      have hd1 : decide (fre s.l < s.l.length) = false := decide_eq_false (by omega)
      have hd2 : decide ((fre s.l : Int) < (s.l.length : Int)) = false := decide_eq_false (by omega)
      have hd3 : ((fre s.l : Int) == 4096) = false := by simp; omega
      have hd4 : ((fre s.l : Int) == (s.l.length : Int)) = true := by simp; omega
      obtain ⟨v5, w5, hrun, hown, hgrow, hat⟩ := app_rblk w2 B _ s.l.length s.l HW2.out.row (by omega) (by have := HB2.out.size; omega)
      obtain ⟨q, cap, rfl, hcq⟩ : ∃ q cap, v5 = .slice (some ⟨q, 0, none⟩) (s.l.length + 1) cap ∧ s.l.length + 1 ≤ cap := by
        rcases hown.2 with ⟨_, h0⟩ | ⟨q, cap, cur, e, _, _, hc, _⟩
        · omega
        · exact ⟨q, cap, e, hc⟩
      have hs2 : w.heap.size + 1 ≤ w2.heap.size := HR2.out.lt
      have hg2l := HW2.out.lt
      have hq : (Value.slice A s.l.length c).ownBlock = some q ∨ q = w2.heap.size + 1 := by
        rcases hat with e | e
        · exact .inl e.symm
        · exact .inr (Option.some.inj e)
      have hqg : g ≠ q := by
        rcases hq with e | e
        · intro e'; exact HW2.out.ne (by rw [e, e'])
        · omega
      have hqg2 : q ≠ g := fun e => hqg e.symm
      have hqR : q ≠ w.heap.size := by
        rcases hq with e | e
        · intro e'; exact HNV.out (by rw [e, e'])
        · omega
      have hRq : w.heap.size ≠ q := fun e => hqR e.symm
      have hF5 : Fr g (Value.slice A s.l.length c).ownBlock w w5 := (Fr.of_below HB2.out).trans (Fr.trans (.of_below ((Below.refl _ _).alloc (Nat.le_refl _) (.cells rblanks 99))) ⟨hgrow.os, hgrow.tape, hgrow.output, hgrow.size, fun k hk _ h2 => hgrow.block k hk (fun e => h2 e.symm)⟩ (.inl rfl)) (.inl rfl)
      have k5 : Has w5 g 67 #[.int .i64 s.cap, .int .i64 s.lim, .slice A s.l.length c] := (hgrow.block g (by simp; omega) (fun e => HW2.out.ne e.symm)).trans ((Below.heap_alloc _ _ _ hg2l).trans HW2.out.blk)
      have r5 : Has w5 w.heap.size 85 #[.int .u32 0, .int .u32 0] := (hgrow.block w.heap.size (by simp; omega) (fun e => HNV.out e.symm)).trans ((Below.heap_alloc _ _ _ (by omega)).trans HR2.out)
      have hlen1 : (s.l ++ [blank]).length = s.l.length + 1 := by simp
      have HA5 : Hid (RfAt (w5.setCell ⟨g, 2, none⟩ (.slice (some ⟨q, 0, none⟩) (s.l.length + 1) cap)) B g (.slice (some ⟨q, 0, none⟩) (s.l ++ [blank]).length cap) ⟨s.cap, s.lim, s.l ++ [blank]⟩) := Lib.hid (by
        rw [hlen1]
        refine ⟨HW2.out.low, by simpa [Value.ownBlock] using hqg2, HWB.out, ?_, k5.put 2 _⟩
        show World.ownsRow _ B 99 4 _ (s.l ++ [blank]).length (rcells (s.l ++ [blank]))
        rw [hlen1]
        exact setg_owns hown (by simpa [Value.ownBlock] using hqg2) _ _)
      have HFIN := Lib.hid (fun (hw : Wf ⟨s.cap, s.lim, (s.l ++ [blank]).set s.l.length ⟨t, rnd t.length, 1⟩⟩) => ref_set4 (s := ⟨s.cap, s.lim, s.l ++ [blank]⟩) (g0 := 1) (f := s.l.length) HA5.out hqg t (by omega : rnd (t.length : Int) ≠ 0) hw)
      obtain ⟨q', cap', e, _, _, _, d0, d1, d2, d3, fz⟩ := HA5.out.slot (i := s.l.length) (by rw [hlen1]; omega)
      simp only [Value.slice.injEq, Option.some.injEq, Addr.mk.injEq, and_true, true_and] at e
      obtain ⟨rfl, rfl⟩ := e
      have hbb : bk (s.l ++ [blank]) s.l.length = blank := by rw [(blank_chg s.l).2.2.2, bk_ge (Nat.le_refl _)]
      simp only [hbb] at d0 d1 d2 d3
      rw [show (blank.r != 0) = false from rfl] at d1
      rw [show blank.g = 1 from rfl] at d0
      have c5 : w5.cell? ⟨g, 2, none⟩ = some (.slice A s.l.length c) := k5.cell 2
      have f5 := k5.free 2
      have rB : Has (w5.setCell ⟨g, 2, none⟩ (.slice (some ⟨q, 0, none⟩) (s.l.length + 1) cap)) w.heap.size 85 #[.int .u32 0, .int .u32 0] := (Below.heap_setCell _ _ _ _ hn2).trans r5
      have hR0 := rB.cell 0
      have hR1 := rB.cell 1
      simp only [List.getElem?_toArray, List.getElem?_cons_zero, List.getElem?_cons_succ] at hR0 hR1
      have fR := rB.free
      have c6 : (w5.setCell ⟨g, 2, none⟩ (.slice (some ⟨q, 0, none⟩) (s.l.length + 1) cap)).cell? ⟨g, 2, none⟩ = some (.slice (some ⟨q, 0, none⟩) (s.l.length + 1) cap) := (k5.put 2 _).cell 2
      have HRU := Lib.hid hrun
      have HF5 := Lib.hid hF5
      have HQ := Lib.hid hq
      have hk0 : (0 : Int) ≤ (s.l.length : Int) := by omega
      have hk1 : (s.l.length : Int) < ((s.l.length + 1 : Nat) : Int) := by omega
      clear hrun hown hgrow hat hq hF5 k5 r5 rB hbb hk
      rw [hfe]
      have HL1 := Lib.hid hlen1
      rw [hfe] at hd3 hd4
      clear hfe hd1 hd2 hlen1
      go_wp2_with (at_builtin; refine wpList_app HRU.out rfl rfl rfl rfl rfl ?_)
      go_region
      go_wp2
      refine bodyPost_ret (v := .tuple #[.agg #[.int .u32 (s.l.length : Int), .int .u32 1], .int .i64 0]) (by simp [results, Tryd.results36, go_sem, hR0, hR1]) rfl ?_
      have hw := HWF.out
      rw [HAL.out] at hw
      have fin := HFIN.out hw
      have ho : (Value.slice A s.l.length c).ownBlock = some q ∨ w.heap.size ≤ q := HQ.out.imp id (fun e => by omega)
      refine ⟨.slice (some ⟨q, 0, none⟩) (s.l ++ [blank]).length cap, by rw [aslot, agen, HE.out, HBB.out, HFE.out]; rfl, ?_, ?_, ?_⟩
      · rw [HAL.out]
        exact (fin.put_far hn1 (by simpa [Value.ownBlock] using hqR) _ _ _ _).below (Below.refl _ _).drew
      · rcases HQ.out with e | e
        · exact .inl e.symm
        · exact .inr ⟨q, rfl, by omega⟩
      · exact (((((((HF5.out.set_ok (b := g) (.inl rfl) 2 _).set_ok (b := q) (.inr ho) _ _).set_ok (b := q) (.inr ho) _ _).set_ok (b := q) (.inr ho) _ _).set_ok (b := q) (.inr ho) _ _).set_ok (b := w.heap.size) (.inr (.inr (Nat.le_refl _))) 0 _).set_ok (b := w.heap.size) (.inr (.inr (Nat.le_refl _))) 1 _).drew

theorem refAlloc_any {w : World} {B g : Nat} {v : Value} {s : Ar} (h : RfAt w B g v s) (hB : B ≤ w.heap.size) (t : List UInt8) (hlen : t.length ≤ maxLen) :
    Calls Tryd.prog 36 #[.pointer (some ⟨g, 0, none⟩), .string (str t)] w (RAlloced B g v s t w) := by
  by_cases he : aerr s t.length = 0
  · obtain ⟨h1, h2, h3⟩ := aerr_ok he
    by_cases hf : fre s.l < s.l.length
    · exact refAlloc_old h t hlen h1 h2 hf
    · exact refAlloc_new h t hlen h1 h2 hB (by have := fre_le s.l; omega) h3
  · exact refAlloc_no h t hlen he
end Go.Proofs.YtglhebpblncjaaaDoor
