/- What Alloc does to the reference's arena where it has room, as a contract; and Alloc in all. -/
import Derived.Test.YtiandhfpdehicaaDoorArRefAlloc
namespace Go.Proofs.YtiandhfpdehicaaDoor
open Go.RowKit
set_option linter.unusedVariables false

theorem ref_set4 {w : World} {B g q cap : Nat} {s : Ar} (hA : RfAt w B g (.slice (some ⟨q, 0, none⟩) s.l.length cap) s) (hqg : g ≠ q) {f : Nat} (t : List UInt8) {r g0 : Int} (hr : r ≠ 0) (hw : Wf ⟨s.cap, s.lim, s.l.set f ⟨t, r, g0⟩⟩) :
    RfAt ((((w.setCell ⟨q, f * 4, none⟩ (.int .u32 g0)).setCell ⟨q, f * 4 + 1, none⟩ (.bool true)).setCell ⟨q, f * 4 + 2, none⟩ (.int .i64 r)).setCell ⟨q, f * 4 + 3, none⟩ (.string (str t))) B g (.slice (some ⟨q, 0, none⟩) s.l.length cap) ⟨s.cap, s.lim, s.l.set f ⟨t, r, g0⟩⟩ := by
  have hrow := ((((hA.row.stored (f * 4) (.int .u32 g0)).1.stored (f * 4 + 1) (.bool true)).1.stored (f * 4 + 2) (.int .i64 r)).1.stored (f * 4 + 3) (.string (str t))).1
  have hset := rcells_set s.l f ⟨t, r, g0⟩
  have hb : (r != 0) = true := by simpa using hr
  simp only [hb] at hset
  rw [hset] at hrow
  refine ⟨hA.low, hA.ne, hw, ?_, (Below.heap_setCell _ _ _ _ hqg).trans ((Below.heap_setCell _ _ _ _ hqg).trans ((Below.heap_setCell _ _ _ _ hqg).trans ((Below.heap_setCell _ _ _ _ hqg).trans hA.blk)))⟩
  show World.ownsRow _ _ _ _ _ (s.l.set _ _).length _
  rw [List.length_set]
  exact hrow
theorem info_rblk : (Tryd.prog.info? 69).map (fun i => (i.zero, i.size, i.bytes)) = some (some (.agg #[.int .u32 0, .bool false, .int .i64 0, .string ⟨#[]⟩]), 4, 32) := by kernel_rfl
abbrev rblanks : Array Value := #[.int .u32 1, .bool false, .int .i64 0, .string ⟨#[]⟩]
theorem rblanks_lie (w : World) : ∀ j u, rblanks.toList[j]? = some u → (w.alloc (.cells rblanks 69)).cell? ((⟨w.heap.size, 0, none⟩ : Addr).add j) = some u := by
  intro j u hu
  rw [Go.WideShapes.add_plain, Nat.zero_add, cell_of_row _ w.heap.size j rblanks 69 (0, 0) (heap_alloc_new w _)]
  simpa using hu
theorem app_rblk (w : World) (B : Nat) (v : Value) (n : Nat) (l : List Blk) (hown : w.ownsRow B 69 4 v n (rcells l)) (hn : n ≤ 4096) (hB : B ≤ w.heap.size) :
    ∃ v' w', (Builtin.append_ #[54, 54] 54 #[v, .slice (some ⟨w.heap.size, 0, none⟩) 1 1]).run Tryd.prog (w.alloc (.cells rblanks 69)) = .ok v' w' ∧ w'.ownsRow B 69 4 v' (n + 1) (rcells (l ++ [blank])) ∧ (w.alloc (.cells rblanks 69)).grownBy w' v.ownBlock ∧ (v'.ownBlock = v.ownBlock ∨ v'.ownBlock = some (w.heap.size + 1)) := by
  obtain ⟨i0, hi, hz0, hz1, hz2⟩ := info_parts info_rblk
  obtain ⟨v', w', h1, h2, h3, _, h4⟩ := run_append_own_at (P := Tryd.prog) (w.alloc (.cells rblanks 69)) B 54 54 69 i0 (.agg #[.int .u32 0, .bool false, .int .i64 0, .string ⟨#[]⟩]) 4 32 Tryd.underlying54 hi hz0 hz1 hz2 rfl (by omega) v n (rcells l) (hown.alloc _)
    ⟨w.heap.size, 0, none⟩ 1 1 rblanks.toList rfl (rblanks_lie w) (by intro u hu; simp at hu; rcases hu with rfl | rfl | rfl | rfl <;> rfl) (by unfold maxLen; omega) (by omega) (by simp; omega)
  exact ⟨v', w', h1, by rw [rcells_snoc]; exact h2, h3, by simpa using h4⟩

set_option maxHeartbeats 1600000 in
theorem refAlloc_old {w : World} {B g : Nat} {v : Value} {s : Ar} (h : RfAt w B g v s) (t : List UInt8) (hlen : t.length ≤ maxLen) (hk : rok (t.length : Int) = true) (hfit : chg s.l + rnd (t.length : Int) ≤ s.lim) (hfl : fre s.l < s.l.length) :
    Calls Tryd.prog 9 #[.pointer (some ⟨g, 0, none⟩), .string (str t)] w (RAlloced B g v s t w) := by
  unfold maxLen at hlen
  have hll := h.wf.len
  have hbx := rboxed w (.int .u32 0) (.int .u32 0)
  have HA := Lib.hid (h.below hbx)
  have HX := Lib.hid hbx
  have hsz := str_size t
  have hgs : g < w.heap.size := h.lt
  have hn1 : g ≠ w.heap.size := by omega
  have hn2 : w.heap.size ≠ g := by omega
  have hnv : v.ownBlock ≠ some w.heap.size := fun e => by have := (h.vlt _ e).2; omega
  have HNV := Lib.hid hnv
  have hlb : s.lim ≤ 16777216 := by have := h.wf.limc; have := h.wf.cap1; omega
  have hc0 := chg_ge h.wf.ok
  have HR0 : Hid (Has (w.alloc (.cells #[.int .u32 0, .int .u32 0] 35)) w.heap.size 35 #[.int .u32 0, .int .u32 0]) := Lib.hid (heap_alloc_new w _)
  have he := aerr_of hk hfit (by omega)
  have HE := Lib.hid he
  have HWF := Lib.hid (alo_wf h.wf t)
  have HAL : Hid (alo s t = ⟨s.cap, s.lim, s.l.set (fre s.l) ⟨t, rnd t.length, (bk s.l (fre s.l)).g⟩⟩) := Lib.hid (by rw [alo, if_pos he, tak, if_pos hfl, tkb])
  have HK := Lib.hid hk
  have hr16 := rnd16 hk
  have hr1 := hr16.1
  have hr2 := hr16.2.1
  have hok := h.wf.ok.at_ (fre s.l)
  have hg1 := hok.2.2.1
  have hg2 := hok.2.2.2
  have hw1 : IntKind.i64.wrap (chg s.l + rnd (t.length : Int)) = chg s.l + rnd (t.length : Int) := IntWalk.i64_in _ (by omega)
  clear hbx hnv he hk hr16 hok h
  go_enter Tryd.func9, Tryd.ntmps9
  go_wp2_with fail
  refine (refRound_any _ _).mono ?_
  rintro e w1 ⟨rfl, hb⟩
  have HR1 := Lib.hid (HR0.out.below hb (by simp))
  have HW := Lib.hid (HA.out.below hb)
  have HB := Lib.hid (HX.out.trans (hb.mono (by simp)))
  have hl1 : w1.cell? ⟨g, 1, none⟩ = some (.int .i64 s.lim) := HW.out.blk.cell 1
  clear hb
  rw [HK.out]
  go_wp2_with fail
  go_quiet ((go_at_call 21; exact Calls.quiet_of_same ((refCharged_any (HW.out.below (below_drewN (Below.refl _ _) _))).mono fun _ _ h => ⟨h.1, h.2.symm⟩)))
  have HR2 : Hid (Has (w1.drewN nq) w.heap.size 35 #[.int .u32 0, .int .u32 0]) := Lib.hid HR1.out
  have HW2 := Lib.hid (HW.out.below (below_drewN (Below.refl _ _) nq))
  have HB2 := Lib.hid (below_drewN HB.out nq)
  clear HR1 HW HB hl1 hw1
  generalize w1.drewN nq = w2 at *
  have c2 : w2.cell? ⟨g, 2, none⟩ = some v := HW2.out.blk.cell 2
  obtain ⟨A, c, rfl⟩ := own_slice HW2.out.row
  go_wp2_with fail
  go_loop [8] (fun i => ∃ k : Nat, k ≤ fre s.l ∧ i = .int .i64 k) (fun i => fre s.l - (intOf i).toNat)
  case atStart => exact ⟨0, by omega, rfl⟩
  case round =>
    obtain ⟨k, hk, rfl⟩ := hrel
    by_cases hlt : k < fre s.l
    · have hkl : k < s.l.length := by omega
      obtain ⟨q, cap, e, _, _, _, _, d1, _, _, _⟩ := HW2.out.slot hkl
      simp only [Value.slice.injEq, true_and] at e
      obtain ⟨rfl, rfl⟩ := e
      have hlv := fre_lives s.l k hlt
      have hlv' : ((bk s.l k).r != 0) = true := hlv
      rw [hlv'] at d1
      have hk0 : (0 : Int) ≤ (k : Int) := by omega
      have hk1 : (k : Int) < (s.l.length : Int) := by omega
      clear hlv hlv'
      go_wp2
      go_round
      case rel => exact ⟨k + 1, by omega, by go_num⟩
      case measure => simp [intOf]; omega
    · obtain rfl : k = fre s.l := by omega
      obtain ⟨q, cap, e, hqg, hq, hcap, d0, d1, d2, d3, fz⟩ := HW2.out.slot hfl
      simp only [Value.slice.injEq, true_and] at e
      obtain ⟨rfl, rfl⟩ := e
      have hfr := fre_r s.l
      rw [show ((bk s.l (fre s.l)).r != 0) = false by rw [hfr]; rfl] at d1
      have hd3 : ((fre s.l : Int) == 4096) = false := by simp; omega
      have hd4 : ((fre s.l : Int) == (s.l.length : Int)) = false := by simp; omega
      have hk0 : (0 : Int) ≤ (fre s.l : Int) := by omega
      have hk1 : (fre s.l : Int) < (s.l.length : Int) := by omega
      have hR0 := HR2.out.cell 0
      have hR1 := HR2.out.cell 1
      simp only [List.getElem?_toArray, List.getElem?_cons_zero, List.getElem?_cons_succ] at hR0 hR1
      have fR := HR2.out.free
      have hRlt := HR2.out.lt
      have hqR : q ≠ w.heap.size := fun e => HNV.out (by rw [e]; rfl)
      have hRq : w.heap.size ≠ q := fun e => hqR e.symm
      have hqg' : g ≠ q := fun e => hqg e.symm
      clear hfr
      have HFIN := Lib.hid (fun (hw : Wf ⟨s.cap, s.lim, s.l.set (fre s.l) ⟨t, rnd t.length, (bk s.l (fre s.l)).g⟩⟩) => ref_set4 (f := fre s.l) HW2.out hqg' t (by omega : rnd (t.length : Int) ≠ 0) hw)
      generalize hgb : (bk s.l (fre s.l)).g = g0 at *
      have HGB := Lib.hid hgb
      clear hgb hk
      go_wp2_with fail
      go_region
      go_wp2
      refine bodyPost_ret (v := .tuple #[.agg #[.int .u32 (fre s.l : Int), .int .u32 g0], .int .i64 0]) (by simp [results, Tryd.results9, go_sem, hR0, hR1]) rfl ?_
      have hw := HWF.out
      rw [HAL.out] at hw
      refine ⟨_, by rw [aslot, agen, HE.out, HGB.out]; rfl, ?_, .inl rfl, ?_⟩
      · rw [HAL.out]
        exact ((HFIN.out hw).put_far hn1 (by simpa [Value.ownBlock] using hqR) _ _ _ _).below (Below.refl _ _).drew
      · exact (((((((Fr.of_below HB2.out).seto _ _).seto _ _).seto _ _).seto _ _).set_ok (b := w.heap.size) (.inr (.inr (Nat.le_refl _))) 0 _).set_ok (b := w.heap.size) (.inr (.inr (Nat.le_refl _))) 1 _).drew
end Go.Proofs.YtiandhfpdehicaaDoor
