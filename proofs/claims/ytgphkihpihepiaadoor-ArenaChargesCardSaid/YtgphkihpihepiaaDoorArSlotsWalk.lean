/- ArenaSlots tells true, whichever slot is freed. -/
import Derived.Test.YtgphkihpihepiaaDoorArHs
namespace Go.Proofs.YtgphkihpihepiaaDoor
open Go.RowKit
set_option linter.unusedVariables false

/-- k blocks of no bytes. -/
def full (c : Int) (k : Nat) : Ar := ⟨c, c, List.replicate k ⟨[], 16, 1⟩⟩
/-- Their handles. -/
def fulh (k : Nat) : List (Int × Int) := (List.range k).map fun i : Nat => ((i : Int), (1 : Int))
theorem fulh_len (k : Nat) : (fulh k).length = k := by simp [fulh]
theorem fulh_succ (k : Nat) : fulh (k + 1) = fulh k ++ [((k : Int), 1)] := by simp [fulh, List.range_succ]
theorem fulh_get {k i : Nat} (h : i < k) : (fulh k)[i]? = some ((i : Int), 1) := by simp [fulh, h]
theorem full_bk (c : Int) (k j : Nat) (h : j < k) : bk (full c k).l j = ⟨[], 16, 1⟩ := by rw [bk_of (by simpa [full] using h)]; simp [full]
theorem full_fre (c : Int) (k : Nat) : fre (full c k).l = k := by
  refine fre_of (fun j hj => ?_) ?_
  · rw [lvb, full_bk c k j hj]; rfl
  · exact lvb_ge (by simp [full])
theorem full_chg (c : Int) (k : Nat) : chg (full c k).l = 16 * (k : Int) := by
  induction k with
  | zero => rfl
  | succ k ih =>
    have e : chg (full c (k + 1)).l = 16 + chg (full c k).l := rfl
    rw [e, ih]; omega
theorem full_liv (c : Int) (k : Nat) : liv (full c k).l = (k : Int) := by
  induction k with
  | zero => rfl
  | succ k ih =>
    have e : liv (full c (k + 1)).l = 1 + liv (full c k).l := rfl
    rw [e, ih]; omega
theorem full_alo (c : Int) (k : Nat) (hk : k < 4096) (hc : 16 * (k : Int) + 16 ≤ c) : alo (full c k) [] = full c (k + 1) ∧ aslot (full c k) (([] : List UInt8).length : Int) = (k : Int) ∧ agen (full c k) (([] : List UInt8).length : Int) = 1 ∧ aerr (full c k) (([] : List UInt8).length : Int) = 0 := by
  have he : aerr (full c k) (([] : List UInt8).length : Int) = 0 := aerr_of (by decide) (by rw [full_chg]; show _ + 16 ≤ c; omega) (by rw [full_fre]; exact hk)
  have hl : (full c k).l.length = k := by simp [full]
  have hb : bk (full c k).l k = blank := bk_ge (by omega)
  refine ⟨?_, ?_, ?_, he⟩
  · rw [alo, if_pos he, tak, full_fre, if_neg (by omega), tkb, full_fre, hb]
    show (⟨c, c, List.replicate k ⟨[], 16, 1⟩ ++ [⟨[], 16, 1⟩]⟩ : Ar) = _
    rw [← List.replicate_succ']
    rfl
  · rw [aslot, if_pos he, full_fre]
  · rw [agen, if_pos he, full_fre, hb]; rfl
theorem full_full (c : Int) (hc : 65552 ≤ c) : alo (full c 4096) [] = full c 4096 ∧ aslot (full c 4096) (([] : List UInt8).length : Int) = 0 ∧ agen (full c 4096) (([] : List UInt8).length : Int) = 0 ∧ aerr (full c 4096) (([] : List UInt8).length : Int) = 11 := by
  have he : aerr (full c 4096) (([] : List UInt8).length : Int) = 11 := by
    unfold aerr
    rw [if_neg (by decide), full_chg, full_fre, if_neg (by show ¬ c < _ + 16; omega), if_pos (by omega)]
  have h0 : aerr (full c 4096) (([] : List UInt8).length : Int) ≠ 0 := by rw [he]; decide
  exact ⟨by rw [alo, if_neg h0], by rw [aslot, if_neg h0], by rw [agen, if_neg h0], he⟩
/-- All live but one. -/
def holed (c : Int) (k m : Nat) : Ar := ⟨c, c, (full c k).l.set m ⟨[], 0, 2⟩⟩
theorem full_free (c : Int) (k m : Nat) (h : m < k) : hit (full c k).l m 1 = true ∧ fro (full c k) m 1 = holed c k m := by
  have hh : hit (full c k).l m 1 = true := by rw [hit, full_bk c k m h]; rfl
  refine ⟨hh, ?_⟩
  rw [fro, hh, full_bk c k m h]; rfl
theorem holed_alo (c : Int) (k m : Nat) (h : m < k) (hk : k ≤ 4096) (hc : 16 * (k : Int) ≤ c) : aslot (holed c k m) (([120] : List UInt8).length : Int) = (m : Int) ∧ agen (holed c k m) (([120] : List UInt8).length : Int) = 2 ∧ aerr (holed c k m) (([120] : List UInt8).length : Int) = 0 := by
  have hl : m < (full c k).l.length := by simpa [full] using h
  have hb : bk (holed c k m).l m = ⟨[], 0, 2⟩ := by show bk ((full c k).l.set m _) m = _; rw [bk_set hl]; simp
  have hf : fre (holed c k m).l = m := by
    refine fre_of (fun j hj => ?_) ?_
    · show (bk ((full c k).l.set m _) j).r != 0
      rw [bk_set hl, if_neg (by omega), full_bk c k j (by omega)]; rfl
    · rw [lvb, hb]; rfl
  have hch : chg (holed c k m).l = 16 * (k : Int) - 16 := by
    show chg ((full c k).l.set m _) = _
    rw [chg_set hl, full_chg, full_bk c k m h]; simp
  have he : aerr (holed c k m) (([120] : List UInt8).length : Int) = 0 := aerr_of (by decide) (by rw [hch]; show _ + 16 ≤ c; omega) (by rw [hf]; omega)
  exact ⟨by rw [aslot, if_pos he, hf], by rw [agen, if_pos he, hf, hb], he⟩

set_option maxHeartbeats 8000000 in
set_option maxRecDepth 100000 in
theorem slots_walk (a0 : Int) (h00 : 0 ≤ a0) (h01 : a0 ≤ 65535) (w : World) (ht : Tab w) (hT : Dbt w) :
    Calls Tryd.prog 7 #[.int .u16 a0] w fun e w' => e = .returned (.bool true) ∧ Below w.heap.size w w' := by
  have HT := Lib.hid ht
  have HD := Lib.hid hT
  clear ht hT
  obtain ⟨N, rfl⟩ : ∃ n : Nat, a0 = (n : Int) := ⟨a0.toNat, by omega⟩
  go_enter Tryd.func7, Tryd.ntmps7
  go_wp2_with fail
  refine (examples_any w HT.out HD.out).mono ?_
  rintro e w1 ⟨rfl, b1⟩
  have B1 := Lib.hid b1
  clear b1
  go_wp2_with fail
  refine (new_sc 1048576 w1 (by omega) (by omega) (HT.out.below B1.out) (HD.out.below B1.out)).mono ?_
  rintro e w2 ⟨rfl, h2, b2⟩
  have H2 := Lib.hid h2
  have B2 := Lib.hid (B1.out.trans (b2.mono B1.out.size))
  have HZ := Lib.hid B1.out.size
  clear h2 b2
  generalize w1.heap.size = B at *
  go_wp2_with fail
  go_loopw [5, 6] (fun hv i wr => ∃ k : Nat, k ≤ 4096 ∧ i = .int .i64 k ∧ wr.ownsRow B 32 2 hv k (hcells (fulh k)) ∧ Sc wr B B (full 1048576 k) (hv.ownBlock.toList ++ []) ∧ Below w.heap.size w wr) (fun _ i _ => 4096 - (intOf i).toNat)
  case atStart => exact ⟨0, by omega, rfl, World.ownsRow_nil _ _ _ _, H2.out, B2.out⟩
  case round =>
    obtain ⟨k, hk, rfl, hO, hS, hBW⟩ := hrel
    have HO := Lib.hid hO
    have HS := Lib.hid hS
    have HBW := Lib.hid hBW
    clear hO hS hBW H2 B2
    by_cases hlt : k < 4096
    · go_wp2_with fail
      refine (alloc_sc HS.out [] (by decide)).mono ?_
      have hst := full_alo 1048576 k hlt (by omega)
      rw [hst.1, hst.2.1, hst.2.2.1, hst.2.2.2]
      clear hst
      rintro e w3 ⟨rfl, h3, b3⟩
      obtain ⟨v', w', hrun, hap⟩ := app_hs (h := ((k : Int), 1)) (fulh_len k) (h3.alloc (.cells #[.int .u32 (k : Int), .int .u32 1] 32)) ((b3.owns HO.out (by intro j hj; simp [hj])).alloc _) (by omega)
      rw [show (w3.alloc (.cells #[.int .u32 (k : Int), .int .u32 1] 32)).heap.size = w3.heap.size + 1 by simp] at hrun
      have HRU := Lib.hid hrun
      obtain ⟨o1, o2, o3, _, _⟩ := hap
      rw [fulh_len] at o1
      have O1 := Lib.hid o1
      have O2 := Lib.hid o2
      have O3 := Lib.hid (HBW.out.trans ((b3.bel.trans ((h3.kpa (.cells #[.int .u32 (k : Int), .int .u32 1] 32)).bel.trans o3)).mono HZ.out))
      clear hrun o1 o2 o3 h3 b3
      have hd : decide ((k : Int) < 4096) = true := by simp; omega
      go_wp2_with (at_builtin; refine wpList_app HRU.out rfl rfl rfl rfl rfl ?_)
      go_roundw
      case rel => exact ⟨k + 1, by omega, by go_num, by rw [fulh_succ]; exact O1.out, O2.out, O3.out⟩
      case measure => simp [intOf]; omega
    · obtain rfl : k = 4096 := by omega
      go_wp2_with fail
      refine (alloc_sc HS.out [] (by decide)).mono ?_
      have hst := full_full 1048576 (by omega)
      rw [hst.1, hst.2.1, hst.2.2.1, hst.2.2.2]
      clear hst
      rintro e w3 ⟨rfl, h3, b3⟩
      obtain ⟨m, hm⟩ : ∃ m : Nat, m = N % 4096 := ⟨_, rfl⟩
      have hm1 : m < 4096 := by omega
      have hm2 : (N : Int) % 4096 = (m : Int) := by omega
      obtain ⟨q, cap, rfl, hcap, _, _⟩ := hs_at HO.out (fulh_get hm1)
      have H3 := Lib.hid (h3.alloc (.cells #[.int .u32 0, .int .u32 0] 32))
      have O3 := Lib.hid ((b3.owns HO.out (by intro j hj; simp [hj])).alloc (.cells #[.int .u32 0, .int .u32 0] 32))
      have B3 := Lib.hid (HBW.out.trans ((b3.bel.trans (h3.kpa (.cells #[.int .u32 0, .int .u32 0] 32)).bel).mono HZ.out))
      clear h3 b3 hm
      go_wp2_with fail
      generalize w3.alloc (.cells #[.int .u32 0, .int .u32 0] 32) = w4 at *
      refine (live_sc H3.out).mono ?_
      rw [full_liv]
      rintro e w' ⟨rfl, rfl⟩
      obtain ⟨q', cap', e, _, c0, c1⟩ := hs_at O3.out (fulh_get hm1)
      simp only [Value.slice.injEq, Option.some.injEq, Addr.mk.injEq, and_true, true_and] at e
      obtain ⟨rfl, rfl⟩ := e
      go_wp2_with fail
      clear c0 c1
      refine (free_sc H3.out m 1 (by omega) (by omega) (by omega)).mono ?_
      have hff := full_free 1048576 4096 m hm1
      rw [hff.1, hff.2]
      clear hff
      rintro e w5 ⟨rfl, h5, b5⟩
      have H5 := Lib.hid h5
      have O5 := Lib.hid (b5.owns O3.out (by intro j hj; simp [hj]))
      have B5 := Lib.hid (B3.out.trans (b5.bel.mono HZ.out))
      clear h5 b5 H3 O3 B3
      go_wp2_with fail
      refine (alloc_sc H5.out [120] (by decide)).mono ?_
      have hha := holed_alo 1048576 4096 m hm1 (by omega) (by omega)
      rw [hha.1, hha.2.1, hha.2.2]
      clear hha
      rintro e w6 ⟨rfl, h6, b6⟩
      have O6 := b6.owns O5.out (by intro j hj; simp [hj])
      have B6 := Lib.hid (B5.out.trans ((b6.bel.trans (h6.kpa (.cells #[.int .u32 (m : Int), .int .u32 2] 32)).bel).mono HZ.out))
      obtain ⟨q', cap', e, _, c0, c1⟩ := hs_at O6 (fulh_get hm1)
      simp only [Value.slice.injEq, Option.some.injEq, Addr.mk.injEq, and_true, true_and] at e
      obtain ⟨rfl, rfl⟩ := e
      have cl := World.block_lt_of_cell? _ _ c1
      clear O6 h6 b6 O5 B5 H5 c0
      have hm3 : (m : Int) < 4096 := by omega
      have hm4 : (0 : Int) ≤ (m : Int) := by omega
      go_wp2
      go_quiet (fail)
      go_wp2
      go_ret
      exact ⟨rfl, below_drewN B6.out _⟩
end Go.Proofs.YtgphkihpihepiaaDoor
