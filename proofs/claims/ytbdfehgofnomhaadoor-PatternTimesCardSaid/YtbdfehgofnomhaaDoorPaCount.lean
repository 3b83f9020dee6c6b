/- Layer 9: count. -/
import Derived.Test.YtbdfehgofnomhaaDoorPaIt
import Derived.Test.YtbdfehgofnomhaaDoorPaListM
namespace Go.Proofs.YtbdfehgofnomhaaDoor
open Go.RowKit
set_option linter.unusedVariables false

set_option maxHeartbeats 4000000 in
theorem sumI_any (l : List IT) (A : Option Addr) (c : Nat) (w : World) (hcap : l.length ≤ 9223372036854775807) (hl : Its w A l) (hB : countIs l ≤ 1000000000)
    (ih : ∀ t ∈ l, ∀ w', Below w.heap.size w w' → Calls Tryd.prog 25 #[t.val] w' fun e w'' => e = .returned (.int .i64 (countI t : Nat)) ∧ Below w'.heap.size w' w'') :
    Calls Tryd.prog 24 #[.slice A l.length c, .func (Fn.func 25) #[] #[]] w fun e w' => e = .returned (.int .i64 (countIs l : Nat)) ∧ Below w.heap.size w w' := by
  obtain ⟨C, hC⟩ : ∃ C, countIs l = C := ⟨_, rfl⟩
  rw [hC] at hB ⊢
  have HC := Lib.hid hC
  have HI := Lib.hid ih
  have HK := Lib.hid hl
  have HCB := Lib.hid hB
  clear hC ih hl hB
  go_enter Tryd.func24, Tryd.ntmps24
  go_wp2
  go_loopw [4, 9] (fun s i wr => ∃ k n : Nat, k ≤ l.length ∧ s = .int .i64 (n : Nat) ∧ i = .int .i64 k ∧ n + countIs (l.drop k) = C ∧ Below w.heap.size w wr) (fun s i _ => l.length - (intOf i).toNat)
  case atStart => exact ⟨0, 0, Nat.zero_le _, rfl, rfl, by have := HC.out; simp at this ⊢; omega, Below.refl _ _⟩
  case round =>
    obtain ⟨j, n, hj, rfl, rfl, hrest, hb⟩ := hrel
    have HRR := Lib.hid hrest
    have HB := Lib.hid hb
    clear hrest hb
    by_cases hlt : j < l.length
    · obtain ⟨⟨b, off, rfl, g0, g1, g2, g3, g4, g5, g6⟩, hkin⟩ := (HK.out j hlt).imp (fun h => h.below HB.out) (fun h => h.below HB.out)
      have e1 := List.drop_eq_getElem_cons hlt
      obtain ⟨x, hx⟩ : ∃ x, l[j] = x := ⟨_, rfl⟩
      have hmem : x ∈ l := by rw [← hx]; exact List.getElem_mem _
      rw [hx] at g0 g1 g2 g3 g4 g5 g6 e1
      obtain ⟨W, hW⟩ : ∃ W, W = wr.alloc (.cells #[.int .i64 x.k, .string (str x.nm), .string (str x.vr), .slice x.pA x.ps.length x.pc, .int .i64 x.lo, .int .i64 x.hi, .slice x.kA x.ks.length x.kc] 42) := ⟨_, rfl⟩
      have bl : Below wr.heap.size wr W := by rw [hW]; exact (Below.refl _ _).alloc (Nat.le_refl _) _
      have bt := HB.out.trans (bl.mono HB.out.size)
      have hcl := HI.out x hmem W bt
      rw [show x.val = Value.agg #[.int .i64 x.k, .string (str x.nm), .string (str x.vr), .slice x.pA x.ps.length x.pc, .int .i64 x.lo, .int .i64 x.hi, .slice x.kA x.ks.length x.kc] from rfl] at hcl
      have hst : countIs (l.drop j) = countI x + countIs (l.drop (j + 1)) := by rw [e1, countIs_cons]
      obtain ⟨v, hv⟩ : ∃ v, countI x = v := ⟨_, rfl⟩
      rw [hv] at hcl hst
      have hbd : n ≤ 1000000000 ∧ v ≤ 1000000000 ∧ n + v ≤ 1000000000 := by have := HRR.out; have := HCB.out; omega
      obtain ⟨hbd1, hbd2, hbd3⟩ := hbd
      have HCL := Lib.hid hcl
      have HST := Lib.hid hst
      have HW := Lib.hid hW
      have HBT := Lib.hid bt
      clear hcl hst hv e1 hW bt bl hkin hx hmem
      go_wp2_with (go_at_call 25; rw [← HW.out]; refine HCL.out.mono ?_; rintro e w' ⟨rfl, hb2⟩)
      go_roundw
      case rel => exact ⟨j + 1, n + v, by omega, by go_num, by go_num, by have := HRR.out; have := HST.out; omega, HBT.out.trans (hb2.mono HBT.out.size)⟩
      case measure => simp [intOf]; omega
    · have HE : Hid (n = C) := Lib.hid (by have := HRR.out; rw [List.drop_eq_nil_of_le (by omega), countIs_nil] at this; omega)
      go_wp2
      go_ret
      exact ⟨ret_int (by rw [HE.out]), HB.out⟩
set_option maxHeartbeats 4000000 in
theorem sumK_any (l : List (List IT)) (kp : List (Option Addr × Nat)) (A : Option Addr) (c : Nat) (w : World) (hcap : l.length ≤ 9223372036854775807) (hl : Kds w A l kp) (hB : countKs l ≤ 1000000000)
    (ih : ∀ j (h : j < l.length) (h' : j < kp.length), ∀ w', Below w.heap.size w w' → Calls Tryd.prog 12 #[.slice kp[j].1 l[j].length kp[j].2] w' fun e w'' => e = .returned (.int .i64 (countIs l[j] : Nat)) ∧ Below w'.heap.size w' w'') :
    Calls Tryd.prog 42 #[.slice A l.length c, .func (Fn.func 12) #[] #[]] w fun e w' => e = .returned (.int .i64 (countKs l : Nat)) ∧ Below w.heap.size w w' := by
  obtain ⟨C, hC⟩ : ∃ C, countKs l = C := ⟨_, rfl⟩
  rw [hC] at hB ⊢
  have HC := Lib.hid hC
  have HI := Lib.hid ih
  have HK := Lib.hid hl
  have HCB := Lib.hid hB
  clear hC ih hl hB
  go_enter Tryd.func42, Tryd.ntmps42
  go_wp2
  go_loopw [4, 9] (fun s i wr => ∃ k n : Nat, k ≤ l.length ∧ s = .int .i64 (n : Nat) ∧ i = .int .i64 k ∧ n + countKs (l.drop k) = C ∧ Below w.heap.size w wr) (fun s i _ => l.length - (intOf i).toNat)
  case atStart => exact ⟨0, 0, Nat.zero_le _, rfl, rfl, by have := HC.out; simp at this ⊢; omega, Below.refl _ _⟩
  case round =>
    obtain ⟨j, n, hj, rfl, rfl, hrest, hb⟩ := hrel
    have HRR := Lib.hid hrest
    have HB := Lib.hid hb
    clear hrest hb
    by_cases hlt : j < l.length
    · have hlt' : j < kp.length := by rw [HK.out.1]; exact hlt
      obtain ⟨b, off, rfl, g0⟩ := (HK.out.2 j hlt hlt').1.1.imp (below_imp HB.out)
      have hcl := HI.out j hlt hlt' wr HB.out
      have e1 := List.drop_eq_getElem_cons hlt
      obtain ⟨x, hx⟩ : ∃ x, l[j] = x := ⟨_, rfl⟩
      obtain ⟨q, hq⟩ : ∃ q, kp[j] = q := ⟨_, rfl⟩
      rw [hx, hq] at g0 hcl
      rw [hx] at e1
      have hst : countKs (l.drop j) = countIs x + countKs (l.drop (j + 1)) := by rw [e1, countKs_cons]
      obtain ⟨v, hv⟩ : ∃ v, countIs x = v := ⟨_, rfl⟩
      rw [hv] at hcl hst
      have hbd : n ≤ 1000000000 ∧ v ≤ 1000000000 ∧ n + v ≤ 1000000000 := by have := HRR.out; have := HCB.out; omega
      obtain ⟨hbd1, hbd2, hbd3⟩ := hbd
      have HCL := Lib.hid hcl
      have HST := Lib.hid hst

      clear hcl hst hv e1 hx hq
      go_wp2_with (go_at_call 12; refine HCL.out.mono ?_; rintro e w' ⟨rfl, hb2⟩)
      go_roundw
      case rel => exact ⟨j + 1, n + v, by omega, by go_num, by go_num, by have := HRR.out; have := HST.out; omega, HB.out.trans (hb2.mono HB.out.size)⟩
      case measure => simp [intOf]; omega
    · have HE : Hid (n = C) := Lib.hid (by have := HRR.out; rw [List.drop_eq_nil_of_le (by omega), countKs_nil] at this; omega)
      go_wp2
      go_ret
      exact ⟨ret_int (by rw [HE.out]), HB.out⟩
theorem countK_mem : ∀ {ks : List (List IT)} {l : List IT}, l ∈ ks → countIs l ≤ countKs ks
  | x :: xs, l, h => by
    rw [countKs_cons]
    rcases List.mem_cons.1 h with rfl | h
    · omega
    · have := countK_mem h; omega
theorem countL_mem : ∀ {l : List IT} {t : IT}, t ∈ l → countI t ≤ countIs l
  | x :: xs, t, h => by
    rw [countIs_cons]
    rcases List.mem_cons.1 h with rfl | h
    · omega
    · have := countL_mem h; omega
theorem countL_of (l : List IT) (A : Option Addr) (c : Nat) (w : World) (hcap : l.length ≤ 9223372036854775807) (hl : Its w A l) (hB : countIs l ≤ 1000000000)
    (ih : ∀ t ∈ l, ∀ w', Below w.heap.size w w' → Calls Tryd.prog 25 #[t.val] w' fun e w'' => e = .returned (.int .i64 (countI t : Nat)) ∧ Below w'.heap.size w' w'') :
    Calls Tryd.prog 12 #[.slice A l.length c] w fun e w' => e = .returned (.int .i64 (countIs l : Nat)) ∧ Below w.heap.size w w' := by
  have HC := Lib.hid (sumI_any l A c w hcap hl hB ih)
  clear ih hl
  go_enter Tryd.func12, Tryd.ntmps12
  go_wp2_with (go_at_call 24; refine HC.out.mono ?_; rintro e w1 ⟨rfl, b1⟩)
  go_ret
  exact ⟨rfl, b1⟩
set_option maxHeartbeats 4000000 in
theorem countI_any : ∀ (t : IT) (w : World), t.In w → countI t ≤ 1000000000 → Calls Tryd.prog 25 #[t.val] w fun e w' => e = .returned (.int .i64 (countI t : Nat)) ∧ Below w.heap.size w w' := by
  refine IT.ind fun k nm vr pA pc ps lo hi kA kc kp ks ih w hin hB => ?_
  rw [countI_mk] at hB ⊢
  have okk := okS_cap hin.ok.2.2.2.2.2.2
  obtain ⟨W, hW⟩ : ∃ W, W = w.alloc (.cells (csIm k nm vr pA ps.length pc lo hi kA ks.length kc) 42) := ⟨_, rfl⟩
  have bl : Below w.heap.size w W := by rw [hW]; exact (Below.refl _ _).alloc (Nat.le_refl _) _
  have hS := sumK_any ks kp kA kc W okk (hin.kds.below bl) (by omega) fun j h1 h2 w' hb2 =>
      countL_of ks[j] kp[j].1 kp[j].2 w' (okS_cap (hin.kids j h1 h2).1.2) (((hin.kds.below bl).below hb2).2 j h1 h2).2 (by have := countK_mem (List.getElem_mem h1); omega)
        fun t ht w'' hb3 => ih _ (List.getElem_mem _) t ht w'' (by
          obtain ⟨i, hi, rfl⟩ := List.getElem_of_mem ht
          exact (((((hin.kds.below bl).below hb2).2 j h1 h2).2 i hi).2).below hb3) (by have := countK_mem (List.getElem_mem h1); have := countL_mem ht; omega)
  have HS := Lib.hid hS
  have HW := Lib.hid hW
  have HB := Lib.hid bl
  obtain ⟨C, hC⟩ : ∃ C, countKs ks = C := ⟨_, rfl⟩
  rw [hC] at HS hB ⊢
  show Calls _ _ #[.agg #[.int .i64 k, .string (str nm), .string (str vr), .slice pA ps.length pc, .int .i64 lo, .int .i64 hi, .slice kA ks.length kc]] _ _
  clear hS hW bl ih hin hC
  go_enter Tryd.func25, Tryd.ntmps25
  go_wp2_with (go_at_call 42; rw [← HW.out]; refine HS.out.mono ?_; rintro e w1 ⟨rfl, b1⟩)
  go_ret
  exact ⟨ret_int (by omega), HB.out.trans (b1.mono HB.out.size)⟩
theorem countL_any (l : List IT) (A : Option Addr) (c : Nat) (w : World) (hcap : l.length ≤ 9223372036854775807) (hl : Its w A l) (hB : countIs l ≤ 1000000000) :
    Calls Tryd.prog 12 #[.slice A l.length c] w fun e w' => e = .returned (.int .i64 (countIs l : Nat)) ∧ Below w.heap.size w w' :=
  countL_of l A c w hcap hl hB fun t ht w' hb => by
    have h1 := countL_mem ht
    obtain ⟨i, hi, rfl⟩ := List.getElem_of_mem ht
    exact countI_any _ w' ((hl i hi).2.below hb) (by omega)
end Go.Proofs.YtbdfehgofnomhaaDoor
