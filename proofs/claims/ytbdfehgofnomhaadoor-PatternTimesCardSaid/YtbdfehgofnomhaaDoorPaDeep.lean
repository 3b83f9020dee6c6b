/- Layer 9: deep. -/
import Derived.Test.YtbdfehgofnomhaaDoorPaIt
import Derived.Test.YtbdfehgofnomhaaDoorPaListM
namespace Go.Proofs.YtbdfehgofnomhaaDoor
open Go.RowKit
set_option linter.unusedVariables false

/-- How deep the deepest of these is. -/
def mostI : List IT → Nat
  | [] => 0
  | x :: xs => max (deepI x) (mostI xs)
theorem mostI_nil : mostI [] = 0 := rfl
theorem mostI_cons (x : IT) (xs : List IT) : mostI (x :: xs) = max (deepI x) (mostI xs) := rfl
theorem deepIs_most : ∀ l : List IT, deepIs l = if l.length = 0 then 0 else 1 + mostI l
  | [] => by rw [deepIs_nil]; rfl
  | [x] => by rw [deepIs_cons, deepIs_nil, mostI_cons, mostI_nil]; simp
  | x :: y :: ys => by
    have := deepIs_most (y :: ys)
    rw [deepIs_cons, mostI_cons, this, if_neg (by simp), if_neg (by simp)]
    omega
set_option maxHeartbeats 4000000 in
theorem mostI_any (l : List IT) (A : Option Addr) (c : Nat) (w : World) (hcap : l.length ≤ 9223372036854775807) (hl : Its w A l) (hB : mostI l ≤ 1000000000)
    (ih : ∀ t ∈ l, ∀ w', Below w.heap.size w w' → Calls Tryd.prog 29 #[t.val] w' fun e w'' => e = .returned (.int .i64 (deepI t : Nat)) ∧ Below w'.heap.size w' w'') :
    Calls Tryd.prog 28 #[.slice A l.length c, .func (Fn.func 29) #[] #[]] w fun e w' => e = .returned (.int .i64 (mostI l : Nat)) ∧ Below w.heap.size w w' := by
  obtain ⟨C, hC⟩ : ∃ C, mostI l = C := ⟨_, rfl⟩
  rw [hC] at hB ⊢
  have HC := Lib.hid hC
  have HI := Lib.hid ih
  have HK := Lib.hid hl
  have HCB := Lib.hid hB
  clear hC ih hl hB
  go_enter Tryd.func28, Tryd.ntmps28
  go_wp2
  go_loopw [4, 9] (fun s i wr => ∃ k n : Nat, k ≤ l.length ∧ s = .int .i64 (n : Nat) ∧ i = .int .i64 k ∧ max n (mostI (l.drop k)) = C ∧ Below w.heap.size w wr) (fun s i _ => l.length - (intOf i).toNat)
  case atStart => exact ⟨0, 0, Nat.zero_le _, rfl, rfl, by have := HC.out; simp at this ⊢; omega, Below.refl _ _⟩
  case round =>
    obtain ⟨j, n, hj, rfl, rfl, hrest, hb⟩ := hrel
    have HRR := Lib.hid hrest
    have HB := Lib.hid hb
    clear hrest hb
    by_cases hlt : j < l.length
    · obtain ⟨⟨b, off, rfl, g0, g1, g2, g3, g4, g5, g6⟩, hkin⟩ := (HK.out j hlt).imp (fun h => h.below HB.out) (fun h => h.below HB.out)
      have e1 := List.drop_eq_getElem_cons hlt
      obtain ⟨x, hx⟩ : ∃ x, l[j] = x := ⟨_, rfl⟩
      have hmem : x ∈ l := by rw [← hx]; exact List.getElem_mem _
      rw [hx] at g0 g1 g2 g3 g4 g5 g6 e1
      obtain ⟨W, hW⟩ : ∃ W, W = wr.alloc (.cells #[.int .i64 x.k, .string (str x.nm), .string (str x.vr), .slice x.pA x.ps.length x.pc, .int .i64 x.lo, .int .i64 x.hi, .slice x.kA x.ks.length x.kc] 42) := ⟨_, rfl⟩
      have bl : Below wr.heap.size wr W := by rw [hW]; exact (Below.refl _ _).alloc (Nat.le_refl _) _
      have bt := HB.out.trans (bl.mono HB.out.size)
      have hcl := HI.out x hmem W bt
      rw [show x.val = Value.agg #[.int .i64 x.k, .string (str x.nm), .string (str x.vr), .slice x.pA x.ps.length x.pc, .int .i64 x.lo, .int .i64 x.hi, .slice x.kA x.ks.length x.kc] from rfl] at hcl
      have hst : mostI (l.drop j) = max (deepI x) (mostI (l.drop (j + 1))) := by rw [e1, mostI_cons]
      obtain ⟨v, hv⟩ : ∃ v, deepI x = v := ⟨_, rfl⟩
      rw [hv] at hcl hst
      have hbd : n ≤ 1000000000 ∧ v ≤ 1000000000 ∧ v ≤ 1000000000 := by have := HRR.out; have := HCB.out; omega
      obtain ⟨hbd1, hbd2, hbd3⟩ := hbd
      have HCL := Lib.hid hcl
      have HST := Lib.hid hst
      have HW := Lib.hid hW
      have HBT := Lib.hid bt
      clear hcl hst hv e1 hW bt bl hkin hx hmem
      rcases Nat.le_total n v with hm | hm
      · have hmx : (if (n : Int) < (v : Int) then (v : Int) else n) = v := by split <;> omega
        go_wp2_with (go_at_call 29; rw [← HW.out]; refine HCL.out.mono ?_; rintro e w' ⟨rfl, hb2⟩)
        go_roundw
        case rel => exact ⟨j + 1, v, by omega, by first | go_num | (simp; omega), by go_num, by have := HRR.out; have := HST.out; omega, HBT.out.trans (hb2.mono HBT.out.size)⟩
        case measure => simp [intOf]; omega
      · have hmx : (if (n : Int) < (v : Int) then (v : Int) else n) = n := by split <;> omega
        go_wp2_with (go_at_call 29; rw [← HW.out]; refine HCL.out.mono ?_; rintro e w' ⟨rfl, hb2⟩)
        go_roundw
        case rel => exact ⟨j + 1, n, by omega, by first | go_num | (simp; omega), by go_num, by have := HRR.out; have := HST.out; omega, HBT.out.trans (hb2.mono HBT.out.size)⟩
        case measure => simp [intOf]; omega
    · have HE : Hid (n = C) := Lib.hid (by have := HRR.out; rw [List.drop_eq_nil_of_le (by omega), mostI_nil] at this; omega)
      go_wp2
      go_ret
      exact ⟨ret_int (by rw [HE.out]), HB.out⟩
set_option maxHeartbeats 4000000 in
theorem mostK_any (l : List (List IT)) (kp : List (Option Addr × Nat)) (A : Option Addr) (c : Nat) (w : World) (hcap : l.length ≤ 9223372036854775807) (hl : Kds w A l kp) (hB : deepKs l ≤ 1000000000)
    (ih : ∀ j (h : j < l.length) (h' : j < kp.length), ∀ w', Below w.heap.size w w' → Calls Tryd.prog 15 #[.slice kp[j].1 l[j].length kp[j].2] w' fun e w'' => e = .returned (.int .i64 (deepIs l[j] : Nat)) ∧ Below w'.heap.size w' w'') :
    Calls Tryd.prog 46 #[.slice A l.length c, .func (Fn.func 15) #[] #[]] w fun e w' => e = .returned (.int .i64 (deepKs l : Nat)) ∧ Below w.heap.size w w' := by
  obtain ⟨C, hC⟩ : ∃ C, deepKs l = C := ⟨_, rfl⟩
  rw [hC] at hB ⊢
  have HC := Lib.hid hC
  have HI := Lib.hid ih
  have HK := Lib.hid hl
  have HCB := Lib.hid hB
  clear hC ih hl hB
  go_enter Tryd.func46, Tryd.ntmps46
  go_wp2
  go_loopw [4, 9] (fun s i wr => ∃ k n : Nat, k ≤ l.length ∧ s = .int .i64 (n : Nat) ∧ i = .int .i64 k ∧ max n (deepKs (l.drop k)) = C ∧ Below w.heap.size w wr) (fun s i _ => l.length - (intOf i).toNat)
  case atStart => exact ⟨0, 0, Nat.zero_le _, rfl, rfl, by have := HC.out; simp at this ⊢; omega, Below.refl _ _⟩
  case round =>
    obtain ⟨j, n, hj, rfl, rfl, hrest, hb⟩ := hrel
    have HRR := Lib.hid hrest
    have HB := Lib.hid hb
    clear hrest hb
    by_cases hlt : j < l.length
    · have hlt' : j < kp.length := by rw [HK.out.1]; exact hlt
      obtain ⟨b, off, rfl, g0⟩ := (HK.out.2 j hlt hlt').1.1.imp (below_imp HB.out)
      have hcl := HI.out j hlt hlt' wr HB.out
      have e1 := List.drop_eq_getElem_cons hlt
      obtain ⟨x, hx⟩ : ∃ x, l[j] = x := ⟨_, rfl⟩
      obtain ⟨q, hq⟩ : ∃ q, kp[j] = q := ⟨_, rfl⟩
      rw [hx, hq] at g0 hcl
      rw [hx] at e1
      have hst : deepKs (l.drop j) = max (deepIs x) (deepKs (l.drop (j + 1))) := by rw [e1, deepKs_cons]
      obtain ⟨v, hv⟩ : ∃ v, deepIs x = v := ⟨_, rfl⟩
      rw [hv] at hcl hst
      have hbd : n ≤ 1000000000 ∧ v ≤ 1000000000 ∧ v ≤ 1000000000 := by have := HRR.out; have := HCB.out; omega
      obtain ⟨hbd1, hbd2, hbd3⟩ := hbd
      have HCL := Lib.hid hcl
      have HST := Lib.hid hst

      clear hcl hst hv e1 hx hq
      rcases Nat.le_total n v with hm | hm
      · have hmx : (if (n : Int) < (v : Int) then (v : Int) else n) = v := by split <;> omega
        go_wp2_with (go_at_call 15; refine HCL.out.mono ?_; rintro e w' ⟨rfl, hb2⟩)
        go_roundw
        case rel => exact ⟨j + 1, v, by omega, by first | go_num | (simp; omega), by go_num, by have := HRR.out; have := HST.out; omega, HB.out.trans (hb2.mono HB.out.size)⟩
        case measure => simp [intOf]; omega
      · have hmx : (if (n : Int) < (v : Int) then (v : Int) else n) = n := by split <;> omega
        go_wp2_with (go_at_call 15; refine HCL.out.mono ?_; rintro e w' ⟨rfl, hb2⟩)
        go_roundw
        case rel => exact ⟨j + 1, n, by omega, by first | go_num | (simp; omega), by go_num, by have := HRR.out; have := HST.out; omega, HB.out.trans (hb2.mono HB.out.size)⟩
        case measure => simp [intOf]; omega
    · have HE : Hid (n = C) := Lib.hid (by have := HRR.out; rw [List.drop_eq_nil_of_le (by omega), deepKs_nil] at this; omega)
      go_wp2
      go_ret
      exact ⟨ret_int (by rw [HE.out]), HB.out⟩
theorem deepK_mem : ∀ {ks : List (List IT)} {l : List IT}, l ∈ ks → deepIs l ≤ deepKs ks
  | x :: xs, l, h => by
    rw [deepKs_cons]
    rcases List.mem_cons.1 h with rfl | h
    · omega
    · have := deepK_mem h; omega
theorem mostL_mem : ∀ {l : List IT} {t : IT}, t ∈ l → deepI t ≤ mostI l
  | x :: xs, t, h => by
    rw [mostI_cons]
    rcases List.mem_cons.1 h with rfl | h
    · omega
    · have := mostL_mem h; omega
theorem most_le (l : List IT) : mostI l ≤ deepIs l := by
  rw [deepIs_most]
  split
  · rename_i h; rw [List.length_eq_zero_iff.1 h]; exact Nat.le_refl _
  · omega
theorem deepL_of (l : List IT) (A : Option Addr) (c : Nat) (w : World) (hcap : l.length ≤ 9223372036854775807) (hl : Its w A l) (hB : deepIs l ≤ 1000000000)
    (ih : ∀ t ∈ l, ∀ w', Below w.heap.size w w' → Calls Tryd.prog 29 #[t.val] w' fun e w'' => e = .returned (.int .i64 (deepI t : Nat)) ∧ Below w'.heap.size w' w'') :
    Calls Tryd.prog 15 #[.slice A l.length c] w fun e w' => e = .returned (.int .i64 (deepIs l : Nat)) ∧ Below w.heap.size w w' := by
  have hm := most_le l
  have HC := Lib.hid (mostI_any l A c w hcap hl (by omega) ih)
  obtain ⟨M, hM⟩ : ∃ M, mostI l = M := ⟨_, rfl⟩
  rw [hM] at HC hm
  have hd := deepIs_most l
  rw [hM] at hd
  obtain ⟨m, hm2⟩ : ∃ m, l.length = m := ⟨_, rfl⟩
  rw [hm2] at hd HC ⊢
  obtain ⟨R, hR⟩ : ∃ R, deepIs l = R := ⟨_, rfl⟩
  rw [hR] at hd hB hm ⊢
  by_cases h0 : m = 0
  · rw [if_pos h0] at hd
    subst hd
    have d0 : ((m : Int) == 0) = true := by simp; omega
    clear ih hl
    go_enter Tryd.func15, Tryd.ntmps15
    go_wp2
    go_ret
    exact ⟨rfl, Below.refl _ _⟩
  · rw [if_neg h0] at hd
    have HD := Lib.hid hd
    have d0 : ((m : Int) == 0) = false := by simp; omega
    have hM1 : M ≤ 1000000000 := by omega
    clear ih hl hd
    go_enter Tryd.func15, Tryd.ntmps15
    go_wp2_with (go_at_call 28; refine HC.out.mono ?_; rintro e w1 ⟨rfl, b1⟩)
    go_ret
    exact ⟨ret_int (by rw [HD.out]; omega), b1⟩
set_option maxHeartbeats 4000000 in
theorem deepI_any : ∀ (t : IT) (w : World), t.In w → deepI t ≤ 1000000000 → Calls Tryd.prog 29 #[t.val] w fun e w' => e = .returned (.int .i64 (deepI t : Nat)) ∧ Below w.heap.size w w' := by
  refine IT.ind fun k nm vr pA pc ps lo hi kA kc kp ks ih w hin hB => ?_
  rw [deepI_mk] at hB ⊢
  have okk := okS_cap hin.ok.2.2.2.2.2.2
  obtain ⟨W, hW⟩ : ∃ W, W = w.alloc (.cells (csIm k nm vr pA ps.length pc lo hi kA ks.length kc) 42) := ⟨_, rfl⟩
  have bl : Below w.heap.size w W := by rw [hW]; exact (Below.refl _ _).alloc (Nat.le_refl _) _
  have hS := mostK_any ks kp kA kc W okk (hin.kds.below bl) (by omega) fun j h1 h2 w' hb2 =>
      deepL_of ks[j] kp[j].1 kp[j].2 w' (okS_cap (hin.kids j h1 h2).1.2) (((hin.kds.below bl).below hb2).2 j h1 h2).2 (by have := deepK_mem (List.getElem_mem h1); omega)
        fun t ht w'' hb3 => ih _ (List.getElem_mem _) t ht w'' (by
          obtain ⟨i, hi, rfl⟩ := List.getElem_of_mem ht
          exact (((((hin.kds.below bl).below hb2).2 j h1 h2).2 i hi).2).below hb3) (by have := deepK_mem (List.getElem_mem h1); have := mostL_mem ht; have := most_le ks[j]; omega)
  have HS := Lib.hid hS
  have HW := Lib.hid hW
  have HB := Lib.hid bl
  obtain ⟨C, hC⟩ : ∃ C, deepKs ks = C := ⟨_, rfl⟩
  rw [hC] at HS hB ⊢
  show Calls _ _ #[.agg #[.int .i64 k, .string (str nm), .string (str vr), .slice pA ps.length pc, .int .i64 lo, .int .i64 hi, .slice kA ks.length kc]] _ _
  clear hS hW bl ih hin hC
  go_enter Tryd.func29, Tryd.ntmps29
  go_wp2_with (go_at_call 46; rw [← HW.out]; refine HS.out.mono ?_; rintro e w1 ⟨rfl, b1⟩)
  go_ret
  exact ⟨rfl, HB.out.trans (b1.mono HB.out.size)⟩
theorem deepL_any (l : List IT) (A : Option Addr) (c : Nat) (w : World) (hcap : l.length ≤ 9223372036854775807) (hl : Its w A l) (hB : deepIs l ≤ 1000000000) :
    Calls Tryd.prog 15 #[.slice A l.length c] w fun e w' => e = .returned (.int .i64 (deepIs l : Nat)) ∧ Below w.heap.size w w' :=
  deepL_of l A c w hcap hl hB fun t ht w' hb => by
    have h1 := mostL_mem ht
    have h2 := most_le l
    obtain ⟨i, hi, rfl⟩ := List.getElem_of_mem ht
    exact deepI_any _ w' ((hl i hi).2.below hb) (by omega)
end Go.Proofs.YtbdfehgofnomhaaDoor
