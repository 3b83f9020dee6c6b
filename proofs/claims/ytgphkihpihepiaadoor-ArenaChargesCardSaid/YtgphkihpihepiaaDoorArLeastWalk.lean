/- ArenaLeast tells true, however many blocks there are, and whichever ones are freed. -/
import Derived.Test.YtgphkihpihepiaaDoorArLeastMath
import Derived.Test.YtgphkihpihepiaaDoorArStaleWalk
namespace Go.Proofs.YtgphkihpihepiaaDoor
open Go.RowKit
set_option linter.unusedVariables false

theorem own_mem2 {q n cap : Nat} {K : List Nat} : ∀ k, (Value.slice (some ⟨q, 0, none⟩) n cap).ownBlock = some k → k ∈ q :: K := fun k hk => by
  obtain rfl : q = k := Option.some.inj hk
  simp

/-- Of the slots from z on M is the least free one, as far as was looked. -/
def Lst (L : Nat → Bool) (k M : Nat) (z : Int) : Prop := (∀ j : Nat, z < (j : Int) → j < M → L j = true) ∧ (M < k → L M = false)
theorem Lst.keep {L : Nat → Bool} {k M j : Nat} (h : Lst L k M (j : Int)) (hL : L j = true) : Lst L k M ((j : Int) - 1) := ⟨fun i h1 h2 => by
  by_cases e : i = j
  · rw [e]; exact hL
  · exact h.1 i (by omega) h2, h.2⟩
theorem upd_lt (k j : Nat) : upd (fun j => decide (j < k)) k true j = decide (j < k + 1) := by
  unfold upd
  by_cases e : j = k
  · rw [if_pos e, e]; simp
  · rw [if_neg e, decide_eq_decide]; omega
set_option maxHeartbeats 8000000 in
set_option maxRecDepth 100000 in
theorem least_walk (a0 : Int) (a : Option Addr) (len cap : Nat) (zs : List Int) (h00 : 0 ≤ a0) (h01 : a0 ≤ 255) (w : World) (hr : IsRow .u8 w a len cap zs) (hz : ∀ n ∈ zs, (Lit.int .u8 n).wf = true) (ht : Tab w) (hT : Dbt w) :
    Calls Tryd.prog 9 #[.int .u8 a0, .slice a len cap] w fun e w' => e = .returned (.bool true) ∧ Below w.heap.size w w' := by
  have HT := Lib.hid ht
  have HD := Lib.hid hT
  have HR := Lib.hid hr
  have HZS := Lib.hid hz
  have hm1 : len ≤ 9223372036854775807 := by have h1 := hr.1; have h2 := hr.2.1; have h3 := hr.2.2.1; unfold maxLen at h3; omega
  clear ht hT hr hz
  obtain ⟨N, rfl⟩ : ∃ n : Nat, a0 = (n : Int) := ⟨a0.toNat, by omega⟩
  obtain ⟨n, hn⟩ : ∃ n : Nat, n = 1 + N % 30 := ⟨_, rfl⟩
  have hn2 : 1 + (N : Int) % 30 = (n : Int) := by omega
  have hn0 : 1 ≤ n := by omega
  have hn1 : n ≤ 30 := by omega
  clear hn
  go_enter Tryd.func9, Tryd.ntmps9
  go_wp2_with fail
  refine (examples_any w HT.out HD.out).mono ?_
  rintro e w1 ⟨rfl, b1⟩
  have B1 := Lib.hid b1
  clear b1
  go_wp2_with fail
  refine (new_sc 65536 w1 (by omega) (by omega) (HT.out.below B1.out) (HD.out.below B1.out)).mono ?_
  rintro e w2 ⟨rfl, h2, b2⟩
  have H2 := Lib.hid (h2.box (.cells (bcl n (fun _ => false)) 4))
  have C2 : Hid (Has (w2.alloc (.cells (bcl n (fun _ => false)) 4)) w2.heap.size 4 (bcl n (fun _ => false))) := Lib.hid (heap_alloc_new w2 _)
  have B2 := Lib.hid (B1.out.trans ((b2.trans (h2.kpa (.cells (bcl n (fun _ => false)) 4)).bel).mono B1.out.size))
  have HZ := Lib.hid B1.out.size
  clear h2 b2
  generalize w1.heap.size = B at *
  have hmk := make_bools n (by omega)
  go_wp2_with fail
  clear hmk
  generalize w2.alloc (.cells (bcl n (fun _ => false)) 4) = w3 at *
  generalize w2.heap.size = lb at *
  go_loopw [8, 10] (fun hv i wr => ∃ k : Nat, k ≤ n ∧ i = .int .i64 k ∧ wr.ownsRow B 32 2 hv k (hcells (fulh k)) ∧ Sc wr B B (full 65536 k) (hv.ownBlock.toList ++ [lb]) ∧ Has wr lb 4 (bcl n (fun j => decide (j < k))) ∧ hv.ownBlock ≠ some lb ∧ Below w.heap.size w wr) (fun _ i _ => n - (intOf i).toNat)
  case atStart => exact ⟨0, by omega, rfl, World.ownsRow_nil _ _ _ _, H2.out, C2.out, by simp [Value.ownBlock], B2.out⟩
  case round =>
    obtain ⟨k, hk, rfl, hO, hS, hC, hne, hBW⟩ := hrel
    have HO := Lib.hid hO
    have HS := Lib.hid hS
    have HC := Lib.hid hC
    have HNE := Lib.hid hne
    have HBW := Lib.hid hBW
    clear hO hS hC hne hBW H2 C2 B2
    by_cases hlt : k < n
    · go_wp2_with fail
      refine (alloc_sc HS.out [] (by decide)).mono ?_
      have hst := full_alo 65536 k (by omega) (by omega)
      rw [hst.1, hst.2.1, hst.2.2.1, hst.2.2.2]
      clear hst
      rintro e w4 ⟨rfl, h4, b4⟩
      have hlbl : lb < w4.heap.size := (b4.has (by simp) HC.out).lt
      obtain ⟨v', w', hrun, hap⟩ := app_hs (h := ((k : Int), 1)) (fulh_len k) (h4.alloc (.cells #[.int .u32 (k : Int), .int .u32 1] 32)) ((b4.owns HO.out (by intro j hj; simp [hj])).alloc _) (by omega)
      rw [show (w4.alloc (.cells #[.int .u32 (k : Int), .int .u32 1] 32)).heap.size = w4.heap.size + 1 by simp] at hrun
      have HRU := Lib.hid hrun
      obtain ⟨o1, o2, o3, o4, o5⟩ := hap
      rw [fulh_len] at o1
      have hC4 : Has w' lb 4 (bcl n (fun j => decide (j < k))) := (o4 lb (by simp; omega) HNE.out).trans (((h4.kpa (.cells #[.int .u32 (k : Int), .int .u32 1] 32)).has (by simp) (b4.has (by simp) HC.out)))
      have hne' : v'.ownBlock ≠ some lb := by
        rcases o5 with e | ⟨m, e, hm⟩
        · rw [e]; exact HNE.out
        · rw [e]; intro e2; have := Option.some.inj e2; simp at hm; omega
      have O1 := Lib.hid o1
      have O2 := Lib.hid o2
      have OB := Lib.hid (HBW.out.trans ((b4.bel.trans ((h4.kpa (.cells #[.int .u32 (k : Int), .int .u32 1] 32)).bel.trans o3)).mono HZ.out))
      have hcb := (hC4.cell k).trans (bcl_get _ hlt)
      have hfb := hC4.free k
      have HC4 := Lib.hid hC4
      have HNE' := Lib.hid hne'
      clear hrun o1 o2 o3 o4 o5 h4 b4 hC4 hne'
      go_wp2_with (at_builtin; refine wpList_app HRU.out rfl rfl rfl rfl rfl ?_)
      go_roundw
      case rel =>
        have hset := O2.out.set (k := lb) (by simp) k (.bool true)
        have hput := HC4.out.put k (.bool true)
        rw [bcl_set] at hput
        rw [bcl_ext (M := fun j => decide (j < k + 1)) (fun j _ => upd_lt k j)] at hput
        exact ⟨k + 1, by omega, by go_num, by rw [fulh_succ]; exact setg_owns O1.out HNE'.out _ _, hset.1, hput, HNE'.out, OB.out.trans (hset.2.mono HZ.out)⟩
      case measure => simp [intOf]; omega
    · obtain rfl : k = n := by omega
      obtain ⟨q, cp, rfl, hcap, _, _⟩ := hs_at HO.out (fulh_get (k := k) (i := 0) (by omega))
      have hqn : q ≠ lb := fun e => HNE.out (by rw [e]; rfl)
      have HS2 : Hid (Sc wr B B (lsa (fun j => decide (j < k)) k) (q :: [lb])) := Lib.hid (by rw [← full_lsa k _ (by intro j hj; simpa using hj)]; exact HS.out)
      clear HS HNE hn2 hk hlt
      rename World => w5
      go_wp2_with fail
      go_loopw [13] (fun i wr => ∃ (j : Nat) (L : Nat → Bool), j ≤ len ∧ j ≤ 20 ∧ i = .int .i64 j ∧ Sc wr B B (lsa L k) (q :: [lb]) ∧ wr.ownsRow B 32 2 (.slice (some ⟨q, 0, none⟩) k cp) k (hcells (fulh k)) ∧ Has wr lb 4 (bcl k L) ∧ Below w.heap.size w wr) (fun i _ => 20 - (intOf i).toNat)
      case atStart => exact ⟨0, _, by omega, by omega, rfl, HS2.out, HO.out, HC.out, HBW.out⟩
      case round =>
        obtain ⟨j, L, hj, hj2, rfl, hS, hO, hC, hB⟩ := hrel
        have KS := Lib.hid hS
        have KO := Lib.hid hO
        have KC := Lib.hid hC
        have KB := Lib.hid hB
        clear hS hO hC hB HS2 HO HC HBW
        by_cases hlt : j < len ∧ j < 20
        · obtain ⟨hl1, hl2⟩ := hlt
          obtain ⟨b, off, rfl, hc⟩ := (HR.out.below KB.out).at_ hl1
          obtain ⟨x, hx, hx1⟩ : ∃ x : Nat, zs.getD j 0 = (x : Int) ∧ x ≤ 255 := byte_at HZS.out j
          rw [hx] at hc
          clear hx
          obtain ⟨m, hm⟩ : ∃ m : Nat, m = x % k := ⟨_, rfl⟩
          have hm1 : m < k := by rw [hm]; exact Nat.mod_lt _ (by omega)
          have hm2 : (x : Int) % (k : Int) = (m : Int) := by rw [hm]; exact (Int.natCast_emod x k).symm
          have hm3 : (0 : Int) ≤ (m : Int) := by omega
          have hm4 : (m : Int) < (k : Int) := by omega
          clear hm
          have R0 := Lib.hid (hs_at2 KO.out (fulh_get hm1))
          have R1 := Lib.hid ((KC.out.cell m).trans (bcl_get L hm1))
          go_wp2_with fail
          clear hc
          go_region_held3 (fun w' => w'.cell? ⟨q, m * 2, none⟩ = some (.int .u32 (m : Int)) ∧ w'.cell? ⟨q, m * 2 + 1, none⟩ = some (.int .u32 1) ∧ w'.cell? ⟨lb, m, none⟩ = some (.bool (L m)))
            (first | exact C8.out | exact ⟨R0.out.1, R0.out.2, R1.out⟩)
            (first
              | (go_at_call 20; refine (free_sc KS.out.drew m 1 (by omega) (by omega) (by omega)).mono ?_; rw [(lsa_free L hm1).1, (lsa_free L hm1).2]; rintro e w8 ⟨rfl, h8, b8⟩; have O8 := Lib.hid (b8.owns KO.out own_mem2); have D8 := Lib.hid (b8.has (k := lb) (by simp) KC.out); have C8 : Hid (w8.cell? ⟨q, m * 2, none⟩ = some (.int .u32 (m : Int)) ∧ w8.cell? ⟨q, m * 2 + 1, none⟩ = some (.int .u32 1) ∧ w8.cell? ⟨lb, m, none⟩ = some (.bool (L m))) := Lib.hid ⟨(hs_at2 O8.out (fulh_get hm1)).1, (hs_at2 O8.out (fulh_get hm1)).2, (D8.out.cell m).trans (bcl_get L hm1)⟩; have H8 := Lib.hid h8; have B8 := Lib.hid (KB.out.drew.trans (b8.bel.mono HZ.out)); clear h8 b8))
          have hcb := (D8.out.cell m).trans (bcl_get L hm1)
          have hfb := D8.out.free m
          clear C8 R0 R1 KS KO KC KB
          generalize hLm : L m = lm at *
          clear hLm
          go_wp2
          go_roundw
          case rel =>
            have hset := H8.out.set (k := lb) (by simp) m (.bool false)
            have hput := D8.out.put m (.bool false)
            rw [bcl_set] at hput
            exact ⟨j + 1, upd L m false, by omega, by omega, by go_num, hset.1, setg_owns O8.out (by simpa [Value.ownBlock] using hqn) _ _, hput, B8.out.trans (hset.2.mono HZ.out)⟩
          case measure => simp [intOf]; omega
        · have hcs : decide (j < len) = false ∨ (j < len ∧ ¬ j < 20) := by
            by_cases h1 : j < len
            · exact .inr ⟨h1, fun h2 => hlt ⟨h1, h2⟩⟩
            · exact .inl (by simpa using h1)
          clear hlt
          have hk0 : (0 : Int) ≤ (k : Int) - 1 := by omega
          rcases hcs with hcs | ⟨hcs1, hcs2⟩
          all_goals
            go_wp2_with fail
            go_loop [15, 16] (fun m i => ∃ (M : Nat) (z : Int), M ≤ k ∧ -1 ≤ z ∧ z < (k : Int) ∧ z < (M : Int) ∧ i = .int .i64 z ∧ m = .int .i64 M ∧ Lst L k M z) (fun _ i => (intOf i + 1).toNat)
            case atStart => exact ⟨k, (k : Int) - 1, by omega, by omega, by omega, by omega, rfl, rfl, fun j h1 h2 => by omega, fun h => by omega⟩
            case round =>
              obtain ⟨M, z, hM, hz0, hz1, hz2, rfl, rfl, hLs⟩ := hrel
              have HLs := Lib.hid hLs
              clear hLs
              by_cases hz : 0 ≤ z
              · obtain ⟨jn, rfl⟩ : ∃ jn : Nat, z = (jn : Int) := ⟨z.toNat, by omega⟩
                have hjk : jn < k := by omega
                have hcl := (KC.out.cell jn).trans (bcl_get L hjk)
                cases hL : L jn with
                | true =>
                  rw [hL] at hcl
                  have HL := Lib.hid hL
                  clear hL
                  go_wp2
                  go_round
                  case rel => exact ⟨M, (jn : Int) - 1, by omega, by omega, by omega, by omega, by go_num, rfl, HLs.out.keep HL.out⟩
                  case measure => simp [intOf]
                | false =>
                  rw [hL] at hcl
                  have HL := Lib.hid hL
                  clear hL
                  go_wp2
                  go_round
                  case rel => exact ⟨jn, (jn : Int) - 1, by omega, by omega, by omega, by omega, by go_num, by go_num, ⟨fun j h1 h2 => by omega, fun _ => HL.out⟩⟩
                  case measure => simp [intOf]
              · obtain rfl : z = -1 := by omega
                have hl1 : ∀ j, j < M → L j = true := fun j hj => HLs.out.1 j (by omega) hj
                have hls := lsa_least L (n := k) (m := M) (by omega) hM hl1 HLs.out.2
                have HLS := Lib.hid hls
                clear hl1 hls HLs
                go_wp2_with fail
                refine (alloc_sc KS.out [120] (by decide)).mono ?_
                rw [HLS.out.1, HLS.out.2.1, HLS.out.2.2]
                rintro e w9 ⟨rfl, h9, b9⟩
                have O9 := b9.owns KO.out own_mem2
                by_cases hMk : M < k
                · rw [if_pos hMk]
                  have c1 := (hs_at2 O9 (fulh_get hMk)).2
                  have cl := World.block_lt_of_cell? _ _ c1
                  have B9 := Lib.hid (KB.out.trans ((b9.bel.trans (h9.kpa (.cells #[.int .u32 (M : Int), .int .u32 2] 32)).bel).mono HZ.out))
                  have hne : ((M : Int) == (k : Int)) = false := by simp; omega
                  have hM0 : (0 : Int) ≤ (M : Int) := by omega
                  have hM1 : (M : Int) < (k : Int) := by omega
                  clear h9 b9 O9
                  go_wp2
                  go_quiet (fail)
                  go_wp2
                  go_ret
                  exact ⟨rfl, below_drewN B9.out _⟩
                · rw [if_neg hMk]
                  obtain rfl : M = k := by omega
                  have B9 := Lib.hid (KB.out.trans ((b9.bel.trans (h9.kpa (.cells #[.int .u32 (M : Int), .int .u32 1] 32)).bel).mono HZ.out))
                  clear h9 b9 O9
                  go_wp2
                  go_quiet (fail)
                  go_wp2
                  go_ret
                  exact ⟨rfl, below_drewN B9.out _⟩
end Go.Proofs.YtgphkihpihepiaaDoor
