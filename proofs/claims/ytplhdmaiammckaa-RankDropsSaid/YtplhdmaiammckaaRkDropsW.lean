/- The walk of RankDrops: it returns true, whatever the scores, and which ones are dropped. -/
import Derived.Test.YtplhdmaiammckaaRkDropsM
import Derived.Deep.RegionHeld3
namespace Go.Proofs.Ytplhdmaiammckaa
open Go.RowKit
set_option linter.unusedVariables false

theorem byte_later {w wr : World} {x : Option Addr} {zs : List Int} {k : Nat} (h : Lies w x (zs.map (Value.int .u8))) (hz : ∀ n ∈ zs, (Lit.int .u8 n).wf = true) (hk : k < zs.length) (hb : Below w.heap.size w wr) : ∃ b off v, x = some ⟨b, off, none⟩ ∧ wr.cell? ⟨b, off + k, none⟩ = some (.int .u8 ((v : Nat) : Int)) ∧ v ≤ 255 := by
  have hget : (zs.map (Value.int .u8))[k]? = some (.int .u8 (zs[k]'hk)) := by
    simp [List.getElem?_eq_getElem hk]
  obtain ⟨b, off, rfl, hcell⟩ := h.at_ hget
  have hb2 := bounds_u8 (hz _ (List.getElem_mem hk))
  obtain ⟨v, hv⟩ : ∃ v : Nat, zs[k]'hk = v := ⟨(zs[k]'hk).toNat, by omega⟩
  rw [hv] at hcell hb2
  exact ⟨b, off, v, rfl, (hb.cell (p := ⟨b, off + k, none⟩) (World.block_lt_of_cell? _ _ hcell)).trans hcell, by omega⟩
theorem updB_id (f : Nat → Bool) (j : Nat) (b : Bool) (h : f j = b) : updB f j b = f := by
  funext i
  unfold updB
  split
  · rename_i e; rw [e, h]
  · rfl
theorem Rk.pos {w : World} {B g m n : Nat} {S : Int → Option Int} {K : List Nat} (h : Rk w B g m n S K) {k s : Int} (hk : S k = some s) : 0 < n := by
  obtain ⟨v, l, h1, h2, h3, h4, h5⟩ := h.ex
  obtain ⟨i, hi, _⟩ := h4.bwd k s hk
  omega
/-- A cell of the scores, later. -/
theorem cell_later {w wr : World} {x : Option Addr} {zs : List Int} {k : Nat} (h : Lies w x (zs.map (Value.int .i64))) (hk : k < zs.length) (hb : Below w.heap.size w wr) : ∃ b off, x = some ⟨b, off, none⟩ ∧ wr.cell? ⟨b, off + k, none⟩ = some (.int .i64 (zs.getD k 0)) := by
  have hget : (zs.map (Value.int .i64))[k]? = some (.int .i64 (zs.getD k 0)) := by
    simp [List.getD_eq_getElem?_getD, List.getElem?_eq_getElem hk]
  obtain ⟨b, off, rfl, hcell⟩ := h.at_ hget
  exact ⟨b, off, rfl, (hb.cell (p := ⟨b, off + k, none⟩) (World.block_lt_of_cell? _ _ hcell)).trans hcell⟩
theorem upto_next (k : Nat) : updB (fun j => decide (j < k)) k true = fun j => decide (j < k + 1) := by
  funext j
  unfold updB
  by_cases e : j = k
  · rw [if_pos e, e]; simp
  · rw [if_neg e, decide_eq_decide]; omega
/-- The rank with the slice of who is there. -/
structure Dr (w : World) (B g lb n M : Nat) (zs : List Int) (f : Nat → Bool) (w0 : World) : Prop where
  rk : Rk w B g B n (sF zs M f) [lb]
  th : Has w lb 4 (bcl M f)
  bel : Below w0.heap.size w0 w
theorem Dr.below {w w' : World} {B g lb n M : Nat} {zs : List Int} {f : Nat → Bool} {w0 : World} (h : Dr w B g lb n M zs f w0) (hb : Below w.heap.size w w') : Dr w' B g lb n M zs f w0 :=
  ⟨h.rk.below hb, (h.rk.kp hb).has (by simp) h.th, h.bel.trans (hb.mono h.bel.size)⟩
theorem Dr.cell {w : World} {B g lb n M : Nat} {zs : List Int} {f : Nat → Bool} {w0 : World} (h : Dr w B g lb n M zs f w0) {j : Nat} (hj : j < M) : w.cell? ⟨lb, j, none⟩ = some (.bool (f j)) := by
  rw [h.th.cell j, bcl_get f hj]
theorem Dr.set {w : World} {B g lb n M : Nat} {zs : List Int} {f : Nat → Bool} {w0 : World} {S : Int → Option Int} {w' : World} {n' : Nat} (h : Dr w B g lb n M zs f w0) (hB : w0.heap.size ≤ B) (hr : Rk w' B g B n' S [lb]) (hk : Kp B [lb] w w') (j : Nat) (b : Bool) (hS : S = sF zs M (updB f j b)) : Dr (w'.setCell ⟨lb, j, none⟩ (.bool b)) B g lb n' M zs (updB f j b) w0 := by
  have hs := hr.set (k := lb) (by simp) j (.bool b)
  have hp := (hk.has (by simp) h.th).put j (.bool b)
  rw [bcl_set] at hp
  subst hS
  exact ⟨hs.1, hp, h.bel.trans ((hk.bel.trans hs.2).mono hB)⟩
set_option maxRecDepth 100000 in
set_option maxHeartbeats 16000000 in
theorem drops_walk (x : Option Addr) (len cap : Nat) (zs : List Int) (y : Option Addr) (ln cp : Nat) (ys : List Int) (w : World) (hl : zs.length = len) (hc : len ≤ cap) (hm : cap ≤ maxLen) (hn : x = none → cap = 0) (hr : Lies w x (zs.map (Value.int .i64))) (hz : ∀ n ∈ zs, (Lit.int .i64 n).wf = true)
    (hl2 : ys.length = ln) (hc2 : ln ≤ cp) (hm2 : cp ≤ maxLen) (hn2 : y = none → cp = 0) (hr2 : Lies w y (ys.map (Value.int .u8))) (hz2 : ∀ n ∈ ys, (Lit.int .u8 n).wf = true) :
    Calls Try.prog 7 #[.slice x len cap, .slice y ln cp] w fun e w' => e = .returned (.bool true) ∧ Below w.heap.size w w' := by
  unfold maxLen at hm hm2
  obtain ⟨M, hM⟩ : ∃ M, min len 30 = M := ⟨_, rfl⟩
  have hM1 : M ≤ 30 := by omega
  have hM2 : M ≤ len := by omega
  have hM3 : min (len : Int) 30 = (M : Int) := by omega
  have HR := Lib.hid (And.intro hr (And.intro hl hz))
  have HR2 := Lib.hid (And.intro hr2 (And.intro hl2 hz2))
  clear hr hl hz hn hr2 hl2 hz2 hn2 hM
  go_enter Try.func7, Try.ntmps7
  go_wp2_with fail
  refine (ex_any w).mono ?_
  rintro e w1 ⟨rfl, b1⟩
  have B1 := Lib.hid b1
  clear b1
  go_wp2_with fail
  refine (new_rk w1).mono ?_
  rintro e w2 ⟨rfl, h2, b2⟩
  generalize w1.heap.size + 1 = g at *
  generalize hB : w1.heap.size = B at *
  have H2 := Lib.hid h2
  have B2 := Lib.hid (B1.out.trans (by have := B1.out.size; exact b2.mono (by omega)))
  have HB := Lib.hid (show w.heap.size ≤ B by rw [← hB]; exact B1.out.size)
  clear h2 b2 hB B1
  have hmk := make_bools M (by omega)
  have bn : Below w2.heap.size w2 (w2.alloc (.cells (bcl M (fun _ => false)) 4)) := (Below.refl _ _).alloc (Nat.le_refl _) _
  have D0 : Hid (Dr (w2.alloc (.cells (bcl M (fun _ => false)) 4)) B g w2.heap.size 0 M zs (fun j => decide (j < 0)) w) := by
    have e : (fun j : Nat => decide (j < 0)) = fun _ => false := by funext j; simp
    rw [e]
    exact Lib.hid ⟨by rw [sF_none]; exact H2.out.fresh bn (Nat.le_refl _) (by simp), heap_alloc_new w2 _, B2.out.trans (bn.mono B2.out.size)⟩
  clear bn
  go_wp2_with fail
  clear hmk
  generalize w2.alloc (.cells (bcl M (fun _ => false)) 4) = w3 at *
  generalize w2.heap.size = lb at *
  go_loopw [10] (fun i wr => ∃ k : Nat, k ≤ M ∧ i = .int .i64 k ∧ Dr wr B g lb k M zs (fun j => decide (j < k)) w) (fun i _ => M - (intOf i).toNat)
  case atStart => exact ⟨0, by omega, rfl, D0.out⟩
  case round =>
    obtain ⟨k, hk, rfl, hD⟩ := hrel
    have HD := Lib.hid hD
    clear hD
    by_cases hkM : k < M
    · have hk' : k < len := by omega
      obtain ⟨b, off, rfl, hcl⟩ := cell_later HR.out.1 (show k < zs.length by have := HR.out.2.1; omega) HD.out.bel
      obtain ⟨f, hf⟩ : ∃ f, (fun j => decide (j < k)) = f := ⟨_, rfl⟩
      have hfk : f k = false := by rw [← hf]; simp
      have hfn : updB f k true = fun j => decide (j < k + 1) := by rw [← hf]; exact upto_next k
      rw [hf] at HD
      have HF := Lib.hid hfn
      clear hf hfn
      have hti := tS_in zs k
      have hp := put_yes HD.out.rk (k : Int) (tS zs k) (by unfold I64; omega) hti (sF_no hfk) (by omega)
      rw [sF_put zs M f k hkM] at hp
      rw [show tS zs k = (zs.getD k 0).tmod 7 from rfl] at hp hti
      generalize zs.getD k 0 = z at *
      obtain ⟨t, ht⟩ : ∃ t, z.tmod 7 = t := ⟨_, rfl⟩
      rw [ht] at hp hti
      have HP := Lib.hid hp
      clear hp hfk
      go_wp2_with fail
      refine HP.out.mono ?_
      rintro e w4 ⟨rfl, h4, k4⟩
      have hth := k4.has (k := lb) (by simp) HD.out.th
      have htc : w4.cell? ⟨lb, k, none⟩ = some (.bool (f k)) := by rw [hth.cell k, bcl_get f hkM]
      have htf := hth.free k
      have hds := HD.out.set HB.out h4 k4 k true rfl
      rw [HF.out] at hds
      have HDS := Lib.hid hds
      clear hds hth h4 k4 HP hcl ht hti
      go_wp2_with fail
      go_roundw
      case rel => exact ⟨k + 1, by omega, by go_num, HDS.out⟩
      case measure => simp [intOf]; omega
    · obtain rfl : k = M := by omega
      obtain ⟨f, hf⟩ : ∃ f, (fun j => decide (j < k)) = f := ⟨_, rfl⟩
      rw [hf] at HD
      clear hf hM3 hk hkM
      go_wp2_with fail
      go_loopw [9, 11] (fun nv iv wr => ∃ (n i : Nat) (f : Nat → Bool), i ≤ ln ∧ nv = .int .i64 n ∧ iv = .int .i64 i ∧ Dr wr B g lb n k zs f w) (fun _ iv _ => ln - (intOf iv).toNat)
      case atStart => exact ⟨k, 0, f, by omega, rfl, rfl, HD.out⟩
      case round =>
        obtain ⟨n, i, f, hil, rfl, rfl, hD⟩ := hrel
        clear HD
        have HD := Lib.hid hD
        clear hD
        by_cases hin : i < ln ∧ i < 20 ∧ 0 < k
        · obtain ⟨hi1, hi2, hk0⟩ := hin
          obtain ⟨b, off, v, rfl, hcl, hv⟩ := byte_later HR2.out.1 HR2.out.2.2 (show i < ys.length by have := HR2.out.2.1; omega) HD.out.bel
          obtain ⟨d, hd⟩ : ∃ d, v % k = d := ⟨_, rfl⟩
          have hdk : d < k := by rw [← hd]; exact Nat.mod_lt _ hk0
          have e1 : (v : Int) % (k : Int) = (d : Int) := by rw [← hd]; exact (Int.natCast_emod v k).symm
          have e2 : (v : Int).tmod (k : Int) = (d : Int) := by rw [Int.tmod_eq_emod_of_nonneg (by omega)]; exact e1
          have hkz : ((k : Int) == 0) = false := by simp; omega
          have htc := HD.out.cell hdk
          cases hfd : f d with
          | false =>
            rw [hfd] at htc
            have HP := Lib.hid (drop_no (HD.out.rk.drew) (d : Int) (by unfold I64; omega) (sF_no hfd))
            have hsame := updB_id f d false hfd
            have hds := HD.out.set HB.out HD.out.rk.drew (HD.out.rk.kp (Below.refl _ _).drew) d false (by rw [hsame])
            have HTC := Lib.hid htc
            have HDS := Lib.hid hds
            have HTF := Lib.hid (HD.out.th.free d)
            clear hd htc hfd hds hsame
            go_wp2_with fail
            go_region_held3 (fun w' => w'.cell? ⟨lb, d, none⟩ = some (.bool false)) (exact HTC.out)
              ((go_at_call 12; refine HP.out.mono ?_; rintro e w4 ⟨rfl, rfl⟩))
            have htc := HTC.out
            have htf := HTF.out
            go_wp2_with fail
            go_roundw
            case rel => exact ⟨n, i + 1, _, by omega, rfl, by go_num, HDS.out⟩
            case measure => simp [intOf]; omega
          | true =>
            rw [hfd] at htc
            have hn0 := HD.out.rk.pos (sF_yes hdk hfd)
            have hp := drop_yes (HD.out.rk.drew) (d : Int) (tS zs d) (by unfold I64; omega) (sF_yes hdk hfd)
            rw [sF_drop] at hp
            obtain ⟨q, hq⟩ : ∃ q, n - 1 = q := ⟨_, rfl⟩
            rw [hq] at hp
            have e3 : (n : Int) - 1 = (q : Int) := by omega
            have hn9 := HD.out.rk.few
            have HP := Lib.hid hp
            have HTC := Lib.hid htc
            have KD := Lib.hid (HD.out.rk.kp (Below.refl _ _).drew)
            clear hd htc hfd hp hq
            go_wp2_with fail
            go_region_held3 (fun w' => w'.cell? ⟨lb, d, none⟩ = some (.bool true)) (first | exact C4.out | exact HTC.out)
              ((go_at_call 12; refine HP.out.mono ?_; rintro e w4 ⟨rfl, h4, k4⟩; have C4 := Lib.hid (((k4.has (by simp) (show Has wr.drew lb _ _ from HD.out.th)).cell d).trans ((HD.out.th.cell d).symm.trans HTC.out)); have H4 := Lib.hid (And.intro h4 k4); clear h4 k4))
            have hth : Has w4 lb 4 (bcl k f) := H4.out.2.has (by simp) (show Has wr.drew lb _ _ from HD.out.th)
            have htc := C4.out
            have htf := hth.free d
            have HDS := Lib.hid (HD.out.set HB.out H4.out.1 (KD.out.trans H4.out.2) d false rfl)
            clear hth
            go_wp2_with fail
            go_roundw
            case rel => exact ⟨q, i + 1, _, by omega, rfl, by go_num, HDS.out⟩
            case measure => simp [intOf]; omega
        · have hcase : ¬ i < ln ∨ (i < ln ∧ ¬ i < 20) ∨ (i < ln ∧ i < 20 ∧ ¬ 0 < k) := by omega
          clear hin
          rcases hcase with hi1 | ⟨hi1, hi2⟩ | ⟨hi1, hi2, hi3⟩
          all_goals
            go_wp2_with fail
            clear D0
            try clear hi3
            try clear hi2
            go_loopw [9] (fun nv wq => ∃ (n : Nat) (f : Nat → Bool), nv = .int .i64 n ∧ Dr wq B g lb n k zs f w) (fun nv _ => (intOf nv).toNat)
            case atStart => exact ⟨n, f, rfl, HD.out⟩
            case round =>
              clear HD
              obtain ⟨n, f, rfl, hD⟩ := hrel
              have HD := Lib.hid hD
              have hn9 := hD.rk.few
              clear hD
              rcases Nat.eq_zero_or_pos n with rfl | hn0
              ·
                have HLN := Lib.hid (rlen_any HD.out.rk)
                go_wp2_with fail
                refine HLN.out.mono ?_
                rintro e w4 ⟨rfl, rfl⟩
                go_wp2
                go_ret
                exact ⟨rfl, HD.out.bel⟩
              ·
                go_wp2_with fail
                go_loopw [13, 14] (fun bv iv wq => ∃ (i : Nat) (b : Int), i ≤ k ∧ bv = .int .i64 b ∧ iv = .int .i64 i ∧ Best zs f i b ∧ Dr wq B g lb n k zs f w) (fun _ iv _ => k - (intOf iv).toNat)
                case atStart => exact ⟨0, -1, by omega, rfl, rfl, .start _ _, HD.out⟩
                case round =>
                  clear HD
                  obtain ⟨i, bv, hik, rfl, rfl, hbest, hD⟩ := hrel
                  have HD := Lib.hid hD
                  have HBS := Lib.hid hbest
                  clear hD
                  by_cases hlt : i < k
                  · have htc := HD.out.cell hlt
                    cases hfi : f i with
                    | false =>
                      rw [hfi] at htc
                      have HN := Lib.hid (hbest.skip hfi)
                      clear hbest hfi
                      go_wp2_with fail
                      go_quiet (fail)
                      go_wp2_with fail
                      go_roundw
                      case rel => exact ⟨i + 1, bv, by omega, rfl, by go_num, HN.out, HD.out.below (below_drewN (Below.refl _ _) _)⟩
                      case measure => simp [intOf]; omega
                    | true =>
                      rw [hfi] at htc
                      by_cases hb0 : bv = -1
                      · subst hb0
                        have HN := Lib.hid (hbest.first hfi)
                        clear hbest hfi
                        go_wp2_with fail
                        go_quiet (fail)
                        go_wp2_with fail
                        go_roundw
                        case rel => exact ⟨i + 1, i, by omega, rfl, by go_num, HN.out, HD.out.below (below_drewN (Below.refl _ _) _)⟩
                        case measure => simp [intOf]; omega
                      · obtain ⟨b, rfl, hbi⟩ : ∃ b : Nat, bv = b ∧ b < i := by
                          rcases hbest with ⟨h1, _⟩ | ⟨b, h1, h2, _⟩
                          · exact absurd h1 hb0
                          · exact ⟨b, h1, h2⟩
                        obtain ⟨c, off, rfl, hc1⟩ := cell_later HR.out.1 (show i < zs.length by have := HR.out.2.1; omega) HD.out.bel
                        obtain ⟨c', off', hcc, hc2'⟩ := cell_later HR.out.1 (show b < zs.length by have := HR.out.2.1; omega) HD.out.bel
                        cases hcc
                        obtain ⟨p, hp⟩ : ∃ p, ltB ((i : Int), tS zs i) ((b : Int), tS zs b) = p := ⟨_, rfl⟩
                        have cb : ∀ w, Calls Try.prog 21 #[.int .i64 (tS zs i), .int .i64 (tS zs b), .int .i64 i, .int .i64 b] w fun e w' => e = .returned (.bool p) ∧ w' = w := fun w => (before_any (tS zs i) (tS zs b) i b w).mono fun e w' ⟨h1, h2⟩ => ⟨by rw [← hp]; exact h1, h2.symm⟩
                        have HN : Hid ((p = true → Best zs f (i + 1) i) ∧ (p = false → Best zs f (i + 1) b)) := Lib.hid ⟨fun h => hbest.take hfi (hp.trans h), fun h => hbest.keep (hp.trans h)⟩
                        have ht1 : (zs.getD i 0).tmod 7 = tS zs i := rfl
                        have ht2 : (zs.getD b 0).tmod 7 = tS zs b := rfl
                        have hi1' := tS_in zs i
                        have hi2' := tS_in zs b
                        have hr1 := tS_in zs i
                        generalize tS zs i = t1 at *
                        generalize tS zs b = t2 at *
                        generalize zs.getD i 0 = z1 at *
                        generalize zs.getD b 0 = z2 at *
                        have hd0 : decide ((b : Int) < 0) = false := by simp
                        have CB := Lib.hid cb
                        have hw1 : IntKind.i64.wrap (z1.tmod 7) = t1 := by rw [ht1]; exact IntWalk.i64_in _ (by unfold I64 at hi1'; omega)
                        have hw2 : IntKind.i64.wrap (z2.tmod 7) = t2 := by rw [ht2]; exact IntWalk.i64_in _ (by unfold I64 at hi2'; omega)
                        clear cb hbest hfi hp hb0 HBS
                        cases p with
                        | true =>
                          go_wp2_with fail
                          go_quiet ((go_at_call 21; exact Calls.quiet_of_same (CB.out _)))
                          go_wp2_with fail
                          go_roundw
                          case rel => exact ⟨i + 1, i, by omega, rfl, by go_num, HN.out.1 (by trivial), HD.out.below (below_drewN (Below.refl _ _) _)⟩
                          case measure => simp [intOf]; omega
                        | false =>
                          go_wp2_with fail
                          go_quiet ((go_at_call 21; exact Calls.quiet_of_same (CB.out _)))
                          go_wp2_with fail
                          go_roundw
                          case rel => exact ⟨i + 1, b, by omega, rfl, by go_num, HN.out.2 (by trivial), HD.out.below (below_drewN (Below.refl _ _) _)⟩
                          case measure => simp [intOf]; omega
                  · obtain rfl : i = k := by omega
                    have HLE := Lib.hid (least_some HD.out.rk hn0)
                    go_wp2_with fail
                    refine HLE.out.mono ?_
                    rintro e w5 ⟨d0, s0, hl, rfl, b5⟩
                    obtain ⟨b, rfl, hbi, hfb, rfl, rfl⟩ := hbest.least hl
                    have HD5 := Lib.hid (HD.out.below b5)
                    have HLN := Lib.hid (rlen_any HD5.out.rk)
                    obtain ⟨c, off, rfl, hc1⟩ := cell_later HR.out.1 (show b < zs.length by have := HR.out.2.1; omega) HD5.out.bel
                    have hp := drop_yes HD5.out.rk (b : Int) (tS zs b) (by unfold I64; omega) (sF_yes hbi hfb)
                    rw [sF_drop] at hp
                    have hti := tS_in zs b
                    have ht1 : (zs.getD b 0).tmod 7 = tS zs b := rfl
                    obtain ⟨q, hq⟩ : ∃ q, n - 1 = q := ⟨_, rfl⟩
                    rw [hq] at hp
                    have e3 : (n : Int) - 1 = (q : Int) := by omega
                    have HP := Lib.hid hp
                    have HQ := Lib.hid hq
                    generalize tS zs b = t1 at *
                    generalize zs.getD b 0 = z1 at *
                    clear hp hq hl b5 hbest HD HBS HLE
                    go_wp2_with fail
                    refine HLN.out.mono ?_
                    rintro e w6 ⟨rfl, rfl⟩
                    go_wp2_with fail
                    refine HP.out.mono ?_
                    rintro e w6 ⟨rfl, h6, k6⟩
                    have hth : Has w6 lb 4 (bcl i f) := k6.has (by simp) HD5.out.th
                    have htc : w6.cell? ⟨lb, b, none⟩ = some (.bool (f b)) := by rw [hth.cell b, bcl_get f hbi]
                    have htf := hth.free b
                    have HDS := Lib.hid (HD5.out.set HB.out h6 k6 b false rfl)
                    clear hth h6 k6
                    go_wp2_with fail
                    go_roundw
                    case rel => exact ⟨q, _, rfl, HDS.out⟩
                    case measure => simp [intOf]; have := HQ.out; omega
end Go.Proofs.Ytplhdmaiammckaa
