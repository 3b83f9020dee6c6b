/- The walk of RankSorts: it returns true, whatever the scores. -/
import Derived.Test.YtplhdmaiammckaaRkBools
namespace Go.Proofs.Ytplhdmaiammckaa
open Go.RowKit
set_option linter.unusedVariables false

/-- A score that is put. -/
def sc (few : Bool) (z : Int) : Int := if few = true then z.tmod 4 else z
theorem sc_in {few : Bool} {z : Int} (h : I64 z) : I64 (sc few z) := by
  unfold sc
  split
  · have := Int.tmod_lt_of_pos z (show (0 : Int) < 4 by omega)
    have h2 : -4 < z.tmod 4 := Int.lt_tmod_of_pos z (by omega)
    unfold I64; omega
  · exact h
/-- What the first k puts leave. -/
def fS (few : Bool) (zs : List Int) : Nat → Int → Option Int
  | 0 => fun _ => none
  | k + 1 => upd (fS few zs k) ((k * 7 % 41 : Nat) : Int) (some (sc few (zs.getD k 0)))
theorem fS_mem {few : Bool} {zs : List Int} {k : Nat} {d s : Int} (h : fS few zs k d = some s) : ∃ i, i < k ∧ d = ((i * 7 % 41 : Nat) : Int) ∧ s = sc few (zs.getD i 0) := by
  induction k with
  | zero => cases h
  | succ k ih =>
    unfold fS upd at h
    split at h
    · exact ⟨k, by omega, by assumption, (Option.some.inj h).symm⟩
    · obtain ⟨i, hi, h1, h2⟩ := ih h
      exact ⟨i, by omega, h1, h2⟩
theorem fS_none (few : Bool) (zs : List Int) {k : Nat} (hk : k ≤ 40) : fS few zs k ((k * 7 % 41 : Nat) : Int) = none := by
  cases h : fS few zs k ((k * 7 % 41 : Nat) : Int) with
  | none => rfl
  | some s =>
    obtain ⟨i, hi, h1, _⟩ := fS_mem h
    omega
/-- What is left while they are dropped. -/
structure Lf (S : Int → Option Int) (f : Nat → Bool) (i : Nat) (last low : Int) : Prop where
  rng : ∀ k s, S k = some s → 0 ≤ k ∧ k ≤ 40 ∧ f k.toNat = false
  up : 0 < i → ∀ k s, S k = some s → ltB (last, low) (k, s) = true
theorem Lf.next {S : Int → Option Int} {f : Nat → Bool} {i d : Nat} {last low s : Int} (h : Lf S f i last low) (hl : IsLeast S (d : Int) s) : Lf (upd S (d : Int) none) (updB f d true) (i + 1) (d : Int) s := by
  refine ⟨fun k t hk => ?_, fun _ k t hk => ?_⟩
  · by_cases e : k = d
    · rw [e, upd_same] at hk; cases hk
    · rw [upd_other _ _ _ _ e] at hk
      obtain ⟨h1, h2, h3⟩ := h.rng k t hk
      exact ⟨h1, h2, by rw [updB_other _ _ _ _ (by omega)]; exact h3⟩
  · by_cases e : k = d
    · rw [e, upd_same] at hk; cases hk
    · rw [upd_other _ _ _ _ e] at hk
      have := hl.le k t hk
      unfold Le at this
      unfold ltB
      simp only at this
      exact decide_eq_true (by simp only; omega)
set_option maxRecDepth 100000 in
set_option maxHeartbeats 4000000 in
theorem sorts_walk (x : Option Addr) (len cap : Nat) (zs : List Int) (few : Bool) (w : World) (hl : zs.length = len) (hc : len ≤ cap) (hm : cap ≤ maxLen) (hn : x = none → cap = 0) (hr : Lies w x (zs.map (Value.int .i64))) (hz : ∀ n ∈ zs, (Lit.int .i64 n).wf = true) :
    Calls Try.prog 4 #[.slice x len cap, .bool few] w fun e w' => e = .returned (.bool true) ∧ Below w.heap.size w w' := by
  unfold maxLen at hm
  obtain ⟨M, hM⟩ : ∃ M, min len 40 = M := ⟨_, rfl⟩
  have hM1 : M ≤ 40 := by omega
  have hM2 : M ≤ len := by omega
  have hM3 : min (len : Int) 40 = (M : Int) := by omega
  have HR := Lib.hid (And.intro hr (And.intro hl hz))
  have HMM := Lib.hid hM
  clear hr hl hz hn hM
  go_enter Try.func4, Try.ntmps4
  go_wp2_with fail
  refine (ex_any w).mono ?_
  rintro e w1 ⟨rfl, b1⟩
  have B1 := Lib.hid b1
  clear b1
  go_wp2_with fail
  refine (new_rk w1).mono ?_
  rintro e w2 ⟨rfl, h2, b2⟩
  generalize w1.heap.size + 1 = g at *
  generalize hB : w1.heap.size = B at *
  have H2 := Lib.hid h2
  have B2 := Lib.hid (B1.out.trans (by have := B1.out.size; exact b2.mono (by omega)))
  have HB := Lib.hid (show w.heap.size ≤ B by rw [← hB]; exact B1.out.size)
  clear h2 b2 hB B1
  go_wp2_with fail
  go_loopw [8] (fun i wr => ∃ k : Nat, k ≤ M ∧ i = .int .i64 k ∧ Rk wr B g B k (fS few zs k) [] ∧ Below w.heap.size w wr) (fun i _ => M - (intOf i).toNat)
  case atStart => exact ⟨0, by omega, rfl, H2.out, B2.out⟩
  case round =>
    obtain ⟨k, hk, rfl, h3, b3⟩ := hrel
    have H3 := Lib.hid h3
    have B3 := Lib.hid b3
    clear h3 b3
    by_cases hkM : k < M
    · have hk' : k < len := by omega
      have hget : (zs.map (Value.int .i64))[k]? = some (.int .i64 (zs.getD k 0)) := by
        have := HR.out.2.1
        simp [List.getD_eq_getElem?_getD, List.getElem?_eq_getElem (show k < zs.length by omega)]
      obtain ⟨b, off, rfl, hcell⟩ := HR.out.1.at_ hget
      have hcl : wr.cell? ⟨b, off + k, none⟩ = some (.int .i64 (zs.getD k 0)) := (B3.out.cell (p := ⟨b, off + k, none⟩) (World.block_lt_of_cell? _ _ hcell)).trans hcell
      have hiz : I64 (zs.getD k 0) := by
        have hmem : zs.getD k 0 ∈ zs := by
          have := HR.out.2.1
          rw [List.getD_eq_getElem?_getD, List.getElem?_eq_getElem (show k < zs.length by omega)]
          exact List.getElem_mem _
        exact bounds_i64 (HR.out.2.2 _ hmem)
      obtain ⟨d, hd⟩ : ∃ d, k * 7 % 41 = d := ⟨_, rfl⟩
      have e1 : (k : Int) * 7 % 41 = (d : Int) := by omega
      have hd41 : d < 41 := by omega
      have hnone := fS_none few zs (show k ≤ 40 by omega)
      have hstep : fS few zs (k + 1) = upd (fS few zs k) ((k * 7 % 41 : Nat) : Int) (some (sc few (zs.getD k 0))) := rfl
      rw [hd] at hnone hstep
      have hp := put_yes H3.out (d : Int) (sc few (zs.getD k 0)) (by unfold I64; omega) (sc_in hiz) hnone (by omega)
      rw [← hstep] at hp
      generalize zs.getD k 0 = z at *
      cases few with
      | false =>
        rw [show sc false z = z from rfl] at hp
        have HP := Lib.hid hp
        clear hp hstep hnone hget hcell hd
        go_wp2_with fail
        refine HP.out.mono ?_
        rintro e w3 ⟨rfl, h4, k4⟩
        go_wp2
        go_roundw
        case rel => exact ⟨k + 1, by omega, by go_num, h4, B3.out.trans (k4.bel.mono HB.out)⟩
        case measure => simp [intOf]; omega
      | true =>
        obtain ⟨z', hz'⟩ : ∃ z', z.tmod 4 = z' := ⟨_, rfl⟩
        rw [show sc true z = z.tmod 4 from rfl, hz'] at hp
        have HP := Lib.hid hp
        clear hp hstep hnone hget hcell hd
        go_wp2_with fail
        refine HP.out.mono ?_
        rintro e w3 ⟨rfl, h4, k4⟩
        go_wp2
        go_roundw
        case rel => exact ⟨k + 1, by omega, by go_num, h4, B3.out.trans (k4.bel.mono HB.out)⟩
        case measure => simp [intOf]; omega
    · obtain rfl : k = M := by omega
      have hmk : ∀ w : World, (Instr.makeSlice 43 (.int .i64 41) (.int .i64 41)).run Try.prog w = .ok (.slice (some ⟨w.heap.size, 0, none⟩) 41 41) (w.alloc (.cells (bcl 41 (fun _ => false)) 4)) := make_bools 41 (by omega)
      have bn : Below wr.heap.size wr (wr.alloc (.cells (bcl 41 (fun _ => false)) 4)) := (Below.refl _ _).alloc (Nat.le_refl _) _
      have H4 := Lib.hid (H3.out.fresh bn (Nat.le_refl _) (by simp))
      have C4 : Hid (Has (wr.alloc (.cells (bcl 41 (fun _ => false)) 4)) wr.heap.size 4 (bcl 41 (fun _ => false))) := Lib.hid (heap_alloc_new wr _)
      have B4 := Lib.hid (B3.out.trans (bn.mono B3.out.size))
      have L4 : Hid (Lf (fS few zs k) (fun _ => false) 0 0 0) := Lib.hid ⟨fun d t hd => by
        obtain ⟨i, hi, h1, _⟩ := fS_mem hd
        exact ⟨by omega, by omega, rfl⟩, fun h => by omega⟩
      clear bn B3 H3
      go_wp2_with fail
      clear hmk
      generalize wr.alloc (.cells (bcl 41 (fun _ => false)) 4) = w4 at *
      generalize wr.heap.size = lb at *
      go_loopw [11, 12, 13] (fun lv lo iv wq => ∃ (i : Nat) (f : Nat → Bool) (S : Int → Option Int) (last low : Int), i ≤ k ∧ lv = .int .i64 last ∧ lo = .int .i64 low ∧ iv = .int .i64 i ∧ Lf S f i last low ∧ Rk wq B g B (k - i) S [lb] ∧ Has wq lb 4 (bcl 41 f) ∧ Below w.heap.size w wq) (fun _ _ iv _ => k - (intOf iv).toNat)
      case atStart => exact ⟨0, _, _, 0, 0, by omega, rfl, rfl, rfl, L4.out, H4.out, C4.out, B4.out⟩
      case round =>
        obtain ⟨i, f, S, last, low, hik, rfl, rfl, rfl, hL, hK, hC, hW⟩ := hrel
        have HL := Lib.hid hL
        have HK := Lib.hid hK
        have HC := Lib.hid hC
        have HW := Lib.hid hW
        clear hL hK hC hW
        by_cases hlt : i < k
        · have HLE := Lib.hid (least_some HK.out (show 0 < k - i by omega))
          go_wp2_with fail
          refine HLE.out.mono ?_
          rintro e w5 ⟨d0, s, hl, rfl, b5⟩
          obtain ⟨hd0, hd1, hd2⟩ := HL.out.rng d0 s hl.mem
          obtain ⟨d, rfl⟩ : ∃ d : Nat, d0 = d := ⟨d0.toNat, by omega⟩
          have hd9 : d ≤ 40 := by omega
          have HN := Lib.hid (HL.out.next hl)
          have hK5 := HK.out.below b5
          have hC5 : Has w5 lb 4 (bcl 41 f) := (HK.out.kp b5).has (by simp) HC.out
          have hW5 := HW.out.trans ((HK.out.kp b5).bel.mono HB.out)
          have hcd : w5.cell? ⟨lb, d, none⟩ = some (.bool false) := by
            rw [hC5.cell d, bcl_get f (show d < 41 by omega)]
            have : f d = false := by simpa using hd2
            rw [this]
          have HD := Lib.hid (drop_yes hK5 (d : Int) s (by unfold I64; omega) hl.mem)
          have hbe := before_any low s last (d : Int) w5
          have HUP := Lib.hid (fun h => HL.out.up h (d : Int) s hl.mem)
          have HC5 := Lib.hid hC5
          have HW5 := Lib.hid hW5
          clear hK5 hC5 hW5 hl b5 hd0 hd1 hd2 HLE HK HC HW HL
          by_cases hi0 : i = 0
          · subst hi0
            clear hbe
            obtain ⟨q, hq⟩ : ∃ q, k - 0 - 1 = q := ⟨_, rfl⟩
            have e1 : (k : Int) - 1 = (q : Int) := by omega
            have HQ := Lib.hid hq
            clear hq
            go_wp2_with fail
            refine HD.out.mono ?_
            rintro e w6 ⟨rfl, h6, k6⟩
            rw [HQ.out] at h6
            have hC6 : Has w6 lb 4 (bcl 41 f) := k6.has (by simp) HC5.out
            have HLN := Lib.hid (rlen_any h6)
            have hcx : w6.cell? ⟨lb, d, none⟩ = some (.bool (f d)) := by rw [hC6.cell d, bcl_get f (show d < 41 by omega)]
            have hfx := hC6.free d
            have hset := h6.set (k := lb) (by simp) d (.bool true)
            have hC7 := hC6.put d (.bool true)
            rw [bcl_set] at hC7
            have HE := Lib.hid (And.intro hset.1 (And.intro hC7 (HW5.out.trans ((k6.bel.trans hset.2).mono HB.out))))
            clear hset hC7 hC6 h6 k6 HD HC5 HW5 hcd
            go_wp2_with fail
            refine HLN.out.mono ?_
            rintro e w7 ⟨rfl, rfl⟩
            go_wp2
            go_roundw
            case rel => exact ⟨0 + 1, updB f d true, upd S (d : Int) none, d, s, by omega, rfl, rfl, by go_num, HN.out, by rw [show k - (0 + 1) = q by have := HQ.out; omega]; exact HE.out.1, HE.out.2.1, HE.out.2.2⟩
            case measure => simp [intOf]; omega
          · rw [HUP.out (by omega)] at hbe
            have HBE := Lib.hid hbe
            clear hbe
            have hi1 : 0 < i := by omega
            obtain ⟨q, hq⟩ : ∃ q, k - i - 1 = q := ⟨_, rfl⟩
            have e1 : (k : Int) - (i : Int) - 1 = (q : Int) := by omega
            have HQ := Lib.hid hq
            clear hq
            go_wp2_with fail
            refine HBE.out.mono ?_
            rintro e w6 ⟨rfl, rfl⟩
            go_wp2_with fail
            refine HD.out.mono ?_
            rintro e w6 ⟨rfl, h6, k6⟩
            rw [HQ.out] at h6
            have hC6 : Has w6 lb 4 (bcl 41 f) := k6.has (by simp) HC5.out
            have HLN := Lib.hid (rlen_any h6)
            have hcx : w6.cell? ⟨lb, d, none⟩ = some (.bool (f d)) := by rw [hC6.cell d, bcl_get f (show d < 41 by omega)]
            have hfx := hC6.free d
            have hset := h6.set (k := lb) (by simp) d (.bool true)
            have hC7 := hC6.put d (.bool true)
            rw [bcl_set] at hC7
            have HE := Lib.hid (And.intro hset.1 (And.intro hC7 (HW5.out.trans ((k6.bel.trans hset.2).mono HB.out))))
            clear hset hC7 hC6 h6 k6 HD HC5 HW5 hcd
            go_wp2_with fail
            refine HLN.out.mono ?_
            rintro e w7 ⟨rfl, rfl⟩
            go_wp2
            go_roundw
            case rel => exact ⟨i + 1, updB f d true, upd S (d : Int) none, d, s, by omega, rfl, rfl, by go_num, HN.out, by rw [show k - (i + 1) = q by have := HQ.out; omega]; exact HE.out.1, HE.out.2.1, HE.out.2.2⟩
            case measure => simp [intOf]; omega
        · obtain rfl : i = k := by omega
          rw [show i - i = 0 by omega] at HK
          have HLN := Lib.hid (least_none HK.out)
          go_wp2_with fail
          refine HLN.out.mono ?_
          rintro e w5 ⟨rfl, rfl⟩
          go_wp2
          go_ret
          exact ⟨rfl, HW.out⟩
end Go.Proofs.Ytplhdmaiammckaa
