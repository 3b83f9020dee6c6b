/- WireTells returns true, as a walk. -/
import Derived.Test.YtcmgkmllmdgcbaaWrBackWalk
import Derived.Test.YtcmgkmllmdgcbaaWrGetsWalk
import Derived.Test.YtcmgkmllmdgcbaaWrKindsK
import Derived.Test.YtcmgkmllmdgcbaaWrBytes
import Derived.Deep.DeepCutAuto
import Derived.Deep.CutRange
namespace Go.Proofs.Ytcmgkmllmdgcbaa
open Go.RowKit
set_option linter.unusedVariables false

/-- What is known of both events once the first may have been turned. -/
def Turned (w wx : World) (T : Int) (A : Option Addr) (c : Nat) (K' T' : Int) (B : Option Addr) (m d : Nat) (r : List Int) : Prop :=
  ∃ (k : Int) (N : Nat) (lt : List Int), Sc2 w wx w.heap.size (w.heap.size + 1) k T A N c lt K' T' B m d r ∧ In64 k ∧ lt.length = N ∧ N ≤ maxLen
theorem sc2_one {w w1 : World} {K T K' T' : Int} {A B : Option Addr} {n c m d : Nat} {l r : List Int} (S : Sc2 w w1 w.heap.size (w.heap.size + 1) K T A n c l K' T' B m d r) (k N : Nat) (hl : Lies w A (ints l)) (hr : Lies w B (ints r)) :
    Sc2 w ((w1.setCell ⟨w.heap.size, 0, none⟩ (.int .i64 (k : Int))).setCell ⟨w.heap.size, 2, none⟩ (.slice A N c)) w.heap.size (w.heap.size + 1) k T A N c (l.take N) K' T' B m d r := by
  have bel := (S.bel.setCell (p := ⟨w.heap.size, 0, none⟩) (by simp) (.int .i64 (k : Int))).setCell (p := ⟨w.heap.size, 2, none⟩) (by simp) (.slice A N c)
  exact ⟨(S.e.put 0 (.int .i64 (k : Int))).put 2 (.slice A N c), (S.f.set_other _ _ (by simp)).set_other _ _ (by simp), (hl.take N).below bel, hr.below bel, bel⟩
theorem Sc2.drew {w0 wk : World} {p q n c m d : Nat} {K T K' T' : Int} {A B : Option Addr} {l r : List Int} (h : Sc2 w0 wk p q K T A n c l K' T' B m d r) : Sc2 w0 wk.drew p q K T A n c l K' T' B m d r := ⟨h.e, h.f, h.la, h.lb, h.bel.drew⟩
/-- Both events and the kinds lie in memory. -/
structure Sd (w0 wk : World) (p q : Nat) (K T : Int) (A : Option Addr) (n c : Nat) (l : List Int) (K' T' : Int) (B : Option Addr) (m d : Nat) (r : List Int) (L : Option Addr) (cl : Nat) (ks : List Kd) : Prop where
  sc : Sc2 w0 wk p q K T A n c l K' T' B m d r
  kd : Kinds wk L cl ks
section
variable {w0 wk w' : World} {p q n c m d cl : Nat} {K T K' T' : Int} {A B L : Option Addr} {l r : List Int} {ks : List Kd}
theorem Sd.next (h : Sd w0 wk p q K T A n c l K' T' B m d r L cl ks) (hb : Below wk.heap.size wk w') : Sd w0 w' p q K T A n c l K' T' B m d r L cl ks := ⟨h.sc.next hb, h.kd.below hb⟩
theorem Sd.drew (h : Sd w0 wk p q K T A n c l K' T' B m d r L cl ks) : Sd w0 wk.drew p q K T A n c l K' T' B m d r L cl ks := ⟨h.sc.drew, h.kd.below (Below.refl _ _).drew⟩
theorem Sd.cells (h : Sd w0 wk p q K T A n c l K' T' B m d r L cl ks) : (wk.cell? ⟨p, 0, none⟩ = some (.int .i64 K) ∧ wk.cell? ⟨p, 1, none⟩ = some (.int .i64 T) ∧ wk.cell? ⟨p, 2, none⟩ = some (.slice A n c)) ∧ wk.cell? ⟨q, 0, none⟩ = some (.int .i64 K') ∧ wk.cell? ⟨q, 1, none⟩ = some (.int .i64 T') ∧ wk.cell? ⟨q, 2, none⟩ = some (.slice B m d) := ⟨h.sc.e.three, h.sc.f.three⟩
theorem Kinds.len (h : Kinds wk L cl ks) : ks.length ≤ maxLen := Nat.le_trans h.2.2.1 h.2.2.2
theorem kl_of {fl : List Nat} (h : Kinds wk L cl ks) (e : ks.map (fun x => x.2.length) = fl) : KLies wk L fl := e ▸ h.klies
theorem fm_of {fl : List Nat} (h : Kinds wk L cl ks) (e : ks.map (fun x => x.2.length) = fl) : ∀ (i m : Nat), fl[i]? = some m → m ≤ maxLen := by
  intro i m hi
  rw [← e, List.getElem?_map] at hi
  have hl : i < ks.length := by
    rcases Nat.lt_or_ge i ks.length with h1 | h1
    · exact h1
    · rw [List.getElem?_eq_none h1] at hi; cases hi
  rw [List.getElem?_eq_getElem hl] at hi
  obtain ⟨b, off, rfl, hc⟩ := h.shape (by omega)
  obtain ⟨F, d, _, _, hs⟩ := hc i hl
  simp only [Option.map_some, Option.some.injEq] at hi
  subst hi
  exact Nat.le_trans hs.2.2.1 hs.2.2.2
end
theorem len255 {n : Nat} (h : n ≤ 255) : n ≤ maxLen := by unfold maxLen; omega
set_option maxRecDepth 100000 in
set_option maxHeartbeats 16000000 in
theorem tells_walk (K T : Int) (A : Option Addr) (n c : Nat) (l : List Int) (K' T' : Int) (B : Option Addr) (m d : Nat) (r : List Int) (near : Bool) (how : Nat) (u : List UInt8) (pl : Nat) (mb : UInt8) (L : Option Addr) (cl : Nat) (ks : List Kd) (w : World)
    (hK : In64 K) (hl : l.length = n) (hnc : n ≤ c) (hcm : c ≤ maxLen) (hr : Lies w A (ints l))
    (hl' : r.length = m) (hnc' : m ≤ d) (hcm' : d ≤ maxLen) (hr' : Lies w B (ints r)) (hh : how < 256) (hu : u.length ≤ 1000000000000000) (hp : pl < 65536) (hks : Kinds w L cl ks) (hkl : ks.length ≤ 3518437208800) :
    Calls Try.prog 3 #[ev K T A n c, ev K' T' B m d, .bool near, .int .u8 how, .string (str u), .int .u16 pl, .int .u8 (mb.toNat : Int), .slice L ks.length cl] w fun e w' => e = .returned (.bool true) ∧ Below w.heap.size w w' := by
  have hk1 : IntKind.u64.wrap K = (u64n K : Int) := wrap_u64n K
  have hk3 := u64n_lt K
  obtain ⟨k4, hk5⟩ : ∃ k4 : Nat, (u64n K : Int) % 4 = (k4 : Int) := ⟨u64n K % 4, by omega⟩
  have hk6 : k4 < 4 := by omega
  have hmb := mb.toNat_lt
  have HT0 := two_new w #[.int .i64 K, .int .i64 T, .slice A n c] #[.int .i64 K', .int .i64 T', .slice B m d] 24 24
  have S0 := Lib.hid (Sc2.mk (w0 := w) HT0.1 HT0.2.1 (hr.below HT0.2.2) (hr'.below HT0.2.2) HT0.2.2)
  have HKS := Lib.hid hks
  have HR := Lib.hid hr
  have HR' := Lib.hid hr'
  have HL := Lib.hid hl
  have HL' := Lib.hid hl'
  have HK := Lib.hid hK
  have HN : Hid (n ≤ maxLen) := Lib.hid (Nat.le_trans hnc hcm)
  have HM : Hid (m ≤ maxLen) := Lib.hid (Nat.le_trans hnc' hcm')
  clear HT0 hks hr hr' hl' hK
  unfold maxLen at hcm hcm'
  unfold ev
  go_enter Try.func3, Try.ntmps3
  go_wp2_with fail
  refine (examples_any _).mono ?_
  rintro e w1 ⟨rfl, h1⟩
  have S1 := Lib.hid (S0.out.next h1)
  clear h1 S0
  go_upto_if 31 with fail
  go_cut [31] from 31 to 45 (fun t wx => t = .bool near ∧ Turned w wx T A c K' T' B m d r)
  case first =>
    have x0 := S1.out.e.three
    obtain ⟨x0, x1, x2⟩ := x0
    have xf0 := S1.out.e.free 0
    have xf2 := S1.out.e.free 2
    cases near
    · go_wp2_with fail
      go_meet
      exact ⟨rfl, K, n, l, S1.out, HK.out, HL.out, HN.out⟩
    · by_cases h8 : 8 < n
      · go_wp2_with fail
        go_meet
        exact ⟨rfl, _, 8, _, sc2_one S1.out k4 8 HR.out HR'.out, ⟨by omega, by omega⟩, by rw [List.length_take, HL.out]; omega, by unfold maxLen; omega⟩
      · go_wp2_with fail
        go_meet
        exact ⟨rfl, _, n, _, sc2_one S1.out k4 n HR.out HR'.out, ⟨by omega, by omega⟩, by rw [List.length_take, HL.out]; omega, HN.out⟩
  case rest =>
    obtain ⟨rfl, k, N, lt, hS, hk9, hlt, hN9⟩ := hcut
    rename World => w2
    have S2 := Lib.hid hS
    have HKB := Lib.hid hk9
    have HLT := Lib.hid hlt
    have HNM := Lib.hid hN9
    have hN9' := hN9
    unfold maxLen at hN9'
    clear hS hk9 hlt hN9 S1 HK HL HN hk1 hk3 hk5 hk6 hnc hcm
    obtain ⟨x0, x1, x2⟩ := S2.out.e.three
    go_wp2_with fail
    clear x0 x1 x2
    refine (wput_any k T A N c lt w2 HKB.out.1 HKB.out.2 HLT.out HNM.out S2.out.la).mono ?_
    rintro e w3 ⟨rfl, h3⟩
    have S3 := Lib.hid (S2.out.next h3)
    clear h3 S2
    obtain ⟨a, ha⟩ : ∃ a, wput k T lt = a := ⟨_, rfl⟩
    obtain ⟨ok, hok⟩ : ∃ ok, wok k lt = ok := ⟨_, rfl⟩
    rw [ha, hok]
    have HA := Lib.hid ha
    have HOK := Lib.hid hok
    have HAL : Hid (a.length ≤ 74) := Lib.hid (by
      rw [← ha]
      rcases wok_cases k lt with ⟨h1, kk, rfl, h2, h3⟩ | ⟨h1, _⟩
      · rw [wput_length kk T lt h2 h3]; omega
      · rw [wput_no h1]; simp)
    clear ha hok
    obtain ⟨x0, x1, x2⟩ := S3.out.e.three
    go_wp2_with fail
    clear x0 x1 x2
    refine (ref_any k T A N c w3).mono ?_
    rintro e w4 ⟨rfl, h4⟩
    have S4 := Lib.hid (S3.out.next h4)
    clear h4 S3
    unfold ev
    go_wp2_with fail
    refine (rput_any k T A N c lt w4 HLT.out HNM.out S4.out.la).mono ?_
    rw [HA.out, HOK.out]
    rintro e w5 ⟨rfl, h5⟩
    have S5 := Lib.hid (S4.out.next h5)
    clear h5 S4
    have hsz : (str a).size = a.length := str_size _
    have HAL' := HAL.out
    obtain ⟨h3, hh3⟩ : ∃ h3 : Nat, (how : Int) % 3 = (h3 : Int) := ⟨how % 3, by omega⟩
    have hh3b : h3 < 3 := by omega
    go_upto_region 9 with fail
    go_cut [64] from 57 to 64 (fun t wx => ∃ b, t = .bool b ∧ (b = true → 0 < h3 ∧ 0 < a.length) ∧ wx = w5)
    case first =>
      by_cases c1 : 0 < h3
      · have d1 : decide (0 < (h3 : Int)) = true := by simp; omega
        by_cases c2 : 0 < a.length
        · have d2 : decide (0 < (a.length : Int)) = true := by simp; omega
          go_wp2_with fail
          go_meet
          exact ⟨true, rfl, fun _ => ⟨c1, c2⟩, rfl⟩
        · have d2 : decide (0 < (a.length : Int)) = false := decide_eq_false (by omega)
          go_wp2_with fail
          go_meet
          exact ⟨false, rfl, (fun h => by cases h), rfl⟩
      · have d1 : decide (0 < (h3 : Int)) = false := by simp; omega
        go_wp2_with fail
        go_meet
        exact ⟨false, rfl, (fun h => by cases h), rfl⟩
    case rest =>
      obtain ⟨b, rfl, hb, rfl⟩ := hcut
      rename World => w5
      go_upto_if 64 with fail
      go_cut [4, 22] from 65 to 93 (fun s4 v22 wx => ∃ U : List UInt8, s4 = .string (str U) ∧ U.length ≤ 1000000000000000 ∧ Sc2 w wx w.heap.size (w.heap.size + 1) k T A N c lt K' T' B m d r)
      case first =>
        cases b
        · go_wp2_with fail
          go_meet
          exact ⟨u, rfl, hu, S5.out⟩
        · obtain ⟨c1, c2⟩ := hb rfl
          obtain ⟨C, wb, hrunb, hC, hCm, hbb, hrow⟩ := str_row a w5 (by unfold maxLen; omega)
          unfold maxLen at hCm
          have SB := Lib.hid (S5.out.next hbb)
          have hgb := S5.out.bel.size
          obtain ⟨ix, hix⟩ : ∃ ix : Nat, (pl : Int) % (a.length : Int) = (ix : Int) := ⟨pl % a.length, by omega⟩
          have hixl : ix < a.length := by
            have := Int.emod_lt_of_pos (pl : Int) (show (0 : Int) < (a.length : Int) by omega)
            omega
          have htm : (pl : Int).tmod (a.length : Int) = (ix : Int) := by rw [Int.tmod_eq_emod_of_nonneg (by omega)]; exact hix
          obtain ⟨q2, hq2⟩ : ∃ q2 : Nat, (how : Int) / 3 % 3 = (q2 : Int) := ⟨how / 3 % 3, by omega⟩
          have hq2b : q2 < 3 := by omega
          obtain ⟨y, hy⟩ : ∃ y : Nat, (q2 : Int) % (a.length : Int) = (y : Int) := ⟨q2 % a.length, by omega⟩
          have hyl : y < a.length := by
            have := Int.emod_lt_of_pos (q2 : Int) (show (0 : Int) < (a.length : Int) by omega)
            omega
          have hytm : (q2 : Int).tmod (a.length : Int) = (y : Int) := by rw [Int.tmod_eq_emod_of_nonneg (by omega)]; exact hy
          obtain ⟨en, hen⟩ : ∃ en : Nat, (a.length : Int) - (y : Int) = (en : Int) := ⟨a.length - y, by omega⟩
          have henl : en ≤ a.length := by omega
          have hne : ¬ (a.length : Int) = 0 := by omega
          have hxb : (a[ix].toNat ^^^ mb.toNat) < 256 := Nat.xor_lt_two_pow (n := 8) a[ix].toNat_lt hmb
          have hx := u8_xor_nat a[ix].toNat mb.toNat a[ix].toNat_lt hmb
          rw [← ofNat_toNat hxb] at hx
          generalize UInt8.ofNat (a[ix].toNat ^^^ mb.toNat) = zb at hx
          have hcx := hrow.1 ix hixl
          have hfx := hrow.2 ix hixl
          have hcv1 := hrow.text en C henl
          have hcv2 := (hrow.set ix hixl zb).text en C (by rw [List.length_set]; exact henl)
          have SB1 := Lib.hid (SB.out.next (Below.refl _ _))
          have SB2 : Hid (Sc2 w (wb.setCell ⟨w5.heap.size, ix, none⟩ (.int .u8 (zb.toNat : Int))) w.heap.size (w.heap.size + 1) k T A N c lt K' T' B m d r) := Lib.hid (S5.out.next (hbb.setCell (Nat.le_refl _) _))
          have HT1 : Hid ((a.take en).length ≤ 1000000000000000) := Lib.hid (by rw [List.length_take]; omega)
          have HT2 : Hid (((a.set ix zb).take en).length ≤ 1000000000000000) := Lib.hid (by rw [List.length_take, List.length_set]; omega)
          generalize a[ix].toNat = xa at *
          clear hrow hbb SB hxb
          by_cases c3 : h3 = 1
          · have d3 : ((h3 : Int) == 1) = true := by simp; omega
            go_wp2_with fail
            go_meet
            exact ⟨_, rfl, HT2.out, SB2.out⟩
          · have d3 : ((h3 : Int) == 1) = false := by simp; omega
            go_wp2_with fail
            go_meet
            exact ⟨_, rfl, HT1.out, SB1.out⟩
      case rest =>
        obtain ⟨U, rfl, hU, hS⟩ := hcut
        rename World => w6
        have S6 := Lib.hid hS
        have HU := Lib.hid hU
        clear hS hU S5 hh3 hh3b hsz HAL'
        go_wp2_with fail
        refine (wget_any (str U) U w6 (str_data _) (by rw [str_size]; have := HU.out; omega)).mono ?_
        rintro e w7 ⟨Z, rfl, h7, hz⟩
        obtain ⟨kg, hkg⟩ : ∃ kg, gK U = kg := ⟨_, rfl⟩
        obtain ⟨tg, htg⟩ : ∃ tg, gT U = tg := ⟨_, rfl⟩
        obtain ⟨vg, hvg⟩ : ∃ vg, gV U = vg := ⟨_, rfl⟩
        obtain ⟨eg, heg⟩ : ∃ eg, gE U = eg := ⟨_, rfl⟩
        have hgn : (gV U).length ≤ 255 := by
          unfold gV
          split
          · rw [gvs_length]; have := byteAt_lt U 1; omega
          · simp
        rw [hvg] at hgn hz
        rw [hkg, htg, hvg, heg]
        have HKG := Lib.hid hkg
        have HTG := Lib.hid htg
        have HVG := Lib.hid hvg
        have HEG := Lib.hid heg
        clear hkg htg hvg heg
        obtain ⟨nv, hnv⟩ : ∃ nv, vg.length = nv := ⟨_, rfl⟩
        rw [hnv] at hgn ⊢
        have HNV := Lib.hid hnv
        clear hnv
        have S7 := Lib.hid ((S6.out.next h7).next ((Below.refl _ _).alloc (Nat.le_refl _) (.cells #[.int .i64 kg, .int .i64 tg, .slice Z nv nv] 24)))
        have G7 := Lib.hid (has_new w7 #[.int .i64 kg, .int .i64 tg, .slice Z nv nv] 24)
        have Z7 := Lib.hid (hz.alloc (.cells #[.int .i64 kg, .int .i64 tg, .slice Z nv nv] 24))
        clear h7 hz S6
        unfold ev
        go_wp2_with fail
        generalize w7.alloc (.cells #[.int .i64 kg, .int .i64 tg, .slice Z nv nv] 24) = w8 at *
        refine (rget_any (str U) U w8 (str_data _) (by rw [str_size]; have := HU.out; omega)).mono ?_
        rintro e w9 ⟨Z2, c2, rfl, h9, hz2⟩
        rw [HVG.out] at hz2
        rw [HKG.out, HTG.out, HVG.out, HEG.out, HNV.out]
        have S9 := Lib.hid ((S7.out.next h9).next ((Below.refl _ _).alloc (Nat.le_refl _) (.cells #[.int .i64 kg, .int .i64 tg, .slice Z2 nv c2] 32)))
        have G9 := Lib.hid ((G7.out.next h9).next ((Below.refl _ _).alloc (Nat.le_refl _) (.cells #[.int .i64 kg, .int .i64 tg, .slice Z2 nv c2] 32)))
        have Z9 := Lib.hid ((Z7.out.below h9).alloc (.cells #[.int .i64 kg, .int .i64 tg, .slice Z2 nv c2] 32))
        have H9 := Lib.hid (has_new w9 #[.int .i64 kg, .int .i64 tg, .slice Z2 nv c2] 32)
        have Y9 := Lib.hid (hz2.alloc (.cells #[.int .i64 kg, .int .i64 tg, .slice Z2 nv c2] 32))
        clear h9 hz2 S7 G7 Z7
        unfold ev
        go_wp2_with fail
        generalize w9.alloc (.cells #[.int .i64 kg, .int .i64 tg, .slice Z2 nv c2] 32) = w10 at *
        generalize w7.heap.size = zg at *
        generalize w9.heap.size = zh at *
        go_region_held3 (fun w' => (w'.cell? ⟨zg, 0, none⟩ = some (.int .i64 kg) ∧ w'.cell? ⟨zg, 1, none⟩ = some (.int .i64 tg) ∧ w'.cell? ⟨zg, 2, none⟩ = some (.slice Z nv nv)) ∧ w'.cell? ⟨zh, 0, none⟩ = some (.int .i64 kg) ∧ w'.cell? ⟨zh, 1, none⟩ = some (.int .i64 tg) ∧ w'.cell? ⟨zh, 2, none⟩ = some (.slice Z2 nv c2))
          (first | exact ⟨G12.out.three, H12.out.three⟩ | exact ⟨G11.out.three, H11.out.three⟩ | exact ⟨G9.out.three, H9.out.three⟩)
          (first
            | (go_at_call 11; refine (ref_any kg tg Z nv nv _).mono ?_; rintro e w11 ⟨rfl, h11⟩; have S11 := Lib.hid (S9.out.drew.next h11); have G11 := Lib.hid (G9.out.drew.next h11); have H11 := Lib.hid (H9.out.drew.next h11); have Z11 := Lib.hid (Z9.out.drew.below h11); have Y11 := Lib.hid (Y9.out.drew.below h11); clear h11; unfold ev)
            | (go_at_call 14; refine (rsame_any kg tg kg tg Z Z2 nv nv nv c2 vg vg w11 HNV.out HNV.out (len255 hgn) (len255 hgn) Z11.out Y11.out).mono ?_; rw [same_self]; rintro e w12 ⟨rfl, h12⟩; have S12 := Lib.hid (S11.out.next h12); have G12 := Lib.hid (G11.out.next h12); have H12 := Lib.hid (H11.out.next h12); clear h12))
        clear S9 G9 H9 Z9 Y9 S11 G11 H11 Z11 Y11 G12 H12
        go_upto_if 108 with fail
        go_cut [7] from 108 to 109 (fun v wx => ∃ (L' : Option Addr) (c' : Nat) (ks' : List Kd), v = .slice L' ks'.length c' ∧ ks'.length ≤ 3518437208800 ∧ Sd w wx w.heap.size (w.heap.size + 1) k T A N c lt K' T' B m d r L' c' ks')
        case first =>
          cases near
          · go_wp2_with fail
            go_meet
            exact ⟨L, cl, ks, rfl, hkl, S12.out, HKS.out.below S12.out.bel⟩
          · go_wp2_with fail
            refine (kinds_full w12).mono ?_
            rintro e w13 ⟨A5, rfl, h13, hk13⟩
            go_wp2_with fail
            go_meet
            exact ⟨A5, 3, k5, rfl, by decide, S12.out.next h13, hk13⟩
        case rest =>
          obtain ⟨L', c', ks', rfl, hkl', hsd⟩ := hcut
          rename World => v0
          have X0 := Lib.hid hsd
          have HKL := Lib.hid hkl'
          clear hsd hkl' S12
          obtain ⟨fl, hflm⟩ : ∃ fl, ks'.map (fun x => x.2.length) = fl := ⟨_, rfl⟩
          have hfl : fl.length = ks'.length := by rw [← hflm, List.length_map]
          have HFM := Lib.hid (fm_of X0.out.kd hflm)
          obtain ⟨bs, hbs⟩ : ∃ bs, sameE k T lt K' T' r = bs := ⟨_, rfl⟩
          obtain ⟨fe, hfe⟩ : ∃ fe, fitE fl k N = fe := ⟨_, rfl⟩
          have HBS := Lib.hid hbs
          have HFE := Lib.hid hfe
          clear hbs hfe
          go_wp2_with fail
          go_region_held3 (fun w' => (w'.cell? ⟨w.heap.size, 0, none⟩ = some (.int .i64 k) ∧ w'.cell? ⟨w.heap.size, 1, none⟩ = some (.int .i64 T) ∧ w'.cell? ⟨w.heap.size, 2, none⟩ = some (.slice A N c)) ∧ w'.cell? ⟨w.heap.size + 1, 0, none⟩ = some (.int .i64 K') ∧ w'.cell? ⟨w.heap.size + 1, 1, none⟩ = some (.int .i64 T') ∧ w'.cell? ⟨w.heap.size + 1, 2, none⟩ = some (.slice B m d))
            (first | exact X12.out.cells | exact X11.out.cells | exact X10.out.cells | exact X9.out.cells | exact X8.out.cells | exact X7.out.cells | exact X6.out.cells | exact X5.out.cells | exact X4.out.cells | exact X3.out.cells | exact X2.out.cells | exact X1.out.cells | exact X0.out.cells)
            (first
            | (have h9 := X11; clear h9; go_at_call 20; refine (rfits_any AR A fl ks'.length cr k T N c v11 hfl (X11.out.kd.len) HNM.out HFM.out KR11.out HKB.out.2).mono ?_; rw [HFE.out]; rintro e v12 ⟨rfl, h11⟩; have X12 := Lib.hid (X11.out.next h11); clear h11)
            | (have h9 := X10; clear h9; go_at_call 11; refine (ref_any k T A N c v10).mono ?_; rintro e v11 ⟨rfl, h10⟩; have X11 := Lib.hid (X10.out.next h10); have KR11 := Lib.hid (KR10.out.below h10); unfold ev; clear h10)
            | (have h9 := X9; clear h9; go_at_call 21; refine (refKinds_any ks' L' c' v9 X9.out.kd HKL.out).mono ?_; rintro e v10 ⟨vk, rfl, hkr, h9⟩; have X10 := Lib.hid (X9.out.next h9); obtain ⟨AR, cr, rfl, hkk⟩ := hkr.shape; have KR10 := Lib.hid (kl_of hkk hflm); clear h9 hkr hkk)
            | (have h9 := X8; clear h9; go_at_call 19; refine (wfits_any L' A fl ks'.length c' k T N c v8 hfl (X8.out.kd.len) HNM.out HFM.out (kl_of X8.out.kd hflm) HKB.out.2).mono ?_; rw [HFE.out]; rintro e v9 ⟨rfl, h8⟩; have X9 := Lib.hid (X8.out.next h8); clear h8)
            | (have h9 := X7; clear h9; go_at_call 18; refine (wsame_any k T k T A A N c N c lt lt v7 HLT.out HLT.out HNM.out HNM.out X7.out.sc.la X7.out.sc.la).mono ?_; rw [same_self]; rintro e v8 ⟨rfl, h7⟩; have X8 := Lib.hid (X7.out.next h7); clear h7)
            | (have h9 := X6; clear h9; go_at_call 14; refine (rsame_any k T K' T' A B N c m d lt r v6 HLT.out HL'.out HNM.out HM.out X6.out.sc.la X6.out.sc.lb).mono ?_; rw [HBS.out]; rintro e v7 ⟨rfl, h6⟩; have X7 := Lib.hid (X6.out.next h6); clear h6)
            | (have h9 := X5; clear h9; go_at_call 11; refine (ref_any K' T' B m d v5).mono ?_; rintro e v6 ⟨rfl, h5⟩; have X6 := Lib.hid (X5.out.next h5); unfold ev; clear h5)
            | (have h9 := X4; clear h9; go_at_call 11; refine (ref_any k T A N c v4).mono ?_; rintro e v5 ⟨rfl, h4⟩; have X5 := Lib.hid (X4.out.next h4); unfold ev; clear h4)
            | (have h9 := X3; clear h9; go_at_call 18; refine (wsame_any k T K' T' A B N c m d lt r v3 HLT.out HL'.out HNM.out HM.out X3.out.sc.la X3.out.sc.lb).mono ?_; rw [HBS.out]; rintro e v4 ⟨rfl, h3⟩; have X4 := Lib.hid (X3.out.next h3); clear h3)
            | (have h9 := X2; clear h9; go_at_call 17; refine (rsize_any k T A N c lt v2 HLT.out HNM.out X2.out.sc.la).mono ?_; rw [HA.out]; rintro e v3 ⟨rfl, h2⟩; have X3 := Lib.hid (X2.out.next h2); clear h2)
            | (have h9 := X1; clear h9; go_at_call 11; refine (ref_any k T A N c v1).mono ?_; rintro e v2 ⟨rfl, h1⟩; have X2 := Lib.hid (X1.out.next h1); unfold ev; clear h1)
            | (have h9 := X0; clear h9; go_at_call 16; refine (wsize_any k T A N c lt _ HKB.out.1 HKB.out.2 HLT.out HNM.out X0.out.drew.sc.la).mono ?_; rw [HA.out]; rintro e v1 ⟨rfl, h0⟩; have X1 := Lib.hid (X0.out.drew.next h0); clear h0))
          go_wp2
          go_ret
          exact ⟨rfl, X12.out.sc.bel⟩
end Go.Proofs.Ytcmgkmllmdgcbaa
