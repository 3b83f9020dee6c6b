/- ArenaPuts tells true, whatever the three blocks, and whatever is put in which. -/
import Derived.Test.YtgphkihpihepiaaDoorArSlotsWalk
namespace Go.Proofs.YtgphkihpihepiaaDoor
open Go.RowKit
set_option linter.unusedVariables false

/-- k blocks: the sizes by X, what they have by T. -/
def pll (X : Nat → Nat) (T : Nat → List UInt8) (k : Nat) : List Blk := (List.range k).map fun i => ⟨T i, rnd (X i), 1⟩
def pl (X : Nat → Nat) (T : Nat → List UInt8) (k : Nat) : Ar := ⟨2000, 2000, pll X T k⟩
theorem pll_succ (X : Nat → Nat) (T : Nat → List UInt8) (k : Nat) : pll X T (k + 1) = pll X T k ++ [⟨T k, rnd (X k), 1⟩] := by simp [pll, List.range_succ]
theorem pll_len (X : Nat → Nat) (T : Nat → List UInt8) (k : Nat) : (pll X T k).length = k := by simp [pll]
theorem pll_bk (X : Nat → Nat) (T : Nat → List UInt8) {k i : Nat} (h : i < k) : bk (pll X T k) i = ⟨T i, rnd (X i), 1⟩ := by
  rw [bk_of (by rw [pll_len]; exact h)]; simp [pll]
theorem rnd_256 {n : Int} (h0 : 0 ≤ n) (h1 : n ≤ 256) : 16 ≤ rnd n ∧ rnd n ≤ 256 := by
  unfold rnd
  rw [if_neg (by omega)]
  repeat' split
  all_goals omega
theorem pll_chg (X : Nat → Nat) (T : Nat → List UInt8) (k : Nat) (hX : ∀ i, X i ≤ 255) : 0 ≤ chg (pll X T k) ∧ chg (pll X T k) ≤ 256 * (k : Int) := by
  induction k with
  | zero => exact ⟨Int.le_refl _, Int.le_refl _⟩
  | succ k ih =>
    have := rnd_256 (n := (X k : Int)) (by omega) (by have := hX k; omega)
    rw [pll_succ, chg_snoc]
    simp only
    omega
theorem pll_fre (X : Nat → Nat) (T : Nat → List UInt8) (k : Nat) (hX : ∀ i, X i ≤ 255) : fre (pll X T k) = k := by
  refine fre_of (fun j hj => ?_) ?_
  · rw [lvb, pll_bk X T hj]
    have := rnd_256 (n := (X j : Int)) (by omega) (by have := hX j; omega)
    simp
    omega
  · exact lvb_ge (by rw [pll_len]; exact Nat.le_refl _)
theorem pl_alo (X : Nat → Nat) (T : Nat → List UInt8) (k : Nat) (hX : ∀ i, X i ≤ 255) (hk : k < 3) (t : List UInt8) (ht : T k = t) (hl : t.length = X k) :
    alo (pl X T k) t = pl X T (k + 1) ∧ aslot (pl X T k) (t.length : Int) = (k : Int) ∧ agen (pl X T k) (t.length : Int) = 1 ∧ aerr (pl X T k) (t.length : Int) = 0 := by
  have hx := hX k
  have hr := rnd_256 (n := (X k : Int)) (by omega) (by omega)
  have hc := pll_chg X T k hX
  have he : aerr (pl X T k) (t.length : Int) = 0 := aerr_of (rok_yes (by omega) (by omega)) (by rw [hl]; show chg (pll X T k) + _ ≤ 2000; omega) (by show fre (pll X T k) < 4096; rw [pll_fre X T k hX]; omega)
  have hb : bk (pll X T k) k = blank := bk_ge (by rw [pll_len]; exact Nat.le_refl _)
  refine ⟨?_, ?_, ?_, he⟩
  · rw [alo, if_pos he]
    show (⟨2000, 2000, tak (pll X T k) t (rnd t.length)⟩ : Ar) = ⟨2000, 2000, pll X T (k + 1)⟩
    rw [tak, pll_fre X T k hX, pll_len, if_neg (by omega), tkb, pll_fre X T k hX, hb, pll_succ, ht, hl]
    rfl
  · rw [aslot, if_pos he]; show ((fre (pll X T k) : Nat) : Int) = _; rw [pll_fre X T k hX]
  · rw [agen, if_pos he]; show (bk (pll X T k) (fre (pll X T k))).g = _; rw [pll_fre X T k hX, hb]; rfl
/-- What one block has is another text. -/
def turnT (T : Nat → List UInt8) (m : Nat) (t : List UInt8) : Nat → List UInt8 := fun i => if i = m then t else T i
theorem pll_set (X : Nat → Nat) (T : Nat → List UInt8) (k m : Nat) (h : m < k) (t : List UInt8) : (pll X T k).set m ⟨t, rnd (X m), 1⟩ = pll X (turnT T m t) k := by
  apply List.ext_getElem
  · simp [pll]
  · intro i h1 h2
    simp only [pll, turnT, List.getElem_set, List.getElem_map, List.getElem_range]
    by_cases e : m = i
    · subst e; simp
    · rw [if_neg e, if_neg (fun h => e h.symm)]
theorem pl_hit (X : Nat → Nat) (T : Nat → List UInt8) {k i : Nat} (hX : ∀ i, X i ≤ 255) (h : i < k) : hit (pl X T k).l i 1 = true ∧ got (pl X T k) i 1 = T i := by
  have hr := rnd_256 (n := (X i : Int)) (by omega) (by have := hX i; omega)
  have hh : hit (pl X T k).l i 1 = true := by
    show hit (pll X T k) i 1 = true
    rw [hit, pll_bk X T h]; simp; omega
  refine ⟨hh, ?_⟩
  rw [got, if_pos hh]
  show (bk (pll X T k) i).t = _
  rw [pll_bk X T h]
theorem pl_put (X : Nat → Nat) (T : Nat → List UInt8) {k i : Nat} (hX : ∀ i, X i ≤ 255) (h : i < k) (t : List UInt8) : pok (pl X T k) i 1 (t.length : Int) = decide ((t.length : Int) ≤ rnd (X i)) ∧ pto (pl X T k) i 1 t = if (t.length : Int) ≤ rnd (X i) then pl X (turnT T i t) k else pl X T k := by
  have hh := (pl_hit X T hX h).1
  have hp : pok (pl X T k) i 1 (t.length : Int) = decide ((t.length : Int) ≤ rnd (X i)) := by
    rw [pok, hh]
    show (true && decide (_ ≤ (bk (pll X T k) i).r)) = _
    rw [pll_bk X T h]; rfl
  refine ⟨hp, ?_⟩
  rw [pto, hp]
  by_cases hc : (t.length : Int) ≤ rnd (X i)
  · rw [if_pos (by simpa using hc), if_pos hc]
    show (⟨2000, 2000, (pll X T k).set i (ptb (bk (pll X T k) i) t)⟩ : Ar) = _
    rw [pll_bk X T h]
    show (⟨2000, 2000, (pll X T k).set i ⟨t, rnd (X i), 1⟩⟩ : Ar) = _
    rw [pll_set X T k i h]; rfl
  · rw [if_neg (by simpa using hc), if_neg hc]
theorem pl_end (X : Nat → Nat) (T : Nat → List UInt8) (hX : ∀ i, X i ≤ 255) : chg (pl X T 3).l = smv [(X 0 : Int), (X 1 : Int), (X 2 : Int)] ∧ liv (pl X T 3).l = 3 := by
  have h0 := rnd_256 (n := (X 0 : Int)) (by omega) (by have := hX 0; omega)
  have h1 := rnd_256 (n := (X 1 : Int)) (by omega) (by have := hX 1; omega)
  have h2 := rnd_256 (n := (X 2 : Int)) (by omega) (by have := hX 2; omega)
  have hx0 := hX 0
  have hx1 := hX 1
  have hx2 := hX 2
  constructor
  · rw [smv_small (l := [(X 0 : Int), (X 1 : Int), (X 2 : Int)]) (by intro x hx; simp at hx; omega) (by simp)]; rfl
  · show (if rnd (X 0) = 0 then 0 else 1) + ((if rnd (X 1) = 0 then 0 else 1) + ((if rnd (X 2) = 0 then 0 else 1) + 0)) = (3 : Int)
    rw [if_neg (by omega), if_neg (by omega), if_neg (by omega)]; rfl
theorem Lies.row (w : World) (xs : List Value) (e : TypeId) : Lies (w.alloc (.cells xs.toArray e)) (some ⟨w.heap.size, 0, none⟩) xs := fun i u hu => by
  refine ⟨_, rfl, ?_⟩
  rw [Go.WideShapes.add_plain, cell_of_row (w.alloc (.cells xs.toArray e)) w.heap.size (0 + i) _ _ _ (heap_alloc_new w _)]
  simpa using hu
theorem arr3 (X : Nat → Nat) {k : Nat} (h : k < 3) : (#[.int .u8 (X 0), .int .u8 (X 1), .int .u8 (X 2)] : Array Value)[k]? = some (.int .u8 (X k)) := by
  match k, h with
  | 0, _ => rfl
  | 1, _ => rfl
  | 2, _ => rfl
theorem hs_at2 {w : World} {B : Nat} {q n cap : Nat} {l : List (Int × Int)} (hown : w.ownsRow B 32 2 (.slice (some ⟨q, 0, none⟩) n cap) n (hcells l)) {i : Nat} {h : Int × Int} (hi : l[i]? = some h) :
    w.cell? ⟨q, i * 2, none⟩ = some (.int .u32 h.1) ∧ w.cell? ⟨q, i * 2 + 1, none⟩ = some (.int .u32 h.2) := by
  obtain ⟨q', cap', e, _, c0, c1⟩ := hs_at hown hi
  simp only [Value.slice.injEq, Option.some.injEq, Addr.mk.injEq, and_true, true_and] at e
  obtain ⟨rfl, rfl⟩ := e
  exact ⟨c0, c1⟩
theorem own_mem {q n cap : Nat} : ∀ k, (Value.slice (some ⟨q, 0, none⟩) n cap).ownBlock = some k → k ∈ [q] ++ [] := fun k hk => by
  obtain rfl : q = k := Option.some.inj hk
  simp
def T0 (X : Nat → Nat) : Nat → List UInt8 := fun i => txt (X i) ((i : Int) + 1)

set_option maxHeartbeats 8000000 in
set_option maxRecDepth 100000 in
theorem puts_walk (X : Nat → Nat) (a1 a2 : Int) (hX : ∀ i, X i ≤ 255) (h10 : 0 ≤ a1) (h11 : a1 ≤ 255) (h20 : 0 ≤ a2) (h21 : a2 ≤ 65535) (w : World) (ht : Tab w) (hT : Dbt w) :
    Calls Tryd.prog 8 #[.agg #[.int .u8 (X 0), .int .u8 (X 1), .int .u8 (X 2)], .int .u8 a1, .int .u16 a2] w fun e w' => e = .returned (.bool true) ∧ Below w.heap.size w w' := by
  have HT := Lib.hid ht
  have HD := Lib.hid hT
  have HX := Lib.hid hX
  clear ht hT hX
  obtain ⟨N1, rfl⟩ : ∃ n : Nat, a1 = (n : Int) := ⟨a1.toNat, by omega⟩
  obtain ⟨N2, rfl⟩ : ∃ n : Nat, a2 = (n : Int) := ⟨a2.toNat, by omega⟩
  go_enter Tryd.func8, Tryd.ntmps8
  go_wp2_with fail
  have bw : Below w.heap.size w (w.alloc (.cells #[.int .u8 (X 0), .int .u8 (X 1), .int .u8 (X 2)] 68)) := (Below.refl _ _).alloc (Nat.le_refl _) _
  refine (examples_any _ (HT.out.below bw) (HD.out.below bw)).mono ?_
  rintro e w1 ⟨rfl, b1⟩
  have C1 : Hid (Has w1 w.heap.size 68 #[.int .u8 (X 0), .int .u8 (X 1), .int .u8 (X 2)]) := Lib.hid (Has.below (heap_alloc_new w _) b1 (by simp))
  have B1 := Lib.hid (bw.trans (b1.mono (by simp)))
  clear b1 bw
  go_wp2_with fail
  refine (new_sc 2000 w1 (by omega) (by omega) (HT.out.below B1.out) (HD.out.below B1.out)).mono ?_
  rintro e w2 ⟨rfl, h2, b2⟩
  have H2 := Lib.hid h2
  have B2 := Lib.hid (B1.out.trans (b2.mono B1.out.size))
  have HZ := Lib.hid B1.out.size
  have C2 := Lib.hid (C1.out.below b2 C1.out.lt)
  have LC := Lib.hid C1.out.lt
  clear h2 b2
  generalize hwB : w1.heap.size = B at *
  clear hwB
  generalize hwc : w.heap.size = c at *
  have HWC := Lib.hid hwc
  clear hwc
  go_wp2_with fail
  go_loopw [9, 10] (fun hv i wr => ∃ k : Nat, k ≤ 3 ∧ i = .int .i64 k ∧ wr.ownsRow B 32 2 hv k (hcells (fulh k)) ∧ Sc wr B B (pl X (T0 X) k) (hv.ownBlock.toList ++ []) ∧ Below B w2 wr) (fun _ i _ => 3 - (intOf i).toNat)
  case atStart => exact ⟨0, by omega, rfl, World.ownsRow_nil _ _ _ _, H2.out, Below.refl _ _⟩
  case round =>
    obtain ⟨k, hk, rfl, hO, hS, hBW⟩ := hrel
    have HO := Lib.hid hO
    have HS := Lib.hid hS
    have HBW := Lib.hid hBW
    clear hO hS hBW H2
    by_cases hlt : k < 3
    · have hc := ((C2.out.below HBW.out LC.out).cell k).trans (arr3 X hlt)
      have hx := HX.out k
      have hd : decide ((k : Int) < 3) = true := by simp; omega
      have hk0 : (0 : Int) ≤ (k : Int) := by omega
      have hk1 : (k : Int) < 3 := by omega
      go_wp2_with fail
      clear hc
      refine (text_sc HS.out (X k) ((k : Int) + 1) (by omega) (by omega) (by omega)).mono ?_
      rintro e w3 ⟨rfl, h3, b3⟩
      have H3 := Lib.hid h3
      have O3 := Lib.hid (b3.owns HO.out (by intro j hj; simp [hj]))
      have B3 := Lib.hid (HBW.out.trans b3.bel)
      clear h3 b3 hd
      go_wp2_with fail
      refine (alloc_sc H3.out (txt (X k) ((k : Int) + 1)) (by rw [txt_length]; exact small_len (by omega))).mono ?_
      have hst := pl_alo X (T0 X) k HX.out hlt (txt (X k) ((k : Int) + 1)) rfl (txt_length _ _)
      rw [hst.1, hst.2.1, hst.2.2.1, hst.2.2.2]
      clear hst
      rintro e w4 ⟨rfl, h4, b4⟩
      obtain ⟨v', w', hrun, hap⟩ := app_hs (h := ((k : Int), 1)) (fulh_len k) (h4.alloc (.cells #[.int .u32 (k : Int), .int .u32 1] 32)) ((b4.owns O3.out (by intro j hj; simp [hj])).alloc _) (by omega)
      rw [show (w4.alloc (.cells #[.int .u32 (k : Int), .int .u32 1] 32)).heap.size = w4.heap.size + 1 by simp] at hrun
      have HRU := Lib.hid hrun
      obtain ⟨o1, o2, o3, _, _⟩ := hap
      rw [fulh_len] at o1
      have O1 := Lib.hid o1
      have O2 := Lib.hid o2
      have OB := Lib.hid (B3.out.trans (b4.bel.trans ((h4.kpa (.cells #[.int .u32 (k : Int), .int .u32 1] 32)).bel.trans o3)))
      clear hrun o1 o2 o3 h4 b4
      go_wp2_with (at_builtin; refine wpList_app HRU.out rfl rfl rfl rfl rfl ?_)
      go_roundw
      case rel => exact ⟨k + 1, by omega, by go_num, by rw [fulh_succ]; exact O1.out, O2.out, OB.out⟩
      case measure => simp [intOf]; omega
    · obtain rfl : k = 3 := by omega
      obtain ⟨m, hm⟩ : ∃ m : Nat, m = N1 % 3 := ⟨_, rfl⟩
      have hm1 : m < 3 := by omega
      have hm2 : (N1 : Int) % 3 = (m : Int) := by omega
      obtain ⟨n, hn⟩ : ∃ n : Nat, n = N2 % 400 := ⟨_, rfl⟩
      have hn1 : n < 400 := by omega
      have hn2 : (N2 : Int) % 400 = (n : Int) := by omega
      have hm3 : (0 : Int) ≤ (m : Int) := by omega
      have hm4 : (m : Int) < 3 := by omega
      have hc := ((C2.out.below HBW.out LC.out).cell m).trans (arr3 X hm1)
      have hx := HX.out m
      clear hm hn
      go_wp2_with fail
      clear hc
      refine (round_any _ _ HS.out.tab).mono ?_
      rintro e w' ⟨rfl, rfl⟩
      obtain ⟨q, cap, rfl, hcap, c0, c1⟩ := hs_at HO.out (fulh_get hm1)
      have R0 := Lib.hid (And.intro c0 c1)
      have hrb := rnd_bd (X m : Int)
      have hrb1 := hrb.1
      have hrb2 := hrb.2
      clear c0 c1 hrb
      go_wp2_with fail
      go_region_held3 (fun w' => w'.cell? ⟨q, m * 2, none⟩ = some (.int .u32 (m : Int)) ∧ w'.cell? ⟨q, m * 2 + 1, none⟩ = some (.int .u32 1))
        (first | exact C8.out | exact C7.out | exact R0.out)
        (first
          | (go_at_call 13; refine (text_sc HS.out.drew n 9 (by omega) (by omega) (by omega)).mono ?_; rintro e w7 ⟨rfl, h7, b7⟩; have O7 := Lib.hid (b7.owns HO.out (by intro j hj; simp [hj])); have C7 := Lib.hid (hs_at2 O7.out (fulh_get hm1)); have H7 := Lib.hid h7; have B7 := Lib.hid (HBW.out.drew.trans b7.bel); clear h7 b7)
          | (go_at_call 18; refine (put_sc H7.out m 1 (by omega) (by omega) (by omega) (txt n 9) (by rw [txt_length]; exact small_len (by omega))).mono ?_; rintro e w8 ⟨rfl, h8, b8⟩; have O8 := Lib.hid (b8.owns O7.out (by intro j hj; simp [hj])); have C8 := Lib.hid (hs_at2 O8.out (fulh_get hm1)); have H8 := Lib.hid h8; have B8 := Lib.hid (B7.out.trans b8.bel); clear h8 b8))
      clear HS HO HBW R0 O7 C7 H7 B7 C8
      have hpp := pl_put X (T0 X) (k := 3) HX.out hm1 (txt n 9)
      rw [hpp.1]
      rw [hpp.2] at H8
      clear hpp
      rw [txt_length] at *
      by_cases hle : (n : Int) ≤ rnd (X m)
      · rw [show decide ((n : Int) ≤ rnd (X m)) = true by simpa using hle]
        rw [if_pos hle] at H8
        have hok : decide ((n : Int) ≤ rnd (X m : Int)) = true := by simpa using hle
        go_wp2_with fail
        go_loopw [18] (fun i wr => ∃ k : Nat, k ≤ 3 ∧ i = .int .i64 k ∧ Sc wr B B (pl X (turnT (T0 X) m (txt n 9)) 3) ([q] ++ []) ∧ wr.ownsRow B 32 2 (.slice (some ⟨q, 0, none⟩) 3 cap) 3 (hcells (fulh 3)) ∧ Below B w2 wr) (fun i _ => 3 - (intOf i).toNat)
        case atStart => exact ⟨0, by omega, rfl, H8.out, O8.out, B8.out⟩
        case round =>
          obtain ⟨k, hk, rfl, hS, hO, hBW⟩ := hrel
          have HS := Lib.hid hS
          have HO := Lib.hid hO
          have HBW := Lib.hid hBW
          clear hS hO hBW H8 O8 B8
          by_cases hlt : k < 3
          · have hc := ((C2.out.below HBW.out LC.out).cell k).trans (arr3 X hlt)
            have hxk := HX.out k
            have hd : decide ((k : Int) < 3) = true := by simp; omega
            have hk0 : (0 : Int) ≤ (k : Int) := by omega
            have hk1 : (k : Int) < 3 := by omega
            go_wp2_with fail
            clear hc hd
            refine (text_sc HS.out (X k) ((k : Int) + 1) (by omega) (by omega) (by omega)).mono ?_
            rintro e w9 ⟨rfl, h9, b9⟩
            have H9 := Lib.hid h9
            have O9 := Lib.hid (b9.owns HO.out own_mem)
            have B9 := Lib.hid (HBW.out.trans b9.bel)
            clear h9 b9 HS HO HBW
            by_cases hkm : k = m
            · subst hkm
              go_wp2_with fail
              refine (text_sc H9.out n 9 (by omega) (by omega) (by omega)).mono ?_
              rintro e w10 ⟨rfl, h10, b10⟩
              have H10 := Lib.hid h10
              have O10 := Lib.hid (b10.owns O9.out own_mem)
              have B10 := Lib.hid (B9.out.trans b10.bel)
              have c0 := (hs_at2 O10.out (fulh_get hlt)).1
              have c1 := (hs_at2 O10.out (fulh_get hlt)).2
              clear h10 b10 H9 O9 B9
              go_wp2_with fail
              clear c0 c1
              refine (get_sc H10.out k 1 (by omega) (by omega) (by omega)).mono ?_
              have hgt := pl_hit X (turnT (T0 X) k (txt n 9)) HX.out hlt
              rw [hgt.1, hgt.2, show (turnT (T0 X) k (txt n 9)) k = txt n 9 by simp [turnT]]
              clear hgt
              rintro e w11 ⟨rfl, h11, b11⟩
              have H11 := Lib.hid h11
              have O11 := Lib.hid (b11.owns O10.out own_mem)
              have B11 := Lib.hid (B10.out.trans b11.bel)
              clear h11 b11
              go_wp2
              go_roundw
              case rel => exact ⟨k + 1, by omega, by go_num, H11.out, O11.out, B11.out⟩
              case measure => simp [intOf]; omega
            · have hne : ((k : Int) == (m : Int)) = false := by simp; omega
              have c0 := (hs_at2 O9.out (fulh_get hlt)).1
              have c1 := (hs_at2 O9.out (fulh_get hlt)).2
              go_wp2_with fail
              clear c0 c1 hne
              have H10 := H9
              have O10 := O9
              have B10 := B9
              clear H9 O9 B9
              refine (get_sc H10.out k 1 (by omega) (by omega) (by omega)).mono ?_
              have hgt := pl_hit X (turnT (T0 X) m (txt n 9)) HX.out hlt
              rw [hgt.1, hgt.2, show (turnT (T0 X) m (txt n 9)) k = txt (X k) ((k : Int) + 1) by simp [turnT, T0, hkm]]
              clear hgt
              rintro e w11 ⟨rfl, h11, b11⟩
              have H11 := Lib.hid h11
              have O11 := Lib.hid (b11.owns O10.out own_mem)
              have B11 := Lib.hid (B10.out.trans b11.bel)
              clear h11 b11
              go_wp2
              go_roundw
              case rel => exact ⟨k + 1, by omega, by go_num, H11.out, O11.out, B11.out⟩
              case measure => simp [intOf]; omega
          · obtain rfl : k = 3 := by omega
            have hc0 := ((C2.out.below HBW.out LC.out).cell 0).trans (arr3 X (by omega))
            have hc1 := ((C2.out.below HBW.out LC.out).cell 1).trans (arr3 X (by omega))
            have hc2 := ((C2.out.below HBW.out LC.out).cell 2).trans (arr3 X (by omega))
            have hx0 := HX.out 0
            have hx1 := HX.out 1
            have hx2 := HX.out 2
            go_wp2_with fail
            clear hc0 hc1 hc2
            have hS1 := HS.out.alloc (.cells #[.int .i64 (X 0 : Int), .int .i64 (X 1 : Int), .int .i64 (X 2 : Int)] 3)
            have bS1 := (HS.out.kpa (.cells #[.int .i64 (X 0 : Int), .int .i64 (X 1 : Int), .int .i64 (X 2 : Int)] 3)).bel
            have hend := pl_end X (turnT (T0 X) m (txt n 9)) HX.out
            refine (sum_lies _ 3 3 [(X 0 : Int), (X 1 : Int), (X 2 : Int)] _ hS1.tab rfl (by decide) (Lies.row _ [.int .i64 (X 0 : Int), .int .i64 (X 1 : Int), .int .i64 (X 2 : Int)] _)).mono ?_
            rintro e w' ⟨rfl, rfl⟩
            have HS1 := Lib.hid hS1
            have BS1 := Lib.hid (HBW.out.trans bS1)
            have HEND := Lib.hid hend
            clear hS1 bS1 hend
            generalize wr.alloc (.cells #[.int .i64 (X 0 : Int), .int .i64 (X 1 : Int), .int .i64 (X 2 : Int)] 3) = w12 at *
            go_wp2_with fail
            refine (charged_sc HS1.out).mono ?_
            rw [HEND.out.1]
            rintro e w' ⟨rfl, rfl⟩
            go_wp2_with fail
            refine (live_sc HS1.out).mono ?_
            rw [HEND.out.2]
            rintro e w' ⟨rfl, rfl⟩
            go_wp2
            go_ret
            exact ⟨rfl, by rw [HWC.out]; exact B2.out.trans (BS1.out.mono HZ.out)⟩
      · rw [show decide ((n : Int) ≤ rnd (X m)) = false by simpa using hle]
        rw [if_neg hle] at H8
        have hok : decide ((n : Int) ≤ rnd (X m : Int)) = false := by simpa using hle
        go_wp2_with fail
        go_loopw [18] (fun i wr => ∃ k : Nat, k ≤ 3 ∧ i = .int .i64 k ∧ Sc wr B B (pl X (T0 X) 3) ([q] ++ []) ∧ wr.ownsRow B 32 2 (.slice (some ⟨q, 0, none⟩) 3 cap) 3 (hcells (fulh 3)) ∧ Below B w2 wr) (fun i _ => 3 - (intOf i).toNat)
        case atStart => exact ⟨0, by omega, rfl, H8.out, O8.out, B8.out⟩
        case round =>
          obtain ⟨k, hk, rfl, hS, hO, hBW⟩ := hrel
          have HS := Lib.hid hS
          have HO := Lib.hid hO
          have HBW := Lib.hid hBW
          clear hS hO hBW H8 O8 B8
          by_cases hlt : k < 3
          · have hc := ((C2.out.below HBW.out LC.out).cell k).trans (arr3 X hlt)
            have hxk := HX.out k
            have hd : decide ((k : Int) < 3) = true := by simp; omega
            have hk0 : (0 : Int) ≤ (k : Int) := by omega
            have hk1 : (k : Int) < 3 := by omega
            go_wp2_with fail
            clear hc hd
            refine (text_sc HS.out (X k) ((k : Int) + 1) (by omega) (by omega) (by omega)).mono ?_
            rintro e w9 ⟨rfl, h9, b9⟩
            have H9 := Lib.hid h9
            have O9 := Lib.hid (b9.owns HO.out own_mem)
            have B9 := Lib.hid (HBW.out.trans b9.bel)
            clear h9 b9 HS HO HBW
            by_cases hkm : k = m
            · subst hkm
              have c0 := (hs_at2 O9.out (fulh_get hlt)).1
              have c1 := (hs_at2 O9.out (fulh_get hlt)).2
              go_wp2_with fail
              clear c0 c1
              have H10 := H9
              have O10 := O9
              have B10 := B9
              clear H9 O9 B9
              refine (get_sc H10.out k 1 (by omega) (by omega) (by omega)).mono ?_
              have hgt := pl_hit X (T0 X) HX.out hlt
              rw [hgt.1, hgt.2, show (T0 X) k = txt (X k) ((k : Int) + 1) from rfl]
              clear hgt
              rintro e w11 ⟨rfl, h11, b11⟩
              have H11 := Lib.hid h11
              have O11 := Lib.hid (b11.owns O10.out own_mem)
              have B11 := Lib.hid (B10.out.trans b11.bel)
              clear h11 b11
              go_wp2
              go_roundw
              case rel => exact ⟨k + 1, by omega, by go_num, H11.out, O11.out, B11.out⟩
              case measure => simp [intOf]; omega
            · have hne : ((k : Int) == (m : Int)) = false := by simp; omega
              have c0 := (hs_at2 O9.out (fulh_get hlt)).1
              have c1 := (hs_at2 O9.out (fulh_get hlt)).2
              go_wp2_with fail
              clear c0 c1 hne
              have H10 := H9
              have O10 := O9
              have B10 := B9
              clear H9 O9 B9
              refine (get_sc H10.out k 1 (by omega) (by omega) (by omega)).mono ?_
              have hgt := pl_hit X (T0 X) HX.out hlt
              rw [hgt.1, hgt.2, show (T0 X) k = txt (X k) ((k : Int) + 1) from rfl]
              clear hgt
              rintro e w11 ⟨rfl, h11, b11⟩
              have H11 := Lib.hid h11
              have O11 := Lib.hid (b11.owns O10.out own_mem)
              have B11 := Lib.hid (B10.out.trans b11.bel)
              clear h11 b11
              go_wp2
              go_roundw
              case rel => exact ⟨k + 1, by omega, by go_num, H11.out, O11.out, B11.out⟩
              case measure => simp [intOf]; omega
          · obtain rfl : k = 3 := by omega
            have hc0 := ((C2.out.below HBW.out LC.out).cell 0).trans (arr3 X (by omega))
            have hc1 := ((C2.out.below HBW.out LC.out).cell 1).trans (arr3 X (by omega))
            have hc2 := ((C2.out.below HBW.out LC.out).cell 2).trans (arr3 X (by omega))
            have hx0 := HX.out 0
            have hx1 := HX.out 1
            have hx2 := HX.out 2
            go_wp2_with fail
            clear hc0 hc1 hc2
            have hS1 := HS.out.alloc (.cells #[.int .i64 (X 0 : Int), .int .i64 (X 1 : Int), .int .i64 (X 2 : Int)] 3)
            have bS1 := (HS.out.kpa (.cells #[.int .i64 (X 0 : Int), .int .i64 (X 1 : Int), .int .i64 (X 2 : Int)] 3)).bel
            have hend := pl_end X (T0 X) HX.out
            refine (sum_lies _ 3 3 [(X 0 : Int), (X 1 : Int), (X 2 : Int)] _ hS1.tab rfl (by decide) (Lies.row _ [.int .i64 (X 0 : Int), .int .i64 (X 1 : Int), .int .i64 (X 2 : Int)] _)).mono ?_
            rintro e w' ⟨rfl, rfl⟩
            have HS1 := Lib.hid hS1
            have BS1 := Lib.hid (HBW.out.trans bS1)
            have HEND := Lib.hid hend
            clear hS1 bS1 hend
            generalize wr.alloc (.cells #[.int .i64 (X 0 : Int), .int .i64 (X 1 : Int), .int .i64 (X 2 : Int)] 3) = w12 at *
            go_wp2_with fail
            refine (charged_sc HS1.out).mono ?_
            rw [HEND.out.1]
            rintro e w' ⟨rfl, rfl⟩
            go_wp2_with fail
            refine (live_sc HS1.out).mono ?_
            rw [HEND.out.2]
            rintro e w' ⟨rfl, rfl⟩
            go_wp2
            go_ret
            exact ⟨rfl, by rw [HWC.out]; exact B2.out.trans (BS1.out.mono HZ.out)⟩
end Go.Proofs.YtgphkihpihepiaaDoor
