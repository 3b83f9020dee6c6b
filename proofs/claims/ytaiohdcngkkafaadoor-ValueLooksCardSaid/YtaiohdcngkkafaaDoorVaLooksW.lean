/- ValueLooks' walk. -/
import Derived.Test.YtaiohdcngkkafaaDoorVaLooksM
import Derived.Test.YtaiohdcngkkafaaDoorVaEx
namespace Go.Proofs.YtaiohdcngkkafaaDoor
open Go.RowKit
set_option linter.unusedVariables false

def ln4 : List Nm := [[97], [98], [99], [100]]
def lf4 : List Nm := [[107], [120], [121], [122]]
theorem four_at (l : List Nm) (hl : l.length = 4) (j : Nat) (hj : j < 4) : ∃ s, l[j]? = some s := ⟨l[j], by simp [hl, hj]⟩
theorem bds_at {w : World} {A : Option Addr} {c : Nat} {l : List Bd} (h : Bds w A c l) (h0 : 0 < l.length) : ∃ b off, A = some ⟨b, off, none⟩ ∧ ∀ i (hi : i < l.length), w.cell? ⟨b, off + i * 3, none⟩ = some (.string (str l[i].v)) ∧ w.cell? ⟨b, off + i * 3 + 1, none⟩ = some (.slice l[i].A l[i].fs.length l[i].c) ∧ w.cell? ⟨b, off + i * 3 + 2, none⟩ = some (.slice l[i].B l[i].vs.length l[i].d) := by
  obtain ⟨b, off, rfl, -, -, -⟩ := (h.1 0 l[0] (by simp [h0])).1
  refine ⟨b, off, rfl, fun i hi => ?_⟩
  obtain ⟨b', off', e, g0, g1, g2⟩ := (h.1 i l[i] (by simp [hi])).1
  cases e
  exact ⟨g0, g1, g2⟩
set_option maxRecDepth 100000 in
set_option maxHeartbeats 16000000 in
theorem looks_any (x : Option Addr) (len cap : Nat) (zs : List Int) (na fi cut : Int) (hn0 : 0 ≤ na) (hn1 : na ≤ 255) (hf0 : 0 ≤ fi) (hf1 : fi ≤ 255) (hc0 : 0 ≤ cut) (hc1 : cut ≤ 255) (w : World) (hr : IsRow .i64 w x len cap zs) (hz : ∀ n ∈ zs, in64 n) (hT : Tabs8 w) :
    Calls Tryd.prog 12 #[.slice x len cap, .int .u8 na, .int .u8 fi, .int .u8 cut] w fun e w' => e = .returned (.bool true) ∧ Below w.heap.size w w' := by
  have HEX := Lib.hid (ex8_any w hT)
  have HRW := Lib.hid hr
  have HZ := Lib.hid hz
  have HC := Lib.hid (And.intro hc0 hc1)
  clear hT hr hz hc0 hc1
  obtain ⟨jn, hjn⟩ : ∃ j : Nat, na % 4 = (j : Int) := ⟨(na % 4).toNat, by omega⟩
  have m1 : na.tmod 4 = (jn : Int) := by rw [Int.tmod_eq_emod_of_nonneg hn0]; exact hjn
  have jn4 : jn < 4 := by omega
  obtain ⟨jf, hjf⟩ : ∃ j : Nat, fi % 4 = (j : Int) := ⟨(fi % 4).toNat, by omega⟩
  have m2 : fi.tmod 4 = (jf : Int) := by rw [Int.tmod_eq_emod_of_nonneg hf0]; exact hjf
  have jf4 : jf < 4 := by omega
  obtain ⟨n, hn⟩ := four_at ln4 rfl jn jn4
  obtain ⟨f, hf⟩ := four_at lf4 rfl jf jf4
  have cn : ∀ u : World, (u.alloc (.cells #[.string { data := #[97] }, .string { data := #[98] }, .string { data := #[99] }, .string { data := #[100] }] 9)).cell? ⟨u.heap.size, jn, none⟩ = some (.string (str n)) := fun u => by
    obtain ⟨y, e, hy⟩ := lies_new u (ln4.map fun s => Value.string (str s)) 9 jn _ (by rw [List.getElem?_map, hn]; rfl)
    cases e
    rw [Go.WideShapes.add_plain, Nat.zero_add] at hy
    exact hy
  have cf : ∀ u : World, (u.alloc (.cells #[.string { data := #[107] }, .string { data := #[120] }, .string { data := #[121] }, .string { data := #[122] }] 9)).cell? ⟨u.heap.size, jf, none⟩ = some (.string (str f)) := fun u => by
    obtain ⟨y, e, hy⟩ := lies_new u (lf4.map fun s => Value.string (str s)) 9 jf _ (by rw [List.getElem?_map, hf]; rfl)
    cases e
    rw [Go.WideShapes.add_plain, Nat.zero_add] at hy
    exact hy
  have HCN := Lib.hid cn
  have HCF := Lib.hid cf
  clear cn cf hn hf hjn hjf
  go_enter Tryd.func12, Tryd.ntmps12
  go_wp2_with fail
  refine HEX.out.mono ?_
  rintro e w1 ⟨rfl, b1⟩
  have HR1 := HRW.out.below b1
  go_wp2_with fail
  refine (binds_any x len cap zs cut HC.out.1 HC.out.2 w1 HR1 HZ.out).mono ?_
  rintro e w2 ⟨A, c, bl, rfl, hB, h64, hl8, b2⟩
  have b12 := b1.trans (b2.mono b1.size)
  have c1 := HCN.out w2
  have c2 := HCF.out (w2.alloc (.cells #[.string { data := #[97] }, .string { data := #[98] }, .string { data := #[99] }, .string { data := #[100] }] 9))
  rw [show (w2.alloc (.cells #[.string { data := #[97] }, .string { data := #[98] }, .string { data := #[99] }, .string { data := #[100] }] 9)).heap.size = w2.heap.size + 1 by simp] at c2
  have s2 := (step1 w2 (.cells #[.string { data := #[97] }, .string { data := #[98] }, .string { data := #[99] }, .string { data := #[100] }] 9))
  have s3 := s2.trans ((step1 (w2.alloc (.cells #[.string { data := #[97] }, .string { data := #[98] }, .string { data := #[99] }, .string { data := #[100] }] 9)) (.cells #[.string { data := #[107] }, .string { data := #[120] }, .string { data := #[121] }, .string { data := #[122] }] 9)).mono s2.size)
  have HB := Lib.hid (hB.below s3)
  have HBB := Lib.hid (b12.trans (s3.mono b12.size))
  have H64 := Lib.hid h64
  have HL8 := Lib.hid hl8
  clear b1 b2 b12 s2 s3 hB h64 hl8 HR1
  go_wp2_with fail
  clear c1 c2
  have hlk := look_any A c bl n f _ HB.out
  obtain ⟨R, hR⟩ : ∃ R, lookV bl n f = R := ⟨_, rfl⟩
  obtain ⟨got, ok⟩ := R
  rw [hR] at hlk
  refine hlk.mono ?_
  clear hlk
  rw [two]
  rintro e w3 ⟨rfl, b3⟩
  have HB3 := Lib.hid (HB.out.below b3)
  have HBB3 := Lib.hid (HBB.out.trans (b3.mono HBB.out.size))
  have HR := Lib.hid hR
  clear b3 HB HBB hR
  have hcap : (bl.length : Int) ≤ 8 := by have := HL8.out; omega
  go_wp2_with fail
  go_loop [15, 16] (fun v i => ∃ k : Nat, k ≤ bl.length ∧ i = .int .i64 k ∧ ∃ L : Int, v = .int .i64 L ∧ LastAt bl n k L) (fun _ i => bl.length - (intOf i).toNat)
  case atStart => exact ⟨0, Nat.zero_le _, rfl, -1, rfl, LastAt.zero _ _⟩
  case round =>
    obtain ⟨k, hk, rfl, L, rfl, hL⟩ := hrel
    have HL := Lib.hid hL
    have hLb : -1 ≤ L ∧ L < k := ⟨hL.1, hL.2.1⟩
    clear hL
    by_cases hlt : k < bl.length
    · obtain ⟨b, off, rfl, hc⟩ := bds_at HB3.out (by omega)
      have g0 := (hc k hlt).1
      obtain ⟨y, hy⟩ : ∃ y, bl[k] = y := ⟨_, rfl⟩
      rw [hy] at g0
      have e1 := str_toList y.v
      have e2 := str_toList n
      cases hm : (y.v == n) with
      | true =>
        have HY := Lib.hid (HL.out.yes hlt (by rw [hy]; exact hm))
        clear hc hy
        go_wp2_with fail
        go_round
        case rel => exact ⟨k + 1, by omega, by go_num, k, rfl, HY.out⟩
        case measure => simp [intOf]; omega
      | false =>
        have HY := Lib.hid (HL.out.no hlt (by rw [hy]; exact hm))
        clear hc hy
        go_wp2_with fail
        go_round
        case rel => exact ⟨k + 1, by omega, by go_num, L, rfl, HY.out⟩
        case measure => simp [intOf]; omega
    · obtain rfl : k = bl.length := by omega
      by_cases hLn : L < 0
      · have hn0 := HL.out.none_ hLn f
        rw [HR.out] at hn0
        cases hn0
        go_wp2_with fail
        go_ret
        exact ⟨rfl, HBB3.out⟩
      · obtain ⟨j, rfl⟩ : ∃ j : Nat, L = (j : Int) := ⟨L.toNat, by omega⟩
        have hj : j < bl.length := by omega
        have hlv := HL.out.some_ hj f
        rw [HR.out] at hlv
        obtain ⟨b, off, rfl, hc⟩ := bds_at HB3.out (by omega)
        obtain ⟨g0, g1, g2⟩ := hc j hj
        have hel := HB3.out.1 j bl[j] (by simp [hj])
        obtain ⟨y, hy⟩ : ∃ y, bl[j] = y := ⟨_, rfl⟩
        rw [hy] at g0 g1 g2 hlv hel
        obtain ⟨yv, yA, yf, yc, yB, yn, yd⟩ := y
        simp only at g0 g1 g2 hlv hel
        obtain ⟨-, hst, hnm⟩ := hel
        have hfc := hst.cap
        have hnc := hnm.cap
        have HST := Lib.hid hst
        have HNM := Lib.hid hnm
        have HLV := Lib.hid hlv
        clear hc hy hst hnm hlv HR
        go_wp2_with fail
        go_loop [17, 18] (fun v i => ∃ K Q : Int, i = .int .i64 K ∧ v = .int .i64 Q ∧ FstAt yf f K Q) (fun _ i => (intOf i + 1).toNat)
        case atStart => exact ⟨(yf.length : Int) - 1, -1, rfl, rfl, FstAt.start _ _⟩
        case round =>
          obtain ⟨K, Q, rfl, rfl, hF⟩ := hrel
          have HF := Lib.hid hF
          have hKb : -1 ≤ K ∧ K < yf.length := ⟨hF.1, hF.2.1⟩
          have hQb : -1 ≤ Q ∧ Q < yf.length := by rcases hF.2.2.1 with h | h <;> omega
          clear hF
          by_cases hK : 0 ≤ K
          · obtain ⟨k2, rfl⟩ : ∃ k2 : Nat, K = (k2 : Int) := ⟨K.toNat, by omega⟩
            have hk2 : k2 < yf.length := by omega
            obtain ⟨fb, fo, rfl, hfc2⟩ := HST.out.shape (by omega)
            have q0 := hfc2 k2 hk2
            obtain ⟨s, hs⟩ : ∃ s, yf[k2] = s := ⟨_, rfl⟩
            rw [hs] at q0
            have e1 := str_toList s
            have e2 := str_toList f
            cases hm : (s == f) with
            | true =>
              have HY := Lib.hid (HF.out.yes hk2 (by rw [hs]; exact hm))
              clear hfc2 hs
              go_wp2_with fail
              go_round
              case rel => exact ⟨(k2 : Int) - 1, k2, by go_num, rfl, HY.out⟩
              case measure => simp [intOf]
            | false =>
              have HY := Lib.hid (HF.out.no hk2 (by rw [hs]; exact hm))
              clear hfc2 hs
              go_wp2_with fail
              go_round
              case rel => exact ⟨(k2 : Int) - 1, Q, by go_num, rfl, HY.out⟩
              case measure => simp [intOf]
          · obtain rfl : K = -1 := by omega
            have hix := HF.out.done
            have hlv := HLV.out
            unfold fieldV at hlv
            simp only at hlv
            rw [hix] at hlv
            by_cases hQ : Q < 0
            · rw [if_pos (.inl hQ)] at hlv
              cases hlv
              clear hix
              go_wp2_with fail
              go_ret
              exact ⟨rfl, HBB3.out⟩
            · obtain ⟨q, rfl⟩ : ∃ q : Nat, Q = (q : Int) := ⟨Q.toNat, by omega⟩
              by_cases hq : yn.length ≤ q
              · rw [if_pos (.inr (by omega))] at hlv
                cases hlv
                clear hix
                go_wp2_with fail
                go_ret
                exact ⟨rfl, HBB3.out⟩
              · rw [if_neg (by omega)] at hlv
                have hq2 : q < yn.length := by omega
                obtain ⟨vb, vo, rfl, hcv⟩ := HNM.out.at_ hq2
                have hgd : yn.getD (q : Int).toNat 0 = yn[q] := by simp [hq2]
                rw [hgd] at hlv
                obtain ⟨u, hu⟩ : ∃ u, yn[q] = u := ⟨_, rfl⟩
                rw [hu] at hcv hlv
                cases hlv
                obtain ⟨v4, w4, r4, o4, b4⟩ := BW.copy HB3.out (by omega) (by omega)
                obtain ⟨v5, w5, r5, o5, b5⟩ := o4.app (Below.size b4) ⟨n, none, [], 0, none, [], 0⟩ (Strs.nil _) ⟨fun i u hu => by simp at hu, fun _ => rfl, Nat.le_refl _, Nat.zero_le _⟩ ⟨fun h => absurd h (by simp), fun h => absurd h (by simp)⟩ (by omega)
                obtain ⟨A5, c5, rfl, hB5⟩ := o5.shape
                have hlk := look_any A5 c5 _ n f _ hB5
                have hno : lookV (bl ++ [⟨n, none, [], 0, none, [], 0⟩]) n f = (0, false) := by
                  rw [look_at f bl.length (by simp) (by simp) (fun i hi hg => by simp at hi; omega)]
                  simp [fieldV, indexV, idx]
                rw [hno] at hlk
                have hb35 := b4.trans b5
                have cz : ∀ w6, Below w5.heap.size w5 w6 → w6.cell? ⟨vb, vo + q, none⟩ = some (.int .i64 got) ∧ w6.cell? ⟨b, off + j * 3 + 2, none⟩ = some (.slice (some ⟨vb, vo, none⟩) yn.length yd) := fun w6 h6 => by
                  have h36 := hb35.trans (h6.mono hb35.size)
                  exact ⟨(h36.cell (World.block_lt_of_cell? _ _ hcv)).trans hcv, (h36.cell (World.block_lt_of_cell? _ _ g2)).trans g2⟩
                have R4 := Lib.hid r4
                have R5 := Lib.hid r5
                have HK := Lib.hid hlk
                have CZ := Lib.hid cz
                have HB5 := Lib.hid (HBB3.out.trans (hb35.mono HBB3.out.size))
                clear hix hgd hu r4 r5 o4 o5 b4 b5 hB5 hlk hno hb35 cz
                simp only [List.length_append, List.length_cons, List.length_nil] at HK
                go_wp2_with (first | (at_builtin; refine wpList_app R4.out rfl rfl rfl rfl rfl ?_) | (at_builtin; refine wpList_app R5.out rfl rfl rfl rfl rfl ?_))
                refine HK.out.mono ?_
                rw [two]
                rintro e w6 ⟨rfl, b6⟩
                obtain ⟨k1, k2⟩ := CZ.out w6 b6
                have HB6 := Lib.hid (HB5.out.trans (b6.mono HB5.out.size))
                clear b6
                go_wp2_with fail
                go_ret
                exact ⟨rfl, HB6.out⟩
end Go.Proofs.YtaiohdcngkkafaaDoor
