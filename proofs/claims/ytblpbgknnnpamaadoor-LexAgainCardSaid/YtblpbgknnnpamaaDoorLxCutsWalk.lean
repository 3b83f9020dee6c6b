/- LexCuts: the walk. -/
import Derived.Test.YtblpbgknnnpamaaDoorLxMade
namespace Go.Proofs.YtblpbgknnnpamaaDoor
open Go.RowKit
set_option linter.unusedVariables false

theorem extract_pre {S a b : Nm} (h : S = a ++ b) {n : Nat} (hn : a.length = n) : (str S).extract 0 n = str a := by
  rw [take_str, h, ← hn, List.take_left']
  rfl
theorem extract_suf {S a b : Nm} (h : S = a ++ b) {n : Nat} (hn : a.length = n) : (str S).extract n S.length = str b := by
  rw [drop_str, h, ← hn, List.drop_left']
  rfl
set_option maxHeartbeats 4000000 in
set_option maxRecDepth 100000 in
theorem cuts_walk (xa : Option Addr) (xl xc : Nat) (xz : List Int) (a : Int) (ha0 : 0 ≤ a) (ha1 : a ≤ 255) (w : World) (hx : IsRow .u8 w xa xl xc xz) (hxz : ∀ z ∈ xz, (Lit.int .u8 z).wf = true) (hT : Tabs w) :
    Calls Tryd.prog 7 #[.slice xa xl xc, .int .u8 a] w fun e w' => e = .returned (.bool true) ∧ Below w.heap.size w w' := by
  have HX := Lib.hid hxz
  clear hxz
  go_enter Tryd.func7, Tryd.ntmps7
  go_wp2_with fail
  refine (examples_any w hT).mono ?_
  rintro e w1 ⟨rfl, bx⟩
  go_wp2_with fail
  refine (words_any xa xl xc xz false w1 (hx.below bx) HX.out).mono ?_
  rintro e w2 ⟨S, rfl, lS, b2⟩
  have B2 := bx.trans (b2.mono bx.size)
  have hT2 := hT.below B2
  clear b2 hx HX
  go_wp2_with fail
  refine (all_any S w2 (by omega) hT2).mono ?_
  intro e w3 hp
  cases hlx : lexA S with
  | bad p =>
    rw [hlx] at hp
    obtain ⟨rfl, b3⟩ := hp
    clear hlx
    go_wp2_with fail
    go_ret
    exact ⟨rfl, B2.trans (b3.mono B2.size)⟩
  | good ts =>
    rw [hlx] at hp
    obtain ⟨⟨A, c, rfl, hk⟩, b3⟩ := hp
    have B3 := B2.trans (b3.mono B2.size)
    have hlx2 := soundA hlx
    obtain ⟨L, hL⟩ : ∃ L, ts.length = L := ⟨_, rfl⟩
    have lL : L ≤ 810 := by have := hlx2.joinS_len.2; omega
    have HLX := Lib.hid hlx2
    have HK := Lib.hid hk
    have HL := Lib.hid hL
    rw [hL]
    clear hlx hlx2 hk b3 hL
    by_cases h0 : L = 0
    · subst h0
      go_wp2_with fail
      go_ret
      exact ⟨rfl, B3⟩
    have d0 : ((L : Int) == 0) = false := by rw [beq_eq_false_iff_ne]; omega
    obtain ⟨K, hK⟩ : ∃ K : Nat, a % (L : Int) = (K : Int) := ⟨(a % (L : Int)).toNat, by have := Int.emod_nonneg a (b := (L : Int)) (by omega); omega⟩
    have hKL : K < L := by have := Int.emod_lt_of_pos a (b := (L : Int)) (by omega); omega
    have tK : a.tmod (L : Int) = (K : Int) := by rw [Int.tmod_eq_emod_of_nonneg ha0]; exact hK
    have hKi : (K : Int) < (L : Int) := by omega
    have hKt : K < ts.length := by rw [HL.out]; exact hKL
    obtain ⟨bl, off, rfl, -, p1, -, p3⟩ := HK.out.at_ K hKt
    obtain ⟨x, y, e1, e2, l1, l2⟩ := HLX.out.cut K ts[K] (List.getElem?_eq_getElem hKt)
    generalize ts[K].p = P at *
    generalize ts[K].t = T at *
    have zT := str_size T
    obtain ⟨en, hen⟩ : ∃ en, P + T.length = en := ⟨_, rfl⟩
    have hen2 : (P : Int) + (T.length : Int) = (en : Int) := by omega
    have hxn : x.length = en := by omega
    have hS : S.length = en + y.length := by rw [e1, List.length_append]; omega
    have X1 := extract_pre e1 hxn
    have X2 := extract_suf e1 hxn
    have zS := str_size S
    have lx := complA l1
    have l3 := l2.down (0 + x.length) (Nat.le_refl _)
    rw [Nat.sub_self] at l3
    have ly := complA l3
    have hge : ∀ (i : Nat) (u : Tok), ts[K + 1 + i]? = some u → en ≤ u.p ∧ u.p ≤ 2048 := by
      intro i u hu
      obtain ⟨q1, -, q2, -⟩ := l2.at_ i u (by rw [List.getElem?_drop]; exact hu)
      omega
    have hx0 : 0 + x.length = en := by omega
    rw [hx0] at ly
    obtain ⟨us, hus⟩ : ∃ us, ts.take (K + 1) = us := ⟨_, rfl⟩
    have lus : us.length = K + 1 := by rw [← hus, List.length_take]; omega
    obtain ⟨vs, hvs⟩ : ∃ vs, (ts.drop (K + 1)).map (sft en) = vs := ⟨_, rfl⟩
    obtain ⟨M, hM⟩ : ∃ M, M + K + 1 = L := ⟨L - K - 1, by omega⟩
    have lvs : vs.length = M := by rw [← hvs, List.length_map, List.length_drop, HL.out]; omega
    rw [hus] at lx
    rw [hvs] at ly
    have hvi : ∀ i, i < M → ∃ u, ts[K + 1 + i]? = some u ∧ vs[i]? = some (sft en u) ∧ en ≤ u.p ∧ u.p ≤ 2048 := by
      intro i hi
      have h : K + 1 + i < ts.length := by rw [HL.out]; omega
      refine ⟨ts[K + 1 + i], List.getElem?_eq_getElem h, ?_, hge i _ (List.getElem?_eq_getElem h)⟩
      rw [← hvs, List.getElem?_map, List.getElem?_drop, List.getElem?_eq_getElem h]
      rfl
    have HV := Lib.hid hvi
    have HLXx := Lib.hid lx
    have HLY := Lib.hid ly
    have hxl : x.length ≤ 2048 := by omega
    have hyl : y.length ≤ 2048 := by omega
    have henS : (en : Int) ≤ (S.length : Int) := by omega
    clear e1 e2 l1 l2 l3 hge hus hvs lx ly hvi hK hKt hS hx0
    go_wp2_with fail
    go_quiet (fail)
    go_wp2_with fail
    refine (all_good HLXx.out _ hxl (hT.below (below_drewN B3 _))).mono ?_
    rw [lus]
    rintro e w4 ⟨A4, c4, rfl, -, b4⟩
    have B4 := (below_drewN B3 _).trans (b4.mono (show w.heap.size ≤ (w3.drewN _).heap.size from B3.size))
    have b34 : Below w3.heap.size w3 w4 := (below_drewN (Below.refl _ _) _).trans b4
    clear b4
    go_wp2_with fail
    refine (all_good HLY.out w4 hyl (hT.below B4)).mono ?_
    rw [lvs]
    rintro e w5 ⟨A5, c5, rfl, hk5, b5⟩
    have B5 := B4.trans (b5.mono B4.size)
    have b35 := b34.trans (b5.mono b34.size)
    have HK5 := Lib.hid hk5
    have HKa := Lib.hid (HK.out.below b35)
    have d1 : ((M : Int) != (L : Int) - (K : Int) - 1) = false := by
      rw [show (L : Int) - (K : Int) - 1 = (M : Int) by omega]
      simp
    clear b5 b34 b35 B4 hk5 p1 p3 X1 X2 HLY HLXx
    go_wp2_with fail
    go_loopw [18] (fun i wr => ∃ k : Nat, k ≤ M ∧ i = .int .i64 k ∧ Below w5.heap.size w5 wr) (fun i _ => M - (intOf i).toNat)
    case atStart => exact ⟨0, Nat.zero_le _, rfl, Below.refl _ _⟩
    case round =>
      obtain ⟨k, hk, rfl, hb⟩ := hrel
      by_cases hlt : k < M
      · obtain ⟨u, hu, hv, hge, hpb⟩ := HV.out k hlt
        obtain ⟨b1, o1, rfl, c0, c1, -, c3⟩ := (HK5.out.below hb).1 k _ hv
        obtain ⟨_, _, e1, a0, a1, -, a3⟩ := (HKa.out.below hb).1 _ u hu
        cases e1
        obtain ⟨I, hI⟩ : ∃ I, K + 1 + k = I := ⟨_, rfl⟩
        rw [hI] at a0 a1 a3
        have hI2 : (K : Int) + 1 + (k : Int) = (I : Int) := by omega
        have hI3 : (I : Int) < (L : Int) := by omega
        have hkM : (k : Int) < (M : Int) := by omega
        unfold sft at c0 c1 c3
        dsimp only at c0 c1 c3
        obtain ⟨Q, hQ⟩ : ∃ Q, u.p - en = Q := ⟨_, rfl⟩
        rw [hQ] at c3
        have hQ2 : (u.p : Int) - (en : Int) = (Q : Int) := by omega
        have hQ3 : Q ≤ 2048 := by omega
        generalize u.p = PP at *
        generalize u.t = TT at *
        generalize u.k = kk at *
        have n1 : ((kk : Int) != (kk : Int)) = false := by simp
        have n2 : ((Q : Int) != (Q : Int)) = false := by simp
        have n3 : ((str TT).toList == (str TT).toList) = true := by simp
        clear hu hv hI hQ hge
        go_wp2_with fail
        go_quiet (fail)
        go_wp2_with fail
        go_roundw
        case rel => exact ⟨k + 1, by omega, by go_num, below_drewN hb _⟩
        case measure => simp [intOf]; omega
      · go_wp2_with fail
        go_ret
        exact ⟨rfl, B5.trans (hb.mono B5.size)⟩
end Go.Proofs.YtblpbgknnnpamaaDoor
