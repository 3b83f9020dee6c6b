/- SchemaLimits: the walk. -/
import Derived.Test.YtkoomphkbiifhaaDoorScHead
import Derived.Test.YtkoomphkbiifhaaDoorScOwnS
import Derived.Test.YtkoomphkbiifhaaDoorScWords
import Derived.Test.YtkoomphkbiifhaaDoorScLimMath
namespace Go.Proofs.YtkoomphkbiifhaaDoor
open Go.RowKit
set_option linter.unusedVariables false

theorem add_K (c : UInt8) : ({ data := #[75] } : ByteArray) ++ str [c] = str [75, c] := str_append [75] [c]
theorem add_f (c : UInt8) : ({ data := #[102] } : ByteArray) ++ str [c] = str [102, c] := str_append [102] [c]
set_option maxHeartbeats 2000000 in
set_option maxRecDepth 100000 in
theorem limits_walk (a b : Int) (bad : Bool) (a0 : 0 ≤ a) (a1 : a ≤ 255) (b0 : 0 ≤ b) (b1 : b ≤ 255) (w : World) (hT : Tabs w) :
    Calls Tryd.prog 7 #[.int .u8 a, .int .u8 b, .bool bad] w fun e w' => e = .returned (.bool true) ∧ Below w.heap.size w w' := by
  obtain ⟨M, hM⟩ : ∃ M : Nat, a % 22 = (M : Int) := ⟨(a % 22).toNat, by omega⟩
  obtain ⟨K, hK⟩ : ∃ K : Nat, b % 12 = (K : Int) := ⟨(b % 12).toNat, by omega⟩
  have hM1 : M < 22 := by omega
  have hK1 : K < 12 := by omega
  go_enter Tryd.func7, Tryd.ntmps7
  go_wp2_with fail
  refine (examples_any w hT).mono ?_
  rintro e w1 ⟨rfl, bx⟩
  have hT1 := hT.below bx
  go_wp2_with fail
  clear hM hK
  go_loopw [10, 11] (fun v i wr => ∃ j : Nat, j ≤ M ∧ i = .int .i64 j ∧ KW wr w1.heap.size v (limK bad K j) ∧ Below w1.heap.size w1 wr) (fun _ i _ => M - (intOf i).toNat)
  case atStart => exact ⟨0, Nat.zero_le _, rfl, KW.nil _ _, Below.refl _ _⟩
  case round =>
    rename World => wo
    obtain ⟨j, hj, rfl, hKW, br⟩ := hrel
    have HK := Lib.hid hKW
    clear hKW
    by_cases hlt : j < M
    · obtain ⟨cj, hcj⟩ : ∃ c : UInt8, UInt8.ofNat (97 + j) = c := ⟨_, rfl⟩
      have cv := conv_one (97 + j) (by omega) wo (97 + (j : Int)) (by omega)
      rw [hcj] at cv
      have HCJ := Lib.hid hcj
      clear hcj
      obtain ⟨q, hq⟩ : ∃ q, wo.heap.size + 1 = q := ⟨_, rfl⟩
      obtain ⟨W, hW⟩ : ∃ W, W = ((wo.alloc (Obj.cells #[Value.int IntKind.u8 (97 + (j : Int))] 5)).alloc (Obj.cells #[Value.string (str [75, cj]), Value.slice none 0 0] 40)) := ⟨_, rfl⟩
      have bW : Below wo.heap.size wo W := by rw [hW]; exact ((Below.refl _ _).alloc (Nat.le_refl _) _).alloc (by simp) _
      have hX : Has W q 40 #[.string (str [75, cj]), .slice none 0 0] := by
        rw [hW, ← hq]
        have := Has.new (wo.alloc (Obj.cells #[Value.int IntKind.u8 (97 + (j : Int))] 5)) 40 #[.string (str [75, cj]), .slice none 0 0]
        simpa using this
      have hWz : W.heap.size = q + 1 := by rw [hW, ← hq]; simp
      have HW := Lib.hid hW
      have HX := Lib.hid hX
      have HQ := Lib.hid hq
      clear hW hX hq
      go_wp2_with fail
      clear cv
      rw [add_K, ← HW.out, HQ.out]
      go_loopw [13] (fun i wi => ∃ (k : Nat) (v : Value), k ≤ K ∧ i = .int .i64 k ∧ Has wi q 40 #[.string (str [75, cj]), v] ∧ SW wi wo.heap.size v (limF k) ∧ v.ownBlock ≠ some q ∧ Below wo.heap.size wo wi) (fun i _ => K - (intOf i).toNat)
      case atStart => exact ⟨0, _, Nat.zero_le _, rfl, HX.out, SW.nil _ _, by simp [Value.ownBlock], bW⟩
      case round =>
        rename World => wi
        obtain ⟨k, v, hk, rfl, hXi, hSi, hvq, bi⟩ := hrel
        have HXi := Lib.hid hXi
        have HSi := Lib.hid hSi
        clear hXi hSi
        by_cases hlk : k < K
        · obtain ⟨ck, hck⟩ : ∃ c : UInt8, UInt8.ofNat (97 + k) = c := ⟨_, rfl⟩
          have cv := conv_one (97 + k) (by omega) wi (97 + (k : Int)) (by omega)
          rw [hck] at cv
          have HCK := Lib.hid hck
          clear hck
          have x1 := HXi.out.cell 1
          simp at x1
          obtain ⟨W1, hW1⟩ : ∃ W1, W1 = wi.alloc (Obj.cells #[Value.int IntKind.u8 (97 + (k : Int))] 5) := ⟨_, rfl⟩
          have bW1 : Below wi.heap.size wi W1 := by rw [hW1]; exact (Below.refl _ _).alloc (Nat.le_refl _) _
          have hz1 : W1.heap.size = wi.heap.size + 1 := by rw [hW1]; simp
          have biz := bi.size
          have hqi := HXi.out.lt
          obtain ⟨v', w4, hrun, hS4, b4, g4, z4, o4⟩ := (HSi.out.below bW1).app (by omega) [102, ck] (by rw [limF_len]; omega)
          have bS : Below W1.heap.size W1 (W1.alloc (.cells #[.string (str [102, ck])] 9)) := (Below.refl _ _).alloc (Nat.le_refl _) _
          have hX4 : Has w4 q 40 #[.string (str [75, cj]), v] := ((HXi.out.below bW1 hqi).below bS (by omega)).grown g4 hvq
          have hvq' : v'.ownBlock ≠ some q := by
            rcases o4 with e | e
            · rw [e]; exact hvq
            · rw [e]; intro h; have := Option.some.inj h; omega
          have B4 := (bi.trans (bW1.mono biz)).trans b4
          obtain ⟨ao, n', cap, rfl⟩ : ∃ ao n' cap, v' = .slice ao n' cap := by
            obtain ⟨A, c, e, _⟩ := hS4.shape
            exact ⟨_, _, _, e⟩
          have y1 := hX4.cell 1
          simp at y1
          rw [hz1, hW1, ← add_f] at hrun
          have HR := Lib.hid hrun
          have HX4 := Lib.hid hX4
          have f1 := hX4.free 1
          clear hrun hW1 bW1 bS g4 b4 z4 o4 hX4
          go_wp2_with (at_builtin; refine wpList_app HR.out rfl rfl rfl rfl rfl ?_)
          go_roundw
          case rel =>
            refine ⟨k + 1, .slice ao n' cap, by omega, by go_num, by simpa using HX4.out.put 1 (.slice ao n' cap), ?_, hvq', B4.setCell (by have := HQ.out; simp only; omega) _⟩
            rw [limF_succ, HCK.out]
            exact hS4.set _ _ hvq'
          case measure => simp [intOf]; omega
        · cases bad with
          | false =>
            have hSk := HSi.out
            have hkK : k = K := by omega
            have hX5 : Has (wi) q 40 #[.string (str [75, cj]), v] := HXi.out
            have hS5 : SW (wi) wo.heap.size v (limF K) := by rw [← hkK]; exact hSk
            have B5 : Below wo.heap.size wo (wi) := bi
            obtain ⟨A, c, rfl, hst⟩ := hS5.shape
            have hlt5 := hS5.lt
            have hltK := HK.out.lt
            have x0 := hX5.cell 0
            have x1 := hX5.cell 1
            simp only [List.getElem?_toArray, List.getElem?_cons_zero, List.getElem?_cons_succ] at x0 x1
            have f0 := HXi.out.free 0
            have f1 := HXi.out.free 1
            have xx := HXi.out.cell 0
            have xy := HXi.out.cell 1
            simp at xx xy
            obtain ⟨v', w6, hrun, hK6, b6, _, _, _⟩ := (HK.out.below B5).app (by have := br.size; have := B5.size; omega) ([75, cj], limF K) A c hst (fun _ a ha e => by
              have h1 := (hltK _ e).2
              have h2 := (hlt5 a.block (by rw [ha]; rfl)).1
              omega) (by rw [limK_len]; omega)
            have HR := Lib.hid hrun
            clear hrun
            go_wp2_with (at_builtin; refine wpList_app HR.out rfl rfl rfl rfl rfl ?_)
            go_roundw
            case rel =>
              refine ⟨j + 1, by omega, by go_num, ?_, (br.trans (B5.mono br.size)).trans b6⟩
              rw [limK_succ]
              unfold limN
              rw [HCJ.out]
              exact hK6
            case measure => simp [intOf]; omega
          | true =>
            have hSk := HSi.out
            have hkK : k = K := by omega
            have hX5 : Has (wi.setCell ⟨q, 0, none⟩ (.string { data := #[57] })) q 40 #[.string (str [57]), v] := HXi.out.put 0 (.string (str [57]))
            have hS5 : SW (wi.setCell ⟨q, 0, none⟩ (.string { data := #[57] })) wo.heap.size v (limF K) := by rw [← hkK]; exact hSk.set ⟨q, 0, none⟩ _ hvq
            have B5 : Below wo.heap.size wo (wi.setCell ⟨q, 0, none⟩ (.string { data := #[57] })) := bi.setCell (p := ⟨q, 0, none⟩) (by have := HQ.out; simp only; omega) _
            obtain ⟨A, c, rfl, hst⟩ := hS5.shape
            have hlt5 := hS5.lt
            have hltK := HK.out.lt
            have x0 := hX5.cell 0
            have x1 := hX5.cell 1
            simp only [List.getElem?_toArray, List.getElem?_cons_zero, List.getElem?_cons_succ] at x0 x1
            have f0 := HXi.out.free 0
            have f1 := HXi.out.free 1
            have xx := HXi.out.cell 0
            have xy := HXi.out.cell 1
            simp at xx xy
            obtain ⟨v', w6, hrun, hK6, b6, _, _, _⟩ := (HK.out.below B5).app (by have := br.size; have := B5.size; omega) ([57], limF K) A c hst (fun _ a ha e => by
              have h1 := (hltK _ e).2
              have h2 := (hlt5 a.block (by rw [ha]; rfl)).1
              omega) (by rw [limK_len]; omega)
            rw [show (wi.setCell ⟨q, 0, none⟩ (.string { data := #[57] })).heap.size = wi.heap.size by simp] at hrun
            have HR := Lib.hid hrun
            clear hrun
            go_wp2_with (at_builtin; refine wpList_app HR.out rfl rfl rfl rfl rfl ?_)
            go_roundw
            case rel =>
              refine ⟨j + 1, by omega, by go_num, ?_, (br.trans (B5.mono br.size)).trans b6⟩
              rw [limK_succ]
              unfold limN
              rw [HCJ.out]
              exact hK6
            case measure => simp [intOf]; omega
    · have hjM : j = M := by omega
      have hKM := HK.out
      rw [hjM] at hKM
      obtain ⟨A, c, rfl, hKd⟩ := hKM.shape
      rw [limK_len] at *
      have hlr := lim_right bad hK1 hM1
      have hT2 := hT1.below br
      have hlen : ∀ k ∈ limK bad K M, k.1.length ≤ 9223372036854775807 ∧ ∀ f ∈ k.2, f.length ≤ 9223372036854775807 := by
        intro k hk
        simp only [limK, List.mem_map] at hk
        obtain ⟨i, _, rfl⟩ := hk
        refine ⟨by unfold limN; split <;> simp, fun f hf => ?_⟩
        simp only [limF, List.mem_map] at hf
        obtain ⟨i, _, rfl⟩ := hf
        simp
      have rc := right_any (limK bad K M) A c wo hKd hT2 hlen
      rw [limK_len, hlr] at rc
      clear hlr hlen hKd HK hKM
      subst hjM
      by_cases h1 : j < 1 ∨ 16 < j ∨ 8 < K
      · have e : limW bad K j = 4 := if_pos h1
        rw [e] at rc
        clear e
        rcases h1 with h1 | h1
        · go_wp2_with fail
          refine rc.mono ?_
          rintro e w2 ⟨rfl, b2⟩
          go_wp2_with fail
          go_ret
          exact ⟨rfl, bx.trans ((br.trans (b2.mono br.size)).mono bx.size)⟩
        · by_cases h0 : j < 1
          · go_wp2_with fail
            refine rc.mono ?_
            rintro e w2 ⟨rfl, b2⟩
            go_wp2_with fail
            go_ret
            exact ⟨rfl, bx.trans ((br.trans (b2.mono br.size)).mono bx.size)⟩
          · by_cases h16 : 16 < j
            · go_wp2_with fail
              refine rc.mono ?_
              rintro e w2 ⟨rfl, b2⟩
              go_wp2_with fail
              go_ret
              exact ⟨rfl, bx.trans ((br.trans (b2.mono br.size)).mono bx.size)⟩
            · have h8 : 8 < K := by omega
              go_wp2_with fail
              refine rc.mono ?_
              rintro e w2 ⟨rfl, b2⟩
              go_wp2_with fail
              go_ret
              exact ⟨rfl, bx.trans ((br.trans (b2.mono br.size)).mono bx.size)⟩
      · have e : limW bad K j = if bad then 5 else 0 := if_neg h1
        rw [e] at rc
        have h2 : ¬ j < 1 := by omega
        have h3 : ¬ 16 < j := by omega
        have h4 : ¬ 8 < K := by omega
        clear e h1
        cases bad with
        | true =>
          go_wp2_with fail
          refine rc.mono ?_
          rintro e w2 ⟨rfl, b2⟩
          go_wp2_with fail
          go_ret
          exact ⟨rfl, bx.trans ((br.trans (b2.mono br.size)).mono bx.size)⟩
        | false =>
          go_wp2_with fail
          refine rc.mono ?_
          rintro e w2 ⟨rfl, b2⟩
          go_wp2_with fail
          go_ret
          exact ⟨rfl, bx.trans ((br.trans (b2.mono br.size)).mono bx.size)⟩
end Go.Proofs.YtkoomphkbiifhaaDoor
