/- What the document's own Put and Size of chapter 5 return for any event, what Same and ref do. -/
import Derived.Test.YtglhebpblncjaaaDoorQWp
import Derived.BigQuiet
namespace Go.Proofs.YtglhebpblncjaaaDoor
open Go.RowKit
set_option linter.unusedVariables false

set_option maxHeartbeats 1600000 in
theorem rput_no (K T : Int) (A : Option Addr) (n c : Nat) (w : World) (hm : n ≤ maxLen) (h : 8 < n ∨ K < 0 ∨ 255 < K) :
    Calls Tryd.prog 34 #[ev K T A n c] w fun e w' => e = .returned (.tuple #[.string (str []), .bool false]) ∧ Below w.heap.size w w' := by
  unfold ev
  unfold maxLen at hm
  have HB := Lib.hid ((Below.refl w.heap.size w).alloc (Nat.le_refl _) (.cells #[.int .i64 K, .int .i64 T, .slice A n c] 42))
  by_cases h1 : K < 0
  · clear h
    go_enter Tryd.func34, Tryd.ntmps34
    go_wp2
    go_ret2
    exact ⟨rfl, HB.out⟩
  · have d1 : decide (K < 0) = false := by simpa using h1
    by_cases h2 : 255 < K
    · have d2 : decide (255 < K) = true := by simpa using h2
      clear h
      go_enter Tryd.func34, Tryd.ntmps34
      go_wp2
      go_ret2
      exact ⟨rfl, HB.out⟩
    · have d2 : decide (255 < K) = false := by simpa using h2
      have d3 : decide (8 < (n : Int)) = true := by simp; omega
      clear h
      go_enter Tryd.func34, Tryd.ntmps34
      go_wp2
      go_ret2
      exact ⟨rfl, HB.out⟩
theorem rput_any (K T : Int) (A : Option Addr) (n c : Nat) (l : List Int) (w : World) (hl : l.length = n) (hm : n ≤ maxLen) (hr : Lies w A (ints l)) :
    Calls Tryd.prog 34 #[ev K T A n c] w fun e w' => e = .returned (.tuple #[.string (str (wput K T l)), .bool (wok K l)]) ∧ Below w.heap.size w w' := by
  rcases wok_cases K l with ⟨hk, k, rfl, hk1, h8⟩ | ⟨hk, h⟩
  · rw [wput_yes hk, hk, hl]
    exact rput_yes k T A n c l w hk1 (by omega) hl hr
  · rw [wput_no hk, hk]
    exact rput_no K T A n c w hm (by omega)
set_option maxHeartbeats 1600000 in
theorem rsame_any (K T K' T' : Int) (A B : Option Addr) (n c m d : Nat) (l r : List Int) (w : World) (hl : l.length = n) (hr : r.length = m) (hn : n ≤ maxLen) (hm : m ≤ maxLen) (h1 : Lies w A (ints l)) (h2 : Lies w B (ints r)) :
    Calls Tryd.prog 20 #[ev K T A n c, ev K' T' B m d] w fun e w' => e = .returned (.bool (sameE K T l K' T' r)) ∧ Below w.heap.size w w' := by
  have T0 := two_new w #[.int .i64 K, .int .i64 T, .slice A n c] #[.int .i64 K', .int .i64 T', .slice B m d] 42 42
  have HB := Lib.hid T0.2.2
  have X0 := Lib.hid T0.1
  have Y0 := Lib.hid T0.2.1
  have H1 := Lib.hid (h1.below T0.2.2)
  have H2 := Lib.hid (h2.below T0.2.2)
  clear T0 h1 h2
  unfold maxLen at hn hm
  unfold ev
  by_cases hK : K = K'
  · by_cases hT : T = T'
    · by_cases hnm : n = m
      · subst hK
        subst hT
        subst hnm
        have HL := Lib.hid hl
        have HR := Lib.hid hr
        clear hl hr hm
        have HN : Hid (sameE K T l K T r = decide (l = r)) := Lib.hid (by unfold sameE; simp)
        have d1 : (K != K) = false := by simp
        have d2 : (T != T) = false := by simp
        have d3 : ((n : Int) != (n : Int)) = false := by simp
        go_enter Tryd.func20, Tryd.ntmps20
        go_wp2_with fail
        generalize (w.alloc (.cells #[.int .i64 K, .int .i64 T, .slice A n c] 42)).alloc (.cells #[.int .i64 K, .int .i64 T, .slice B n d] 42) = W at *
        go_loopw [5] (fun i wr => ∃ k : Nat, k ≤ n ∧ i = .int .i64 k ∧ l.take k = r.take k ∧ Below W.heap.size W wr) (fun i _ => n - (intOf i).toNat)
        case atStart => exact ⟨0, by omega, rfl, rfl, Below.refl _ _⟩
        case round =>
          obtain ⟨k, hk, rfl, ht, hb⟩ := hrel
          have HT := Lib.hid ht
          have HBW := Lib.hid hb
          have x2 := (X0.out.next hb).three.2.2
          have y2 := (Y0.out.next hb).three.2.2
          clear ht hb
          by_cases hlt : k < n
          · have hkl : k < l.length := by rw [HL.out]; exact hlt
            have hkr : k < r.length := by rw [HR.out]; exact hlt
            obtain ⟨b, off, rfl, hc⟩ := (H1.out.below HBW.out).at_ (ints_get hkl)
            obtain ⟨b2, off2, rfl, hc2⟩ := (H2.out.below HBW.out).at_ (ints_get hkr)
            by_cases hxy : l.getD k 0 = r.getD k 0
            · have HNX := Lib.hid (take_eq_succ HT.out hkl hkr hxy)
              rw [hxy] at hc
              clear hxy hkl hkr
              generalize r.getD k 0 = x at *
              have hdx : (x != x) = false := by simp
              go_wp2_with fail
              go_quiet (fail)
              go_wp2
              go_roundw
              case rel => exact ⟨k + 1, by omega, by go_num, HNX.out, below_drewN HBW.out _⟩
              case measure => simp [intOf]; omega
            · have HNX : Hid (decide (l = r) = false) := Lib.hid (decide_eq_false fun e => hxy (by rw [e]))
              have hdx : (l.getD k 0 != r.getD k 0) = true := by simpa using hxy
              clear hxy hkl hkr
              generalize r.getD k 0 = x at *
              generalize l.getD k 0 = y at *
              go_wp2_with fail
              go_quiet (fail)
              go_wp2
              go_ret
              exact ⟨by rw [HN.out, HNX.out]; rfl, Below.step HB.out (below_drewN HBW.out _) (Nat.le_refl _)⟩
          · obtain rfl : k = n := by omega
            have HNX : Hid (decide (l = r) = true) := Lib.hid (decide_eq_true (by
              have := HT.out
              rw [List.take_of_length_le (by rw [HL.out]; exact Nat.le_refl _), List.take_of_length_le (by rw [HR.out]; exact Nat.le_refl _)] at this
              exact this))
            have d4 : decide ((k : Int) < (k : Int)) = false := by simp
            go_wp2
            go_ret
            exact ⟨by rw [HN.out, HNX.out]; rfl, Below.step HB.out HBW.out (Nat.le_refl _)⟩
      · have HN : Hid (sameE K T l K' T' r = false) := Lib.hid (decide_eq_false fun h => hnm (by rw [← hl, ← hr, h.2.2]))
        have d1 : (K != K') = false := by simpa using hK
        have d2 : (T != T') = false := by simpa using hT
        have d3 : ((n : Int) != (m : Int)) = true := by simp; omega
        clear hK hT hnm hl hr
        go_enter Tryd.func20, Tryd.ntmps20
        go_wp2
        go_ret
        exact ⟨by rw [HN.out]; rfl, HB.out⟩
    · have HN : Hid (sameE K T l K' T' r = false) := Lib.hid (decide_eq_false fun h => hT h.2.1)
      have d1 : (K != K') = false := by simpa using hK
      have d2 : (T != T') = true := by simpa using hT
      clear hK hT hl hr
      go_enter Tryd.func20, Tryd.ntmps20
      go_wp2
      go_ret
      exact ⟨by rw [HN.out]; rfl, HB.out⟩
  · have HN : Hid (sameE K T l K' T' r = false) := Lib.hid (decide_eq_false fun h => hK h.1)
    have d1 : (K != K') = true := by simpa using hK
    clear hK hl hr
    go_enter Tryd.func20, Tryd.ntmps20
    go_wp2
    go_ret
    exact ⟨by rw [HN.out]; rfl, HB.out⟩
end Go.Proofs.YtglhebpblncjaaaDoor
/- What the document's own Fits of chapter 5 returns: the same function as the program's. -/
namespace Go.Proofs.YtglhebpblncjaaaDoor
open Go.RowKit
set_option linter.unusedVariables false

end Go.Proofs.YtglhebpblncjaaaDoor
/- What the document's own Get of chapter 5 returns: the same function as the program's. -/
namespace Go.Proofs.YtglhebpblncjaaaDoor
open Go.RowKit
set_option linter.unusedVariables false

theorem Has.grew {w w' : World} {q : Nat} {t : TypeId} {cs : Array Value} {row : Option Nat} (h : Has w q t cs) (hg : w.grownBy w' row) (hne : row ≠ some q) : Has w' q t cs :=
  (hg.block q h.lt (fun e => hne e.symm)).trans h
theorem app_i64 (w : World) (base : Nat) (v : Value) (n : Nat) (xs ys : List Int) (hown : w.ownsRow base 2 1 v n (ints xs)) (A : Option Addr) (m c : Nat) (hl : ys.length = m) (hlies : Lies w A (ints ys)) (hnil : A = none → c = 0)
    (hsmall : n + m ≤ 100000) (hbase : base ≤ w.heap.size) :
    ∃ v' w', (Builtin.append_ #[33, 33] 33 #[v, .slice A m c]).run Tryd.prog w = .ok v' w' ∧ w'.ownsRow base 2 1 v' (n + m) (ints (xs ++ ys)) ∧ w.grownBy w' v.ownBlock ∧ (v'.ownBlock = v.ownBlock ∨ v'.ownBlock = some w.heap.size) := by
  obtain ⟨i0, hi, hz0, hz1, hz2⟩ := info_parts info_i64
  obtain ⟨v', w', h1, h2, h3, h4⟩ := run_app (P := Tryd.prog) w base 33 33 2 i0 (.int .i64 0) 8 Tryd.underlying33 hi hz0 hz1 hz2 rfl v n (ints xs) hown A m c (ints ys) (by simpa using hl) hlies hnil (ints_one ys) (by unfold maxLen; omega) (by omega) hbase
  exact ⟨v', w', h1, by simpa [ints] using h2, h3, h4⟩
theorem at_byte (s : ByteArray) (i : Nat) (h : i < s.size) : (s[i].toNat : Int) = (byteAt s.data.toList i : Nat) := by
  unfold byteAt
  have hl : i < s.data.toList.length := by simpa using h
  rw [List.getD_eq_getElem?_getD, List.getElem?_eq_getElem hl]
  rfl
theorem gvs_take {l : List UInt8} {k : Nat} (h : k < byteAt l 1) : (gvs l).take (k + 1) = (gvs l).take k ++ [intAt l (10 + 8 * k)] := by
  have hl : k < (gvs l).length := by rw [gvs_length]; exact h
  rw [List.take_succ_eq_append_getElem hl]
  have := gvs_get l h
  rw [List.getD_eq_getElem?_getD, List.getElem?_eq_getElem hl, Option.getD_some] at this
  rw [this]

/-- What the document's Get leaves. -/
def RFaceP (l : List UInt8) (w : World) (e : Ending) (w' : World) : Prop :=
  ∃ A c, e = .returned (.tuple #[ev (gK l) (gT l) A (gV l).length c, .int .i64 (gE l)]) ∧ Below w.heap.size w w' ∧ Lies w' A (ints (gV l))
def RFaceN (l : List UInt8) (w : World) (e : Ending) (w' : World) : Prop :=
  ∃ A c, e = .returned (.tuple #[ev (gK l) (gT l) A (gV l).length c, .int .i64 (gE l)]) ∧ Below w.heap.size w w' ∧ Lies w' A (ints (gV l)) ∧ (∀ x : Addr, A = some x → w.heap.size ≤ x.block) ∧ (gV l).length ≤ c ∧ c ≤ maxLen
set_option maxRecDepth 100000 in
set_option maxHeartbeats 4000000 in
theorem rget_new (s : ByteArray) (l : List UInt8) (w : World) (hl : s.data.toList = l) (hs : s.size ≤ 4611686018427387904) :
    Calls Tryd.prog 42 #[.string s] w (RFaceN l w) := by
  have hlen : l.length = s.size := by rw [← hl]; simp
  have X0 := Lib.hid (has_new w #[.int .i64 0, .int .i64 0, .slice none 0 0] 42)
  have XB := Lib.hid ((Below.refl w.heap.size w).alloc (Nat.le_refl _) (.cells #[.int .i64 0, .int .i64 0, .slice none 0 0] 42))
  have HL := Lib.hid hl
  clear hl
  by_cases h10 : s.size < 10
  · have HG : Hid (gok l = false) := Lib.hid (gok_no (by omega))
    have d1 : decide ((s.size : Int) < 10) = true := by simp; omega
    go_enter Tryd.func42, Tryd.ntmps42
    go_wp2
    refine bodyPost_ret (v := .tuple #[.agg #[.int .i64 0, .int .i64 0, .slice none 0 0], .int .i64 7]) (by simp [results, Tryd.results42, go_sem]) rfl ?_
    exact ⟨none, 0, by simp [gK, gT, gV, gE, HG.out, ev], XB.out, (fun i u hu => by simp [gV, HG.out] at hu), (fun x hx => by cases hx), by simp [gV, HG.out], Nat.zero_le _⟩
  · have h1 : 1 < s.size := by omega
    have hb1 := at_byte s 1 h1
    rw [HL.out] at hb1
    have hb0 := at_byte s 0 (by omega)
    rw [HL.out] at hb0
    have hn2 := byteAt_lt l 1
    have hn0 := byteAt_lt l 0
    obtain ⟨n, hn⟩ : ∃ n, byteAt l 1 = n := ⟨_, rfl⟩
    have HN := Lib.hid hn
    rw [hn] at hb1 hn2
    clear hn
    have d1 : decide ((s.size : Int) < 10) = false := by simp; omega
    by_cases h8 : 8 < n
    · have HG : Hid (gok l = false) := Lib.hid (gok_no (by rw [HN.out]; omega))
      have d2 : decide (8 < (n : Int)) = true := by simp; omega
      go_enter Tryd.func42, Tryd.ntmps42
      go_wp2
      refine bodyPost_ret (v := .tuple #[.agg #[.int .i64 0, .int .i64 0, .slice none 0 0], .int .i64 7]) (by simp [results, Tryd.results42, go_sem]) rfl ?_
      exact ⟨none, 0, by simp [gK, gT, gV, gE, HG.out, ev], XB.out, (fun i u hu => by simp [gV, HG.out] at hu), (fun x hx => by cases hx), by simp [gV, HG.out], Nat.zero_le _⟩
    · have d2 : decide (8 < (n : Int)) = false := by simp; omega
      by_cases hsz : s.size = 10 + 8 * n
      · have d3 : ((s.size : Int) != 10 + 8 * (n : Int)) = false := by rw [hsz]; simp
        have HG : Hid (gok l = true) := Lib.hid (gok_yes (by rw [HN.out]; omega) (by rw [HN.out]; omega))
        have HSZ := Lib.hid hsz
        have hszl : 10 + 8 * n ≤ s.size := by omega
        clear hsz
        have HLN : Hid ((gvs l).length = n) := Lib.hid ((gvs_length l).trans HN.out)
        go_enter Tryd.func42, Tryd.ntmps42
        go_wp2_with fail
        have E1 := Lib.hid (has_new (w.alloc (.cells #[.int .i64 0, .int .i64 0, .slice none 0 0] 42)) #[.int .i64 (byteAt l 0 : Nat), .int .i64 0, .slice none 0 0] 42)
        have X1 := Lib.hid (X0.out.alloc (.cells #[.int .i64 (byteAt l 0 : Nat), .int .i64 0, .slice none 0 0] 42))
        have B1 := Lib.hid (XB.out.alloc XB.out.size (.cells #[.int .i64 (byteAt l 0 : Nat), .int .i64 0, .slice none 0 0] 42))
        rw [show (w.alloc (.cells #[.int .i64 0, .int .i64 0, .slice none 0 0] 42)).heap.size = w.heap.size + 1 by simp] at E1
        clear X0 XB
        generalize (w.alloc (.cells #[.int .i64 0, .int .i64 0, .slice none 0 0] 42)).alloc (.cells #[.int .i64 (byteAt l 0 : Nat), .int .i64 0, .slice none 0 0] 42) = w1 at *
        refine (refgetint_any s 2 w1 hs).mono ?_
        rw [HL.out, show wrap64 (getv l 2 8 : Nat) = intAt l 2 from getv_int (i := 2) (by omega)]
        rintro e w' ⟨rfl, rfl⟩
        have c1 := E1.out.three.2.1
        have f1 := E1.out.free 1
        go_wp2_with fail
        clear c1 f1
        have E2 := Lib.hid (E1.out.put 1 (.int .i64 (intAt l 2)))
        have X2 := Lib.hid (X1.out.set_other ⟨w.heap.size + 1, 1, none⟩ (.int .i64 (intAt l 2)) (by simp))
        have B2 := Lib.hid (B1.out.setCell (p := ⟨w.heap.size + 1, 1, none⟩) (by simp) (.int .i64 (intAt l 2)))
        clear E1 X1 B1
        generalize w1.setCell ⟨w.heap.size + 1, 1, none⟩ (.int .i64 (intAt l 2)) = w2 at *
        have hqb : w.heap.size + 1 < w2.heap.size := E2.out.lt
        obtain ⟨q, hq⟩ : ∃ q, q = w.heap.size + 1 := ⟨_, rfl⟩
        rw [← hq] at E2 hqb ⊢
        have hqw : w.heap.size < q := by omega
        clear hq
        go_loopw [5] (fun i wr => ∃ (k : Nat) (A : Option Addr) (cp : Nat), k ≤ n ∧ i = .int .i64 k ∧ Has wr q 42 #[.int .i64 (byteAt l 0 : Nat), .int .i64 (intAt l 2), .slice A k cp] ∧ Has wr w.heap.size 42 #[.int .i64 0, .int .i64 0, .slice none 0 0] ∧ wr.ownsRow w2.heap.size 2 1 (.slice A k cp) k (ints ((gvs l).take k)) ∧ w2.heap.size ≤ wr.heap.size ∧ Below w.heap.size w wr) (fun i _ => n - (intOf i).toNat)
        case atStart => exact ⟨0, none, 0, by omega, rfl, E2.out, X2.out, by simpa [ints] using World.ownsRow_nil w2 w2.heap.size 2 1, Nat.le_refl _, B2.out⟩
        case round =>
          obtain ⟨k, A, cp, hk, rfl, he, hx, hown, hbs, hb⟩ := hrel
          clear E2 X2 B2
          by_cases hlt : k < n
          · have hz : IntKind.i64.wrap (10 + IntKind.i64.wrap (8 * (k : Int))) = ((10 + 8 * k : Nat) : Int) := by rw [IntWalk.i64_in (8 * (k : Int)) (by omega), IntWalk.i64_in _ (by omega)]; omega
            have hkb : k < byteAt l 1 := by rw [HN.out]; exact hlt
            have HTK := Lib.hid (gvs_take hkb)
            have HIV : Hid (wrap64 (getv l (10 + 8 * k : Nat) 8 : Nat) = intAt l (10 + 8 * k)) := Lib.hid (getv_int (i := 10 + 8 * k) (by omega))
            obtain ⟨x, hx9⟩ : ∃ x, intAt l (10 + 8 * k) = x := ⟨_, rfl⟩
            rw [hx9] at HTK HIV
            clear hx9 hkb
            obtain ⟨v', w', hrun, hown', hgrow, hat⟩ := app_i64 (wr.alloc (.cells #[.int .i64 x] 2)) w2.heap.size _ k ((gvs l).take k) [x] (hown.alloc _) (some ⟨wr.heap.size, 0, none⟩) 1 1 rfl (Lies.one _ _ _) (fun h => by cases h) (by omega) (by simp; omega)
            obtain ⟨A', c', ev', hA', hc1', hc2', hc3'⟩ := own_shape hown'
            subst ev'
            have hl1 := hown.lt
            have hne1 : (Value.slice A k cp).ownBlock ≠ some q := fun e => by have := (hl1 _ e).1; omega
            have hne2 : (Value.slice A k cp).ownBlock ≠ some w.heap.size := fun e => by have := (hl1 _ e).1; omega
            have HE := Lib.hid ((((he.alloc (.cells #[.int .i64 x] 2)).grew hgrow hne1)).put 2 (.slice A' (k + 1) c'))
            have HXX := Lib.hid (((hx.alloc (.cells #[.int .i64 x] 2)).grew hgrow hne2).set_other ⟨q, 2, none⟩ (.slice A' (k + 1) c') (by simp; omega))
            have HOW := Lib.hid (ownsRow_setCell_below hown' (a := ⟨q, 2, none⟩) hqb (.slice A' (k + 1) c'))
            have HBW := Lib.hid (((hb.alloc hb.size (.cells #[.int .i64 x] 2)).grown hgrow (by have := hb.size; simp; omega) (fun g hg => by have := (hl1 g hg).1; omega)).setCell (p := ⟨q, 2, none⟩) (by simp; omega) (.slice A' (k + 1) c'))
            have HSW : Hid (w2.heap.size ≤ (w'.setCell ⟨q, 2, none⟩ (.slice A' (k + 1) c')).heap.size) := Lib.hid (by have := hgrow.size; simp [World.setCell] at this ⊢; omega)
            have c2 := he.three.2.2
            have c2' : (wr.alloc (.cells #[.int .i64 x] 2)).cell? ⟨q, 2, none⟩ = some (.slice A k cp) := (World.cell?_alloc_lt _ _ _ (World.block_lt_of_cell? _ _ c2)).trans c2
            have e2 := ((he.alloc (.cells #[.int .i64 x] 2)).grew hgrow hne1).three.2.2
            have f2 := ((he.alloc (.cells #[.int .i64 x] 2)).grew hgrow hne1).free 2
            have HR := Lib.hid hrun
            have d4 : decide ((k : Int) < (n : Int)) = true := by simp; omega
            clear he hx hown hb hown' hgrow hat hrun hl1 hne1 hne2 hA' hc1'
            go_wp2_with fail
            refine (refgetint_any s _ wr hs).mono ?_
            rw [HL.out]
            rintro e w9 ⟨rfl, rfl⟩
            have HIV2 : wrap64 (getv l (10 + 8 * (k : Int)) 8 : Nat) = x := by
              have := HIV.out
              rwa [show ((10 + 8 * k : Nat) : Int) = 10 + 8 * (k : Int) by omega] at this
            rw [HIV2]
            clear HIV2 HIV
            go_wp2_with (at_builtin; refine wpList_app HR.out rfl rfl rfl rfl rfl ?_)
            go_roundw
            case rel => exact ⟨k + 1, A', c', by omega, by go_num, HE.out, HXX.out, by rw [HTK.out]; exact HOW.out, HSW.out, HBW.out⟩
            case measure => simp [intOf]; omega
          · obtain rfl : k = n := by omega
            have HTK : Hid ((gvs l).take k = gvs l) := Lib.hid (List.take_of_length_le (by rw [HLN.out]; exact Nat.le_refl _))
            rw [HTK.out] at hown
            obtain ⟨A2, c2, ev2, hA2, hc12, hc22, hc32⟩ := own_shape hown
            cases ev2
            have hl1 := hown.lt
            have HE := Lib.hid he
            have HXX := Lib.hid hx
            have HOW := Lib.hid hown
            have HBW := Lib.hid hb
            obtain ⟨y0, y1, y2⟩ := he.three
            obtain ⟨z0, z1, z2⟩ := hx.three
            have f0 := hx.free 0
            have f1 := hx.free 1
            have f2 := hx.free 2
            have d4 : decide ((k : Int) < (k : Int)) = false := by simp
            clear he hx hown hb hA2
            go_wp2
            have R := ((HXX.out.put 0 (.int .i64 (byteAt l 0 : Nat))).put 1 (.int .i64 (intAt l 2))).put 2 (.slice A k cp)
            have hR0 := R.cell 0
            have hR1 := R.cell 1
            have hR2 := R.cell 2
            simp at hR0 hR1 hR2
            refine bodyPost_ret (v := .tuple #[.agg #[.int .i64 (byteAt l 0 : Nat), .int .i64 (intAt l 2), .slice A k cp], .int .i64 0]) (by simp [results, Tryd.results42, go_sem, hR0, hR1, hR2]) rfl ?_
            have hlie : Lies (((wr.setCell ⟨w.heap.size, 0, none⟩ (.int .i64 (byteAt l 0 : Nat))).setCell ⟨w.heap.size, 1, none⟩ (.int .i64 (intAt l 2))).setCell ⟨w.heap.size, 2, none⟩ (.slice A k cp)) A (ints (gvs l)) := by
              have o1 := ownsRow_setCell_below (ownsRow_setCell_below (ownsRow_setCell_below HOW.out (a := ⟨w.heap.size, 0, none⟩) (by simp; omega) (.int .i64 (byteAt l 0 : Nat))) (a := ⟨w.heap.size, 1, none⟩) (by simp; omega) (.int .i64 (intAt l 2))) (a := ⟨w.heap.size, 2, none⟩) (by simp; omega) (.slice A k cp)
              obtain ⟨A3, c3, ev3, hA3, _⟩ := own_shape o1
              cases ev3
              exact hA3
            refine ⟨A, cp, ?_, ((HBW.out.setCell (p := ⟨w.heap.size, 0, none⟩) (by simp) _).setCell (p := ⟨w.heap.size, 1, none⟩) (by simp) _).setCell (p := ⟨w.heap.size, 2, none⟩) (by simp) _, ?_, (fun x hx => by have := (hl1 x.block (by rw [hx]; rfl)).1; omega), by rw [gV, if_pos HG.out, HLN.out]; exact hc22, hc32⟩
            · have e1 : gK l = (byteAt l 0 : Nat) := by rw [gK, if_pos HG.out]
              have e2 : gT l = intAt l 2 := by rw [gT, if_pos HG.out]
              have e3 : gV l = gvs l := by rw [gV, if_pos HG.out]
              have e4 : gE l = 0 := by rw [gE, if_pos HG.out]
              rw [e1, e2, e3, e4, HLN.out]
              rfl
            · rw [gV, if_pos HG.out]
              exact hlie
      · have d3 : ((s.size : Int) != 10 + 8 * (n : Int)) = true := by simp; omega
        have HG : Hid (gok l = false) := Lib.hid (gok_no (by rw [HN.out]; omega))
        clear hsz
        go_enter Tryd.func42, Tryd.ntmps42
        go_wp2
        refine bodyPost_ret (v := .tuple #[.agg #[.int .i64 0, .int .i64 0, .slice none 0 0], .int .i64 7]) (by simp [results, Tryd.results42, go_sem]) rfl ?_
        exact ⟨none, 0, by simp [gK, gT, gV, gE, HG.out, ev], XB.out, (fun i u hu => by simp [gV, HG.out] at hu), (fun x hx => by cases hx), by simp [gV, HG.out], Nat.zero_le _⟩
theorem rget_any (s : ByteArray) (l : List UInt8) (w : World) (hl : s.data.toList = l) (hs : s.size ≤ 4611686018427387904) :
    Calls Tryd.prog 42 #[.string s] w (RFaceP l w) :=
  (rget_new s l w hl hs).mono fun e w' ⟨A, c, h1, h2, h3, _⟩ => ⟨A, c, h1, h2, h3⟩
end Go.Proofs.YtglhebpblncjaaaDoor
