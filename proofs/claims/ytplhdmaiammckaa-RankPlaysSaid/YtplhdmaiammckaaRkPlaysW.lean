/- RankPlays: the walk. -/
import Derived.Test.YtplhdmaiammckaaRkTwo
import Derived.Test.YtplhdmaiammckaaRkDeeds
import Derived.Test.YtplhdmaiammckaaRkKnuth
import Derived.Test.YtplhdmaiammckaaRkOf
import Derived.Deep.CutRange
import Derived.Deep.CutBlock
import Derived.Deep.RegionHeld3
namespace Go.Proofs.Ytplhdmaiammckaa
open Go.RowKit
set_option linter.unusedVariables false

theorem Snd.calls {f : FuncId} {args : Array Value} {r : Value} {Q : World → Prop} {w : World} (h : Snd f args r Q w) : Calls Try.prog f args w fun e w' => e = .returned r ∧ Q w' := h
theorem Bo.mono {w0 w : World} {B g m h n n' : Nat} (b : Bo w0 B g m h n w) (hn : n ≤ n') : Bo w0 B g m h n' w := by
  obtain ⟨v, l, S, c, e⟩ := b
  exact ⟨v, l, S, c, by omega⟩
theorem Bo.later {w0 w w' : World} {B g m h n : Nat} (b : Bo w0 B g m h n w) (hb : Below w.heap.size w w') : Hid (Bo w0 B g m h n w') := by
  obtain ⟨v, l, S, c, e⟩ := b
  exact Lib.hid ⟨v, l, S, c.below hb, e⟩
theorem Sc.bo {w0 w : World} {B g m h n : Nat} {v : Value} {l : List Ent} {S : Int → Option Int} (c : Sc w0 w B g m h v l S) (hn : l.length ≤ n) : Bo w0 B g m h n w := ⟨v, l, S, c, hn⟩
theorem rem20 (a : Int) : I64 (a.tmod 20) := by
  have h1 := Int.tmod_lt_of_pos a (b := 20) (by omega)
  have h2 := Int.lt_tmod_of_pos a (b := 20) (by omega)
  unfold I64; omega
theorem rem5 (a : Int) : I64 (a.tmod 5) := by
  have h1 := Int.tmod_lt_of_pos a (b := 5) (by omega)
  have h2 := Int.lt_tmod_of_pos a (b := 5) (by omega)
  unfold I64; omega
set_option maxHeartbeats 20000000 in
set_option maxRecDepth 100000 in
theorem plays_walk (A : Option Addr) (c : Nat) (l : List Dd) (at_ st : Int) (near : Bool) (a b : Int) (w : World) (ha : I64 at_) (hs : I64 st) (ia : I64 a) (ib : I64 b) (hD : Deeds w A l) (hlc : l.length ≤ c) (hcm : c ≤ maxLen) :
    Calls Try.prog 3 #[.slice A l.length c, .int .i64 at_, .int .i64 st, .bool near, .int .i64 a, .int .i64 b] w fun e w' => e = .returned (.bool true) ∧ Below w.heap.size w w' := by
  have HD := Lib.hid hD
  clear hD
  obtain ⟨len, hlen⟩ : ∃ len, l.length = len := ⟨_, rfl⟩
  have HL := Lib.hid hlen
  rw [hlen] at hlc ⊢
  clear hlen
  unfold maxLen at hcm
  have HAT := Lib.hid ha
  have HST := Lib.hid hs
  have HIA := Lib.hid (And.intro ia ib)
  unfold I64 at ha hs ia ib
  go_enter Try.func3, Try.ntmps3
  go_wp2_with fail
  refine (ex_any w).mono ?_
  rintro e w1 ⟨rfl, b1⟩
  have B1 := Lib.hid b1
  clear b1
  go_wp2_with fail
  refine (new_rk w1).mono ?_
  rintro e w2 ⟨rfl, h2, b2⟩
  generalize w1.heap.size + 1 = g at *
  generalize hB : w1.heap.size = B at *
  have HB := Lib.hid (show w.heap.size ≤ B by rw [← hB]; exact B1.out.size)
  have bn : Below w2.heap.size w2 (w2.alloc (.cells #[.slice none 0 0] 29)) := (Below.refl _ _).alloc (Nat.le_refl _) _
  have hrf : Rf (w2.alloc (.cells #[.slice none 0 0] 29)) B w2.heap.size (.slice none 0 0) [] := ⟨heap_alloc_new w2 _, World.ownsRow_nil _ _ _ _, h2.bl, by simp [Value.ownBlock], by simp⟩
  have S0 : Hid (Bo w B g B w2.heap.size 0 (w2.alloc (.cells #[.slice none 0 0] 29))) := Lib.hid ⟨.slice none 0 0, [], fun _ => none, ⟨h2.fresh bn (Nat.le_refl _) (by simp), hrf, .nil, fun i hi => by simp at hi, B1.out.trans ((b2.mono HB.out).trans (bn.mono (by have := h2.bl; have := HB.out; omega))), HB.out⟩, Nat.le_refl _⟩
  clear h2 b2 bn hrf hB B1
  go_wp2_with fail
  generalize w2.alloc (.cells #[.slice none 0 0] 29) = w3 at *
  generalize w2.heap.size = h at *
  go_loopw [16] (fun i wr => ∃ k : Nat, k ≤ len ∧ k ≤ 60 ∧ i = .int .i64 k ∧ Hid (Bo w B g B h k wr)) (fun i _ => 60 - (intOf i).toNat)
  case atStart => exact ⟨0, by omega, by omega, rfl, S0⟩
  case round =>
    rename World => wr
    clear S0
    obtain ⟨k, hk, hk60, rfl, HP⟩ := hrel
    by_cases hlt : k < len ∧ k < 60
    · obtain ⟨hl1, hl2⟩ := hlt
      obtain ⟨v, ls, S, hsc, hn⟩ := HP.out
      have hkl : k < l.length := by rw [HL.out]; exact hl1
      obtain ⟨bb, off, rfl, hcs, hok⟩ := (HD.out.below hsc.bel) k l[k] (List.getElem?_eq_getElem hkl)
      generalize l[k] = d at *
      obtain ⟨dk, da, ds, dr⟩ := d
      have cd0 : wr.cell? ⟨bb, off + k * 4, none⟩ = some (.int .u8 dk) := hcs 0 (.int .u8 dk) rfl
      have cd1 : wr.cell? ⟨bb, off + k * 4 + 1, none⟩ = some (.int .u8 da) := hcs 1 (.int .u8 da) rfl
      have cd2 : wr.cell? ⟨bb, off + k * 4 + 2, none⟩ = some (.int .i64 ds) := hcs 2 (.int .i64 ds) rfl
      have cd3 : wr.cell? ⟨bb, off + k * 4 + 3, none⟩ = some (.int .i64 dr) := hcs 3 (.int .i64 dr) rfl
      obtain ⟨⟨k0, k1⟩, ⟨a0, a1⟩, ⟨s0, s1⟩, ⟨r0, r1⟩⟩ := hok
      dsimp only at k0 k1 a0 a1 s0 s1 r0 r1
      have hkli : (k : Int) < (len : Int) := by omega
      have hk6b : decide ((k : Int) < 60) = true := decide_eq_true (by omega)
      have hklb : decide (k < len) = true := decide_eq_true hl1
      have hls : ls.length ≤ 60 := by omega
      have HN := Lib.hid (And.intro hn hls)
      clear hn hls
      have HS := Lib.hid (hsc.below ((Below.refl _ _).alloc (Nat.le_refl _) (.cells #[.int .u8 dk, .int .u8 da, .int .i64 ds, .int .i64 dr] 31)))
      have HD1 : Hid (Has (wr.alloc (.cells #[.int .u8 dk, .int .u8 da, .int .i64 ds, .int .i64 dr] 31)) wr.heap.size 31 #[.int .u8 dk, .int .u8 da, .int .i64 ds, .int .i64 dr]) := Lib.hid (heap_alloc_new wr _)
      clear hcs hsc HP hkl HD
      go_upto_region 12 with fail
      clear cd0 cd1 cd2 cd3
      generalize wr.alloc (.cells #[.int .u8 dk, .int .u8 da, .int .i64 ds, .int .i64 dr] 31) = W1 at *
      generalize wr.heap.size = q0 at *
      have d0 : W1.cell? ⟨q0, 0, none⟩ = some (.int .u8 dk) := HD1.out.cell 0
      have d1 : W1.cell? ⟨q0, 1, none⟩ = some (.int .u8 da) := HD1.out.cell 1
      have d2 : W1.cell? ⟨q0, 2, none⟩ = some (.int .i64 ds) := HD1.out.cell 2
      have d3 : W1.cell? ⟨q0, 3, none⟩ = some (.int .i64 dr) := HD1.out.cell 3
      obtain ⟨x12, hx12⟩ : ∃ x : Nat, da % 12 = (x : Int) := ⟨(da % 12).toNat, by omega⟩
      have hx12b : x12 < 12 := by omega
      have tx12 : da.tmod 12 = (x12 : Int) := by rw [Int.tmod_eq_emod_of_nonneg a0]; exact hx12
      go_upto_if 65 with fail
      go_cut [18] (fun t wx => ∃ id : Int, Hid (I64 id) ∧ t = .int .i64 id ∧ wx = W1)
      case first =>
        by_cases h240 : 240 < da
        · have e1 : decide (240 < da) = true := decide_eq_true h240
          go_wp2_with fail
          go_meet
          exact ⟨_, Lib.hid (by unfold I64; omega), rfl, rfl⟩
        · have e1 : decide (240 < da) = false := decide_eq_false h240
          go_wp2_with fail
          go_meet
          exact ⟨_, Lib.hid (by unfold I64; omega), rfl, rfl⟩
      case rest =>
        obtain ⟨id, HI, rfl, rfl⟩ := hcut
        rename World => W1
        clear hx12 tx12 hx12b x12
        have idb := HI.out
        unfold I64 at idb
        go_upto_if 72 with fail
        obtain ⟨y5, hy5⟩ : ∃ y, ds.tmod 5 = y := ⟨_, rfl⟩
        have HY : Hid (I64 y5) := Lib.hid (by rw [← hy5]; exact rem5 ds)
        go_cut [19] (fun t wx => ∃ sc : Int, Hid (I64 sc) ∧ t = .int .i64 sc ∧ wx = W1)
        case first =>
          by_cases h60 : 60 < dk
          · have e1 : decide (60 < dk) = true := decide_eq_true h60
            go_wp2_with fail
            go_meet
            exact ⟨_, HY, rfl, rfl⟩
          · have e1 : decide (60 < dk) = false := decide_eq_false h60
            go_wp2_with fail
            go_meet
            exact ⟨_, Lib.hid (show I64 ds by unfold I64; omega), rfl, rfl⟩
        case rest =>
          obtain ⟨sc, HSC, rfl, rfl⟩ := hcut
          rename World => W1
          clear hy5 HY y5
          have scb := HSC.out
          unfold I64 at scb
          obtain ⟨t6, ht6⟩ : ∃ x : Nat, dk % 6 = (x : Int) := ⟨(dk % 6).toNat, by omega⟩
          have ht6b : t6 < 6 := by omega
          have tt6 : dk.tmod 6 = (t6 : Int) := by rw [Int.tmod_eq_emod_of_nonneg k0]; exact ht6
          go_upto_block 2 with fail
          clear ht6 tt6 d0 d1 d2 d3 HD1
          go_cut [20] (fun t wx => t = .bool true ∧ Hid (Bo w B g B h (k + 1) wx))
          case first => as_aux_lemma =>
            have hcs : (t6 = 0 ∨ t6 = 1 ∨ t6 = 5) ∨ t6 = 2 ∨ t6 = 3 ∨ t6 = 4 := by omega
            clear ht6b
            rcases hcs with (rfl | rfl | rfl) | rfl | rfl | rfl
            iterate 3
              · -- Put
                go_wp2_with fail
                refine (put_both HS.out id sc HI.out HSC.out (by have := HN.out.2; omega)).mono ?_
                rintro e w4 ⟨bo, rfl, hsnd⟩
                have HSN := Lib.hid hsnd
                have hbb : (bo == bo) = true := by simp
                clear hsnd
                go_wp2_with fail
                refine HSN.out.calls.mono ?_
                rintro e w5 ⟨rfl, hbo⟩
                have HBO := Lib.hid (hbo.mono (show ls.length + 1 ≤ k + 1 by have := HN.out.1; omega))
                clear hbo HSN
                go_wp2_with fail
                go_meet
                exact ⟨rfl, HBO⟩
            · -- Drop
              go_wp2_with fail
              refine (drop_both HS.out id HI.out).mono ?_
              rintro e w4 ⟨bo, rfl, hsnd⟩
              have HSN := Lib.hid hsnd
              have hbb : (bo == bo) = true := by simp
              clear hsnd
              go_wp2_with fail
              refine HSN.out.calls.mono ?_
              rintro e w5 ⟨rfl, hbo⟩
              have HBO := Lib.hid (hbo.mono (show ls.length + 1 ≤ k + 1 by have := HN.out.1; omega))
              clear hbo HSN
              go_wp2_with fail
              go_meet
              exact ⟨rfl, HBO⟩
            · -- Least, dropped
              go_wp2_with fail
              refine (least_both HS.out).mono ?_
              rintro e w4 ⟨x, m1, bo, hx, hm, rfl, hsnd⟩
              have HSN := Lib.hid hsnd
              have HX := Lib.hid hx
              have hbb : (bo == bo) = true := by simp
              have hxx : (x == x) = true := by simp
              have hmm : (m1 == m1) = true := by simp
              clear hsnd hm hx HS
              cases bo with
              | true =>
                go_wp2_with fail
                refine HSN.out.calls.mono ?_
                rintro e w5 ⟨rfl, hsc⟩
                have HS := Lib.hid hsc
                clear hsc HSN
                go_wp2_with fail
                refine (drop_both HS.out x HX.out).mono ?_
                rintro e w6 ⟨bo, rfl, hsnd⟩
                have HSN := Lib.hid hsnd
                clear hsnd
                go_wp2_with fail
                refine HSN.out.calls.mono ?_
                rintro e w7 ⟨rfl, hbo⟩
                have HBO := Lib.hid (hbo.mono (show ls.length + 1 ≤ k + 1 by have := HN.out.1; omega))
                clear hbo HSN
                go_wp2_with fail
                go_meet
                exact ⟨rfl, HBO⟩
              | false =>
                go_wp2_with fail
                refine HSN.out.calls.mono ?_
                rintro e w5 ⟨rfl, hsc⟩
                have HBO := Lib.hid (hsc.bo (n := k + 1) (by have := HN.out.1; omega))
                clear hsc HSN
                go_wp2_with fail
                go_meet
                exact ⟨rfl, HBO⟩
            · -- Score
              go_wp2_with fail
              refine (score_both HS.out id HI.out).mono ?_
              rintro e w4 ⟨m1, bo, rfl, hsnd⟩
              have HSN := Lib.hid hsnd
              have hbb : (bo == bo) = true := by simp
              have hmm : (m1 == m1) = true := by simp
              clear hsnd
              go_wp2_with fail
              refine HSN.out.calls.mono ?_
              rintro e w5 ⟨rfl, hbo⟩
              have HBO := Lib.hid (hbo.mono (show ls.length + 1 ≤ k + 1 by have := HN.out.1; omega))
              clear hbo HSN
              go_wp2_with fail
              go_meet
              exact ⟨rfl, HBO⟩
          case rest => as_aux_lemma =>
            obtain ⟨rfl, HBO⟩ := hcut
            rename World => W2
            clear HS HN ht6b
            obtain ⟨v, ls, S, hsc, hn⟩ := HBO.out
            have HS := Lib.hid hsc
            have HN := Lib.hid hn
            clear hsc hn HBO
            go_wp2_with fail
            refine (least_both HS.out).mono ?_
            rintro e w4 ⟨x, m1, bo, hx, hm, rfl, hsnd⟩
            have HSN := Lib.hid hsnd
            clear hsnd hx hm HS
            go_wp2_with fail
            refine HSN.out.calls.mono ?_
            rintro e w5 ⟨rfl, hsc⟩
            obtain ⟨A2, c2, rfl, hc1, hc2⟩ := own_any hsc.rf.row
            have c0 : w5.cell? ⟨h, 0, none⟩ = some (.slice A2 ls.length c2) := hsc.rf.blk.cell 0
            have C1 : Hid (∀ n, Calls Try.prog 18 #[.pointer (some ⟨g, 0, none⟩)] (w5.drewN n) fun e w' => e = .returned (.int .i64 ls.length) ∧ w5.drewN n = w') := Lib.hid (fun n => rlen_any (hsc.below (below_drewN (Below.refl _ _) n)).rk)
            have HBO := Lib.hid (hsc.bo HN.out)
            have n0 : ((ls.length : Int) != (ls.length : Int)) = false := by simp
            have n1 : (x != x) = false := by simp
            have n2 : (m1 != m1) = false := by simp
            have n3 : (bo != bo) = false := by simp
            clear hsc HSN hc1 hc2
            generalize ls.length = n9 at *
            go_wp2_with fail
            go_quiet (first | (go_at_call 18; exact Calls.quiet_of_same ((C1.out _).mono fun _ _ h => ⟨h.1, h.2.symm⟩)))
            go_wp2_with fail
            go_roundw
            case rel => exact ⟨k + 1, by omega, by omega, by go_num, HBO.out.later (below_drewN (Below.refl _ _) _)⟩
            case measure => simp [intOf]; omega
    · have hex : decide (k < len) = false ∨ (decide (k < len) = true ∧ decide ((k : Int) < 60) = false) := by
        by_cases h : k < len
        · exact .inr ⟨by simpa using h, by simp; omega⟩
        · exact .inl (by simpa using h)
      clear hlt
      have BE : Hid (Below w.heap.size w wr) := Lib.hid (by obtain ⟨v, ls, S, hsc, hn⟩ := HP.out; exact hsc.bel)
      clear HP HD HL
      rcases hex with x1 | ⟨x1, x2⟩
      all_goals
        as_aux_lemma =>
          go_upto_if 195 with fail
          go_cut [1, 2] (fun t u wx => ∃ p q : Int, Hid (I64 p) ∧ Hid (I64 q) ∧ t = .int .i64 p ∧ u = .int .i64 q ∧ wx = wr)
          case first =>
            cases near with
            | true =>
              obtain ⟨y1, hy1⟩ : ∃ y, at_.tmod 20 = y := ⟨_, rfl⟩
              have HY1 : Hid (I64 y1) := Lib.hid (by rw [← hy1]; exact rem20 at_)
              obtain ⟨y2, hy2⟩ : ∃ y, st.tmod 20 = y := ⟨_, rfl⟩
              have HY2 : Hid (I64 y2) := Lib.hid (by rw [← hy2]; exact rem20 st)
              go_wp2_with fail
              go_meet
              exact ⟨_, _, HY1, HY2, rfl, rfl, rfl⟩
            | false =>
              go_wp2_with fail
              go_meet
              exact ⟨_, _, HAT, HST, rfl, rfl, rfl⟩
          case rest =>
            obtain ⟨p, q, HP, HQ, rfl, rfl, rfl⟩ := hcut
            rename World => wr
            have hp := HP.out
            have hq := HQ.out
            unfold I64 at hp hq
            obtain ⟨sv, hsv⟩ : ∃ x, scF p q = x := ⟨_, rfl⟩
            obtain ⟨bv, hbv⟩ : ∃ x, ltB (p, a) (q, b) = x := ⟨_, rfl⟩
            have e1 : (sv == sv) = true := by simp
            have e2 : (bv == bv) = true := by simp
            have X1 := Lib.hid (score_all p q wr HP.out HQ.out)
            have X2 := Lib.hid (fun u : World => of_all p q u HP.out HQ.out)
            have X3 := Lib.hid (fun u : World => before_any a b p q u)
            have X4 := Lib.hid (fun u : World => before18 a b p q u)
            rw [hsv] at X1
            simp only [hsv] at X2
            simp only [hbv] at X3 X4
            clear hsv hbv
            go_wp2_with fail
            refine X1.out.mono ?_
            rintro e w4 ⟨rfl, b4⟩
            have B4 := Lib.hid (BE.out.trans (b4.mono BE.out.size))
            clear b4
            go_wp2_with fail
            refine (X2.out _).mono ?_
            rintro e w5 ⟨rfl, rfl⟩
            go_wp2_with fail
            refine (X3.out _).mono ?_
            rintro e w6 ⟨rfl, rfl⟩
            go_wp2_with fail
            refine (X4.out _).mono ?_
            rintro e w7 ⟨rfl, rfl⟩
            go_wp2
            go_ret
            exact ⟨rfl, B4.out⟩
end Go.Proofs.Ytplhdmaiammckaa
