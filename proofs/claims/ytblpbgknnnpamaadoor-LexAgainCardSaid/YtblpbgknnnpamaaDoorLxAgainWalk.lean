/- LexAgain: the walk. -/
import Derived.Test.YtblpbgknnnpamaaDoorLxCutsWalk
namespace Go.Proofs.YtblpbgknnnpamaaDoor
open Go.RowKit
set_option linter.unusedVariables false

theorem mid_word {S a T b : Nm} {P p en : Nat} (h : S.drop P = a ++ (T ++ b)) (hp : p = P + a.length) (he : p + T.length = en) : (str S).extract p en = str T := by
  rw [mid_str, List.drop_take, ← he, hp, ← List.drop_drop, h]
  rw [List.drop_left' rfl, show P + a.length + T.length - (P + a.length) = T.length by omega, List.take_left' rfl]
theorem mid_byte {S a r : Nm} {P q : Nat} (h : S.drop P = a ++ r) (ha : Sp a) (h1 : P ≤ q) (h2 : q < P + a.length) (hq : q < (str S).size) :
    ((str S)[q]'hq).toNat = 9 ∨ ((str S)[q]'hq).toNat = 10 ∨ ((str S)[q]'hq).toNat = 13 ∨ ((str S)[q]'hq).toNat = 32 := by
  rw [str_get]
  have hd : S.getD q 0 = a.getD (q - P) 0 := by
    have e : S.getD q 0 = (S.drop P).getD (q - P) 0 := by
      simp only [List.getD_eq_getElem?_getD, List.getElem?_drop]
      rw [show P + (q - P) = q by omega]
    rw [e, h]
    simp only [List.getD_eq_getElem?_getD]
    rw [List.getElem?_append_left (by omega)]
  rw [hd]
  have hm : a.getD (q - P) 0 ∈ a := by
    have : q - P < a.length := by omega
    simp [List.getD, this]
  have := ha _ hm
  generalize a.getD (q - P) 0 = x at this
  unfold spB at this
  simp only [decide_eq_true_eq] at this
  omega
set_option maxHeartbeats 8000000 in
set_option maxRecDepth 100000 in
theorem again_walk (xa : Option Addr) (xl xc : Nat) (xz : List Int) (tight : Bool) (w : World) (hx : IsRow .u8 w xa xl xc xz) (hxz : ∀ z ∈ xz, (Lit.int .u8 z).wf = true) (hT : Tabs w) :
    Calls Tryd.prog 3 #[.slice xa xl xc, .bool tight] w fun e w' => e = .returned (.bool true) ∧ Below w.heap.size w w' := by
  have HX := Lib.hid hxz
  clear hxz
  go_enter Tryd.func3, Tryd.ntmps3
  go_wp2_with fail
  refine (examples_any w hT).mono ?_
  rintro e w1 ⟨rfl, bx⟩
  go_wp2_with fail
  refine (words_any xa xl xc xz tight w1 (hx.below bx) HX.out).mono ?_
  rintro e w2 ⟨S, rfl, lS, b2⟩
  have B2 := bx.trans (b2.mono bx.size)
  have hT2 := hT.below B2
  have zS := str_size S
  clear b2 hx HX
  go_wp2_with fail
  refine (all_any S w2 (by omega) hT2).mono ?_
  intro e w3 hp
  cases hlx : lexA S with
  | bad p =>
    rw [hlx] at hp
    obtain ⟨rfl, b3⟩ := hp
    have hb := badA hlx
    clear hlx
    go_wp2_with fail
    go_ret
    exact ⟨rfl, B2.trans (b3.mono B2.size)⟩
  | good ts =>
    rw [hlx] at hp
    obtain ⟨⟨A, c, rfl, hk⟩, b3⟩ := hp
    have B3 := B2.trans (b3.mono B2.size)
    have hlx2 := soundA hlx
    obtain ⟨L, hL⟩ : ∃ L, ts.length = L := ⟨_, rfl⟩
    obtain ⟨lJ, lL⟩ := hlx2.joinS_len
    have lL : L ≤ 810 := by omega
    have lJ : (joinS ts).length ≤ 1620 := by omega
    have HLX := Lib.hid hlx2
    have HK := Lib.hid hk
    have HL := Lib.hid hL
    have HLJ := Lib.hid lJ
    rw [hL]
    clear hlx hlx2 hk b3 hL lJ
    go_wp2_with fail
    go_loopw [10, 11, 12] (fun t last i wr => ∃ (k P : Nat), k ≤ L ∧ i = .int .i64 k ∧ last = .int .i64 P ∧ t = .string (str (joinS (ts.take k))) ∧ P ≤ S.length ∧ Hid (Lx P (S.drop P) (ts.drop k)) ∧ Below w3.heap.size w3 wr) (fun _ _ i _ => L - (intOf i).toNat)
    case atStart => exact ⟨0, 0, Nat.zero_le _, rfl, rfl, rfl, Nat.zero_le _, by simpa using HLX, Below.refl _ _⟩
    case round =>
      obtain ⟨k, P, hkL, rfl, rfl, rfl, hPS, hlxk, hb⟩ := hrel
      have hJk : (joinS (ts.take k)).length ≤ 1620 := Nat.le_trans (joinS_take ts k) HLJ.out
      by_cases hlt : k < L
      · have hkt : k < ts.length := by rw [HL.out]; exact hlt
        obtain ⟨a, b, e1, sa, e2, l1, wd⟩ := hlxk.out.gap ts[k] (ts.drop (k + 1)) (List.drop_eq_getElem_cons hkt)
        have hsn : joinS (ts.take (k + 1)) = joinS (ts.take k) ++ (32 :: ts[k].t) := by
          rw [← joinS_snoc, List.take_append_getElem hkt]
        obtain ⟨bl, off, rfl, -, p1, -, p3⟩ := (HK.out.below hb).at_ k hkt
        have hTk := wd.ne
        have hps := (HLX.out.at_ k ts[k] (List.getElem?_eq_getElem hkt)).2.2.1
        obtain ⟨p, hp⟩ : ∃ p, ts[k].p = p := ⟨_, rfl⟩
        obtain ⟨T, hTT⟩ : ∃ T, ts[k].t = T := ⟨_, rfl⟩
        rw [hp] at e2 l1 p3 hps
        rw [hTT] at e1 l1 p1 hTk hsn hps
        have HP3 : Hid (∀ u, Below w3.heap.size w3 u → u.cell? ⟨bl, off + k * 4 + 3, none⟩ = some (.int .i64 (p : Int)) ∧ u.cell? ⟨bl, off + k * 4 + 1, none⟩ = some (.string (str T))) := Lib.hid (by
          intro u hu
          obtain ⟨bl', off', e', -, q1, -, q3⟩ := (HK.out.below hu).at_ k hkt
          cases e'
          rw [hp] at q3
          rw [hTT] at q1
          exact ⟨q3, q1⟩)
        have zT := str_size T
        obtain ⟨en, hen⟩ : ∃ en, p + T.length = en := ⟨_, rfl⟩
        have hen2 : (p : Int) + (T.length : Int) = (en : Int) := by omega
        rw [hen] at l1
        have henS : en ≤ S.length := by omega
        have hPp : P ≤ p := by omega
        have dE : decide (S.length < en) = false := by simp; omega
        have dP : decide (p < P) = false := by simp; omega
        have hpe : p ≤ en := by omega
        have X1 := mid_word e1 e2 hen
        have hbyte : ∀ (q : Nat) (h1 : P ≤ q) (h2 : q < p) (hq : q < (str S).size), ((str S)[q]'hq).toNat = 9 ∨ ((str S)[q]'hq).toNat = 10 ∨ ((str S)[q]'hq).toNat = 13 ∨ ((str S)[q]'hq).toNat = 32 := fun q h1 h2 hq => mid_byte e1 sa h1 (by omega) hq
        have hdr : S.drop en = b := by
          have e3 : en = P + (a.length + T.length) := by omega
          rw [e3, ← List.drop_drop, e1, ← List.append_assoc, List.drop_left' (by simp)]
        have HN : Hid (Lx en (S.drop en) (ts.drop (k + 1))) := Lib.hid (by rw [hdr]; exact l1)
        have HB := Lib.hid hbyte
        have s1 : (str T).toList.isEmpty = false := by rw [str_toList]; simpa using hTk
        have s2 : ((str T).toList = []) = False := by rw [str_toList]; simpa using hTk
        have n3 : ((str T).toList == (str T).toList) = true := by simp
        obtain ⟨J0, hJ0⟩ : ∃ J0, joinS (ts.take k) = J0 := ⟨_, rfl⟩
        obtain ⟨J2, hJ2⟩ : ∃ J2, joinS (ts.take (k + 1)) = J2 := ⟨_, rfl⟩
        rw [hJ0, hJ2] at hsn
        rw [hJ0] at hJk ⊢
        have HJ2 := Lib.hid hJ2
        obtain ⟨J1, hJ1, a1⟩ : ∃ J1, J0 ++ [32] = J1 ∧ ∀ W, (Op.stringOp .add (str J0) { data := #[32] }).run Tryd.prog W = .ok (.string (str J1)) W := ⟨_, rfl, run_add_str J0 [32] (by simp; omega)⟩
        have a2 : ∀ W, (Op.stringOp .add (str J1) (str T)).run Tryd.prog W = .ok (.string (str J2)) W := by
          have : J1 ++ T = J2 := by rw [hsn, ← hJ1]; simp
          rw [← this]
          exact run_add_str J1 T (by rw [← hJ1, List.length_append, List.length_singleton]; omega)
        have hkLi : (k : Int) < (L : Int) := by omega
        clear e1 e2 l1 hsn wd sa hdr hbyte hJ0 hJ2 hJ1 hp hTT hlxk hkt hTk hps
        go_wp2_with fail
        go_quiet (fail)
        go_wp2_with fail
        clear X1 s1 s2 n3 p1 p3
        go_loopw [13] (fun j wi => ∃ q : Nat, P ≤ q ∧ q ≤ p ∧ j = .int .i64 q ∧ Below w3.heap.size w3 wi) (fun j _ => p - (intOf j).toNat)
        case atStart => exact ⟨P, Nat.le_refl _, hPp, rfl, below_drewN hb _⟩
        case round =>
          rename World => wi
          obtain ⟨q, hq1, hq2, rfl, hbi⟩ := hrel
          obtain ⟨p3, p1⟩ := HP3.out wi hbi
          by_cases hqp : q < p
          · have hqS : q < (str S).size := by omega
            rcases HB.out q hq1 hqp hqS with hc | hc | hc | hc
            all_goals
              go_wp2_with fail
              go_roundw
              case rel => exact ⟨q + 1, by omega, by omega, by go_num, hbi⟩
              case measure => simp [intOf]; omega
          · go_wp2_with fail
            go_quiet (fail)
            go_wp2_with fail
            go_roundw
            case rel => exact ⟨k + 1, en, by omega, by go_num, rfl, by rw [HJ2.out], henS, HN, below_drewN hbi _⟩
            case measure => simp [intOf]; omega
      · have e2 : ts.take k = ts := List.take_of_length_le (by rw [HL.out]; omega)
        rw [e2]
        have hlj := complA (Lx.joined ts (fun t ht => by
          obtain ⟨i, hi, e⟩ := List.getElem_of_mem ht
          subst e
          exact (HLX.out.at_ i _ (List.getElem?_eq_getElem hi)).2.2.2.2) 0)
        have hlen : (placed 0 ts).length = L := by rw [placed_len]; exact HL.out
        have hpl : ∀ i (hi : i < L), ∃ (kk : Nat) (T : Nm) (n : Int) (bk : Bool), (∀ u A c, Toks u A c ts → ∃ b off, A = some ⟨b, off, none⟩ ∧ u.cell? ⟨b, off + i * 4, none⟩ = some (.int .i64 (kk : Int)) ∧ u.cell? ⟨b, off + i * 4 + 1, none⟩ = some (.string (str T)) ∧ u.cell? ⟨b, off + i * 4 + 2, none⟩ = some (.int .i64 n)) ∧
            (∀ u A c, Toks u A c (placed 0 ts) → ∃ b off, A = some ⟨b, off, none⟩ ∧ u.cell? ⟨b, off + i * 4, none⟩ = some (.int .i64 (kk : Int)) ∧ u.cell? ⟨b, off + i * 4 + 1, none⟩ = some (.string (str T)) ∧ u.cell? ⟨b, off + i * 4 + 2, none⟩ = some (.int .i64 n)) ∧ nameB T = bk ∧ ((kk : Int) == 1) = bk ∧ T.length ≤ 810 := by
          intro i hi
          have hit : i < ts.length := by rw [HL.out]; exact hi
          have ht := List.getElem?_eq_getElem hit
          obtain ⟨q, hq⟩ := placed_at 0 ts i _ ht
          obtain ⟨-, -, h3, -, h5⟩ := HLX.out.at_ i _ ht
          refine ⟨ts[i].k, ts[i].t, ts[i].n, decide (ts[i].k = 1), ?_, ?_, h5.name, ?_, by omega⟩
          · intro u A c hu
            obtain ⟨b, off, e, q0, q1, q2, -⟩ := hu.1 i _ ht
            exact ⟨b, off, e, q0, q1, q2⟩
          · intro u A c hu
            obtain ⟨b, off, e, q0, q1, q2, -⟩ := hu.1 i _ hq
            exact ⟨b, off, e, q0, q1, q2⟩
          · rw [Bool.eq_iff_iff]
            simp
            omega
        have HPL := Lib.hid hpl
        have hJ := HLJ.out
        obtain ⟨J, hJe⟩ : ∃ J, joinS ts = J := ⟨_, rfl⟩
        rw [hJe] at hlj hJ ⊢
        have ga := all_good hlj wr (by omega) (hT.below (B3.trans (hb.mono B3.size)))
        rw [hlen] at ga
        have Br := B3.trans (hb.mono B3.size)
        have HKr := Lib.hid (HK.out.below hb)
        clear e2 hlj hlen hpl hJe hlxk hb B3 HK
        go_wp2_with fail
        refine ga.mono ?_
        rintro e w5 ⟨A5, c5, rfl, hk5, b5⟩
        have B5 := Br.trans (b5.mono Br.size)
        have HK5 := Lib.hid hk5
        have HKa := Lib.hid (HKr.out.below b5)
        have dL : ((L : Int) != (L : Int)) = false := by simp
        clear ga hk5 b5 Br HKr
        go_wp2_with fail
        go_loopw [17] (fun j wi => ∃ i : Nat, i ≤ L ∧ j = .int .i64 i ∧ Below w5.heap.size w5 wi) (fun j _ => L - (intOf j).toNat)
        case atStart => exact ⟨0, Nat.zero_le _, rfl, Below.refl _ _⟩
        case round =>
          rename World => wi
          obtain ⟨i, hi, rfl, hbi⟩ := hrel
          by_cases hil : i < L
          · obtain ⟨kk, T, n, bk, f1, f2, hnm, hkk, hTl⟩ := HPL.out i hil
            obtain ⟨ba, oa, rfl, x0, x1, x2⟩ := f1 wi _ _ (HKa.out.below hbi)
            obtain ⟨bb, ob, rfl, y0, y1, y2⟩ := f2 wi _ _ (HK5.out.below hbi)
            have C0 : Hid (wi.cell? ⟨ba, oa + i * 4, none⟩ = some (.int .i64 (kk : Int)) ∧ wi.cell? ⟨ba, oa + i * 4 + 1, none⟩ = some (.string (str T)) ∧ wi.cell? ⟨ba, oa + i * 4 + 2, none⟩ = some (.int .i64 n) ∧ wi.cell? ⟨bb, ob + i * 4, none⟩ = some (.int .i64 (kk : Int)) ∧ wi.cell? ⟨bb, ob + i * 4 + 1, none⟩ = some (.string (str T)) ∧ wi.cell? ⟨bb, ob + i * 4 + 2, none⟩ = some (.int .i64 n)) := Lib.hid ⟨x0, x1, x2, y0, y1, y2⟩
            have hTi := hT.below (B5.trans (hbi.mono B5.size))
            have n1 : ((kk : Int) != (kk : Int)) = false := by simp
            have n2 : (n != n) = false := by simp
            have n3 : ((str T).toList == (str T).toList) = true := by simp
            have n4 : (bk != bk) = false := by simp
            have hiL : (i : Int) < (L : Int) := by omega
            have HN := Lib.hid hnm
            clear f1 f2 hnm x0 x1 x2 y0 y1 y2
            go_wp2_with fail
            go_region_held3 (fun w' => w'.cell? ⟨ba, oa + i * 4, none⟩ = some (.int .i64 (kk : Int)) ∧ w'.cell? ⟨ba, oa + i * 4 + 1, none⟩ = some (.string (str T)) ∧ w'.cell? ⟨ba, oa + i * 4 + 2, none⟩ = some (.int .i64 n) ∧ w'.cell? ⟨bb, ob + i * 4, none⟩ = some (.int .i64 (kk : Int)) ∧ w'.cell? ⟨bb, ob + i * 4 + 1, none⟩ = some (.string (str T)) ∧ w'.cell? ⟨bb, ob + i * 4 + 2, none⟩ = some (.int .i64 n))
              (first | exact C6.out | exact C0.out)
              ((go_at_call 11; refine (isName_any T _ (by omega) (hTi.below (Below.refl _ _).drew)).mono ?_; rw [HN.out]; rintro e w6 ⟨rfl, b6'⟩; have b6 : Below wi.heap.size wi w6 := (Below.refl _ wi).drew.trans b6'; have C6 : Hid (w6.cell? ⟨ba, oa + i * 4, none⟩ = some (.int .i64 (kk : Int)) ∧ w6.cell? ⟨ba, oa + i * 4 + 1, none⟩ = some (.string (str T)) ∧ w6.cell? ⟨ba, oa + i * 4 + 2, none⟩ = some (.int .i64 n) ∧ w6.cell? ⟨bb, ob + i * 4, none⟩ = some (.int .i64 (kk : Int)) ∧ w6.cell? ⟨bb, ob + i * 4 + 1, none⟩ = some (.string (str T)) ∧ w6.cell? ⟨bb, ob + i * 4 + 2, none⟩ = some (.int .i64 n)) := Lib.hid ⟨(b6.cell (World.block_lt_of_cell? _ _ C0.out.1)).trans C0.out.1, (b6.cell (World.block_lt_of_cell? _ _ C0.out.2.1)).trans C0.out.2.1, (b6.cell (World.block_lt_of_cell? _ _ C0.out.2.2.1)).trans C0.out.2.2.1, (b6.cell (World.block_lt_of_cell? _ _ C0.out.2.2.2.1)).trans C0.out.2.2.2.1, (b6.cell (World.block_lt_of_cell? _ _ C0.out.2.2.2.2.1)).trans C0.out.2.2.2.2.1, (b6.cell (World.block_lt_of_cell? _ _ C0.out.2.2.2.2.2)).trans C0.out.2.2.2.2.2⟩; clear b6'))
            have B6 := hbi.trans (b6.mono hbi.size)
            clear C0 C6
            go_wp2_with fail
            go_roundw
            case rel => exact ⟨i + 1, by omega, by go_num, B6⟩
            case measure => simp [intOf]; omega
          · go_wp2_with fail
            go_ret
            exact ⟨rfl, B5.trans (hbi.mono B5.size)⟩
end Go.Proofs.YtblpbgknnnpamaaDoor
