/- ArenaPlays: the walk. -/
import Derived.Test.YtiandhfpdehicaaDoorArPl
import Derived.Deep.CutRange
import Derived.Deep.CutBlock
import Derived.Deep.RegionHeld3
import Derived.BigQuiet
namespace Go.Proofs.YtiandhfpdehicaaDoor
open Go.RowKit
set_option linter.unusedVariables false

set_option maxHeartbeats 20000000 in
set_option maxRecDepth 100000 in
theorem plays_walk (cp : Int) (near : Bool) (A : Option Addr) (c : Nat) (l : List Dd) (hc0 : -9223372036854775808 ≤ cp) (hc1 : cp ≤ 9223372036854775807) (w : World) (hD : Deeds w A l) (hlc : l.length ≤ c) (hcm : c ≤ maxLen) (ht : Tab w) (hT : Dbt w) :
    Calls Tryd.prog 3 #[.int .i64 cp, .bool near, .slice A l.length c] w fun e w' => e = .returned (.bool true) ∧ Below w.heap.size w w' := by
  have HT := Lib.hid ht
  have HDb := Lib.hid hT
  have HD := Lib.hid hD
  clear ht hT hD
  obtain ⟨len, hlen⟩ : ∃ len, l.length = len := ⟨_, rfl⟩
  have HL := Lib.hid hlen
  rw [hlen] at hlc ⊢
  clear hlen
  unfold maxLen at hcm
  obtain ⟨cc, hcc⟩ : ∃ cc : Int, (near = true ∧ cp.tmod 600 = cc) ∨ (near = false ∧ cp = cc) := by
    cases near
    · exact ⟨_, .inr ⟨rfl, rfl⟩⟩
    · exact ⟨_, .inl ⟨rfl, rfl⟩⟩
  have hcb : -9223372036854775808 ≤ cc ∧ cc ≤ 9223372036854775807 := by
    rcases hcc with ⟨_, h⟩ | ⟨_, h⟩
    · have h1 := Int.tmod_lt_of_pos cp (b := 600) (by omega)
      have h2 := Int.lt_tmod_of_pos cp (b := 600) (by omega)
      omega
    · omega
  have HC := Lib.hid hcc
  clear hcc
  go_enter Tryd.func3, Tryd.ntmps3
  go_wp2_with fail
  refine (examples_any w HT.out HDb.out).mono ?_
  rintro e w1 ⟨rfl, bx⟩
  go_upto_if 31 with fail
  go_cut [0] from 32 to 33 (fun t wx => t = .int .i64 cc ∧ wx = w1)
  case first =>
    rcases HC.out with ⟨rfl, hm⟩ | ⟨rfl, rfl⟩
    all_goals
      go_wp2_with fail
      go_meet
      exact ⟨rfl, rfl⟩
  case rest =>
    obtain ⟨rfl, rfl⟩ := hcut
    clear HC
    by_cases hr : 0 ≤ cc ∧ cc ≤ 16777216
    · obtain ⟨hr0, hr1⟩ := hr
      go_wp2_with fail
      refine (news_tw cc _ hr0 hr1 (HT.out.below bx) (HDb.out.below bx)).mono ?_
      rintro e w2 ⟨rfl, b2, hnx⟩
      obtain ⟨B, hB⟩ : ∃ B, wc.heap.size = B := ⟨_, rfl⟩
      obtain ⟨g', hg'⟩ : ∃ g', w2.heap.size = g' := ⟨_, rfl⟩
      rw [hB, hg'] at hnx
      have hbz : w.heap.size ≤ B := by rw [← hB]; exact bx.size
      go_wp2_with fail
      refine hnx.mono ?_
      rintro e w3 ⟨rfl, hT3, b3⟩
      have HP : Hid (Pl w B B g' 0 (.slice none 0 0) [] ⟨cc, cc, []⟩ ⟨cc, cc, []⟩ [] w3) := Lib.hid ⟨hT3, World.ownsRow_nil _ _ _ _, (fun h hh => by cases hh), Nat.le_refl _, hbz, bx.trans (b3.mono hbz), (fun q hq => by cases hq)⟩
      clear hnx hT3 b3 b2 hB hg' bx HT HDb
      go_wp2_with fail
      go_loopw [10, 11] (fun v i wr => ∃ (k : Nat) (s : Ar) (hl : List (Int × Int)), k ≤ len ∧ k ≤ 40 ∧ i = .int .i64 k ∧ Hid (Pl w B B g' k v [] s s hl wr)) (fun _ i _ => 40 - (intOf i).toNat)
      case atStart => exact ⟨0, _, _, Nat.zero_le _, by omega, rfl, HP⟩
      case round =>
        rename World => wr
        rename Value => v
        clear HP
        obtain ⟨k, s, hl, hk, hk40, rfl, HP⟩ := hrel
        by_cases hlt : k < len ∧ k < 40
        · obtain ⟨hl1, hl2⟩ := hlt
          have hkl : k < l.length := by rw [HL.out]; exact hl1
          obtain ⟨b, off, LA, lc, rfl, hcs, ll, lm, hLies, hok⟩ := (HD.out.below HP.out.bel) k l[k] (List.getElem?_eq_getElem hkl)
          generalize l[k] = d at *
          obtain ⟨dk, da, dn, dv, ls, ds, dg⟩ := d
          have cd0 : wr.cell? ⟨b, off + k * 7, none⟩ = some (.int .u8 dk) := hcs 0 (.int .u8 dk) rfl
          have cd1 : wr.cell? ⟨b, off + k * 7 + 1, none⟩ = some (.int .u8 da) := hcs 1 (.int .u8 da) rfl
          have cd2 : wr.cell? ⟨b, off + k * 7 + 2, none⟩ = some (.int .u8 dn) := hcs 2 (.int .u8 dn) rfl
          have cd3 : wr.cell? ⟨b, off + k * 7 + 3, none⟩ = some (.int .i64 dv) := hcs 3 (.int .i64 dv) rfl
          have cd4 : wr.cell? ⟨b, off + k * 7 + 4, none⟩ = some (.slice LA ls.length lc) := hcs 4 (.slice LA ls.length lc) rfl
          have cd5 : wr.cell? ⟨b, off + k * 7 + 5, none⟩ = some (.int .u32 ds) := hcs 5 (.int .u32 ds) rfl
          have cd6 : wr.cell? ⟨b, off + k * 7 + 6, none⟩ = some (.int .u32 dg) := hcs 6 (.int .u32 dg) rfl
          dsimp only at ll hLies
          have HLies := Lib.hid hLies
          obtain ⟨k0, k1, a0, a1, l0, l1, n0, n1, s0, s1, g0, g1⟩ := hok
          dsimp only at k0 k1 a0 a1 l0 l1 n0 n1 s0 s1 g0 g1
          have hkli : (k : Int) < (len : Int) := by omega
          have hk4b : decide ((k : Int) < 40) = true := decide_eq_true (by omega)
          have hklb : decide (k < len) = true := decide_eq_true hl1
          clear hcs hLies hkl HD
          obtain ⟨nh, hnh⟩ : ∃ nh, hl.length = nh := ⟨_, rfl⟩
          have hnk : nh ≤ k := by rw [← hnh]; exact HP.out.len
          have HNH := Lib.hid hnh
          obtain ⟨vA, vc, hv⟩ := own_slice HP.out.own
          rw [hnh] at hv
          clear hnh
          have HVL := Lib.hid HP.out.vlt
          have P1 := Lib.hid ((HP.out.box (.cells #[.int .u8 dk, .int .u8 da, .int .u8 dn, .int .i64 dv, .slice LA ls.length lc, .int .u32 ds, .int .u32 dg] 34)).box (.cells #[.int .u32 ds, .int .u32 dg] 32))
          have hz1 : (wr.alloc (.cells #[.int .u8 dk, .int .u8 da, .int .u8 dn, .int .i64 dv, .slice LA ls.length lc, .int .u32 ds, .int .u32 dg] 34)).heap.size = wr.heap.size + 1 := by simp
          have HD1 : Hid (Has ((wr.alloc (.cells #[.int .u8 dk, .int .u8 da, .int .u8 dn, .int .i64 dv, .slice LA ls.length lc, .int .u32 ds, .int .u32 dg] 34)).alloc (.cells #[.int .u32 ds, .int .u32 dg] 32)) wr.heap.size 34 #[.int .u8 dk, .int .u8 da, .int .u8 dn, .int .i64 dv, .slice LA ls.length lc, .int .u32 ds, .int .u32 dg]) :=
            Lib.hid (Has.below (B := (wr.alloc (.cells #[.int .u8 dk, .int .u8 da, .int .u8 dn, .int .i64 dv, .slice LA ls.length lc, .int .u32 ds, .int .u32 dg] 34)).heap.size) (heap_alloc_new wr _) ((Below.refl _ _).alloc (Nat.le_refl _) _) (by rw [hz1]; omega))
          have HH1 : Hid (Has ((wr.alloc (.cells #[.int .u8 dk, .int .u8 da, .int .u8 dn, .int .i64 dv, .slice LA ls.length lc, .int .u32 ds, .int .u32 dg] 34)).alloc (.cells #[.int .u32 ds, .int .u32 dg] 32)) (wr.heap.size + 1) 32 #[.int .u32 ds, .int .u32 dg]) := Lib.hid (by
            have := heap_alloc_new (wr.alloc (.cells #[.int .u8 dk, .int .u8 da, .int .u8 dn, .int .i64 dv, .slice LA ls.length lc, .int .u32 ds, .int .u32 dg] 34)) (.cells #[.int .u32 ds, .int .u32 dg] 32)
            rw [hz1] at this
            exact this)
          rw [hz1] at P1
          have HLW : Hid (Lies ((wr.alloc (.cells #[.int .u8 dk, .int .u8 da, .int .u8 dn, .int .i64 dv, .slice LA ls.length lc, .int .u32 ds, .int .u32 dg] 34)).alloc (.cells #[.int .u32 ds, .int .u32 dg] 32)) LA (ints ls)) := Lib.hid ((HLies.out.alloc _).alloc _)
          have HLB : Hid (∀ j u, (ints ls)[j]? = some u → ∀ x, LA = some x → (x.add j).block < wr.heap.size) := Lib.hid (fun j u hu x e => by
            obtain ⟨y, e2, hy⟩ := HLies.out j u hu
            rw [e2] at e
            cases e
            exact World.block_lt_of_cell? _ _ hy)
          clear HP HLies hz1
          subst hv
          go_upto_region 16 with fail
          clear cd0 cd1 cd2 cd3 cd4 cd5 cd6
          generalize (wr.alloc (.cells #[.int .u8 dk, .int .u8 da, .int .u8 dn, .int .i64 dv, .slice LA ls.length lc, .int .u32 ds, .int .u32 dg] 34)).alloc (.cells #[.int .u32 ds, .int .u32 dg] 32) = W1 at *
          generalize wr.heap.size = q0 at *
          obtain ⟨bq, hbq⟩ : ∃ b : Bool, b = decide (0 < nh ∧ da < 220) := ⟨_, rfl⟩
          have HBQ := Lib.hid hbq
          have d1 : W1.cell? ⟨q0, 1, none⟩ = some (.int .u8 da) := HD1.out.cell 1
          clear hbq
          go_cut [76] from 69 to 76 (fun t wx => t = .bool bq ∧ wx = W1)
          case first =>
            by_cases h1 : 0 < nh
            · by_cases h2 : da < 220
              · have e1 : decide (0 < nh) = true := decide_eq_true h1
                have e2 : decide (da < 220) = true := decide_eq_true h2
                go_wp2_with fail
                go_meet
                exact ⟨by rw [HBQ.out, decide_eq_true ⟨h1, h2⟩], rfl⟩
              · have e1 : decide (0 < nh) = true := decide_eq_true h1
                have e2 : decide (da < 220) = false := decide_eq_false h2
                have H2 := Lib.hid h2
                clear h2
                go_wp2_with fail
                go_meet
                exact ⟨by rw [HBQ.out, decide_eq_false (fun h => by have := H2.out; have := h.2; omega)], rfl⟩
            · have e1 : decide (0 < nh) = false := decide_eq_false h1
              have H1 := Lib.hid h1
              clear h1
              go_wp2_with fail
              go_meet
              exact ⟨by rw [HBQ.out, decide_eq_false (fun h => by have := H1.out; have := h.1; omega)], rfl⟩
          case rest =>
            obtain ⟨rfl, rfl⟩ := hcut
            rename World => W1
            go_upto_if 76 with fail
            go_cut [] from 77 to 85 (fun wx => ∃ (i : Nat) (gn : Int), i ≤ 4294967295 ∧ 0 ≤ gn ∧ gn ≤ 4294967295 ∧ Pl w B B g' k (.slice vA nh vc) [q0 + 1, q0] s s hl wx ∧ Has wx q0 34 #[.int .u8 dk, .int .u8 da, .int .u8 dn, .int .i64 dv, .slice LA ls.length lc, .int .u32 ds, .int .u32 dg] ∧ Has wx (q0 + 1) 32 #[.int .u32 i, .int .u32 gn] ∧ Lies wx LA (ints ls))
            case first =>
              cases bq with
              | true =>
                obtain ⟨hn0, ha2⟩ := of_decide_eq_true HBQ.out.symm
                obtain ⟨m, hm⟩ : ∃ m : Nat, da % (nh : Int) = (m : Int) := ⟨(da % (nh : Int)).toNat, by have := Int.emod_nonneg da (b := (nh : Int)) (by omega); omega⟩
                have hmn : m < nh := by have := Int.emod_lt_of_pos da (b := (nh : Int)) (by omega); omega
                have tm : da.tmod (nh : Int) = (m : Int) := by rw [Int.tmod_eq_emod_of_nonneg a0]; exact hm
                have hmi : (m : Int) < (nh : Int) := by omega
                have hml : m < hl.length := by rw [HNH.out]; exact hmn
                obtain ⟨q, cap, e, _, c0, c1⟩ := hs_at P1.out.own (List.getElem?_eq_getElem hml)
                obtain ⟨x0, x1, x2, x3⟩ := P1.out.hok hl[m] (List.getElem_mem hml)
                simp only [Value.slice.injEq] at e
                obtain ⟨e3, e4, e5⟩ := e
                subst e3 e5
                clear e4
                obtain ⟨hi0, hi1⟩ : ∃ i : Nat, hl[m].1 = (i : Int) := ⟨hl[m].1.toNat, by omega⟩
                rw [hi1] at c0 x1
                have hiB : hi0 ≤ 4294967295 := by omega
                generalize hl[m].2 = gn at *
                have f0 := HH1.out.free 0
                have f1 := HH1.out.free 1
                have h10 : W1.cell? ⟨q0 + 1, 0, none⟩ = some (.int .u32 ds) := HH1.out.cell 0
                have h11 : W1.cell? ⟨q0 + 1, 1, none⟩ = some (.int .u32 dg) := HH1.out.cell 1
                have hb2 : ∀ u, u.heap[q0]? = W1.heap[q0]? → Has u q0 34 #[.int .u8 dk, .int .u8 da, .int .u8 dn, .int .i64 dv, .slice LA ls.length lc, .int .u32 ds, .int .u32 dg] := fun u hu => hu.trans HD1.out
                have HB2 := Lib.hid hb2
                clear hb2 hi1 hml x0 x1 hn0 tm
                go_wp2_with fail
                go_meet
                exact ⟨hi0, gn, hiB, x2, x3, (P1.out.set (by simp) 0 _).set (by simp) 1 _, HB2.out _ ((Below.heap_setCell _ _ _ _ (by simp)).trans (Below.heap_setCell _ _ _ _ (by simp))), (HH1.out.put 0 _).put 1 _, fun j x hx => by
                  obtain ⟨y, e, hy⟩ := HLW.out j x hx
                  have bs := ((Below.refl q0 W1).setCell (p := ⟨q0 + 1, 0, none⟩) (Nat.le_succ _) (.int .u32 (hi0 : Int))).setCell (p := ⟨q0 + 1, 1, none⟩) (Nat.le_succ _) (.int .u32 gn)
                  exact ⟨y, e, (bs.cell (HLB.out j x hx y e)).trans hy⟩⟩
              | false =>
                obtain ⟨i, hi⟩ : ∃ i : Nat, ds = (i : Int) := ⟨ds.toNat, by omega⟩
                go_wp2_with fail
                go_meet
                subst hi
                exact ⟨i, dg, by omega, g0, g1, P1.out, HD1.out, HH1.out, HLW.out⟩
            case rest =>
              obtain ⟨i, gn, hi1, hg0, hg1, P2, D2, H2, L2⟩ := hcut
              rename World => W2
              clear HBQ P1 HD1 HH1 HLW d1 HNH
              have P3 := Lib.hid (P2.box (.cells #[.int .u32 (i : Int), .int .u32 gn] 35))
              have bA : Below W2.heap.size W2 (W2.alloc (.cells #[.int .u32 (i : Int), .int .u32 gn] 35)) := (Below.refl _ _).alloc (Nat.le_refl _) _
              have D3 := Lib.hid (D2.below bA D2.lt)
              have H3 := Lib.hid (H2.below bA H2.lt)
              have Q3 : Hid (Has (W2.alloc (.cells #[.int .u32 (i : Int), .int .u32 gn] 35)) W2.heap.size 35 #[.int .u32 (i : Int), .int .u32 gn]) := Lib.hid (heap_alloc_new W2 _)
              have L3 := Lib.hid (L2.below bA)
              have h20 : W2.cell? ⟨q0 + 1, 0, none⟩ = some (.int .u32 (i : Int)) := H2.cell 0
              have h21 : W2.cell? ⟨q0 + 1, 1, none⟩ = some (.int .u32 gn) := H2.cell 1
              clear P2 D2 H2 L2 bA
              go_upto_region 19 with fail
              clear h20 h21
              generalize W2.alloc (.cells #[.int .u32 (i : Int), .int .u32 gn] 35) = W3 at *
              generalize W2.heap.size = y0 at *
              have d0 : W3.cell? ⟨q0, 0, none⟩ = some (.int .u8 dk) := D3.out.cell 0
              have d1 : W3.cell? ⟨q0, 1, none⟩ = some (.int .u8 da) := D3.out.cell 1
              have d2 : W3.cell? ⟨q0, 2, none⟩ = some (.int .u8 dn) := D3.out.cell 2
              go_upto_if 96 with fail
              obtain ⟨N, hN⟩ : ∃ N : Nat, (250 < da ∧ dn * 5 = (N : Int)) ∨ (da ≤ 250 ∧ dn = (N : Int)) := by
                by_cases h : 250 < da
                · exact ⟨(dn * 5).toNat, .inl ⟨h, by omega⟩⟩
                · exact ⟨dn.toNat, .inr ⟨by omega, by omega⟩⟩
              have hN1 : N ≤ 1275 := by omega
              go_cut [15] from 97 to 98 (fun t wx => t = .int .i64 (N : Int) ∧ wx = W3)
              case first =>
                rcases hN with ⟨h1, h2⟩ | ⟨h1, h2⟩
                · have e1 : decide (250 < da) = true := decide_eq_true h1
                  go_wp2_with fail
                  go_meet
                  exact ⟨rfl, rfl⟩
                · have e1 : decide (250 < da) = false := decide_eq_false (by omega)
                  have H2' := Lib.hid h2
                  clear h2
                  go_wp2_with fail
                  go_meet
                  exact ⟨by rw [H2'.out], rfl⟩
              case rest =>
                obtain ⟨rfl, rfl⟩ := hcut
                rename World => W3
                clear hN
                go_wp2_with fail
                refine (text_any N da W3 (by omega) a0 a1).mono ?_
                rintro e W4 ⟨rfl, b4⟩
                have P4 := Lib.hid (P3.out.below b4)
                have D4 := Lib.hid (D3.out.below b4 D3.out.lt)
                have H4 := Lib.hid (H3.out.below b4 H3.out.lt)
                have Q4 := Lib.hid (Q3.out.below b4 Q3.out.lt)
                have L4 := Lib.hid (L3.out.below b4)
                clear P3 D3 H3 Q3 L3 d0 d1 d2 b4
                obtain ⟨tx, htx⟩ : ∃ tx, txt N da = tx := ⟨_, rfl⟩
                have ltx : tx.length ≤ 1275 := by rw [← htx, txt_length]; exact hN1
                rw [htx]
                clear htx
                have d0 : W4.cell? ⟨q0, 0, none⟩ = some (.int .u8 dk) := D4.out.cell 0
                go_upto_block 2 with fail
                go_cut [10, 17] from 105 to 106 (fun v t wx => t = .bool true ∧ ∃ s2 hl2, Pl w B B g' (k + 1) v [] s2 s2 hl2 wx)
                case first =>
                  clear d0
                  have ltm : tx.length ≤ maxLen := small_len (by omega)
                  have hcs : (dk % 7 = 0 ∨ dk % 7 = 6) ∨ dk % 7 = 1 ∨ dk % 7 = 2 ∨ dk % 7 = 3 ∨ dk % 7 = 4 ∨ dk % 7 = 5 := by omega
                  rcases hcs with hcs | hy | hy | hy | hy | hy
                  · -- Alloc
                    clear D4 H4 Q4 L4
                    obtain ⟨sl, hsl⟩ : ∃ x, aslot s (tx.length : Int) = x := ⟨_, rfl⟩
                    obtain ⟨g2, hg2⟩ : ∃ x, agen s (tx.length : Int) = x := ⟨_, rfl⟩
                    obtain ⟨er, her⟩ : ∃ x, aerr s (tx.length : Int) = x := ⟨_, rfl⟩
                    have hok := ah_ok P4.out.tw (tx.length : Int)
                    rw [hsl, hg2] at hok
                    have HOK := Lib.hid hok
                    have A5 := alloc_tw P4.out.tw tx ltm
                    rw [hsl, hg2, her] at A5
                    have A7 := fun (u : World) (x : Nat) (h : Pl w B B g' k (.slice vA nh vc) [x, y0, q0 + 1, q0] (alo s tx) s hl u) => ralloc_tw h.tw tx ltm
                    rw [hsl, hg2, her] at A7
                    have HA7 := Lib.hid A7
                    clear hsl hg2 her hok A7
                    have HNK : Hid (hl.length ≤ 5000) := Lib.hid (by have := P4.out.len; omega)
                    have n1 : (sl == sl) = true := by simp
                    have n2 : (g2 == g2) = true := by simp
                    have n3 : (er == er) = true := by simp
                    rcases hcs with hy | hy
                    all_goals
                      go_wp2_with fail
                      refine A5.mono ?_
                      rintro e W5 ⟨rfl, t5, kp5⟩
                      have P5 := P4.out.deed t5 kp5
                      have P6 := Lib.hid (P5.box (.cells #[.int .u32 sl, .int .u32 g2] 32))
                      have X6 : Hid (Has (W5.alloc (.cells #[.int .u32 sl, .int .u32 g2] 32)) W5.heap.size 32 #[.int .u32 sl, .int .u32 g2]) := Lib.hid (heap_alloc_new W5 _)
                      clear P5 t5 kp5 A5
                      go_upto_region 28 with fail
                      generalize W5.alloc (.cells #[.int .u32 sl, .int .u32 g2] 32) = W6 at *
                      generalize W5.heap.size = x0 at *
                      go_wp2_with fail
                      refine (HA7.out _ _ P6.out).mono ?_
                      rintro e W7 ⟨rfl, t7, kp7⟩
                      have P7 := P6.out.deed t7 kp7
                      have P8 := Lib.hid (P7.box (.cells #[.int .u32 sl, .int .u32 g2] 35))
                      have bA : Below W7.heap.size W7 (W7.alloc (.cells #[.int .u32 sl, .int .u32 g2] 35)) := (Below.refl _ _).alloc (Nat.le_refl _) _
                      have X7 := kp7.has (by simp) X6.out
                      have X8 := Lib.hid (X7.below bA X7.lt)
                      have Y8 : Hid (Has (W7.alloc (.cells #[.int .u32 sl, .int .u32 g2] 35)) W7.heap.size 35 #[.int .u32 sl, .int .u32 g2]) := Lib.hid (heap_alloc_new W7 _)
                      clear P6 X6 P7 t7 kp7 bA X7 HA7
                      go_upto_region 29 with fail
                      generalize W7.alloc (.cells #[.int .u32 sl, .int .u32 g2] 35) = W8 at *
                      generalize W7.heap.size = y1 at *
                      obtain ⟨c0, c1⟩ := X8.out.two
                      obtain ⟨c2, c3⟩ := Y8.out.two
                      obtain ⟨v9, W9, r9, P9⟩ := P8.out.app (sl, g2) HOK.out HNK.out
                      have R9 := Lib.hid r9
                      have HP9 := Lib.hid P9
                      clear r9 P9 P8 X8 Y8
                      go_wp2_with (at_builtin; refine wpList_app R9.out rfl rfl rfl rfl rfl ?_)
                      go_meet
                      exact ⟨rfl, _, _, HP9.out⟩
                  · -- Get
                    clear D4 L4
                    obtain ⟨gt, hgt⟩ : ∃ x, got s i gn = x := ⟨_, rfl⟩
                    obtain ⟨hb, hhb⟩ : ∃ x, hit s.l i gn = x := ⟨_, rfl⟩
                    have A5 := get_tw P4.out.tw i gn hi1 hg0 hg1
                    rw [hgt, hhb] at A5
                    have A6 := fun (u : World) (h : Pl w B B g' k (.slice vA nh vc) [y0, q0 + 1, q0] s s hl u) => rget_tw h.tw i gn hi1 hg0 hg1
                    rw [hgt, hhb] at A6
                    have HA6 := Lib.hid A6
                    obtain ⟨c0, c1⟩ := H4.out.two
                    have n1 : ((str gt).toList == (str gt).toList) = true := by simp
                    have n2 : (hb == hb) = true := by simp
                    clear hgt hhb A6
                    go_wp2_with fail
                    refine A5.mono ?_
                    rintro e W5 ⟨rfl, t5, kp5⟩
                    have P5 := Lib.hid (P4.out.deed t5 kp5)
                    have Q5 := kp5.has (by simp) Q4.out
                    obtain ⟨c2, c3⟩ := Q5.two
                    clear t5 kp5 A5 c0 c1 Q5
                    go_wp2_with fail
                    refine (HA6.out _ P5.out).mono ?_
                    rintro e W6 ⟨rfl, t6, kp6⟩
                    have P6 := Lib.hid (P5.out.deed t6 kp6)
                    clear t6 kp6 c2 c3
                    go_wp2_with fail
                    go_meet
                    exact ⟨rfl, _, _, P6.out.drop.later⟩
                  · -- Put
                    clear D4 L4
                    obtain ⟨pb, hpb⟩ : ∃ x, pok s i gn (tx.length : Int) = x := ⟨_, rfl⟩
                    have P4d := P4.out.below (Below.refl _ _).drew
                    have A5 := put_tw P4d.tw i gn hi1 hg0 hg1 tx ltm
                    rw [hpb] at A5
                    have A6 := fun (u : World) (h : Pl w B B g' k (.slice vA nh vc) [y0, q0 + 1, q0] (pto s i gn tx) s hl u) => rput_tw h.tw i gn hi1 hg0 hg1 tx ltm
                    rw [hpb] at A6
                    have HA6 := Lib.hid A6
                    have C4 : Hid (W4.drew.cell? ⟨q0 + 1, 0, none⟩ = some (.int .u32 (i : Int)) ∧ W4.drew.cell? ⟨q0 + 1, 1, none⟩ = some (.int .u32 gn) ∧ W4.drew.cell? ⟨y0, 0, none⟩ = some (.int .u32 (i : Int)) ∧ W4.drew.cell? ⟨y0, 1, none⟩ = some (.int .u32 gn)) := Lib.hid ⟨H4.out.two.1, H4.out.two.2, Q4.out.two.1, Q4.out.two.2⟩
                    have n2 : (pb == pb) = true := by simp
                    clear hpb A6
                    go_wp2_with fail
                    go_region_held3 (fun w' => w'.cell? ⟨q0 + 1, 0, none⟩ = some (.int .u32 (i : Int)) ∧ w'.cell? ⟨q0 + 1, 1, none⟩ = some (.int .u32 gn) ∧ w'.cell? ⟨y0, 0, none⟩ = some (.int .u32 (i : Int)) ∧ w'.cell? ⟨y0, 1, none⟩ = some (.int .u32 gn))
                      (first | with_reducible exact C6.out | with_reducible exact C5.out | with_reducible exact C4.out)
                      (first
                        | (go_at_call 12; refine A5.mono ?_; rintro e W5 ⟨rfl, t5, kp5⟩; have P5 := Lib.hid (P4d.deed t5 kp5); have h5 := kp5.has (by simp) H4.out; have q5 := kp5.has (by simp) Q4.out; have C5 : Hid (W5.cell? ⟨q0 + 1, 0, none⟩ = some (.int .u32 (i : Int)) ∧ W5.cell? ⟨q0 + 1, 1, none⟩ = some (.int .u32 gn) ∧ W5.cell? ⟨y0, 0, none⟩ = some (.int .u32 (i : Int)) ∧ W5.cell? ⟨y0, 1, none⟩ = some (.int .u32 gn)) := Lib.hid ⟨h5.two.1, h5.two.2, q5.two.1, q5.two.2⟩; have H5 := Lib.hid h5; have Q5 := Lib.hid q5; clear t5 kp5 h5 q5)
                        | (go_at_call 13; refine (HA6.out _ P5.out).mono ?_; rintro e W6 ⟨rfl, t6, kp6⟩; have P6 := Lib.hid (P5.out.deed t6 kp6); have h6 := kp6.has (by simp) H5.out; have q6 := kp6.has (by simp) Q5.out; have C6 : Hid (W6.cell? ⟨q0 + 1, 0, none⟩ = some (.int .u32 (i : Int)) ∧ W6.cell? ⟨q0 + 1, 1, none⟩ = some (.int .u32 gn) ∧ W6.cell? ⟨y0, 0, none⟩ = some (.int .u32 (i : Int)) ∧ W6.cell? ⟨y0, 1, none⟩ = some (.int .u32 gn)) := Lib.hid ⟨h6.two.1, h6.two.2, q6.two.1, q6.two.2⟩; clear t6 kp6 h6 q6))
                    go_wp2_with fail
                    go_meet
                    exact ⟨rfl, _, _, P6.out.drop.later⟩
                  · -- Free
                    clear D4 L4
                    obtain ⟨pb, hpb⟩ : ∃ x, hit s.l i gn = x := ⟨_, rfl⟩
                    have P4d := P4.out.below (Below.refl _ _).drew
                    have A5 := free_tw P4d.tw i gn hi1 hg0 hg1
                    rw [hpb] at A5
                    have A6 := fun (u : World) (h : Pl w B B g' k (.slice vA nh vc) [y0, q0 + 1, q0] (fro s i gn) s hl u) => rfree_tw h.tw i gn hi1 hg0 hg1
                    rw [hpb] at A6
                    have HA6 := Lib.hid A6
                    have C4 : Hid (W4.drew.cell? ⟨q0 + 1, 0, none⟩ = some (.int .u32 (i : Int)) ∧ W4.drew.cell? ⟨q0 + 1, 1, none⟩ = some (.int .u32 gn) ∧ W4.drew.cell? ⟨y0, 0, none⟩ = some (.int .u32 (i : Int)) ∧ W4.drew.cell? ⟨y0, 1, none⟩ = some (.int .u32 gn)) := Lib.hid ⟨H4.out.two.1, H4.out.two.2, Q4.out.two.1, Q4.out.two.2⟩
                    have n2 : (pb == pb) = true := by simp
                    clear hpb A6
                    go_wp2_with fail
                    go_region_held3 (fun w' => w'.cell? ⟨q0 + 1, 0, none⟩ = some (.int .u32 (i : Int)) ∧ w'.cell? ⟨q0 + 1, 1, none⟩ = some (.int .u32 gn) ∧ w'.cell? ⟨y0, 0, none⟩ = some (.int .u32 (i : Int)) ∧ w'.cell? ⟨y0, 1, none⟩ = some (.int .u32 gn))
                      (first | with_reducible exact C6.out | with_reducible exact C5.out | with_reducible exact C4.out)
                      (first
                        | (go_at_call 14; refine A5.mono ?_; rintro e W5 ⟨rfl, t5, kp5⟩; have P5 := Lib.hid (P4d.deed t5 kp5); have h5 := kp5.has (by simp) H4.out; have q5 := kp5.has (by simp) Q4.out; have C5 : Hid (W5.cell? ⟨q0 + 1, 0, none⟩ = some (.int .u32 (i : Int)) ∧ W5.cell? ⟨q0 + 1, 1, none⟩ = some (.int .u32 gn) ∧ W5.cell? ⟨y0, 0, none⟩ = some (.int .u32 (i : Int)) ∧ W5.cell? ⟨y0, 1, none⟩ = some (.int .u32 gn)) := Lib.hid ⟨h5.two.1, h5.two.2, q5.two.1, q5.two.2⟩; have H5 := Lib.hid h5; have Q5 := Lib.hid q5; clear t5 kp5 h5 q5)
                        | (go_at_call 15; refine (HA6.out _ P5.out).mono ?_; rintro e W6 ⟨rfl, t6, kp6⟩; have P6 := Lib.hid (P5.out.deed t6 kp6); have h6 := kp6.has (by simp) H5.out; have q6 := kp6.has (by simp) Q5.out; have C6 : Hid (W6.cell? ⟨q0 + 1, 0, none⟩ = some (.int .u32 (i : Int)) ∧ W6.cell? ⟨q0 + 1, 1, none⟩ = some (.int .u32 gn) ∧ W6.cell? ⟨y0, 0, none⟩ = some (.int .u32 (i : Int)) ∧ W6.cell? ⟨y0, 1, none⟩ = some (.int .u32 gn)) := Lib.hid ⟨h6.two.1, h6.two.2, q6.two.1, q6.two.2⟩; clear t6 kp6 h6 q6))
                    go_wp2_with fail
                    go_meet
                    exact ⟨rfl, _, _, P6.out.drop.later⟩
                  · -- SetLimit
                    have d2 : W4.cell? ⟨q0, 2, none⟩ = some (.int .u8 dn) := D4.out.cell 2
                    have d3 : W4.cell? ⟨q0, 3, none⟩ = some (.int .i64 dv) := D4.out.cell 3
                    clear D4 H4 Q4 L4
                    obtain ⟨m, hm⟩ : ∃ m : Int, (dn < 200 ∧ dv.tmod 700 = m) ∨ (200 ≤ dn ∧ dv = m) := by
                      by_cases h : dn < 200
                      · exact ⟨_, .inl ⟨h, rfl⟩⟩
                      · exact ⟨_, .inr ⟨by omega, rfl⟩⟩
                    obtain ⟨er, her⟩ : ∃ x, serr s m = x := ⟨_, rfl⟩
                    have A5 := setLimit_tw P4.out.tw m
                    rw [her] at A5
                    have A6 := fun (u : World) (h : Pl w B B g' k (.slice vA nh vc) [y0, q0 + 1, q0] (sto s m) s hl u) => rsetLimit_tw h.tw m
                    rw [her] at A6
                    have HA6 := Lib.hid A6
                    have n2 : (er == er) = true := by simp
                    clear her A6
                    rcases hm with ⟨h1, h2⟩ | ⟨h1, rfl⟩
                    · have e1 : decide (dn < 200) = true := decide_eq_true h1
                      go_wp2_with fail
                      refine A5.mono ?_
                      rintro e W5 ⟨rfl, t5, kp5⟩
                      have P5 := Lib.hid (P4.out.deed t5 kp5)
                      clear t5 kp5 A5 d2 d3
                      go_wp2_with fail
                      refine (HA6.out _ P5.out).mono ?_
                      rintro e W6 ⟨rfl, t6, kp6⟩
                      have P6 := Lib.hid (P5.out.deed t6 kp6)
                      clear t6 kp6
                      go_wp2_with fail
                      go_meet
                      exact ⟨rfl, _, _, P6.out.drop.later⟩
                    · have e1 : decide (dn < 200) = false := decide_eq_false (by omega)
                      go_wp2_with fail
                      refine A5.mono ?_
                      rintro e W5 ⟨rfl, t5, kp5⟩
                      have P5 := Lib.hid (P4.out.deed t5 kp5)
                      clear t5 kp5 A5 d2 d3
                      go_wp2_with fail
                      refine (HA6.out _ P5.out).mono ?_
                      rintro e W6 ⟨rfl, t6, kp6⟩
                      have P6 := Lib.hid (P5.out.deed t6 kp6)
                      clear t6 kp6
                      go_wp2_with fail
                      go_meet
                      exact ⟨rfl, _, _, P6.out.drop.later⟩
                  · -- Fits
                    have d4 : W4.cell? ⟨q0, 4, none⟩ = some (.slice LA ls.length lc) := D4.out.cell 4
                    clear D4 H4 Q4
                    obtain ⟨mm, hmm⟩ : ∃ mm : Nat, min ls.length 4 = mm := ⟨_, rfl⟩
                    have hm1 : mm ≤ ls.length := by omega
                    have hm2 : mm ≤ lc := by omega
                    have hm3 : (mm : Int) ≤ (lc : Int) := by omega
                    have hm4 : min (ls.length : Int) 4 = (mm : Int) := by omega
                    have hLt : ∀ u, Lies u LA (ints ls) → Lies u LA (ints (ls.take mm)) := fun u h j x hx => h j x (by
                      unfold ints at hx ⊢
                      rw [List.map_take, List.getElem?_take] at hx
                      split at hx
                      · exact hx
                      · cases hx)
                    have hlt : (ls.take mm).length = mm := by rw [List.length_take]; omega
                    obtain ⟨fb, hfb⟩ : ∃ x, fits s (ls.take mm) = x := ⟨_, rfl⟩
                    have hmL : mm ≤ maxLen := small_len (by omega)
                    have A5 := fits_tw P4.out.tw LA mm lc (ls.take mm) hlt hmL (hLt _ L4.out)
                    rw [hfb] at A5
                    have A6 := fun (u : World) (h : Pl w B B g' k (.slice vA nh vc) [y0, q0 + 1, q0] s s hl u) (h2 : Lies u LA (ints ls)) => rfits_tw h.tw LA mm lc (ls.take mm) hlt hmL (hLt _ h2)
                    rw [hfb] at A6
                    have HA6 := Lib.hid A6
                    have n2 : (fb == fb) = true := by simp
                    have hx : (ls.length ≤ 4 ∧ ls.length = mm) ∨ (4 < ls.length ∧ 4 = mm) := by omega
                    clear hfb A6 hlt hLt hmm hm4
                    rcases hx with ⟨hx, rfl⟩ | ⟨hx, rfl⟩
                    all_goals
                      go_wp2_with fail
                      refine A5.mono ?_
                      rintro e W5 ⟨rfl, b5⟩
                      have P5 := Lib.hid (P4.out.below b5)
                      have L5 := Lib.hid (L4.out.below b5)
                      clear b5 A5 d4
                      go_wp2_with fail
                      refine (HA6.out _ P5.out L5.out).mono ?_
                      rintro e W6 ⟨rfl, b6⟩
                      have P6 := Lib.hid (P5.out.below b6)
                      clear b6
                      go_wp2_with fail
                      go_meet
                      exact ⟨rfl, _, _, P6.out.drop.later⟩
                case rest =>
                  obtain ⟨rfl, s2, hl2, P5⟩ := hcut
                  rename World => W5
                  have HP5 := Lib.hid P5
                  have rl : W5.cell? ⟨g', 1, none⟩ = some (.int .i64 s2.lim) := P5.tw.rlim
                  obtain ⟨ch, hch⟩ : ∃ x, chg s2.l = x := ⟨_, rfl⟩
                  obtain ⟨lv, hlv⟩ : ∃ x, liv s2.l = x := ⟨_, rfl⟩
                  obtain ⟨lmx, hlmx⟩ : ∃ x, s2.lim = x := ⟨_, rfl⟩
                  have C1 : Hid (∀ n, Calls Tryd.prog 20 #[.pointer (some ⟨B, 0, none⟩)] (W5.drewN n) fun e w' => e = .returned (.int .i64 ch) ∧ W5.drewN n = w') := Lib.hid (fun n => by rw [← hch]; exact charged_tw (HP5.out.below (below_drewN (Below.refl _ _) n)).tw)
                  have C2 : Hid (∀ n, Calls Tryd.prog 21 #[.pointer (some ⟨g', 0, none⟩)] (W5.drewN n) fun e w' => e = .returned (.int .i64 ch) ∧ W5.drewN n = w') := Lib.hid (fun n => by rw [← hch]; exact rcharged_tw (HP5.out.below (below_drewN (Below.refl _ _) n)).tw)
                  have C3 : Hid (∀ n, Calls Tryd.prog 22 #[.pointer (some ⟨B, 0, none⟩)] (W5.drewN n) fun e w' => e = .returned (.int .i64 lv) ∧ W5.drewN n = w') := Lib.hid (fun n => by rw [← hlv]; exact live_tw (HP5.out.below (below_drewN (Below.refl _ _) n)).tw)
                  have C4 : Hid (∀ n, Calls Tryd.prog 23 #[.pointer (some ⟨g', 0, none⟩)] (W5.drewN n) fun e w' => e = .returned (.int .i64 lv) ∧ W5.drewN n = w') := Lib.hid (fun n => by rw [← hlv]; exact rlive_tw (HP5.out.below (below_drewN (Below.refl _ _) n)).tw)
                  have C5 : Hid (∀ n, Calls Tryd.prog 24 #[.pointer (some ⟨B, 0, none⟩)] (W5.drewN n) fun e w' => e = .returned (.int .i64 lmx) ∧ W5.drewN n = w') := Lib.hid (fun n => by rw [← hlmx]; exact limit_tw (HP5.out.below (below_drewN (Below.refl _ _) n)).tw)
                  rw [hlmx] at rl
                  have n1 : (ch != ch) = false := by simp
                  have n2 : (lv != lv) = false := by simp
                  have n3 : (lmx != lmx) = false := by simp
                  clear P5 hch hlv hlmx d0
                  go_wp2_with fail
                  go_quiet (first
                    | (go_at_call 20; exact Calls.quiet_of_same ((C1.out _).mono fun _ _ h => ⟨h.1, h.2.symm⟩))
                    | (go_at_call 21; exact Calls.quiet_of_same ((C2.out _).mono fun _ _ h => ⟨h.1, h.2.symm⟩))
                    | (go_at_call 22; exact Calls.quiet_of_same ((C3.out _).mono fun _ _ h => ⟨h.1, h.2.symm⟩))
                    | (go_at_call 23; exact Calls.quiet_of_same ((C4.out _).mono fun _ _ h => ⟨h.1, h.2.symm⟩))
                    | (go_at_call 24; exact Calls.quiet_of_same ((C5.out _).mono fun _ _ h => ⟨h.1, h.2.symm⟩)))
                  go_wp2_with fail
                  go_roundw
                  case rel => exact ⟨k + 1, _, _, by omega, by omega, by go_num, Lib.hid (HP5.out.below (below_drewN (Below.refl _ _) _))⟩
                  case measure => simp [intOf]; omega
        · have hex : decide (k < len) = false ∨ (decide (k < len) = true ∧ decide ((k : Int) < 40) = false) := by
            by_cases h : k < len
            · exact .inr ⟨by simpa using h, by simp; omega⟩
            · exact .inl (by simpa using h)
          clear hlt
          rcases hex with x1 | ⟨x1, x2⟩
          all_goals
            go_wp2_with fail
            go_ret
            exact ⟨rfl, HP.out.bel⟩
    · have hr2 : cc < 0 ∨ 16777216 < cc := by omega
      go_wp2_with fail
      refine (new_no cc _ hr2).mono ?_
      rintro e w' ⟨rfl, rfl⟩
      go_wp2_with fail
      refine (refNew_no cc _ hr2).mono ?_
      rintro e w' ⟨rfl, rfl⟩
      go_wp2_with fail
      go_ret
      exact ⟨rfl, bx⟩
end Go.Proofs.YtiandhfpdehicaaDoor
