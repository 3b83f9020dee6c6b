/- StorePlays: the walk. -/
import Derived.Test.YtglhebpblncjaaaDoorQRp
import Derived.Test.YtglhebpblncjaaaDoorStDeeds
import Derived.Deep.CutRange
import Derived.Deep.CutBlock
import Derived.Deep.RegionHeld3
import Derived.Test.YtglhebpblncjaaaDoorStBack
namespace Go.Proofs.YtglhebpblncjaaaDoor
open Go.RowKit
set_option linter.unusedVariables false

theorem mod6 (a : Int) (h0 : 0 ≤ a) : ∃ x : Nat, a.tmod 6 = (x : Int) ∧ x < 6 := ⟨(a % 6).toNat, by rw [Int.tmod_eq_emod_of_nonneg h0]; omega, by omega⟩
theorem mod5 (a : Int) (h0 : 0 ≤ a) : ∃ x : Nat, a.tmod 5 = (x : Int) ∧ x < 5 := ⟨(a % 5).toNat, by rw [Int.tmod_eq_emod_of_nonneg h0]; omega, by omega⟩
theorem mod600 (a : Int) (h0 : 0 ≤ a) : ∃ x : Nat, a.tmod 600 = (x : Int) ∧ x < 600 := ⟨(a % 600).toNat, by rw [Int.tmod_eq_emod_of_nonneg h0]; omega, by omega⟩
section
variable {w0 w w' : World} {B g hh m g' h' N : Nat} {q0 q1 : Nat} {dc : Array Value} {kd T : Int} {A : Option Addr} {n c : Nat} {l : List Int}
theorem Bo.below {K : List Nat} (b : Bo w0 B g hh m g' h' N K w) (hb : Below w.heap.size w w') : Bo w0 B g hh m g' h' N K w' := by
  obtain ⟨v, v2, S, L, b⟩ := b
  exact ⟨v, v2, S, L, b.below hb⟩
theorem Bo.set {K : List Nat} (b : Bo w0 B g hh m g' h' N K w) {q : Nat} (hq : q ∈ K) (i : Nat) (u : Value) : Bo w0 B g hh m g' h' N K (w.setCell ⟨q, i, none⟩ u) := by
  obtain ⟨v, v2, S, L, b⟩ := b
  exact ⟨v, v2, S, L, b.set hq i u⟩
theorem Bo.box {K : List Nat} (b : Bo w0 B g hh m g' h' N K w) (o : Obj) : Bo w0 B g hh m g' h' N (w.heap.size :: K) (w.alloc o) := by
  obtain ⟨v, v2, S, L, b⟩ := b
  exact ⟨v, v2, S, L, b.box o⟩
theorem Bo.sub {K K' : List Nat} (b : Bo w0 B g hh m g' h' N K w) (hs : ∀ k ∈ K', k ∈ K) : Bo w0 B g hh m g' h' N K' w := by
  obtain ⟨v, v2, S, L, b⟩ := b
  exact ⟨v, v2, S, L, b.sub hs⟩
theorem Bo.more {N' : Nat} {K : List Nat} (b : Bo w0 B g hh m g' h' N K w) (h : N ≤ N') : Bo w0 B g hh m g' h' N' K w := by
  obtain ⟨v, v2, S, L, b⟩ := b
  exact ⟨v, v2, S, L, b.more h⟩
theorem Bo.bl {K : List Nat} (b : Bo w0 B g hh m g' h' N K w) : B ≤ w.heap.size := by
  obtain ⟨v, v2, S, L, b⟩ := b
  exact b.st.bl
theorem Bo.bel {K : List Nat} (b : Bo w0 B g hh m g' h' N K w) : Below w0.heap.size w0 w := by
  obtain ⟨v, v2, S, L, b⟩ := b
  exact b.bel
end
/-- Both stores, the deed and its event in variables. -/
structure Pw (w0 : World) (B g hh m g' h' N : Nat) (q0 q1 : Nat) (dc : Array Value) (kd T : Int) (A : Option Addr) (n c : Nat) (l : List Int) (w : World) : Prop where
  bo : Bo w0 B g hh m g' h' N [q1, q0] w
  hd : Has w q0 37 dc
  ev : Has w q1 35 #[.int .i64 kd, .int .i64 T, .slice A n c]
  ly : Ly B [] w A l
  hq : B ≤ q1
  ne : q0 ≠ q1
section
variable {w0 w w' : World} {B g hh m g' h' N : Nat} {q0 q1 : Nat} {dc : Array Value} {kd T : Int} {A : Option Addr} {n c : Nat} {l : List Int}
theorem Ly.setq (h : Ly B [] w A l) (hq : B ≤ q1) (i : Nat) (u : Value) : Ly B [] (w.setCell ⟨q1, i, none⟩ u) A l := h.kp ⟨(Below.refl _ _).setCell hq u, fun k hk => by cases hk⟩
theorem Pw.kind (p : Pw w0 B g hh m g' h' N q0 q1 dc kd T A n c l w) (y : Int) : Pw w0 B g hh m g' h' N q0 q1 dc y T A n c l (w.setCell ⟨q1, 0, none⟩ (.int .i64 y)) :=
  ⟨p.bo.set (by simp) 0 _, (Below.heap_setCell _ _ _ _ p.ne).trans p.hd, p.ev.put 0 (.int .i64 y), p.ly.setq p.hq 0 _, p.hq, p.ne⟩
theorem Pw.cut (p : Pw w0 B g hh m g' h' N q0 q1 dc kd T A n c l w) (n8 : Nat) : Pw w0 B g hh m g' h' N q0 q1 dc kd T A n8 c (l.take n8) (w.setCell ⟨q1, 2, none⟩ (.slice A n8 c)) :=
  ⟨p.bo.set (by simp) 2 _, (Below.heap_setCell _ _ _ _ p.ne).trans p.hd, p.ev.put 2 (.slice A n8 c), ⟨(p.ly.setq p.hq 2 (.slice A n8 c)).li.take n8, fun hn => p.ly.bl fun e => hn (by rw [e]; simp)⟩, p.hq, p.ne⟩
theorem gV_le (l : List UInt8) : (gV l).length ≤ 8 := by
  unfold gV
  split
  · rename_i h
    rw [gvs_length]
    unfold gok at h
    exact (of_decide_eq_true h).2.1
  · simp
end
set_option maxHeartbeats 20000000 in
set_option maxRecDepth 100000 in
theorem plays_walk (room : Int) (A : Option Addr) (c : Nat) (l : List Dd) (w : World) (hr0 : 0 ≤ room) (hr1 : room ≤ 65535) (hD : Deeds w A l) (hlc : l.length ≤ c) (hcm : c ≤ maxLen) (ht : Tab w) (hT : Dbt w) :
    Calls Tryd.prog 3 #[.int .u16 room, .slice A l.length c] w fun e w' => e = .returned (.bool true) ∧ Below w.heap.size w w' := by
  have HT := Lib.hid ht
  have HD := Lib.hid hT
  have HDD := Lib.hid hD
  clear hD ht hT
  obtain ⟨len, hlen⟩ : ∃ len, l.length = len := ⟨_, rfl⟩
  have HL := Lib.hid hlen
  rw [hlen] at hlc ⊢
  clear hlen
  unfold maxLen at hcm
  obtain ⟨rm, hrm, hrmb⟩ := mod600 room hr0
  go_enter Tryd.func3, Tryd.ntmps3
  go_wp2_with fail
  refine (examples_any w HT.out HD.out).mono ?_
  rintro e w1 ⟨rfl, b1⟩
  have T1 := Lib.hid (HT.out.below b1)
  have D1 := Lib.hid (HD.out.below b1)
  have B1 := Lib.hid b1
  clear b1 HT HD
  go_wp2_with fail
  refine (new_sc (rm : Int) w1 (by omega) (by omega) T1.out D1.out).mono ?_
  rintro e w2 ⟨rfl, h2, b2⟩
  have H2 := Lib.hid h2
  have B2 := Lib.hid (B1.out.trans (b2.mono B1.out.size))
  have HB := Lib.hid (B1.out.size)
  clear b2 h2 T1 D1 B1
  generalize w1.heap.size = B at *
  go_wp2_with fail
  refine (refNew_yes (rm : Int) w2 (by omega) (by omega)).mono ?_
  rintro e w3 ⟨rfl, h3, b3⟩
  have bl2 := H2.out.bl
  have hg3 := h3.lt
  have R3 : Hid (RfAt w3 B w2.heap.size (.slice none 0 0) ⟨rm, rm, []⟩) := Lib.hid ⟨bl2, h3.ne, h3.wf, World.ownsRow_nil _ _ _ _, h3.blk⟩
  have H3 := Lib.hid (H2.out.fresh b3 (Nat.le_refl _) hg3)
  have B3 := Lib.hid (B2.out.trans (b3.mono B2.out.size))
  clear b3 h3 H2 B2 bl2 hg3
  generalize w2.heap.size = g' at *
  go_wp2_with fail
  refine (stnew_any H3.out (Tl.new _ _)).mono ?_
  rintro e w4 ⟨rfl, s4, b4⟩
  have S4 := Lib.hid s4
  have R4 := Lib.hid (R3.out.below b4)
  have B4 := Lib.hid (B3.out.trans (b4.mono B3.out.size))
  clear s4 b4 R3 H3 B3
  generalize w3.heap.size + 1 = hh at *
  generalize w3.heap.size = m at *
  go_wp2_with fail
  refine (rsnew_any R4.out S4.out.bl).mono ?_
  rintro e w5 ⟨rfl, r5, b5⟩
  have X0 : Hid (Bo w B B hh m g' w4.heap.size 0 [] w5) := Lib.hid ⟨_, _, _, [], (S4.out.tn (T := []) (K' := rK g' w4.heap.size (.slice none 0 0) (.slice none 0 0) ++ []) (.of_below b5) (fun k hk => by cases hk) (fun k hk => by
      have := r5.blk.lt
      simp [rK, Value.ownBlock] at hk
      rcases hk with e | e
      · exact .inl (by simp [e])
      · exact .inr (by omega))).1, r5, rfl, rfl, trivial, (fun k hk hn => by cases hn), B4.out.trans (b5.mono B4.out.size), HB.out⟩
  clear r5 b5 S4 R4 B4
  generalize w4.heap.size = h' at *
  go_wp2_with fail
  go_loopw [10] (fun i wr => ∃ k : Nat, k ≤ len ∧ k ≤ 40 ∧ i = .int .i64 k ∧ Hid (Bo w B B hh m g' h' k [] wr)) (fun i _ => 40 - (intOf i).toNat)
  case atStart => exact ⟨0, by omega, by omega, rfl, X0⟩
  case round =>
    rename World => wr
    clear X0
    obtain ⟨k, hk, hk40, rfl, HP⟩ := hrel
    by_cases hlt : k < len ∧ k < 40
    · obtain ⟨hl1, hl2⟩ := hlt
      have hkl : k < l.length := by rw [HL.out]; exact hl1
      obtain ⟨bb, off, LA, lc, rfl, hcs, hls1, hls2, hLL, hok⟩ := (HDD.out.below HP.out.bel) k l[k] (List.getElem?_eq_getElem hkl)
      have hLw : Lies w LA (ints (l[k]).ls) := by
        obtain ⟨b9, o9, LA9, lc9, e9, c9, -, -, h9, -⟩ := HDD.out k l[k] (List.getElem?_eq_getElem hkl)
        obtain ⟨rfl, rfl, -⟩ : b9 = bb ∧ o9 = off ∧ True := by cases e9; exact ⟨rfl, rfl, trivial⟩
        have x1 := c9 5 _ rfl
        have x2 := hcs 5 _ rfl
        have x3 := HP.out.bel.cell (World.block_lt_of_cell? _ _ x1)
        rw [x3, x1] at x2
        have x4 : Value.slice LA9 l[k].ls.length lc9 = Value.slice LA l[k].ls.length lc := Option.some.inj x2
        rw [← (Value.slice.inj x4).1]
        exact h9
      generalize l[k] = d at *
      obtain ⟨dk, da, dx, dd, dt, ls⟩ := d
      have cd0 : wr.cell? ⟨bb, off + k * 6, none⟩ = some (.int .u8 dk) := hcs 0 (.int .u8 dk) rfl
      have cd1 : wr.cell? ⟨bb, off + k * 6 + 1, none⟩ = some (.int .u8 da) := hcs 1 (.int .u8 da) rfl
      have cd2 : wr.cell? ⟨bb, off + k * 6 + 2, none⟩ = some (.int .i64 dx) := hcs 2 (.int .i64 dx) rfl
      have cd3 : wr.cell? ⟨bb, off + k * 6 + 3, none⟩ = some (.int .i64 dd) := hcs 3 (.int .i64 dd) rfl
      have cd4 : wr.cell? ⟨bb, off + k * 6 + 4, none⟩ = some (.int .i64 dt) := hcs 4 (.int .i64 dt) rfl
      have cd5 : wr.cell? ⟨bb, off + k * 6 + 5, none⟩ = some (.slice LA ls.length lc) := hcs 5 (.slice LA ls.length lc) rfl
      obtain ⟨⟨k0, k1⟩, ⟨a0, a1⟩, ⟨s0, s1⟩, ⟨d0, d1⟩, ⟨t0, t1⟩⟩ := hok
      dsimp only at k0 k1 a0 a1 s0 s1 d0 d1 t0 t1 hls1 hLL hLw
      have hkli : (k : Int) < (len : Int) := by omega
      have hk4b : decide ((k : Int) < 40) = true := decide_eq_true (by omega)
      have hklb : decide (k < len) = true := decide_eq_true hl1
      obtain ⟨sn, hsn⟩ : ∃ n, ls.length = n := ⟨_, rfl⟩
      rw [hsn] at cd5 hls1
      have hLy : Ly B [] wr LA ls := ⟨hLL, fun hn x hx => .inl (by have := low_of hLw hn x hx; have := HB.out; omega)⟩
      have HSN := Lib.hid hsn
      have HLY := Lib.hid (hLy.below ((Below.refl _ _).alloc (Nat.le_refl _) (.cells #[.int .u8 dk, .int .u8 da, .int .i64 dx, .int .i64 dd, .int .i64 dt, .slice LA sn lc] 37)))
      have HS := Lib.hid (HP.out.box (.cells #[.int .u8 dk, .int .u8 da, .int .i64 dx, .int .i64 dd, .int .i64 dt, .slice LA sn lc] 37))
      have HD1 : Hid (Has (wr.alloc (.cells #[.int .u8 dk, .int .u8 da, .int .i64 dx, .int .i64 dd, .int .i64 dt, .slice LA sn lc] 37)) wr.heap.size 37 #[.int .u8 dk, .int .u8 da, .int .i64 dx, .int .i64 dd, .int .i64 dt, .slice LA sn lc]) := Lib.hid (heap_alloc_new wr _)
      have HP0 := Lib.hid HP.out
      clear hcs HP hkl HDD hLL hLw hLy hsn
      unfold maxLen at hls2
      go_upto_region 14 with fail
      clear cd0 cd1 cd2 cd3 cd4 cd5
      have hq0 : B ≤ wr.heap.size := HP0.out.bl
      generalize wr.alloc (.cells #[.int .u8 dk, .int .u8 da, .int .i64 dx, .int .i64 dd, .int .i64 dt, .slice LA sn lc] 37) = W1 at *
      generalize wr.heap.size = q0 at *
      clear HP0
      have d0 : W1.cell? ⟨q0, 0, none⟩ = some (.int .u8 dk) := HD1.out.cell 0
      have d1 : W1.cell? ⟨q0, 1, none⟩ = some (.int .u8 da) := HD1.out.cell 1
      have d2 : W1.cell? ⟨q0, 2, none⟩ = some (.int .i64 dx) := HD1.out.cell 2
      have d3 : W1.cell? ⟨q0, 3, none⟩ = some (.int .i64 dd) := HD1.out.cell 3
      have d4 : W1.cell? ⟨q0, 4, none⟩ = some (.int .i64 dt) := HD1.out.cell 4
      have d5 : W1.cell? ⟨q0, 5, none⟩ = some (.slice LA sn lc) := HD1.out.cell 5
      obtain ⟨x6, hx6, hx6b⟩ := mod6 da a0
      go_upto_if 60 with fail
      go_cut [12] (fun t wx => ∃ id : Int, Hid (I64 id) ∧ t = .int .i64 id ∧ wx = W1)
      case first =>
        by_cases h240 : 240 < da
        · have e1 : decide (240 < da) = true := decide_eq_true h240
          go_wp2_with fail
          go_meet
          exact ⟨_, Lib.hid (by unfold I64; omega), rfl, rfl⟩
        · have e1 : decide (240 < da) = false := decide_eq_false h240
          go_wp2_with fail
          go_meet
          exact ⟨_, Lib.hid (by unfold I64; omega), rfl, rfl⟩
      case rest =>
        obtain ⟨id, HI, rfl, rfl⟩ := hcut
        rename World => W1
        clear hx6 hx6b x6
        have idb := HI.out
        unfold I64 at idb
        have HPW : Hid (Pw w B B hh m g' h' k q0 W1.heap.size #[.int .u8 dk, .int .u8 da, .int .i64 dx, .int .i64 dd, .int .i64 dt, .slice LA sn lc] dd dt LA sn lc ls (W1.alloc (.cells #[.int .i64 dd, .int .i64 dt, .slice LA sn lc] 35))) :=
          Lib.hid ⟨HS.out.box _, (Below.heap_alloc _ _ _ HD1.out.lt).trans HD1.out, heap_alloc_new _ _, HLY.out.below ((Below.refl _ _).alloc (Nat.le_refl _) _), by have := HD1.out.lt; omega, by have := HD1.out.lt; omega⟩
        clear HS HLY
        have da0 := HPW.out.hd.cell 0
        simp only [List.getElem?_toArray, List.getElem?_cons_zero] at da0
        go_upto_if 67 with fail
        clear d0 d1 d2 d3 d4 d5 HD1
        generalize W1.alloc (.cells #[.int .i64 dd, .int .i64 dt, .slice LA sn lc] 35) = W2 at *
        generalize W1.heap.size = q1 at *
        clear da0
        go_cut [67] from 68 to 81 (fun _ wx => ∃ (kd : Int) (n8 : Nat), Hid (I64 kd) ∧ n8 ≤ sn ∧ Hid ((ls.take n8).length = n8) ∧ Hid (Pw w B B hh m g' h' k q0 q1 #[.int .u8 dk, .int .u8 da, .int .i64 dx, .int .i64 dd, .int .i64 dt, .slice LA sn lc] kd dt LA n8 lc (ls.take n8) wx))
        case first =>
          by_cases h200 : dk < 200
          · have e1 : decide (dk < 200) = true := decide_eq_true h200
            obtain ⟨U, hU⟩ : ∃ U : Nat, IntKind.u64.wrap dd = (U : Int) := ⟨_, wrap_u64n dd⟩
            obtain ⟨y, hy, hy2⟩ : ∃ y : Nat, (U : Int).tmod 3 = (y : Int) ∧ y < 3 := ⟨U % 3, by rw [Int.tmod_eq_emod_of_nonneg (by omega)]; omega, by omega⟩
            obtain ⟨v0, v1, v2⟩ := HPW.out.ev.three
            have f0 := HPW.out.ev.free 0
            have P1 := Lib.hid (HPW.out.kind (y : Int))
            have v21 : (W2.setCell ⟨q1, 0, none⟩ (.int .i64 (y : Int))).cell? ⟨q1, 2, none⟩ = some (.slice LA sn lc) := P1.out.ev.three.2.2
            have f21 := P1.out.ev.free 2
            have HY : Hid (I64 (y : Int)) := Lib.hid (i64_small (by omega))
            by_cases h8 : sn ≤ 8
            · have hmn : (sn : Int) ≤ 8 := by omega
              have P2 := Lib.hid (P1.out.cut sn)
              clear HPW P1
              go_wp2_with fail
              go_meet
              exact ⟨_, sn, HY, Nat.le_refl _, Lib.hid (by rw [List.length_take, HSN.out]; omega), P2⟩
            · have hmn : 8 < (sn : Int) := by omega
              have hmn2 : 8 ≤ lc := by omega
              have P2 := Lib.hid (P1.out.cut 8)
              clear HPW P1
              go_wp2_with fail
              go_meet
              exact ⟨_, 8, HY, by omega, Lib.hid (by rw [List.length_take, HSN.out]; omega), P2⟩
          · have e1 : decide (dk < 200) = false := decide_eq_false h200
            have htk : ls.take sn = ls := List.take_of_length_le (by rw [HSN.out]; omega)
            go_wp2_with fail
            go_meet
            exact ⟨dd, sn, Lib.hid ⟨d0, d1⟩, Nat.le_refl _, Lib.hid (by rw [htk]; exact HSN.out), by rw [htk]; exact HPW⟩
        case rest =>
          rename World => W3
          obtain ⟨kd, n8, HKD, hn8, HL8, HPW⟩ := hcut
          have hm8 : n8 ≤ maxLen := by unfold maxLen; omega
          have HM8 := Lib.hid hm8
          clear HSN hm8
          generalize ls.take n8 = l8 at *
          clear hn8 hls1 hls2
          have d0 : W3.cell? ⟨q0, 0, none⟩ = some (.int .u8 dk) := HPW.out.hd.cell 0
          obtain ⟨x5, hx5, hx5b⟩ := mod5 dk k0
          go_upto_block 2 with fail
          clear hx5 d0
          go_cut [14] (fun t wx => t = .bool true ∧ Hid (Bo w B B hh m g' h' (k + 1) [q1, q0] wx))
          case first => as_aux_lemma =>
            have hcs : (x5 = 0 ∨ x5 = 4) ∨ x5 = 1 ∨ x5 = 2 ∨ x5 = 3 := by omega
            clear hx5b
            obtain ⟨v, v2, S, L, hb⟩ := HPW.out.bo
            have HB2 := Lib.hid hb
            clear hb
            rcases hcs with (rfl | rfl) | rfl | rfl | rfl
            iterate 2
              · -- Put
                have C3 : Hid (W3.drew.cell? ⟨q1, 0, none⟩ = some (.int .i64 kd) ∧ W3.drew.cell? ⟨q1, 1, none⟩ = some (.int .i64 dt) ∧ W3.drew.cell? ⟨q1, 2, none⟩ = some (.slice LA n8 lc)) := Lib.hid HPW.out.ev.three
                have EV3 : Hid (Has W3.drew q1 35 #[.int .i64 kd, .int .i64 dt, .slice LA n8 lc]) := Lib.hid HPW.out.ev
                have pt := put_both HB2.out.drew (by omega) id HI.out kd dt LA n8 lc l8 HKD.out HL8.out HM8.out (HPW.out.ly.below (Below.refl _ _).drew)
                unfold ev at pt
                have PT := Lib.hid pt
                clear pt HPW HB2
                go_wp2_with fail
                go_region_held3 (fun w' => w'.cell? ⟨q1, 0, none⟩ = some (.int .i64 kd) ∧ w'.cell? ⟨q1, 1, none⟩ = some (.int .i64 dt) ∧ w'.cell? ⟨q1, 2, none⟩ = some (.slice LA n8 lc))
                  (first | with_reducible exact C5.out | with_reducible exact C4.out | with_reducible exact C3.out)
                  (first
                    | (go_at_call 12; refine PT.out.mono ?_; rintro e w4 ⟨p, rfl, k4, s4⟩; have EV4 := Lib.hid (k4.has (by simp) EV3.out); have C4 : Hid (w4.cell? ⟨q1, 0, none⟩ = some (.int .i64 kd) ∧ w4.cell? ⟨q1, 1, none⟩ = some (.int .i64 dt) ∧ w4.cell? ⟨q1, 2, none⟩ = some (.slice LA n8 lc)) := Lib.hid EV4.out.three; have S4 := Lib.hid s4; have hbb : (p == p) = true := (by simp); clear k4 s4)
                    | (go_at_call 13; refine S4.out.calls.mono ?_; rintro e w5 ⟨rfl, bo5, k5⟩; have C5 : Hid (w5.cell? ⟨q1, 0, none⟩ = some (.int .i64 kd) ∧ w5.cell? ⟨q1, 1, none⟩ = some (.int .i64 dt) ∧ w5.cell? ⟨q1, 2, none⟩ = some (.slice LA n8 lc)) := Lib.hid (k5.has (by simp) EV4.out).three; have BO := Lib.hid bo5; clear k5 bo5))
                go_wp2_with fail
                go_meet
                exact ⟨rfl, BO⟩
            · -- Hold
              have HC := Lib.hid (hold_both HB2.out (by omega) id HI.out)
              clear HPW HB2
              go_wp2_with fail
              refine HC.out.mono ?_
              rintro e w4 ⟨bo, rfl, hsnd⟩
              have HSD := Lib.hid hsnd
              have hbb : (bo == bo) = true := by simp
              clear hsnd HC
              go_wp2_with fail
              refine HSD.out.calls.mono ?_
              rintro e w5 ⟨rfl, hbo⟩
              have BO := Lib.hid hbo
              clear hbo HSD
              go_wp2_with fail
              go_meet
              exact ⟨rfl, BO⟩
            · -- Drop
              have HC := Lib.hid (drop_both HB2.out (by omega) id HI.out)
              clear HPW HB2
              go_wp2_with fail
              refine HC.out.mono ?_
              rintro e w4 ⟨bo, rfl, hsnd⟩
              have HSD := Lib.hid hsnd
              have hbb : (bo == bo) = true := by simp
              clear hsnd HC
              go_wp2_with fail
              refine HSD.out.calls.mono ?_
              rintro e w5 ⟨rfl, hbo⟩
              have BO := Lib.hid hbo
              clear hbo HSD
              go_wp2_with fail
              go_meet
              exact ⟨rfl, BO⟩
            · -- Get
              have hgt := stget_any HB2.out.st id HI.out
              have hlv := gV_le (sbyt S id)
              have HSB := Lib.hid (fun (u : World) (b : Bt w B B hh m g' h' v v2 k S L [q1, q0] u) => rsget_any b.rs id (congrFun b.ff id) b.st.tl)
              unfold StGot at hgt
              unfold RGot at HSB
              obtain ⟨K, hK⟩ : ∃ K, gK (sbyt S id) = K := ⟨_, rfl⟩
              obtain ⟨T, hTT⟩ : ∃ T, gT (sbyt S id) = T := ⟨_, rfl⟩
              obtain ⟨G, hG⟩ : ∃ G, gok (sbyt S id) = G := ⟨_, rfl⟩
              rw [hK, hTT, hG] at hgt HSB
              generalize gV (sbyt S id) = lv at *
              obtain ⟨nv, hnv⟩ : ∃ n, lv.length = n := ⟨_, rfl⟩
              rw [hnv] at hgt HSB hlv
              have HNV := Lib.hid hnv
              have HLV := Lib.hid hlv
              have HGT := Lib.hid hgt
              clear hK hTT hG hnv hlv hgt HPW
              unfold ev at HGT HSB
              go_wp2_with fail
              refine HGT.out.mono ?_
              rintro e w4 ⟨Z, rfl, b4, l4, -⟩
              have bx := (Below.refl w4.heap.size w4).alloc (Nat.le_refl _) (.cells #[.int .i64 K, .int .i64 T, .slice Z nv nv] 35)
              have HB4 := Lib.hid (HB2.out.below (Below.step b4 bx (Nat.le_refl _)))
              have E4 : Hid (Has (w4.alloc (.cells #[.int .i64 K, .int .i64 T, .slice Z nv nv] 35)) w4.heap.size 35 #[.int .i64 K, .int .i64 T, .slice Z nv nv]) := Lib.hid (heap_alloc_new w4 _)
              have L4 := Lib.hid (l4.alloc (.cells #[.int .i64 K, .int .i64 T, .slice Z nv nv] 35))
              clear b4 l4 bx HGT HB2
              go_wp2_with fail
              generalize w4.alloc (.cells #[.int .i64 K, .int .i64 T, .slice Z nv nv] 35) = w5 at *
              generalize w4.heap.size = z1 at *
              refine (HSB.out w5 HB4.out).mono ?_
              rintro e w6 ⟨Z2, c2, rfl, b6, l6⟩
              have bx := (Below.refl w6.heap.size w6).alloc (Nat.le_refl _) (.cells #[.int .i64 K, .int .i64 T, .slice Z2 nv c2] 42)
              have b7 := Below.step b6 bx (Nat.le_refl _)
              have HB6 := Lib.hid (HB4.out.below b7)
              have E6 := Lib.hid (E4.out.next b7)
              have L6 := Lib.hid (L4.out.below b7)
              have F6 : Hid (Has (w6.alloc (.cells #[.int .i64 K, .int .i64 T, .slice Z2 nv c2] 42)) w6.heap.size 42 #[.int .i64 K, .int .i64 T, .slice Z2 nv c2]) := Lib.hid (heap_alloc_new w6 _)
              have M6 := Lib.hid (l6.alloc (.cells #[.int .i64 K, .int .i64 T, .slice Z2 nv c2] 42))
              clear b6 l6 bx b7 HSB HB4 E4 L4
              have hgg : (G == G) = true := by simp
              go_upto_region 33 with fail
              generalize w6.alloc (.cells #[.int .i64 K, .int .i64 T, .slice Z2 nv c2] 42) = w7 at *
              generalize w6.heap.size = z2 at *
              obtain ⟨x0, x1, x2⟩ := E6.out.three
              obtain ⟨y0, y1, y2⟩ := F6.out.three
              have hnm := HLV.out
              have sm := rsame_any K T K T Z Z2 nv nv nv c2 lv lv w7 HNV.out HNV.out (by unfold maxLen; omega) (by unfold maxLen; omega) L6.out M6.out
              rw [same_self] at sm
              unfold ev at sm
              have SM := Lib.hid sm
              clear sm E6 F6 L6 M6
              go_wp2_with fail
              refine SM.out.mono ?_
              rintro e w8 ⟨rfl, b8⟩
              have BO : Hid (Bo w B B hh m g' h' (k + 1) [q1, q0] w8) := Lib.hid ⟨_, _, _, _, (HB6.out.below b8).more (by omega)⟩
              clear b8 HB6 SM
              go_wp2_with fail
              go_meet
              exact ⟨rfl, BO⟩
          case rest => as_aux_lemma =>
            obtain ⟨rfl, HBO⟩ := hcut
            rename World => W4
            clear HPW hx5b HL8 HM8 HKD
            obtain ⟨v, v2, S, L, b⟩ := HBO.out
            have c1 := stcount_any b.st id HI.out
            have c2 := rcount_any b.rs id
            rw [← b.ff] at c2
            have n1 := stlen_any b.st
            have n2 := rlen_any b.rs
            rw [← b.nn] at n2
            have h1 := charged_sc b.st.sc
            have h2 := refCharged_any b.rs.rf
            unfold scnt at c1
            have X1 : Hid (Bo w B B hh m g' h' (k + 1) [] W4) := Lib.hid (HBO.out.sub fun q hq => by cases hq)
            clear b HBO
            generalize ((S.f id).getD zc).t = x at *
            generalize chg S.s.l = y at *
            generalize S.n = z at *
            have C1 := Lib.hid c1
            have C2 := Lib.hid c2
            have N1 := Lib.hid n1
            have N2 := Lib.hid n2
            have H1 := Lib.hid h1
            have H2 := Lib.hid h2
            have m1 : (x != x) = false := by simp
            have m2 : (y != y) = false := by simp
            have m3 : ((z : Int) != (z : Int)) = false := by simp
            clear c1 c2 n1 n2 h1 h2
            go_wp2_with fail
            refine C1.out.mono ?_
            rintro e w5 ⟨rfl, rfl⟩
            go_wp2_with fail
            refine C2.out.mono ?_
            rintro e w5 ⟨rfl, rfl⟩
            go_wp2_with fail
            refine N1.out.mono ?_
            rintro e w5 ⟨rfl, rfl⟩
            go_wp2_with fail
            refine N2.out.mono ?_
            rintro e w5 ⟨rfl, rfl⟩
            go_wp2_with fail
            refine H1.out.mono ?_
            rintro e w5 ⟨rfl, rfl⟩
            go_wp2_with fail
            refine H2.out.mono ?_
            rintro e w5 ⟨rfl, rfl⟩
            clear C1 C2 N1 N2 H1 H2
            go_wp2_with fail
            go_roundw
            case rel => exact ⟨k + 1, by omega, by omega, by go_num, X1⟩
            case measure => simp [intOf]; omega
    · have hex : decide (k < len) = false ∨ (decide (k < len) = true ∧ decide ((k : Int) < 40) = false) := by
        by_cases h : k < len
        · exact .inr ⟨by simpa using h, by simp; omega⟩
        · exact .inl (by simpa using h)
      clear hlt
      have BE : Hid (Below w.heap.size w wr) := Lib.hid HP.out.bel
      clear HP HDD HL
      rcases hex with x1 | ⟨x1, x2⟩
      all_goals
        as_aux_lemma =>
          go_wp2
          go_ret
          exact ⟨rfl, BE.out⟩
end Go.Proofs.YtglhebpblncjaaaDoor
