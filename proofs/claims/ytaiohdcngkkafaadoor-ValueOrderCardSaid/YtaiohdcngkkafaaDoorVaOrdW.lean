/- ValueOrder's walk. -/
import Derived.Test.YtaiohdcngkkafaaDoorVaNear
namespace Go.Proofs.YtaiohdcngkkafaaDoor
open Go.RowKit
set_option linter.unusedVariables false

abbrev bools (l : List Bool) : List Value := l.map Value.bool
theorem bools_one (l : List Bool) : ∀ u ∈ bools l, u.oneCell' = true := by
  intro u hu
  simp only [bools, List.mem_map] at hu
  obtain ⟨x, _, rfl⟩ := hu
  rfl
theorem info_bool : (Tryd.prog.info? 4).map (fun i => (i.zero, i.size, i.bytes)) = some (some (.bool false), 1, 1) := by kernel_rfl
theorem app_bools (w : World) (base : Nat) (v : Value) (n : Nat) (xs ys : List Bool) (hown : w.ownsRow base 4 1 v n (bools xs)) (A : Option Addr) (m c : Nat) (hl : ys.length = m) (hlies : Lies w A (bools ys)) (hnil : A = none → c = 0)
    (hsmall : n + m ≤ 100000) (hbase : base ≤ w.heap.size) :
    ∃ v' w', (Builtin.append_ #[73, 73] 73 #[v, .slice A m c]).run Tryd.prog w = .ok v' w' ∧ w'.ownsRow base 4 1 v' (n + m) (bools (xs ++ ys)) ∧ w.grownBy w' v.ownBlock ∧ (v'.ownBlock = v.ownBlock ∨ v'.ownBlock = some w.heap.size) := by
  obtain ⟨i0, hi, hz0, hz1, hz2⟩ := info_parts info_bool
  obtain ⟨v', w', h1, h2, h3, h4⟩ := run_app (P := Tryd.prog) w base 73 73 4 i0 (.bool false) 1 Tryd.underlying73 hi hz0 hz1 hz2 rfl v n (bools xs) hown A m c (bools ys) (by simpa using hl) hlies hnil (bools_one ys) (by unfold maxLen; omega) (by omega) hbase
  exact ⟨v', w', h1, by simpa [bools] using h2, h3, h4⟩
theorem own_below {w w' : World} {base n : Nat} {e : TypeId} {v : Value} {xs : List Value} (h : w.ownsRow base e 1 v n xs) (hb : Below w.heap.size w w') : w'.ownsRow base e 1 v n xs :=
  h.kept (row := none) ⟨hb.os, hb.tape, hb.output, hb.size, fun k hk _ => hb.block k hk⟩ (by cases hv : v.ownBlock <;> simp)
theorem below_dr {B : Nat} {a w : World} (h : Below B a w) (n : Nat) : Below B a (w.drewN n) := ⟨h.os, h.tape, h.output, h.size, h.block⟩
/-- The six comparisons, and what they tell. -/
def ops6 : List Nm := [[60], [61, 61], [62], [60, 61], [33, 61], [62, 61]]
def res6 (a b : Int) : List Bool := ops6.map fun o => cmpV o a b
abbrev obd (N : Nat) (a b : Int) : Bd := ⟨[97], some ⟨N, 0, none⟩, [[120], [121]], 2, some ⟨N + 1, 0, none⟩, [a, b], 2⟩
abbrev oT (N : Nat) (op : Nm) : ET := .mk 3 op 0 [] [] (some ⟨N + 1 + 1 + 1, 0, none⟩) 2 [rf [97] [120], rf [97] [121]]
theorem ord_look (N : Nat) (a b : Int) : lookV [obd N a b] [97] [120] = (a, true) ∧ lookV [obd N a b] [97] [121] = (b, true) := ⟨by kernel_rfl, by kernel_rfl⟩
theorem ord_bin (N : Nat) (a b : Int) (op : Nm) (h1 : operV op a b = (.t (cmpV op a b), false)) (h2 : typeT (oT N op) = 2) : holdsV [obd N a b] (oT N op) = cmpV op a b := by
  have e : rk [obd N a b] (oT N op) = (.t (cmpV op a b), false) := by
    rw [rk_3, rf, rf, rk_1, rk_1, (ord_look N a b).1, (ord_look N a b).2, binV]
    simp only
    rw [h1]
    rfl
  rw [holdsV, evV, h2, e]
  cases cmpV op a b <;> rfl
theorem ord_at (N : Nat) (a b : Int) : ∀ j, j < 6 → ∃ op, ops6[j]? = some op ∧ op.length ≤ 10 ∧ holdsV [obd N a b] (oT N op) = cmpV op a b
  | 0, _ => ⟨_, rfl, by decide, ord_bin N a b _ rfl (by kernel_rfl)⟩
  | 1, _ => ⟨_, rfl, by decide, ord_bin N a b _ rfl (by kernel_rfl)⟩
  | 2, _ => ⟨_, rfl, by decide, ord_bin N a b _ rfl (by kernel_rfl)⟩
  | 3, _ => ⟨_, rfl, by decide, ord_bin N a b _ rfl (by kernel_rfl)⟩
  | 4, _ => ⟨_, rfl, by decide, ord_bin N a b _ rfl (by kernel_rfl)⟩
  | 5, _ => ⟨_, rfl, by decide, ord_bin N a b _ rfl (by kernel_rfl)⟩
  | n + 6, h => absurd h (by omega)
theorem take_next {α : Type} {l : List α} {k : Nat} {x : α} (h : l[k]? = some x) : l.take (k + 1) = l.take k ++ [x] := by
  have hk : k < l.length := by
    rcases Nat.lt_or_ge k l.length with h1 | h1
    · exact h1
    · rw [List.getElem?_eq_none h1] at h; cases h
  rw [List.take_succ_eq_append_getElem hk]
  rw [List.getElem?_eq_getElem hk] at h
  rw [Option.some.inj h]
/-- What the statement makes ahead of its loop. -/
abbrev ordW (w : World) (a b : Int) : World := ((((w.alloc (.cells #[.string { data := #[120] }, .string { data := #[121] }] 9)).alloc (.cells #[.int .i64 a, .int .i64 b] 2)).alloc (.cells (bc1 (obd w.heap.size a b)) 71)).alloc (.cells (cs2 (rf [97] [120]) (rf [97] [121])) 24)).alloc (.cells #[.string { data := #[60] }, .string { data := #[61, 61] }, .string { data := #[62] }, .string { data := #[60, 61] }, .string { data := #[33, 61] }, .string { data := #[62, 61] }] 9)
structure Ord (N : Nat) (a b : Int) (w : World) : Prop where
  bds : Bds w (some ⟨N + 1 + 1, 0, none⟩) 1 [obd N a b]
  kids : Has w (N + 1 + 1 + 1) 24 (cs2 (rf [97] [120]) (rf [97] [121]))
  ops : Strs w (some ⟨N + 1 + 1 + 1 + 1, 0, none⟩) 6 ops6
  tabs : Tabs8 w
theorem Ord.below {N : Nat} {a b : Int} {w w' : World} (h : Ord N a b w) (hb : Below w.heap.size w w') : Ord N a b w' := ⟨h.bds.below hb, h.kids.below hb h.kids.lt, h.ops.below hb, h.tabs.below hb⟩
theorem ord_of (w : World) (a b : Int) (hT : Tabs8 w) : Ord w.heap.size a b (ordW w a b) ∧ Below w.heap.size w (ordW w a b) := by
  have s1 := step1 w (.cells #[.string { data := #[120] }, .string { data := #[121] }] 9)
  have h1 := strs_new w [[120], [121]] 9 (by simp)
  rw [show ((([[120], [121]] : List Nm).map fun s => Value.string (str s)).toArray) = #[.string { data := #[120] }, .string { data := #[121] }] from rfl] at h1
  obtain ⟨W1, hW1⟩ : ∃ W, w.alloc (.cells #[.string { data := #[120] }, .string { data := #[121] }] 9) = W := ⟨_, rfl⟩
  have z1 : W1.heap.size = w.heap.size + 1 := by rw [← hW1]; simp
  rw [hW1] at s1 h1
  have s2 := step1 W1 (.cells #[.int .i64 a, .int .i64 b] 2)
  have h2 := nums_new W1 [a, b] 2 (by simp)
  rw [show ((([a, b] : List Int).map (Value.int .i64)).toArray) = #[.int .i64 a, .int .i64 b] from rfl, z1] at h2
  obtain ⟨W2, hW2⟩ : ∃ W, W1.alloc (.cells #[.int .i64 a, .int .i64 b] 2) = W := ⟨_, rfl⟩
  have z2 : W2.heap.size = w.heap.size + 1 + 1 := by rw [← hW2, ← z1]; simp
  rw [hW2] at s2 h2
  have s3 := step1 W2 (.cells (bc1 (obd w.heap.size a b)) 71)
  have h3 : Has (W2.alloc (.cells (bc1 (obd w.heap.size a b)) 71)) (w.heap.size + 1 + 1) 71 (bc1 (obd w.heap.size a b)) := has_at rfl z2.symm
  obtain ⟨W3, hW3⟩ : ∃ W, W2.alloc (.cells (bc1 (obd w.heap.size a b)) 71) = W := ⟨_, rfl⟩
  have z3 : W3.heap.size = w.heap.size + 1 + 1 + 1 := by rw [← hW3, ← z2]; simp
  rw [hW3] at s3 h3
  have hb3 : Bds W3 (some ⟨w.heap.size + 1 + 1, 0, none⟩) 1 [obd w.heap.size a b] := bds1 h3 ((h1.below s2).below s3) (h2.below s3)
  have s4 := step1 W3 (.cells (cs2 (rf [97] [120]) (rf [97] [121])) 24)
  have h4 : Has (W3.alloc (.cells (cs2 (rf [97] [120]) (rf [97] [121])) 24)) (w.heap.size + 1 + 1 + 1) 24 (cs2 (rf [97] [120]) (rf [97] [121])) := has_at rfl z3.symm
  obtain ⟨W4, hW4⟩ : ∃ W, W3.alloc (.cells (cs2 (rf [97] [120]) (rf [97] [121])) 24) = W := ⟨_, rfl⟩
  have z4 : W4.heap.size = w.heap.size + 1 + 1 + 1 + 1 := by rw [← hW4, ← z3]; simp
  rw [hW4] at s4 h4
  have s5 := step1 W4 (.cells ((ops6.map fun s => Value.string (str s)).toArray) 9)
  have h5 := strs_new W4 ops6 9 (by decide)
  rw [z4] at h5
  have he : ordW w a b = W4.alloc (.cells ((ops6.map fun s => Value.string (str s)).toArray) 9) := by rw [← hW4, ← hW3, ← hW2, ← hW1]; rfl
  rw [he]
  have t1' := s1.trans (s2.mono s1.size)
  have t2' := t1'.trans (s3.mono t1'.size)
  have t3' := t2'.trans (s4.mono t2'.size)
  have t4' := t3'.trans (s5.mono t3'.size)
  exact ⟨⟨(hb3.below s4).below s5, h4.below s5 h4.lt, h5, hT.below t4'⟩, t4'⟩
theorem Ord.tree {N : Nat} {a b : Int} {w : World} (h : Ord N a b w) (op : Nm) (ho : op.length ≤ 10) : (oT N op).In w := in2 3 op 0 [] [] 2 h.kids (in_rf _ _ _ (by simp) (by simp)) (in_rf _ _ _ (by simp) (by simp)) (okE_small _ _ _ _ ho (by omega) (by omega))
theorem obd64 {N : Nat} {a b : Int} (ha : in64 a) (hb : in64 b) : Bd64 [obd N a b] := by
  intro x hx n hn
  simp at hx
  subst hx
  simp at hn
  rcases hn with rfl | rfl <;> assumption
theorem res_at {a b : Int} {j : Nat} {op : Nm} (h : ops6[j]? = some op) : (res6 a b)[j]? = some (cmpV op a b) := by rw [res6, List.getElem?_map, h]; rfl
theorem res_all (a b : Int) : res6 a b = [decide (a < b), a == b, decide (b < a), decide (a ≤ b), a != b, decide (b ≤ a)] := rfl
theorem res_not0 (a b : Int) : decide (a ≤ b) = !decide (b < a) ∧ (a != b) = !(a == b) ∧ decide (b ≤ a) = !decide (a < b) := by
  refine ⟨?_, rfl, ?_⟩
  · by_cases h : b < a <;> simp [h] <;> omega
  · by_cases h : a < b <;> simp [h] <;> omega
theorem res_l (a b : Int) : res6 a b = [decide (a < b), a == b, decide (b < a), !decide (b < a), !(a == b), !decide (a < b)] := by
  rw [res_all, (res_not0 a b).1, (res_not0 a b).2.1, (res_not0 a b).2.2]
theorem res_same (a : Int) : res6 a a = [false, true, false, !false, !true, !false] := by
  rw [res_l]; simp
set_option maxRecDepth 100000 in
set_option maxHeartbeats 16000000 in
theorem order_any (a b : Int) (same : Bool) (x y : Int) (ha : in64 a) (hb : in64 b) (hx : 0 ≤ x ∧ x ≤ 255) (hy : 0 ≤ y ∧ y ≤ 255) (w : World) (hT : Tabs8 w) :
    Calls Tryd.prog 13 #[.int .i64 a, .int .i64 b, .bool same, .int .u8 x, .int .u8 y] w fun e w' => e = .returned (.bool true) ∧ Below w.heap.size w w' := by
  obtain ⟨A, hA, na⟩ := near_any a x ha hx
  obtain ⟨B, hB, nb⟩ := near_any b y hb hy
  have HEX := Lib.hid (ex8_any w hT)
  have HNA := Lib.hid na
  have HNB := Lib.hid nb
  have HT := Lib.hid hT
  clear hT na nb ha hb hx hy
  cases same
  · have HI := Lib.hid (And.intro hA hB)
    clear hA hB
    go_enter Tryd.func13, Tryd.ntmps13
    go_wp2_with fail
    refine HEX.out.mono ?_
    rintro e w1 ⟨rfl, b1⟩
    go_wp2_with fail
    refine (HNA.out w1).mono ?_
    rintro e w2 ⟨rfl, b2⟩
    have b12 := b1.trans (b2.mono b1.size)
    go_wp2_with fail
    refine (HNB.out w2).mono ?_
    rintro e w3 ⟨rfl, b3⟩
    have b13 := b12.trans (b3.mono b12.size)
    obtain ⟨od, ob⟩ := ord_of w3 A B (HT.out.below b13)
    have HB := Lib.hid (b13.trans (ob.mono b13.size))
    have HO := Lib.hid od
    clear b1 b2 b12 b3 b13 od ob
    go_wp2_with fail
    obtain ⟨W, hW⟩ : ∃ W, ordW w3 A B = W := ⟨_, rfl⟩
    have hWl : ((((w3.alloc (.cells #[.string { data := #[120] }, .string { data := #[121] }] 9)).alloc (.cells #[.int .i64 A, .int .i64 B] 2)).alloc (.cells #[.string { data := #[97] }, .slice (some ⟨w3.heap.size, 0, none⟩) 2 2, .slice (some ⟨w3.heap.size + 1, 0, none⟩) 2 2] 71)).alloc (.cells #[.int .i64 1, .string { data := #[] }, .int .i64 0, .string { data := #[97] }, .string { data := #[120] }, .slice none 0 0, .int .i64 1, .string { data := #[] }, .int .i64 0, .string { data := #[97] }, .string { data := #[121] }, .slice none 0 0] 24)).alloc (.cells #[.string { data := #[60] }, .string { data := #[61, 61] }, .string { data := #[62] }, .string { data := #[60, 61] }, .string { data := #[33, 61] }, .string { data := #[62, 61] }] 9) = W := hW
    rw [hW] at HB HO
    rw [hWl]
    clear hW hWl
    obtain ⟨N, hN⟩ : ∃ N, w3.heap.size = N := ⟨_, rfl⟩
    rw [hN] at HO ⊢
    clear hN
    go_loopw [14, 16] (fun v i wr => ∃ k : Nat, k ≤ 6 ∧ i = .int .i64 k ∧ wr.ownsRow W.heap.size 4 1 v k (bools ((res6 A B).take k)) ∧ Below W.heap.size W wr) (fun _ i _ => 6 - (intOf i).toNat)
    case atStart => exact ⟨0, by omega, rfl, World.ownsRow_nil _ _ _ _, Below.refl _ _⟩
    case round =>
      obtain ⟨k, hk, rfl, hown, hbw⟩ := hrel
      have HQ := Lib.hid hown
      have HBW := Lib.hid hbw
      have HOR := Lib.hid (HO.out.below hbw)
      clear hown hbw
      by_cases hlt : k < 6
      · obtain ⟨op, ho1, ho2, ho3⟩ := ord_at N A B k hlt
        have hop : wr.cell? ⟨N + 1 + 1 + 1 + 1, k, none⟩ = some (.string (str op)) := by
          obtain ⟨x, e, hx⟩ := HOR.out.ops.1 k (.string (str op)) (by rw [List.getElem?_map, ho1]; rfl)
          cases e
          rw [Go.WideShapes.add_plain, Nat.zero_add] at hx
          exact hx
        have hcall := holds_any (obd64 (N := N) HI.out.1 HI.out.2) (oT N op) wr (HOR.out.tree op ho2) HOR.out.tabs HOR.out.bds
        rw [ho3] at hcall
        obtain ⟨rb, hrb⟩ : ∃ r, cmpV op A B = r := ⟨_, rfl⟩
        have hres := res_at (a := A) (b := B) ho1
        rw [hrb] at hcall hres
        have HC : Hid (Calls Tryd.prog 45 #[.agg #[.int .i64 3, .string (str op), .int .i64 0, .string { data := #[] }, .string { data := #[] }, .slice (some ⟨N + 1 + 1 + 1, 0, none⟩) 2 2], .slice (some ⟨N + 1 + 1, 0, none⟩) 1 1] wr fun e w' => e = .returned (.bool rb) ∧ Below wr.heap.size wr w') := Lib.hid hcall
        have HTK := Lib.hid (take_next hres)
        clear ho1 ho2 ho3 hcall hrb hres
        go_wp2_with (first
          | (go_at_call 45; refine HC.out.mono ?_; rintro e w5 ⟨rfl, b5⟩; obtain ⟨v', w', hrun, hown', hgrow, hat⟩ := app_bools (w5.alloc (.cells #[.bool rb] 4)) W.heap.size _ k ((res6 A B).take k) [rb] (own_below HQ.out (b5.alloc b5.size (.cells #[.bool rb] 4))) (some ⟨w5.heap.size, 0, none⟩) 1 1 rfl (Lies.one _ _ _) (fun h => by cases h) (by omega) (by have := HBW.out.size; have := b5.size; simp; omega); have HR := Lib.hid hrun; have HO2 := Lib.hid hown'; have HG := Lib.hid (app_below (HBW.out.trans ((b5.alloc b5.size (.cells #[.bool rb] 4)).mono HBW.out.size)) (by have := HBW.out.size; have := b5.size; simp; omega) hgrow (own_below HQ.out (b5.alloc b5.size (.cells #[.bool rb] 4))) (Nat.le_refl _)); clear hrun hown' hgrow hat b5)
          | (at_builtin; refine wpList_app HR.out rfl rfl rfl rfl rfl ?_))
        go_roundw
        case rel => exact ⟨k + 1, by omega, by go_num, by rw [HTK.out]; exact HO2.out, HG.out⟩
        case measure => simp [intOf]; omega
      · obtain rfl : k = 6 := by omega
        have hown := HQ.out
        rw [show (res6 A B).take 6 = res6 A B from rfl, res_l] at hown
        obtain ⟨Ad, c, rfl, hL, -, -, -⟩ := own_shape hown
        obtain ⟨l0, hl0⟩ : ∃ l, decide (A < B) = l := ⟨_, rfl⟩
        obtain ⟨l1, hl1⟩ : ∃ l, (A == B) = l := ⟨_, rfl⟩
        obtain ⟨l2, hl2⟩ : ∃ l, decide (B < A) = l := ⟨_, rfl⟩
        rw [hl0, hl1, hl2] at hL
        obtain ⟨bq, off, rfl, k00⟩ := hL.at_ (i := 0) rfl
        have k0 : wr.cell? ⟨bq, off, none⟩ = some (.bool l0) := k00
        have kk : ∀ i u, (bools [l0, l1, l2, !l2, !l1, !l0])[i]? = some u → wr.cell? ⟨bq, off + i, none⟩ = some u := fun i u hu => by
          obtain ⟨b', off', e, h⟩ := hL.at_ hu
          cases e
          exact h
        have k1 := kk 1 _ rfl
        have k2 := kk 2 _ rfl
        have k3 := kk 3 _ rfl
        have k4 := kk 4 _ rfl
        have k5 := kk 5 _ rfl
        have HF := Lib.hid (HB.out.trans (HBW.out.mono HB.out.size))
        clear k00 hL hown kk HQ HOR HBW HO
        go_wp2_with fail
        go_quiet (fail)
        go_wp2_with fail
        all_goals go_ret
        all_goals exact ⟨ret_bool (by simp), by have := HF.out; first | exact this | exact below_dr this _⟩
  · have HI := Lib.hid (And.intro hA hA)
    clear hA hB
    go_enter Tryd.func13, Tryd.ntmps13
    go_wp2_with fail
    refine HEX.out.mono ?_
    rintro e w1 ⟨rfl, b1⟩
    go_wp2_with fail
    refine (HNA.out w1).mono ?_
    rintro e w2 ⟨rfl, b2⟩
    have b12 := b1.trans (b2.mono b1.size)
    go_wp2_with fail
    refine (HNB.out w2).mono ?_
    rintro e w3 ⟨rfl, b3⟩
    have b13 := b12.trans (b3.mono b12.size)
    obtain ⟨od, ob⟩ := ord_of w3 A A (HT.out.below b13)
    have HB := Lib.hid (b13.trans (ob.mono b13.size))
    have HO := Lib.hid od
    clear b1 b2 b12 b3 b13 od ob
    go_wp2_with fail
    obtain ⟨W, hW⟩ : ∃ W, ordW w3 A A = W := ⟨_, rfl⟩
    have hWl : ((((w3.alloc (.cells #[.string { data := #[120] }, .string { data := #[121] }] 9)).alloc (.cells #[.int .i64 A, .int .i64 A] 2)).alloc (.cells #[.string { data := #[97] }, .slice (some ⟨w3.heap.size, 0, none⟩) 2 2, .slice (some ⟨w3.heap.size + 1, 0, none⟩) 2 2] 71)).alloc (.cells #[.int .i64 1, .string { data := #[] }, .int .i64 0, .string { data := #[97] }, .string { data := #[120] }, .slice none 0 0, .int .i64 1, .string { data := #[] }, .int .i64 0, .string { data := #[97] }, .string { data := #[121] }, .slice none 0 0] 24)).alloc (.cells #[.string { data := #[60] }, .string { data := #[61, 61] }, .string { data := #[62] }, .string { data := #[60, 61] }, .string { data := #[33, 61] }, .string { data := #[62, 61] }] 9) = W := hW
    rw [hW] at HB HO
    rw [hWl]
    clear hW hWl
    obtain ⟨N, hN⟩ : ∃ N, w3.heap.size = N := ⟨_, rfl⟩
    rw [hN] at HO ⊢
    clear hN
    go_loopw [14, 16] (fun v i wr => ∃ k : Nat, k ≤ 6 ∧ i = .int .i64 k ∧ wr.ownsRow W.heap.size 4 1 v k (bools ((res6 A A).take k)) ∧ Below W.heap.size W wr) (fun _ i _ => 6 - (intOf i).toNat)
    case atStart => exact ⟨0, by omega, rfl, World.ownsRow_nil _ _ _ _, Below.refl _ _⟩
    case round =>
      obtain ⟨k, hk, rfl, hown, hbw⟩ := hrel
      have HQ := Lib.hid hown
      have HBW := Lib.hid hbw
      have HOR := Lib.hid (HO.out.below hbw)
      clear hown hbw
      by_cases hlt : k < 6
      · obtain ⟨op, ho1, ho2, ho3⟩ := ord_at N A A k hlt
        have hop : wr.cell? ⟨N + 1 + 1 + 1 + 1, k, none⟩ = some (.string (str op)) := by
          obtain ⟨x, e, hx⟩ := HOR.out.ops.1 k (.string (str op)) (by rw [List.getElem?_map, ho1]; rfl)
          cases e
          rw [Go.WideShapes.add_plain, Nat.zero_add] at hx
          exact hx
        have hcall := holds_any (obd64 (N := N) HI.out.1 HI.out.2) (oT N op) wr (HOR.out.tree op ho2) HOR.out.tabs HOR.out.bds
        rw [ho3] at hcall
        obtain ⟨rb, hrb⟩ : ∃ r, cmpV op A A = r := ⟨_, rfl⟩
        have hres := res_at (a := A) (b := A) ho1
        rw [hrb] at hcall hres
        have HC : Hid (Calls Tryd.prog 45 #[.agg #[.int .i64 3, .string (str op), .int .i64 0, .string { data := #[] }, .string { data := #[] }, .slice (some ⟨N + 1 + 1 + 1, 0, none⟩) 2 2], .slice (some ⟨N + 1 + 1, 0, none⟩) 1 1] wr fun e w' => e = .returned (.bool rb) ∧ Below wr.heap.size wr w') := Lib.hid hcall
        have HTK := Lib.hid (take_next hres)
        clear ho1 ho2 ho3 hcall hrb hres
        go_wp2_with (first
          | (go_at_call 45; refine HC.out.mono ?_; rintro e w5 ⟨rfl, b5⟩; obtain ⟨v', w', hrun, hown', hgrow, hat⟩ := app_bools (w5.alloc (.cells #[.bool rb] 4)) W.heap.size _ k ((res6 A A).take k) [rb] (own_below HQ.out (b5.alloc b5.size (.cells #[.bool rb] 4))) (some ⟨w5.heap.size, 0, none⟩) 1 1 rfl (Lies.one _ _ _) (fun h => by cases h) (by omega) (by have := HBW.out.size; have := b5.size; simp; omega); have HR := Lib.hid hrun; have HO2 := Lib.hid hown'; have HG := Lib.hid (app_below (HBW.out.trans ((b5.alloc b5.size (.cells #[.bool rb] 4)).mono HBW.out.size)) (by have := HBW.out.size; have := b5.size; simp; omega) hgrow (own_below HQ.out (b5.alloc b5.size (.cells #[.bool rb] 4))) (Nat.le_refl _)); clear hrun hown' hgrow hat b5)
          | (at_builtin; refine wpList_app HR.out rfl rfl rfl rfl rfl ?_))
        go_roundw
        case rel => exact ⟨k + 1, by omega, by go_num, by rw [HTK.out]; exact HO2.out, HG.out⟩
        case measure => simp [intOf]; omega
      · obtain rfl : k = 6 := by omega
        have hown := HQ.out
        rw [show (res6 A A).take 6 = res6 A A from rfl, res_same] at hown
        obtain ⟨Ad, c, rfl, hL, -, -, -⟩ := own_shape hown
        obtain ⟨bq, off, rfl, k00⟩ := hL.at_ (i := 0) rfl
        have k0 : wr.cell? ⟨bq, off, none⟩ = some (.bool false) := k00
        have kk : ∀ i u, (bools [false, true, false, !false, !true, !false])[i]? = some u → wr.cell? ⟨bq, off + i, none⟩ = some u := fun i u hu => by
          obtain ⟨b', off', e, h⟩ := hL.at_ hu
          cases e
          exact h
        have k1 := kk 1 _ rfl
        have k2 := kk 2 _ rfl
        have k3 := kk 3 _ rfl
        have k4 := kk 4 _ rfl
        have k5 := kk 5 _ rfl
        have HF := Lib.hid (HB.out.trans (HBW.out.mono HB.out.size))
        clear k00 hL hown kk HQ HOR HBW HO
        go_wp2_with fail
        go_quiet (fail)
        go_wp2_with fail
        all_goals go_ret
        all_goals exact ⟨ret_bool (by simp), by have := HF.out; first | exact this | exact below_dr this _⟩
theorem order_at (a b : Int) (same : Bool) (x y : Int) (a0 : -9223372036854775808 ≤ a) (a1 : a ≤ 9223372036854775807) (b0 : -9223372036854775808 ≤ b) (b1 : b ≤ 9223372036854775807) (x0 : 0 ≤ x) (x1 : x ≤ 255) (y0 : 0 ≤ y) (y1 : y ≤ 255) (w : World) (hT : Tabs8 w) :
    Calls Tryd.prog 13 #[.int .i64 a, .int .i64 b, .bool same, .int .u8 x, .int .u8 y] w fun e w' => e = .returned (.bool true) ∧ Below w.heap.size w w' := order_any a b same x y ⟨a0, a1⟩ ⟨b0, b1⟩ ⟨x0, x1⟩ ⟨y0, y1⟩ w hT
end Go.Proofs.YtaiohdcngkkafaaDoor
