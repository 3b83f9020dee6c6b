/- Layer 7: put, walked. -/
import Derived.Test.YtbdfehgofnomhaaDoorExPut
namespace Go.Proofs.YtbdfehgofnomhaaDoor
open Go.RowKit
set_option linter.unusedVariables false

abbrev sixV (k : Int) (op : Nm) (n : Int) (v f : Nm) (A : Option Addr) (m c : Nat) : Array Value := #[.int .i64 k, .string (str op), .int .i64 n, .string (str v), .string (str f), .slice A m c]
/-- What put does at one that is right. -/
def PutsAt (w0 : World) (B b : Nat) (t : ET) : Prop := ∀ (least : Int) (l : Nm) (w : World), PS w0 B b l w → l.length + (putT least t).length ≤ 100000000 →
  Calls Tryd.prog 67 #[.pointer (some ⟨b, 0, none⟩), t.val, .int .i64 least] w fun e w' => e = .returned (.tuple #[]) ∧ PS w0 B b (l ++ putT least t) w' ∧ OK b w w'
set_option maxHeartbeats 4000000 in
theorem put_0 {w0 : World} {B b : Nat} (hB : w0.heap.size ≤ B) (hT : Tabs w0) (op : Nm) (n : Int) (v f : Nm) (A : Option Addr) (c : Nat) (ks : List ET) (h0 : 0 ≤ n) (h1 : n ≤ 9223372036854775807) : PutsAt w0 B b (.mk 0 op n v f A c ks) := by
  intro least l w hps hlen
  rw [putT_0] at hlen ⊢
  obtain ⟨d, hd⟩ : ∃ d, Lib.itoa n = d := ⟨_, rfl⟩
  obtain ⟨m, hm⟩ : ∃ m, ks.length = m := ⟨_, rfl⟩
  obtain ⟨W, hW⟩ : ∃ W, W = w.alloc (.cells #[.int .i64 0, .string (str op), .int .i64 n, .string (str v), .string (str f), .slice A m c] 47) := ⟨_, rfl⟩
  have bl : Below w.heap.size w W := by rw [hW]; exact (Below.refl _ _).alloc (Nat.le_refl _) _
  have hx : Has W w.heap.size 47 (sixV 0 op n v f A m c) := by rw [hW]; exact heap_alloc_new w _
  have pW := hps.below bl
  obtain ⟨lv, hlv⟩ : ∃ x, levB op = x := ⟨_, rfl⟩
  have hL := level_any op W
  rw [hlv] at hL
  have hF := ps_fmt (b := b) hT n (by omega) h1 pW
  rw [hd] at hF hlen ⊢
  have HW := Lib.hid hW
  have HF := Lib.hid hF
  have HL := Lib.hid hL
  have H6 := Lib.hid (ok_below (b := b) bl)
  have HLEN := Lib.hid hlen
  obtain ⟨c0, c1, c2, c3, c4, c5⟩ := six_has hx
  show Calls _ _ #[_, ex 0 op n v f A ks.length c, _] _ _
  rw [hm]
  unfold ex
  clear hW hF hL hx pW hps bl hlen hlv hd hm
  go_enter Tryd.func67, Tryd.ntmps67
  go_wp2_with fail
  rw [← HW.out]
  refine HL.out.mono ?_
  rintro e w1 ⟨rfl, rfl⟩
  go_wp2_with fail
  refine HF.out.mono ?_
  rintro e w2 ⟨rfl, p2, o2⟩
  have HO2 := Lib.hid (H6.out.trans o2)
  clear c0 c1 c2 c3 c4 c5 o2
  go_wp2_with fail
  refine (ps_str hB d p2 (by have := HLEN.out; omega) (by have := HLEN.out; omega)).mono ?_
  rintro e w3 ⟨rfl, p3, o3⟩
  go_wp2_with fail
  go_end0
  exact ⟨rfl, p3, HO2.out.trans o3⟩
theorem run_add_str (a b : List UInt8) (h : a.length + b.length ≤ 9223372036854775807) (W : World) : (Op.stringOp .add (str a) (str b)).run Tryd.prog W = .ok (.string (str (a ++ b))) W := by
  rw [run_string_add_sum W _ _ (by rw [str_size, str_size]; exact h), str_append]
set_option maxHeartbeats 4000000 in
theorem put_1 {w0 : World} {B b : Nat} (hB : w0.heap.size ≤ B) (hT : Tabs w0) (op : Nm) (n : Int) (v f : Nm) (A : Option Addr) (c : Nat) (ks : List ET) : PutsAt w0 B b (.mk 1 op n v f A c ks) := by
  intro least l w hps hlen
  rw [putT_1] at hlen ⊢
  simp only [List.length_append, List.length_cons, List.length_nil] at hlen
  obtain ⟨m, hm⟩ : ∃ m, ks.length = m := ⟨_, rfl⟩
  obtain ⟨u, hu⟩ : ∃ u, v ++ [46] = u := ⟨_, rfl⟩
  obtain ⟨d, hd⟩ : ∃ d, u ++ f = d := ⟨_, rfl⟩
  have ed : v ++ ([46] ++ f) = d := by rw [← hd, ← hu, List.append_assoc]
  have lu : u.length = v.length + 1 := by rw [← hu]; simp
  have ld : d.length = u.length + f.length := by rw [← hd]; simp
  have ha1 : ∀ W, (Op.stringOp .add (str v) { data := #[46] }).run Tryd.prog W = .ok (.string (str u)) W := fun W => by rw [← hu]; exact run_add_str v [46] (by simp; omega) W
  have ha2 : ∀ W, (Op.stringOp .add (str u) (str f)).run Tryd.prog W = .ok (.string (str d)) W := fun W => by rw [← hd]; exact run_add_str u f (by omega) W
  obtain ⟨W, hW⟩ : ∃ W, W = w.alloc (.cells #[.int .i64 1, .string (str op), .int .i64 n, .string (str v), .string (str f), .slice A m c] 47) := ⟨_, rfl⟩
  have bl : Below w.heap.size w W := by rw [hW]; exact (Below.refl _ _).alloc (Nat.le_refl _) _
  have hx : Has W w.heap.size 47 (sixV 1 op n v f A m c) := by rw [hW]; exact heap_alloc_new w _
  have pW := hps.below bl
  obtain ⟨lv, hlv⟩ : ∃ x, levB op = x := ⟨_, rfl⟩
  have hL := level_any op W
  rw [hlv] at hL
  rw [ed]
  have hS := ps_str hB d pW (by omega) (by omega)
  have HW := Lib.hid hW
  have HS := Lib.hid hS
  have HL := Lib.hid hL
  have H6 := Lib.hid (ok_below (b := b) bl)
  obtain ⟨c0, c1, c2, c3, c4, c5⟩ := six_has hx
  show Calls _ _ #[_, ex 1 op n v f A ks.length c, _] _ _
  rw [hm]
  unfold ex
  clear hW hS hL hx pW hps bl hlen hlv hd hm hu ed lu ld
  go_enter Tryd.func67, Tryd.ntmps67
  go_wp2_with fail
  rw [← HW.out]
  refine HL.out.mono ?_
  rintro e w1 ⟨rfl, rfl⟩
  go_wp2_with fail
  refine HS.out.mono ?_
  rintro e w3 ⟨rfl, p3, o3⟩
  go_wp2_with fail
  go_end0
  exact ⟨rfl, p3, H6.out.trans o3⟩
/-- The first of the Kids, as a walk reads it. -/
theorem kid0 {w : World} {A : Option Addr} {t : ET} (h : CellsAt w A 0 t) : ∃ b off, A = some ⟨b, off, none⟩ ∧ w.cell? ⟨b, off, none⟩ = some (.int .i64 t.k) ∧ w.cell? ⟨b, off + 1, none⟩ = some (.string (str t.op)) ∧ w.cell? ⟨b, off + 2, none⟩ = some (.int .i64 t.n)
  ∧ w.cell? ⟨b, off + 3, none⟩ = some (.string (str t.v)) ∧ w.cell? ⟨b, off + 4, none⟩ = some (.string (str t.f)) ∧ w.cell? ⟨b, off + 5, none⟩ = some (.slice t.A t.ks.length t.c) := by
  obtain ⟨b, off, e, h⟩ := h
  rw [Nat.zero_mul, Nat.add_zero] at h
  exact ⟨b, off, e, h⟩
theorem kid1 {w : World} {b off : Nat} {t : ET} (h : CellsAt w (some ⟨b, off, none⟩) 1 t) : w.cell? ⟨b, off + 6, none⟩ = some (.int .i64 t.k) ∧ w.cell? ⟨b, off + 7, none⟩ = some (.string (str t.op)) ∧ w.cell? ⟨b, off + 8, none⟩ = some (.int .i64 t.n)
  ∧ w.cell? ⟨b, off + 9, none⟩ = some (.string (str t.v)) ∧ w.cell? ⟨b, off + 10, none⟩ = some (.string (str t.f)) ∧ w.cell? ⟨b, off + 11, none⟩ = some (.slice t.A t.ks.length t.c) := by
  obtain ⟨b, off, e, h⟩ := h
  cases e
  exact h
set_option maxHeartbeats 4000000 in
theorem put_2 {w0 : World} {B b : Nat} (hB : w0.heap.size ≤ B) (op : Nm) (n : Int) (v f : Nm) (A : Option Addr) (c : Nat) (x : ET) (hin : ET.In w0 (.mk 2 op n v f A c [x])) (ihx : PutsAt w0 B b x) : PutsAt w0 B b (.mk 2 op n v f A c [x]) := by
  intro least l w hps hlen
  rw [putT_2] at hlen ⊢
  simp only [List.length_append] at hlen
  obtain ⟨b0, off, rfl, hk0⟩ := kid0 (hin.kids 0 (by simp)).1
  have hc1 : 1 ≤ c := hin.ok.2.2.2.2.2.2.1
  obtain ⟨d, hd⟩ : ∃ d, putT 7 x = d := ⟨_, rfl⟩
  obtain ⟨W, hW⟩ : ∃ W, W = w.alloc (.cells #[.int .i64 2, .string (str op), .int .i64 n, .string (str v), .string (str f), .slice (some ⟨b0, off, none⟩) 1 c] 47) := ⟨_, rfl⟩
  have bl : Below w.heap.size w W := by rw [hW]; exact (Below.refl _ _).alloc (Nat.le_refl _) _
  have hx : Has W w.heap.size 47 (sixV 2 op n v f (some ⟨b0, off, none⟩) 1 c) := by rw [hW]; exact heap_alloc_new w _
  have pW := hps.below bl
  have hbq : w.heap.size ≠ b := by have := bld_lt hps.1; omega
  obtain ⟨lv, hlv⟩ : ∃ x, levB op = x := ⟨_, rfl⟩
  have hL := level_any op W
  rw [hlv] at hL
  have hS := ps_str hB op pW (by omega) (by omega)
  have hP : ∀ w2, PS w0 B b (l ++ op) w2 → Calls Tryd.prog 67 #[.pointer (some ⟨b, 0, none⟩), .agg #[.int .i64 x.k, .string (str x.op), .int .i64 x.n, .string (str x.v), .string (str x.f), .slice x.A x.ks.length x.c], .int .i64 7] w2 fun e w' => e = .returned (.tuple #[]) ∧ PS w0 B b (l ++ (op ++ d)) w' ∧ OK b w2 w' := fun w2 p2 => by
    have := ihx 7 (l ++ op) w2 p2 (by rw [List.length_append]; omega)
    rw [hd, List.append_assoc] at this
    exact this
  rw [hd]
  have HW := Lib.hid hW
  have HS := Lib.hid hS
  have HL := Lib.hid hL
  have HP := Lib.hid hP
  have HX := Lib.hid hx
  have HK := Lib.hid hk0
  have HBQ := Lib.hid hbq
  have H6 := Lib.hid (ok_below (b := b) bl)
  obtain ⟨c0, c1, c2, c3, c4, c5⟩ := six_has hx
  show Calls _ _ #[_, ex 2 op n v f (some ⟨b0, off, none⟩) 1 c, _] _ _
  unfold ex
  clear hW hS hL hx pW hps bl hlen hlv hd hP hk0 ihx hin hbq
  go_enter Tryd.func67, Tryd.ntmps67
  go_wp2_with fail
  rw [← HW.out]
  refine HL.out.mono ?_
  rintro e w1 ⟨rfl, rfl⟩
  go_wp2_with fail
  refine HS.out.mono ?_
  rintro e w3 ⟨rfl, p3, o3⟩
  clear c0 c1 c2 c3 c4 c5
  obtain ⟨c0, c1, c2, c3, c4, c5⟩ := six_has (box_ok o3 HX.out HBQ.out)
  have gg : ∀ o v, w0.cell? ⟨b0, o, none⟩ = some v → w3.cell? ⟨b0, o, none⟩ = some v := fun o v hv => (p3.2.1.cell (p := ⟨b0, o, none⟩) (World.block_lt_of_cell? _ _ hv)).trans hv
  have g0 := gg _ _ HK.out.1
  have g1 := gg _ _ HK.out.2.1
  have g2 := gg _ _ HK.out.2.2.1
  have g3 := gg _ _ HK.out.2.2.2.1
  have g4 := gg _ _ HK.out.2.2.2.2.1
  have g5 := gg _ _ HK.out.2.2.2.2.2
  have HP3 := Lib.hid p3
  have HO3 := Lib.hid (H6.out.trans o3)
  clear gg p3 o3
  go_wp2_with fail
  refine (HP.out _ HP3.out).mono ?_
  rintro e w4 ⟨rfl, p4, o4⟩
  clear c0 c1 c2 c3 c4 c5 g0 g1 g2 g3 g4 g5
  go_wp2_with fail
  go_end0
  exact ⟨rfl, p4, HO3.out.trans o4⟩
set_option maxHeartbeats 8000000 in
theorem put_3t {w0 : World} {B b : Nat} (hB : w0.heap.size ≤ B) (op : Nm) (n : Int) (v f : Nm) (A : Option Addr) (c : Nat) (x y : ET) (hin : ET.In w0 (.mk 3 op n v f A c [x, y])) (ihx : PutsAt w0 B b x) (ihy : PutsAt w0 B b y)
    (least : Int) (hbr : decide (levB op < least) = true) (l : Nm) (w : World) (hps : PS w0 B b l w) (hlen : l.length + (putT least (.mk 3 op n v f A c [x, y])).length ≤ 100000000) :
    Calls Tryd.prog 67 #[.pointer (some ⟨b, 0, none⟩), (ET.mk 3 op n v f A c [x, y]).val, .int .i64 least] w fun e w' => e = .returned (.tuple #[]) ∧ PS w0 B b (l ++ putT least (.mk 3 op n v f A c [x, y])) w' ∧ OK b w w' := by
  rw [putT_3, hbr] at hlen ⊢
  simp only [brk, if_true, List.length_append, List.length_cons, List.length_nil] at hlen ⊢
  obtain ⟨b0, off, rfl, hk0⟩ := kid0 (hin.kids 0 (by simp)).1
  have hk1 := kid1 (hin.kids 1 (by simp)).1
  have hc1 : 2 ≤ c := hin.ok.2.2.2.2.2.2.1
  obtain ⟨lv, hlv⟩ : ∃ x, levB op = x := ⟨_, rfl⟩
  have hlr := lev_le op
  rw [hlv] at hbr hlen hlr ⊢
  obtain ⟨d, hd⟩ : ∃ d, putT lv x = d := ⟨_, rfl⟩
  obtain ⟨g, hg⟩ : ∃ d, putT (lv + 1) y = d := ⟨_, rfl⟩
  rw [hd, hg] at hlen ⊢
  obtain ⟨o1, ho1⟩ : ∃ u, [32] ++ op = u := ⟨_, rfl⟩
  obtain ⟨o2, ho2⟩ : ∃ u, o1 ++ [32] = u := ⟨_, rfl⟩
  have lo1 : o1.length = op.length + 1 := by rw [← ho1]; simp
  have lo2 : o2.length = o1.length + 1 := by rw [← ho2]; simp
  have eo : [32] ++ (op ++ [32]) = o2 := by rw [← ho2, ← ho1, List.append_assoc]
  rw [eo]
  have ha1 : ∀ W, (Op.stringOp .add { data := #[32] } (str op)).run Tryd.prog W = .ok (.string (str o1)) W := fun W => by rw [← ho1]; exact run_add_str [32] op (by simp; omega) W
  have ha2 : ∀ W, (Op.stringOp .add (str o1) { data := #[32] }).run Tryd.prog W = .ok (.string (str o2)) W := fun W => by rw [← ho2]; exact run_add_str o1 [32] (by simp; omega) W
  obtain ⟨W, hW⟩ : ∃ W, W = w.alloc (.cells #[.int .i64 3, .string (str op), .int .i64 n, .string (str v), .string (str f), .slice (some ⟨b0, off, none⟩) 2 c] 47) := ⟨_, rfl⟩
  have bl : Below w.heap.size w W := by rw [hW]; exact (Below.refl _ _).alloc (Nat.le_refl _) _
  have hx : Has W w.heap.size 47 (sixV 3 op n v f (some ⟨b0, off, none⟩) 2 c) := by rw [hW]; exact heap_alloc_new w _
  have pW := hps.below bl
  have hbq : w.heap.size ≠ b := by have := bld_lt hps.1; omega
  have hL := level_any op W
  rw [hlv] at hL
  have cX : ∀ (l2 : Nm) (w2 : World), PS w0 B b l2 w2 → l2.length + d.length ≤ 100000000 → Calls Tryd.prog 67 #[.pointer (some ⟨b, 0, none⟩), .agg #[.int .i64 x.k, .string (str x.op), .int .i64 x.n, .string (str x.v), .string (str x.f), .slice x.A x.ks.length x.c], .int .i64 lv] w2 fun e w' => e = .returned (.tuple #[]) ∧ PS w0 B b (l2 ++ d) w' ∧ OK b w2 w' := fun l2 w2 p2 hl2 => by
    rw [← hd] at hl2 ⊢
    exact ihx lv l2 w2 p2 hl2
  have cY : ∀ (l2 : Nm) (w2 : World), PS w0 B b l2 w2 → l2.length + g.length ≤ 100000000 → Calls Tryd.prog 67 #[.pointer (some ⟨b, 0, none⟩), .agg #[.int .i64 y.k, .string (str y.op), .int .i64 y.n, .string (str y.v), .string (str y.f), .slice y.A y.ks.length y.c], .int .i64 (lv + 1)] w2 fun e w' => e = .returned (.tuple #[]) ∧ PS w0 B b (l2 ++ g) w' ∧ OK b w2 w' := fun l2 w2 p2 hl2 => by
    rw [← hg] at hl2 ⊢
    exact ihy (lv + 1) l2 w2 p2 hl2
  have six3 : ∀ w3, OK b W w3 → six w3 w.heap.size 3 op n v f (some ⟨b0, off, none⟩) 2 c := fun w3 o3 => six_has (box_ok o3 hx hbq)
  have gk : ∀ w3 l2, PS w0 B b l2 w3 → ∀ o v, w0.cell? ⟨b0, o, none⟩ = some v → w3.cell? ⟨b0, o, none⟩ = some v := fun w3 l2 p3 o v hv => (p3.2.1.cell (p := ⟨b0, o, none⟩) (World.block_lt_of_cell? _ _ hv)).trans hv
  have HW := Lib.hid hW
  have HL := Lib.hid hL
  have HX := Lib.hid cX
  have HY := Lib.hid cY
  have HS := Lib.hid six3
  have HG := Lib.hid gk
  have HK := Lib.hid hk0
  have HK1 := Lib.hid hk1
  have HPW := Lib.hid pW
  have H6 := Lib.hid (ok_below (b := b) bl)
  have HLEN := Lib.hid hlen
  have HLO := Lib.hid (show o2.length = op.length + 2 by omega)
  obtain ⟨c0, c1, c2, c3, c4, c5⟩ := six_has hx
  show Calls _ _ #[_, ex 3 op n v f (some ⟨b0, off, none⟩) 2 c, _] _ _
  unfold ex
  clear hW hL hx pW hps bl hlen hlv hd hg cX cY hk0 hk1 ihx ihy hin hbq six3 gk ho1 ho2 lo1 lo2 eo
  go_enter Tryd.func67, Tryd.ntmps67
  go_wp2_with fail
  rw [← HW.out]
  refine HL.out.mono ?_
  rintro e w1 ⟨rfl, rfl⟩
  go_wp2_with fail
  refine (ps_byte hB 40 HPW.out (by have := HLEN.out; omega)).mono ?_
  rintro e w2 ⟨rfl, p2, q2⟩
  have HP2 := Lib.hid p2
  have HQ2 := Lib.hid q2
  clear c0 c1 c2 c3 c4 c5 p2 q2
  obtain ⟨c0, c1, c2, c3, c4, c5⟩ := HS.out w2 HQ2.out
  have g0 := HG.out w2 _ HP2.out _ _ HK.out.1
  have g1 := HG.out w2 _ HP2.out _ _ HK.out.2.1
  have g2 := HG.out w2 _ HP2.out _ _ HK.out.2.2.1
  have g3 := HG.out w2 _ HP2.out _ _ HK.out.2.2.2.1
  have g4 := HG.out w2 _ HP2.out _ _ HK.out.2.2.2.2.1
  have g5 := HG.out w2 _ HP2.out _ _ HK.out.2.2.2.2.2
  go_wp2_with fail
  refine (HX.out _ _ HP2.out (by have := HLEN.out; have := HLO.out; simp; omega)).mono ?_
  rintro e w3 ⟨rfl, p3, q3⟩
  have HP3 := Lib.hid p3
  have HQ3 := Lib.hid (HQ2.out.trans q3)
  clear c0 c1 c2 c3 c4 c5 g0 g1 g2 g3 g4 g5 p3 q3
  obtain ⟨c0, c1, c2, c3, c4, c5⟩ := HS.out w3 HQ3.out
  go_wp2_with fail
  refine (ps_str hB o2 HP3.out (by have := HLEN.out; have := HLO.out; simp; omega) (by have := HLEN.out; have := HLO.out; omega)).mono ?_
  rintro e w4 ⟨rfl, p4, q4⟩
  have HP4 := Lib.hid p4
  have HQ4 := Lib.hid (HQ3.out.trans q4)
  clear c0 c1 c2 c3 c4 c5 p4 q4
  obtain ⟨c0, c1, c2, c3, c4, c5⟩ := HS.out w4 HQ4.out
  have g0 := HG.out w4 _ HP4.out _ _ HK1.out.1
  have g1 := HG.out w4 _ HP4.out _ _ HK1.out.2.1
  have g2 := HG.out w4 _ HP4.out _ _ HK1.out.2.2.1
  have g3 := HG.out w4 _ HP4.out _ _ HK1.out.2.2.2.1
  have g4 := HG.out w4 _ HP4.out _ _ HK1.out.2.2.2.2.1
  have g5 := HG.out w4 _ HP4.out _ _ HK1.out.2.2.2.2.2
  go_wp2_with fail
  refine (HY.out _ _ HP4.out (by have := HLEN.out; have := HLO.out; simp; omega)).mono ?_
  rintro e w5 ⟨rfl, p5, q5⟩
  have HP5 := Lib.hid p5
  have HQ5 := Lib.hid (HQ4.out.trans q5)
  clear c0 c1 c2 c3 c4 c5 g0 g1 g2 g3 g4 g5 p5 q5
  go_wp2_with fail
  refine (ps_byte hB 41 HP5.out (by have := HLEN.out; have := HLO.out; simp; omega)).mono ?_
  rintro e w6 ⟨rfl, p6, q6⟩
  go_wp2_with fail
  go_end0
  exact ⟨rfl, by simpa using p6, H6.out.trans (HQ5.out.trans q6)⟩
set_option maxHeartbeats 8000000 in
theorem put_3f {w0 : World} {B b : Nat} (hB : w0.heap.size ≤ B) (op : Nm) (n : Int) (v f : Nm) (A : Option Addr) (c : Nat) (x y : ET) (hin : ET.In w0 (.mk 3 op n v f A c [x, y])) (ihx : PutsAt w0 B b x) (ihy : PutsAt w0 B b y)
    (least : Int) (hbr : decide (levB op < least) = false) (l : Nm) (w : World) (hps : PS w0 B b l w) (hlen : l.length + (putT least (.mk 3 op n v f A c [x, y])).length ≤ 100000000) :
    Calls Tryd.prog 67 #[.pointer (some ⟨b, 0, none⟩), (ET.mk 3 op n v f A c [x, y]).val, .int .i64 least] w fun e w' => e = .returned (.tuple #[]) ∧ PS w0 B b (l ++ putT least (.mk 3 op n v f A c [x, y])) w' ∧ OK b w w' := by
  rw [putT_3, hbr] at hlen ⊢
  simp only [brk, Bool.false_eq_true, if_false, List.length_append, List.length_cons, List.length_nil] at hlen ⊢
  obtain ⟨b0, off, rfl, hk0⟩ := kid0 (hin.kids 0 (by simp)).1
  have hk1 := kid1 (hin.kids 1 (by simp)).1
  have hc1 : 2 ≤ c := hin.ok.2.2.2.2.2.2.1
  obtain ⟨lv, hlv⟩ : ∃ x, levB op = x := ⟨_, rfl⟩
  have hlr := lev_le op
  rw [hlv] at hbr hlen hlr ⊢
  obtain ⟨d, hd⟩ : ∃ d, putT lv x = d := ⟨_, rfl⟩
  obtain ⟨g, hg⟩ : ∃ d, putT (lv + 1) y = d := ⟨_, rfl⟩
  rw [hd, hg] at hlen ⊢
  obtain ⟨o1, ho1⟩ : ∃ u, [32] ++ op = u := ⟨_, rfl⟩
  obtain ⟨o2, ho2⟩ : ∃ u, o1 ++ [32] = u := ⟨_, rfl⟩
  have lo1 : o1.length = op.length + 1 := by rw [← ho1]; simp
  have lo2 : o2.length = o1.length + 1 := by rw [← ho2]; simp
  have eo : [32] ++ (op ++ [32]) = o2 := by rw [← ho2, ← ho1, List.append_assoc]
  rw [eo]
  have ha1 : ∀ W, (Op.stringOp .add { data := #[32] } (str op)).run Tryd.prog W = .ok (.string (str o1)) W := fun W => by rw [← ho1]; exact run_add_str [32] op (by simp; omega) W
  have ha2 : ∀ W, (Op.stringOp .add (str o1) { data := #[32] }).run Tryd.prog W = .ok (.string (str o2)) W := fun W => by rw [← ho2]; exact run_add_str o1 [32] (by simp; omega) W
  obtain ⟨W, hW⟩ : ∃ W, W = w.alloc (.cells #[.int .i64 3, .string (str op), .int .i64 n, .string (str v), .string (str f), .slice (some ⟨b0, off, none⟩) 2 c] 47) := ⟨_, rfl⟩
  have bl : Below w.heap.size w W := by rw [hW]; exact (Below.refl _ _).alloc (Nat.le_refl _) _
  have hx : Has W w.heap.size 47 (sixV 3 op n v f (some ⟨b0, off, none⟩) 2 c) := by rw [hW]; exact heap_alloc_new w _
  have pW := hps.below bl
  have hbq : w.heap.size ≠ b := by have := bld_lt hps.1; omega
  have hL := level_any op W
  rw [hlv] at hL
  have cX : ∀ (l2 : Nm) (w2 : World), PS w0 B b l2 w2 → l2.length + d.length ≤ 100000000 → Calls Tryd.prog 67 #[.pointer (some ⟨b, 0, none⟩), .agg #[.int .i64 x.k, .string (str x.op), .int .i64 x.n, .string (str x.v), .string (str x.f), .slice x.A x.ks.length x.c], .int .i64 lv] w2 fun e w' => e = .returned (.tuple #[]) ∧ PS w0 B b (l2 ++ d) w' ∧ OK b w2 w' := fun l2 w2 p2 hl2 => by
    rw [← hd] at hl2 ⊢
    exact ihx lv l2 w2 p2 hl2
  have cY : ∀ (l2 : Nm) (w2 : World), PS w0 B b l2 w2 → l2.length + g.length ≤ 100000000 → Calls Tryd.prog 67 #[.pointer (some ⟨b, 0, none⟩), .agg #[.int .i64 y.k, .string (str y.op), .int .i64 y.n, .string (str y.v), .string (str y.f), .slice y.A y.ks.length y.c], .int .i64 (lv + 1)] w2 fun e w' => e = .returned (.tuple #[]) ∧ PS w0 B b (l2 ++ g) w' ∧ OK b w2 w' := fun l2 w2 p2 hl2 => by
    rw [← hg] at hl2 ⊢
    exact ihy (lv + 1) l2 w2 p2 hl2
  have six3 : ∀ w3, OK b W w3 → six w3 w.heap.size 3 op n v f (some ⟨b0, off, none⟩) 2 c := fun w3 o3 => six_has (box_ok o3 hx hbq)
  have gk : ∀ w3 l2, PS w0 B b l2 w3 → ∀ o v, w0.cell? ⟨b0, o, none⟩ = some v → w3.cell? ⟨b0, o, none⟩ = some v := fun w3 l2 p3 o v hv => (p3.2.1.cell (p := ⟨b0, o, none⟩) (World.block_lt_of_cell? _ _ hv)).trans hv
  have HW := Lib.hid hW
  have HL := Lib.hid hL
  have HX := Lib.hid cX
  have HY := Lib.hid cY
  have HS := Lib.hid six3
  have HG := Lib.hid gk
  have HK := Lib.hid hk0
  have HK1 := Lib.hid hk1
  have HPW := Lib.hid pW
  have H6 := Lib.hid (ok_below (b := b) bl)
  have HLEN := Lib.hid hlen
  have HLO := Lib.hid (show o2.length = op.length + 2 by omega)
  obtain ⟨c0, c1, c2, c3, c4, c5⟩ := six_has hx
  show Calls _ _ #[_, ex 3 op n v f (some ⟨b0, off, none⟩) 2 c, _] _ _
  unfold ex
  clear hW hL hx pW hps bl hlen hlv hd hg cX cY hk0 hk1 ihx ihy hin hbq six3 gk ho1 ho2 lo1 lo2 eo
  go_enter Tryd.func67, Tryd.ntmps67
  go_wp2_with fail
  rw [← HW.out]
  refine HL.out.mono ?_
  rintro e w1 ⟨rfl, rfl⟩
  have HP2 := HPW
  have HQ2 : Hid (OK b W W) := Lib.hid (Lib.OthersKept.refl _ _ _)
  have g0 := HG.out W _ HP2.out _ _ HK.out.1
  have g1 := HG.out W _ HP2.out _ _ HK.out.2.1
  have g2 := HG.out W _ HP2.out _ _ HK.out.2.2.1
  have g3 := HG.out W _ HP2.out _ _ HK.out.2.2.2.1
  have g4 := HG.out W _ HP2.out _ _ HK.out.2.2.2.2.1
  have g5 := HG.out W _ HP2.out _ _ HK.out.2.2.2.2.2
  go_wp2_with fail
  refine (HX.out _ _ HP2.out (by have := HLEN.out; have := HLO.out; simp; omega)).mono ?_
  rintro e w3 ⟨rfl, p3, q3⟩
  have HP3 := Lib.hid p3
  have HQ3 := Lib.hid (HQ2.out.trans q3)
  clear c0 c1 c2 c3 c4 c5 g0 g1 g2 g3 g4 g5 p3 q3
  obtain ⟨c0, c1, c2, c3, c4, c5⟩ := HS.out w3 HQ3.out
  go_wp2_with fail
  refine (ps_str hB o2 HP3.out (by have := HLEN.out; have := HLO.out; simp; omega) (by have := HLEN.out; have := HLO.out; omega)).mono ?_
  rintro e w4 ⟨rfl, p4, q4⟩
  have HP4 := Lib.hid p4
  have HQ4 := Lib.hid (HQ3.out.trans q4)
  clear c0 c1 c2 c3 c4 c5 p4 q4
  obtain ⟨c0, c1, c2, c3, c4, c5⟩ := HS.out w4 HQ4.out
  have g0 := HG.out w4 _ HP4.out _ _ HK1.out.1
  have g1 := HG.out w4 _ HP4.out _ _ HK1.out.2.1
  have g2 := HG.out w4 _ HP4.out _ _ HK1.out.2.2.1
  have g3 := HG.out w4 _ HP4.out _ _ HK1.out.2.2.2.1
  have g4 := HG.out w4 _ HP4.out _ _ HK1.out.2.2.2.2.1
  have g5 := HG.out w4 _ HP4.out _ _ HK1.out.2.2.2.2.2
  go_wp2_with fail
  refine (HY.out _ _ HP4.out (by have := HLEN.out; have := HLO.out; simp; omega)).mono ?_
  rintro e w5 ⟨rfl, p5, q5⟩
  have HP5 := Lib.hid p5
  have HQ5 := Lib.hid (HQ4.out.trans q5)
  clear c0 c1 c2 c3 c4 c5 g0 g1 g2 g3 g4 g5 p5 q5
  go_wp2_with fail
  go_end0
  exact ⟨rfl, by simpa using HP5.out, H6.out.trans HQ5.out⟩
theorem put_any {w0 : World} {B b : Nat} (hB : w0.heap.size ≤ B) (hT : Tabs w0) : ∀ t : ET, t.In w0 → rightT t = true → PutsAt w0 B b t := by
  refine ET.ind fun k op n v f A c ks ih hin hr => ?_
  rcases one_kinds (right_one hr) with ⟨rfl, hm, h0, _⟩ | ⟨rfl, hm, _⟩ | ⟨rfl, hm, _⟩ | ⟨rfl, hm, _⟩
  · exact put_0 hB hT op n v f A c ks h0 hin.ok.2.1
  · exact put_1 hB hT op n v f A c ks
  · match ks, hm with
    | [x], _ => exact put_2 hB op n v f A c x hin (ih x (by simp) (hin.kids 0 (by simp)).2 (right_kids hr x (by simp)))
  · match ks, hm with
    | [x, y], _ =>
      have hx := ih x (by simp) (hin.kids 0 (by simp)).2 (right_kids hr x (by simp))
      have hy := ih y (by simp) (hin.kids 1 (by simp)).2 (right_kids hr y (by simp))
      intro least l w hps hlen
      cases hbr : decide (levB op < least) with
      | true => exact put_3t hB op n v f A c x y hin hx hy least hbr l w hps hlen
      | false => exact put_3f hB op n v f A c x y hin hx hy least hbr l w hps hlen
set_option maxHeartbeats 2000000 in
theorem putE_any (t : ET) (w : World) (hin : t.In w) (hT : Tabs w) (hr : rightT t = true) (hlen : (putT 0 t).length ≤ 100000000) :
    Calls Tryd.prog 56 #[t.val] w fun e w' => e = .returned (.string (str (putT 0 t))) ∧ Below w.heap.size w w' := by
  obtain ⟨u, hu⟩ : ∃ u, u = t.val := ⟨_, rfl⟩
  have hv : u = .agg #[.int .i64 t.k, .string (str t.op), .int .i64 t.n, .string (str t.v), .string (str t.f), .slice t.A t.ks.length t.c] := hu
  obtain ⟨W, hW⟩ : ∃ W, W = w.alloc (.cells #[.int .i64 t.k, .string (str t.op), .int .i64 t.n, .string (str t.v), .string (str t.f), .slice t.A t.ks.length t.c] 47) := ⟨_, rfl⟩
  have hx : Has W w.heap.size 47 (sixV t.k t.op t.n t.v t.f t.A t.ks.length t.c) := by rw [hW]; exact heap_alloc_new w _
  have bl : Below w.heap.size w W := by rw [hW]; exact (Below.refl _ _).alloc (Nat.le_refl _) _
  have hc := right_any t W (hin.below bl) (hT.below bl)
  rw [hr] at hc
  have hp : ∀ (w1 : World), w.heap.size ≤ w1.heap.size → Below w.heap.size w w1 → Calls Tryd.prog 67 #[.pointer (some ⟨w1.heap.size, 0, none⟩), t.val, .int .i64 0] (w1.alloc (.cells #[.pointer none, .slice none 0 0] 52)) fun e w' => e = .returned (.tuple #[]) ∧ PS w w1.heap.size w1.heap.size (putT 0 t) w' := fun w1 hz hb => by
    have := put_any (w0 := w) (B := w1.heap.size) (b := w1.heap.size) hz hT t hin hr 0 [] (w1.alloc (.cells #[.pointer none, .slice none 0 0] 52)) ⟨Lib.IsBuilderF.of (Lib.fresh_isBuilder _ _ w1), hb.alloc hz _, by simp⟩ (by simpa using hlen)
    exact this.mono fun e w' h => ⟨h.1, by simpa using h.2.1⟩
  obtain ⟨d, hd⟩ : ∃ d, putT 0 t = d := ⟨_, rfl⟩
  rw [hd] at hp ⊢
  rw [← hu] at hc hp ⊢
  rw [hv] at hc hp ⊢
  have HC := Lib.hid hc
  have HP := Lib.hid hp
  have HW := Lib.hid hW
  have HX := Lib.hid hx
  have HB := Lib.hid bl
  clear hc hp hW hx bl hin hT hr hlen hu hv hd
  go_enter Tryd.func56, Tryd.ntmps56
  go_wp2_with fail
  rw [← HW.out]
  refine HC.out.mono ?_
  rintro e w1 ⟨rfl, b1⟩
  have hx1 := HX.out.below b1 HX.out.lt
  obtain ⟨c0, c1, c2, c3, c4, c5⟩ := six_has (hx1.below ((Below.refl _ w1).alloc (Nat.le_refl _) (.cells #[.pointer none, .slice none 0 0] 52)) hx1.lt)
  have HB1 := Lib.hid (HB.out.trans (b1.mono HB.out.size))
  clear hx1 b1
  go_wp2_with fail
  refine (HP.out w1 HB1.out.size HB1.out).mono ?_
  rintro e w2 ⟨rfl, p2⟩
  clear c0 c1 c2 c3 c4 c5
  go_wp2_with fail
  refine (bstr_any _ _ d w2 p2.1 p2.2.2).mono ?_
  rintro e w3 ⟨rfl, h1, h2, h3⟩
  go_wp2_with fail
  go_ret
  exact ⟨rfl, p2.2.1.trans (h2.mono HB1.out.size)⟩
end Go.Proofs.YtbdfehgofnomhaaDoor
