/- StoreRoom: the walk. -/
import Derived.Test.YtglhebpblncjaaaDoorStRoM
namespace Go.Proofs.YtglhebpblncjaaaDoor
open Go.RowKit
set_option linter.unusedVariables false

/-- A store, and two events in variables of the statement's own. -/
structure Rm (w0 : World) (B g hh m p q : Nat) (A1 : Option Addr) (n1 : Nat) (A2 : Option Addr) (n2 : Nat) (N : Nat) (S : Sv) (K : List Nat) (w : World) : Prop where
  st : St w B g hh m N S K
  e1 : Has w p 35 #[.int .i64 0, .int .i64 0, .slice A1 n1 n1]
  e2 : Has w q 35 #[.int .i64 1, .int .i64 0, .slice A2 n2 n2]
  pk : p ∈ K
  qk : q ∈ K
  l1 : Ly B K w A1 (List.replicate n1 0)
  l2 : Ly B K w A2 (List.replicate n2 0)
  bel : Below w0.heap.size w0 w
  hB : w0.heap.size ≤ B
section
variable {w0 w w' : World} {B g hh m p q : Nat} {A1 : Option Addr} {n1 : Nat} {A2 : Option Addr} {n2 : Nat} {N N' : Nat} {S S' : Sv} {K : List Nat}
theorem Rm.deed (h : Rm w0 B g hh m p q A1 n1 A2 n2 N S K w) (a : St w' B g hh m N' S' K) (k : Kp B K w w') : Rm w0 B g hh m p q A1 n1 A2 n2 N' S' K w' :=
  ⟨a, k.has h.pk h.e1, k.has h.qk h.e2, h.pk, h.qk, h.l1.kp k, h.l2.kp k, h.bel.trans (k.bel.mono h.hB), h.hB⟩
theorem Rm.below (h : Rm w0 B g hh m p q A1 n1 A2 n2 N S K w) (hb : Below w.heap.size w w') : Rm w0 B g hh m p q A1 n1 A2 n2 N S K w' := h.deed (h.st.below hb) (h.st.kp hb)
end
theorem zeros_len (k : Nat) (T : Int) (n : Nat) (hk : k < 256) (h : n ≤ 8) : (wput (k : Int) T (List.replicate n 0)).length = 10 + 8 * n := by rw [wput_length k T _ hk (by simp; omega)]; simp
theorem mod9 (a : Int) (h0 : 0 ≤ a) : ∃ x : Nat, a.tmod 9 = (x : Int) ∧ x < 9 := ⟨(a % 9).toNat, by rw [Int.tmod_eq_emod_of_nonneg h0]; omega, by omega⟩
set_option maxHeartbeats 4000000 in
set_option maxRecDepth 100000 in
theorem room_walk (R a b : Int) (w : World) (hR0 : 0 ≤ R) (hR1 : R ≤ 255) (ha0 : 0 ≤ a) (ha1 : a ≤ 255) (hb0 : 0 ≤ b) (hb1 : b ≤ 255) (ht : Tab w) (hT : Dbt w) :
    Calls Tryd.prog 6 #[.int .u8 R, .int .u8 a, .int .u8 b] w fun e w' => e = .returned (.bool true) ∧ Below w.heap.size w w' := by
  have HT := Lib.hid ht
  have HD := Lib.hid hT
  clear ht hT
  go_enter Tryd.func6, Tryd.ntmps6
  go_wp2_with fail
  refine (examples_any w HT.out HD.out).mono ?_
  rintro e w1 ⟨rfl, b1⟩
  have T1 := Lib.hid (HT.out.below b1)
  have D1 := Lib.hid (HD.out.below b1)
  have B1 := Lib.hid b1
  clear b1 HT HD
  go_wp2_with fail
  refine (new_sc R w1 (by omega) (by omega) T1.out D1.out).mono ?_
  rintro e w2 ⟨rfl, h2, b2⟩
  have H2 := Lib.hid h2
  have B2 := Lib.hid (B1.out.trans (b2.mono B1.out.size))
  have HB := Lib.hid (B1.out.size)
  clear b2 h2 T1 D1 B1
  generalize w1.heap.size = B at *
  go_wp2_with fail
  refine (stnew_any H2.out (Tl.new _ _)).mono ?_
  rintro e w3 ⟨rfl, s3, b3⟩
  have S3 : Hid (St w3 B B (w2.heap.size + 1) w2.heap.size 0 (r0 R) []) := Lib.hid s3
  have bl2 := H2.out.bl
  have B3 := Lib.hid (B2.out.trans (b3.mono B2.out.size))
  clear b3 s3 H2 B2 bl2
  generalize w2.heap.size + 1 = hh at *
  generalize w2.heap.size = m at *
  obtain ⟨n1, hn1, hn1b⟩ := mod9 a ha0
  obtain ⟨n2, hn2, hn2b⟩ := mod9 b hb0
  have hm1 := make_ints n1 (by omega) w3
  obtain ⟨w5, hw5⟩ : ∃ u, (w3.alloc (.cells (icells (List.replicate n1 0)) 2)).alloc (.cells #[.int .i64 0, .int .i64 0, .slice (some ⟨w3.heap.size, 0, none⟩) n1 n1] 35) = u := ⟨_, rfl⟩
  have hm2 := make_ints n2 (by omega) w5
  have T0 := two_new w3 (icells (List.replicate n1 0)) #[.int .i64 0, .int .i64 0, .slice (some ⟨w3.heap.size, 0, none⟩) n1 n1] 2 35
  rw [hw5] at T0
  have z5 : w5.heap.size = w3.heap.size + 2 := by rw [← hw5]; simp
  have HT0 := Lib.hid T0
  clear T0
  have HZ5 := Lib.hid z5
  clear z5
  go_upto_region 10 with fail
  have T1 := two_new w5 (icells (List.replicate n2 0)) #[.int .i64 1, .int .i64 0, .slice (some ⟨w5.heap.size, 0, none⟩) n2 n2] 2 35
  have z7 : ((w5.alloc (.cells (icells (List.replicate n2 0)) 2)).alloc (.cells #[.int .i64 1, .int .i64 0, .slice (some ⟨w5.heap.size, 0, none⟩) n2 n2] 35)).heap.size = w5.heap.size + 2 := by simp
  generalize (w5.alloc (.cells (icells (List.replicate n2 0)) 2)).alloc (.cells #[.int .i64 1, .int .i64 0, .slice (some ⟨w5.heap.size, 0, none⟩) n2 n2] 35) = w7 at *
  have b37 : Below w3.heap.size w3 w7 := Below.step HT0.out.2.2 T1.2.2 (Nat.le_refl _)
  have X0 : Hid (Rm w B B hh m (w3.heap.size + 1) (w5.heap.size + 1) (some ⟨w3.heap.size, 0, none⟩) n1 (some ⟨w5.heap.size, 0, none⟩) n2 0 (r0 R) [w5.heap.size + 1, w5.heap.size, w3.heap.size + 1, w3.heap.size] w7) := Lib.hid
    ⟨(S3.out.tn (T := []) (.of_below b37) (fun k hk => by cases hk) (fun k hk => .inr (by have := HZ5.out; simp at hk; omega))).1, HT0.out.2.1.next T1.2.2, T1.2.1, by simp, by simp,
      ⟨HT0.out.1.lies.below T1.2.2, fun _ x e => by cases e; exact .inr (by simp)⟩, ⟨T1.1.lies, fun _ x e => by cases e; exact .inr (by simp)⟩, B3.out.trans (b37.mono B3.out.size), HB.out⟩
  clear hm1 hm2 hw5 T1 z7 b37 HT0 HZ5 S3 B3
  generalize [w5.heap.size + 1, w5.heap.size, w3.heap.size + 1, w3.heap.size] = K at *
  generalize w5.heap.size = q at *
  generalize w3.heap.size = p at *
  obtain ⟨t1, ht1⟩ : ∃ t, wput 0 0 (List.replicate n1 0) = t := ⟨_, rfl⟩
  obtain ⟨t2, ht2⟩ : ∃ t, wput 1 0 (List.replicate n2 0) = t := ⟨_, rfl⟩
  have hl1 : t1.length = 10 + 8 * n1 := by rw [← ht1]; exact zeros_len 0 0 n1 (by omega) (by omega)
  have hl2 : t2.length = 10 + 8 * n2 := by rw [← ht2]; exact zeros_len 1 0 n2 (by omega) (by omega)
  have ho1 : wok 0 (List.replicate n1 0) = true := wok_yes (K := 0) (by omega) (by simp; omega)
  have ho2 : wok 1 (List.replicate n2 0) = true := wok_yes (K := 1) (by omega) (by simp; omega)
  have HW := Lib.hid (And.intro ht1 (And.intro ht2 (And.intro ho1 ho2)))
  have HLL := Lib.hid (And.intro (show t1.length ≤ 128 by omega) (show t2.length ≤ 128 by omega))
  have hr1 := rnd128 (n := (t1.length : Int)) (by omega) (by omega)
  have hr2 := rnd128 (n := (t2.length : Int)) (by omega) (by omega)
  have hr10 := (rnd16 (n := (t1.length : Int)) (rok_yes (by omega) (by omega))).1
  have hr20 := (rnd16 (n := (t2.length : Int)) (rok_yes (by omega) (by omega))).1
  clear ht1 ht2 ho1 ho2 hl1 hl2 hn1 hn2
  obtain ⟨r1, hr1e⟩ : ∃ r, rnd (t1.length : Int) = r := ⟨_, rfl⟩
  obtain ⟨r2, hr2e⟩ : ∃ r, rnd (t2.length : Int) = r := ⟨_, rfl⟩
  rw [hr1e] at hr1 hr10
  rw [hr2e] at hr2 hr20
  have HRE := Lib.hid (And.intro hr1e hr2e)
  clear hr1e hr2e
  obtain ⟨y0, y1, y2⟩ := X0.out.e1.three
  have hsz1 := wsize_any 0 0 _ n1 n1 (List.replicate n1 0) w7 (by omega) (by omega) (by simp) (by unfold maxLen; omega) X0.out.l1.li
  rw [HW.out.1] at hsz1
  go_wp2_with fail
  clear y0 y1 y2
  refine hsz1.mono ?_
  rintro e w8 ⟨rfl, b8⟩
  have X1 := Lib.hid (X0.out.below b8)
  clear b8 X0 hsz1
  go_wp2_with fail
  refine (round_any _ w8 X1.out.st.sc.tab).mono ?_
  rw [HRE.out.1]
  rintro e w9 ⟨rfl, rfl⟩
  obtain ⟨y0, y1, y2⟩ := X1.out.e2.three
  have hsz2 := wsize_any 1 0 _ n2 n2 (List.replicate n2 0) w8 (by omega) (by omega) (by simp) (by unfold maxLen; omega) X1.out.l2.li
  rw [HW.out.2.1] at hsz2
  go_wp2_with fail
  clear y0 y1 y2
  refine hsz2.mono ?_
  rintro e w9 ⟨rfl, b9⟩
  have X2 := Lib.hid (X1.out.below b9)
  clear b9 X1 hsz2
  go_wp2_with fail
  refine (round_any _ w9 X2.out.st.sc.tab).mono ?_
  rw [HRE.out.2]
  rintro e w10 ⟨rfl, rfl⟩
  go_upto_region 12 with fail
  have hways : (r1 ≤ R ∧ r1 + r2 ≤ R ∧ r2 ≤ R - r2) ∨ (r1 ≤ R ∧ r1 + r2 ≤ R ∧ R - r2 < r2) ∨ (r1 ≤ R ∧ R < r1 + r2 ∧ r2 ≤ R) ∨ (r1 ≤ R ∧ R < r1 + r2 ∧ R < r2) ∨ (R < r1 ∧ r2 ≤ R ∧ r2 ≤ R - r2) ∨ (R < r1 ∧ r2 ≤ R ∧ R - r2 < r2) ∨ (R < r1 ∧ R < r2 ∧ R < r2) := by omega
  rcases hways with ⟨i1, i2, i3⟩ | ⟨i1, i2, i3⟩ | ⟨i1, i2, i3⟩ | ⟨i1, i2, i3⟩ | ⟨i1, i2, i3⟩ | ⟨i1, i2, i3⟩ | ⟨i1, i2, i3⟩
  · as_aux_lemma =>
      have hrm := room_math R t1 t2 HLL.out.1 HLL.out.2 true true (by rw [HRE.out.1]; simp; omega) (by rw [HRE.out.1, HRE.out.2]; simp; omega)
      have P1 : perr (r0 R) 1 true t1 = 0 := hrm.p1
      have P2 : perr (sput (r0 R) 1 true t1) 2 true t2 = 0 := hrm.p2
      have D1 : ((sput (sput (r0 R) 1 true t1) 2 true t2).f 1).isSome = true := hrm.d1
      have P3 : perr (sdrop (sput (sput (r0 R) 1 true t1) 2 true t2) 1) 3 true t2 = 0 := by rw [hrm.p3, HRE.out.2]; exact if_pos (by simp; omega)
      have HP := Lib.hid (And.intro P1 (And.intro P2 (And.intro D1 P3)))
      clear hrm P1 P2 D1 P3
      obtain ⟨y0, y1, y2⟩ := X2.out.e1.three
      go_wp2_with fail
      clear y0 y1 y2
      refine (stput_any X2.out.st (by omega) 1 (i64_small (by omega)) 0 0 _ n1 n1 (List.replicate n1 0) (by omega) (by omega) (by simp) (by unfold maxLen; omega) X2.out.l1.li).mono ?_
      rw [HW.out.1, HW.out.2.2.1, HP.out.1]
      rintro e w11 ⟨rfl, s11, k11⟩
      have X3 := Lib.hid (X2.out.deed s11 k11)
      clear s11 k11 X2
      obtain ⟨y0, y1, y2⟩ := X3.out.e2.three
      go_wp2_with fail
      clear y0 y1 y2
      refine (stput_any X3.out.st (by omega) 2 (i64_small (by omega)) 1 0 _ n2 n2 (List.replicate n2 0) (by omega) (by omega) (by simp) (by unfold maxLen; omega) X3.out.l2.li).mono ?_
      rw [HW.out.2.1, HW.out.2.2.2, HP.out.2.1]
      rintro e w12 ⟨rfl, s12, k12⟩
      have X4 := Lib.hid (X3.out.deed s12 k12)
      clear s12 k12 X3
      go_wp2_with fail
      refine (stdrop_any X4.out.st (by omega) 1 (i64_small (by omega))).mono ?_
      rw [HP.out.2.2.1]
      rintro e w13 ⟨rfl, s13, k13⟩
      have X5 := Lib.hid (X4.out.deed s13 k13)
      clear s13 k13 X4
      obtain ⟨y0, y1, y2⟩ := X5.out.e2.three
      go_wp2_with fail
      clear y0 y1 y2
      refine (stput_any X5.out.st (by omega) 3 (i64_small (by omega)) 1 0 _ n2 n2 (List.replicate n2 0) (by omega) (by omega) (by simp) (by unfold maxLen; omega) X5.out.l2.li).mono ?_
      rw [HW.out.2.1, HW.out.2.2.2, HP.out.2.2.2]
      rintro e w14 ⟨rfl, s14, k14⟩
      have X6 := Lib.hid (X5.out.deed s14 k14)
      clear s14 k14 X5
      go_wp2_with fail
      refine (charged_sc X6.out.st.sc).mono ?_
      rintro e w15 ⟨rfl, rfl⟩
      go_wp2_with fail
      refine (limit_sc X6.out.st.sc).mono ?_
      rintro e w15 ⟨rfl, rfl⟩
      have hcl : chg (sput (sdrop (sput (sput (r0 R) 1 true t1) 2 true t2) 1) 3 true t2).s.l ≤ (sput (sdrop (sput (sput (r0 R) 1 true t1) 2 true t2) 1) 3 true t2).s.lim := by
        obtain ⟨v, h1, -⟩ := X6.out.st.sc.ar
        exact h1.wf.chl
      generalize chg (sput (sdrop (sput (sput (r0 R) 1 true t1) 2 true t2) 1) 3 true t2).s.l = u1 at *
      generalize (sput (sdrop (sput (sput (r0 R) 1 true t1) 2 true t2) 1) 3 true t2).s.lim = u2 at *
      go_wp2
      go_ret
      exact ⟨rfl, X6.out.bel⟩
  · as_aux_lemma =>
      have hrm := room_math R t1 t2 HLL.out.1 HLL.out.2 true true (by rw [HRE.out.1]; simp; omega) (by rw [HRE.out.1, HRE.out.2]; simp; omega)
      have P1 : perr (r0 R) 1 true t1 = 0 := hrm.p1
      have P2 : perr (sput (r0 R) 1 true t1) 2 true t2 = 0 := hrm.p2
      have D1 : ((sput (sput (r0 R) 1 true t1) 2 true t2).f 1).isSome = true := hrm.d1
      have P3 : perr (sdrop (sput (sput (r0 R) 1 true t1) 2 true t2) 1) 3 true t2 = 9 := by rw [hrm.p3, HRE.out.2]; exact if_neg (by simp; omega)
      have HP := Lib.hid (And.intro P1 (And.intro P2 (And.intro D1 P3)))
      clear hrm P1 P2 D1 P3
      obtain ⟨y0, y1, y2⟩ := X2.out.e1.three
      go_wp2_with fail
      clear y0 y1 y2
      refine (stput_any X2.out.st (by omega) 1 (i64_small (by omega)) 0 0 _ n1 n1 (List.replicate n1 0) (by omega) (by omega) (by simp) (by unfold maxLen; omega) X2.out.l1.li).mono ?_
      rw [HW.out.1, HW.out.2.2.1, HP.out.1]
      rintro e w11 ⟨rfl, s11, k11⟩
      have X3 := Lib.hid (X2.out.deed s11 k11)
      clear s11 k11 X2
      obtain ⟨y0, y1, y2⟩ := X3.out.e2.three
      go_wp2_with fail
      clear y0 y1 y2
      refine (stput_any X3.out.st (by omega) 2 (i64_small (by omega)) 1 0 _ n2 n2 (List.replicate n2 0) (by omega) (by omega) (by simp) (by unfold maxLen; omega) X3.out.l2.li).mono ?_
      rw [HW.out.2.1, HW.out.2.2.2, HP.out.2.1]
      rintro e w12 ⟨rfl, s12, k12⟩
      have X4 := Lib.hid (X3.out.deed s12 k12)
      clear s12 k12 X3
      go_wp2_with fail
      refine (stdrop_any X4.out.st (by omega) 1 (i64_small (by omega))).mono ?_
      rw [HP.out.2.2.1]
      rintro e w13 ⟨rfl, s13, k13⟩
      have X5 := Lib.hid (X4.out.deed s13 k13)
      clear s13 k13 X4
      obtain ⟨y0, y1, y2⟩ := X5.out.e2.three
      go_wp2_with fail
      clear y0 y1 y2
      refine (stput_any X5.out.st (by omega) 3 (i64_small (by omega)) 1 0 _ n2 n2 (List.replicate n2 0) (by omega) (by omega) (by simp) (by unfold maxLen; omega) X5.out.l2.li).mono ?_
      rw [HW.out.2.1, HW.out.2.2.2, HP.out.2.2.2]
      rintro e w14 ⟨rfl, s14, k14⟩
      have X6 := Lib.hid (X5.out.deed s14 k14)
      clear s14 k14 X5
      go_wp2_with fail
      refine (charged_sc X6.out.st.sc).mono ?_
      rintro e w15 ⟨rfl, rfl⟩
      go_wp2_with fail
      refine (limit_sc X6.out.st.sc).mono ?_
      rintro e w15 ⟨rfl, rfl⟩
      have hcl : chg (sput (sdrop (sput (sput (r0 R) 1 true t1) 2 true t2) 1) 3 true t2).s.l ≤ (sput (sdrop (sput (sput (r0 R) 1 true t1) 2 true t2) 1) 3 true t2).s.lim := by
        obtain ⟨v, h1, -⟩ := X6.out.st.sc.ar
        exact h1.wf.chl
      generalize chg (sput (sdrop (sput (sput (r0 R) 1 true t1) 2 true t2) 1) 3 true t2).s.l = u1 at *
      generalize (sput (sdrop (sput (sput (r0 R) 1 true t1) 2 true t2) 1) 3 true t2).s.lim = u2 at *
      have hd : decide (r2 ≤ R - r2) = false := decide_eq_false (by omega)
      go_wp2
      go_ret
      exact ⟨rfl, X6.out.bel⟩
  · as_aux_lemma =>
      have hrm := room_math R t1 t2 HLL.out.1 HLL.out.2 true false (by rw [HRE.out.1]; simp; omega) (by rw [HRE.out.1, HRE.out.2]; simp; omega)
      have P1 : perr (r0 R) 1 true t1 = 0 := hrm.p1
      have P2 : perr (sput (r0 R) 1 true t1) 2 true t2 = 9 := hrm.p2
      have D1 : ((sput (sput (r0 R) 1 true t1) 2 true t2).f 1).isSome = true := hrm.d1
      have P3 : perr (sdrop (sput (sput (r0 R) 1 true t1) 2 true t2) 1) 3 true t2 = 0 := by rw [hrm.p3, HRE.out.2]; exact if_pos (by simp; omega)
      have HP := Lib.hid (And.intro P1 (And.intro P2 (And.intro D1 P3)))
      clear hrm P1 P2 D1 P3
      obtain ⟨y0, y1, y2⟩ := X2.out.e1.three
      go_wp2_with fail
      clear y0 y1 y2
      refine (stput_any X2.out.st (by omega) 1 (i64_small (by omega)) 0 0 _ n1 n1 (List.replicate n1 0) (by omega) (by omega) (by simp) (by unfold maxLen; omega) X2.out.l1.li).mono ?_
      rw [HW.out.1, HW.out.2.2.1, HP.out.1]
      rintro e w11 ⟨rfl, s11, k11⟩
      have X3 := Lib.hid (X2.out.deed s11 k11)
      clear s11 k11 X2
      obtain ⟨y0, y1, y2⟩ := X3.out.e2.three
      go_wp2_with fail
      clear y0 y1 y2
      refine (stput_any X3.out.st (by omega) 2 (i64_small (by omega)) 1 0 _ n2 n2 (List.replicate n2 0) (by omega) (by omega) (by simp) (by unfold maxLen; omega) X3.out.l2.li).mono ?_
      rw [HW.out.2.1, HW.out.2.2.2, HP.out.2.1]
      rintro e w12 ⟨rfl, s12, k12⟩
      have X4 := Lib.hid (X3.out.deed s12 k12)
      clear s12 k12 X3
      go_wp2_with fail
      refine (stdrop_any X4.out.st (by omega) 1 (i64_small (by omega))).mono ?_
      rw [HP.out.2.2.1]
      rintro e w13 ⟨rfl, s13, k13⟩
      have X5 := Lib.hid (X4.out.deed s13 k13)
      clear s13 k13 X4
      obtain ⟨y0, y1, y2⟩ := X5.out.e2.three
      go_wp2_with fail
      clear y0 y1 y2
      refine (stput_any X5.out.st (by omega) 3 (i64_small (by omega)) 1 0 _ n2 n2 (List.replicate n2 0) (by omega) (by omega) (by simp) (by unfold maxLen; omega) X5.out.l2.li).mono ?_
      rw [HW.out.2.1, HW.out.2.2.2, HP.out.2.2.2]
      rintro e w14 ⟨rfl, s14, k14⟩
      have X6 := Lib.hid (X5.out.deed s14 k14)
      clear s14 k14 X5
      go_wp2_with fail
      refine (charged_sc X6.out.st.sc).mono ?_
      rintro e w15 ⟨rfl, rfl⟩
      go_wp2_with fail
      refine (limit_sc X6.out.st.sc).mono ?_
      rintro e w15 ⟨rfl, rfl⟩
      have hcl : chg (sput (sdrop (sput (sput (r0 R) 1 true t1) 2 true t2) 1) 3 true t2).s.l ≤ (sput (sdrop (sput (sput (r0 R) 1 true t1) 2 true t2) 1) 3 true t2).s.lim := by
        obtain ⟨v, h1, -⟩ := X6.out.st.sc.ar
        exact h1.wf.chl
      generalize chg (sput (sdrop (sput (sput (r0 R) 1 true t1) 2 true t2) 1) 3 true t2).s.l = u1 at *
      generalize (sput (sdrop (sput (sput (r0 R) 1 true t1) 2 true t2) 1) 3 true t2).s.lim = u2 at *
      go_wp2
      go_ret
      exact ⟨rfl, X6.out.bel⟩
  · as_aux_lemma =>
      have hrm := room_math R t1 t2 HLL.out.1 HLL.out.2 true false (by rw [HRE.out.1]; simp; omega) (by rw [HRE.out.1, HRE.out.2]; simp; omega)
      have P1 : perr (r0 R) 1 true t1 = 0 := hrm.p1
      have P2 : perr (sput (r0 R) 1 true t1) 2 true t2 = 9 := hrm.p2
      have D1 : ((sput (sput (r0 R) 1 true t1) 2 true t2).f 1).isSome = true := hrm.d1
      have P3 : perr (sdrop (sput (sput (r0 R) 1 true t1) 2 true t2) 1) 3 true t2 = 9 := by rw [hrm.p3, HRE.out.2]; exact if_neg (by simp; omega)
      have HP := Lib.hid (And.intro P1 (And.intro P2 (And.intro D1 P3)))
      clear hrm P1 P2 D1 P3
      obtain ⟨y0, y1, y2⟩ := X2.out.e1.three
      go_wp2_with fail
      clear y0 y1 y2
      refine (stput_any X2.out.st (by omega) 1 (i64_small (by omega)) 0 0 _ n1 n1 (List.replicate n1 0) (by omega) (by omega) (by simp) (by unfold maxLen; omega) X2.out.l1.li).mono ?_
      rw [HW.out.1, HW.out.2.2.1, HP.out.1]
      rintro e w11 ⟨rfl, s11, k11⟩
      have X3 := Lib.hid (X2.out.deed s11 k11)
      clear s11 k11 X2
      obtain ⟨y0, y1, y2⟩ := X3.out.e2.three
      go_wp2_with fail
      clear y0 y1 y2
      refine (stput_any X3.out.st (by omega) 2 (i64_small (by omega)) 1 0 _ n2 n2 (List.replicate n2 0) (by omega) (by omega) (by simp) (by unfold maxLen; omega) X3.out.l2.li).mono ?_
      rw [HW.out.2.1, HW.out.2.2.2, HP.out.2.1]
      rintro e w12 ⟨rfl, s12, k12⟩
      have X4 := Lib.hid (X3.out.deed s12 k12)
      clear s12 k12 X3
      go_wp2_with fail
      refine (stdrop_any X4.out.st (by omega) 1 (i64_small (by omega))).mono ?_
      rw [HP.out.2.2.1]
      rintro e w13 ⟨rfl, s13, k13⟩
      have X5 := Lib.hid (X4.out.deed s13 k13)
      clear s13 k13 X4
      obtain ⟨y0, y1, y2⟩ := X5.out.e2.three
      go_wp2_with fail
      clear y0 y1 y2
      refine (stput_any X5.out.st (by omega) 3 (i64_small (by omega)) 1 0 _ n2 n2 (List.replicate n2 0) (by omega) (by omega) (by simp) (by unfold maxLen; omega) X5.out.l2.li).mono ?_
      rw [HW.out.2.1, HW.out.2.2.2, HP.out.2.2.2]
      rintro e w14 ⟨rfl, s14, k14⟩
      have X6 := Lib.hid (X5.out.deed s14 k14)
      clear s14 k14 X5
      go_wp2_with fail
      refine (charged_sc X6.out.st.sc).mono ?_
      rintro e w15 ⟨rfl, rfl⟩
      go_wp2_with fail
      refine (limit_sc X6.out.st.sc).mono ?_
      rintro e w15 ⟨rfl, rfl⟩
      have hcl : chg (sput (sdrop (sput (sput (r0 R) 1 true t1) 2 true t2) 1) 3 true t2).s.l ≤ (sput (sdrop (sput (sput (r0 R) 1 true t1) 2 true t2) 1) 3 true t2).s.lim := by
        obtain ⟨v, h1, -⟩ := X6.out.st.sc.ar
        exact h1.wf.chl
      generalize chg (sput (sdrop (sput (sput (r0 R) 1 true t1) 2 true t2) 1) 3 true t2).s.l = u1 at *
      generalize (sput (sdrop (sput (sput (r0 R) 1 true t1) 2 true t2) 1) 3 true t2).s.lim = u2 at *
      have hd : decide (r2 ≤ R) = false := decide_eq_false (by omega)
      go_wp2
      go_ret
      exact ⟨rfl, X6.out.bel⟩
  · as_aux_lemma =>
      have hrm := room_math R t1 t2 HLL.out.1 HLL.out.2 false true (by rw [HRE.out.1]; simp; omega) (by rw [HRE.out.1, HRE.out.2]; simp; omega)
      have P1 : perr (r0 R) 1 true t1 = 9 := hrm.p1
      have P2 : perr (sput (r0 R) 1 true t1) 2 true t2 = 0 := hrm.p2
      have D1 : ((sput (sput (r0 R) 1 true t1) 2 true t2).f 1).isSome = false := hrm.d1
      have P3 : perr (sdrop (sput (sput (r0 R) 1 true t1) 2 true t2) 1) 3 true t2 = 0 := by rw [hrm.p3, HRE.out.2]; exact if_pos (by simp; omega)
      have HP := Lib.hid (And.intro P1 (And.intro P2 (And.intro D1 P3)))
      clear hrm P1 P2 D1 P3
      obtain ⟨y0, y1, y2⟩ := X2.out.e1.three
      go_wp2_with fail
      clear y0 y1 y2
      refine (stput_any X2.out.st (by omega) 1 (i64_small (by omega)) 0 0 _ n1 n1 (List.replicate n1 0) (by omega) (by omega) (by simp) (by unfold maxLen; omega) X2.out.l1.li).mono ?_
      rw [HW.out.1, HW.out.2.2.1, HP.out.1]
      rintro e w11 ⟨rfl, s11, k11⟩
      have X3 := Lib.hid (X2.out.deed s11 k11)
      clear s11 k11 X2
      obtain ⟨y0, y1, y2⟩ := X3.out.e2.three
      go_wp2_with fail
      clear y0 y1 y2
      refine (stput_any X3.out.st (by omega) 2 (i64_small (by omega)) 1 0 _ n2 n2 (List.replicate n2 0) (by omega) (by omega) (by simp) (by unfold maxLen; omega) X3.out.l2.li).mono ?_
      rw [HW.out.2.1, HW.out.2.2.2, HP.out.2.1]
      rintro e w12 ⟨rfl, s12, k12⟩
      have X4 := Lib.hid (X3.out.deed s12 k12)
      clear s12 k12 X3
      go_wp2_with fail
      refine (stdrop_any X4.out.st (by omega) 1 (i64_small (by omega))).mono ?_
      rw [HP.out.2.2.1]
      rintro e w13 ⟨rfl, s13, k13⟩
      have X5 := Lib.hid (X4.out.deed s13 k13)
      clear s13 k13 X4
      obtain ⟨y0, y1, y2⟩ := X5.out.e2.three
      go_wp2_with fail
      clear y0 y1 y2
      refine (stput_any X5.out.st (by omega) 3 (i64_small (by omega)) 1 0 _ n2 n2 (List.replicate n2 0) (by omega) (by omega) (by simp) (by unfold maxLen; omega) X5.out.l2.li).mono ?_
      rw [HW.out.2.1, HW.out.2.2.2, HP.out.2.2.2]
      rintro e w14 ⟨rfl, s14, k14⟩
      have X6 := Lib.hid (X5.out.deed s14 k14)
      clear s14 k14 X5
      go_wp2_with fail
      refine (charged_sc X6.out.st.sc).mono ?_
      rintro e w15 ⟨rfl, rfl⟩
      go_wp2_with fail
      refine (limit_sc X6.out.st.sc).mono ?_
      rintro e w15 ⟨rfl, rfl⟩
      have hcl : chg (sput (sdrop (sput (sput (r0 R) 1 true t1) 2 true t2) 1) 3 true t2).s.l ≤ (sput (sdrop (sput (sput (r0 R) 1 true t1) 2 true t2) 1) 3 true t2).s.lim := by
        obtain ⟨v, h1, -⟩ := X6.out.st.sc.ar
        exact h1.wf.chl
      generalize chg (sput (sdrop (sput (sput (r0 R) 1 true t1) 2 true t2) 1) 3 true t2).s.l = u1 at *
      generalize (sput (sdrop (sput (sput (r0 R) 1 true t1) 2 true t2) 1) 3 true t2).s.lim = u2 at *
      go_wp2
      go_ret
      exact ⟨rfl, X6.out.bel⟩
  · as_aux_lemma =>
      have hrm := room_math R t1 t2 HLL.out.1 HLL.out.2 false true (by rw [HRE.out.1]; simp; omega) (by rw [HRE.out.1, HRE.out.2]; simp; omega)
      have P1 : perr (r0 R) 1 true t1 = 9 := hrm.p1
      have P2 : perr (sput (r0 R) 1 true t1) 2 true t2 = 0 := hrm.p2
      have D1 : ((sput (sput (r0 R) 1 true t1) 2 true t2).f 1).isSome = false := hrm.d1
      have P3 : perr (sdrop (sput (sput (r0 R) 1 true t1) 2 true t2) 1) 3 true t2 = 9 := by rw [hrm.p3, HRE.out.2]; exact if_neg (by simp; omega)
      have HP := Lib.hid (And.intro P1 (And.intro P2 (And.intro D1 P3)))
      clear hrm P1 P2 D1 P3
      obtain ⟨y0, y1, y2⟩ := X2.out.e1.three
      go_wp2_with fail
      clear y0 y1 y2
      refine (stput_any X2.out.st (by omega) 1 (i64_small (by omega)) 0 0 _ n1 n1 (List.replicate n1 0) (by omega) (by omega) (by simp) (by unfold maxLen; omega) X2.out.l1.li).mono ?_
      rw [HW.out.1, HW.out.2.2.1, HP.out.1]
      rintro e w11 ⟨rfl, s11, k11⟩
      have X3 := Lib.hid (X2.out.deed s11 k11)
      clear s11 k11 X2
      obtain ⟨y0, y1, y2⟩ := X3.out.e2.three
      go_wp2_with fail
      clear y0 y1 y2
      refine (stput_any X3.out.st (by omega) 2 (i64_small (by omega)) 1 0 _ n2 n2 (List.replicate n2 0) (by omega) (by omega) (by simp) (by unfold maxLen; omega) X3.out.l2.li).mono ?_
      rw [HW.out.2.1, HW.out.2.2.2, HP.out.2.1]
      rintro e w12 ⟨rfl, s12, k12⟩
      have X4 := Lib.hid (X3.out.deed s12 k12)
      clear s12 k12 X3
      go_wp2_with fail
      refine (stdrop_any X4.out.st (by omega) 1 (i64_small (by omega))).mono ?_
      rw [HP.out.2.2.1]
      rintro e w13 ⟨rfl, s13, k13⟩
      have X5 := Lib.hid (X4.out.deed s13 k13)
      clear s13 k13 X4
      obtain ⟨y0, y1, y2⟩ := X5.out.e2.three
      go_wp2_with fail
      clear y0 y1 y2
      refine (stput_any X5.out.st (by omega) 3 (i64_small (by omega)) 1 0 _ n2 n2 (List.replicate n2 0) (by omega) (by omega) (by simp) (by unfold maxLen; omega) X5.out.l2.li).mono ?_
      rw [HW.out.2.1, HW.out.2.2.2, HP.out.2.2.2]
      rintro e w14 ⟨rfl, s14, k14⟩
      have X6 := Lib.hid (X5.out.deed s14 k14)
      clear s14 k14 X5
      go_wp2_with fail
      refine (charged_sc X6.out.st.sc).mono ?_
      rintro e w15 ⟨rfl, rfl⟩
      go_wp2_with fail
      refine (limit_sc X6.out.st.sc).mono ?_
      rintro e w15 ⟨rfl, rfl⟩
      have hcl : chg (sput (sdrop (sput (sput (r0 R) 1 true t1) 2 true t2) 1) 3 true t2).s.l ≤ (sput (sdrop (sput (sput (r0 R) 1 true t1) 2 true t2) 1) 3 true t2).s.lim := by
        obtain ⟨v, h1, -⟩ := X6.out.st.sc.ar
        exact h1.wf.chl
      generalize chg (sput (sdrop (sput (sput (r0 R) 1 true t1) 2 true t2) 1) 3 true t2).s.l = u1 at *
      generalize (sput (sdrop (sput (sput (r0 R) 1 true t1) 2 true t2) 1) 3 true t2).s.lim = u2 at *
      have hd : decide (r2 ≤ R - r2) = false := decide_eq_false (by omega)
      go_wp2
      go_ret
      exact ⟨rfl, X6.out.bel⟩
  · as_aux_lemma =>
      have hrm := room_math R t1 t2 HLL.out.1 HLL.out.2 false false (by rw [HRE.out.1]; simp; omega) (by rw [HRE.out.1, HRE.out.2]; simp; omega)
      have P1 : perr (r0 R) 1 true t1 = 9 := hrm.p1
      have P2 : perr (sput (r0 R) 1 true t1) 2 true t2 = 9 := hrm.p2
      have D1 : ((sput (sput (r0 R) 1 true t1) 2 true t2).f 1).isSome = false := hrm.d1
      have P3 : perr (sdrop (sput (sput (r0 R) 1 true t1) 2 true t2) 1) 3 true t2 = 9 := by rw [hrm.p3, HRE.out.2]; exact if_neg (by simp; omega)
      have HP := Lib.hid (And.intro P1 (And.intro P2 (And.intro D1 P3)))
      clear hrm P1 P2 D1 P3
      obtain ⟨y0, y1, y2⟩ := X2.out.e1.three
      go_wp2_with fail
      clear y0 y1 y2
      refine (stput_any X2.out.st (by omega) 1 (i64_small (by omega)) 0 0 _ n1 n1 (List.replicate n1 0) (by omega) (by omega) (by simp) (by unfold maxLen; omega) X2.out.l1.li).mono ?_
      rw [HW.out.1, HW.out.2.2.1, HP.out.1]
      rintro e w11 ⟨rfl, s11, k11⟩
      have X3 := Lib.hid (X2.out.deed s11 k11)
      clear s11 k11 X2
      obtain ⟨y0, y1, y2⟩ := X3.out.e2.three
      go_wp2_with fail
      clear y0 y1 y2
      refine (stput_any X3.out.st (by omega) 2 (i64_small (by omega)) 1 0 _ n2 n2 (List.replicate n2 0) (by omega) (by omega) (by simp) (by unfold maxLen; omega) X3.out.l2.li).mono ?_
      rw [HW.out.2.1, HW.out.2.2.2, HP.out.2.1]
      rintro e w12 ⟨rfl, s12, k12⟩
      have X4 := Lib.hid (X3.out.deed s12 k12)
      clear s12 k12 X3
      go_wp2_with fail
      refine (stdrop_any X4.out.st (by omega) 1 (i64_small (by omega))).mono ?_
      rw [HP.out.2.2.1]
      rintro e w13 ⟨rfl, s13, k13⟩
      have X5 := Lib.hid (X4.out.deed s13 k13)
      clear s13 k13 X4
      obtain ⟨y0, y1, y2⟩ := X5.out.e2.three
      go_wp2_with fail
      clear y0 y1 y2
      refine (stput_any X5.out.st (by omega) 3 (i64_small (by omega)) 1 0 _ n2 n2 (List.replicate n2 0) (by omega) (by omega) (by simp) (by unfold maxLen; omega) X5.out.l2.li).mono ?_
      rw [HW.out.2.1, HW.out.2.2.2, HP.out.2.2.2]
      rintro e w14 ⟨rfl, s14, k14⟩
      have X6 := Lib.hid (X5.out.deed s14 k14)
      clear s14 k14 X5
      go_wp2_with fail
      refine (charged_sc X6.out.st.sc).mono ?_
      rintro e w15 ⟨rfl, rfl⟩
      go_wp2_with fail
      refine (limit_sc X6.out.st.sc).mono ?_
      rintro e w15 ⟨rfl, rfl⟩
      have hcl : chg (sput (sdrop (sput (sput (r0 R) 1 true t1) 2 true t2) 1) 3 true t2).s.l ≤ (sput (sdrop (sput (sput (r0 R) 1 true t1) 2 true t2) 1) 3 true t2).s.lim := by
        obtain ⟨v, h1, -⟩ := X6.out.st.sc.ar
        exact h1.wf.chl
      generalize chg (sput (sdrop (sput (sput (r0 R) 1 true t1) 2 true t2) 1) 3 true t2).s.l = u1 at *
      generalize (sput (sdrop (sput (sput (r0 R) 1 true t1) 2 true t2) 1) 3 true t2).s.lim = u2 at *
      have hd : decide (r2 ≤ R) = false := decide_eq_false (by omega)
      go_wp2
      go_ret
      exact ⟨rfl, X6.out.bel⟩
end Go.Proofs.YtglhebpblncjaaaDoor
