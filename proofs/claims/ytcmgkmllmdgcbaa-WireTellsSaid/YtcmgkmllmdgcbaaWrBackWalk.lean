/- WireBack returns true, as a walk. -/
import Derived.Test.YtcmgkmllmdgcbaaWrBackMath
namespace Go.Proofs.Ytcmgkmllmdgcbaa
open Go.RowKit
set_option linter.unusedVariables false

/-- A kind as a byte. -/
def k8 (K : Int) : Nat := u64n K % 256
theorem k8_lt (K : Int) : k8 K < 256 := by unfold k8; omega
/-- Two events lie in memory, with their numbers. -/
structure Sc2 (w0 wk : World) (p q : Nat) (K T : Int) (A : Option Addr) (n c : Nat) (l : List Int) (K' T' : Int) (B : Option Addr) (m d : Nat) (r : List Int) : Prop where
  e : Has wk p 24 #[.int .i64 K, .int .i64 T, .slice A n c]
  f : Has wk q 24 #[.int .i64 K', .int .i64 T', .slice B m d]
  la : Lies wk A (ints l)
  lb : Lies wk B (ints r)
  bel : Below w0.heap.size w0 wk
theorem Sc2.next {w0 wk w' : World} {p q n c m d : Nat} {K T K' T' : Int} {A B : Option Addr} {l r : List Int} (h : Sc2 w0 wk p q K T A n c l K' T' B m d r) (hb : Below wk.heap.size wk w') : Sc2 w0 w' p q K T A n c l K' T' B m d r :=
  ⟨h.e.next hb, h.f.next hb, h.la.below hb, h.lb.below hb, Below.step h.bel hb (Nat.le_refl _)⟩
section
variable {w w1 : World} {K T K' T' : Int} {A B : Option Addr} {n c m d : Nat} {l r : List Int}
theorem sc2_two (X : Has w1 w.heap.size 24 #[.int .i64 K, .int .i64 T, .slice A n c]) (Y : Has w1 (w.heap.size + 1) 24 #[.int .i64 K', .int .i64 T', .slice B m d]) (hb : Below w.heap.size w w1)
    (k k' N M : Nat) (hl : Lies w A (ints l)) (hr : Lies w B (ints r)) :
    Sc2 w ((((w1.setCell ⟨w.heap.size, 0, none⟩ (.int .i64 (k : Int))).setCell ⟨w.heap.size + 1, 0, none⟩ (.int .i64 (k' : Int))).setCell ⟨w.heap.size, 2, none⟩ (.slice A N c)).setCell ⟨w.heap.size + 1, 2, none⟩ (.slice B M d))
      w.heap.size (w.heap.size + 1) k T A N c l k' T' B M d r := by
  have bel := ((((hb.setCell (p := ⟨w.heap.size, 0, none⟩) (by simp) (.int .i64 (k : Int))).setCell (p := ⟨w.heap.size + 1, 0, none⟩) (by simp) (.int .i64 (k' : Int))).setCell (p := ⟨w.heap.size, 2, none⟩) (by simp) (.slice A N c)).setCell (p := ⟨w.heap.size + 1, 2, none⟩) (by simp) (.slice B M d))
  refine ⟨?_, ?_, hl.below bel, hr.below bel, bel⟩
  · exact (((X.put 0 (.int .i64 (k : Int))).set_other _ _ (by simp)).put 2 (.slice A N c)).set_other _ _ (by simp)
  · exact ((((Y.set_other _ _ (by simp)).put 0 (.int .i64 (k' : Int))).set_other _ _ (by simp)).put 2 (.slice B M d))
theorem sc2_same (X : Has w1 w.heap.size 24 #[.int .i64 K, .int .i64 T, .slice A n c]) (Y : Has w1 (w.heap.size + 1) 24 #[.int .i64 K', .int .i64 T', .slice B m d]) (hb : Below w.heap.size w w1)
    (k k' N M : Nat) (hl : Lies w A (ints l)) (hr : Lies w B (ints r)) :
    Sc2 w (((((((w1.setCell ⟨w.heap.size, 0, none⟩ (.int .i64 (k : Int))).setCell ⟨w.heap.size + 1, 0, none⟩ (.int .i64 (k' : Int))).setCell ⟨w.heap.size, 2, none⟩ (.slice A N c)).setCell ⟨w.heap.size + 1, 2, none⟩ (.slice B M d)).setCell ⟨w.heap.size + 1, 0, none⟩ (.int .i64 (k : Int))).setCell ⟨w.heap.size + 1, 1, none⟩ (.int .i64 T)).setCell ⟨w.heap.size + 1, 2, none⟩ (.slice A N c))
      w.heap.size (w.heap.size + 1) k T A N c l k T A N c l := by
  have S := sc2_two X Y hb k k' N M hl hr
  have bel := ((S.bel.setCell (p := ⟨w.heap.size + 1, 0, none⟩) (by simp) (.int .i64 (k : Int))).setCell (p := ⟨w.heap.size + 1, 1, none⟩) (by simp) (.int .i64 T)).setCell (p := ⟨w.heap.size + 1, 2, none⟩) (by simp) (.slice A N c)
  refine ⟨?_, ?_, hl.below bel, hl.below bel, bel⟩
  · exact ((S.e.set_other _ _ (by simp)).set_other _ _ (by simp)).set_other _ _ (by simp)
  · exact ((S.f.put 0 (.int .i64 (k : Int))).put 1 (.int .i64 T)).put 2 (.slice A N c)
end
theorem back_get (k : Nat) (T : Int) (l : List Int) (N : Nat) (w : World) (hk : k < 256) (h8 : l.length ≤ 8) (hN : l.length = N) (hT : In64 T) (hl : ∀ x ∈ l, In64 x) :
    Calls Try.prog 12 #[.string (str (wput k T l))] w fun e w' => ∃ Z, e = .returned (.tuple #[ev k T Z N N, .int .i64 0]) ∧ Below w.heap.size w w' ∧ Lies w' Z (ints l) := by
  refine (wget_any (str (wput k T l)) (wput k T l) w (str_data _) (by rw [str_size, wput_length k T l hk h8]; omega)).mono ?_
  rintro e w' ⟨Z, rfl, hb, hz⟩
  rw [got_V hk h8 hl] at hz
  exact ⟨Z, by rw [got_K hk h8, got_T hk h8 hT, got_V hk h8 hl, got_E hk h8, hN], hb, hz⟩
set_option maxRecDepth 100000 in
set_option maxHeartbeats 16000000 in
theorem back_walk (K T : Int) (A : Option Addr) (n c : Nat) (l : List Int) (K' T' : Int) (B : Option Addr) (m d : Nat) (r : List Int) (same : Bool) (w : World)
    (hK : In64 K) (hT : In64 T) (hl : l.length = n) (hnc : n ≤ c) (hcm : c ≤ maxLen) (hnil : A = none → c = 0) (hr : Lies w A (ints l)) (hbz : ∀ x ∈ l, In64 x)
    (hK' : In64 K') (hT' : In64 T') (hl' : r.length = m) (hnc' : m ≤ d) (hcm' : d ≤ maxLen) (hnil' : B = none → d = 0) (hr' : Lies w B (ints r)) (hbz' : ∀ x ∈ r, In64 x) :
    Calls Try.prog 4 #[ev K T A n c, ev K' T' B m d, .bool same] w fun e w' => e = .returned (.bool true) ∧ Below w.heap.size w w' := by
  have hk1 : IntKind.u64.wrap K = (u64n K : Int) := wrap_u64n K
  have hk2 : IntKind.u64.wrap K' = (u64n K' : Int) := wrap_u64n K'
  have hk3 := u64n_lt K
  have hk4 := u64n_lt K'
  have hk5 : (u64n K : Int) % 256 = (k8 K : Int) := by unfold k8; omega
  have hk6 : (u64n K' : Int) % 256 = (k8 K' : Int) := by unfold k8; omega
  have hk7 := k8_lt K
  have hk8 := k8_lt K'
  have HT0 := two_new w #[.int .i64 K, .int .i64 T, .slice A n c] #[.int .i64 K', .int .i64 T', .slice B m d] 24 24
  have X0 := Lib.hid HT0.1
  have Y0 := Lib.hid HT0.2.1
  have B0 := Lib.hid HT0.2.2
  clear HT0
  unfold maxLen at hcm hcm'
  unfold ev
  go_enter Try.func4, Try.ntmps4
  go_wp2_with fail
  refine (examples_any _).mono ?_
  rintro e w1 ⟨rfl, h1⟩
  have X1 := Lib.hid (X0.out.next h1)
  have Y1 := Lib.hid (Y0.out.next h1)
  have B1 := Lib.hid (Below.step B0.out h1 (Nat.le_refl _))
  clear h1 X0 Y0 B0
  have x0 := X1.out.cell 0
  have x1 := X1.out.cell 1
  have x2 := X1.out.cell 2
  have y0 := Y1.out.cell 0
  have y1 := Y1.out.cell 1
  have y2 := Y1.out.cell 2
  have xf0 := X1.out.free 0
  have xf1 := X1.out.free 1
  have xf2 := X1.out.free 2
  have yf0 := Y1.out.free 0
  have yf1 := Y1.out.free 1
  have yf2 := Y1.out.free 2
  have xl := X1.out.lt
  have yl := Y1.out.lt
  simp at x0 x1 x2 y0 y1 y2
  by_cases h8 : 8 < n <;> by_cases g8 : 8 < m <;> cases same
  · obtain ⟨lt, hlt⟩ : ∃ lt, lt = l.take 8 := ⟨_, rfl⟩
    obtain ⟨rt, hrt⟩ : ∃ rt, rt = r.take 8 := ⟨_, rfl⟩
    have HLE : Hid (lt.length = 8) := Lib.hid (by rw [hlt, List.length_take]; omega)
    have HLR : Hid (rt.length = 8) := Lib.hid (by rw [hrt, List.length_take]; omega)
    have HN8 : Hid (8 ≤ 8) := Lib.hid (by omega)
    have HR8 : Hid (8 ≤ 8) := Lib.hid (by omega)
    have LA := Lib.hid (hr.take 8)
    have RA := Lib.hid (hr'.take 8)
    rw [← hlt] at LA
    rw [← hrt] at RA
    have HZE : Hid (∀ x ∈ lt, In64 x) := Lib.hid (by rw [hlt]; exact fun x hx => hbz x (List.mem_of_mem_take hx))
    have HZR : Hid (∀ x ∈ rt, In64 x) := Lib.hid (by rw [hrt]; exact fun x hx => hbz' x (List.mem_of_mem_take hx))
    have HLE8 : Hid (lt.length ≤ 8) := Lib.hid (by rw [HLE.out]; exact HN8.out)
    have HLR8 : Hid (rt.length ≤ 8) := Lib.hid (by rw [HLR.out]; exact HR8.out)
    have HK8 := Lib.hid (k8_lt K)
    have HT := Lib.hid hT
    clear hlt hrt hr hr' hbz hbz' hl hl' hT hnil hnil' hK hK'
    have HLF := Lib.hid HLR.out
    have HLF8 := Lib.hid HLR8.out
    have HM8 := Lib.hid HR8.out
    have HKF8 := Lib.hid (k8_lt K')
    have HTF := Lib.hid hT'
    have HZF := Lib.hid HZR.out
    clear hT'
    go_wp2_with fail
    have S2 := Lib.hid (sc2_two X1.out Y1.out B1.out (k8 K) (k8 K') 8 8 LA.out RA.out)
    clear x0 x1 x2 y0 y1 y2 xf0 xf1 xf2 yf0 yf1 yf2 xl yl X1 Y1 B1
    generalize (((w1.setCell ⟨w.heap.size, 0, none⟩ (.int .i64 (k8 K : Int))).setCell ⟨w.heap.size + 1, 0, none⟩ (.int .i64 (k8 K' : Int))).setCell ⟨w.heap.size, 2, none⟩ (.slice A 8 c)).setCell ⟨w.heap.size + 1, 2, none⟩ (.slice B 8 d) = w2 at *
    refine (wput_any (k8 K) T A 8 c lt w2 (by omega) (by omega) HLE.out (small8 HN8.out) S2.out.la).mono ?_
    rw [wok_yes HK8.out HLE8.out]
    rintro e w3 ⟨rfl, h3⟩
    have S3 := Lib.hid (S2.out.next h3)
    clear h3 S2
    have c0 := S3.out.e.three
    have c1 := S3.out.f.three
    obtain ⟨e0, e1, e2⟩ := c0
    obtain ⟨f0, f1, f2⟩ := c1
    go_wp2_with fail
    clear e0 e1 e2 f0 f1 f2
    refine (wput_any (k8 K') T' B 8 d rt w3 (by omega) (by omega) HLF.out (small8 HM8.out) S3.out.lb).mono ?_
    rw [wok_yes HKF8.out HLF8.out]
    rintro e w4 ⟨rfl, h4⟩
    have S4 := Lib.hid (S3.out.next h4)
    clear h4 S3
    go_wp2_with fail
    refine (back_get (k8 K) T lt 8 w4 HK8.out HLE8.out HLE.out HT.out HZE.out).mono ?_
    rintro e w5 ⟨Z, rfl, h5, hz⟩
    have S5 := Lib.hid ((S4.out.next h5).next ((Below.refl _ _).alloc (Nat.le_refl _) (.cells #[.int .i64 (k8 K : Int), .int .i64 T, .slice Z 8 8] 24)))
    have G5 := Lib.hid (has_new w5 #[.int .i64 (k8 K : Int), .int .i64 T, .slice Z 8 8] 24)
    have Z5 := Lib.hid (hz.alloc (.cells #[.int .i64 (k8 K : Int), .int .i64 T, .slice Z 8 8] 24))
    clear h5 hz S4
    unfold ev
    have es := put_same HK8.out HLE8.out HKF8.out HLF8.out HT.out HTF.out HZE.out HZF.out
    have sz : (str (wput (k8 K) T lt)).size = 10 + 8 * 8 := (str_size _).trans ((wput_length (k8 K) T lt HK8.out HLE8.out).trans (by rw [HLE.out]))
    have szw := wput_length (k8 K) T lt HK8.out HLE8.out
    rw [HLE.out] at szw
    have SZW := Lib.hid szw
    clear szw
    have es2 : ((str (wput (k8 K) T lt)).toList == (str (wput (k8 K') T' rt)).toList) = sameE (k8 K) T lt (k8 K') T' rt := by rw [str_toList, str_toList]; exact es
    clear es
    obtain ⟨bs, hbs⟩ : ∃ bs, sameE (k8 K) T lt (k8 K') T' rt = bs := ⟨_, rfl⟩
    rw [hbs] at es2
    have HBS := Lib.hid hbs
    clear hbs
    have g1 : (bs == bs) = true := by simp
    obtain ⟨e0, e1, e2⟩ := S5.out.e.three
    obtain ⟨f0, f1, f2⟩ := S5.out.f.three
    obtain ⟨g0, g2, g3⟩ := G5.out.three
    go_wp2_with fail
    clear e0 e1 e2 f0 f1 f2 g0 g2 g3
    generalize hw6 : w5.alloc (.cells #[.int .i64 (k8 K : Int), .int .i64 T, .slice Z 8 8] 24) = w6 at *
    refine (wsame_any (k8 K) T (k8 K) T Z A 8 8 8 c lt lt w6 HLE.out HLE.out (small8 HN8.out) (small8 HN8.out) Z5.out S5.out.la).mono ?_
    rw [same_self]
    rintro e w7 ⟨rfl, h7⟩
    have S7 := Lib.hid (S5.out.next h7)
    clear h7 S5 G5 Z5
    obtain ⟨e0, e1, e2⟩ := S7.out.e.three
    obtain ⟨f0, f1, f2⟩ := S7.out.f.three
    go_wp2_with fail
    clear e0 e1 e2 f0 f1 f2
    refine (wsame_any (k8 K) T (k8 K') T' A B 8 c 8 d lt rt w7 HLE.out HLF.out (small8 HN8.out) (small8 HM8.out) S7.out.la S7.out.lb).mono ?_
    rw [HBS.out]
    rintro e w8 ⟨rfl, h8_⟩
    have S8 := Lib.hid (S7.out.next h8_)
    clear h8_ S7
    obtain ⟨e0, e1, e2⟩ := S8.out.e.three
    go_wp2_with fail
    clear e0 e1 e2
    refine (wsize_any (k8 K) T A 8 c lt w8 (by omega) (by omega) HLE.out (small8 HN8.out) S8.out.la).mono ?_
    rw [SZW.out]
    rintro e w9 ⟨rfl, h9⟩
    have S9 := Lib.hid (S8.out.next h9)
    clear h9 S8
    go_wp2
    go_ret
    exact ⟨rfl, S9.out.bel⟩
  · obtain ⟨lt, hlt⟩ : ∃ lt, lt = l.take 8 := ⟨_, rfl⟩
    obtain ⟨rt, hrt⟩ : ∃ rt, rt = r.take 8 := ⟨_, rfl⟩
    have HLE : Hid (lt.length = 8) := Lib.hid (by rw [hlt, List.length_take]; omega)
    have HLR : Hid (rt.length = 8) := Lib.hid (by rw [hrt, List.length_take]; omega)
    have HN8 : Hid (8 ≤ 8) := Lib.hid (by omega)
    have HR8 : Hid (8 ≤ 8) := Lib.hid (by omega)
    have LA := Lib.hid (hr.take 8)
    have RA := Lib.hid (hr'.take 8)
    rw [← hlt] at LA
    rw [← hrt] at RA
    have HZE : Hid (∀ x ∈ lt, In64 x) := Lib.hid (by rw [hlt]; exact fun x hx => hbz x (List.mem_of_mem_take hx))
    have HZR : Hid (∀ x ∈ rt, In64 x) := Lib.hid (by rw [hrt]; exact fun x hx => hbz' x (List.mem_of_mem_take hx))
    have HLE8 : Hid (lt.length ≤ 8) := Lib.hid (by rw [HLE.out]; exact HN8.out)
    have HLR8 : Hid (rt.length ≤ 8) := Lib.hid (by rw [HLR.out]; exact HR8.out)
    have HK8 := Lib.hid (k8_lt K)
    have HT := Lib.hid hT
    clear hlt hrt hr hr' hbz hbz' hl hl' hT hnil hnil' hK hK'
    have HLF := Lib.hid HLE.out
    have HLF8 := Lib.hid HLE8.out
    have HM8 := Lib.hid HN8.out
    have HKF8 := Lib.hid HK8.out
    have HTF := Lib.hid HT.out
    have HZF := Lib.hid HZE.out
    clear hT'
    go_wp2_with fail
    have S2 := Lib.hid (sc2_same X1.out Y1.out B1.out (k8 K) (k8 K') 8 8 LA.out RA.out)
    clear x0 x1 x2 y0 y1 y2 xf0 xf1 xf2 yf0 yf1 yf2 xl yl X1 Y1 B1
    generalize ((((((w1.setCell ⟨w.heap.size, 0, none⟩ (.int .i64 (k8 K : Int))).setCell ⟨w.heap.size + 1, 0, none⟩ (.int .i64 (k8 K' : Int))).setCell ⟨w.heap.size, 2, none⟩ (.slice A 8 c)).setCell ⟨w.heap.size + 1, 2, none⟩ (.slice B 8 d)).setCell ⟨w.heap.size + 1, 0, none⟩ (.int .i64 (k8 K : Int))).setCell ⟨w.heap.size + 1, 1, none⟩ (.int .i64 T)).setCell ⟨w.heap.size + 1, 2, none⟩ (.slice A 8 c) = w2 at *
    refine (wput_any (k8 K) T A 8 c lt w2 (by omega) (by omega) HLE.out (small8 HN8.out) S2.out.la).mono ?_
    rw [wok_yes HK8.out HLE8.out]
    rintro e w3 ⟨rfl, h3⟩
    have S3 := Lib.hid (S2.out.next h3)
    clear h3 S2
    have c0 := S3.out.e.three
    have c1 := S3.out.f.three
    obtain ⟨e0, e1, e2⟩ := c0
    obtain ⟨f0, f1, f2⟩ := c1
    go_wp2_with fail
    clear e0 e1 e2 f0 f1 f2
    refine (wput_any (k8 K) T A 8 c lt w3 (by omega) (by omega) HLF.out (small8 HM8.out) S3.out.lb).mono ?_
    rw [wok_yes HKF8.out HLF8.out]
    rintro e w4 ⟨rfl, h4⟩
    have S4 := Lib.hid (S3.out.next h4)
    clear h4 S3
    go_wp2_with fail
    refine (back_get (k8 K) T lt 8 w4 HK8.out HLE8.out HLE.out HT.out HZE.out).mono ?_
    rintro e w5 ⟨Z, rfl, h5, hz⟩
    have S5 := Lib.hid ((S4.out.next h5).next ((Below.refl _ _).alloc (Nat.le_refl _) (.cells #[.int .i64 (k8 K : Int), .int .i64 T, .slice Z 8 8] 24)))
    have G5 := Lib.hid (has_new w5 #[.int .i64 (k8 K : Int), .int .i64 T, .slice Z 8 8] 24)
    have Z5 := Lib.hid (hz.alloc (.cells #[.int .i64 (k8 K : Int), .int .i64 T, .slice Z 8 8] 24))
    clear h5 hz S4
    unfold ev
    have es := put_same HK8.out HLE8.out HKF8.out HLF8.out HT.out HTF.out HZE.out HZF.out
    have sz : (str (wput (k8 K) T lt)).size = 10 + 8 * 8 := (str_size _).trans ((wput_length (k8 K) T lt HK8.out HLE8.out).trans (by rw [HLE.out]))
    have szw := wput_length (k8 K) T lt HK8.out HLE8.out
    rw [HLE.out] at szw
    have SZW := Lib.hid szw
    clear szw
    have HBS : Hid (sameE (k8 K) T lt (k8 K) T lt = true) := Lib.hid (same_self _ _ _)
    clear es
    obtain ⟨e0, e1, e2⟩ := S5.out.e.three
    obtain ⟨f0, f1, f2⟩ := S5.out.f.three
    obtain ⟨g0, g2, g3⟩ := G5.out.three
    go_wp2_with fail
    clear e0 e1 e2 f0 f1 f2 g0 g2 g3
    generalize hw6 : w5.alloc (.cells #[.int .i64 (k8 K : Int), .int .i64 T, .slice Z 8 8] 24) = w6 at *
    refine (wsame_any (k8 K) T (k8 K) T Z A 8 8 8 c lt lt w6 HLE.out HLE.out (small8 HN8.out) (small8 HN8.out) Z5.out S5.out.la).mono ?_
    rw [same_self]
    rintro e w7 ⟨rfl, h7⟩
    have S7 := Lib.hid (S5.out.next h7)
    clear h7 S5 G5 Z5
    obtain ⟨e0, e1, e2⟩ := S7.out.e.three
    obtain ⟨f0, f1, f2⟩ := S7.out.f.three
    go_wp2_with fail
    clear e0 e1 e2 f0 f1 f2
    refine (wsame_any (k8 K) T (k8 K) T A A 8 c 8 c lt lt w7 HLE.out HLF.out (small8 HN8.out) (small8 HM8.out) S7.out.la S7.out.lb).mono ?_
    rw [HBS.out]
    rintro e w8 ⟨rfl, h8_⟩
    have S8 := Lib.hid (S7.out.next h8_)
    clear h8_ S7
    obtain ⟨e0, e1, e2⟩ := S8.out.e.three
    go_wp2_with fail
    clear e0 e1 e2
    refine (wsize_any (k8 K) T A 8 c lt w8 (by omega) (by omega) HLE.out (small8 HN8.out) S8.out.la).mono ?_
    rw [SZW.out]
    rintro e w9 ⟨rfl, h9⟩
    have S9 := Lib.hid (S8.out.next h9)
    clear h9 S8
    go_wp2
    go_ret
    exact ⟨rfl, S9.out.bel⟩
  · obtain ⟨lt, hlt⟩ : ∃ lt, lt = l.take 8 := ⟨_, rfl⟩
    obtain ⟨rt, hrt⟩ : ∃ rt, rt = r.take m := ⟨_, rfl⟩
    have HLE : Hid (lt.length = 8) := Lib.hid (by rw [hlt, List.length_take]; omega)
    have HLR : Hid (rt.length = m) := Lib.hid (by rw [hrt, List.length_take]; omega)
    have HN8 : Hid (8 ≤ 8) := Lib.hid (by omega)
    have HR8 : Hid (m ≤ 8) := Lib.hid (by omega)
    have LA := Lib.hid (hr.take 8)
    have RA := Lib.hid (hr'.take m)
    rw [← hlt] at LA
    rw [← hrt] at RA
    have HZE : Hid (∀ x ∈ lt, In64 x) := Lib.hid (by rw [hlt]; exact fun x hx => hbz x (List.mem_of_mem_take hx))
    have HZR : Hid (∀ x ∈ rt, In64 x) := Lib.hid (by rw [hrt]; exact fun x hx => hbz' x (List.mem_of_mem_take hx))
    have HLE8 : Hid (lt.length ≤ 8) := Lib.hid (by rw [HLE.out]; exact HN8.out)
    have HLR8 : Hid (rt.length ≤ 8) := Lib.hid (by rw [HLR.out]; exact HR8.out)
    have HK8 := Lib.hid (k8_lt K)
    have HT := Lib.hid hT
    clear hlt hrt hr hr' hbz hbz' hl hl' hT hnil hnil' hK hK'
    have HLF := Lib.hid HLR.out
    have HLF8 := Lib.hid HLR8.out
    have HM8 := Lib.hid HR8.out
    have HKF8 := Lib.hid (k8_lt K')
    have HTF := Lib.hid hT'
    have HZF := Lib.hid HZR.out
    clear hT'
    go_wp2_with fail
    have S2 := Lib.hid (sc2_two X1.out Y1.out B1.out (k8 K) (k8 K') 8 m LA.out RA.out)
    clear x0 x1 x2 y0 y1 y2 xf0 xf1 xf2 yf0 yf1 yf2 xl yl X1 Y1 B1
    generalize (((w1.setCell ⟨w.heap.size, 0, none⟩ (.int .i64 (k8 K : Int))).setCell ⟨w.heap.size + 1, 0, none⟩ (.int .i64 (k8 K' : Int))).setCell ⟨w.heap.size, 2, none⟩ (.slice A 8 c)).setCell ⟨w.heap.size + 1, 2, none⟩ (.slice B m d) = w2 at *
    refine (wput_any (k8 K) T A 8 c lt w2 (by omega) (by omega) HLE.out (small8 HN8.out) S2.out.la).mono ?_
    rw [wok_yes HK8.out HLE8.out]
    rintro e w3 ⟨rfl, h3⟩
    have S3 := Lib.hid (S2.out.next h3)
    clear h3 S2
    have c0 := S3.out.e.three
    have c1 := S3.out.f.three
    obtain ⟨e0, e1, e2⟩ := c0
    obtain ⟨f0, f1, f2⟩ := c1
    go_wp2_with fail
    clear e0 e1 e2 f0 f1 f2
    refine (wput_any (k8 K') T' B m d rt w3 (by omega) (by omega) HLF.out (small8 HM8.out) S3.out.lb).mono ?_
    rw [wok_yes HKF8.out HLF8.out]
    rintro e w4 ⟨rfl, h4⟩
    have S4 := Lib.hid (S3.out.next h4)
    clear h4 S3
    go_wp2_with fail
    refine (back_get (k8 K) T lt 8 w4 HK8.out HLE8.out HLE.out HT.out HZE.out).mono ?_
    rintro e w5 ⟨Z, rfl, h5, hz⟩
    have S5 := Lib.hid ((S4.out.next h5).next ((Below.refl _ _).alloc (Nat.le_refl _) (.cells #[.int .i64 (k8 K : Int), .int .i64 T, .slice Z 8 8] 24)))
    have G5 := Lib.hid (has_new w5 #[.int .i64 (k8 K : Int), .int .i64 T, .slice Z 8 8] 24)
    have Z5 := Lib.hid (hz.alloc (.cells #[.int .i64 (k8 K : Int), .int .i64 T, .slice Z 8 8] 24))
    clear h5 hz S4
    unfold ev
    have es := put_same HK8.out HLE8.out HKF8.out HLF8.out HT.out HTF.out HZE.out HZF.out
    have sz : (str (wput (k8 K) T lt)).size = 10 + 8 * 8 := (str_size _).trans ((wput_length (k8 K) T lt HK8.out HLE8.out).trans (by rw [HLE.out]))
    have szw := wput_length (k8 K) T lt HK8.out HLE8.out
    rw [HLE.out] at szw
    have SZW := Lib.hid szw
    clear szw
    have es2 : ((str (wput (k8 K) T lt)).toList == (str (wput (k8 K') T' rt)).toList) = sameE (k8 K) T lt (k8 K') T' rt := by rw [str_toList, str_toList]; exact es
    clear es
    obtain ⟨bs, hbs⟩ : ∃ bs, sameE (k8 K) T lt (k8 K') T' rt = bs := ⟨_, rfl⟩
    rw [hbs] at es2
    have HBS := Lib.hid hbs
    clear hbs
    have g1 : (bs == bs) = true := by simp
    obtain ⟨e0, e1, e2⟩ := S5.out.e.three
    obtain ⟨f0, f1, f2⟩ := S5.out.f.three
    obtain ⟨g0, g2, g3⟩ := G5.out.three
    go_wp2_with fail
    clear e0 e1 e2 f0 f1 f2 g0 g2 g3
    generalize hw6 : w5.alloc (.cells #[.int .i64 (k8 K : Int), .int .i64 T, .slice Z 8 8] 24) = w6 at *
    refine (wsame_any (k8 K) T (k8 K) T Z A 8 8 8 c lt lt w6 HLE.out HLE.out (small8 HN8.out) (small8 HN8.out) Z5.out S5.out.la).mono ?_
    rw [same_self]
    rintro e w7 ⟨rfl, h7⟩
    have S7 := Lib.hid (S5.out.next h7)
    clear h7 S5 G5 Z5
    obtain ⟨e0, e1, e2⟩ := S7.out.e.three
    obtain ⟨f0, f1, f2⟩ := S7.out.f.three
    go_wp2_with fail
    clear e0 e1 e2 f0 f1 f2
    refine (wsame_any (k8 K) T (k8 K') T' A B 8 c m d lt rt w7 HLE.out HLF.out (small8 HN8.out) (small8 HM8.out) S7.out.la S7.out.lb).mono ?_
    rw [HBS.out]
    rintro e w8 ⟨rfl, h8_⟩
    have S8 := Lib.hid (S7.out.next h8_)
    clear h8_ S7
    obtain ⟨e0, e1, e2⟩ := S8.out.e.three
    go_wp2_with fail
    clear e0 e1 e2
    refine (wsize_any (k8 K) T A 8 c lt w8 (by omega) (by omega) HLE.out (small8 HN8.out) S8.out.la).mono ?_
    rw [SZW.out]
    rintro e w9 ⟨rfl, h9⟩
    have S9 := Lib.hid (S8.out.next h9)
    clear h9 S8
    go_wp2
    go_ret
    exact ⟨rfl, S9.out.bel⟩
  · obtain ⟨lt, hlt⟩ : ∃ lt, lt = l.take 8 := ⟨_, rfl⟩
    obtain ⟨rt, hrt⟩ : ∃ rt, rt = r.take m := ⟨_, rfl⟩
    have HLE : Hid (lt.length = 8) := Lib.hid (by rw [hlt, List.length_take]; omega)
    have HLR : Hid (rt.length = m) := Lib.hid (by rw [hrt, List.length_take]; omega)
    have HN8 : Hid (8 ≤ 8) := Lib.hid (by omega)
    have HR8 : Hid (m ≤ 8) := Lib.hid (by omega)
    have LA := Lib.hid (hr.take 8)
    have RA := Lib.hid (hr'.take m)
    rw [← hlt] at LA
    rw [← hrt] at RA
    have HZE : Hid (∀ x ∈ lt, In64 x) := Lib.hid (by rw [hlt]; exact fun x hx => hbz x (List.mem_of_mem_take hx))
    have HZR : Hid (∀ x ∈ rt, In64 x) := Lib.hid (by rw [hrt]; exact fun x hx => hbz' x (List.mem_of_mem_take hx))
    have HLE8 : Hid (lt.length ≤ 8) := Lib.hid (by rw [HLE.out]; exact HN8.out)
    have HLR8 : Hid (rt.length ≤ 8) := Lib.hid (by rw [HLR.out]; exact HR8.out)
    have HK8 := Lib.hid (k8_lt K)
    have HT := Lib.hid hT
    clear hlt hrt hr hr' hbz hbz' hl hl' hT hnil hnil' hK hK'
    have HLF := Lib.hid HLE.out
    have HLF8 := Lib.hid HLE8.out
    have HM8 := Lib.hid HN8.out
    have HKF8 := Lib.hid HK8.out
    have HTF := Lib.hid HT.out
    have HZF := Lib.hid HZE.out
    clear hT'
    go_wp2_with fail
    have S2 := Lib.hid (sc2_same X1.out Y1.out B1.out (k8 K) (k8 K') 8 m LA.out RA.out)
    clear x0 x1 x2 y0 y1 y2 xf0 xf1 xf2 yf0 yf1 yf2 xl yl X1 Y1 B1
    generalize ((((((w1.setCell ⟨w.heap.size, 0, none⟩ (.int .i64 (k8 K : Int))).setCell ⟨w.heap.size + 1, 0, none⟩ (.int .i64 (k8 K' : Int))).setCell ⟨w.heap.size, 2, none⟩ (.slice A 8 c)).setCell ⟨w.heap.size + 1, 2, none⟩ (.slice B m d)).setCell ⟨w.heap.size + 1, 0, none⟩ (.int .i64 (k8 K : Int))).setCell ⟨w.heap.size + 1, 1, none⟩ (.int .i64 T)).setCell ⟨w.heap.size + 1, 2, none⟩ (.slice A 8 c) = w2 at *
    refine (wput_any (k8 K) T A 8 c lt w2 (by omega) (by omega) HLE.out (small8 HN8.out) S2.out.la).mono ?_
    rw [wok_yes HK8.out HLE8.out]
    rintro e w3 ⟨rfl, h3⟩
    have S3 := Lib.hid (S2.out.next h3)
    clear h3 S2
    have c0 := S3.out.e.three
    have c1 := S3.out.f.three
    obtain ⟨e0, e1, e2⟩ := c0
    obtain ⟨f0, f1, f2⟩ := c1
    go_wp2_with fail
    clear e0 e1 e2 f0 f1 f2
    refine (wput_any (k8 K) T A 8 c lt w3 (by omega) (by omega) HLF.out (small8 HM8.out) S3.out.lb).mono ?_
    rw [wok_yes HKF8.out HLF8.out]
    rintro e w4 ⟨rfl, h4⟩
    have S4 := Lib.hid (S3.out.next h4)
    clear h4 S3
    go_wp2_with fail
    refine (back_get (k8 K) T lt 8 w4 HK8.out HLE8.out HLE.out HT.out HZE.out).mono ?_
    rintro e w5 ⟨Z, rfl, h5, hz⟩
    have S5 := Lib.hid ((S4.out.next h5).next ((Below.refl _ _).alloc (Nat.le_refl _) (.cells #[.int .i64 (k8 K : Int), .int .i64 T, .slice Z 8 8] 24)))
    have G5 := Lib.hid (has_new w5 #[.int .i64 (k8 K : Int), .int .i64 T, .slice Z 8 8] 24)
    have Z5 := Lib.hid (hz.alloc (.cells #[.int .i64 (k8 K : Int), .int .i64 T, .slice Z 8 8] 24))
    clear h5 hz S4
    unfold ev
    have es := put_same HK8.out HLE8.out HKF8.out HLF8.out HT.out HTF.out HZE.out HZF.out
    have sz : (str (wput (k8 K) T lt)).size = 10 + 8 * 8 := (str_size _).trans ((wput_length (k8 K) T lt HK8.out HLE8.out).trans (by rw [HLE.out]))
    have szw := wput_length (k8 K) T lt HK8.out HLE8.out
    rw [HLE.out] at szw
    have SZW := Lib.hid szw
    clear szw
    have HBS : Hid (sameE (k8 K) T lt (k8 K) T lt = true) := Lib.hid (same_self _ _ _)
    clear es
    obtain ⟨e0, e1, e2⟩ := S5.out.e.three
    obtain ⟨f0, f1, f2⟩ := S5.out.f.three
    obtain ⟨g0, g2, g3⟩ := G5.out.three
    go_wp2_with fail
    clear e0 e1 e2 f0 f1 f2 g0 g2 g3
    generalize hw6 : w5.alloc (.cells #[.int .i64 (k8 K : Int), .int .i64 T, .slice Z 8 8] 24) = w6 at *
    refine (wsame_any (k8 K) T (k8 K) T Z A 8 8 8 c lt lt w6 HLE.out HLE.out (small8 HN8.out) (small8 HN8.out) Z5.out S5.out.la).mono ?_
    rw [same_self]
    rintro e w7 ⟨rfl, h7⟩
    have S7 := Lib.hid (S5.out.next h7)
    clear h7 S5 G5 Z5
    obtain ⟨e0, e1, e2⟩ := S7.out.e.three
    obtain ⟨f0, f1, f2⟩ := S7.out.f.three
    go_wp2_with fail
    clear e0 e1 e2 f0 f1 f2
    refine (wsame_any (k8 K) T (k8 K) T A A 8 c 8 c lt lt w7 HLE.out HLF.out (small8 HN8.out) (small8 HM8.out) S7.out.la S7.out.lb).mono ?_
    rw [HBS.out]
    rintro e w8 ⟨rfl, h8_⟩
    have S8 := Lib.hid (S7.out.next h8_)
    clear h8_ S7
    obtain ⟨e0, e1, e2⟩ := S8.out.e.three
    go_wp2_with fail
    clear e0 e1 e2
    refine (wsize_any (k8 K) T A 8 c lt w8 (by omega) (by omega) HLE.out (small8 HN8.out) S8.out.la).mono ?_
    rw [SZW.out]
    rintro e w9 ⟨rfl, h9⟩
    have S9 := Lib.hid (S8.out.next h9)
    clear h9 S8
    go_wp2
    go_ret
    exact ⟨rfl, S9.out.bel⟩
  · obtain ⟨lt, hlt⟩ : ∃ lt, lt = l.take n := ⟨_, rfl⟩
    obtain ⟨rt, hrt⟩ : ∃ rt, rt = r.take 8 := ⟨_, rfl⟩
    have HLE : Hid (lt.length = n) := Lib.hid (by rw [hlt, List.length_take]; omega)
    have HLR : Hid (rt.length = 8) := Lib.hid (by rw [hrt, List.length_take]; omega)
    have HN8 : Hid (n ≤ 8) := Lib.hid (by omega)
    have HR8 : Hid (8 ≤ 8) := Lib.hid (by omega)
    have LA := Lib.hid (hr.take n)
    have RA := Lib.hid (hr'.take 8)
    rw [← hlt] at LA
    rw [← hrt] at RA
    have HZE : Hid (∀ x ∈ lt, In64 x) := Lib.hid (by rw [hlt]; exact fun x hx => hbz x (List.mem_of_mem_take hx))
    have HZR : Hid (∀ x ∈ rt, In64 x) := Lib.hid (by rw [hrt]; exact fun x hx => hbz' x (List.mem_of_mem_take hx))
    have HLE8 : Hid (lt.length ≤ 8) := Lib.hid (by rw [HLE.out]; exact HN8.out)
    have HLR8 : Hid (rt.length ≤ 8) := Lib.hid (by rw [HLR.out]; exact HR8.out)
    have HK8 := Lib.hid (k8_lt K)
    have HT := Lib.hid hT
    clear hlt hrt hr hr' hbz hbz' hl hl' hT hnil hnil' hK hK'
    have HLF := Lib.hid HLR.out
    have HLF8 := Lib.hid HLR8.out
    have HM8 := Lib.hid HR8.out
    have HKF8 := Lib.hid (k8_lt K')
    have HTF := Lib.hid hT'
    have HZF := Lib.hid HZR.out
    clear hT'
    go_wp2_with fail
    have S2 := Lib.hid (sc2_two X1.out Y1.out B1.out (k8 K) (k8 K') n 8 LA.out RA.out)
    clear x0 x1 x2 y0 y1 y2 xf0 xf1 xf2 yf0 yf1 yf2 xl yl X1 Y1 B1
    generalize (((w1.setCell ⟨w.heap.size, 0, none⟩ (.int .i64 (k8 K : Int))).setCell ⟨w.heap.size + 1, 0, none⟩ (.int .i64 (k8 K' : Int))).setCell ⟨w.heap.size, 2, none⟩ (.slice A n c)).setCell ⟨w.heap.size + 1, 2, none⟩ (.slice B 8 d) = w2 at *
    refine (wput_any (k8 K) T A n c lt w2 (by omega) (by omega) HLE.out (small8 HN8.out) S2.out.la).mono ?_
    rw [wok_yes HK8.out HLE8.out]
    rintro e w3 ⟨rfl, h3⟩
    have S3 := Lib.hid (S2.out.next h3)
    clear h3 S2
    have c0 := S3.out.e.three
    have c1 := S3.out.f.three
    obtain ⟨e0, e1, e2⟩ := c0
    obtain ⟨f0, f1, f2⟩ := c1
    go_wp2_with fail
    clear e0 e1 e2 f0 f1 f2
    refine (wput_any (k8 K') T' B 8 d rt w3 (by omega) (by omega) HLF.out (small8 HM8.out) S3.out.lb).mono ?_
    rw [wok_yes HKF8.out HLF8.out]
    rintro e w4 ⟨rfl, h4⟩
    have S4 := Lib.hid (S3.out.next h4)
    clear h4 S3
    go_wp2_with fail
    refine (back_get (k8 K) T lt n w4 HK8.out HLE8.out HLE.out HT.out HZE.out).mono ?_
    rintro e w5 ⟨Z, rfl, h5, hz⟩
    have S5 := Lib.hid ((S4.out.next h5).next ((Below.refl _ _).alloc (Nat.le_refl _) (.cells #[.int .i64 (k8 K : Int), .int .i64 T, .slice Z n n] 24)))
    have G5 := Lib.hid (has_new w5 #[.int .i64 (k8 K : Int), .int .i64 T, .slice Z n n] 24)
    have Z5 := Lib.hid (hz.alloc (.cells #[.int .i64 (k8 K : Int), .int .i64 T, .slice Z n n] 24))
    clear h5 hz S4
    unfold ev
    have es := put_same HK8.out HLE8.out HKF8.out HLF8.out HT.out HTF.out HZE.out HZF.out
    have sz : (str (wput (k8 K) T lt)).size = 10 + 8 * n := (str_size _).trans ((wput_length (k8 K) T lt HK8.out HLE8.out).trans (by rw [HLE.out]))
    have szw := wput_length (k8 K) T lt HK8.out HLE8.out
    rw [HLE.out] at szw
    have SZW := Lib.hid szw
    clear szw
    have es2 : ((str (wput (k8 K) T lt)).toList == (str (wput (k8 K') T' rt)).toList) = sameE (k8 K) T lt (k8 K') T' rt := by rw [str_toList, str_toList]; exact es
    clear es
    obtain ⟨bs, hbs⟩ : ∃ bs, sameE (k8 K) T lt (k8 K') T' rt = bs := ⟨_, rfl⟩
    rw [hbs] at es2
    have HBS := Lib.hid hbs
    clear hbs
    have g1 : (bs == bs) = true := by simp
    obtain ⟨e0, e1, e2⟩ := S5.out.e.three
    obtain ⟨f0, f1, f2⟩ := S5.out.f.three
    obtain ⟨g0, g2, g3⟩ := G5.out.three
    go_wp2_with fail
    clear e0 e1 e2 f0 f1 f2 g0 g2 g3
    generalize hw6 : w5.alloc (.cells #[.int .i64 (k8 K : Int), .int .i64 T, .slice Z n n] 24) = w6 at *
    refine (wsame_any (k8 K) T (k8 K) T Z A n n n c lt lt w6 HLE.out HLE.out (small8 HN8.out) (small8 HN8.out) Z5.out S5.out.la).mono ?_
    rw [same_self]
    rintro e w7 ⟨rfl, h7⟩
    have S7 := Lib.hid (S5.out.next h7)
    clear h7 S5 G5 Z5
    obtain ⟨e0, e1, e2⟩ := S7.out.e.three
    obtain ⟨f0, f1, f2⟩ := S7.out.f.three
    go_wp2_with fail
    clear e0 e1 e2 f0 f1 f2
    refine (wsame_any (k8 K) T (k8 K') T' A B n c 8 d lt rt w7 HLE.out HLF.out (small8 HN8.out) (small8 HM8.out) S7.out.la S7.out.lb).mono ?_
    rw [HBS.out]
    rintro e w8 ⟨rfl, h8_⟩
    have S8 := Lib.hid (S7.out.next h8_)
    clear h8_ S7
    obtain ⟨e0, e1, e2⟩ := S8.out.e.three
    go_wp2_with fail
    clear e0 e1 e2
    refine (wsize_any (k8 K) T A n c lt w8 (by omega) (by omega) HLE.out (small8 HN8.out) S8.out.la).mono ?_
    rw [SZW.out]
    rintro e w9 ⟨rfl, h9⟩
    have S9 := Lib.hid (S8.out.next h9)
    clear h9 S8
    go_wp2
    go_ret
    exact ⟨rfl, S9.out.bel⟩
  · obtain ⟨lt, hlt⟩ : ∃ lt, lt = l.take n := ⟨_, rfl⟩
    obtain ⟨rt, hrt⟩ : ∃ rt, rt = r.take 8 := ⟨_, rfl⟩
    have HLE : Hid (lt.length = n) := Lib.hid (by rw [hlt, List.length_take]; omega)
    have HLR : Hid (rt.length = 8) := Lib.hid (by rw [hrt, List.length_take]; omega)
    have HN8 : Hid (n ≤ 8) := Lib.hid (by omega)
    have HR8 : Hid (8 ≤ 8) := Lib.hid (by omega)
    have LA := Lib.hid (hr.take n)
    have RA := Lib.hid (hr'.take 8)
    rw [← hlt] at LA
    rw [← hrt] at RA
    have HZE : Hid (∀ x ∈ lt, In64 x) := Lib.hid (by rw [hlt]; exact fun x hx => hbz x (List.mem_of_mem_take hx))
    have HZR : Hid (∀ x ∈ rt, In64 x) := Lib.hid (by rw [hrt]; exact fun x hx => hbz' x (List.mem_of_mem_take hx))
    have HLE8 : Hid (lt.length ≤ 8) := Lib.hid (by rw [HLE.out]; exact HN8.out)
    have HLR8 : Hid (rt.length ≤ 8) := Lib.hid (by rw [HLR.out]; exact HR8.out)
    have HK8 := Lib.hid (k8_lt K)
    have HT := Lib.hid hT
    clear hlt hrt hr hr' hbz hbz' hl hl' hT hnil hnil' hK hK'
    have HLF := Lib.hid HLE.out
    have HLF8 := Lib.hid HLE8.out
    have HM8 := Lib.hid HN8.out
    have HKF8 := Lib.hid HK8.out
    have HTF := Lib.hid HT.out
    have HZF := Lib.hid HZE.out
    clear hT'
    go_wp2_with fail
    have S2 := Lib.hid (sc2_same X1.out Y1.out B1.out (k8 K) (k8 K') n 8 LA.out RA.out)
    clear x0 x1 x2 y0 y1 y2 xf0 xf1 xf2 yf0 yf1 yf2 xl yl X1 Y1 B1
    generalize ((((((w1.setCell ⟨w.heap.size, 0, none⟩ (.int .i64 (k8 K : Int))).setCell ⟨w.heap.size + 1, 0, none⟩ (.int .i64 (k8 K' : Int))).setCell ⟨w.heap.size, 2, none⟩ (.slice A n c)).setCell ⟨w.heap.size + 1, 2, none⟩ (.slice B 8 d)).setCell ⟨w.heap.size + 1, 0, none⟩ (.int .i64 (k8 K : Int))).setCell ⟨w.heap.size + 1, 1, none⟩ (.int .i64 T)).setCell ⟨w.heap.size + 1, 2, none⟩ (.slice A n c) = w2 at *
    refine (wput_any (k8 K) T A n c lt w2 (by omega) (by omega) HLE.out (small8 HN8.out) S2.out.la).mono ?_
    rw [wok_yes HK8.out HLE8.out]
    rintro e w3 ⟨rfl, h3⟩
    have S3 := Lib.hid (S2.out.next h3)
    clear h3 S2
    have c0 := S3.out.e.three
    have c1 := S3.out.f.three
    obtain ⟨e0, e1, e2⟩ := c0
    obtain ⟨f0, f1, f2⟩ := c1
    go_wp2_with fail
    clear e0 e1 e2 f0 f1 f2
    refine (wput_any (k8 K) T A n c lt w3 (by omega) (by omega) HLF.out (small8 HM8.out) S3.out.lb).mono ?_
    rw [wok_yes HKF8.out HLF8.out]
    rintro e w4 ⟨rfl, h4⟩
    have S4 := Lib.hid (S3.out.next h4)
    clear h4 S3
    go_wp2_with fail
    refine (back_get (k8 K) T lt n w4 HK8.out HLE8.out HLE.out HT.out HZE.out).mono ?_
    rintro e w5 ⟨Z, rfl, h5, hz⟩
    have S5 := Lib.hid ((S4.out.next h5).next ((Below.refl _ _).alloc (Nat.le_refl _) (.cells #[.int .i64 (k8 K : Int), .int .i64 T, .slice Z n n] 24)))
    have G5 := Lib.hid (has_new w5 #[.int .i64 (k8 K : Int), .int .i64 T, .slice Z n n] 24)
    have Z5 := Lib.hid (hz.alloc (.cells #[.int .i64 (k8 K : Int), .int .i64 T, .slice Z n n] 24))
    clear h5 hz S4
    unfold ev
    have es := put_same HK8.out HLE8.out HKF8.out HLF8.out HT.out HTF.out HZE.out HZF.out
    have sz : (str (wput (k8 K) T lt)).size = 10 + 8 * n := (str_size _).trans ((wput_length (k8 K) T lt HK8.out HLE8.out).trans (by rw [HLE.out]))
    have szw := wput_length (k8 K) T lt HK8.out HLE8.out
    rw [HLE.out] at szw
    have SZW := Lib.hid szw
    clear szw
    have HBS : Hid (sameE (k8 K) T lt (k8 K) T lt = true) := Lib.hid (same_self _ _ _)
    clear es
    obtain ⟨e0, e1, e2⟩ := S5.out.e.three
    obtain ⟨f0, f1, f2⟩ := S5.out.f.three
    obtain ⟨g0, g2, g3⟩ := G5.out.three
    go_wp2_with fail
    clear e0 e1 e2 f0 f1 f2 g0 g2 g3
    generalize hw6 : w5.alloc (.cells #[.int .i64 (k8 K : Int), .int .i64 T, .slice Z n n] 24) = w6 at *
    refine (wsame_any (k8 K) T (k8 K) T Z A n n n c lt lt w6 HLE.out HLE.out (small8 HN8.out) (small8 HN8.out) Z5.out S5.out.la).mono ?_
    rw [same_self]
    rintro e w7 ⟨rfl, h7⟩
    have S7 := Lib.hid (S5.out.next h7)
    clear h7 S5 G5 Z5
    obtain ⟨e0, e1, e2⟩ := S7.out.e.three
    obtain ⟨f0, f1, f2⟩ := S7.out.f.three
    go_wp2_with fail
    clear e0 e1 e2 f0 f1 f2
    refine (wsame_any (k8 K) T (k8 K) T A A n c n c lt lt w7 HLE.out HLF.out (small8 HN8.out) (small8 HM8.out) S7.out.la S7.out.lb).mono ?_
    rw [HBS.out]
    rintro e w8 ⟨rfl, h8_⟩
    have S8 := Lib.hid (S7.out.next h8_)
    clear h8_ S7
    obtain ⟨e0, e1, e2⟩ := S8.out.e.three
    go_wp2_with fail
    clear e0 e1 e2
    refine (wsize_any (k8 K) T A n c lt w8 (by omega) (by omega) HLE.out (small8 HN8.out) S8.out.la).mono ?_
    rw [SZW.out]
    rintro e w9 ⟨rfl, h9⟩
    have S9 := Lib.hid (S8.out.next h9)
    clear h9 S8
    go_wp2
    go_ret
    exact ⟨rfl, S9.out.bel⟩
  · obtain ⟨lt, hlt⟩ : ∃ lt, lt = l.take n := ⟨_, rfl⟩
    obtain ⟨rt, hrt⟩ : ∃ rt, rt = r.take m := ⟨_, rfl⟩
    have HLE : Hid (lt.length = n) := Lib.hid (by rw [hlt, List.length_take]; omega)
    have HLR : Hid (rt.length = m) := Lib.hid (by rw [hrt, List.length_take]; omega)
    have HN8 : Hid (n ≤ 8) := Lib.hid (by omega)
    have HR8 : Hid (m ≤ 8) := Lib.hid (by omega)
    have LA := Lib.hid (hr.take n)
    have RA := Lib.hid (hr'.take m)
    rw [← hlt] at LA
    rw [← hrt] at RA
    have HZE : Hid (∀ x ∈ lt, In64 x) := Lib.hid (by rw [hlt]; exact fun x hx => hbz x (List.mem_of_mem_take hx))
    have HZR : Hid (∀ x ∈ rt, In64 x) := Lib.hid (by rw [hrt]; exact fun x hx => hbz' x (List.mem_of_mem_take hx))
    have HLE8 : Hid (lt.length ≤ 8) := Lib.hid (by rw [HLE.out]; exact HN8.out)
    have HLR8 : Hid (rt.length ≤ 8) := Lib.hid (by rw [HLR.out]; exact HR8.out)
    have HK8 := Lib.hid (k8_lt K)
    have HT := Lib.hid hT
    clear hlt hrt hr hr' hbz hbz' hl hl' hT hnil hnil' hK hK'
    have HLF := Lib.hid HLR.out
    have HLF8 := Lib.hid HLR8.out
    have HM8 := Lib.hid HR8.out
    have HKF8 := Lib.hid (k8_lt K')
    have HTF := Lib.hid hT'
    have HZF := Lib.hid HZR.out
    clear hT'
    go_wp2_with fail
    have S2 := Lib.hid (sc2_two X1.out Y1.out B1.out (k8 K) (k8 K') n m LA.out RA.out)
    clear x0 x1 x2 y0 y1 y2 xf0 xf1 xf2 yf0 yf1 yf2 xl yl X1 Y1 B1
    generalize (((w1.setCell ⟨w.heap.size, 0, none⟩ (.int .i64 (k8 K : Int))).setCell ⟨w.heap.size + 1, 0, none⟩ (.int .i64 (k8 K' : Int))).setCell ⟨w.heap.size, 2, none⟩ (.slice A n c)).setCell ⟨w.heap.size + 1, 2, none⟩ (.slice B m d) = w2 at *
    refine (wput_any (k8 K) T A n c lt w2 (by omega) (by omega) HLE.out (small8 HN8.out) S2.out.la).mono ?_
    rw [wok_yes HK8.out HLE8.out]
    rintro e w3 ⟨rfl, h3⟩
    have S3 := Lib.hid (S2.out.next h3)
    clear h3 S2
    have c0 := S3.out.e.three
    have c1 := S3.out.f.three
    obtain ⟨e0, e1, e2⟩ := c0
    obtain ⟨f0, f1, f2⟩ := c1
    go_wp2_with fail
    clear e0 e1 e2 f0 f1 f2
    refine (wput_any (k8 K') T' B m d rt w3 (by omega) (by omega) HLF.out (small8 HM8.out) S3.out.lb).mono ?_
    rw [wok_yes HKF8.out HLF8.out]
    rintro e w4 ⟨rfl, h4⟩
    have S4 := Lib.hid (S3.out.next h4)
    clear h4 S3
    go_wp2_with fail
    refine (back_get (k8 K) T lt n w4 HK8.out HLE8.out HLE.out HT.out HZE.out).mono ?_
    rintro e w5 ⟨Z, rfl, h5, hz⟩
    have S5 := Lib.hid ((S4.out.next h5).next ((Below.refl _ _).alloc (Nat.le_refl _) (.cells #[.int .i64 (k8 K : Int), .int .i64 T, .slice Z n n] 24)))
    have G5 := Lib.hid (has_new w5 #[.int .i64 (k8 K : Int), .int .i64 T, .slice Z n n] 24)
    have Z5 := Lib.hid (hz.alloc (.cells #[.int .i64 (k8 K : Int), .int .i64 T, .slice Z n n] 24))
    clear h5 hz S4
    unfold ev
    have es := put_same HK8.out HLE8.out HKF8.out HLF8.out HT.out HTF.out HZE.out HZF.out
    have sz : (str (wput (k8 K) T lt)).size = 10 + 8 * n := (str_size _).trans ((wput_length (k8 K) T lt HK8.out HLE8.out).trans (by rw [HLE.out]))
    have szw := wput_length (k8 K) T lt HK8.out HLE8.out
    rw [HLE.out] at szw
    have SZW := Lib.hid szw
    clear szw
    have es2 : ((str (wput (k8 K) T lt)).toList == (str (wput (k8 K') T' rt)).toList) = sameE (k8 K) T lt (k8 K') T' rt := by rw [str_toList, str_toList]; exact es
    clear es
    obtain ⟨bs, hbs⟩ : ∃ bs, sameE (k8 K) T lt (k8 K') T' rt = bs := ⟨_, rfl⟩
    rw [hbs] at es2
    have HBS := Lib.hid hbs
    clear hbs
    have g1 : (bs == bs) = true := by simp
    obtain ⟨e0, e1, e2⟩ := S5.out.e.three
    obtain ⟨f0, f1, f2⟩ := S5.out.f.three
    obtain ⟨g0, g2, g3⟩ := G5.out.three
    go_wp2_with fail
    clear e0 e1 e2 f0 f1 f2 g0 g2 g3
    generalize hw6 : w5.alloc (.cells #[.int .i64 (k8 K : Int), .int .i64 T, .slice Z n n] 24) = w6 at *
    refine (wsame_any (k8 K) T (k8 K) T Z A n n n c lt lt w6 HLE.out HLE.out (small8 HN8.out) (small8 HN8.out) Z5.out S5.out.la).mono ?_
    rw [same_self]
    rintro e w7 ⟨rfl, h7⟩
    have S7 := Lib.hid (S5.out.next h7)
    clear h7 S5 G5 Z5
    obtain ⟨e0, e1, e2⟩ := S7.out.e.three
    obtain ⟨f0, f1, f2⟩ := S7.out.f.three
    go_wp2_with fail
    clear e0 e1 e2 f0 f1 f2
    refine (wsame_any (k8 K) T (k8 K') T' A B n c m d lt rt w7 HLE.out HLF.out (small8 HN8.out) (small8 HM8.out) S7.out.la S7.out.lb).mono ?_
    rw [HBS.out]
    rintro e w8 ⟨rfl, h8_⟩
    have S8 := Lib.hid (S7.out.next h8_)
    clear h8_ S7
    obtain ⟨e0, e1, e2⟩ := S8.out.e.three
    go_wp2_with fail
    clear e0 e1 e2
    refine (wsize_any (k8 K) T A n c lt w8 (by omega) (by omega) HLE.out (small8 HN8.out) S8.out.la).mono ?_
    rw [SZW.out]
    rintro e w9 ⟨rfl, h9⟩
    have S9 := Lib.hid (S8.out.next h9)
    clear h9 S8
    go_wp2
    go_ret
    exact ⟨rfl, S9.out.bel⟩
  · obtain ⟨lt, hlt⟩ : ∃ lt, lt = l.take n := ⟨_, rfl⟩
    obtain ⟨rt, hrt⟩ : ∃ rt, rt = r.take m := ⟨_, rfl⟩
    have HLE : Hid (lt.length = n) := Lib.hid (by rw [hlt, List.length_take]; omega)
    have HLR : Hid (rt.length = m) := Lib.hid (by rw [hrt, List.length_take]; omega)
    have HN8 : Hid (n ≤ 8) := Lib.hid (by omega)
    have HR8 : Hid (m ≤ 8) := Lib.hid (by omega)
    have LA := Lib.hid (hr.take n)
    have RA := Lib.hid (hr'.take m)
    rw [← hlt] at LA
    rw [← hrt] at RA
    have HZE : Hid (∀ x ∈ lt, In64 x) := Lib.hid (by rw [hlt]; exact fun x hx => hbz x (List.mem_of_mem_take hx))
    have HZR : Hid (∀ x ∈ rt, In64 x) := Lib.hid (by rw [hrt]; exact fun x hx => hbz' x (List.mem_of_mem_take hx))
    have HLE8 : Hid (lt.length ≤ 8) := Lib.hid (by rw [HLE.out]; exact HN8.out)
    have HLR8 : Hid (rt.length ≤ 8) := Lib.hid (by rw [HLR.out]; exact HR8.out)
    have HK8 := Lib.hid (k8_lt K)
    have HT := Lib.hid hT
    clear hlt hrt hr hr' hbz hbz' hl hl' hT hnil hnil' hK hK'
    have HLF := Lib.hid HLE.out
    have HLF8 := Lib.hid HLE8.out
    have HM8 := Lib.hid HN8.out
    have HKF8 := Lib.hid HK8.out
    have HTF := Lib.hid HT.out
    have HZF := Lib.hid HZE.out
    clear hT'
    go_wp2_with fail
    have S2 := Lib.hid (sc2_same X1.out Y1.out B1.out (k8 K) (k8 K') n m LA.out RA.out)
    clear x0 x1 x2 y0 y1 y2 xf0 xf1 xf2 yf0 yf1 yf2 xl yl X1 Y1 B1
    generalize ((((((w1.setCell ⟨w.heap.size, 0, none⟩ (.int .i64 (k8 K : Int))).setCell ⟨w.heap.size + 1, 0, none⟩ (.int .i64 (k8 K' : Int))).setCell ⟨w.heap.size, 2, none⟩ (.slice A n c)).setCell ⟨w.heap.size + 1, 2, none⟩ (.slice B m d)).setCell ⟨w.heap.size + 1, 0, none⟩ (.int .i64 (k8 K : Int))).setCell ⟨w.heap.size + 1, 1, none⟩ (.int .i64 T)).setCell ⟨w.heap.size + 1, 2, none⟩ (.slice A n c) = w2 at *
    refine (wput_any (k8 K) T A n c lt w2 (by omega) (by omega) HLE.out (small8 HN8.out) S2.out.la).mono ?_
    rw [wok_yes HK8.out HLE8.out]
    rintro e w3 ⟨rfl, h3⟩
    have S3 := Lib.hid (S2.out.next h3)
    clear h3 S2
    have c0 := S3.out.e.three
    have c1 := S3.out.f.three
    obtain ⟨e0, e1, e2⟩ := c0
    obtain ⟨f0, f1, f2⟩ := c1
    go_wp2_with fail
    clear e0 e1 e2 f0 f1 f2
    refine (wput_any (k8 K) T A n c lt w3 (by omega) (by omega) HLF.out (small8 HM8.out) S3.out.lb).mono ?_
    rw [wok_yes HKF8.out HLF8.out]
    rintro e w4 ⟨rfl, h4⟩
    have S4 := Lib.hid (S3.out.next h4)
    clear h4 S3
    go_wp2_with fail
    refine (back_get (k8 K) T lt n w4 HK8.out HLE8.out HLE.out HT.out HZE.out).mono ?_
    rintro e w5 ⟨Z, rfl, h5, hz⟩
    have S5 := Lib.hid ((S4.out.next h5).next ((Below.refl _ _).alloc (Nat.le_refl _) (.cells #[.int .i64 (k8 K : Int), .int .i64 T, .slice Z n n] 24)))
    have G5 := Lib.hid (has_new w5 #[.int .i64 (k8 K : Int), .int .i64 T, .slice Z n n] 24)
    have Z5 := Lib.hid (hz.alloc (.cells #[.int .i64 (k8 K : Int), .int .i64 T, .slice Z n n] 24))
    clear h5 hz S4
    unfold ev
    have es := put_same HK8.out HLE8.out HKF8.out HLF8.out HT.out HTF.out HZE.out HZF.out
    have sz : (str (wput (k8 K) T lt)).size = 10 + 8 * n := (str_size _).trans ((wput_length (k8 K) T lt HK8.out HLE8.out).trans (by rw [HLE.out]))
    have szw := wput_length (k8 K) T lt HK8.out HLE8.out
    rw [HLE.out] at szw
    have SZW := Lib.hid szw
    clear szw
    have HBS : Hid (sameE (k8 K) T lt (k8 K) T lt = true) := Lib.hid (same_self _ _ _)
    clear es
    obtain ⟨e0, e1, e2⟩ := S5.out.e.three
    obtain ⟨f0, f1, f2⟩ := S5.out.f.three
    obtain ⟨g0, g2, g3⟩ := G5.out.three
    go_wp2_with fail
    clear e0 e1 e2 f0 f1 f2 g0 g2 g3
    generalize hw6 : w5.alloc (.cells #[.int .i64 (k8 K : Int), .int .i64 T, .slice Z n n] 24) = w6 at *
    refine (wsame_any (k8 K) T (k8 K) T Z A n n n c lt lt w6 HLE.out HLE.out (small8 HN8.out) (small8 HN8.out) Z5.out S5.out.la).mono ?_
    rw [same_self]
    rintro e w7 ⟨rfl, h7⟩
    have S7 := Lib.hid (S5.out.next h7)
    clear h7 S5 G5 Z5
    obtain ⟨e0, e1, e2⟩ := S7.out.e.three
    obtain ⟨f0, f1, f2⟩ := S7.out.f.three
    go_wp2_with fail
    clear e0 e1 e2 f0 f1 f2
    refine (wsame_any (k8 K) T (k8 K) T A A n c n c lt lt w7 HLE.out HLF.out (small8 HN8.out) (small8 HM8.out) S7.out.la S7.out.lb).mono ?_
    rw [HBS.out]
    rintro e w8 ⟨rfl, h8_⟩
    have S8 := Lib.hid (S7.out.next h8_)
    clear h8_ S7
    obtain ⟨e0, e1, e2⟩ := S8.out.e.three
    go_wp2_with fail
    clear e0 e1 e2
    refine (wsize_any (k8 K) T A n c lt w8 (by omega) (by omega) HLE.out (small8 HN8.out) S8.out.la).mono ?_
    rw [SZW.out]
    rintro e w9 ⟨rfl, h9⟩
    have S9 := Lib.hid (S8.out.next h9)
    clear h9 S8
    go_wp2
    go_ret
    exact ⟨rfl, S9.out.bel⟩
end Go.Proofs.Ytcmgkmllmdgcbaa
