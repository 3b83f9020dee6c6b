/- Layer 9: PatternChoice's walk. -/
import Derived.Test.YtbdfehgofnomhaaDoorQPaChM
import Derived.Test.YtbdfehgofnomhaaDoorQEx
namespace Go.Proofs.YtbdfehgofnomhaaDoor
open Go.RowKit
set_option linter.unusedVariables false

set_option maxRecDepth 100000 in
set_option maxHeartbeats 16000000 in
theorem choice_any (A : Option Addr) (m c : Nat) (n : Int) (y : Nm) (o : Bool) (a : Option Addr) (len cap : Nat) (zs : List Int) (A' : Option Addr) (m' c' : Nat) (n' : Int) (y' : Nm) (o' : Bool) (a' : Option Addr) (len' cap' : Nat) (zs' : List Int) (A'' : Option Addr) (m'' c'' : Nat) (n'' : Int) (y'' : Nm) (o'' : Bool) (a'' : Option Addr) (len'' cap'' : Nat) (zs'' : List Int) (three : Bool) (w : World)
    (hr : IsRow .u8 w a len cap zs) (hz : ∀ z ∈ zs, 0 ≤ z ∧ z ≤ 255) (hr' : IsRow .u8 w a' len' cap' zs') (hz' : ∀ z ∈ zs', 0 ≤ z ∧ z ≤ 255) (hr'' : IsRow .u8 w a'' len'' cap'' zs'') (hz'' : ∀ z ∈ zs'', 0 ≤ z ∧ z ≤ 255) (hT : Tabs w) :
    Calls Tryd.prog 6 #[.agg #[.slice A m c, .int .i64 n, .string (str y), .bool o, .slice a len cap], .agg #[.slice A' m' c', .int .i64 n', .string (str y'), .bool o', .slice a' len' cap'], .agg #[.slice A'' m'' c'', .int .i64 n'', .string (str y''), .bool o'', .slice a'' len'' cap''], .bool three] w fun e w' => e = .returned (.bool true) ∧ Below w.heap.size w w' := by
  obtain ⟨W1, hW1⟩ : ∃ W1, ((w.alloc (.cells #[.slice A m c, .int .i64 n, .string (str y), .bool o, .slice a len cap] 27)).alloc (.cells #[.slice A' m' c', .int .i64 n', .string (str y'), .bool o', .slice a' len' cap'] 27)).alloc (.cells #[.slice A'' m'' c'', .int .i64 n'', .string (str y''), .bool o'', .slice a'' len'' cap''] 27) = W1 := ⟨_, rfl⟩
  have b1 : Below w.heap.size w W1 := by rw [← hW1]; exact (((Below.refl _ _).alloc (Nat.le_refl _) _).alloc (by simp) _).alloc (by simp; omega) _
  have h1 : Has W1 w.heap.size 27 (sh5 A m c n y o a len cap) := by rw [← hW1]; exact ((show Has (w.alloc (.cells #[.slice A m c, .int .i64 n, .string (str y), .bool o, .slice a len cap] 27)) w.heap.size 27 (sh5 A m c n y o a len cap) from heap_alloc_new w _).below (step1 _ _) (by simp)).below (step1 _ _) (by simp; omega)
  have h2 : Has W1 (w.heap.size + 1) 27 (sh5 A' m' c' n' y' o' a' len' cap') := by rw [← hW1]; exact (show Has ((w.alloc (.cells #[.slice A m c, .int .i64 n, .string (str y), .bool o, .slice a len cap] 27)).alloc (.cells #[.slice A' m' c', .int .i64 n', .string (str y'), .bool o', .slice a' len' cap'] 27)) (w.heap.size + 1) 27 (sh5 A' m' c' n' y' o' a' len' cap') from has_at rfl (by simp)).below (step1 _ _) (by simp)
  have h3 : Has W1 (w.heap.size + 1 + 1) 27 (sh5 A'' m'' c'' n'' y'' o'' a'' len'' cap'') := by rw [← hW1]; exact has_at rfl (by simp)
  have HE := Lib.hid (exT_any W1 (hT.below b1))
  have HW := Lib.hid hW1
  have HB1 := Lib.hid b1
  have H1 := Lib.hid h1
  have H2 := Lib.hid h2
  have H3 := Lib.hid h3
  have HT := Lib.hid hT
  have HR := Lib.hid (And.intro hr hz)
  have HR' := Lib.hid (And.intro hr' hz')
  have HR'' := Lib.hid (And.intro hr'' hz'')
  clear hW1 b1 h1 h2 h3 hT hr hz hr' hz' hr'' hz''
  have hfd : ∀ (v0 v1 v2 : Value) (W : World), (Instr.field 24 (.agg #[v0, v1, v2]) 0).run Tryd.prog W = .ok v0 W := fun _ _ _ _ => by kernel_rfl
  go_enter Tryd.func6, Tryd.ntmps6
  go_upto_region 1 with fail
  rw [HW.out]
  go_wp2_with fail
  refine HE.out.mono ?_
  rintro e w2 ⟨rfl, b2⟩
  have HB2 := Lib.hid (HB1.out.trans (b2.mono HB1.out.size))
  have h12 := H1.out.below b2 H1.out.lt
  have h22 := H2.out.below b2 H2.out.lt
  have h32 := H3.out.below b2 H3.out.lt
  have f1 : w2.frozen? ⟨w.heap.size, 3, none⟩ = false := h12.free 3
  have f2 : w2.frozen? ⟨w.heap.size + 1, 3, none⟩ = false := h22.free 3
  have f3 : w2.frozen? ⟨w.heap.size + 1 + 1, 3, none⟩ = false := h32.free 3
  have k1 : w2.cell? ⟨w.heap.size, 3, none⟩ = some (.bool o) := h12.cell 3
  have k2 : w2.cell? ⟨w.heap.size + 1, 3, none⟩ = some (.bool o') := h22.cell 3
  have k3 : w2.cell? ⟨w.heap.size + 1 + 1, 3, none⟩ = some (.bool o'') := h32.cell 3
  obtain ⟨W4, hW4⟩ : ∃ W4, ((w2.setCell ⟨w.heap.size, 3, none⟩ (.bool true)).setCell ⟨w.heap.size + 1, 3, none⟩ (.bool true)).setCell ⟨w.heap.size + 1 + 1, 3, none⟩ (.bool true) = W4 := ⟨_, rfl⟩
  have h14 : Has W4 w.heap.size 27 (sh5 A m c n y true a len cap) := by rw [← hW4]; exact hasS (hasS (h12.put 3 (.bool true)) _ _ (by omega)) _ _ (by omega)
  have h24 : Has W4 (w.heap.size + 1) 27 (sh5 A' m' c' n' y' true a' len' cap') := by rw [← hW4]; exact hasS ((show Has (w2.setCell ⟨w.heap.size, 3, none⟩ (.bool true)) (w.heap.size + 1) 27 (sh5 A' m' c' n' y' o' a' len' cap') from hasS h22 _ _ (by omega)).put 3 (.bool true)) _ _ (by omega)
  have h34 : Has W4 (w.heap.size + 1 + 1) 27 (sh5 A'' m'' c'' n'' y'' true a'' len'' cap'') := by rw [← hW4]; exact (show Has ((w2.setCell ⟨w.heap.size, 3, none⟩ (.bool true)).setCell ⟨w.heap.size + 1, 3, none⟩ (.bool true)) (w.heap.size + 1 + 1) 27 (sh5 A'' m'' c'' n'' y'' o'' a'' len'' cap'') from hasS (hasS h32 _ _ (by omega)) _ _ (by omega)).put 3 (.bool true)
  have b4 : Below w.heap.size w2 W4 := by rw [← hW4]; exact (((Below.refl _ _).setCell (p := ⟨w.heap.size, 3, none⟩) (Nat.le_refl _) _).setCell (p := ⟨w.heap.size + 1, 3, none⟩) (Nat.le_succ _) _).setCell (p := ⟨w.heap.size + 1 + 1, 3, none⟩) (by show w.heap.size ≤ w.heap.size + 1 + 1; omega) _
  have HB4 := Lib.hid (HB2.out.trans b4)
  have H14 := Lib.hid h14
  have H24 := Lib.hid h24
  have H34 := Lib.hid h34
  clear b4 h14 h24 h34 h12 h22 h32 HE HB2 b2 H1 H2 H3
  go_upto_region 7 with fail
  clear f1 f2 f3 k1 k2 k3 hW4
  clear w2
  refine wp_region_inv (fun l ac u => ∃ x0 x1 x2 x3 x4 x5 x6 x7 : Value, ac = ⟨#[.agg #[.slice A m c, .int .i64 n, .string (str y), .bool o, .slice a len cap], .agg #[.slice A' m' c', .int .i64 n', .string (str y'), .bool o', .slice a' len' cap'], .agg #[.slice A'' m'' c'', .int .i64 n'', .string (str y''), .bool o'', .slice a'' len'' cap''], .bool three, .pointer (some ⟨w.heap.size, 0, none⟩), .pointer (some ⟨w.heap.size + 1, 0, none⟩), .pointer (some ⟨w.heap.size + 1 + 1, 0, none⟩), undef, .bool false, .bool true, x7, undef, undef, undef, undef, undef, undef, undef, .bool true, .bool true, .bool false, .pointer (some ⟨w.heap.size, 3, none⟩), .pointer (some ⟨w.heap.size + 1, 3, none⟩), .pointer (some ⟨w.heap.size + 1 + 1, 3, none⟩), x0, x1, x2, x3, x4, x5, x6, undef, undef, undef, undef, undef, undef, undef, undef, undef, undef, undef, undef, undef, undef, undef, undef, undef, undef, undef, undef, undef, undef, undef, undef, undef, undef, undef, undef, undef, undef, undef, undef, undef, undef, undef, undef, undef, undef, undef, undef, undef, undef, undef, undef, undef, undef, undef, undef, undef, undef, undef, undef, undef, undef, undef, undef, undef, undef, undef, undef, undef, undef, undef, undef, undef, undef, undef, undef, undef, undef, undef, undef, undef, undef, undef, undef], []⟩ ∧ (Below W4.heap.size W4 u)
      ∧ (l.getD 0 false = true → x0 = .agg #[.slice A m c, .int .i64 n, .string (str y), .bool true, .slice a len cap])
      ∧ (l.getD 1 false = true → QyV u x1)
      ∧ (l.getD 2 false = true → SlV u x2)
      ∧ (l.getD 3 false = true → x3 = .agg #[.slice A' m' c', .int .i64 n', .string (str y'), .bool true, .slice a' len' cap'])
      ∧ (l.getD 4 false = true → QyV u x4)
      ∧ (l.getD 5 false = true → SlV u x5)
      ∧ (l.getD 6 false = true → KdV W4.heap.size u x6)
      ∧ (l.getD 7 false = true → KdV W4.heap.size u x7)) (by kernel_rfl) (by kernel_rfl) ?h0 ?hs ?hd
  case h0 =>
    refine ⟨_, _, _, _, _, _, _, _, rfl, (Below.refl _ _).drew, ?_⟩
    simp
  case hs =>
    intro l ac u hl hI i o ho hdep hun K hK
    have hi := (Array.getElem?_eq_some_iff.1 ho).1
    simp only [List.size_toArray, List.length_cons, List.length_nil] at hi hl
    obtain ⟨x0, x1, x2, x3, x4, x5, x6, x7, rfl, hb, h0, h1, h2, h3, h4, h5, h6, h7⟩ := hI
    have hc : i = 0 ∨ i = 1 ∨ i = 2 ∨ i = 3 ∨ i = 4 ∨ i = 5 ∨ i = 6 ∨ i = 7 := by omega
    rcases hc with rfl | rfl | rfl | rfl | rfl | rfl | rfl | rfl
    all_goals (obtain rfl := Option.some.inj ho; rw [if_pos (by rfl)])
    · obtain ⟨y0, y1, y2, y3, y4⟩ := five_has (H14.out.below hb H14.out.lt)
      go_simp
      exact hK _ _ ⟨_, _, _, _, _, _, _, _, rfl, hb, fun _ => rfl, fun c => (h1 (was c (by rfl))), fun c => (h2 (was c (by rfl))), fun c => (h3 (was c (by rfl))), fun c => (h4 (was c (by rfl))), fun c => (h5 (was c (by rfl))), fun c => (h6 (was c (by rfl))), fun c => (h7 (was c (by rfl)))⟩
    · obtain rfl := h0 (hdep ⟨0, .data⟩ (by simp) (by rfl))
      go_simp
      refine (shape_any A m c n y a len cap zs u (HR.out.1.below (HB4.out.trans (hb.mono HB4.out.size))) HR.out.2).mono ?_
      rintro e u2 ⟨l1, B1, cp1, n1, t1, rfl, ok1, gl1, hn1, hy1, b2⟩
      exact hK _ _ ⟨_, _, _, _, _, _, _, _, rfl, bwT hb b2, fun c => (h0 (was c (by rfl))), fun _ => ⟨l1, B1, cp1, n1, t1, rfl, l1, B1, cp1, rfl, ok1, gl1.1, gl1.2.1, gl1.2.2.hidL⟩, fun c => ((h2 (was c (by rfl)))).mono (b2), fun c => (h3 (was c (by rfl))), fun c => ((h4 (was c (by rfl)))).mono (b2), fun c => ((h5 (was c (by rfl)))).mono (b2), fun c => ((h6 (was c (by rfl)))).mono (b2), fun c => ((h7 (was c (by rfl)))).mono (b2)⟩
    · obtain ⟨l1, B1, cp1, n1, t1, rfl, hs1⟩ := h1 (hdep ⟨1, .data⟩ (by simp) (by rfl))
      go_simp
      exact hK _ _ ⟨_, _, _, _, _, _, _, _, rfl, hb, fun c => (h0 (was c (by rfl))), fun c => (h1 (was c (by rfl))), fun _ => hs1, fun c => (h3 (was c (by rfl))), fun c => (h4 (was c (by rfl))), fun c => (h5 (was c (by rfl))), fun c => (h6 (was c (by rfl))), fun c => (h7 (was c (by rfl)))⟩
    · obtain ⟨y0, y1, y2, y3, y4⟩ := five_has (H24.out.below hb H24.out.lt)
      go_simp
      exact hK _ _ ⟨_, _, _, _, _, _, _, _, rfl, hb, fun c => (h0 (was c (by rfl))), fun c => (h1 (was c (by rfl))), fun c => (h2 (was c (by rfl))), fun _ => rfl, fun c => (h4 (was c (by rfl))), fun c => (h5 (was c (by rfl))), fun c => (h6 (was c (by rfl))), fun c => (h7 (was c (by rfl)))⟩
    · obtain rfl := h3 (hdep ⟨3, .data⟩ (by simp) (by rfl))
      go_simp
      refine (shape_any A' m' c' n' y' a' len' cap' zs' u (HR'.out.1.below (HB4.out.trans (hb.mono HB4.out.size))) HR'.out.2).mono ?_
      rintro e u2 ⟨l1, B1, cp1, n1, t1, rfl, ok1, gl1, hn1, hy1, b2⟩
      exact hK _ _ ⟨_, _, _, _, _, _, _, _, rfl, bwT hb b2, fun c => (h0 (was c (by rfl))), fun c => ((h1 (was c (by rfl)))).mono (b2), fun c => ((h2 (was c (by rfl)))).mono (b2), fun c => (h3 (was c (by rfl))), fun _ => ⟨l1, B1, cp1, n1, t1, rfl, l1, B1, cp1, rfl, ok1, gl1.1, gl1.2.1, gl1.2.2.hidL⟩, fun c => ((h5 (was c (by rfl)))).mono (b2), fun c => ((h6 (was c (by rfl)))).mono (b2), fun c => ((h7 (was c (by rfl)))).mono (b2)⟩
    · obtain ⟨l1, B1, cp1, n1, t1, rfl, hs1⟩ := h4 (hdep ⟨4, .data⟩ (by simp) (by rfl))
      go_simp
      exact hK _ _ ⟨_, _, _, _, _, _, _, _, rfl, hb, fun c => (h0 (was c (by rfl))), fun c => (h1 (was c (by rfl))), fun c => (h2 (was c (by rfl))), fun c => (h3 (was c (by rfl))), fun c => (h4 (was c (by rfl))), fun _ => hs1, fun c => (h6 (was c (by rfl))), fun c => (h7 (was c (by rfl)))⟩
    · obtain ⟨l1, B1, cp1, rfl, hs1⟩ := h2 (hdep ⟨2, .data⟩ (by simp) (by rfl))
      obtain ⟨l2, B2, cp2, rfl, hs2⟩ := h5 (hdep ⟨5, .data⟩ (by simp) (by rfl))
      go_simp
      exact hK _ _ ⟨_, _, _, _, _, _, _, _, rfl, bwA hb _, fun c => (h0 (was c (by rfl))), fun c => ((h1 (was c (by rfl)))).mono (step1 u _), fun c => ((h2 (was c (by rfl)))).mono (step1 u _), fun c => (h3 (was c (by rfl))), fun c => ((h4 (was c (by rfl)))).mono (step1 u _), fun c => ((h5 (was c (by rfl)))).mono (step1 u _), fun _ => KdV.new hb.size ⟨l1, B1, cp1, rfl, hs1⟩ ⟨l2, B2, cp2, rfl, hs2⟩, fun c => ((h7 (was c (by rfl)))).mono (step1 u _)⟩
    · obtain hd6 := h6 (hdep ⟨6, .data⟩ (by simp) (by rfl))
      go_simp
      exact hK _ _ ⟨_, _, _, _, _, _, _, _, rfl, hb, fun c => (h0 (was c (by rfl))), fun c => (h1 (was c (by rfl))), fun c => (h2 (was c (by rfl))), fun c => (h3 (was c (by rfl))), fun c => (h4 (was c (by rfl))), fun c => (h5 (was c (by rfl))), fun c => (h6 (was c (by rfl))), fun _ => hd6⟩
  case hd =>
    intro l ac U hl hall hI
    obtain ⟨x0, x1, x2, x3, x4, x5, x6, x7, rfl, hb, h0, h1, h2, h3, h4, h5, h6, h7⟩ := hI
    simp only [List.size_toArray, List.length_cons, List.length_nil] at hall
    have hk7 := h7 (hall 7 (by omega))
    have HK7 := Lib.hid hk7
    have HBU := Lib.hid hb
    have HZ := Lib.hid (H34.out.below hb H34.out.lt)
    clear h0 h1 h2 h3 h4 h5 h6 h7 hall hb hl hk7
    go_upto_if 31 with fail
    go_cut [10] from 32 to 37 (fun s wx => KsV wx s ∧ Below W4.heap.size W4 wx)
    case first =>
      cases three with
      | false =>
        go_wp2_with fail
        go_meet
        exact ⟨HK7.out.ks, HBU.out⟩
      | true =>
        have HCZ := Lib.hid (shape_any A'' m'' c'' n'' y'' a'' len'' cap'' zs'' U (HR''.out.1.below (HB4.out.trans (HBU.out.mono HB4.out.size))) HR''.out.2)
        obtain ⟨y0, y1, y2, y3, y4⟩ := five_has HZ.out
        go_wp2_with fail
        refine HCZ.out.mono ?_
        rintro e w9 ⟨l1, B1, cp1, n1, t1, rfl, ok1, gl1, hn1, hy1, b2⟩
        obtain ⟨v', w', r, hks, bw⟩ := kd_app HK7.out b2 ok1 gl1.1 gl1.2.1 gl1.2.2
        have R := Lib.hid r
        have HKS := Lib.hid hks
        have HBW := Lib.hid (HBU.out.trans bw)
        clear r hks bw ok1 gl1 hn1 hy1 b2 y0 y1 y2 y3 y4
        go_wp2_with (at_builtin; refine wpList_app R.out rfl rfl rfl rfl rfl ?_)
        go_meet
        exact ⟨HKS.out, HBW.out⟩
    case rest =>
      obtain ⟨⟨b, off, c, kp, ks, rfl, hlc, hcm, G, hkd⟩, bwc⟩ := hcut
      have hc1 : 1 ≤ c := by have := G.1; omega
      have HG := Lib.hid G
      have HBC := Lib.hid (HB4.out.trans (bwc.mono HB4.out.size))
      have HLC := Lib.hid (And.intro hlc hcm)
      clear HK7 HBU HZ bwc G hlc hcm
      obtain ⟨W2, hW2⟩ : ∃ W2, wc.alloc (.cells #[.int .i64 3, .string (str []), .string (str []), .slice none 0 0, .int .i64 0, .int .i64 0, .slice (some ⟨b, off, none⟩) ks.length c] 42) = W2 := ⟨_, rfl⟩
      have b2 : Below wc.heap.size wc W2 := by rw [← hW2]; exact step1 _ _
      have h2 : Has W2 wc.heap.size 42 #[.int .i64 3, .string (str []), .string (str []), .slice none 0 0, .int .i64 0, .int .i64 0, .slice (some ⟨b, off, none⟩) ks.length c] := by rw [← hW2]; exact has_at rfl rfl
      go_upto_region 11 with fail
      change Code.wp _ _ _ _ (wc.alloc (.cells #[.int .i64 3, .string (str []), .string (str []), .slice none 0 0, .int .i64 0, .int .i64 0, .slice (some ⟨b, off, none⟩) ks.length c] 42))
      rw [hW2]
      clear hW2
      obtain ⟨W3, hW3⟩ : ∃ W3, W2.alloc (.cells #[.int .i64 3, .string (str []), .string (str []), .slice none 0 0, .int .i64 0, .int .i64 0, .slice (some ⟨b, off, none⟩) 1 c] 42) = W3 := ⟨_, rfl⟩
      have b3 : Below W2.heap.size W2 W3 := by rw [← hW3]; exact step1 _ _
      have h3 : Has W3 W2.heap.size 42 #[.int .i64 3, .string (str []), .string (str []), .slice none 0 0, .int .i64 0, .int .i64 0, .slice (some ⟨b, off, none⟩) 1 c] := by rw [← hW3]; exact has_at rfl rfl
      have h23 := h2.below b3 h2.lt
      have b23 := b2.trans (b3.mono b2.size)
      have HK3 := Lib.hid (hkd.below b23)
      have HB3 := Lib.hid (HBC.out.trans (b23.mono HBC.out.size))
      have H3 := Lib.hid h3
      have H23 := Lib.hid h23
      clear h2 h3 h23 b2 b3 b23 hkd
      go_upto_region 12 with fail
      change Code.wp _ _ _ _ (W2.alloc (.cells #[.int .i64 3, .string (str []), .string (str []), .slice none 0 0, .int .i64 0, .int .i64 0, .slice (some ⟨b, off, none⟩) 1 c] 42))
      rw [hW3]
      clear hW3 hc1
      obtain ⟨q1, hq1⟩ : ∃ q, wc.heap.size = q := ⟨_, rfl⟩
      obtain ⟨q2, hq2⟩ : ∃ q, W2.heap.size = q := ⟨_, rfl⟩
      rw [hq1] at H23 ⊢
      rw [hq2] at H3 ⊢
      clear hq1 hq2
      go_wp2_with fail
      go_loopw [13, 14, 15, 16] (fun t d n i wr => ∃ k, k ≤ ks.length ∧ t = .string (str (gText ks k)) ∧ d = .int .i64 ((gDeep ks k : Nat) : Int) ∧ n = .int .i64 ((gMany ks k : Nat) : Int) ∧ i = .int .i64 (k : Nat) ∧ Below W3.heap.size W3 wr) (fun t d n i _ => ks.length - (intOf i).toNat)
      case atStart => exact ⟨0, Nat.zero_le _, by rw [gText_0]; rfl, by rw [gDeep_0]; rfl, by rw [gMany_0]; rfl, rfl, Below.refl _ _⟩
      case round =>
        obtain ⟨j, hj, rfl, rfl, rfl, rfl, hb⟩ := hrel
        have HB := Lib.hid hb
        clear hb
        obtain ⟨t0, ht0⟩ : ∃ t, gText ks j = t := ⟨_, rfl⟩
        obtain ⟨e0, he0⟩ : ∃ t : Int, ((gDeep ks j : Nat) : Int) = t := ⟨_, rfl⟩
        obtain ⟨n0, hn0⟩ : ∃ t : Int, ((gMany ks j : Nat) : Int) = t := ⟨_, rfl⟩
        rw [ht0, he0, hn0]
        have hbt := HG.out.text j
        have hbe := HG.out.deep j
        have hbn := HG.out.many j
        rw [ht0] at hbt
        by_cases hlt : j < ks.length
        · have hlt' : j < kp.length := by rw [HK3.out.1]; exact hlt
          obtain ⟨⟨⟨b', off', e', g0⟩, hok⟩, hit⟩ := HK3.out.2 j hlt hlt'
          replace g0 := below_imp HB.out _ _ g0
          cases e'
          have gd := HG.out.2 _ (List.getElem_mem hlt)
          have hx3 : ks.length ≤ 3 := HG.out.1.2
          have hnd := gDeep_next hlt
          have hnm := gMany_next hlt
          have hbt1 := HG.out.text (j + 1)
          have hbe1 := HG.out.deep (j + 1)
          have hbn1 := HG.out.many (j + 1)
          have htx : (j = 0 ∧ gText ks (j + 1) = t0 ++ putIs ks[j]) ∨ (0 < j ∧ gText ks (j + 1) = (t0 ++ [32, 124, 32]) ++ putIs ks[j]) := by
            rcases Nat.eq_zero_or_pos j with h | h
            · exact .inl ⟨h, by rw [gText_first hlt h, ht0]⟩
            · exact .inr ⟨h, by rw [gText_next hlt h, ht0]⟩
          obtain ⟨x, hx⟩ : ∃ x, ks[j] = x := ⟨_, rfl⟩
          obtain ⟨⟨B, cp⟩, hp⟩ : ∃ p, kp[j] = p := ⟨_, rfl⟩
          rw [hx, hp] at g0 hit hok
          rw [hx] at gd hnd hnm htx
          simp only at g0 hit hok
          have hxc := its_counts x
          obtain ⟨t1, ht1⟩ : ∃ t, gText ks (j + 1) = t := ⟨_, rfl⟩
          obtain ⟨e1, he1⟩ : ∃ t : Int, ((gDeep ks (j + 1) : Nat) : Int) = t := ⟨_, rfl⟩
          obtain ⟨n1, hn1⟩ : ∃ t : Int, ((gMany ks (j + 1) : Nat) : Int) = t := ⟨_, rfl⟩
          obtain ⟨d, hd⟩ : ∃ t, putIs x = t := ⟨_, rfl⟩
          obtain ⟨e2, he2⟩ : ∃ t : Int, ((deepIs x : Nat) : Int) = t := ⟨_, rfl⟩
          obtain ⟨n2, hn2⟩ : ∃ t : Int, ((countIs x : Nat) : Int) = t := ⟨_, rfl⟩
          rw [ht1, hd] at htx
          rw [ht1] at hbt1
          have hdl : d.length ≤ 1000000 := by rw [← hd]; exact gd.2.2
          have hit' := hit.below HB.out
          have hT' := HT.out.below (HB3.out.trans (HB.out.mono HB3.out.size))
          have hxl : x.length ≤ 9223372036854775807 := by omega
          have KP := Lib.hid (fun (u : World) (hu : Below wr.heap.size wr u) => hd ▸ putIs_any x B cp u hxl (hit'.below hu) (hT'.below hu) gd.1 (by rw [hd]; omega))
          have KD := Lib.hid (fun (u : World) (hu : Below wr.heap.size wr u) => he2 ▸ deepL_any x B cp u hxl (hit'.below hu) (by omega))
          have KC := Lib.hid (fun (u : World) (hu : Below wr.heap.size wr u) => hn2 ▸ countL_any x B cp u hxl (hit'.below hu) (by omega))
          have hmx : (if e0 < e2 then e2 else e0) = e1 := by split <;> omega
          have HM := Lib.hid (show max e0 e2 = e1 by omega)
          have hnn : n0 + n2 = n1 := by omega
          have hb0 : 0 ≤ n0 ∧ n0 ≤ 30001 := by omega
          have hb2 : 0 ≤ n2 ∧ n2 ≤ 30001 := by omega
          have hb1 : 0 ≤ n1 ∧ n1 ≤ 30001 := by omega
          have HE1 := Lib.hid (And.intro ht1 (And.intro he1 hn1))
          have HJ := Lib.hid (show j < 3 by omega)
          have hjI : (j : Int) < (ks.length : Int) := by omega
          clear hd he2 hn2 he1 hn1 ht1 hnd hnm gd hok hit hit' hT' hxc hxl ht0 he0 hn0 hbt1 hbe1 hbn1 hbe hbn hx hp hlt'
          rcases htx with ⟨h0, htx⟩ | ⟨h0, htx⟩
          · have d0 : decide ((0 : Int) < (j : Int)) = false := by simp; omega
            have d1 : decide (0 < j) = false := by simp; omega
            have h00 : ¬ 0 < j := by omega
            have ha : ∀ W, (Op.stringOp .add (str t0) (str d)).run Tryd.prog W = .ok (.string (str t1)) W := fun W => by rw [htx]; exact run_add_str t0 d (by omega) W
            clear htx h0
            go_wp2_with fail
            refine (KP.out _ (Below.refl _ _)).mono ?_
            rintro e u1 ⟨rfl, bu1⟩
            replace g0 := below_imp bu1 _ _ g0
            go_wp2_with fail
            refine (KD.out _ bu1).mono ?_
            rintro e u2 ⟨rfl, bu2⟩
            replace g0 := below_imp bu2 _ _ g0
            have bu2 := bu1.trans (bu2.mono bu1.size)
            go_wp2_with fail
            refine (KC.out _ bu2).mono ?_
            rintro e u3 ⟨rfl, bu3⟩
            have HB6 := Lib.hid (HB.out.trans ((bu2.trans (bu3.mono bu2.size)).mono HB.out.size))
            clear bu1 bu2 bu3
            go_wp2_with fail
            go_roundw
            case rel => exact ⟨j + 1, by omega, by rw [HE1.out.1], by (try rw [HM.out]); rw [HE1.out.2.1], by rw [HE1.out.2.2], by go_num, HB6.out⟩
            case measure => simp [intOf]; omega
          · have d0 : decide ((0 : Int) < (j : Int)) = true := by simp; omega
            obtain ⟨u1, hu1⟩ : ∃ u, t0 ++ [32, 124, 32] = u := ⟨_, rfl⟩
            rw [hu1] at htx
            have hul : u1.length ≤ 3000013 := by rw [← hu1]; simp; omega
            have ha1 : ∀ W, (Op.stringOp .add (str t0) { data := #[32, 124, 32] }).run Tryd.prog W = .ok (.string (str u1)) W := fun W => by rw [← hu1]; exact run_add_str t0 [32, 124, 32] (by simp; omega) W
            have ha : ∀ W, (Op.stringOp .add (str u1) (str d)).run Tryd.prog W = .ok (.string (str t1)) W := fun W => by rw [htx]; exact run_add_str u1 d (by omega) W
            clear htx hu1
            go_wp2_with fail
            refine (KP.out _ (Below.refl _ _)).mono ?_
            rintro e u1 ⟨rfl, bu1⟩
            replace g0 := below_imp bu1 _ _ g0
            go_wp2_with fail
            refine (KD.out _ bu1).mono ?_
            rintro e u2 ⟨rfl, bu2⟩
            replace g0 := below_imp bu2 _ _ g0
            have bu2 := bu1.trans (bu2.mono bu1.size)
            go_wp2_with fail
            refine (KC.out _ bu2).mono ?_
            rintro e u3 ⟨rfl, bu3⟩
            have HB6 := Lib.hid (HB.out.trans ((bu2.trans (bu3.mono bu2.size)).mono HB.out.size))
            clear bu1 bu2 bu3
            go_wp2_with fail
            go_roundw
            case rel => exact ⟨j + 1, by omega, by rw [HE1.out.1], by (try rw [HM.out]); rw [HE1.out.2.1], by rw [HE1.out.2.2], by go_num, HB6.out⟩
            case measure => simp [intOf]; omega
        · obtain rfl : j = ks.length := by omega
          have hnot : ¬ ((ks.length : Nat) : Int) < (ks.length : Int) := by omega
          have hGr : ∀ l ∈ ks, rightIs l = true := fun l hl => (HG.out.2 l hl).1
          have hin := alt_in HK3.out HLC.out.1 HLC.out.2
          have hk1 := HK3.out.take 1
          have hk1l : (ks.take 1).length = 1 := by rw [List.length_take]; have := HG.out.1; omega
          have hin1 := alt_in hk1 (by rw [hk1l]; have := HG.out.1; have := HLC.out.1; omega) HLC.out.2
          have hr1 : rightIs [(altT (some ⟨b, off, none⟩) c kp ks)] = true := by rw [alt_right hGr]; exact decide_eq_true HG.out.1.1
          have hr2 : rightIs [(altT (some ⟨b, off, none⟩) c (kp.take 1) (ks.take 1))] = false := by rw [alt_right (fun l hl => hGr l (List.mem_of_mem_take hl)), hk1l]; rfl
          have hpt : putIs [(altT (some ⟨b, off, none⟩) c kp ks)] = t0 ++ [41] := by rw [alt_put, ht0]
          have hdp : ((deepIs [(altT (some ⟨b, off, none⟩) c kp ks)] : Nat) : Int) = e0 + 1 := by rw [alt_deep]; omega
          have hcn : ((countIs [(altT (some ⟨b, off, none⟩) c kp ks)] : Nat) : Int) = n0 := by rw [alt_many]; omega
          obtain ⟨e1, he1⟩ : ∃ t : Int, e0 + 1 = t := ⟨_, rfl⟩
          obtain ⟨t1, ht1⟩ : ∃ t, t0 ++ [41] = t := ⟨_, rfl⟩
          rw [he1] at hdp
          rw [ht1] at hpt
          have hbe0 : 0 ≤ e0 ∧ e0 ≤ 30001 := by omega
          have hbe1 : 0 ≤ e1 ∧ e1 ≤ 30001 := by omega
          have ha : ∀ W, (Op.stringOp .add (str t0) { data := #[41] }).run Tryd.prog W = .ok (.string (str t1)) W := fun W => by rw [← ht1]; exact run_add_str t0 [41] (by simp; omega) W
          have ht1l : t1.length ≤ 3000013 := by rw [← ht1]; simp; omega
          have h23 := H23.out.below HB.out H23.out.lt
          have h3 := H3.out.below HB.out H3.out.lt
          obtain ⟨W5, hW5⟩ : ∃ W5, wr.alloc (.cells #[.int .i64 3, .string (str []), .string (str []), .slice none 0 0, .int .i64 0, .int .i64 0, .slice (some ⟨b, off, none⟩) ks.length c] 42) = W5 := ⟨_, rfl⟩
          have b5 : Below wr.heap.size wr W5 := by rw [← hW5]; exact step1 _ _
          have h5 : Has W5 wr.heap.size 42 (csI (altT (some ⟨b, off, none⟩) c kp ks)) := by rw [← hW5]; exact has_at rfl rfl
          have b35 := HB.out.trans (b5.mono HB.out.size)
          have hT5 := HT.out.below (HB3.out.trans (b35.mono HB3.out.size))
          have hits := its_one h5 (hin.below b35)
          have KR := Lib.hid (fun (u : World) (hu : Below W5.heap.size W5 u) => hr1 ▸ rightL_any [(altT (some ⟨b, off, none⟩) c kp ks)] (some ⟨wr.heap.size, 0, none⟩) 1 u (by simp) (hits.below hu) (hT5.below hu).1)
          have KP := Lib.hid (fun (u : World) (hu : Below W5.heap.size W5 u) => hpt ▸ putIs_any [(altT (some ⟨b, off, none⟩) c kp ks)] (some ⟨wr.heap.size, 0, none⟩) 1 u (by simp) (hits.below hu) (hT5.below hu) hr1 (by rw [hpt]; omega))
          have KD := Lib.hid (fun (u : World) (hu : Below W5.heap.size W5 u) => hdp ▸ deepL_any [(altT (some ⟨b, off, none⟩) c kp ks)] (some ⟨wr.heap.size, 0, none⟩) 1 u (by simp) (hits.below hu) (by omega))
          have KC := Lib.hid (fun (u : World) (hu : Below W5.heap.size W5 u) => hcn ▸ countL_any [(altT (some ⟨b, off, none⟩) c kp ks)] (some ⟨wr.heap.size, 0, none⟩) 1 u (by simp) (hits.below hu) (by omega))
          have KO := Lib.hid (fun (u : World) (hu : Below W5.heap.size W5 u) (q : Nat) (hq : Has u q 42 (csI (altT (some ⟨b, off, none⟩) c (kp.take 1) (ks.take 1)))) => hr2 ▸ rightL_any [(altT (some ⟨b, off, none⟩) c (kp.take 1) (ks.take 1))] (some ⟨q, 0, none⟩) 1 u (by simp) (its_one hq (hin1.below (b35.trans (hu.mono b35.size)))) (hT5.below hu).1)
          have H35 := Lib.hid (h3.below b5 h3.lt)
          have HB5 := Lib.hid (HB3.out.trans (b35.mono HB3.out.size))
          have HW5 := Lib.hid hW5
          have HL1 := Lib.hid hk1l
          have HX := Lib.hid (Below.refl W5.heap.size W5)
          obtain ⟨y0, y1, y2, y3, y4, y5, y6⟩ := seven_has h23
          clear hW5 b5 h5 b35 hT5 hits hr1 hr2 hpt hdp hcn hin hin1 hk1 hGr h3 h23 hk1l he0 hn0 ht0 hbe hbn hlt hj
          go_wp2_with fail
          change Calls _ _ _ (wr.alloc (.cells #[.int .i64 3, .string (str []), .string (str []), .slice none 0 0, .int .i64 0, .int .i64 0, .slice (some ⟨b, off, none⟩) ks.length c] 42)) _
          rw [HW5.out]
          refine (KR.out _ HX.out).mono ?_
          rintro e u1 ⟨rfl, bu⟩
          clear y0 y1 y2 y3 y4 y5 y6
          have HX := Lib.hid (HX.out.trans (bu.mono HX.out.size))
          clear bu
          obtain ⟨y0, y1, y2, y3, y4, y5, y6⟩ := seven_has (H35.out.below HX.out H35.out.lt)
          obtain ⟨W7, hW7⟩ : ∃ W7, u1.alloc (.cells #[.int .i64 3, .string (str []), .string (str []), .slice none 0 0, .int .i64 0, .int .i64 0, .slice (some ⟨b, off, none⟩) 1 c] 42) = W7 := ⟨_, rfl⟩
          have b7 : Below u1.heap.size u1 W7 := by rw [← hW7]; exact step1 _ _
          have h7 : Has W7 u1.heap.size 42 (csI (altT (some ⟨b, off, none⟩) c (kp.take 1) (ks.take 1))) := by rw [← hW7]; exact has_at (by show _ = Obj.cells #[.int .i64 3, .string (str []), .string (str []), .slice none 0 0, .int .i64 0, .int .i64 0, .slice (some ⟨b, off, none⟩) (ks.take 1).length c] _ _; rw [HL1.out]) rfl
          have HX := Lib.hid (HX.out.trans (b7.mono HX.out.size))
          have HW7 := Lib.hid hW7
          have H7 := Lib.hid h7
          clear hW7 b7 h7
          go_wp2_with fail
          change Calls _ _ _ (u1.alloc (.cells #[.int .i64 3, .string (str []), .string (str []), .slice none 0 0, .int .i64 0, .int .i64 0, .slice (some ⟨b, off, none⟩) 1 c] 42)) _
          rw [HW7.out]
          refine (KO.out _ HX.out _ H7.out).mono ?_
          rintro e u2 ⟨rfl, bu⟩
          clear y0 y1 y2 y3 y4 y5 y6
          have HX := Lib.hid (HX.out.trans (bu.mono HX.out.size))
          clear bu
          go_wp2_with fail
          refine (KP.out _ HX.out).mono ?_
          rintro e u3 ⟨rfl, bu⟩
          have HX := Lib.hid (HX.out.trans (bu.mono HX.out.size))
          clear bu
          go_wp2_with fail
          refine (KD.out _ HX.out).mono ?_
          rintro e u4 ⟨rfl, bu⟩
          have HX := Lib.hid (HX.out.trans (bu.mono HX.out.size))
          clear bu
          go_wp2_with fail
          refine (KC.out _ HX.out).mono ?_
          rintro e u5 ⟨rfl, bu⟩
          have HX := Lib.hid (HX.out.trans (bu.mono HX.out.size))
          clear bu
          go_wp2_with fail
          go_ret
          exact ⟨rfl, HB5.out.trans (HX.out.mono HB5.out.size)⟩
end Go.Proofs.YtbdfehgofnomhaaDoor
