/- Layer 9: PatternLists' walk. -/
import Derived.Test.YtbdfehgofnomhaaDoorQAs
import Derived.Test.YtbdfehgofnomhaaDoorQMe
namespace Go.Proofs.YtbdfehgofnomhaaDoor
open Go.RowKit Go.Lib
set_option linter.unusedVariables false

set_option maxRecDepth 100000 in
set_option maxHeartbeats 8000000 in
theorem lists_any (A : Option Addr) (m c : Nat) (n : Int) (y : Nm) (o : Bool) (a : Option Addr) (len cap : Nat) (zs : List Int) (A' : Option Addr) (m' c' : Nat) (n' : Int) (y' : Nm) (o' : Bool) (a' : Option Addr) (len' cap' : Nat) (zs' : List Int) (w : World)
    (hr : IsRow .u8 w a len cap zs) (hz : ∀ z ∈ zs, 0 ≤ z ∧ z ≤ 255) (hr' : IsRow .u8 w a' len' cap' zs') (hz' : ∀ z ∈ zs', 0 ≤ z ∧ z ≤ 255) (hT : Tabs w) :
    Calls Tryd.prog 4 #[.agg #[.slice A m c, .int .i64 n, .string (str y), .bool o, .slice a len cap], .agg #[.slice A' m' c', .int .i64 n', .string (str y'), .bool o', .slice a' len' cap']] w fun e w' => e = .returned (.bool true) ∧ Below w.heap.size w w' := by
  obtain ⟨W1, hW1⟩ : ∃ W1, (w.alloc (.cells #[.slice A m c, .int .i64 n, .string (str y), .bool o, .slice a len cap] 27)).alloc (.cells #[.slice A' m' c', .int .i64 n', .string (str y'), .bool o', .slice a' len' cap'] 27) = W1 := ⟨_, rfl⟩
  have b1 : Below w.heap.size w W1 := by rw [← hW1]; exact ((Below.refl _ _).alloc (Nat.le_refl _) _).alloc (by simp) _
  have h1 : Has W1 w.heap.size 27 (sh5 A m c n y o a len cap) := by rw [← hW1]; exact (show Has (w.alloc (.cells #[.slice A m c, .int .i64 n, .string (str y), .bool o, .slice a len cap] 27)) w.heap.size 27 (sh5 A m c n y o a len cap) from heap_alloc_new w _).below (step1 _ _) (by simp)
  have h2 : Has W1 (w.heap.size + 1) 27 (sh5 A' m' c' n' y' o' a' len' cap') := by rw [← hW1]; exact has_at rfl (by simp)
  have HE := Lib.hid (exT_any W1 (hT.below b1))
  have HW := Lib.hid hW1
  have HB1 := Lib.hid b1
  have H1 := Lib.hid h1
  have H2 := Lib.hid h2
  have HT := Lib.hid hT
  have HR := Lib.hid (And.intro hr (And.intro hz (And.intro hr' hz')))
  clear hW1 b1 h1 h2 hT hr hz hr' hz'
  have hfd : ∀ (v0 v1 v2 : Value) (W : World), (Instr.field 24 (.agg #[v0, v1, v2]) 0).run Tryd.prog W = .ok v0 W := fun _ _ _ _ => by kernel_rfl
  go_enter Tryd.func4, Tryd.ntmps4
  go_upto_region 1 with fail
  rw [HW.out]
  go_wp2_with fail
  refine HE.out.mono ?_
  rintro e w2 ⟨rfl, b2⟩
  have HB2 := Lib.hid (HB1.out.trans (b2.mono HB1.out.size))
  have h12 := H1.out.below b2 H1.out.lt
  have h22 := H2.out.below b2 H2.out.lt
  have f1 : w2.frozen? ⟨w.heap.size, 3, none⟩ = false := h12.free 3
  have f2 : w2.frozen? ⟨w.heap.size + 1, 3, none⟩ = false := h22.free 3
  have k1 : w2.cell? ⟨w.heap.size, 3, none⟩ = some (.bool o) := h12.cell 3
  have k2 : w2.cell? ⟨w.heap.size + 1, 3, none⟩ = some (.bool o') := h22.cell 3
  obtain ⟨W4, hW4⟩ : ∃ W4, (w2.setCell ⟨w.heap.size, 3, none⟩ (.bool true)).setCell ⟨w.heap.size + 1, 3, none⟩ (.bool true) = W4 := ⟨_, rfl⟩
  have h14 : Has W4 w.heap.size 27 (sh5 A m c n y true a len cap) := by rw [← hW4]; exact hasS (h12.put 3 (.bool true)) _ _ (by omega)
  have h24 : Has W4 (w.heap.size + 1) 27 (sh5 A' m' c' n' y' true a' len' cap') := by rw [← hW4]; exact (show Has (w2.setCell ⟨w.heap.size, 3, none⟩ (.bool true)) (w.heap.size + 1) 27 (sh5 A' m' c' n' y' o' a' len' cap') from hasS h22 _ _ (by omega)).put 3 (.bool true)
  have b4 : Below w.heap.size w2 W4 := by rw [← hW4]; exact ((Below.refl _ _).setCell (p := ⟨w.heap.size, 3, none⟩) (Nat.le_refl _) _).setCell (p := ⟨w.heap.size + 1, 3, none⟩) (Nat.le_succ _) _
  have HB4 := Lib.hid (HB2.out.trans b4)
  have H14 := Lib.hid h14
  have H24 := Lib.hid h24
  clear b4 h14 h24 h12 h22 HE HB2 b2 H1 H2
  go_upto_region 6 with fail
  clear f1 f2 k1 k2 hW4
  clear w2
  have HC1 := Lib.hid (shape_any A m c n y a len cap zs W4 (HR.out.1.below HB4.out) HR.out.2.1)
  obtain ⟨y0, y1, y2, y3, y4⟩ := five_has H14.out
  go_wp2_with fail
  refine HC1.out.mono ?_
  rintro e w6 ⟨l1, B1, cp1, n1, t1, rfl, ok1, gl1, hn1, hy1, b6⟩
  have HB6 := Lib.hid (HB4.out.trans (b6.mono HB4.out.size))
  have h26 := H24.out.below b6 H24.out.lt
  have HG1 := Lib.hid (And.intro ok1 (And.intro gl1.1 gl1.2.1))
  have HI1 := Lib.hid gl1.2.2.hidL
  clear ok1 gl1 hn1 hy1 b6 y0 y1 y2 y3 y4 HC1 H14
  have HC2 := Lib.hid (shape_any A' m' c' n' y' a' len' cap' zs' w6 (HR.out.2.2.1.below HB6.out) HR.out.2.2.2)
  obtain ⟨y0, y1, y2, y3, y4⟩ := five_has h26
  clear h26 H24
  go_wp2_with fail
  refine HC2.out.mono ?_
  rintro e w8 ⟨l2, B2, cp2, n2, t2, rfl, ok2, gl2, hn2, hy2, b8⟩
  have hi1 := HI1.out.below b8
  have hi2 := gl2.2.2.hidL
  have hb8 := HB6.out.trans (b8.mono HB6.out.size)
  have q1 := its_counts l1
  have q2 := its_counts l2
  have g1 := HG1.out
  have p1 := right_pos g1.2.1
  have p2 := right_pos gl2.1
  obtain ⟨v1, w9, g, cp, w10, r1, r2, b10, hn3, hmx3, hi3⟩ := two_app (c := cp1) (c' := cp2) hi1 hi2 p1 p2 (by omega)
  have hj1 := hi1.below b10
  have hj2 := hi2.below b10
  have hj4 := its_take hi3
  have hb10 := hb8.trans (b10.mono hb8.size)
  have hT10 := HT.out.below hb10
  have hp := putIs_append (l := l1) (m := l2) (List.ne_nil_of_length_pos p1) (List.ne_nil_of_length_pos p2)
  have hc := countIs_append l1 l2
  have hd := deepIs_append l1 l2
  have hrt := rightIs_append g1.2.1 gl2.1
  have hsm := sameIs_more l1 l2
  have hlen : (l1 ++ l2).length = l1.length + l2.length := List.length_append
  have i1 := ask_items g1.2.1 g1.2.2 hj1
  have i2 := ask_items gl2.1 gl2.2.1 hj2
  have hsm2 : l2.isEmpty = false := by cases l2 with
    | nil => simp at p2
    | cons x xs => rfl
  rw [hsm2] at hsm
  obtain ⟨L, hL⟩ : ∃ L, l1 ++ l2 = L := ⟨_, rfl⟩
  rw [hL] at hp hc hd hrt hsm hi3 hn3 hlen r2
  obtain ⟨z1, hz1⟩ : ∃ z : Int, ((countIs l1 : Nat) : Int) = z := ⟨_, rfl⟩
  obtain ⟨z2, hz2⟩ : ∃ z : Int, ((countIs l2 : Nat) : Int) = z := ⟨_, rfl⟩
  obtain ⟨z3, hz3⟩ : ∃ z : Int, ((countIs L : Nat) : Int) = z := ⟨_, rfl⟩
  obtain ⟨e1, he1⟩ : ∃ z : Int, ((deepIs l1 : Nat) : Int) = z := ⟨_, rfl⟩
  obtain ⟨e2, he2⟩ : ∃ z : Int, ((deepIs l2 : Nat) : Int) = z := ⟨_, rfl⟩
  obtain ⟨e3, he3⟩ : ∃ z : Int, ((deepIs L : Nat) : Int) = z := ⟨_, rfl⟩
  have hzz : z1 + z2 = z3 := by omega
  have hzb1 : 0 ≤ z1 ∧ z1 ≤ 1000000 := by omega
  have hzb2 : 0 ≤ z2 ∧ z2 ≤ 1000000 := by omega
  have hzb3 : 0 ≤ z3 ∧ z3 ≤ 1000000 := by omega
  have hmx : (if e1 < e2 then e2 else e1) = e3 := by split <;> omega
  have KC3 := Lib.hid (fun (u : World) (hu : Below w10.heap.size w10 u) => hz3 ▸ countL_any L (some ⟨g, 0, none⟩) cp u (by omega) (hi3.below hu) (by omega))
  have KC1 := Lib.hid (fun (u : World) (hu : Below w10.heap.size w10 u) => hz1 ▸ countL_any l1 B1 cp1 u (by omega) (hj1.below hu) (by omega))
  have KC2 := Lib.hid (fun (u : World) (hu : Below w10.heap.size w10 u) => hz2 ▸ countL_any l2 B2 cp2 u (by omega) (hj2.below hu) (by omega))
  have KD3 := Lib.hid (fun (u : World) (hu : Below w10.heap.size w10 u) => he3 ▸ deepL_any L (some ⟨g, 0, none⟩) cp u (by omega) (hi3.below hu) (by omega))
  have KD1 := Lib.hid (fun (u : World) (hu : Below w10.heap.size w10 u) => he1 ▸ deepL_any l1 B1 cp1 u (by omega) (hj1.below hu) (by omega))
  have KD2 := Lib.hid (fun (u : World) (hu : Below w10.heap.size w10 u) => he2 ▸ deepL_any l2 B2 cp2 u (by omega) (hj2.below hu) (by omega))
  have KR3 := Lib.hid (fun (u : World) (hu : Below w10.heap.size w10 u) => hrt ▸ rightL_any L (some ⟨g, 0, none⟩) cp u (by omega) (hi3.below hu) (hT10.below hu).1)
  have KR0 := Lib.hid (fun (u : World) (hu : Below w10.heap.size w10 u) => (show rightIs [] = false from rfl) ▸ rightL_any [] none 0 u (by simp) (fun j hj => by simp at hj) (hT10.below hu).1)
  have KS4 := Lib.hid (fun (u : World) (hu : Below w10.heap.size w10 u) => (sameIs_refl l1) ▸ sameL_any l1 l1 (some ⟨g, 0, none⟩) B1 cp cp1 u (by omega) (hj4.below hu) (hj1.below hu))
  have KS3 := Lib.hid (fun (u : World) (hu : Below w10.heap.size w10 u) => hsm ▸ sameL_any L l1 (some ⟨g, 0, none⟩) B1 cp cp1 u (by omega) (hi3.below hu) (hj1.below hu))
  obtain ⟨d1, hd1⟩ : ∃ d, putIs l1 = d := ⟨_, rfl⟩
  obtain ⟨d2, hd2⟩ : ∃ d, putIs l2 = d := ⟨_, rfl⟩
  obtain ⟨d3, hd3⟩ : ∃ d, putIs L = d := ⟨_, rfl⟩
  have KP3 := Lib.hid (fun (u : World) (hu : Below w10.heap.size w10 u) => hd3 ▸ putIs_any L (some ⟨g, 0, none⟩) cp u (by omega) (hi3.below hu) (hT10.below hu) hrt (by rw [hp]; simp; omega))
  have KP1 := Lib.hid (fun (u : World) (hu : Below w10.heap.size w10 u) => hd1 ▸ putIs_any l1 B1 cp1 u (by omega) (hj1.below hu) (hT10.below hu) g1.2.1 (by omega))
  have KP2 := Lib.hid (fun (u : World) (hu : Below w10.heap.size w10 u) => hd2 ▸ putIs_any l2 B2 cp2 u (by omega) (hj2.below hu) (hT10.below hu) gl2.1 (by omega))
  rw [hd1, hd2, hd3] at hp
  rw [hd1] at i1
  rw [hd2] at i2
  obtain ⟨U, hU⟩ : ∃ U, d1 ++ [32, 59, 32] = U := ⟨_, rfl⟩
  have hUl : U.length ≤ 1000003 := by rw [← hU]; simp; omega
  have hp2 : U ++ d2 = d3 := by rw [hp, ← hU]; simp
  have ha1 : ∀ W, (Op.stringOp .add (str d1) { data := #[32, 59, 32] }).run Tryd.prog W = .ok (.string (str U)) W := fun W => by rw [← hU]; exact run_add_str d1 [32, 59, 32] (by simp; omega) W
  have ha2 : ∀ W, (Op.stringOp .add (str U) (str d2)).run Tryd.prog W = .ok (.string (str d3)) W := fun W => by rw [← hp2]; exact run_add_str U d2 (by omega) W
  have R1 := Lib.hid r1
  have R2 := Lib.hid r2
  have HB10 := Lib.hid hb10
  have hle : l1.length ≤ cp := by omega
  have hmx4 : cp ≤ 9223372036854775807 := by have : maxLen ≤ 9223372036854775807 := by decide
                                             omega
  clear hj1 hj2 hj4 hb10 hT10 hp hc hd hrt hsm hsm2 i1 i2 hz1 hz2 hz3 he1 he2 he3 hd1 hd2 hd3 hU hUl hp2 r1 r2 b10 hn3 hmx3 hi3 hi1 hi2 hb8 q1 q2 g1 p1 p2 ok2 gl2 hn2 hy2 b8 HI1 HG1 HC2 HB4 HB6 HT HR y0 y1 y2 y3 y4
  have hLl : L.length = L.length := rfl
  clear hLl hL hlen
  go_wp2_with (first | (at_builtin; refine wpList_app R1.out rfl rfl rfl rfl rfl ?_) | (at_builtin; refine wpList_app R2.out rfl rfl rfl rfl rfl ?_))
  have HX := Lib.hid (Below.refl w10.heap.size w10)
  refine (KC3.out _ HX.out).mono ?_
  rintro e u0 ⟨rfl, bu⟩
  have HX := Lib.hid (HX.out.trans (bu.mono HX.out.size))
  clear bu
  go_wp2_with fail
  refine (KC1.out _ HX.out).mono ?_
  rintro e u1 ⟨rfl, bu⟩
  have HX := Lib.hid (HX.out.trans (bu.mono HX.out.size))
  clear bu
  go_wp2_with fail
  refine (KC2.out _ HX.out).mono ?_
  rintro e u2 ⟨rfl, bu⟩
  have HX := Lib.hid (HX.out.trans (bu.mono HX.out.size))
  clear bu
  go_wp2_with fail
  refine (KP3.out _ HX.out).mono ?_
  rintro e u3 ⟨rfl, bu⟩
  have HX := Lib.hid (HX.out.trans (bu.mono HX.out.size))
  clear bu
  go_wp2_with fail
  refine (KP1.out _ HX.out).mono ?_
  rintro e u4 ⟨rfl, bu⟩
  have HX := Lib.hid (HX.out.trans (bu.mono HX.out.size))
  clear bu
  go_wp2_with fail
  refine (KP2.out _ HX.out).mono ?_
  rintro e u5 ⟨rfl, bu⟩
  have HX := Lib.hid (HX.out.trans (bu.mono HX.out.size))
  clear bu
  go_wp2_with fail
  refine (KR3.out _ HX.out).mono ?_
  rintro e u6 ⟨rfl, bu⟩
  have HX := Lib.hid (HX.out.trans (bu.mono HX.out.size))
  clear bu
  go_wp2_with fail
  refine (KD3.out _ HX.out).mono ?_
  rintro e u7 ⟨rfl, bu⟩
  have HX := Lib.hid (HX.out.trans (bu.mono HX.out.size))
  clear bu
  go_wp2_with fail
  refine (KD1.out _ HX.out).mono ?_
  rintro e u8 ⟨rfl, bu⟩
  have HX := Lib.hid (HX.out.trans (bu.mono HX.out.size))
  clear bu
  go_wp2_with fail
  refine (KD2.out _ HX.out).mono ?_
  rintro e u9 ⟨rfl, bu⟩
  have HX := Lib.hid (HX.out.trans (bu.mono HX.out.size))
  clear bu
  go_wp2_with fail
  refine (KS4.out _ HX.out).mono ?_
  rintro e u10 ⟨rfl, bu⟩
  have HX := Lib.hid (HX.out.trans (bu.mono HX.out.size))
  clear bu
  go_wp2_with fail
  refine (KR0.out _ HX.out).mono ?_
  rintro e u11 ⟨rfl, bu⟩
  have HX := Lib.hid (HX.out.trans (bu.mono HX.out.size))
  clear bu
  go_wp2_with fail
  refine (KS3.out _ HX.out).mono ?_
  rintro e u12 ⟨rfl, bu⟩
  have HX := Lib.hid (HX.out.trans (bu.mono HX.out.size))
  clear bu
  go_wp2_with fail
  go_ret
  exact ⟨rfl, HB10.out.trans (HX.out.mono HB10.out.size)⟩
end Go.Proofs.YtbdfehgofnomhaaDoor
