/- ValueTells' walk, where 'own' is false. -/
import Derived.Test.YtbhjimlikffalaaDoorVrAll
import Derived.BigQuiet
namespace Go.Proofs.YtbhjimlikffalaaDoor
open Go.RowKit
set_option linter.unusedVariables false

set_option maxRecDepth 100000 in
set_option maxHeartbeats 32000000 in
theorem tells_F (a b x y : Int) (ha : in64 a) (hb : in64 b) (hx : 0 ≤ x ∧ x ≤ 255) (hy : 0 ≤ y ∧ y ≤ 255) (t0 : ET) (x1 : Option Addr) (len1 cap1 : Nat) (z1 : List Int) (x2 : Option Addr) (len2 cap2 : Nat) (z2 : List Int) (w : World) (hin : t0.In w) (hkl : Kl t0)
    (r1 : IsRow .u8 w x1 len1 cap1 z1) (hz1 : ∀ n ∈ z1, 0 ≤ n ∧ n ≤ 255) (r2 : IsRow .i64 w x2 len2 cap2 z2) (hz2 : ∀ n ∈ z2, in64 n) (hT : Tabs8 w) :
    Calls Tryd.prog 5 #[.int .i64 a, .int .i64 b, .int .u8 x, .int .u8 y, .agg #[.int .i64 t0.k, .string (str t0.op), .int .i64 t0.n, .string (str t0.v), .string (str t0.f), .slice t0.A t0.ks.length t0.c], .bool false, .slice x1 len1 cap1, .slice x2 len2 cap2] w fun e w' => e = .returned (.bool true) ∧ Below w.heap.size w w' := by
  obtain ⟨W0, hW0⟩ : ∃ W0, w.alloc (.cells #[.int .i64 t0.k, .string (str t0.op), .int .i64 t0.n, .string (str t0.v), .string (str t0.f), .slice t0.A t0.ks.length t0.c] 24) = W0 := ⟨_, rfl⟩
  have b0 : Below w.heap.size w W0 := by rw [← hW0]; exact step1 _ _
  have hx0 : Has W0 w.heap.size 24 #[.int .i64 t0.k, .string (str t0.op), .int .i64 t0.n, .string (str t0.v), .string (str t0.f), .slice t0.A t0.ks.length t0.c] := by rw [← hW0]; exact has_at rfl rfl
  obtain ⟨a', ha', hna⟩ := near_any a x ha hx
  obtain ⟨b', hb', hnb⟩ := near_any b y hb hy
  have HEX := Lib.hid (ex8_any W0 (hT.below b0))
  have HX0 := Lib.hid hx0
  have HB0 := Lib.hid b0
  have HT := Lib.hid hT
  have HW0 := Lib.hid hW0
  have HNA := Lib.hid hna
  have HNB := Lib.hid hnb
  have HIN := Lib.hid (And.intro hin hkl)
  have HR1 := Lib.hid (And.intro r1 hz1)
  have HR2 := Lib.hid (And.intro r2 hz2)
  have HX := Lib.hid hx
  obtain ⟨⟨s0, o0⟩, hs0⟩ : ∃ p, addV a' b' = p := ⟨_, rfl⟩
  have HP0 : Hid (∀ u, Calls Tryd.prog 19 #[.int .i64 a', .int .i64 b'] u fun e w' => e = .returned (.tuple #[.int .i64 s0, .bool o0]) ∧ u = w') := Lib.hid fun u => by have h := add_any a' b' ha' hb' u; rw [hs0] at h; exact h
  have HQ0 : Hid (∀ u, Calls Tryd.prog 20 #[.int .i64 a', .int .i64 b'] u fun e w' => e = .returned (.tuple #[.int .i64 s0, .bool o0]) ∧ u = w') := Lib.hid fun u => by have h := radd_any a' b' ha' hb' u; rw [hs0] at h; exact h
  clear hs0
  obtain ⟨⟨s1, o1⟩, hs1⟩ : ∃ p, subV a' b' = p := ⟨_, rfl⟩
  have HP1 : Hid (∀ u, Calls Tryd.prog 21 #[.int .i64 a', .int .i64 b'] u fun e w' => e = .returned (.tuple #[.int .i64 s1, .bool o1]) ∧ u = w') := Lib.hid fun u => by have h := sub_any a' b' ha' hb' u; rw [hs1] at h; exact h
  have HQ1 : Hid (∀ u, Calls Tryd.prog 22 #[.int .i64 a', .int .i64 b'] u fun e w' => e = .returned (.tuple #[.int .i64 s1, .bool o1]) ∧ u = w') := Lib.hid fun u => by have h := rsub_any a' b' ha' hb' u; rw [hs1] at h; exact h
  clear hs1
  obtain ⟨⟨s2, o2⟩, hs2⟩ : ∃ p, mulV a' b' = p := ⟨_, rfl⟩
  have HP2 : Hid (∀ u, Calls Tryd.prog 23 #[.int .i64 a', .int .i64 b'] u fun e w' => e = .returned (.tuple #[.int .i64 s2, .bool o2]) ∧ u = w') := Lib.hid fun u => by have h := mul_any a' b' ha' hb' u; rw [hs2] at h; exact h
  have HQ2 : Hid (∀ u, Calls Tryd.prog 24 #[.int .i64 a', .int .i64 b'] u fun e w' => e = .returned (.tuple #[.int .i64 s2, .bool o2]) ∧ u = w') := Lib.hid fun u => by have h := rmul_any a' b' ha' hb' u; rw [hs2] at h; exact h
  clear hs2
  obtain ⟨⟨s3, o3⟩, hs3⟩ : ∃ p, divV a' b' = p := ⟨_, rfl⟩
  have HP3 : Hid (∀ u, Calls Tryd.prog 25 #[.int .i64 a', .int .i64 b'] u fun e w' => e = .returned (.tuple #[.int .i64 s3, .bool o3]) ∧ u = w') := Lib.hid fun u => by have h := div_any a' b' ha' u; rw [hs3] at h; exact h
  have HQ3 : Hid (∀ u, Calls Tryd.prog 26 #[.int .i64 a', .int .i64 b'] u fun e w' => e = .returned (.tuple #[.int .i64 s3, .bool o3]) ∧ u = w') := Lib.hid fun u => by have h := rdiv_any a' b' ha' hb' u; rw [hs3] at h; exact h
  clear hs3
  obtain ⟨⟨s4, o4⟩, hs4⟩ : ∃ p, remV a' b' = p := ⟨_, rfl⟩
  have HP4 : Hid (∀ u, Calls Tryd.prog 27 #[.int .i64 a', .int .i64 b'] u fun e w' => e = .returned (.tuple #[.int .i64 s4, .bool o4]) ∧ u = w') := Lib.hid fun u => by have h := rem_any a' b' ha' hb' u; rw [hs4] at h; exact h
  have HQ4 : Hid (∀ u, Calls Tryd.prog 28 #[.int .i64 a', .int .i64 b'] u fun e w' => e = .returned (.tuple #[.int .i64 s4, .bool o4]) ∧ u = w') := Lib.hid fun u => by have h := rrem_any a' b' ha' hb' u; rw [hs4] at h; exact h
  clear hs4
  obtain ⟨j, hj⟩ : ∃ j : Nat, y % 4 = (j : Int) := ⟨(y % 4).toNat, by omega⟩
  have hKm : y.tmod 4 = (j : Int) := by rw [Int.tmod_eq_emod_of_nonneg hy.1]; exact hj
  have hj4 : j < 4 := by omega
  have hjI : (j : Int) < 4 := by omega
  have hjz : (0 : Int) ≤ (j : Int) := by omega
  obtain ⟨fld, hfld⟩ := fld_at j hj4
  have HF := Lib.hid hfld
  clear hx0 b0 hT hW0 hna hnb hin hkl r1 r2 hz1 hz2 ha hb hfld hj
  go_enter Tryd.func5, Tryd.ntmps5
  go_wp2_with fail
  rw [HW0.out]
  refine HEX.out.mono ?_
  rintro e w1 ⟨rfl, b1⟩
  go_wp2_with fail
  refine (HNA.out w1).mono ?_
  rintro e w2 ⟨rfl, b2⟩
  go_wp2_with fail
  refine (HNB.out w2).mono ?_
  rintro e w3 ⟨rfl, b3⟩
  have b13 := (b1.trans (b2.mono b1.size)).trans (b3.mono (Nat.le_trans b1.size b2.size))
  have hx3 := HX0.out.below b13 HX0.out.lt
  have bw3 := HB0.out.trans (b13.mono HB0.out.size)
  have HB3 := Lib.hid bw3
  have HX3 := Lib.hid hx3
  clear b1 b2 b3 b13 hx3 bw3 HB0 HX0 HEX HNA HNB HW0
  obtain ⟨t, ht⟩ : ∃ t, t0 = t := ⟨_, rfl⟩
  rw [ht] at HIN HX3
  have HI5 := Lib.hid (And.intro (HIN.out.1.below HB3.out) HIN.out.2)
  clear ht HIN HR1
  go_wp2_with fail
  generalize w3 = w5 at HB3 HX3 HI5 ⊢
  have HB5 := HB3
  have HX5 := HX3
  clear HB3 HX3
  refine (binds_any x2 len2 cap2 z2 x HX.out.1 HX.out.2 w5 (HR2.out.1.below HB5.out) HR2.out.2).mono ?_
  rintro e w6 ⟨A, c, bl, rfl, hBl, h64, hbl8, b6⟩
  have hbcap := hBl.cap
  have HBD := Lib.hid hBl
  have H64 := Lib.hid h64
  have HL8 := Lib.hid hbl8
  have HB6 := Lib.hid (HB5.out.trans (b6.mono HB5.out.size))
  have HX6 := Lib.hid (HX5.out.below b6 HX5.out.lt)
  have HI6 := Lib.hid (And.intro (HI5.out.1.below b6) HI5.out.2)
  clear hBl h64 hbl8 b6 HB5 HX5 HI5 HR2 HX
  go_wp2_with fail
  refine (refBinds_any bl A c w6 HBD.out (by have := HL8.out; omega)).mono ?_
  rintro e w7 ⟨A', c', rfl, hBr, b7⟩
  have HB7 := Lib.hid (HB6.out.trans (b7.mono HB6.out.size))
  have HX7 := Lib.hid (HX6.out.below b7 HX6.out.lt)
  have HI7 := Lib.hid (And.intro (HI6.out.1.below b7) HI6.out.2)
  have HBD7 := Lib.hid (And.intro (HBD.out.below b7) hBr)
  obtain ⟨q0, q1, q2, q3, q4, q5⟩ : six w7 w.heap.size t.k t.op t.n t.v t.f t.A t.ks.length t.c := six_has HX7.out
  clear hBr b7 HB6 HX6 HI6 HBD
  obtain ⟨⟨n6, ok6⟩, h6⟩ : ∃ p, evV bl t = p := ⟨_, rfl⟩
  have HE6 := Lib.hid h6
  have hev := eval_any H64.out t w7 HI7.out.1 (HT.out.below HB7.out) HBD7.out.1
  rw [h6, two] at hev
  have HEV : Hid (Calls Tryd.prog 29 #[.agg #[.int .i64 t.k, .string (str t.op), .int .i64 t.n, .string (str t.v), .string (str t.f), .slice t.A t.ks.length t.c], .slice A bl.length c] w7 fun e w' => e = .returned (.tuple #[.int .i64 n6, .bool ok6]) ∧ Below w7.heap.size w7 w') := Lib.hid hev
  clear h6 hev
  go_wp2_with (first
    | (go_at_call 19; refine (HP0.out _).mono ?_; rintro e wn ⟨rfl, rfl⟩)
    | (go_at_call 20; refine (HQ0.out _).mono ?_; rintro e wn ⟨rfl, rfl⟩)
    | (go_at_call 21; refine (HP1.out _).mono ?_; rintro e wn ⟨rfl, rfl⟩)
    | (go_at_call 22; refine (HQ1.out _).mono ?_; rintro e wn ⟨rfl, rfl⟩)
    | (go_at_call 23; refine (HP2.out _).mono ?_; rintro e wn ⟨rfl, rfl⟩)
    | (go_at_call 24; refine (HQ2.out _).mono ?_; rintro e wn ⟨rfl, rfl⟩)
    | (go_at_call 25; refine (HP3.out _).mono ?_; rintro e wn ⟨rfl, rfl⟩)
    | (go_at_call 26; refine (HQ3.out _).mono ?_; rintro e wn ⟨rfl, rfl⟩)
    | (go_at_call 27; refine (HP4.out _).mono ?_; rintro e wn ⟨rfl, rfl⟩)
    | (go_at_call 28; refine (HQ4.out _).mono ?_; rintro e wn ⟨rfl, rfl⟩)
    | (go_at_call 29; refine HEV.out.mono ?_; rintro e w8 ⟨rfl, b8⟩; obtain ⟨r0, r1', r2', r3, r4, r5⟩ : six w8 w.heap.size t.k t.op t.n t.v t.f t.A t.ks.length t.c := six_has (HX7.out.below b8 HX7.out.lt)))
  have HB8 := Lib.hid (HB7.out.trans (b8.mono HB7.out.size))
  have HX8 := Lib.hid (HX7.out.below b8 HX7.out.lt)
  have HI8 := Lib.hid (And.intro (HI7.out.1.below b8) HI7.out.2)
  have HBD8 := Lib.hid (And.intro (HBD7.out.1.below b8) (HBD7.out.2.below b8))
  clear q0 q1 q2 q3 q4 q5 r0 r1' r2' r3 r4 r5 b8 HB7 HX7 HI7 HBD7 HEV HP0 HP1 HP2 HP3 HP4 HQ0 HQ1 HQ2 HQ3 HQ4
  have hrx := refExpr_any t w8 HI8.out.1 HI8.out.2
  rw [show t.val = Value.agg #[.int .i64 t.k, .string (str t.op), .int .i64 t.n, .string (str t.v), .string (str t.f), .slice t.A t.ks.length t.c] from rfl] at hrx
  refine hrx.mono ?_
  clear hrx
  rintro e w9 ⟨t', rfl, er', nw', b9⟩
  simp only [cs1]
  have hre := rEval_any H64.out (HBD8.out.2.below b9) t' w9 nw'.in_ (Below.refl _ _)
  rw [ev_same er', HE6.out, two, show t'.val = Value.agg #[.int .i64 t'.k, .string (str t'.op), .int .i64 t'.n, .string (str t'.v), .string (str t'.f), .slice t'.A t'.ks.length t'.c] from rfl] at hre
  have HRE := Lib.hid hre
  have HB9 := Lib.hid (HB8.out.trans (b9.mono HB8.out.size))
  have HX9 := Lib.hid (HX8.out.below b9 HX8.out.lt)
  have HI9 := Lib.hid (And.intro (HI8.out.1.below b9) HI8.out.2)
  have HBD9 := Lib.hid (And.intro (HBD8.out.1.below b9) (HBD8.out.2.below b9))
  clear hre er' nw' b9 HB8 HX8 HI8 HBD8
  go_wp2_with fail
  refine HRE.out.mono ?_
  rintro e w10 ⟨rfl, b10⟩
  obtain ⟨W10, hW10⟩ : ∃ u, w10.alloc (.cells #[.string { data := #[107] }, .string { data := #[120] }, .string { data := #[121] }, .string { data := #[] }] 9) = u := ⟨_, rfl⟩
  have fcell : ∀ (u : World), (u.alloc (.cells #[.string { data := #[107] }, .string { data := #[120] }, .string { data := #[121] }, .string { data := #[] }] 9)).cell? ⟨u.heap.size, j, none⟩ = some (.string (str fld)) := fun u => by
    obtain ⟨b, off, e, hc⟩ := (strs_new u fldL 9 (by decide)).shape (by decide)
    cases e
    have := hc j hj4
    rw [Nat.zero_add] at this
    have e1 : (fldL[j]'hj4) = fld := Option.some.inj ((List.getElem?_eq_getElem hj4).symm.trans HF.out)
    exact this.trans (congrArg (fun s => some (Value.string (str s))) e1)
  have HFC := Lib.hid fcell
  have s10 : Below w10.heap.size w10 W10 := by rw [← hW10]; exact step1 _ _
  have fc10 := fcell w10
  rw [hW10] at fc10
  have b10' := b10.trans (s10.mono b10.size)
  have HB10 := Lib.hid (HB9.out.trans (b10'.mono HB9.out.size))
  have HX10 := Lib.hid (HX9.out.below b10' HX9.out.lt)
  have HI10 := Lib.hid (And.intro (HI9.out.1.below b10') HI9.out.2)
  have HBD10 := Lib.hid (And.intro (HBD9.out.1.below b10') (HBD9.out.2.below b10'))
  clear fcell s10 b10 b10' HB9 HX9 HI9 HBD9 HRE
  obtain ⟨⟨n7, ok7⟩, h7⟩ : ∃ p, lookV bl [97] fld = p := ⟨_, rfl⟩
  have hlk := look_any A c bl [97] fld W10 HBD10.out.1
  rw [h7, two] at hlk
  have HLK := Lib.hid hlk
  have H7 := Lib.hid h7
  clear hlk h7
  go_wp2_with fail
  refine HLK.out.mono ?_
  rintro e w11 ⟨rfl, b11⟩
  obtain ⟨W11, hW11⟩ : ∃ u, w11.alloc (.cells #[.string { data := #[107] }, .string { data := #[120] }, .string { data := #[121] }, .string { data := #[] }] 9) = u := ⟨_, rfl⟩
  have s11 : Below w11.heap.size w11 W11 := by rw [← hW11]; exact step1 _ _
  have fc11 := HFC.out w11
  rw [hW11] at fc11
  have b11' := b11.trans (s11.mono b11.size)
  have HB11 := Lib.hid (HB10.out.trans (b11'.mono HB10.out.size))
  have HX11 := Lib.hid (HX10.out.below b11' HX10.out.lt)
  have HI11 := Lib.hid (And.intro (HI10.out.1.below b11') HI10.out.2)
  have HBD11 := Lib.hid (And.intro (HBD10.out.1.below b11') (HBD10.out.2.below b11'))
  have hlk2 := rlook_any A' c' bl [97] fld W11 HBD11.out.2
  rw [H7.out, two] at hlk2
  have HLK2 := Lib.hid hlk2
  clear s11 b11 b11' hlk2 hW10 fc10 HLK HB10 HX10 HI10 HBD10 HFC
  go_wp2_with fail
  refine HLK2.out.mono ?_
  rintro e w12 ⟨rfl, rfl⟩
  clear hW11 fc11 HLK2
  obtain ⟨hv, hhv⟩ : ∃ b, holdsV bl t = b := ⟨_, rfl⟩
  have HH : Hid (∀ u, Below W11.heap.size W11 u → Calls Tryd.prog 34 #[.agg #[.int .i64 t.k, .string (str t.op), .int .i64 t.n, .string (str t.v), .string (str t.f), .slice t.A t.ks.length t.c], .slice A bl.length c] u fun e w' => e = .returned (.bool hv) ∧ Below u.heap.size u w') := Lib.hid fun u hu => by
    have h := holds_any H64.out t u (HI11.out.1.below hu) ((HT.out.below HB11.out).below hu) (HBD11.out.1.below hu)
    rw [hhv] at h
    exact h
  have HRX : Hid (∀ u, Below W11.heap.size W11 u → Calls Tryd.prog 31 #[.agg #[.int .i64 t.k, .string (str t.op), .int .i64 t.n, .string (str t.v), .string (str t.f), .slice t.A t.ks.length t.c]] u fun e w' => (∃ t' : ET, e = .returned (.agg (cs1 t')) ∧ t'.er = t.er ∧ t'.In w') ∧ Below u.heap.size u w') := Lib.hid fun u hu => (refExpr_any t u (HI11.out.1.below hu) HI11.out.2).mono fun e w' ⟨t', h1, h2, h3, h4⟩ => ⟨⟨t', h1, h2, h3.in_⟩, h4⟩
  have HRH : Hid (∀ (t' : ET), t'.er = t.er → ∀ u, t'.In u → Below W11.heap.size W11 u → Calls Tryd.prog 35 #[.agg #[.int .i64 t'.k, .string (str t'.op), .int .i64 t'.n, .string (str t'.v), .string (str t'.f), .slice t'.A t'.ks.length t'.c], .slice A' bl.length c'] u fun e w' => e = .returned (.bool hv) ∧ Below u.heap.size u w') := Lib.hid fun t' he u hi hu => by
    have h := rHolds_any H64.out (HBD11.out.2) t' u hi hu
    rw [holds_same he, hhv] at h
    exact h
  have HSX : Hid (∀ u, Below W11.heap.size W11 u → six u w.heap.size t.k t.op t.n t.v t.f t.A t.ks.length t.c) := Lib.hid fun u hu => six_has (HX11.out.below hu HX11.out.lt)
  clear hhv HBD11 HI11 HX11 HT H64 HL8 H7 HE6 HF
  go_upto_region 26 with fail
  go_cut [50] from 51 to 231 (fun v wr => v = .bool true ∧ W11 = wr)
  case first =>
    go_wp2_with fail
    go_meet
    exact ⟨rfl, rfl⟩
  case rest =>
  obtain ⟨rfl, rfl⟩ := hcut
  go_upto_region 27 with fail
  have bx := Lib.hid ((Below.refl W11.heap.size W11).drew)
  go_region_held3 (fun w' => w'.cell? ⟨w.heap.size, 0, none⟩ = some (.int .i64 t.k) ∧ w'.cell? ⟨w.heap.size, 1, none⟩ = some (.string (str t.op)) ∧ w'.cell? ⟨w.heap.size, 2, none⟩ = some (.int .i64 t.n) ∧ w'.cell? ⟨w.heap.size, 3, none⟩ = some (.string (str t.v)) ∧ w'.cell? ⟨w.heap.size, 4, none⟩ = some (.string (str t.f)) ∧ w'.cell? ⟨w.heap.size, 5, none⟩ = some (.slice t.A t.ks.length t.c))
    (exact HSX.out _ bx.out)
    (first
      | (go_at_call 34; refine (HH.out _ bx.out).mono ?_; rintro e wz ⟨rfl, bz⟩; (first | (have hI9 := Lib.hid (hI.out.below bz); clear hI; have hI := hI9) | skip); have bx := Lib.hid (bx.out.trans (bz.mono bx.out.size)); clear bz)
      | (go_at_call 31; refine (HRX.out _ bx.out).mono ?_; rintro e wz ⟨⟨t9, rfl, er9, in9⟩, bz⟩; simp only [cs1]; have hI := Lib.hid in9; have hE := Lib.hid er9; have bx := Lib.hid (bx.out.trans (bz.mono bx.out.size)); clear bz in9 er9)
      | (go_at_call 35; refine (HRH.out t9 hE.out _ hI.out bx.out).mono ?_; rintro e wz ⟨rfl, bz⟩; have bx := Lib.hid (bx.out.trans (bz.mono bx.out.size)); clear bz hI hE)
      | (go_at_call 36; refine (rops_any _).mono ?_; rintro e wz ⟨A9, rfl, -, bz⟩; have bx := Lib.hid (bx.out.trans (bz.mono bx.out.size)); clear bz))
  all_goals
    go_wp2_with fail
    go_ret
    exact ⟨rfl, HB11.out.trans (bx.out.mono HB11.out.size)⟩
end Go.Proofs.YtbhjimlikffalaaDoor
