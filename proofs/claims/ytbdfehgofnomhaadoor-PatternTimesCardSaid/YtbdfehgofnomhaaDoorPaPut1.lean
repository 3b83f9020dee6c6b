/- Layer 9: put of a Times. -/
import Derived.Test.YtbdfehgofnomhaaDoorPaPutA
import Derived.Test.YtbdfehgofnomhaaDoorPaItoa
import Derived.Test.YtbdfehgofnomhaaDoorPaLen
namespace Go.Proofs.YtbdfehgofnomhaaDoor
open Go.RowKit
set_option linter.unusedVariables false

set_option maxHeartbeats 16000000 in
theorem putI_1 {w0 : World} {B b : Nat} (hB : w0.heap.size ≤ B) (hT : Tabs w0) (nm vr : Nm) (pA : Option Addr) (pc : Nat) (ps : List ET) (lo hi : Int) (kA : Option Addr) (kc : Nat) (kp : List (Option Addr × Nat)) (ks : List (List IT)) (hin : IT.In w0 (.mk 1 nm vr pA pc ps lo hi kA kc kp ks)) (hpr : ps.all rightT = true) (hlo1 : 1 ≤ lo) (hlohi : lo ≤ hi) (hhi4 : hi ≤ 4) : PutI w0 B b (.mk 1 nm vr pA pc ps lo hi kA kc kp ks) := by
  intro l w hps hlen
  rw [putI_mk, if_neg (by omega)] at hlen ⊢
  have okp := okS_cap hin.ok.2.2.2.2.2.1
  have hin2 : Ets w0 pA ps := fun j hj => hin.preds j hj
  obtain ⟨T, hTT⟩ : ∃ T, l ++ (([] : Nm) ++ (nm ++ ([32] ++ (vr ++ (rng lo hi ++ prd ps))))) = T := ⟨_, rfl⟩
  have hg : l ++ ((if (1 : Int) = 2 then [33] else []) ++ (nm ++ ([32] ++ (vr ++ ((if (1 : Int) = 1 then rng lo hi else []) ++ prd ps))))) = T := by rw [← hTT]; rfl
  have hTl : T.length ≤ 100000000 := by rw [← hg]; simpa using hlen
  rw [hg]
  obtain ⟨u, hu⟩ : ∃ u, nm ++ [32] = u := ⟨_, rfl⟩
  obtain ⟨d, hd⟩ : ∃ d, u ++ vr = d := ⟨_, rfl⟩
  have lu : u.length = nm.length + 1 := by rw [← hu]; simp
  have ld : d.length = u.length + vr.length := by rw [← hd]; simp
  have hTd : T = (l ++ ([] : Nm)) ++ (d ++ (rng lo hi ++ prd ps)) := by rw [← hTT, ← hd, ← hu]; simp
  have hrl : (rng lo hi).length = 5 := by rw [rng]; simp [itoa1 hlo1 (by omega), itoa1 (n := hi) (by omega) hhi4]
  have lall : l.length + d.length + 5 ≤ 100000000 := by rw [hTd] at hTl; simp at hTl; omega
  have ha1 : ∀ W, (Op.stringOp .add (str nm) { data := #[32] }).run Tryd.prog W = .ok (.string (str u)) W := fun W => by rw [← hu]; exact run_add_str nm [32] (by simp; omega) W
  have ha2 : ∀ W, (Op.stringOp .add (str u) (str vr)).run Tryd.prog W = .ok (.string (str d)) W := fun W => by rw [← hd]; exact run_add_str u vr (by omega) W
  obtain ⟨W, hW⟩ : ∃ W, W = w.alloc (.cells #[.int .i64 1, .string (str nm), .string (str vr), .slice pA ps.length pc, .int .i64 lo, .int .i64 hi, .slice kA ks.length kc] 42) := ⟨_, rfl⟩
  have bl : Below w.heap.size w W := by rw [hW]; exact (Below.refl _ _).alloc (Nat.le_refl _) _
  have hx : Has W w.heap.size 42 #[.int .i64 1, .string (str nm), .string (str vr), .slice pA ps.length pc, .int .i64 lo, .int .i64 hi, .slice kA ks.length kc] := by rw [hW]; exact heap_alloc_new w _
  have pW := hps.below bl
  have HNB := Lib.hid (show w.heap.size ≠ b by have := bld_lt hps.1; omega)
  have HW := Lib.hid hW
  have HX := Lib.hid hx
  have HPW := Lib.hid pW
  have H6 := Lib.hid (ok_below (b := b) bl)
  have HTD := Lib.hid hTd
  have HTL := Lib.hid hTl
  have HLA := Lib.hid lall
  have HPS := Lib.hid hin2
  have HPR := Lib.hid hpr
  have HT := Lib.hid hT
  have HB := Lib.hid hB
  obtain ⟨y0, y1, y2, y3, y4, y5, y6⟩ := seven_has hx
  obtain ⟨km, hkm⟩ : ∃ km, ks.length = km := ⟨_, rfl⟩
  show Calls _ _ #[.agg #[.int .i64 1, .string (str nm), .string (str vr), .slice pA ps.length pc, .int .i64 lo, .int .i64 hi, .slice kA ks.length kc], _] _ _
  rw [hkm] at HW HX y6 ⊢
  clear hW hx bl pW hps hTd hTl lall hin2 hpr hT hB hTT hg hlen hin hu hd lu ld hkm
  go_enter Tryd.func39, Tryd.ntmps39
  go_wp2_with fail
  rw [← HW.out]
  have HX1 := HX
  have HO1 := H6
  have HP1 : Hid (PS w0 B b (l ++ []) W) := Lib.hid (by rw [List.append_nil]; exact HPW.out)
  refine (ps_str HB.out d HP1.out (by have := HLA.out; simp; omega) (by have := HLA.out; omega)).mono ?_
  rintro e w2 ⟨rfl, p2, o2⟩
  have HX2 := Lib.hid (box_okI o2 HX1.out HNB.out)
  have HO2 := Lib.hid (HO1.out.trans o2)
  have HP2 := Lib.hid p2
  clear y0 y1 y2 y3 y4 y5 y6 o2 p2
  obtain ⟨y0, y1, y2, y3, y4, y5, y6⟩ := seven_has HX2.out
  go_wp2_with fail
  obtain ⟨r1, hr1⟩ : ∃ r, [123] ++ Lib.itoa lo = r := ⟨_, rfl⟩
  obtain ⟨r2, hr2⟩ : ∃ r, r1 ++ [44] = r := ⟨_, rfl⟩
  obtain ⟨r3, hr3⟩ : ∃ r, r2 ++ Lib.itoa hi = r := ⟨_, rfl⟩
  obtain ⟨r4, hr4⟩ : ∃ r, r3 ++ [125] = r := ⟨_, rfl⟩
  have i1 := itoa1 hlo1 (by omega : lo ≤ 4)
  have i2 := itoa1 (n := hi) (by omega) hhi4
  have q1 : r1.length = 2 := by rw [← hr1]; simp [i1]
  have q2 : r2.length = 3 := by rw [← hr2]; simp [q1]
  have q3 : r3.length = 4 := by rw [← hr3]; simp [q2, i2]
  have q4 : r4.length = 5 := by rw [← hr4]; simp [q3]
  have hrr : r4 = rng lo hi := by rw [← hr4, ← hr3, ← hr2, ← hr1, rng]; simp
  have HC1 := Lib.hid (itoa4_any lo hlo1 (by omega))
  have HC2 := Lib.hid (itoa4_any hi (by omega) hhi4)
  obtain ⟨s1, hs1⟩ : ∃ s, Lib.itoa lo = s := ⟨_, rfl⟩
  obtain ⟨s2, hs2⟩ : ∃ s, Lib.itoa hi = s := ⟨_, rfl⟩
  rw [hs1] at HC1 hr1 i1
  rw [hs2] at HC2 hr3 i2
  have hb1 : ∀ W, (Op.stringOp .add { data := #[123] } (str s1)).run Tryd.prog W = .ok (.string (str r1)) W := fun W => by rw [← hr1]; exact run_add_str [123] s1 (by simp [i1]) W
  have hb2 : ∀ W, (Op.stringOp .add (str r1) { data := #[44] }).run Tryd.prog W = .ok (.string (str r2)) W := fun W => by rw [← hr2]; exact run_add_str r1 [44] (by simp [q1]) W
  have hb3 : ∀ W, (Op.stringOp .add (str r2) (str s2)).run Tryd.prog W = .ok (.string (str r3)) W := fun W => by rw [← hr3]; exact run_add_str r2 s2 (by simp [q2, i2]) W
  have hb4 : ∀ W, (Op.stringOp .add (str r3) { data := #[125] }).run Tryd.prog W = .ok (.string (str r4)) W := fun W => by rw [← hr4]; exact run_add_str r3 [125] (by simp [q3]) W
  have HRR4 := Lib.hid hrr
  have hps4 : ∀ w', PS w0 B b (l ++ ([] : Nm) ++ d) w' → Calls Tryd.prog 21 #[.pointer (some ⟨b, 0, none⟩), .string (str r4)] w' fun e w'' => e = .returned (.tuple #[.int .i64 r4.length, .nilIface]) ∧ PS w0 B b (l ++ ([] : Nm) ++ d ++ r4) w'' ∧ OK b w' w'' := fun w' hp => ps_str HB.out r4 hp (by have := HLA.out; simp; omega) (by rw [q4]; omega)
  have HPS4 := Lib.hid hps4
  have HQ4 := Lib.hid q4
  clear hrl hr1 hr2 hr3 hr4 i1 i2 q1 q2 q3 q4 hrr hs1 hs2 hps4 hlo1 hlohi hhi4
  go_region_held3 (fun w' => w'.cell? ⟨w.heap.size, 4, none⟩ = some (.int .i64 lo) ∧ w'.cell? ⟨w.heap.size, 5, none⟩ = some (.int .i64 hi)) (first | exact ⟨y4, y5⟩ | exact ⟨k4, k5⟩) (first
    | (go_at_call 55; refine (HC1.out _).mono ?_; rintro e w' ⟨rfl, rfl⟩)
    | (go_at_call 55; refine (HC2.out _).mono ?_; rintro e w' ⟨rfl, rfl⟩)
    | (go_at_call 21; refine (HPS4.out _ (HP2.out.below ((Below.refl _ _).drew))).mono ?_; rintro e w3 ⟨rfl, p3, o3⟩; have HX3 := Lib.hid (box_okI o3 (HX2.out.below (Below.refl _ w2).drew HX2.out.lt) HNB.out); obtain ⟨k0, k1, k2, k3, k4, k5, k6⟩ := seven_has HX3.out))
  have HP3 := Lib.hid p3
  have HO3 := Lib.hid (HO2.out.trans ((ok_below (b := b) ((Below.refl _ w2).drew)).trans o3))
  have hEq : (l ++ ([] : Nm) ++ d ++ r4) ++ prd ps = T := by rw [HTD.out, HRR4.out]; simp
  clear y0 y1 y2 y3 y4 y5 y6 p3 o3
  obtain ⟨t0, ht0⟩ : ∃ t0, l ++ ([] : Nm) ++ d ++ r4 = t0 := ⟨_, rfl⟩
  rw [ht0] at HP3 hEq
  have HEQ := Lib.hid hEq
  clear hEq ht0 HP2 HO2 HX2 HC1 HC2 HPS4
  go_wp2_with fail
  go_loopw [48] (fun i wr => ∃ (k : Nat) (t : Nm), k ≤ ps.length ∧ i = .int .i64 k ∧ PS w0 B b t wr ∧ t ++ prd (ps.drop k) = T ∧ OK b w wr) (fun i _ => ps.length - (intOf i).toNat)
  case atStart => exact ⟨0, t0, Nat.zero_le _, rfl, HP3.out, HEQ.out, HO3.out⟩
  case round =>
    obtain ⟨j, t, hj, rfl, hps, hrest, hok⟩ := hrel
    have HRR := Lib.hid hrest
    have HPP := Lib.hid hps
    have HOK := Lib.hid hok
    clear hrest hps hok
    by_cases hlt : j < ps.length
    · obtain ⟨⟨b', off, rfl, g0, g1, g2, g3, g4, g5⟩, hkin⟩ := HPS.out j hlt
      have gg : ∀ (p : Addr) v, w0.cell? p = some v → wr.cell? p = some v := below_imp HPP.out.2.1
      replace g0 := gg _ _ g0
      replace g1 := gg _ _ g1
      replace g2 := gg _ _ g2
      replace g3 := gg _ _ g3
      replace g4 := gg _ _ g4
      replace g5 := gg _ _ g5
      clear gg
      have hd := drop_at hlt
      have hrx := List.all_eq_true.1 HPR.out ps[j] (List.getElem_mem _)
      obtain ⟨x, hx⟩ : ∃ x, ps[j] = x := ⟨_, rfl⟩
      rw [hx] at g0 g1 g2 g3 g4 g5 hd hkin hrx
      obtain ⟨W2, hW2⟩ : ∃ W2, W2 = wr.alloc (.cells #[.int .i64 x.k, .string (str x.op), .int .i64 x.n, .string (str x.v), .string (str x.f), .slice x.A x.ks.length x.c] 47) := ⟨_, rfl⟩
      have bl2 : Below wr.heap.size wr W2 := by rw [hW2]; exact (Below.refl _ _).alloc (Nat.le_refl _) _
      have pW2 := HPP.out.below bl2
      have hR2 : T = t ++ ([91] ++ (putT 0 x ++ ([93] ++ prd (ps.drop (j + 1))))) := by rw [← HRR.out, hd, prd]
      have hlx : t.length + (putT 0 x).length + 2 ≤ 100000000 := by have := HTL.out; rw [hR2] at this; simp at this; omega
      have hcl := putE_any x W2 (ET.In.below hkin pW2.2.1) (HT.out.below pW2.2.1) hrx (by omega)
      rw [show x.val = Value.agg #[.int .i64 x.k, .string (str x.op), .int .i64 x.n, .string (str x.v), .string (str x.f), .slice x.A x.ks.length x.c] from rfl] at hcl
      obtain ⟨v, hv⟩ : ∃ v, putT 0 x = v := ⟨_, rfl⟩
      rw [hv] at hcl hR2 hlx
      obtain ⟨v1, hv1⟩ : ∃ v1, [91] ++ v = v1 := ⟨_, rfl⟩
      obtain ⟨v2, hv2⟩ : ∃ v2, v1 ++ [93] = v2 := ⟨_, rfl⟩
      have l1 : v1.length = v.length + 1 := by rw [← hv1]; simp
      have l2 : v2.length = v1.length + 1 := by rw [← hv2]; simp
      have hR3 : (t ++ v2) ++ prd (ps.drop (j + 1)) = T := by rw [hR2, ← hv2, ← hv1]; simp
      have hc1 : ∀ W, (Op.stringOp .add { data := #[91] } (str v)).run Tryd.prog W = .ok (.string (str v1)) W := fun W => by rw [← hv1]; exact run_add_str [91] v (by simp; omega) W
      have hc2 : ∀ W, (Op.stringOp .add (str v1) { data := #[93] }).run Tryd.prog W = .ok (.string (str v2)) W := fun W => by rw [← hv2]; exact run_add_str v1 [93] (by simp; omega) W
      have HC := Lib.hid hcl
      have HW2 := Lib.hid hW2
      have HPW2 := Lib.hid pW2
      have HOW2 := Lib.hid (HOK.out.trans (ok_below (b := b) bl2))
      have HR3 := Lib.hid hR3
      have HLX := Lib.hid hlx
      have HL2 := Lib.hid (And.intro l1 l2)
      clear hcl hW2 pW2 bl2 hR2 hR3 hlx hv hv1 hv2 l1 l2 hkin hrx hd hx
      go_wp2_with fail
      rw [← HW2.out]
      refine HC.out.mono ?_
      rintro e w4 ⟨rfl, b4⟩
      have HP4 := Lib.hid (HPW2.out.below b4)
      have HO4 := Lib.hid (HOW2.out.trans (ok_below (b := b) b4))
      clear b4
      go_wp2_with fail
      refine (ps_str HB.out v2 HP4.out (by have := HLX.out; omega) (by have := HLX.out; have := HL2.out; omega)).mono ?_
      rintro e w5 ⟨rfl, p5, o5⟩
      go_wp2_with fail
      go_roundw
      case rel => exact ⟨j + 1, t ++ v2, by omega, by go_num, p5, HR3.out, HO4.out.trans o5⟩
      case measure => simp [intOf]; omega
    · have HE : Hid (t = T) := Lib.hid (by have := HRR.out; rw [List.drop_eq_nil_of_le (by omega)] at this; simpa [prd] using this)
      go_wp2
      go_end0
      exact ⟨rfl, by rw [← HE.out]; exact HPP.out, HOK.out⟩
end Go.Proofs.YtbdfehgofnomhaaDoor
