/- Layer 9: put of a choice, of lists; Right and Same of queries. -/
import Derived.Test.YtbdfehgofnomhaaDoorPaPut0
import Derived.Test.YtbdfehgofnomhaaDoorPaPut1
import Derived.Test.YtbdfehgofnomhaaDoorPaPut2
import Derived.Test.YtbdfehgofnomhaaDoorPaRight
import Derived.Test.YtbdfehgofnomhaaDoorPaSame
namespace Go.Proofs.YtbdfehgofnomhaaDoor
open Go.RowKit
set_option linter.unusedVariables false

theorem putL_of {w0 : World} {B b : Nat} (hB : w0.heap.size ≤ B) (l : List IT) (A : Option Addr) (c : Nat) (hcap : l.length ≤ 9223372036854775807) (hl : Its w0 A l) (ih : ∀ t ∈ l, PutI w0 B b t) (acc : Nm) (w : World) (hps : PS w0 B b acc w) (hlen : acc.length + (putIs l).length ≤ 100000000) :
    Calls Tryd.prog 20 #[.slice A l.length c, .pointer (some ⟨b, 0, none⟩)] w fun e w' => e = .returned (.tuple #[]) ∧ PS w0 B b (acc ++ putIs l) w' ∧ OK b w w' := by
  have hc : Calls Tryd.prog 38 #[.slice A l.length c, .string { data := #[32, 59, 32] }, .pointer (some ⟨b, 0, none⟩), .func (Fn.func 39) #[] #[]] w fun e w' => e = .returned (.tuple #[]) ∧ PS w0 B b (acc ++ putIs l) w' ∧ OK b w w' := putAllI_any hB l A c hcap hl ih [32, 59, 32] rfl acc w hps hlen
  have HC := Lib.hid hc
  clear hc ih hl hps hlen
  go_enter Tryd.func20, Tryd.ntmps20
  go_wp2_with (go_at_call 38; refine HC.out.mono ?_; rintro e w1 ⟨rfl, p1, o1⟩)
  go_end0
  exact ⟨rfl, p1, o1⟩
set_option maxHeartbeats 8000000 in
theorem putI_3 {w0 : World} {B b : Nat} (hB : w0.heap.size ≤ B) (nm vr : Nm) (pA : Option Addr) (pc : Nat) (ps : List ET) (lo hi : Int) (kA : Option Addr) (kc : Nat) (kp : List (Option Addr × Nat)) (ks : List (List IT)) (hin : IT.In w0 (.mk 3 nm vr pA pc ps lo hi kA kc kp ks)) (ih : ∀ l ∈ ks, ∀ t ∈ l, PutI w0 B b t) : PutI w0 B b (.mk 3 nm vr pA pc ps lo hi kA kc kp ks) := by
  intro l w hps hlen
  rw [putI_mk, if_pos rfl] at hlen ⊢
  have okk := okS_cap hin.ok.2.2.2.2.2.2
  have hall : ∀ (acc : Nm) (w' : World), PS w0 B b acc w' → acc.length + (putKs ks).length ≤ 100000000 → Calls Tryd.prog 54 #[.slice kA ks.length kc, .string { data := #[32, 124, 32] }, .pointer (some ⟨b, 0, none⟩), .func (Fn.func 20) #[] #[]] w' fun e w'' => e = .returned (.tuple #[]) ∧ PS w0 B b (acc ++ putKs ks) w'' ∧ OK b w' w'' := fun acc w' hp hl2 =>
    putAllK_any hB ks kp kA kc okk hin.kds (fun j h1 h2 acc2 w2 hp2 hl3 => putL_of hB ks[j] kp[j].1 kp[j].2 (okS_cap (hin.kids j h1 h2).1.2) (hin.kds.2 j h1 h2).2 (ih _ (List.getElem_mem h1)) acc2 w2 hp2 hl3) [32, 124, 32] rfl acc w' hp hl2
  obtain ⟨pm, hpm⟩ : ∃ pm, ps.length = pm := ⟨_, rfl⟩
  obtain ⟨W, hW⟩ : ∃ W, W = w.alloc (.cells #[.int .i64 3, .string (str nm), .string (str vr), .slice pA pm pc, .int .i64 lo, .int .i64 hi, .slice kA ks.length kc] 42) := ⟨_, rfl⟩
  have bl : Below w.heap.size w W := by rw [hW]; exact (Below.refl _ _).alloc (Nat.le_refl _) _
  have hx : Has W w.heap.size 42 #[.int .i64 3, .string (str nm), .string (str vr), .slice pA pm pc, .int .i64 lo, .int .i64 hi, .slice kA ks.length kc] := by rw [hW]; exact heap_alloc_new w _
  have pW := hps.below bl
  obtain ⟨v, hv⟩ : ∃ v, putKs ks = v := ⟨_, rfl⟩
  rw [hv] at hall hlen ⊢
  have hl2 : l.length + v.length + 2 ≤ 100000000 := by simp at hlen; omega
  have HNB := Lib.hid (show w.heap.size ≠ b by have := bld_lt hps.1; omega)
  have HW := Lib.hid hW
  have HX := Lib.hid hx
  have HPW := Lib.hid pW
  have H6 := Lib.hid (ok_below (b := b) bl)
  have HAL := Lib.hid hall
  have HL2 := Lib.hid hl2
  have HB := Lib.hid hB
  obtain ⟨y0, y1, y2, y3, y4, y5, y6⟩ := seven_has hx
  show Calls _ _ #[.agg #[.int .i64 3, .string (str nm), .string (str vr), .slice pA ps.length pc, .int .i64 lo, .int .i64 hi, .slice kA ks.length kc], _] _ _
  rw [hpm]
  clear hW hx bl pW hps hall hlen hin ih hB hv hl2 hpm
  go_enter Tryd.func39, Tryd.ntmps39
  go_wp2_with fail
  rw [← HW.out]
  refine (ps_byte (c := 40) HB.out HPW.out (by have := HL2.out; omega)).mono ?_
  rintro e w1 ⟨rfl, p1, o1⟩
  have HX1 := Lib.hid (box_okI o1 HX.out HNB.out)
  have HO1 := Lib.hid (H6.out.trans o1)
  clear y0 y1 y2 y3 y4 y5 y6 o1
  obtain ⟨y0, y1, y2, y3, y4, y5, y6⟩ := seven_has HX1.out
  have HP1 := Lib.hid p1
  clear p1
  go_wp2_with fail
  refine (HAL.out _ w1 HP1.out (by have := HL2.out; simp; omega)).mono ?_
  rintro e w2 ⟨rfl, p2, o2⟩
  have HO2 := Lib.hid (HO1.out.trans o2)
  clear o2
  go_wp2_with fail
  refine (ps_byte (c := 41) HB.out p2 (by have := HL2.out; simp; omega)).mono ?_
  rintro e w3 ⟨rfl, p3, o3⟩
  go_wp2_with fail
  refine bodyPost_ret (v := .tuple #[]) (results_none rfl _ _ _) rfl ?_
  exact ⟨rfl, by simpa using p3, HO2.out.trans o3⟩
/-- put of an item that is right. -/
theorem putI_any {w0 : World} {B b : Nat} (hB : w0.heap.size ≤ B) (hT : Tabs w0) : ∀ t : IT, t.In w0 → rightI t = true → PutI w0 B b t := by
  refine IT.ind fun k nm vr pA pc ps lo hi kA kc kp ks ih hin hr => ?_
  rcases itm_kinds hr with ⟨rfl, _, _, _, _, _, _, hk⟩ | ⟨hk, hn, hv, hp, hpr, hk0, h1, h2⟩
  · refine putI_3 hB nm vr pA pc ps lo hi kA kc kp ks hin fun l hl t ht => ?_
    obtain ⟨j, hj, rfl⟩ := List.getElem_of_mem hl
    obtain ⟨i, hi, rfl⟩ := List.getElem_of_mem ht
    exact ih _ (List.getElem_mem _) _ (List.getElem_mem _) ((hin.kids j hj (by rw [hin.len]; exact hj)).2 i hi).2 (rightIs_all (rightKs_all hk _ hl) _ ht)
  · rcases hk with rfl | rfl | rfl
    · exact putI_0 hB hT nm vr pA pc ps lo hi kA kc kp ks hin hpr
    · obtain ⟨a1, a2, a3⟩ := h1 rfl
      exact putI_1 hB hT nm vr pA pc ps lo hi kA kc kp ks hin hpr a1 a2 a3
    · exact putI_2 hB hT nm vr pA pc ps lo hi kA kc kp ks hin hpr
theorem putL_any {w0 : World} {B b : Nat} (hB : w0.heap.size ≤ B) (hT : Tabs w0) (l : List IT) (A : Option Addr) (c : Nat) (hcap : l.length ≤ 9223372036854775807) (hl : Its w0 A l) (hr : rightIs l = true) (acc : Nm) (w : World) (hps : PS w0 B b acc w) (hlen : acc.length + (putIs l).length ≤ 100000000) :
    Calls Tryd.prog 20 #[.slice A l.length c, .pointer (some ⟨b, 0, none⟩)] w fun e w' => e = .returned (.tuple #[]) ∧ PS w0 B b (acc ++ putIs l) w' ∧ OK b w w' :=
  putL_of hB l A c hcap hl (fun t ht => by
    have h1 := rightIs_all hr t ht
    obtain ⟨i, hi, rfl⟩ := List.getElem_of_mem ht
    exact putI_any hB hT _ (hl i hi).2 h1) acc w hps hlen
/-- PutItems of what is right. -/
theorem putIs_any (l : List IT) (A : Option Addr) (c : Nat) (w : World) (hcap : l.length ≤ 9223372036854775807) (hl : Its w A l) (hT : Tabs w) (hr : rightIs l = true) (hlen : (putIs l).length ≤ 100000000) :
    Calls Tryd.prog 13 #[.slice A l.length c] w fun e w' => e = .returned (.string (str (putIs l))) ∧ Below w.heap.size w w' := by
  have hc := rightL_any l A c w hcap hl hT
  rw [hr] at hc
  have hp : ∀ (w1 : World), Below w.heap.size w w1 → Calls Tryd.prog 20 #[.slice A l.length c, .pointer (some ⟨w1.heap.size, 0, none⟩)] (w1.alloc (.cells #[.pointer none, .slice none 0 0] 52)) fun e w' => e = .returned (.tuple #[]) ∧ PS w w1.heap.size w1.heap.size (putIs l) w' := fun w1 hb => by
    have := putL_any (w0 := w) (B := w1.heap.size) (b := w1.heap.size) hb.size hT l A c hcap hl hr [] (w1.alloc (.cells #[.pointer none, .slice none 0 0] 52)) ⟨Lib.IsBuilderF.of (Lib.fresh_isBuilder _ _ w1), hb.alloc hb.size _, by simp⟩ (by simpa using hlen)
    exact this.mono fun e w' h => ⟨h.1, by simpa using h.2.1⟩
  obtain ⟨d, hd⟩ : ∃ d, putIs l = d := ⟨_, rfl⟩
  rw [hd] at hp ⊢
  have HC := Lib.hid hc
  have HP := Lib.hid hp
  clear hc hp hl hT hr hlen hd
  go_enter Tryd.func13, Tryd.ntmps13
  go_wp2_with fail
  refine HC.out.mono ?_
  rintro e w1 ⟨rfl, b1⟩
  have HB1 := Lib.hid b1
  clear b1
  go_wp2_with fail
  refine (HP.out w1 HB1.out).mono ?_
  rintro e w2 ⟨rfl, p2⟩
  go_wp2_with fail
  refine (bstr_any _ _ d w2 p2.1 p2.2.2).mono ?_
  rintro e w3 ⟨rfl, h1, h2, h3⟩
  go_wp2_with fail
  go_ret
  exact ⟨rfl, p2.2.1.trans (h2.mono HB1.out.size)⟩
/-- A query's value. -/
abbrev qv (A : Option Addr) (m c : Nat) (n : Int) (by_ : Nm) : Value := .agg #[.slice A m c, .int .i64 n, .string (str by_)]
theorem three_has {w : World} {q : Nat} {t : TypeId} {u0 u1 u2 : Value} (h : Has w q t #[u0, u1, u2]) : w.cell? ⟨q, 0, none⟩ = some u0 ∧ w.cell? ⟨q, 1, none⟩ = some u1 ∧ w.cell? ⟨q, 2, none⟩ = some u2 := ⟨h.cell 0, h.cell 1, h.cell 2⟩
set_option maxHeartbeats 4000000 in
theorem rightQ_any (l : List IT) (A : Option Addr) (c : Nat) (n : Int) (y : Nm) (w : World) (hcap : l.length ≤ 9223372036854775807) (hl : Its w A l) (hT : Tabs8 w) (hy : y.length ≤ 140737488355328) :
    Calls Tryd.prog 9 #[qv A l.length c n y] w fun e w' => e = .returned (.bool (rightQ l n y)) ∧ Below w.heap.size w w' := by
  obtain ⟨R, hR⟩ : ∃ R, rightQ l n y = R := ⟨_, rfl⟩
  rw [hR]
  rw [rightQ] at hR
  obtain ⟨m, hm⟩ : ∃ m, l.length = m := ⟨_, rfl⟩
  obtain ⟨W, hW⟩ : ∃ W, W = w.alloc (.cells #[.slice A m c, .int .i64 n, .string (str y)] 24) := ⟨_, rfl⟩
  have bl : Below w.heap.size w W := by rw [hW]; exact (Below.refl _ _).alloc (Nat.le_refl _) _
  have hx : Has W w.heap.size 24 #[.slice A m c, .int .i64 n, .string (str y)] := by rw [hW]; exact heap_alloc_new w _
  have hc := rightL_any l A c W hcap (hl.below bl) (hT.below bl)
  have hN : ∀ w', Below W.heap.size W w' → Calls Tryd.prog 19 #[.string (str y)] w' fun e w'' => e = .returned (.bool (nameB y)) ∧ Below w'.heap.size w' w'' := fun w' hb => isName_any y w' (by omega) ((hT.below bl).below hb)
  rw [hm] at hc ⊢
  obtain ⟨rb, hrb⟩ : ∃ rb, rightIs l = rb := ⟨_, rfl⟩
  obtain ⟨nb, hnb⟩ : ∃ nb, nameB y = nb := ⟨_, rfl⟩
  rw [hrb] at hc hR
  rw [hnb] at hN hR
  have ey := str_toList y
  have HR := Lib.hid hR
  have HC := Lib.hid hc
  have HN := Lib.hid hN
  have HW := Lib.hid hW
  have HX := Lib.hid hx
  have HB := Lib.hid bl
  clear hR hc hN hW hx bl hl hT hm hrb hnb
  unfold qv
  cases rb with
  | false =>
    go_enter Tryd.func9, Tryd.ntmps9
    go_wp2_with (go_at_call 14; rw [← HW.out]; refine HC.out.mono ?_; rintro e w1 ⟨rfl, b1⟩)
    go_ret
    exact ⟨ret_bool (by rw [← HR.out]; rfl), HB.out.trans (b1.mono HB.out.size)⟩
  | true =>
    by_cases h0 : 0 ≤ n
    case neg =>
      have d0 : decide ((0 : Int) ≤ n) = false := by simpa using h0
      have HE : Hid (R = false) := Lib.hid (by rw [← HR.out, decide_eq_false (fun h => h0 h.1)]; simp)
      clear h0
      go_enter Tryd.func9, Tryd.ntmps9
      go_wp2_with (go_at_call 14; rw [← HW.out]; refine HC.out.mono ?_; rintro e w1 ⟨rfl, b1⟩; obtain ⟨y0, y1, y2⟩ := three_has (HX.out.below b1 HX.out.lt))
      go_ret
      exact ⟨ret_bool HE.out.symm, HB.out.trans (b1.mono HB.out.size)⟩
    by_cases h1 : n ≤ 1000000000
    case neg =>
      have d0 : decide ((0 : Int) ≤ n) = true := by simpa using h0
      have d1 : decide (n ≤ (1000000000 : Int)) = false := by simpa using h1
      have HE : Hid (R = false) := Lib.hid (by rw [← HR.out, decide_eq_false (fun h => h1 h.2)]; simp)
      clear h0 h1
      go_enter Tryd.func9, Tryd.ntmps9
      go_wp2_with (go_at_call 14; rw [← HW.out]; refine HC.out.mono ?_; rintro e w1 ⟨rfl, b1⟩; obtain ⟨y0, y1, y2⟩ := three_has (HX.out.below b1 HX.out.lt))
      go_ret
      exact ⟨ret_bool HE.out.symm, HB.out.trans (b1.mono HB.out.size)⟩
    have d0 : decide ((0 : Int) ≤ n) = true := by simpa using h0
    have d1 : decide (n ≤ (1000000000 : Int)) = true := by simpa using h1
    by_cases hy0 : y = []
    · subst hy0
      have HE : Hid (R = true) := Lib.hid (by rw [← HR.out, decide_eq_true ⟨h0, h1⟩]; simp)
      clear h0 h1
      go_enter Tryd.func9, Tryd.ntmps9
      go_wp2_with (go_at_call 14; rw [← HW.out]; refine HC.out.mono ?_; rintro e w1 ⟨rfl, b1⟩; obtain ⟨y0, y1, y2⟩ := three_has (HX.out.below b1 HX.out.lt))
      go_ret
      exact ⟨ret_bool HE.out.symm, HB.out.trans (b1.mono HB.out.size)⟩
    · have d2 : ((str y).toList == []) = false := by rw [ey]; simpa using hy0
      have HE : Hid (R = nb) := Lib.hid (by rw [← HR.out, decide_eq_true ⟨h0, h1⟩, decide_eq_false hy0]; simp)
      clear h0 h1 hy0 ey
      go_enter Tryd.func9, Tryd.ntmps9
      go_wp2_with (first | (go_at_call 14; rw [← HW.out]; refine HC.out.mono ?_; rintro e w1 ⟨rfl, b1⟩; obtain ⟨y0, y1, y2⟩ := three_has (HX.out.below b1 HX.out.lt)) | (go_at_call 19; refine (HN.out _ b1).mono ?_; rintro e w2 ⟨rfl, b2⟩))
      go_ret
      exact ⟨ret_bool (by simp [HE.out]), HB.out.trans ((b1.trans (b2.mono b1.size)).mono HB.out.size)⟩
set_option maxHeartbeats 4000000 in
theorem sameQ_any (l m : List IT) (A A' : Option Addr) (c c' : Nat) (n n' : Int) (y y' : Nm) (w : World) (hcap : l.length ≤ 9223372036854775807) (hl : Its w A l) (hm : Its w A' m) :
    Calls Tryd.prog 11 #[qv A l.length c n y, qv A' m.length c' n' y'] w fun e w' => e = .returned (.bool (sameQ l n y m n' y')) ∧ Below w.heap.size w w' := by
  obtain ⟨R, hR⟩ : ∃ R, sameQ l n y m n' y' = R := ⟨_, rfl⟩
  rw [hR]
  rw [sameQ] at hR
  obtain ⟨x1, x2, x3⟩ := two_new w #[.slice A l.length c, .int .i64 n, .string (str y)] #[.slice A' m.length c', .int .i64 n', .string (str y')] 24 24
  obtain ⟨W, hW⟩ : ∃ W, W = (w.alloc (.cells #[.slice A l.length c, .int .i64 n, .string (str y)] 24)).alloc (.cells #[.slice A' m.length c', .int .i64 n', .string (str y')] 24) := ⟨_, rfl⟩
  rw [← hW] at x1 x2 x3
  have hc := sameL_any l m A A' c c' W hcap (hl.below x3) (hm.below x3)
  obtain ⟨sb, hsb⟩ : ∃ sb, sameIs l m = sb := ⟨_, rfl⟩
  rw [hsb] at hc hR
  have e1 := str_toList y
  have e2 := str_toList y'
  have HR := Lib.hid hR
  have HC := Lib.hid hc
  have HW := Lib.hid hW
  have HX := Lib.hid x3
  clear hR hc hW x1 x2 x3 hl hm hsb
  unfold qv
  have bl : ∀ o1 o2, Below w.heap.size w ((w.alloc o1).alloc o2) := fun o1 o2 => ((Below.refl _ _).alloc (Nat.le_refl _) _).alloc (by simp) _
  have HBL := Lib.hid bl
  clear bl
  by_cases h1 : n = n'
  case neg =>
    have d1 : (n == n') = false := by simpa using h1
    have HE : Hid (R = false) := Lib.hid (by rw [← HR.out, decide_eq_false h1]; simp)
    clear h1
    go_enter Tryd.func11, Tryd.ntmps11
    go_wp2_with fail
    go_ret
    exact ⟨ret_bool HE.out.symm, HBL.out _ _⟩
  subst h1
  by_cases h2 : y = y'
  case neg =>
    have d2 : ((str y).toList == (str y').toList) = false := by rw [e1, e2]; simpa using h2
    have HE : Hid (R = false) := Lib.hid (by rw [← HR.out, decide_eq_false h2]; simp)
    clear h2 e1 e2
    go_enter Tryd.func11, Tryd.ntmps11
    go_wp2_with fail
    go_ret
    exact ⟨ret_bool HE.out.symm, HBL.out _ _⟩
  subst h2
  have HE : Hid (R = sb) := Lib.hid (by rw [← HR.out]; simp)
  go_enter Tryd.func11, Tryd.ntmps11
  go_wp2_with (go_at_call 16; rw [← HW.out]; refine HC.out.mono ?_; rintro e w1 ⟨rfl, b1⟩)
  go_ret
  exact ⟨ret_bool (by simp [HE.out]), HX.out.trans (b1.mono HX.out.size)⟩
end Go.Proofs.YtbdfehgofnomhaaDoor
