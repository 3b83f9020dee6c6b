/- One word: what number and token tell. -/
import Derived.Test.YtblpbgknnnpamaaDoorLxIsName
import Derived.Deep.RegionHeld3
import Derived.BigQuiet
import Derived.StillTailTactics
namespace Go.Proofs.YtblpbgknnnpamaaDoor
open Go.RowKit
set_option linter.unusedVariables false

theorem str_get (l : Nm) (k : Nat) (h : k < (str l).size) : (str l)[k]'h = l.getD k 0 := by
  have hk : k < l.length := by rw [← str_size]; exact h
  have : (str l)[k]'h = l[k] := by
    simp only [str, ByteArray.getElem_eq_getElem_data, List.getElem_toArray]
  rw [this]
  simp [List.getD, hk]
theorem below_drewN {B : Nat} {a w : World} (h : Below B a w) (n : Nat) : Below B a (w.drewN n) := ⟨h.os, h.tape, h.output, h.size, h.block⟩
set_option maxHeartbeats 1000000 in
theorem number_any (o : Nm) (w : World) (hs : o.length ≤ 281474976710656) (hT : Tabs w) :
    Calls Tryd.prog 31 #[.string (str o)] w fun e w' => ∃ v, e = .returned (.tuple #[.int .i64 v, .bool (numV o).isSome]) ∧ (∀ n, numV o = some n → v = n) ∧ Below w.heap.size w w' := by
  have hz := str_size o
  rw [numV_eq]
  by_cases h0 : 1 < o.length ∧ o.getD 0 0 = 48
  · rw [if_pos h0]
    obtain ⟨h1, h2⟩ := h0
    have d1 : decide ((o.length : Int) > 1) = true := by simp; omega
    have hg : ((str o)[0]'(by omega)).toNat = 48 := by rw [str_get, h2]; rfl
    clear h2
    go_enter Tryd.func31, Tryd.ntmps31
    go_wp2_with fail
    go_ret2
    exact ⟨0, rfl, (fun _ h => by cases h), Below.refl _ _⟩
  rw [if_neg h0]
  have hx : decide ((o.length : Int) > 1) = false ∨ (decide ((o.length : Int) > 1) = true ∧ ∃ (h : 0 < (str o).size) (z : Nat), ((str o)[0]'h).toNat = z ∧ ((z : Int) == 48) = false) := by
    by_cases h1 : 1 < o.length
    · refine .inr ⟨by simp; omega, by omega, _, rfl, ?_⟩
      rw [beq_eq_false_iff_ne]
      intro e
      refine h0 ⟨h1, ?_⟩
      rw [str_get] at e
      exact UInt8.toNat_inj.1 (by have : (48 : UInt8).toNat = 48 := rfl; omega)
    · exact .inl (by simp; omega)
  clear h0
  cases hv : parV o with
  | some v =>
    have hp := parse_some o v w hs hv
    rcases hx with d1 | ⟨d1, h, z, hz1, hz2⟩
    all_goals
      go_enter Tryd.func31, Tryd.ntmps31
      go_wp2_with fail
      refine hp.mono ?_
      rintro e w1 ⟨rfl, b1⟩
      go_wp2_with fail
      go_quiet (fail)
      go_wp2_with fail
      go_ret2
      exact ⟨v, rfl, (fun n h => by cases h; rfl), below_drewN b1 _⟩
  | none =>
    have hp := parse_none o w hs hv hT
    rcases hx with d1 | ⟨d1, h, z, hz1, hz2⟩
    all_goals
      go_enter Tryd.func31, Tryd.ntmps31
      go_wp2_with fail
      refine hp.mono ?_
      rintro e w1 ⟨v, t, x, rfl, b1⟩
      go_wp2_with fail
      go_quiet (fail)
      go_wp2_with fail
      go_ret2
      exact ⟨v, rfl, (fun n h => by cases h), below_drewN b1 _⟩
/-- What token tells of an open word. -/
def TokPost (k : Nat) (o : Nm) (p : Nat) (w : World) (e : Ending) (w' : World) : Prop :=
  (∃ (K : Nat) (n : Int) (b : Bool), e = .returned (.tuple #[.agg #[.int .i64 K, .string (str o), .int .i64 n, .int .i64 p], .bool b]) ∧ ((b = false ∧ close k o p = none) ∨ (b = true ∧ close k o p = some [⟨K, o, n, p⟩]))) ∧ Below w.heap.size w w'
theorem four {w : World} {q : Nat} {t : TypeId} {a b c d : Value} (h : Has w q t #[a, b, c, d]) : w.cell? ⟨q, 0, none⟩ = some a ∧ w.cell? ⟨q, 1, none⟩ = some b ∧ w.cell? ⟨q, 2, none⟩ = some c ∧ w.cell? ⟨q, 3, none⟩ = some d :=
  ⟨h.cell 0, h.cell 1, h.cell 2, h.cell 3⟩
theorem put4 {w : World} {q : Nat} {t : TypeId} {a b c d : Value} (h : Has w q t #[a, b, c, d]) (a' b' c' d' : Value) :
    Has ((((w.setCell ⟨q, 0, none⟩ a').setCell ⟨q, 1, none⟩ b').setCell ⟨q, 2, none⟩ c').setCell ⟨q, 3, none⟩ d') q t #[a', b', c', d'] := (((h.put 0 a').put 1 b').put 2 c').put 3 d'
theorem below4 {w w0 : World} {B q : Nat} (h : Below B w0 w) (hq : B ≤ q) (a b c d : Value) : Below B w0 ((((w.setCell ⟨q, 0, none⟩ a).setCell ⟨q, 1, none⟩ b).setCell ⟨q, 2, none⟩ c).setCell ⟨q, 3, none⟩ d) :=
  (((h.setCell (p := ⟨q, 0, none⟩) hq a).setCell (p := ⟨q, 1, none⟩) hq b).setCell (p := ⟨q, 2, none⟩) hq c).setCell (p := ⟨q, 3, none⟩) hq d
set_option maxHeartbeats 1000000 in
theorem token_key (o : Nm) (p : Nat) (w : World) (hk : o = wWithin ∨ o = wBy) :
    Calls Tryd.prog 24 #[.int .i64 1, .string (str o), .int .i64 p] w (TokPost 1 o p w) := by
  have hc : close 1 o p = some [⟨4, o, 0, p⟩] := by simp [close, hk]
  have HC := Lib.hid hc
  have e1 : ((str o).toList == [87, 73, 84, 72, 73, 78]) = decide (o = wWithin) := by rw [str_toList, Bool.eq_iff_iff, beq_iff_eq, decide_eq_true_iff]; rfl
  have e2 : ((str o).toList == [66, 89]) = decide (o = wBy) := by rw [str_toList, Bool.eq_iff_iff, beq_iff_eq, decide_eq_true_iff]; rfl
  clear hc
  by_cases h : o = wWithin
  · rw [decide_eq_true h] at e1
    clear hk h
    go_enter Tryd.func24, Tryd.ntmps24
    go_wp2_with fail
    refine bodyPost_ret (v := .tuple #[.agg #[.int .i64 4, .string (str o), .int .i64 0, .int .i64 p], .bool true]) (by simp [results, Tryd.results24, go_sem]) rfl ?_
    exact ⟨⟨4, 0, true, rfl, .inr ⟨rfl, HC.out⟩⟩, (Below.refl _ _).alloc (Nat.le_refl _) _⟩
  · rw [decide_eq_false h] at e1
    have h2 : o = wBy := hk.resolve_left h
    rw [decide_eq_true h2] at e2
    clear hk h h2
    go_enter Tryd.func24, Tryd.ntmps24
    go_wp2_with fail
    refine bodyPost_ret (v := .tuple #[.agg #[.int .i64 4, .string (str o), .int .i64 0, .int .i64 p], .bool true]) (by simp [results, Tryd.results24, go_sem]) rfl ?_
    exact ⟨⟨4, 0, true, rfl, .inr ⟨rfl, HC.out⟩⟩, (Below.refl _ _).alloc (Nat.le_refl _) _⟩
set_option maxHeartbeats 4000000 in
theorem token_name (o : Nm) (p : Nat) (w : World) (hk : ¬ (o = wWithin ∨ o = wBy)) (hs : o.length ≤ 281474976710656) (hT : Tabs w) :
    Calls Tryd.prog 24 #[.int .i64 1, .string (str o), .int .i64 p] w (TokPost 1 o p w) := by
  have hc : close 1 o p = if nameB o then some [⟨1, o, 0, p⟩] else none := by simp [close, hk]
  have HC := Lib.hid hc
  have e1 : ((str o).toList == [87, 73, 84, 72, 73, 78]) = false := by rw [str_toList, beq_eq_false_iff_ne]; exact fun h => hk (.inl h)
  have e2 : ((str o).toList == [66, 89]) = false := by rw [str_toList, beq_eq_false_iff_ne]; exact fun h => hk (.inr h)
  clear hc hk
  obtain ⟨W, hW⟩ : ∃ W, W = w.alloc (.cells #[.int .i64 1, .string (str o), .int .i64 0, .int .i64 p] 30) := ⟨_, rfl⟩
  have bW : Below w.heap.size w W := by rw [hW]; exact (Below.refl _ _).alloc (Nat.le_refl _) _
  have hA : Has W w.heap.size 30 #[.int .i64 1, .string (str o), .int .i64 0, .int .i64 p] := by rw [hW]; exact heap_alloc_new w _
  have HW := Lib.hid hW
  have HA := Lib.hid hA
  have HD : Hid (Has W.drew w.heap.size 30 #[.int .i64 1, .string (str o), .int .i64 0, .int .i64 p]) := Lib.hid hA
  clear hW hA
  have hTW := hT.below bW
  obtain ⟨b, hb⟩ : ∃ b, nameB o = b := ⟨_, rfl⟩
  have HN := Lib.hid hb
  clear hb
  go_enter Tryd.func24, Tryd.ntmps24
  go_wp2_with fail
  rw [← HW.out]
  have P3 : ∀ u : World, Has u w.heap.size 30 #[.int .i64 1, .string (str o), .int .i64 0, .int .i64 p] → Below w.heap.size w u → Hid (Below w.heap.size w ((((u.setCell ⟨w.heap.size, 0, none⟩ (.int .i64 1)).setCell ⟨w.heap.size, 1, none⟩ (.string (str o))).setCell ⟨w.heap.size, 2, none⟩ (.int .i64 0)).setCell ⟨w.heap.size, 3, none⟩ (.int .i64 p))) := fun u hu hb => Lib.hid (below4 hb (Nat.le_refl _) _ _ _ _)
  have HP := Lib.hid P3
  clear P3
  go_region_held3 (fun w' => w'.cell? ⟨w.heap.size, 0, none⟩ = some (.int .i64 1) ∧ w'.cell? ⟨w.heap.size, 1, none⟩ = some (.string (str o)) ∧ w'.cell? ⟨w.heap.size, 2, none⟩ = some (.int .i64 0) ∧ w'.cell? ⟨w.heap.size, 3, none⟩ = some (.int .i64 p))
    (first | with_reducible exact four HD.out | with_reducible exact four K3.out | with_reducible exact four (put4 K3.out _ _ _ _))
    ((go_at_call 11; refine (isName_any o _ (by omega) (hTW.below (Below.refl _ _).drew)).mono ?_; rw [HN.out]; rintro e w3 ⟨rfl, b3'⟩; have b3 : Below W.heap.size W w3 := (Below.refl _ W).drew.trans b3'; have K3 := Lib.hid (HA.out.below b3 HA.out.lt); have B3 := HP.out w3 K3.out (bW.trans (b3.mono bW.size)); have f0 := K3.out.free 0; have f1 := K3.out.free 1; have f2 := K3.out.free 2; have f3 := K3.out.free 3; clear b3' b3 e1 e2 hTW HA HD HP bW HW hT))
  go_wp2_with fail
  obtain ⟨r0, r1, r2, r3⟩ := four (put4 K3.out (.int .i64 1) (.string (str o)) (.int .i64 0) (.int .i64 p))
  refine bodyPost_ret (v := .tuple #[.agg #[.int .i64 1, .string (str o), .int .i64 0, .int .i64 p], .bool b]) (by simp [results, Tryd.results24, go_sem, r0, r1, r2, r3]) rfl ?_
  refine ⟨⟨1, 0, b, rfl, ?_⟩, B3.out⟩
  have hc := HC.out
  rw [HN.out] at hc
  cases b
  · exact .inl ⟨rfl, hc⟩
  · exact .inr ⟨rfl, hc⟩
set_option maxHeartbeats 1000000 in
theorem token_num (o : Nm) (p : Nat) (w : World) (hs : o.length ≤ 281474976710656) (hT : Tabs w) :
    Calls Tryd.prog 24 #[.int .i64 2, .string (str o), .int .i64 p] w (TokPost 2 o p w) := by
  have hc : close 2 o p = match numV o with | some n => some [⟨2, o, n, p⟩] | none => none := by unfold close; cases numV o <;> rfl
  have HC := Lib.hid hc
  clear hc
  obtain ⟨W, hW⟩ : ∃ W, W = w.alloc (.cells #[.int .i64 2, .string (str o), .int .i64 0, .int .i64 p] 30) := ⟨_, rfl⟩
  have bW : Below w.heap.size w W := by rw [hW]; exact (Below.refl _ _).alloc (Nat.le_refl _) _
  have hA : Has W w.heap.size 30 #[.int .i64 2, .string (str o), .int .i64 0, .int .i64 p] := by rw [hW]; exact heap_alloc_new w _
  have HW := Lib.hid hW
  have HA := Lib.hid hA
  clear hW hA
  have hTW := hT.below bW
  obtain ⟨b, hb⟩ : ∃ b, (numV o).isSome = b := ⟨_, rfl⟩
  have HN := Lib.hid hb
  clear hb
  go_enter Tryd.func24, Tryd.ntmps24
  go_wp2_with fail
  rw [← HW.out]
  refine (number_any o W hs hTW).mono ?_
  rw [HN.out]
  rintro e w3 ⟨v, rfl, hv, b3⟩
  have K3 := HA.out.below b3 HA.out.lt
  have HV := Lib.hid hv
  have B3 := bW.trans (b3.mono bW.size)
  obtain ⟨k0, k1, k2, k3⟩ := four K3
  have f0 := K3.free 0
  have f1 := K3.free 1
  have f2 := K3.free 2
  have f3 := K3.free 3
  have HK := Lib.hid K3
  clear K3 b3 hv HA HW
  go_wp2_with fail
  have K4 : Has (w3.setCell ⟨w.heap.size, 2, none⟩ (.int .i64 v)) w.heap.size 30 #[.int .i64 2, .string (str o), .int .i64 v, .int .i64 p] := HK.out.put 2 _
  obtain ⟨r0, r1, r2, r3⟩ := four (put4 K4 (.int .i64 2) (.string (str o)) (.int .i64 v) (.int .i64 p))
  refine bodyPost_ret (v := .tuple #[.agg #[.int .i64 2, .string (str o), .int .i64 v, .int .i64 p], .bool b]) (by simp [results, Tryd.results24, go_sem, r0, r1, r2, r3]) rfl ?_
  refine ⟨⟨2, v, b, rfl, ?_⟩, below4 (B3.setCell (p := ⟨w.heap.size, 2, none⟩) (Nat.le_refl _) _) (Nat.le_refl _) _ _ _ _⟩
  have hc := HC.out
  cases hn : numV o with
  | none =>
    rw [hn] at hc
    have hb := HN.out
    rw [hn] at hb
    exact .inl ⟨hb.symm, hc⟩
  | some n =>
    rw [hn] at hc
    have hb := HN.out
    rw [hn] at hb
    obtain rfl := HV.out n hn
    exact .inr ⟨hb.symm, hc⟩
set_option maxHeartbeats 4000000 in
theorem token_sign (o : Nm) (p : Nat) (w : World) (hs : o.length ≤ 281474976710656) (hT : Tabs w) :
    Calls Tryd.prog 24 #[.int .i64 3, .string (str o), .int .i64 p] w (TokPost 3 o p w) := by
  have hc : close 3 o p = if sgT.contains o then some [⟨3, o, 0, p⟩] else none := by simp [close]
  have HC := Lib.hid hc
  clear hc
  obtain ⟨W, hW⟩ : ∃ W, W = w.alloc (.cells #[.int .i64 3, .string (str o), .int .i64 0, .int .i64 p] 30) := ⟨_, rfl⟩
  have bW : Below w.heap.size w W := by rw [hW]; exact (Below.refl _ _).alloc (Nat.le_refl _) _
  have hA : Has W w.heap.size 30 #[.int .i64 3, .string (str o), .int .i64 0, .int .i64 p] := by rw [hW]; exact heap_alloc_new w _
  have HW := Lib.hid hW
  have HA := Lib.hid hA
  have HD : Hid (Has W.drew w.heap.size 30 #[.int .i64 3, .string (str o), .int .i64 0, .int .i64 p]) := Lib.hid hA
  clear hW hA
  obtain ⟨b, hb⟩ : ∃ b, sgT.contains o = b := ⟨_, rfl⟩
  have HN := Lib.hid hb
  have hl : sgT.length = 24 := rfl
  clear hb
  go_enter Tryd.func24, Tryd.ntmps24
  go_wp2_with fail
  rw [← HW.out]
  have P3 : ∀ u : World, Has u w.heap.size 30 #[.int .i64 3, .string (str o), .int .i64 0, .int .i64 p] → Below w.heap.size w u → Hid (Below w.heap.size w ((((u.setCell ⟨w.heap.size, 0, none⟩ (.int .i64 3)).setCell ⟨w.heap.size, 1, none⟩ (.string (str o))).setCell ⟨w.heap.size, 2, none⟩ (.int .i64 0)).setCell ⟨w.heap.size, 3, none⟩ (.int .i64 p))) := fun u hu hb => Lib.hid (below4 hb (Nat.le_refl _) _ _ _ _)
  have HP := Lib.hid P3
  clear P3
  go_region_held3 (fun w' => w'.cell? ⟨w.heap.size, 0, none⟩ = some (.int .i64 3) ∧ w'.cell? ⟨w.heap.size, 1, none⟩ = some (.string (str o)) ∧ w'.cell? ⟨w.heap.size, 2, none⟩ = some (.int .i64 0) ∧ w'.cell? ⟨w.heap.size, 3, none⟩ = some (.int .i64 p))
    (first | with_reducible exact four HD.out | with_reducible exact four K3.out | with_reducible exact four (put4 K3.out _ _ _ _))
    (first
      | (go_at_call 13; refine (signs_any _).mono ?_; rintro e w3 ⟨A, rfl, hS, b3'⟩; have b3 : Below W.heap.size W w3 := (Below.refl _ W).drew.trans b3'; have K3 := Lib.hid (HA.out.below b3 HA.out.lt); have B3 := HP.out w3 K3.out (bW.trans (b3.mono bW.size)); have f0 := K3.out.free 0; have f1 := K3.out.free 1; have f2 := K3.out.free 2; have f3 := K3.out.free 3; clear b3' b3 HA HD HP bW HW hT)
      | (go_at_call 32; refine (contains_any sgT A 24 o w3 hS).mono ?_; rw [HN.out]; rintro e w4 ⟨rfl, rfl⟩))
  go_wp2_with fail
  obtain ⟨r0, r1, r2, r3⟩ := four (put4 K3.out (.int .i64 3) (.string (str o)) (.int .i64 0) (.int .i64 p))
  refine bodyPost_ret (v := .tuple #[.agg #[.int .i64 3, .string (str o), .int .i64 0, .int .i64 p], .bool b]) (by simp [results, Tryd.results24, go_sem, r0, r1, r2, r3]) rfl ?_
  refine ⟨⟨3, 0, b, rfl, ?_⟩, B3.out⟩
  have hc := HC.out
  rw [HN.out] at hc
  cases b
  · exact .inl ⟨rfl, hc⟩
  · exact .inr ⟨rfl, hc⟩
theorem token_any (k : Nat) (o : Nm) (p : Nat) (w : World) (h0 : 1 ≤ k) (h3 : k ≤ 3) (hs : o.length ≤ 281474976710656) (hT : Tabs w) :
    Calls Tryd.prog 24 #[.int .i64 k, .string (str o), .int .i64 p] w (TokPost k o p w) := by
  obtain rfl | rfl | rfl : k = 1 ∨ k = 2 ∨ k = 3 := by omega
  · by_cases hk : o = wWithin ∨ o = wBy
    · exact token_key o p w hk
    · exact token_name o p w hk hs hT
  · exact token_num o p w hs hT
  · exact token_sign o p w hs hT
end Go.Proofs.YtblpbgknnnpamaaDoor
