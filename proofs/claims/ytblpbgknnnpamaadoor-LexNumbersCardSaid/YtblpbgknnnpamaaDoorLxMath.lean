/- The words of a text, as a relation; what is told rune by rune is just that. -/
import Derived.Test.YtblpbgknnnpamaaDoorLxRunes
namespace Go.Proofs.YtblpbgknnnpamaaDoor
set_option linter.unusedVariables false

/-- Digits, at least one. -/
def digs (w : Nm) : Prop := ∀ b ∈ w, 48 ≤ b.toNat ∧ b.toNat ≤ 57
/-- A word of this kind, with this number. -/
def Wd (k : Nat) (w : Nm) (n : Int) : Prop :=
  (k = 1 ∧ nameB w = true ∧ n = 0) ∨ (k = 4 ∧ (w = wWithin ∨ w = wBy) ∧ n = 0) ∨ (k = 2 ∧ w ≠ [] ∧ digs w ∧ numV w = some n) ∨ (k = 3 ∧ w ∈ sgT ∧ n = 0)
/-- The kind by the first rune. -/
def mk (k : Nat) : Nat := if k = 4 then 1 else k
/-- From the place p on the text l has these words. -/
inductive Lx : Nat → Nm → List Tok → Prop where
  | nil (p : Nat) : Lx p [] []
  | sp (p : Nat) (b : UInt8) (l : Nm) (ts : List Tok) (hb : spB (b.toNat : Int) = true) (h : Lx (p + 1) l ts) : Lx p (b :: l) ts
  | wd (p k : Nat) (w : Nm) (n : Int) (l : Nm) (ts : List Tok) (hw : Wd k w n) (hg : l = [] ∨ goes (mk k) w l = false) (h : Lx (p + w.length) l ts) : Lx p (w ++ l) (⟨k, w, n, p⟩ :: ts)

theorem name_key {w : Nm} (h : nameB w = true) : ¬ (w = wWithin ∨ w = wBy) := by
  rintro (rfl | rfl) <;> simp [nameB] at h
theorem name_ne {w : Nm} (h : nameB w = true) : w ≠ [] := by
  rintro rfl; simp [nameB] at h
theorem name_J {w : Nm} (h : nameB w = true) : J true w = true := by
  rw [nameB_J] at h
  simp only [Bool.and_eq_true] at h
  exact h.2
theorem key_J : J true wWithin = true ∧ J true wBy = true := by constructor <;> kernel_rfl
theorem Wd.ne {k : Nat} {w : Nm} {n : Int} (h : Wd k w n) : w ≠ [] := by
  rcases h with ⟨_, h, _⟩ | ⟨_, h | h, _⟩ | ⟨_, h, _⟩ | ⟨_, h, _⟩
  · exact name_ne h
  · rw [h]; simp [wWithin]
  · rw [h]; simp [wBy]
  · exact h
  · rintro rfl; revert h; decide
theorem Wd.close {k : Nat} {w : Nm} {n : Int} (h : Wd k w n) (p : Nat) : close (mk k) w p = some [⟨k, w, n, p⟩] := by
  rcases h with ⟨rfl, h, rfl⟩ | ⟨rfl, h, rfl⟩ | ⟨rfl, _, _, h⟩ | ⟨rfl, h, rfl⟩
  · simp [mk, Go.Proofs.YtblpbgknnnpamaaDoor.close, name_key h, h]
  · simp [mk, Go.Proofs.YtblpbgknnnpamaaDoor.close, h]
  · simp [mk, Go.Proofs.YtblpbgknnnpamaaDoor.close, h]
  · simp [mk, Go.Proofs.YtblpbgknnnpamaaDoor.close, h]
/-- What is closed is a word. -/
theorem close_wd {k : Nat} {o : Nm} {fr : Nat} {ts : List Tok} (hk : k ≤ 3) (h : close k o fr = some ts) (hd : k = 2 → o ≠ [] ∧ digs o) :
    (k = 0 ∧ ts = []) ∨ (k ≠ 0 ∧ ∃ k' n, mk k' = k ∧ Wd k' o n ∧ ts = [⟨k', o, n, fr⟩]) := by
  unfold close at h
  by_cases h0 : k = 0
  · rw [if_pos h0] at h
    exact .inl ⟨h0, (Option.some.inj h).symm⟩
  refine .inr ⟨h0, ?_⟩
  rw [if_neg h0] at h
  by_cases h1 : k = 1
  · rw [if_pos h1] at h
    by_cases hw : o = wWithin ∨ o = wBy
    · rw [if_pos hw] at h
      exact ⟨4, 0, by rw [h1]; rfl, .inr (.inl ⟨rfl, hw, rfl⟩), (Option.some.inj h).symm⟩
    · rw [if_neg hw] at h
      by_cases hn : nameB o = true
      · rw [if_pos hn] at h
        exact ⟨1, 0, by rw [h1]; rfl, .inl ⟨rfl, hn, rfl⟩, (Option.some.inj h).symm⟩
      · rw [if_neg hn] at h; cases h
  rw [if_neg h1] at h
  by_cases h2 : k = 2
  · rw [if_pos h2] at h
    cases hn : numV o with
    | none => rw [hn] at h; cases h
    | some n =>
      rw [hn] at h
      exact ⟨2, n, by rw [h2]; rfl, .inr (.inr (.inl ⟨rfl, (hd h2).1, (hd h2).2, hn⟩)), (Option.some.inj h).symm⟩
  rw [if_neg h2] at h
  by_cases hs : sgT.contains o = true
  · rw [if_pos hs] at h
    exact ⟨3, 0, by simp [mk]; omega, .inr (.inr (.inr ⟨rfl, by simpa using hs, rfl⟩)), (Option.some.inj h).symm⟩
  · rw [if_neg hs] at h; cases h
theorem dig_ascii {l : Nm} (h : l ≠ []) (hd : digB ((Lib.decodeL l).1 : Int) = true) : ∃ b t, l = b :: t ∧ (48 ≤ b.toNat ∧ b.toNat ≤ 57) ∧ (Lib.decodeL l).2 = 1 := by
  have h1 : 48 ≤ (Lib.decodeL l).1 ∧ (Lib.decodeL l).1 ≤ 57 := by
    unfold digB at hd; simp at hd; omega
  obtain ⟨b, t, e, e1, e2⟩ := ascii_of h (by omega)
  exact ⟨b, t, e, by omega, e2⟩
theorem beg_le (l : Nm) : beg l ≤ 3 := by
  unfold beg
  repeat' split
  all_goals omega
theorem goes_new {k : Nat} {o l : Nm} (hk : k = 0) : goes k o l = false := by subst hk; simp [goes]

/-- What is told is so. -/
theorem sound : ∀ (f k : Nat) (o : Nm) (fr p : Nat) (l : Nm) (ts : List Tok), l.length ≤ f → k ≤ 3 → lexF f k o fr p l = .good ts → p = fr + o.length → (k = 2 → o ≠ [] ∧ digs o) →
    (k = 0 → Lx p l ts) ∧ (k ≠ 0 → Lx fr (o ++ l) ts) := by
  intro f
  induction f with
  | zero =>
    intro k o fr p l ts hf hk h hp hd
    obtain rfl : l = [] := List.eq_nil_of_length_eq_zero (by omega)
    rw [lexF_nil] at h
    unfold fin at h
    cases hc : close k o fr with
    | none => rw [hc] at h; cases h
    | some us =>
      rw [hc] at h
      injection h with h
      subst h
      rcases close_wd hk hc hd with ⟨h0, rfl⟩ | ⟨h0, k', n, e, hw, rfl⟩
      · exact ⟨fun _ => .nil p, fun x => absurd h0 x⟩
      · exact ⟨fun x => absurd x h0, fun _ => .wd fr k' o n [] [] hw (.inl rfl) (.nil _)⟩
  | succ f ih =>
    intro k o fr p l ts hf hk h hp hd
    by_cases hl : l = []
    · subst hl
      rw [lexF_nil] at h
      unfold fin at h
      cases hc : close k o fr with
      | none => rw [hc] at h; cases h
      | some us =>
        rw [hc] at h
        injection h with h
        subst h
        rcases close_wd hk hc hd with ⟨h0, rfl⟩ | ⟨h0, k', n, e, hw, rfl⟩
        · exact ⟨fun _ => .nil p, fun x => absurd h0 x⟩
        · exact ⟨fun x => absurd x h0, fun _ => .wd fr k' o n [] [] hw (.inl rfl) (.nil _)⟩
    have hw := dec_w l
    have hle := dec_le hl
    have hdl : (l.drop (Lib.decodeL l).2).length ≤ f := by rw [List.length_drop]; omega
    have htl : (l.take (Lib.decodeL l).2).length = (Lib.decodeL l).2 := by rw [List.length_take]; omega
    cases hg : goes k o l with
    | true =>
      have hk0 : k ≠ 0 := fun e => by rw [goes_new e] at hg; cases hg
      rw [lexF_go _ _ _ _ _ _ hl hg] at h
      have := ih k _ fr _ _ ts hdl hk h (by rw [List.length_append, htl]; omega) (fun e => by
        subst e
        refine ⟨by simp [(hd rfl).1], fun b hb => ?_⟩
        rcases List.mem_append.1 hb with hb | hb
        · exact (hd rfl).2 b hb
        · have hdg : digB ((Lib.decodeL l).1 : Int) = true := by simpa [goes] using hg
          obtain ⟨c, t, e1, e2, e3⟩ := dig_ascii hl hdg
          rw [e3, e1] at hb
          simp at hb
          subst hb
          exact e2)
      refine ⟨fun e => absurd e hk0, fun _ => ?_⟩
      have := this.2 hk0
      rwa [List.append_assoc, List.take_append_drop] at this
    | false =>
      cases hc : close k o fr with
      | none => rw [lexF_bad _ _ _ _ _ _ hl hg hc] at h; cases h
      | some us =>
        rw [lexF_new _ _ _ _ _ _ hl hg hc] at h
        cases hr : lexF f (beg l) (l.take (Lib.decodeL l).2) p (p + (Lib.decodeL l).2) (l.drop (Lib.decodeL l).2) with
        | bad q => rw [hr] at h; cases h
        | good vs =>
          rw [hr] at h
          injection h with h
          subst h
          have i := ih (beg l) _ p _ _ vs hdl (beg_le l) hr (by rw [htl]) (fun e => by
            have hdg : digB ((Lib.decodeL l).1 : Int) = true := by
              unfold beg at e
              by_cases hdg : digB ((Lib.decodeL l).1 : Int) = true
              · exact hdg
              · rw [if_neg hdg] at e
                repeat' split at e
                all_goals omega
            obtain ⟨c, t, e1, e2, e3⟩ := dig_ascii hl hdg
            refine ⟨fun e4 => ?_, fun b hb => ?_⟩
            · rw [e3, e1] at e4; simp at e4
            · rw [e3, e1] at hb
              simp at hb
              subst hb
              exact e2)
          have hrest : Lx p l vs := by
            by_cases hb : beg l = 0
            · have hsp : spB ((Lib.decodeL l).1 : Int) = true := by
                unfold beg at hb
                by_cases hsp : spB ((Lib.decodeL l).1 : Int) = true
                · exact hsp
                · rw [if_neg hsp] at hb
                  repeat' split at hb
                  all_goals omega
              have hlt : (Lib.decodeL l).1 < 128 := by unfold spB at hsp; simp at hsp; omega
              obtain ⟨b, t, e1, e2, e3⟩ := ascii_of hl hlt
              have := i.1 hb
              rw [e3] at this
              subst e1
              exact .sp p b t vs (by rw [e2]; exact hsp) this
            · have := i.2 hb
              rwa [List.take_append_drop] at this
          rcases close_wd hk hc hd with ⟨h0, rfl⟩ | ⟨h0, k', n, e, hw, rfl⟩
          · exact ⟨fun _ => hrest, fun x => absurd h0 x⟩
          · exact ⟨fun x => absurd x h0, fun _ => .wd fr k' o n l vs hw (.inr (by rw [e]; exact hg)) (by rw [← hp]; exact hrest)⟩
theorem soundA {s : Nm} {ts : List Tok} (h : lexA s = .good ts) : Lx 0 s ts :=
  (sound s.length 0 [] 0 0 s ts (Nat.le_refl _) (by omega) h rfl (fun e => by cases e)).1 rfl

/-- The same with as much fuel as is wanted. -/
def W (k : Nat) (o : Nm) (fr p : Nat) (l : Nm) : Res := lexF l.length k o fr p l
theorem W_nil (k : Nat) (o : Nm) (fr p : Nat) : W k o fr p [] = fin k o fr := lexF_nil _ _ _ _ _
theorem W_go {k : Nat} {o : Nm} {l : Nm} (fr p : Nat) (h : l ≠ []) (hg : goes k o l = true) :
    W k o fr p l = W k (o ++ l.take (Lib.decodeL l).2) fr (p + (Lib.decodeL l).2) (l.drop (Lib.decodeL l).2) := by
  obtain ⟨n, hn⟩ : ∃ n, l.length = n + 1 := ⟨l.length - 1, by have := List.length_pos_iff.2 h; omega⟩
  have := dec_w l
  unfold W
  rw [hn, lexF_go _ _ _ _ _ _ h hg]
  exact lexF_fuel _ _ _ _ _ _ _ (by rw [List.length_drop]; omega) (Nat.le_refl _)
theorem W_new {k : Nat} {o : Nm} {fr : Nat} {l : Nm} {ts : List Tok} (p : Nat) (h : l ≠ []) (hg : goes k o l = false) (hc : close k o fr = some ts) :
    W k o fr p l = pre ts (W (beg l) (l.take (Lib.decodeL l).2) p (p + (Lib.decodeL l).2) (l.drop (Lib.decodeL l).2)) := by
  obtain ⟨n, hn⟩ : ∃ n, l.length = n + 1 := ⟨l.length - 1, by have := List.length_pos_iff.2 h; omega⟩
  have := dec_w l
  unfold W
  rw [hn, lexF_new _ _ _ _ _ _ h hg hc]
  rw [lexF_fuel _ _ _ _ _ _ _ (by rw [List.length_drop]; omega) (Nat.le_refl _)]

theorem J_ok {b : Bool} {l : Nm} (h : l ≠ []) (hj : J b l = true) : okR l ∧ (begB ((Lib.decodeL l).1 : Int) = true ∨ (b = false ∧ digB ((Lib.decodeL l).1 : Int) = true)) ∧ J false (l.drop (Lib.decodeL l).2) = true := by
  rw [J_step _ _ h] at hj
  simp only [Bool.and_eq_true, Bool.or_eq_true, Bool.not_eq_true', decide_eq_false_iff_not] at hj
  exact ⟨⟨h, hj.1.1⟩, hj.1.2, hj.2⟩
/-- Letters and digits go on with a name. -/
theorem run1 : ∀ (m : Nat) (v : Nm), v.length ≤ m → J false v = true → ∀ (o : Nm) (fr p : Nat) (l : Nm), W 1 o fr p (v ++ l) = W 1 (o ++ v) fr (p + v.length) l
  | 0, v, hm, _, o, fr, p, l => by
    obtain rfl : v = [] := List.eq_nil_of_length_eq_zero (by omega)
    simp
  | m + 1, v, hm, hj, o, fr, p, l => by
    by_cases hv : v = []
    · subst hv; simp
    obtain ⟨hok, hb, hj2⟩ := J_ok hv hj
    have hw := dec_w v
    have hle := dec_le hv
    have ed := dec_app hok l
    have hg : goes 1 o (v ++ l) = true := by
      unfold goes
      rw [if_pos rfl, ed]
      rcases hb with hb | ⟨_, hb⟩
      · rw [bn_yes (okR_app hok l) (by rw [ed]; exact hb)]; simp
      · rw [hb]; simp
    rw [W_go fr p (by simp [hv]) hg, ed, List.take_append_of_le_length hle, List.drop_append_of_le_length hle, run1 m _ (by rw [List.length_drop]; omega) hj2, List.append_assoc, List.take_append_drop, List.length_drop]
    congr 1
    omega
theorem run2 : ∀ (v : Nm), digs v → ∀ (o : Nm) (fr p : Nat) (l : Nm), W 2 o fr p (v ++ l) = W 2 (o ++ v) fr (p + v.length) l
  | [], _, o, fr, p, l => by simp
  | b :: v, hd, o, fr, p, l => by
    have hb := hd b (by simp)
    have e := dec_ascii (show b.toNat < 128 by omega) (v ++ l)
    have hg : goes 2 o ((b :: v) ++ l) = true := by
      unfold goes
      rw [if_neg (by omega), if_pos rfl, List.cons_append, e]
      unfold digB
      simp
      omega
    rw [W_go fr p (by simp) hg, List.cons_append, e]
    simp only [List.take_succ_cons, List.take_zero, List.drop_succ_cons, List.drop_zero]
    rw [run2 v (fun x hx => hd x (by simp [hx]))]
    simp
    congr 1
    omega
theorem sg_cases : ∀ w ∈ sgT, (∃ a, w = [a] ∧ a.toNat < 128 ∧ spB (a.toNat : Int) = false ∧ begB (a.toNat : Int) = false ∧ digB (a.toNat : Int) = false) ∨
    (∃ a b, w = [a, b] ∧ a.toNat < 128 ∧ b.toNat < 128 ∧ spB (a.toNat : Int) = false ∧ begB (a.toNat : Int) = false ∧ digB (a.toNat : Int) = false) := by
  intro w hw
  simp only [sgT, List.mem_cons, List.not_mem_nil, or_false] at hw
  rcases hw with rfl | rfl | rfl | rfl | rfl | rfl | rfl | rfl | rfl | rfl | rfl | rfl | rfl | rfl | rfl | rfl | rfl | rfl | rfl | rfl | rfl | rfl | rfl | rfl
  all_goals first
    | exact .inl ⟨_, rfl, by decide, by decide, by decide, by decide⟩
    | exact .inr ⟨_, _, rfl, by decide, by decide, by decide, by decide, by decide⟩
/-- A word is gone through. -/
theorem run_w {k : Nat} {w : Nm} {n : Int} (hw : Wd k w n) (l : Nm) {k0 : Nat} {o0 : Nm} {fr0 : Nat} {t0 : List Tok} (p : Nat) (hc : close k0 o0 fr0 = some t0) (hg : goes k0 o0 (w ++ l) = false) :
    W k0 o0 fr0 p (w ++ l) = pre t0 (W (mk k) w p (p + w.length) l) := by
  have hne := hw.ne
  rw [W_new p (by simp [hne]) hg hc]
  congr 1
  have hN : ∀ (hj : J true w = true), W (beg (w ++ l)) ((w ++ l).take (Lib.decodeL (w ++ l)).2) p (p + (Lib.decodeL (w ++ l)).2) ((w ++ l).drop (Lib.decodeL (w ++ l)).2) = W 1 w p (p + w.length) l := by
    intro hj
    obtain ⟨hok, hb, hj2⟩ := J_ok hne hj
    have hb : begB ((Lib.decodeL w).1 : Int) = true := hb.elim id (fun h => by cases h.1)
    have hw := dec_w w
    have hle := dec_le hne
    have ed := dec_app hok l
    have e1 : beg (w ++ l) = 1 := by
      unfold beg
      rw [bn_yes (okR_app hok l) (by rw [ed]; exact hb), ed, if_neg]
      · rfl
      · unfold spB begB at *
        simp at hb ⊢
        omega
    rw [e1, ed, List.take_append_of_le_length hle, List.drop_append_of_le_length hle, run1 _ _ (Nat.le_refl _) hj2, List.take_append_drop, List.length_drop]
    congr 1
    omega
  rcases hw with ⟨rfl, h, rfl⟩ | ⟨rfl, h, rfl⟩ | ⟨rfl, h0, hd, hv⟩ | ⟨rfl, h, rfl⟩
  · exact hN (name_J h)
  · refine hN ?_
    rcases h with rfl | rfl
    · exact key_J.1
    · exact key_J.2
  · cases w with
    | nil => exact absurd rfl hne
    | cons b v =>
      have hb := hd b (by simp)
      have e := dec_ascii (show b.toNat < 128 by omega) (v ++ l)
      rw [List.cons_append, e]
      have e1 : beg (b :: (v ++ l)) = 2 := by
        unfold beg
        rw [bn_ascii (show b.toNat < 128 by omega), e, if_neg, if_neg, if_pos]
        · unfold digB; simp; omega
        · unfold begB; simp; omega
        · unfold spB; simp; omega
      rw [e1]
      simp only [List.take_succ_cons, List.take_zero, List.drop_succ_cons, List.drop_zero]
      rw [run2 v (fun x hx => hd x (by simp [hx]))]
      simp only [List.cons_append, List.nil_append, List.length_cons]
      show W 2 _ _ _ _ = W 2 _ _ _ _
      congr 1
      omega
  · have hs : ∀ (a : UInt8) (t : Nm), a.toNat < 128 → spB (a.toNat : Int) = false → begB (a.toNat : Int) = false → digB (a.toNat : Int) = false → beg (a :: t) = 3 := by
      intro a t h1 h2 h3 h4
      unfold beg
      rw [bn_ascii h1, dec_ascii h1]
      dsimp only
      rw [h2, h3, h4]
      rfl
    rcases sg_cases w h with ⟨a, rfl, h1, h2, h3, h4⟩ | ⟨a, b, rfl, h1, h5, h2, h3, h4⟩
    · rw [List.singleton_append, dec_ascii h1, hs a l h1 h2 h3 h4]
      rfl
    · rw [List.cons_append, dec_ascii h1, hs a _ h1 h2 h3 h4]
      simp only [List.take_succ_cons, List.take_zero, List.drop_succ_cons, List.drop_zero, List.singleton_append]
      have hg : goes 3 [a] (b :: l) = true := by
        unfold goes
        rw [if_neg (by omega), if_neg (by omega), if_pos rfl, dec_ascii h5]
        dsimp only
        rw [enc_ascii h5, List.any_eq_true]
        exact ⟨[a, b], h, by simp⟩
      rw [W_go _ _ (by simp) hg, dec_ascii h5]
      rfl
/-- What is so is told. -/
theorem compl {p : Nat} {l : Nm} {ts : List Tok} (h : Lx p l ts) : ∀ (k : Nat) (o : Nm) (fr : Nat) (t0 : List Tok), close k o fr = some t0 → (l = [] ∨ goes k o l = false) → W k o fr p l = .good (t0 ++ ts) := by
  induction h with
  | nil p =>
    intro k o fr t0 hc _
    rw [W_nil]
    unfold fin
    rw [hc, List.append_nil]
  | sp p b l ts hb h ih =>
    intro k o fr t0 hc hg
    have hg : goes k o (b :: l) = false := hg.elim (fun h => by cases h) id
    have hlt : b.toNat < 128 := by unfold spB at hb; simp at hb; omega
    rw [W_new p (by simp) hg hc, dec_ascii hlt]
    have e1 : beg (b :: l) = 0 := by
      unfold beg
      rw [dec_ascii hlt]
      dsimp only
      rw [hb]
      rfl
    rw [e1]
    simp only [List.take_succ_cons, List.take_zero, List.drop_succ_cons, List.drop_zero]
    rw [ih 0 [b] p [] (by simp [close]) (.inr (goes_new rfl))]
    rfl
  | wd p k w n l ts hw hg h ih =>
    intro k0 o0 fr0 t0 hc hg0
    have hg0 : goes k0 o0 (w ++ l) = false := by
      rcases hg0 with h | h
      · exact absurd (List.append_eq_nil_iff.1 h).1 hw.ne
      · exact h
    rw [run_w hw l p hc hg0, ih (mk k) w p _ (hw.close p) hg]
    simp [pre]
theorem complA {s : Nm} {ts : List Tok} (h : Lx 0 s ts) : lexA s = .good ts := compl h 0 [] 0 [] (by simp [close]) (.inr (goes_new rfl))
end Go.Proofs.YtblpbgknnnpamaaDoor
