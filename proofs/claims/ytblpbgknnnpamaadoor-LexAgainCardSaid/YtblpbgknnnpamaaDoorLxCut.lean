/- Words and space, as mathematics: what is put together, what is cut, where a wrong word begins. -/
import Derived.Test.YtblpbgknnnpamaaDoorLxMath
namespace Go.Proofs.YtblpbgknnnpamaaDoor
set_option linter.unusedVariables false

/-- Nothing but space. -/
def Sp (l : Nm) : Prop := ∀ b ∈ l, spB (b.toNat : Int) = true
theorem Sp.nil : Sp [] := fun b h => by cases h
theorem Sp.app {a b : Nm} (h : Sp a) (k : Sp b) : Sp (a ++ b) := fun x hx => (List.mem_append.1 hx).elim (h x) (k x)
theorem Sp.one {b : UInt8} (h : spB (b.toNat : Int) = true) : Sp [b] := fun x hx => by simp at hx; subst hx; exact h
theorem sp_lt {b : UInt8} (h : spB (b.toNat : Int) = true) : b.toNat < 128 ∧ begB (b.toNat : Int) = false ∧ digB (b.toNat : Int) = false := by
  unfold spB at h
  unfold begB digB
  simp at h ⊢
  omega
theorem sg_nosp : ∀ w ∈ sgT, ∀ b ∈ w, spB (b.toNat : Int) = false := by decide +kernel
/-- No word goes on with a space. -/
theorem goes_sp (k : Nat) (w : Nm) {b : UInt8} (hb : spB (b.toNat : Int) = true) (l : Nm) : goes k w (b :: l) = false := by
  obtain ⟨h1, h2, h3⟩ := sp_lt hb
  unfold goes
  rw [bn_ascii h1, dec_ascii h1]
  dsimp only
  rw [h2, h3, enc_ascii h1]
  repeat' split
  all_goals first
    | rfl
    | (rw [List.any_eq_false]
       intro s hs hp
       rw [List.isPrefixOf_iff_prefix] at hp
       have := sg_nosp s hs b (hp.subset (by simp))
       rw [this] at hb
       cases hb)
theorem Lx.sps : ∀ (a : Nm) {p : Nat} {l : Nm} {ts : List Tok}, Sp a → Lx (p + a.length) l ts → Lx p (a ++ l) ts
  | [], p, l, ts, _, h => h
  | b :: a, p, l, ts, hs, h => .sp p b (a ++ l) ts (hs b (by simp)) (Lx.sps a (fun x hx => hs x (by simp [hx])) (by
      have : p + (b :: a).length = p + 1 + a.length := by simp; omega
      rwa [← this]))
/-- The same words, from elsewhere on. -/
def sft (d : Nat) (t : Tok) : Tok := ⟨t.k, t.t, t.n, t.p - d⟩
theorem Lx.down {p : Nat} {l : Nm} {ts : List Tok} (h : Lx p l ts) : ∀ (d : Nat), d ≤ p → Lx (p - d) l (ts.map (sft d)) := by
  induction h with
  | nil p => exact fun d _ => .nil _
  | sp p b l ts hb h ih =>
    intro d hd
    refine .sp _ b l _ hb ?_
    have := ih d (by omega)
    rwa [show p + 1 - d = p - d + 1 by omega] at this
  | wd p k w n l ts hw hg h ih =>
    intro d hd
    refine .wd _ k w n l _ hw hg ?_
    have := ih d (by omega)
    rwa [show p + w.length - d = p - d + w.length by omega] at this
/-- Whether a word goes on hangs on the word behind alone. -/
theorem goes_wd (k : Nat) (o : Nm) {k' : Nat} {w : Nm} {n : Int} (hw : Wd k' w n) (l m : Nm) : goes k o (w ++ l) = goes k o (w ++ m) := by
  have key : Lib.decodeL (w ++ l) = Lib.decodeL (w ++ m) ∧ bnB (w ++ l) = bnB (w ++ m) := by
    have hJ : J true w = true → Lib.decodeL (w ++ l) = Lib.decodeL (w ++ m) ∧ bnB (w ++ l) = bnB (w ++ m) := by
      intro hj
      obtain ⟨hok, hb, _⟩ := J_ok hw.ne hj
      have hb : begB ((Lib.decodeL w).1 : Int) = true := hb.elim id (fun h => by cases h.1)
      exact ⟨by rw [dec_app hok, dec_app hok], by rw [bn_yes (okR_app hok l) (by rw [dec_app hok]; exact hb), bn_yes (okR_app hok m) (by rw [dec_app hok]; exact hb)]⟩
    have hA : ∀ a t, w = a :: t → a.toNat < 128 → Lib.decodeL (w ++ l) = Lib.decodeL (w ++ m) ∧ bnB (w ++ l) = bnB (w ++ m) := by
      rintro a t rfl ha
      exact ⟨by rw [List.cons_append, List.cons_append, dec_ascii ha, dec_ascii ha], by rw [List.cons_append, List.cons_append, bn_ascii ha, bn_ascii ha]⟩
    rcases hw with ⟨rfl, h, rfl⟩ | ⟨rfl, h, rfl⟩ | ⟨rfl, h0, hd, hv⟩ | ⟨rfl, h, rfl⟩
    · exact hJ (name_J h)
    · refine hJ ?_
      rcases h with rfl | rfl
      · exact key_J.1
      · exact key_J.2
    · cases w with
      | nil => exact absurd rfl h0
      | cons b v => exact hA b v rfl (by have := hd b (by simp); omega)
    · rcases sg_cases w h with ⟨a, rfl, h1, _⟩ | ⟨a, b, rfl, h1, _⟩
      · exact hA a [] rfl h1
      · exact hA a [b] rfl h1
  unfold goes
  rw [key.1, key.2]
/-- What is cut at the end of a word. -/
theorem Lx.cut {p : Nat} {l : Nm} {ts : List Tok} (h : Lx p l ts) : ∀ (k : Nat) (t : Tok), ts[k]? = some t →
    ∃ a b, l = a ++ b ∧ p + a.length = t.p + t.t.length ∧ Lx p a (ts.take (k + 1)) ∧ Lx (p + a.length) b (ts.drop (k + 1)) := by
  induction h with
  | nil p => intro k t h; simp at h
  | sp p b l ts hb h ih =>
    intro k t ht
    obtain ⟨x, y, e, e1, h1, h2⟩ := ih k t ht
    subst e
    refine ⟨b :: x, y, rfl, by rw [List.length_cons]; omega, .sp p b x _ hb h1, ?_⟩
    rwa [show p + (b :: x).length = p + 1 + x.length by rw [List.length_cons]; omega]
  | wd p k' w n l ts hw hg h ih =>
    intro k t ht
    cases k with
    | zero =>
      simp at ht
      subst ht
      refine ⟨w, l, rfl, rfl, ?_, by simpa using h⟩
      have := Lx.wd p k' w n [] [] hw (.inl rfl) (.nil _)
      simpa using this
    | succ k =>
      obtain ⟨x, y, e, e1, h1, h2⟩ := ih k t (by simpa using ht)
      subst e
      refine ⟨w ++ x, y, by simp, by rw [List.length_append]; omega, ?_, ?_⟩
      · refine .wd p k' w n x _ hw ?_ h1
        rcases hg with hg | hg
        · exact .inl (List.append_eq_nil_iff.1 hg).1
        · refine .inr ?_
          generalize hq : List.take (k + 1) ts = us at h1
          cases h1 with
          | nil =>
            exfalso
            have hkl : k < ts.length := by
              rcases Nat.lt_or_ge k ts.length with c | c
              · exact c
              · rw [List.getElem?_eq_none (by simpa using c)] at ht; cases ht
            have := congrArg List.length hq
            rw [List.length_take, List.length_nil] at this
            omega
          | sp _ b l' _ hb _ => exact goes_sp _ _ hb _
          | wd _ k2 w2 n2 l2 us2 hw2 _ _ =>
            rw [List.append_assoc] at hg
            rw [goes_wd _ _ hw2 l2 (l2 ++ y)]
            exact hg
      · rw [List.length_append, ← Nat.add_assoc]
        simpa using h2
/-- Where a word of a text stands. -/
theorem Lx.at_ {p : Nat} {l : Nm} {ts : List Tok} (h : Lx p l ts) : ∀ (k : Nat) (t : Tok), ts[k]? = some t → p ≤ t.p ∧ t.t ≠ [] ∧ t.p + t.t.length ≤ p + l.length ∧ (l.drop (t.p - p)).take t.t.length = t.t ∧ Wd t.k t.t t.n := by
  induction h with
  | nil p => intro k t h; simp at h
  | sp p b l ts hb h ih =>
    intro k t ht
    obtain ⟨h1, h2, h3, h4, h5⟩ := ih k t ht
    refine ⟨by omega, h2, by rw [List.length_cons]; omega, ?_, h5⟩
    rw [show t.p - p = t.p - (p + 1) + 1 by omega, List.drop_succ_cons]
    exact h4
  | wd p k' w n l ts hw hg h ih =>
    intro k t ht
    cases k with
    | zero =>
      simp at ht
      subst ht
      exact ⟨Nat.le_refl _, hw.ne, by simp, by simp, hw⟩
    | succ k =>
      obtain ⟨h1, h2, h3, h4, h5⟩ := ih k t (by simpa using ht)
      refine ⟨by omega, h2, by rw [List.length_append]; omega, ?_, h5⟩
      rw [show t.p - p = w.length + (t.p - (p + w.length)) by omega, ← List.drop_drop, List.drop_left']
      · exact h4
      · rfl
/-- What stands between two words: from `last` on. -/
theorem Lx.gap {p : Nat} {l : Nm} {ts : List Tok} (h : Lx p l ts) : ∀ t us, ts = t :: us → ∃ a b, l = a ++ (t.t ++ b) ∧ Sp a ∧ t.p = p + a.length ∧ Lx (t.p + t.t.length) b us ∧ Wd t.k t.t t.n := by
  induction h with
  | nil p => intro t us h; cases h
  | sp p b l ts hb h ih =>
    intro t us e
    obtain ⟨x, y, e1, h1, h2, h3, h4⟩ := ih t us e
    subst e1
    refine ⟨b :: x, y, rfl, fun c hc => ?_, by rw [List.length_cons]; omega, h3, h4⟩
    rcases List.mem_cons.1 hc with rfl | hc
    · exact hb
    · exact h1 c hc
  | wd p k' w n l ts hw hg h ih =>
    intro t us e
    injection e with e1 e2
    subst e1 e2
    exact ⟨[], l, rfl, Sp.nil, rfl, h, hw⟩
/-- A wrong word begins within the text. -/
theorem bad_lt : ∀ (f k : Nat) (o : Nm) (fr p : Nat) (l : Nm) (q : Nat), lexF f k o fr p l = .bad q → p = fr + o.length → (k ≠ 0 → o ≠ []) → q < p + l.length := by
  have hc : ∀ (k : Nat) (o : Nm) (fr p : Nat) (l : Nm), close k o fr = none → p = fr + o.length → (k ≠ 0 → o ≠ []) → fr < p + l.length := by
    intro k o fr p l h hp ho
    have hk : k ≠ 0 := by rintro rfl; simp [close] at h
    have := List.length_pos_iff.2 (ho hk)
    omega
  have hfin : ∀ (k : Nat) (o : Nm) (fr p : Nat) (q : Nat) (l : Nm), fin k o fr = .bad q → p = fr + o.length → (k ≠ 0 → o ≠ []) → q < p + l.length := by
    intro k o fr p q l h hp ho
    unfold fin at h
    cases e : close k o fr with
    | none =>
      rw [e] at h
      injection h with h
      subst h
      exact hc k o fr p l e hp ho
    | some ts => rw [e] at h; cases h
  intro f
  induction f with
  | zero => intro k o fr p l q h; exact hfin k o fr p q l h
  | succ f ih =>
    intro k o fr p l q h hp ho
    by_cases hl : l = []
    · subst hl
      rw [lexF_nil] at h
      exact hfin k o fr p q [] h hp ho
    have hw := dec_w l
    have hle := dec_le hl
    have htl : (l.take (Lib.decodeL l).2).length = (Lib.decodeL l).2 := by rw [List.length_take]; omega
    have htn : l.take (Lib.decodeL l).2 ≠ [] := fun e => by rw [e] at htl; simp at htl; omega
    have hdl : (l.drop (Lib.decodeL l).2).length = l.length - (Lib.decodeL l).2 := List.length_drop
    cases hg : goes k o l with
    | true =>
      rw [lexF_go _ _ _ _ _ _ hl hg] at h
      have := ih k _ fr _ _ q h (by rw [List.length_append, htl]; omega) (fun _ e => htn (List.append_eq_nil_iff.1 e).2)
      omega
    | false =>
      cases e : close k o fr with
      | none =>
        rw [lexF_bad _ _ _ _ _ _ hl hg e] at h
        injection h with h
        subst h
        exact hc k o fr p l e hp ho
      | some us =>
        rw [lexF_new _ _ _ _ _ _ hl hg e] at h
        cases hr : lexF f (beg l) (l.take (Lib.decodeL l).2) p (p + (Lib.decodeL l).2) (l.drop (Lib.decodeL l).2) with
        | good vs => rw [hr] at h; cases h
        | bad q' =>
          rw [hr] at h
          injection h with h
          subst h
          have := ih (beg l) _ p _ _ q' hr (by rw [htl]) (fun _ => htn)
          omega
theorem badA {s : Nm} {q : Nat} (h : lexA s = .bad q) : q < s.length := by
  have := bad_lt s.length 0 [] 0 0 s q h rfl (fun e => absurd rfl e)
  omega
/-- Words put with a space between. -/
def joinS : List Tok → Nm
  | [] => []
  | t :: ts => 32 :: (t.t ++ joinS ts)
def placed : Nat → List Tok → List Tok
  | _, [] => []
  | p, t :: ts => ⟨t.k, t.t, t.n, p + 1⟩ :: placed (p + 1 + t.t.length) ts
theorem placed_len : ∀ (p : Nat) (ts : List Tok), (placed p ts).length = ts.length
  | _, [] => rfl
  | p, t :: ts => by simp [placed, placed_len _ ts]
theorem placed_at : ∀ (p : Nat) (ts : List Tok) (i : Nat) (t : Tok), ts[i]? = some t → ∃ q, (placed p ts)[i]? = some ⟨t.k, t.t, t.n, q⟩
  | _, [], i, t, h => by simp at h
  | p, t :: ts, 0, u, h => by simp at h; subst h; exact ⟨_, rfl⟩
  | p, t :: ts, i + 1, u, h => by
    obtain ⟨q, hq⟩ := placed_at (p + 1 + t.t.length) ts i u (by simpa using h)
    exact ⟨q, by simpa [placed] using hq⟩
theorem Lx.joined : ∀ (ts : List Tok), (∀ t ∈ ts, Wd t.k t.t t.n) → ∀ p, Lx p (joinS ts) (placed p ts)
  | [], _, p => .nil p
  | t :: ts, hw, p => by
    have ih := Lx.joined ts (fun u hu => hw u (by simp [hu])) (p + 1 + t.t.length)
    refine .sp p 32 _ _ (by decide) (.wd (p + 1) t.k t.t t.n (joinS ts) _ (hw t (by simp)) ?_ ih)
    cases ts with
    | nil => exact .inl rfl
    | cons u us => exact .inr (goes_sp _ _ (by decide) _)
theorem joinS_snoc (a : List Tok) (t : Tok) : joinS (a ++ [t]) = joinS a ++ (32 :: t.t) := by
  induction a with
  | nil => simp [joinS]
  | cons u us ih => simp [joinS, ih]
/-- What is put together is not twice as long. -/
theorem Lx.joinS_len {p : Nat} {l : Nm} {ts : List Tok} (h : Lx p l ts) : (joinS ts).length ≤ 2 * l.length ∧ ts.length ≤ l.length := by
  induction h with
  | nil p => simp [joinS]
  | sp p b l ts hb h ih => simp; omega
  | wd p k w n l ts hw hg h ih =>
    have := List.length_pos_iff.2 hw.ne
    simp [joinS]
    omega
theorem joinS_take (ts : List Tok) (i : Nat) : (joinS (ts.take i)).length ≤ (joinS ts).length := by
  induction ts generalizing i with
  | nil => simp
  | cons t ts ih =>
    cases i with
    | zero => simp [joinS]
    | succ i => simp [joinS]; exact ih i
/-- Just Names are names. -/
theorem Wd.name {k : Nat} {w : Nm} {n : Int} (h : Wd k w n) : nameB w = decide (k = 1) := by
  rcases h with ⟨rfl, h, rfl⟩ | ⟨rfl, h, rfl⟩ | ⟨rfl, h0, hd, hv⟩ | ⟨rfl, h, rfl⟩
  · rw [h]; rfl
  · rcases h with rfl | rfl <;> simp [nameB]
  · cases w with
    | nil => exact absurd rfl h0
    | cons b v =>
      have hf : nameB (b :: v) = false := by
        rw [Bool.eq_false_iff]
        intro hn
        have hb := hd b (by simp)
        obtain ⟨_, hr, _⟩ := J_ok h0 (name_J hn)
        have hr := hr.elim id (fun h => by cases h.1)
        rw [dec_ascii (by omega)] at hr
        unfold begB at hr
        simp at hr
        omega
      rw [hf]
      rfl
  · have hf : nameB w = false := by
      rw [Bool.eq_false_iff]
      intro hn
      obtain ⟨_, hr, _⟩ := J_ok (name_ne hn) (name_J hn)
      have hr := hr.elim id (fun h => by cases h.1)
      rcases sg_cases w h with ⟨a, rfl, h1, h2, h3, h4⟩ | ⟨a, b, rfl, h1, h5, h2, h3, h4⟩
      all_goals
        rw [dec_ascii h1] at hr
        dsimp only at hr
        rw [h3] at hr
        cases hr
    rw [hf]
    rfl
end Go.Proofs.YtblpbgknnnpamaaDoor
