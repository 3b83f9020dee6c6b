/- Layer 9: a choice: what a loop over its lists gathers; how a choice lies. -/
import Derived.Test.YtbdfehgofnomhaaDoorQMe
import Derived.Test.YtbdfehgofnomhaaDoorQAs
namespace Go.Proofs.YtbdfehgofnomhaaDoor
open Go.RowKit
set_option linter.unusedVariables false

theorem putKt_snoc : ∀ (ks : List (List IT)) (l : List IT), putKt (ks ++ [l]) = putKt ks ++ ([32, 124, 32] ++ putIs l)
  | [], l => by rw [List.nil_append, putKt]; simp [putKt]
  | x :: xs, l => by rw [List.cons_append, putKt, putKt_snoc xs l, putKt]; simp
theorem putKs_one (l : List IT) : putKs [l] = putIs l := by rw [putKs, putKt, List.append_nil]
theorem putKs_snoc {ks : List (List IT)} (h : ks ≠ []) (l : List IT) : putKs (ks ++ [l]) = putKs ks ++ ([32, 124, 32] ++ putIs l) := by
  match ks, h with
  | x :: xs, _ => rw [List.cons_append, putKs, putKt_snoc, putKs]; simp
theorem countKs_snoc : ∀ (ks : List (List IT)) (l : List IT), countKs (ks ++ [l]) = countKs ks + countIs l
  | [], l => by rw [List.nil_append, countKs_cons, countKs_nil]; omega
  | x :: xs, l => by rw [List.cons_append, countKs_cons, countKs_snoc xs l, countKs_cons]; omega
theorem deepKs_snoc : ∀ (ks : List (List IT)) (l : List IT), deepKs (ks ++ [l]) = max (deepKs ks) (deepIs l)
  | [], l => by rw [List.nil_append, deepKs_cons, deepKs_nil]; omega
  | x :: xs, l => by rw [List.cons_append, deepKs_cons, deepKs_snoc xs l, deepKs_cons]; omega
theorem take_next {α : Type} {l : List α} {j : Nat} (h : j < l.length) : l.take (j + 1) = l.take j ++ [l[j]] := by
  rw [List.take_add_one, List.getElem?_eq_getElem h]; rfl
/-- What the loop has gathered. -/
def gText (ks : List (List IT)) (j : Nat) : Nm := [40] ++ putKs (ks.take j)
def gDeep (ks : List (List IT)) (j : Nat) : Nat := deepKs (ks.take j)
def gMany (ks : List (List IT)) (j : Nat) : Nat := 1 + countKs (ks.take j)
/-- Lists that queries have. -/
def Good (ks : List (List IT)) : Prop := (2 ≤ ks.length ∧ ks.length ≤ 3) ∧ ∀ l ∈ ks, rightIs l = true ∧ wtIs l ≤ 10000 ∧ (putIs l).length ≤ 1000000
theorem gText_first {ks : List (List IT)} {j : Nat} (h : j < ks.length) (h0 : j = 0) : gText ks (j + 1) = gText ks j ++ putIs ks[j] := by
  subst h0
  unfold gText
  rw [take_next h, List.take_zero, List.nil_append, putKs_one]
  simp [putKs]
theorem gText_next {ks : List (List IT)} {j : Nat} (h : j < ks.length) (h0 : 0 < j) : gText ks (j + 1) = (gText ks j ++ [32, 124, 32]) ++ putIs ks[j] := by
  unfold gText
  rw [take_next h, putKs_snoc]
  · simp
  · intro e
    have := congrArg List.length e
    rw [List.length_take, List.length_nil] at this
    omega
theorem gDeep_next {ks : List (List IT)} {j : Nat} (h : j < ks.length) : gDeep ks (j + 1) = max (gDeep ks j) (deepIs ks[j]) := by
  unfold gDeep
  rw [take_next h, deepKs_snoc]
theorem gMany_next {ks : List (List IT)} {j : Nat} (h : j < ks.length) : gMany ks (j + 1) = gMany ks j + countIs ks[j] := by
  unfold gMany
  rw [take_next h, countKs_snoc]; omega
theorem putKt_len2 {m : Nat} : ∀ {ks : List (List IT)}, (∀ l ∈ ks, (putIs l).length ≤ m) → (putKt ks).length ≤ ks.length * (m + 3)
  | [], _ => by rw [putKt]; simp
  | x :: xs, h => by
    have h1 := h x (by simp)
    have h2 := putKt_len2 (ks := xs) fun l hl => h l (by simp [hl])
    rw [putKt, List.length_cons, Nat.succ_mul]
    simp only [List.length_append, List.length_cons, List.length_nil]
    omega
theorem putKs_len2 {m : Nat} {ks : List (List IT)} (h : ∀ l ∈ ks, (putIs l).length ≤ m) : (putKs ks).length ≤ ks.length * (m + 3) := by
  match ks, h with
  | [], _ => rw [putKs]; simp
  | x :: xs, h =>
    have h1 := h x (by simp)
    have h2 := putKt_len2 (ks := xs) fun l hl => h l (by simp [hl])
    rw [putKs, List.length_cons, Nat.succ_mul, List.length_append]
    omega
theorem Good.text {ks : List (List IT)} (h : Good ks) (j : Nat) : (gText ks j).length ≤ 3000010 := by
  have h1 := putKs_len2 (m := 1000000) (ks := ks.take j) fun l hl => (h.2 l (List.mem_of_mem_take hl)).2.2
  have h2 : (ks.take j).length ≤ 3 := by rw [List.length_take]; have := h.1; omega
  unfold gText
  rw [List.length_append, List.length_cons, List.length_nil]
  omega
theorem cKs_le : ∀ {ks : List (List IT)} {m : Nat}, (∀ l ∈ ks, countIs l ≤ m) → countKs ks ≤ ks.length * m
  | [], m, _ => by rw [countKs_nil]; omega
  | x :: xs, m, h => by
    have h1 := h x (by simp)
    have h2 := cKs_le (ks := xs) fun l hl => h l (by simp [hl])
    rw [countKs_cons, List.length_cons, Nat.succ_mul]; omega
theorem dKs_le : ∀ {ks : List (List IT)} {m : Nat}, (∀ l ∈ ks, deepIs l ≤ m) → deepKs ks ≤ m
  | [], m, _ => by rw [deepKs_nil]; omega
  | x :: xs, m, h => by
    have h1 := h x (by simp)
    have h2 := dKs_le (ks := xs) fun l hl => h l (by simp [hl])
    rw [deepKs_cons]; omega
theorem Good.many {ks : List (List IT)} (h : Good ks) (j : Nat) : gMany ks j ≤ 30001 := by
  have h1 := cKs_le (m := 10000) (ks := ks.take j) fun l hl => by have := (its_counts l).1; have := (h.2 l (List.mem_of_mem_take hl)).2.1; omega
  have h2 : (ks.take j).length ≤ 3 := by rw [List.length_take]; have := h.1; omega
  unfold gMany
  omega
theorem Good.deep {ks : List (List IT)} (h : Good ks) (j : Nat) : gDeep ks j ≤ 10000 :=
  dKs_le (m := 10000) (ks := ks.take j) fun l hl => by have := (its_counts l).2.1; have := (h.2 l (List.mem_of_mem_take hl)).2.1; omega
theorem Good.right {ks : List (List IT)} (h : ∀ l ∈ ks, rightIs l = true) : rightKs ks = true := by
  induction ks with
  | nil => rw [rightKs]
  | cons x xs ih =>
    rw [rightKs, ih fun l hl => h l (by simp [hl])]
    have := h x (by simp)
    unfold rightIs at this
    rw [this]; rfl
theorem alt_right {A : Option Addr} {c : Nat} {kp : List (Option Addr × Nat)} {ks : List (List IT)} (h : ∀ l ∈ ks, rightIs l = true) : rightIs [altT A c kp ks] = decide (2 ≤ ks.length) := by
  unfold rightIs
  rw [rightLs_cons, rightLs, rightI_alt (Good.right h)]
  simp
theorem alt_put {A : Option Addr} {c : Nat} {kp : List (Option Addr × Nat)} {ks : List (List IT)} : putIs [altT A c kp ks] = gText ks ks.length ++ [41] := by
  rw [putIs_cons, putTl_nil, putI_alt]
  unfold gText
  rw [List.take_length]
  simp
theorem alt_deep {A : Option Addr} {c : Nat} {kp : List (Option Addr × Nat)} {ks : List (List IT)} : deepIs [altT A c kp ks] = 1 + gDeep ks ks.length := by
  rw [deepIs_cons, deepIs_nil, altT, deepI_mk]
  unfold gDeep
  rw [List.take_length]
  omega
theorem alt_many {A : Option Addr} {c : Nat} {kp : List (Option Addr × Nat)} {ks : List (List IT)} : countIs [altT A c kp ks] = gMany ks ks.length := by
  rw [countIs_cons, countIs_nil, altT, countI_mk]
  unfold gMany
  rw [List.take_length]; omega
theorem alt_in {w : World} {q : Addr} {c : Nat} {kp : List (Option Addr × Nat)} {ks : List (List IT)} (h : Kds w (some q) ks kp) (h1 : ks.length ≤ c) (h2 : c ≤ maxLen) : IT.In w (altT (some q) c kp ks) :=
  .of ⟨⟨by omega, by omega⟩, ⟨by omega, by omega⟩, ⟨by omega, by omega⟩, by simp, by simp, ⟨fun _ => rfl, Nat.le_refl _, Nat.zero_le _⟩, ⟨(fun h => by cases h), h1, h2⟩⟩ (fun j hj => by simp at hj) h.1 (fun j g1 g2 => ⟨(h.2 j g1 g2).1, fun i g3 => (h.2 j g1 g2).2 i g3⟩)
theorem its_one {w : World} {q : Nat} {x : IT} (h : Has w q 42 (csI x)) (hx : IT.In w x) : Its w (some ⟨q, 0, none⟩) [x] := fun j hj => by
  obtain rfl : j = 0 := by simpa using hj
  exact ⟨⟨q, 0, rfl, h.cell 0, h.cell 1, h.cell 2, h.cell 3, h.cell 4, h.cell 5, h.cell 6⟩, hx⟩
theorem Kds.take {w : World} {A : Option Addr} {kp : List (Option Addr × Nat)} {ks : List (List IT)} (h : Kds w A ks kp) (n : Nat) : Kds w A (ks.take n) (kp.take n) :=
  ⟨by rw [List.length_take, List.length_take, h.1], fun j h1 h2 => by
    have e1 := h1
    have e2 := h2
    rw [List.length_take] at e1 e2
    rw [List.getElem_take, List.getElem_take]
    exact h.2 j (by omega) (by omega)⟩
/-- A list that a query has, as a value. -/
def SlV (u : World) (v : Value) : Prop := ∃ (l : List IT) (B : Option Addr) (cp : Nat), v = .slice B l.length cp ∧ okS B l.length cp ∧ (rightIs l = true ∧ wtIs l ≤ 10000 ∧ Its u B l)
theorem SlV.mono {u u' : World} {v : Value} (h : SlV u v) (hb : Below u.heap.size u u') : SlV u' v := by
  obtain ⟨l, B, cp, e, ok, r, wt, hi⟩ := h
  exact ⟨l, B, cp, e, ok, r, wt, hi.below hb⟩
/-- A query with such a list. -/
def QyV (u : World) (v : Value) : Prop := ∃ (l : List IT) (B : Option Addr) (cp : Nat) (n : Int) (y : Nm), v = .agg #[.slice B l.length cp, .int .i64 n, .string (str y)] ∧ SlV u (.slice B l.length cp)
theorem QyV.mono {u u' : World} {v : Value} (h : QyV u v) (hb : Below u.heap.size u u') : QyV u' v := by
  obtain ⟨l, B, cp, n, y, e, h⟩ := h
  exact ⟨l, B, cp, n, y, e, h.mono hb⟩
/-- From N on. -/
abbrev upN (N : Nat) : Nat → Bool := fun q => decide (N ≤ q)
/-- Two of them in a slice of the call's own; they lie below N. -/
def KdV (W : Nat) (u : World) (v : Value) : Prop := ∃ (N : Nat) (v1 v2 : Value), W ≤ N ∧ u.ownsRow N 22 1 v 2 [v1, v2] ∧ SlV (hidS (upN N) u) v1 ∧ SlV (hidS (upN N) u) v2
theorem SlV.imp {u u' : World} {v : Value} (h : SlV u v) (hk : ∀ (p : Addr) x, u.cell? p = some x → u'.cell? p = some x) : SlV u' v := by
  obtain ⟨l, B, cp, e, ok, r, wt, hi⟩ := h
  exact ⟨l, B, cp, e, ok, r, wt, hi.imp hk⟩
theorem KdV.mono {W : Nat} {u u' : World} {v : Value} (h : KdV W u v) (hb : Below u.heap.size u u') : KdV W u' v := by
  obtain ⟨N, v1, v2, hW, h1, h2, h3⟩ := h
  have hk : ∀ (p : Addr) x, (hidS (upN N) u).cell? p = some x → (hidS (upN N) u').cell? p = some x := fun p x hx => by
    obtain ⟨e1, e2⟩ := hidS_cell hx
    exact cell_hidS e1 (below_imp hb _ _ e2)
  exact ⟨N, v1, v2, hW, own_same h1 fun q hq => hb.block q (h1.lt q hq).2, h2.imp hk, h3.imp hk⟩
theorem KdV.new {W : Nat} {u : World} {l1 l2 : List IT} {B1 B2 : Option Addr} {c1 c2 : Nat} (hN : W ≤ u.heap.size) (h1 : SlV u (.slice B1 l1.length c1)) (h2 : SlV u (.slice B2 l2.length c2)) :
    KdV W (u.alloc (.cells #[.slice B1 l1.length c1, .slice B2 l2.length c2] 22)) (.slice (some ⟨u.heap.size, 0, none⟩) 2 2) := by
  have hk : ∀ (p : Addr) x, u.cell? p = some x → (hidS (upN u.heap.size) (u.alloc (.cells #[.slice B1 l1.length c1, .slice B2 l2.length c2] 22))).cell? p = some x := fun p x hx =>
    cell_hidS (by have := World.block_lt_of_cell? _ _ hx; simp [upN]; omega) (below_imp (step1 _ _) _ _ hx)
  exact ⟨u.heap.size, _, _, hN, World.ownsRow_lit u #[.slice B1 l1.length c1, .slice B2 l2.length c2] 2 (Nat.le_refl _) (by unfold maxLen; omega) rfl, h1.imp hk, h2.imp hk⟩
/-- So many lists, as a value. -/
def KsV (u : World) (v : Value) : Prop := ∃ (b off c : Nat) (kp : List (Option Addr × Nat)) (ks : List (List IT)), v = .slice (some ⟨b, off, none⟩) ks.length c ∧ ks.length ≤ c ∧ c ≤ maxLen ∧ Good ks ∧ Kds u (some ⟨b, off, none⟩) ks kp
theorem sl_lists {u : World} : ∀ {vs : List Value}, (∀ x ∈ vs, SlV u x) → ∃ (ks : List (List IT)) (kp : List (Option Addr × Nat)), ks.length = vs.length ∧ kp.length = ks.length ∧ (∀ l ∈ ks, rightIs l = true ∧ wtIs l ≤ 10000 ∧ (putIs l).length ≤ 1000000)
    ∧ ∀ j (h : j < ks.length) (h' : j < kp.length), vs[j]? = some (.slice kp[j].1 ks[j].length kp[j].2) ∧ okS kp[j].1 ks[j].length kp[j].2 ∧ Its u kp[j].1 ks[j]
  | [], _ => ⟨[], [], rfl, rfl, fun l hl => by simp at hl, fun j h => by simp at h⟩
  | v :: vs, hs => by
    obtain ⟨ks, kp, e1, e2, hr, hj⟩ := sl_lists (vs := vs) fun x hx => hs x (by simp [hx])
    obtain ⟨l, B, cp, rfl, ok, r, wt, hi⟩ := hs v (by simp)
    refine ⟨l :: ks, (B, cp) :: kp, by simp [e1], by simp [e2], fun m hm => ?_, fun j h h' => ?_⟩
    · rcases List.mem_cons.1 hm with rfl | hm
      · exact ⟨r, wt, ask_items r wt hi⟩
      · exact hr m hm
    · cases j with
      | zero => exact ⟨rfl, ok, hi⟩
      | succ j => exact hj j (by simpa using h) (by simpa using h')
theorem ks_of {u : World} {N n : Nat} {v : Value} {vs : List Value} (own : u.ownsRow N 22 1 v n vs) (hs : ∀ x ∈ vs, SlV u x) (h2 : 2 ≤ n) (h3 : n ≤ 3) : KsV u v := by
  have hl := own_len own
  obtain ⟨A, c, rfl, hlies, hA, hn, hm⟩ := own_shape own
  obtain ⟨ks, kp, e1, e2, hr, hj⟩ := sl_lists hs
  have hat : ∀ j (h : j < ks.length) (h' : j < kp.length), ∃ b off, A = some ⟨b, off, none⟩ ∧ u.cell? ⟨b, off + j, none⟩ = some (.slice kp[j].1 ks[j].length kp[j].2) := fun j h h' => hlies.at_ (hj j h h').1
  obtain ⟨b, off, rfl, -⟩ := hat 0 (by omega) (by omega)
  have hkn : ks.length = n := by omega
  subst hkn
  exact ⟨b, off, c, kp, ks, rfl, hn, hm, ⟨⟨h2, h3⟩, hr⟩, e2, fun j h h' => ⟨⟨hat j h h', (hj j h h').2.1⟩, (hj j h h').2.2⟩⟩
theorem pinfo_items : (Tryd.prog.info? 22).map (fun i => (i.zero, i.size, i.bytes)) = some (some (.slice none 0 0), 1, 24) := by kernel_rfl
/-- A third one, that was made later. -/
theorem kd_app {W : Nat} {U u : World} {v : Value} {l : List IT} {B : Option Addr} {cp : Nat} (h : KdV W U v) (hb : Below U.heap.size U u) (ok : okS B l.length cp) (hr : rightIs l = true) (hw : wtIs l ≤ 10000) (hl : Its (hidL U.heap.size u) B l) :
    ∃ v' w', (Builtin.append_ #[40, 40] 40 #[v, .slice (some ⟨u.heap.size, 0, none⟩) 1 1]).run Tryd.prog (u.alloc (.cells #[.slice B l.length cp] 22)) = .ok v' w' ∧ KsV w' v' ∧ Below W U w' := by
  obtain ⟨N, v1, v2, hW, own, h1, h2⟩ := h
  obtain ⟨i0, hi, hz0, hz1, hz2⟩ := pinfo_parts pinfo_items
  have b1 := step1 u (.cells #[.slice B l.length cp] 22)
  have bu : Below U.heap.size U (u.alloc (.cells #[.slice B l.length cp] 22)) := hb.trans (b1.mono hb.size)
  have own1 : (u.alloc (.cells #[.slice B l.length cp] 22)).ownsRow N 22 1 v 2 [v1, v2] := own_same own fun q hq => bu.block q (own.lt q hq).2
  have hNU : N ≤ U.heap.size := by
    rcases own.2 with ⟨_, h0⟩ | ⟨g, cap, cur, e, hg, hh, _⟩
    · omega
    · have := (own.lt g (by rw [e]; rfl)).2; omega
  have hNu : N ≤ (u.alloc (.cells #[.slice B l.length cp] 22)).heap.size := Nat.le_trans hNU bu.size
  obtain ⟨v', w', r, o2, hg, _⟩ := run_app (P := Tryd.prog) (u.alloc (.cells #[.slice B l.length cp] 22)) N 40 40 22 i0 (.slice none 0 0) 24 Tryd.underlying40 hi hz0 hz1 hz2 rfl v 2 [v1, v2] own1
    (some ⟨u.heap.size, 0, none⟩) 1 1 [.slice B l.length cp] rfl (Lies.one u _ _) (fun h => by cases h) (by intro x hx; simp at hx; subst hx; rfl) (by unfold maxLen; omega) (by omega) hNu
  have bg : Below N U w' := app_below (bu.mono hNU) hNu hg own1 (Nat.le_refl _)
  have hs : ∀ x, SlV (hidS (upN N) U) x → SlV w' x := fun x hx => hx.imp fun p z hz => by
    obtain ⟨e1, e2⟩ := hidS_cell hz
    have hlt : p.block < N := by simpa [upN] using e1
    exact (cell_block (bg.block _ hlt)).trans e2
  have h3 : SlV w' (.slice B l.length cp) := ⟨l, B, cp, rfl, ok, hr, hw, hl.imp fun p z hz => by
    obtain ⟨e1, e2⟩ := hidL_cell hz
    have e3 := below_imp b1 _ _ e2
    have hne : v.ownBlock ≠ some p.block := fun e => by have := (own.lt _ e).2; omega
    exact (cell_block (hg.block _ (World.block_lt_of_cell? _ _ e3) (fun e => hne e.symm))).trans e3⟩
  exact ⟨v', w', r, ks_of o2 (fun x hx => by
    simp at hx
    rcases hx with rfl | rfl | rfl
    · exact hs _ h1
    · exact hs _ h2
    · exact h3) (by omega) (by omega), bg.mono hW⟩
theorem KdV.ks {W : Nat} {u : World} {v : Value} (h : KdV W u v) : KsV u v := by
  obtain ⟨N, v1, v2, hW, own, h1, h2⟩ := h
  have hk : ∀ (p : Addr) x, (hidS (upN N) u).cell? p = some x → u.cell? p = some x := fun p x hx => (hidS_cell hx).2
  exact ks_of own (fun x hx => by
    simp at hx
    rcases hx with rfl | rfl
    · exact h1.imp hk
    · exact h2.imp hk) (by omega) (by omega)
theorem gText_0 (ks : List (List IT)) : gText ks 0 = [40] := by unfold gText; rw [List.take_zero, putKs]; rfl
theorem gDeep_0 (ks : List (List IT)) : gDeep ks 0 = 0 := by unfold gDeep; rw [List.take_zero, deepKs_nil]
theorem gMany_0 (ks : List (List IT)) : gMany ks 0 = 1 := by unfold gMany; rw [List.take_zero, countKs_nil]
end Go.Proofs.YtbdfehgofnomhaaDoor
