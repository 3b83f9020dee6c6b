/- The program's rank beside the document's: one deed on both. -/
import Derived.Test.YtplhdmaiammckaaRkRef3
namespace Go.Proofs.Ytplhdmaiammckaa
open Go.RowKit
set_option linter.unusedVariables false

theorem Lst.none {l : List Ent} {S : Int → Option Int} (h : Lst l S) {k : Int} (h0 : S k = .none) : ∀ j, j < l.length → (ent l j).1 ≠ k := fun j hj e => by
  have := h.fwd j hj
  rw [e, h0] at this; cases this
theorem Lst.some {l : List Ent} {S : Int → Option Int} (h : Lst l S) {k s : Int} (h0 : S k = .some s) : ∃ i, i < l.length ∧ ent l i = (k, s) ∧ ∀ j, j < i → (ent l j).1 ≠ k := by
  obtain ⟨i, hi, he⟩ := h.bwd k s h0
  refine ⟨i, hi, he, fun j hj e => ?_⟩
  have := h.one j i (by omega) hi (by rw [e, he])
  omega
theorem ent_cut (l : List Ent) (i j : Nat) (hi : i < l.length) : ent (cutAt l i) j = if j < i then ent l j else ent l (j + 1) := by
  unfold cutAt
  rw [ent_append]
  have e : (l.take i).length = i := by simp; omega
  rw [e]
  split
  · rename_i h; exact ent_take l i j h
  · unfold ent
    rw [List.getD_eq_getElem?_getD, List.getD_eq_getElem?_getD, List.getElem?_drop, show i + 1 + (j - i) = j + 1 by omega]
theorem Lst.cut {l : List Ent} {S : Int → Option Int} (h : Lst l S) {i : Nat} (hi : i < l.length) : Lst (cutAt l i) (upd S (ent l i).1 .none) := by
  have hl := cutAt_len l i hi
  have hm : ∀ j, j < (cutAt l i).length → ∃ m, m < l.length ∧ m ≠ i ∧ ent (cutAt l i) j = ent l m ∧ m = if j < i then j else j + 1 := fun j hj => by
    rw [ent_cut l i j hi]
    by_cases e : j < i
    · exact ⟨j, by omega, by omega, by rw [if_pos e], by rw [if_pos e]⟩
    · exact ⟨j + 1, by omega, by omega, by rw [if_neg e], by rw [if_neg e]⟩
  refine ⟨fun a b ha hb hab => ?_, fun a ha => ?_, fun k s hk => ?_⟩
  · obtain ⟨x, x1, x2, x3, x4⟩ := hm a ha
    obtain ⟨y, y1, y2, y3, y4⟩ := hm b hb
    rw [x3, y3] at hab
    have := h.one x y x1 y1 hab
    split at x4 <;> split at y4 <;> omega
  · obtain ⟨x, x1, x2, x3, x4⟩ := hm a ha
    rw [x3, upd_other _ _ _ _ (fun e => x2 (h.one x i x1 hi e))]
    exact h.fwd x x1
  · have hne : k ≠ (ent l i).1 := fun e => by rw [e, upd_same] at hk; cases hk
    rw [upd_other _ _ _ _ hne] at hk
    obtain ⟨x, hx, he⟩ := h.bwd k s hk
    have hxi : x ≠ i := fun e => hne (by rw [← e, he])
    by_cases hlt : x < i
    · exact ⟨x, by omega, by rw [ent_cut l i x hi, if_pos hlt, he]⟩
    · exact ⟨x - 1, by omega, by rw [ent_cut l i _ hi, if_neg (by omega), show x - 1 + 1 = x by omega, he]⟩

/-- A deed on the document's rank leaves the program's. -/
theorem Rk.fr {w w' : World} {B g m n h : Nat} {S : Int → Option Int} {v v' : Value} {l' : List Ent} (hr : Rk w B g m n S (h :: v.ownBlock.toList)) (hf : Fr h v.ownBlock w w') (rf' : Rf w' B h v' l')
    (hv : v'.ownBlock = none ∨ v'.ownBlock = v.ownBlock ∨ ∃ q, v'.ownBlock = some q ∧ w.heap.size ≤ q) : Rk w' B g m n S (h :: v'.ownBlock.toList) ∧ Below B w w' := by
  have hB := hr.bl
  obtain ⟨vr, lr, h1, h2, h3, h4, h5⟩ := hr.ex
  have hlt := h1.lt
  have hh := h5 h (by simp)
  have ho : ∀ k, v.ownBlock = some k → B ≤ k ∧ k < w.heap.size ∧ k ≠ g ∧ k ≠ m ∧ vr.ownBlock ≠ some k := fun k e => h5 k (by simp [e])
  have hs := hf.size
  refine ⟨⟨vr, lr, h1.keep fun k hk => hf.block k ?_ ?_ ?_, h2, h3, h4, fun k hk => ?_⟩, ⟨hf.os, hf.tape, hf.output, hf.size, fun k hk => hf.block k (by omega) (by omega) fun e => by have := ho k e; omega⟩⟩
  · rcases hk with rfl | rfl | e
    · exact hlt.1
    · exact hlt.2.1
    · exact hlt.2.2 k e
  · rintro rfl
    rcases hk with e | e | e
    · exact hh.2.2.1 e
    · exact hh.2.2.2.1 e
    · exact hh.2.2.2.2 e
  · intro e1
    have := ho k e1
    rcases hk with e | e | e
    · exact this.2.2.1 e
    · exact this.2.2.2.1 e
    · exact this.2.2.2.2 e
  · rcases List.mem_cons.1 hk with rfl | hk
    · exact ⟨hh.1, by omega, hh.2.2⟩
    · have hk : v'.ownBlock = some k := by simpa using hk
      rcases hv with e | e | ⟨q, e, hq⟩
      · rw [e] at hk; cases hk
      · have := ho k (e.symm.trans hk)
        exact ⟨this.1, by omega, this.2.2⟩
      · rw [e] at hk
        obtain rfl := Option.some.inj hk
        exact ⟨by omega, rf'.lt.2 q e, by omega, by omega, fun e2 => by have := hlt.2.2 q e2; omega⟩
/-- Both ranks: the program's at g, the document's at h, of the same ids. -/
structure Sc (w0 w : World) (B g m h : Nat) (v : Value) (l : List Ent) (S : Int → Option Int) : Prop where
  rk : Rk w B g m l.length S (h :: v.ownBlock.toList)
  rf : Rf w B h v l
  lst : Lst l S
  ids : ∀ i, i < l.length → I64 (ent l i).1 ∧ I64 (ent l i).2
  bel : Below w0.heap.size w0 w
  hB : w0.heap.size ≤ B
/-- After so many deeds. -/
def Bo (w0 : World) (B g m h n : Nat) (w : World) : Prop := ∃ v l S, Sc w0 w B g m h v l S ∧ l.length ≤ n
theorem Sc.below {w0 w w' : World} {B g m h : Nat} {v : Value} {l : List Ent} {S : Int → Option Int} (s : Sc w0 w B g m h v l S) (hb : Below w.heap.size w w') : Sc w0 w' B g m h v l S :=
  ⟨s.rk.below hb, s.rf.below hb, s.lst, s.ids, s.bel.trans (hb.mono s.bel.size), s.hB⟩
theorem Sc.drew {w0 w : World} {B g m h : Nat} {v : Value} {l : List Ent} {S : Int → Option Int} (s : Sc w0 w B g m h v l S) : Sc w0 w.drew B g m h v l S := s.below (Below.refl _ _).drew
theorem Sc.kp {w0 w w' : World} {B g m h : Nat} {v : Value} {l : List Ent} {S : Int → Option Int} (s : Sc w0 w B g m h v l S) (hk : Kp B (h :: v.ownBlock.toList) w w') : Rf w' B h v l :=
  s.rf.keep fun j hj => hk.blk j (by rcases hj with rfl | e; simp; simp [e])
theorem Sc.fr {w0 w w1 w' : World} {B g m h n : Nat} {v : Value} {l l' : List Ent} {S S' : Int → Option Int} (s : Sc w0 w B g m h v l S) (hr : Rk w1 B g m l'.length S' (h :: v.ownBlock.toList)) (hk : Kp B (h :: v.ownBlock.toList) w w1) (hL : Lst l' S')
    (hi : ∀ i, i < l'.length → I64 (ent l' i).1 ∧ I64 (ent l' i).2) (hn : l'.length ≤ n) (ht : Rfto w1 B h v l' w') : Bo w0 B g m h n w' := by
  obtain ⟨v', r', f', d'⟩ := ht
  obtain ⟨a1, a2⟩ := hr.fr f' r' d'
  exact ⟨v', l', S', ⟨a1, r', hL, hi, s.bel.trans ((hk.bel.trans a2).mono s.hB), s.hB⟩, hn⟩
/-- What a second call is to return, and leave. -/
def Snd (f : FuncId) (args : Array Value) (r : Value) (Q : World → Prop) (w : World) : Prop := Calls Try.prog f args w fun e w' => e = .returned r ∧ Q w'
theorem put_both {w0 w : World} {B g m h : Nat} {v : Value} {l : List Ent} {S : Int → Option Int} (c : Sc w0 w B g m h v l S) (k s : Int) (hk : I64 k) (hs : I64 s) (hl : l.length ≤ 1000) :
    Calls Try.prog 10 #[.pointer (some ⟨g, 0, none⟩), .int .i64 k, .int .i64 s] w fun e w' => ∃ b, e = .returned (.bool b) ∧ Snd 11 #[.pointer (some ⟨h, 0, none⟩), .int .i64 k, .int .i64 s] (.bool b) (Bo w0 B g m h (l.length + 1)) w' := by
  cases h0 : S k with
  | some s0 =>
    obtain ⟨i, hi, he, hone⟩ := c.lst.some h0
    exact (put_no c.rk k s s0 hk h0).mono fun e w' ⟨e1, e2⟩ => ⟨false, e1, e2 ▸ (put18_no c.rf k s i hi (by rw [he]) hone).mono fun e' w'' ⟨e3, e4⟩ => ⟨e3, e4 ▸ ⟨v, l, S, c, by omega⟩⟩⟩
  | none =>
    refine (put_yes c.rk k s hk hs h0 (by omega)).mono fun e w' ⟨e1, hr, hkp⟩ => ⟨true, e1, (put18_yes (c.kp hkp) k s (c.lst.none h0) (by omega)).mono fun e' w'' ⟨e3, e4⟩ => ⟨e3, c.fr (by simpa using hr) hkp (c.lst.push h0) (fun i hi => ?_) (by simp) e4⟩⟩
    rw [ent_append]
    split
    · rename_i hlt; exact c.ids i hlt
    · have : i - l.length = 0 := by simp at hi; omega
      rw [this]
      exact ⟨hk, hs⟩
theorem drop_both {w0 w : World} {B g m h : Nat} {v : Value} {l : List Ent} {S : Int → Option Int} (c : Sc w0 w B g m h v l S) (k : Int) (hk : I64 k) :
    Calls Try.prog 12 #[.pointer (some ⟨g, 0, none⟩), .int .i64 k] w fun e w' => ∃ b, e = .returned (.bool b) ∧ Snd 13 #[.pointer (some ⟨h, 0, none⟩), .int .i64 k] (.bool b) (Bo w0 B g m h (l.length + 1)) w' := by
  cases h0 : S k with
  | none => exact (drop_no c.rk k hk h0).mono fun e w' ⟨e1, e2⟩ => ⟨false, e1, e2 ▸ (drop18_no c.rf k (c.lst.none h0)).mono fun e' w'' ⟨e3, e4⟩ => ⟨e3, e4 ▸ ⟨v, l, S, c, by omega⟩⟩⟩
  | some s0 =>
    obtain ⟨i, hi, he, hone⟩ := c.lst.some h0
    have hcl := cutAt_len l i hi
    have hL := c.lst.cut hi
    rw [he] at hL
    refine (drop_yes c.rk k s0 hk h0).mono fun e w' ⟨e1, hr, hkp⟩ => ⟨true, e1, (drop18_yes (c.kp hkp) k i hi (by rw [he]) hone).mono fun e' w'' ⟨e3, e4⟩ => ⟨e3, c.fr (by rw [hcl]; exact hr) hkp hL (fun j hj => ?_) (by omega) e4⟩⟩
    rw [ent_cut l i j hi]
    split
    · exact c.ids j (by omega)
    · exact c.ids (j + 1) (by omega)
theorem score_both {w0 w : World} {B g m h : Nat} {v : Value} {l : List Ent} {S : Int → Option Int} (c : Sc w0 w B g m h v l S) (k : Int) (hk : I64 k) :
    Calls Try.prog 16 #[.pointer (some ⟨g, 0, none⟩), .int .i64 k] w fun e w' => ∃ s b, e = .returned (.tuple #[.int .i64 s, .bool b]) ∧ Snd 17 #[.pointer (some ⟨h, 0, none⟩), .int .i64 k] (.tuple #[.int .i64 s, .bool b]) (Bo w0 B g m h (l.length + 1)) w' := by
  refine (score_any c.rk k hk).mono fun e w' ⟨e1, e2⟩ => ⟨_, _, e1, e2 ▸ ?_⟩
  cases h0 : S k with
  | none => exact (score18_no c.rf k (c.lst.none h0)).mono fun e' w'' ⟨e3, e4⟩ => ⟨e3, e4 ▸ ⟨v, l, S, c, by omega⟩⟩
  | some s0 =>
    obtain ⟨i, hi, he, hone⟩ := c.lst.some h0
    exact (score18_yes c.rf k i hi (by rw [he]) hone).mono fun e' w'' ⟨e3, e4⟩ => ⟨by rw [he] at e3; exact e3, e4 ▸ ⟨v, l, S, c, by omega⟩⟩
theorem least_both {w0 w : World} {B g m h : Nat} {v : Value} {l : List Ent} {S : Int → Option Int} (c : Sc w0 w B g m h v l S) :
    Calls Try.prog 14 #[.pointer (some ⟨g, 0, none⟩)] w fun e w' => ∃ k s b, I64 k ∧ I64 s ∧ e = .returned (.tuple #[.int .i64 k, .int .i64 s, .bool b]) ∧ Snd 15 #[.pointer (some ⟨h, 0, none⟩)] (.tuple #[.int .i64 k, .int .i64 s, .bool b]) (fun w'' => Sc w0 w'' B g m h v l S) w' := by
  rcases Nat.eq_zero_or_pos l.length with h0 | h0
  · obtain rfl := List.eq_nil_of_length_eq_zero h0
    exact (least_none c.rk).mono fun e w' ⟨e1, e2⟩ => ⟨0, 0, false, by unfold I64; omega, by unfold I64; omega, e1, e2 ▸ (least18_none c.rf).mono fun e' w'' ⟨e3, e4⟩ => ⟨e3, e4 ▸ c⟩⟩
  · refine (least_some c.rk h0).mono fun e w' ⟨k, s, hL, e1, b1⟩ => ⟨k, s, true, hL.ik, hL.is, e1, (least18_some (c.rf.below b1) h0).mono fun e' w'' ⟨p, hp, e3, b3⟩ => ⟨?_, (c.below b1).below b3⟩⟩
    obtain ⟨⟨i, hi, he⟩, hle⟩ := hp
    have hI : IsLeast S p.1 p.2 := ⟨by rw [← he]; exact c.lst.fwd i hi, fun k' s' hk' => by
      obtain ⟨j, hj, hej⟩ := c.lst.bwd k' s' hk'
      rw [← hej]
      exact hle j hj, by rw [← he]; exact (c.ids i hi).1, by rw [← he]; exact (c.ids i hi).2⟩
    obtain ⟨a1, a2⟩ := hL.one hI
    rw [a1, a2]
    exact e3
end Go.Proofs.Ytplhdmaiammckaa
