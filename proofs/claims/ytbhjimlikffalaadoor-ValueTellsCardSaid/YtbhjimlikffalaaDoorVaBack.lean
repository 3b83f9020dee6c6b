/- Layer 8: what is bound, as it lies in memory; slices.Backward over it; slices.Index of a text. -/
import Derived.RangeFuncNested
import Derived.RangeFuncBound
import Derived.RangeFuncCalls
import Derived.RangeFuncLeaves
import Derived.Shelf.Abstract
import Derived.OwnWalkIn
import Derived.TacticsInMore
import Derived.LoopNIn
import Derived.LoopIn
import Derived.Test.YtbhjimlikffalaaDoorVaNums
namespace Go.Proofs.YtbhjimlikffalaaDoor
open Go.RowKit
set_option linter.unusedVariables false

attribute [local go_sem] Oper.semAt_some
/-- What is bound: a name, fields, numbers; where they lie. -/
structure Bd where
  v : Nm
  A : Option Addr
  fs : List Nm
  c : Nat
  B : Option Addr
  vs : List Int
  d : Nat
def Bd.val (x : Bd) : Value := .agg #[.string (str x.v), .slice x.A x.fs.length x.c, .slice x.B x.vs.length x.d]
/-- A slice of numbers. -/
def Nums (w : World) (A : Option Addr) (c : Nat) (l : List Int) : Prop := Lies w A (l.map (Value.int .i64)) ∧ (A = none → c = 0) ∧ l.length ≤ c ∧ c ≤ maxLen
theorem Nums.below {w w' : World} {A : Option Addr} {c : Nat} {l : List Int} (h : Nums w A c l) (hb : Below w.heap.size w w') : Nums w' A c l := ⟨h.1.below hb, h.2⟩
theorem Nums.cap {w : World} {A : Option Addr} {c : Nat} {l : List Int} (h : Nums w A c l) : l.length ≤ 9223372036854775807 := by
  have := h.2.2; unfold maxLen at this; omega
theorem Nums.at_ {w : World} {A : Option Addr} {c : Nat} {l : List Int} (h : Nums w A c l) {i : Nat} (hi : i < l.length) : ∃ b off, A = some ⟨b, off, none⟩ ∧ w.cell? ⟨b, off + i, none⟩ = some (.int .i64 l[i]) :=
  h.1.at_ (i := i) (u := .int .i64 l[i]) (by simp [hi])
/-- What the i-th place behind A bears. -/
def BdAt (w : World) (A : Option Addr) (i : Nat) (x : Bd) : Prop := ∃ b off, A = some ⟨b, off, none⟩ ∧ w.cell? ⟨b, off + i * 3, none⟩ = some (.string (str x.v)) ∧ w.cell? ⟨b, off + i * 3 + 1, none⟩ = some (.slice x.A x.fs.length x.c) ∧ w.cell? ⟨b, off + i * 3 + 2, none⟩ = some (.slice x.B x.vs.length x.d)
theorem BdAt.below {w w' : World} {A : Option Addr} {i : Nat} {x : Bd} (h : BdAt w A i x) (hb : Below w.heap.size w w') : BdAt w' A i x := by
  obtain ⟨b, off, rfl, h0, h1, h2⟩ := h
  have g : ∀ o v, w.cell? ⟨b, o, none⟩ = some v → w'.cell? ⟨b, o, none⟩ = some v := fun o v h => (hb.cell (World.block_lt_of_cell? _ _ h)).trans h
  exact ⟨b, off, rfl, g _ _ h0, g _ _ h1, g _ _ h2⟩
/-- Binds in memory. -/
def Bds (w : World) (A : Option Addr) (c : Nat) (l : List Bd) : Prop :=
  (∀ i x, l[i]? = some x → BdAt w A i x ∧ Strs w x.A x.c x.fs ∧ Nums w x.B x.d x.vs) ∧ (A = none → c = 0) ∧ l.length ≤ c ∧ c ≤ maxLen
theorem Bds.below {w w' : World} {A : Option Addr} {c : Nat} {l : List Bd} (h : Bds w A c l) (hb : Below w.heap.size w w') : Bds w' A c l :=
  ⟨fun i x hx => ⟨(h.1 i x hx).1.below hb, (h.1 i x hx).2.1.below hb, (h.1 i x hx).2.2.below hb⟩, h.2⟩
theorem Bds.nil (w : World) : Bds w none 0 [] := ⟨fun i u hu => by simp at hu, fun _ => rfl, Nat.le_refl _, Nat.zero_le _⟩
theorem Bds.cap {w : World} {A : Option Addr} {c : Nat} {l : List Bd} (h : Bds w A c l) : l.length ≤ 9223372036854775807 := by
  have := h.2.2; unfold maxLen at this; omega

/-- What has come when k rounds are over. -/
def upto {α : Type} (f : Nat → α) (k : Nat) : List α := (List.range k).map f
theorem upto_succ {α : Type} (f : Nat → α) (k : Nat) : upto f (k + 1) = upto f k ++ [f k] := by simp [upto, List.range_succ]
theorem upto_length {α : Type} (f : Nat → α) (k : Nat) : (upto f k).length = k := by simp [upto]
theorem upto_mem {α : Type} {f : Nat → α} {k j : Nat} (h : j < k) : f j ∈ upto f k := by simp only [upto, List.mem_map, List.mem_range]; exact ⟨j, h, rfl⟩
theorem mem_upto {α : Type} {f : Nat → α} {k : Nat} {x : α} (h : x ∈ upto f k) : ∃ j, j < k ∧ x = f j := by
  simp only [upto, List.mem_map, List.mem_range] at h
  obtain ⟨j, hj, rfl⟩ := h
  exact ⟨j, hj, rfl⟩

/-- An index of l. -/
abbrev Ix (l : List Bd) := { i : Nat // i < l.length }
def encB {l : List Bd} (x : Ix l) : Array Value := #[.int .i64 (x.1 : Int), l[x.1].val]
/-- From the last on. -/
def fB {l : List Bd} (h : 0 < l.length) (j : Nat) : Ix l := ⟨l.length - 1 - j, by omega⟩

set_option maxRecDepth 100000 in
set_option maxHeartbeats 2000000 in
/-- slices.Backward's closure, whatever the loop's body, as long as that keeps what lay below n₀. -/
theorem back1_in (n : Nat) (hn : 1 ≤ n) (lp Bs n₀ b off c : Nat) (xs : List Bd) (h0s : 0 < xs.length) (hcap : xs.length ≤ 9223372036854775807) (hb : b < n₀) (hBn : Bs < n₀) (J Jx : List (Ix xs) → World → Prop)
    (hY : ∀ pre x W, J pre W → pre.length < xs.length → YieldAt Fence.wide (n - 1) Tryd.prog lp (encB x) W fun e W' =>
      (e = .returned (.bool true) ∧ J (pre ++ [x]) W' ∧ Below n₀ W W') ∨ (e = .returned (.bool false) ∧ Jx (pre ++ [x]) W'))
    (W : World) (hBs : W.cell? ⟨Bs, 0, none⟩ = some (.slice (some ⟨b, off, none⟩) xs.length c))
    (hc : ∀ j (h : j < xs.length), W.cell? ⟨b, off + j * 3, none⟩ = some (.string (str xs[j].v)) ∧ W.cell? ⟨b, off + j * 3 + 1, none⟩ = some (.slice xs[j].A xs[j].fs.length xs[j].c) ∧ W.cell? ⟨b, off + j * 3 + 2, none⟩ = some (.slice xs[j].B xs[j].vs.length xs[j].d)) (h0 : J [] W) :
    CallsIn Fence.wide n Tryd.prog 83 #[.func (.yield lp) #[] #[], .pointer (some ⟨Bs, 0, none⟩)] W fun e W' => (∃ v, e = .returned v) ∧
      ((∃ ys, ys = upto (fB h0s) xs.length ∧ J ys W') ∨ (∃ pre, (∃ k, k ≤ xs.length ∧ pre = upto (fB h0s) k) ∧ Jx pre W')) := by
  refine callsIn_of_wp Tryd.func83 rfl trivial ?_ rfl
  simp only [Tryd.ntmps83, List.size_toArray, List.length_cons, List.length_nil, Nat.reduceAdd, Nat.reduceSub, Array.replicate_succ, Array.replicate_zero, List.push_toArray, List.append_toArray, List.nil_append, List.cons_append]
  gi_wp2
  gi_loopw [3] (fun i wr => ∃ k : Nat, k ≤ xs.length ∧ i = .int .i64 ((xs.length : Int) - 1 - k) ∧ J (upto (fB h0s) k) wr ∧ Below n₀ W wr)
    (fun i _ => (intOf i + 1).toNat)
  case atStart => exact ⟨0, Nat.zero_le _, by simp, h0, Below.refl _ _⟩
  case round =>
    obtain ⟨k, hk, rfl, hJs, hnx⟩ := hrel
    have hB2 := (hnx.cell (p := ⟨Bs, 0, none⟩) hBn).trans hBs
    by_cases hlt : k < xs.length
    · have hx : (fB h0s k).1 = xs.length - 1 - k := rfl
      obtain ⟨x, hxe⟩ : ∃ x : Ix xs, fB h0s k = x := ⟨_, rfl⟩
      rw [hxe] at hx
      obtain ⟨c0, c1, c2⟩ := hc x.1 x.2
      have d0 := (hnx.cell (p := ⟨b, off + x.1 * 3, none⟩) hb).trans c0
      have d1 := (hnx.cell (p := ⟨b, off + x.1 * 3 + 1, none⟩) hb).trans c1
      have d2 := (hnx.cell (p := ⟨b, off + x.1 * 3 + 2, none⟩) hb).trans c2
      have hxi : (xs.length : Int) - 1 - k = (x.1 : Int) := by omega
      have hxl := x.2
      obtain ⟨fn, tmps, assign, body, hy, hR⟩ := hY _ x wr hJs (by rw [upto_length]; exact hlt)
      dsimp only [encB, Bd.val] at hy
      have HU := Lib.hid (upto_succ (fB h0s) k)
      rw [hxe] at HU
      have HX := Lib.hid hxe
      have HXX := Lib.hid hx
      have HC := Lib.hid hc
      clear hc c0 c1 c2 hxe hx
      rw [hxi]
      gi_wp2
      refine hR.mono ?_
      rintro e W3 (⟨rfl, hJ3, hk3⟩ | ⟨rfl, hJx3⟩)
      · gi_wp2
        go_roundw
        case rel => exact ⟨k + 1, by omega, by have := HXX.out; simp; omega, by rw [HU.out]; exact hJ3, hnx.trans hk3⟩
        case measure => simp [intOf]
      · gi_wp2
        refine bodyPost_ret (results_none rfl _ _ _) rfl ?_
        exact ⟨⟨_, rfl⟩, .inr ⟨_, ⟨k + 1, by omega, HU.out.symm⟩, hJx3⟩⟩
    · obtain rfl : k = xs.length := by omega
      gi_wp2
      go_end0
      exact ⟨⟨_, rfl⟩, .inl ⟨_, rfl, hJs⟩⟩

set_option maxRecDepth 100000 in
set_option maxHeartbeats 1000000 in
/-- .. where there is nothing: no round. -/
theorem back1_nil (n : Nat) (lp Bs : Nat) (A : Option Addr) (c : Nat) (J : World → Prop) (W : World) (hBs : W.cell? ⟨Bs, 0, none⟩ = some (.slice A 0 c)) (h0 : J W) :
    CallsIn Fence.wide n Tryd.prog 83 #[.func (.yield lp) #[] #[], .pointer (some ⟨Bs, 0, none⟩)] W fun e W' => (∃ v, e = .returned v) ∧ J W' := by
  refine callsIn_of_wp Tryd.func83 rfl trivial ?_ rfl
  simp only [Tryd.ntmps83, List.size_toArray, List.length_cons, List.length_nil, Nat.reduceAdd, Nat.reduceSub, Array.replicate_succ, Array.replicate_zero, List.push_toArray, List.append_toArray, List.nil_append, List.cons_append]
  gi_wp2
  gi_loopw [3] (fun i wr => i = .int .i64 (-1) ∧ J wr) (fun _ _ => 0)
  case atStart => exact ⟨rfl, h0⟩
  case round =>
    obtain ⟨rfl, hJs⟩ := hrel
    gi_wp2
    go_end0
    exact ⟨⟨_, rfl⟩, hJs⟩
set_option maxHeartbeats 1000000 in
/-- slices.Backward: the slice is boxed; the function value captures the box. -/
theorem back_in (n : Nat) (A : Option Addr) (m c : Nat) (w : World) :
    CallsIn Fence.wide n Tryd.prog 62 #[.slice A m c] w fun e w' => e = .returned (.func (.func 83) #[] #[.pointer (some ⟨w.heap.size, 0, none⟩)]) ∧ w' = w.alloc (.cells #[.slice A m c] 45) := by
  refine callsIn_of_wp Tryd.func62 rfl trivial ?_ rfl
  simp only [Tryd.ntmps62, List.size_toArray, List.length_cons, List.length_nil, Nat.reduceAdd, Nat.reduceSub, Array.replicate_succ, Array.replicate_zero, List.push_toArray, List.append_toArray, List.nil_append, List.cons_append]
  gi_wp2
  go_ret
  exact ⟨rfl, rfl⟩
/-- What comes of the whole slice, from its end; or a part of it. -/
theorem back_stops (n : Nat) (hn : 1 ≤ n) (Bs n₀ : Nat) (A : Option Addr) (c : Nat) (xs : List Bd) (w : World) (hBn : Bs < n₀) (hn₀ : n₀ ≤ w.heap.size)
    (hc : w.cell? ⟨Bs, 0, none⟩ = some (.slice A xs.length c)) (hI : Bds w A c xs) (hlow : ∀ a, 0 < xs.length → A = some a → a.block < n₀) :
    SeqStopsK Fence.wide n Tryd.prog 83 #[.pointer (some ⟨Bs, 0, none⟩)] (encB (l := xs)) (Below n₀)
      (fun ys => ys.length = xs.length ∧ ∀ j (h : 0 < xs.length), j < xs.length → fB h j ∈ ys) (fun pre => ∃ k, k ≤ xs.length ∧ ∀ h : 0 < xs.length, pre = upto (fB h) k) xs.length w := fun l J Jx W hW _ _ hY h0 => by
  have hc' := (hW.cell (p := ⟨Bs, 0, none⟩) (Nat.lt_of_lt_of_le hBn hn₀)).trans hc
  by_cases hs : 0 < xs.length
  · have hb := hI.below hW
    obtain ⟨b, off, rfl, -, -, -⟩ := (hb.1 0 xs[0] (by simp [hs])).1
    refine (back1_in n hn l Bs n₀ b off c xs hs hI.cap (hlow _ hs rfl) hBn J Jx hY W hc' ?_ h0).mono ?_
    · intro j hj
      obtain ⟨b', off', e, e0, e1, e2⟩ := (hb.1 j xs[j] (by simp [hj])).1
      cases e
      exact ⟨e0, e1, e2⟩
    · rintro e W' ⟨he, ⟨ys, rfl, hj⟩ | ⟨pre, ⟨k, hk, rfl⟩, hj⟩⟩
      · exact ⟨he, .inl ⟨_, ⟨upto_length _ _, fun j _ hj => upto_mem hj⟩, hj⟩⟩
      · exact ⟨he, .inr ⟨_, ⟨k, hk, fun _ => rfl⟩, hj⟩⟩
  · have hz : xs.length = 0 := by omega
    rw [hz] at hc'
    refine (back1_nil n l Bs A c (J []) W hc' h0).mono fun e W' ⟨he, hj⟩ => ⟨he, .inl ⟨_, ⟨by simp [hz], fun j h => absurd h hs⟩, hj⟩⟩

/-- slices.Index of a text. -/
def indexV (l : List Nm) (f : Nm) : Int := idx (fun s => s == f) l
set_option maxHeartbeats 1000000 in
theorem index_any (A : Option Addr) (c : Nat) (l : List Nm) (f : Nm) (w : World) (hl : Strs w A c l) :
    Calls Tryd.prog 63 #[.slice A l.length c, .string (str f)] w fun e w' => e = .returned (.int .i64 (indexV l f)) ∧ w = w' := by
  have hcap := hl.cap
  have hsh := Lib.hid (fun h => hl.shape h)
  clear hl
  go_enter Tryd.func63, Tryd.ntmps63
  go_wp2
  go_loop [8] (fun i => ∃ j : Nat, j ≤ l.length ∧ i = .int .i64 j ∧ ∀ k (h : k < l.length), k < j → (l[k] == f) = false) (fun i => l.length - (intOf i).toNat)
  case atStart => exact ⟨0, Nat.zero_le _, rfl, fun k h hk => by omega⟩
  case round =>
    obtain ⟨j, hj, rfl, hp⟩ := hrel
    have HP := Lib.hid hp
    clear hp
    by_cases hlt : j < l.length
    · obtain ⟨b, off, rfl, hc⟩ := hsh.out (by omega)
      have hcj := hc j hlt
      obtain ⟨s, hs⟩ : ∃ s, l[j] = s := ⟨_, rfl⟩
      rw [hs] at hcj
      have e1 := str_toList s
      have e2 := str_toList f
      have HS := Lib.hid hs
      clear hc hs
      cases hsf : (f == s) with
      | true =>
        have he : s = f := by simpa using (eq_of_beq hsf).symm
        subst he
        go_wp2
        go_ret
        exact ⟨ret_int (idx_at _ _ j hlt (by rw [HS.out]; simp) (fun i h hi => HP.out i h hi)).symm, rfl⟩
      | false =>
        go_wp2
        go_round
        case rel => exact ⟨j + 1, by omega, by go_num, fun k h hk => by
          by_cases hkj : k = j
          · subst hkj; rw [HS.out, Bool.eq_false_iff]; intro e; rw [eq_of_beq e] at hsf; simp at hsf
          · exact HP.out k h (by omega)⟩
        case measure => simp [intOf]; omega
    · go_wp2
      go_ret
      exact ⟨ret_int (idx_none _ _ (fun i h => HP.out i h (by omega))).symm, rfl⟩
end Go.Proofs.YtbhjimlikffalaaDoor
