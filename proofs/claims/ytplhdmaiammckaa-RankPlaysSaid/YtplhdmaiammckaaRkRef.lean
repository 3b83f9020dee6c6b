/- The document's own rank: what its calls return, and leave. -/
import Derived.Test.YtplhdmaiammckaaRkBools
import Derived.Deep.RegionHeld3
namespace Go.Proofs.Ytplhdmaiammckaa
open Go.RowKit
set_option linter.unusedVariables false

/-- The document's rank at h, its slice v, its items l, as they came. -/
structure Rf (w : World) (B h : Nat) (v : Value) (l : List Ent) : Prop where
  blk : Has w h 29 #[v]
  row : w.ownsRow B 63 2 v l.length (ecells l)
  bh : B ≤ h
  vh : v.ownBlock ≠ some h
  few : l.length ≤ 100000
theorem Rf.keep {w w' : World} {B h : Nat} {v : Value} {l : List Ent} (r : Rf w B h v l) (hk : ∀ k, k = h ∨ v.ownBlock = some k → w'.heap[k]? = w.heap[k]?) : Rf w' B h v l :=
  ⟨(hk h (.inl rfl)).trans r.blk, row_keep r.row fun k e => hk k (.inr e), r.bh, r.vh, r.few⟩
theorem Rf.lt {w : World} {B h : Nat} {v : Value} {l : List Ent} (r : Rf w B h v l) : h < w.heap.size ∧ ∀ k, v.ownBlock = some k → k < w.heap.size := ⟨r.blk.lt, fun k e => (r.row.lt k e).2⟩
theorem Rf.below {w w' : World} {B h : Nat} {v : Value} {l : List Ent} (r : Rf w B h v l) (hb : Below w.heap.size w w') : Rf w' B h v l :=
  r.keep fun k hk => hb.block k (by rcases hk with rfl | e; exact r.lt.1; exact r.lt.2 k e)
theorem Rf.shape {w : World} {B h : Nat} {v : Value} {l : List Ent} (r : Rf w B h v l) (hl : 0 < l.length) : ∃ b c, v = .slice (some ⟨b, 0, none⟩) l.length c ∧ l.length ≤ c ∧ c ≤ maxLen ∧ b ≠ h ∧ B ≤ b := by
  have hvh := r.vh
  rcases r.row.2 with ⟨rfl, h0⟩ | ⟨q, cap, cur, rfl, hb, hgg, hc1, hc2, _⟩
  · omega
  · exact ⟨q, cap, rfl, hc1, hc2, fun e => hvh (by rw [← e]; rfl), hb⟩
theorem Rf.cells {w : World} {B h b c : Nat} {l : List Ent} (r : Rf w B h (.slice (some ⟨b, 0, none⟩) l.length c) l) (i : Nat) (hi : i < l.length) :
    w.cell? ⟨b, i * 2, none⟩ = some (.int .i64 (ent l i).1) ∧ w.cell? ⟨b, i * 2 + 1, none⟩ = some (.int .i64 (ent l i).2) := by
  obtain ⟨g1, g2⟩ := ecells_get l i hi
  have := ecells_len l
  exact ⟨(r.row.cellAt _ (by omega)).trans g1, (r.row.cellAt _ (by omega)).trans g2⟩
/-- What a deed on it may turn. -/
structure Fr (h : Nat) (o : Option Nat) (w w' : World) : Prop where
  os : w'.os = w.os
  tape : w'.tape = w.tape
  output : w'.output = w.output
  size : w.heap.size ≤ w'.heap.size
  block : ∀ k, k < w.heap.size → k ≠ h → o ≠ some k → w'.heap[k]? = w.heap[k]?
set_option maxHeartbeats 1000000 in
theorem find_yes {w : World} {B h : Nat} {v : Value} {l : List Ent} (r : Rf w B h v l) (k : Int) (i : Nat) (hi : i < l.length) (he : (ent l i).1 = k) (hone : ∀ j, j < i → (ent l j).1 ≠ k) :
    Calls Try.prog 24 #[.pointer (some ⟨h, 0, none⟩), .int .i64 k] w fun e w' => e = .returned (.int .i64 i) ∧ w' = w := by
  obtain ⟨b, c, rfl, hc1, hc2, hbh, -⟩ := r.shape (by omega)
  have c0 : w.cell? ⟨h, 0, none⟩ = some (.slice (some ⟨b, 0, none⟩) l.length c) := r.blk.cell 0
  have HR := Lib.hid r
  have HE := Lib.hid he
  have HO := Lib.hid hone
  have hf := r.few
  clear r he hone
  generalize hn : l.length = n at *
  have HN := Lib.hid hn
  clear hn
  go_enter Try.func24, Try.ntmps24
  go_wp2
  go_loop [5] (fun iv => ∃ j : Nat, j ≤ i ∧ iv = .int .i64 j) (fun iv => i + 1 - (intOf iv).toNat)
  case atStart => exact ⟨0, by omega, rfl⟩
  case round =>
    obtain ⟨j, hj, rfl⟩ := hrel
    have hjn : j < n := by omega
    have hcl := (show Rf w B h (.slice (some ⟨b, 0, none⟩) l.length c) l by rw [HN.out]; exact HR.out).cells j (by rw [HN.out]; exact hjn)
    obtain ⟨p0, -⟩ := hcl
    by_cases hji : j = i
    · subst hji
      rw [HE.out] at p0
      go_wp2
      go_ret
      exact ⟨rfl, rfl⟩
    · have hne := HO.out j (by omega)
      generalize (ent l j).1 = x at *
      have hnb : (x == k) = false := by simpa using hne
      go_wp2
      go_round
      case rel => exact ⟨j + 1, by omega, by go_num⟩
      case measure => simp [intOf]; omega
set_option maxHeartbeats 1000000 in
theorem find_no {w : World} {B h : Nat} {v : Value} {l : List Ent} (r : Rf w B h v l) (k : Int) (hone : ∀ j, j < l.length → (ent l j).1 ≠ k) :
    Calls Try.prog 24 #[.pointer (some ⟨h, 0, none⟩), .int .i64 k] w fun e w' => e = .returned (.int .i64 (-1)) ∧ w' = w := by
  obtain ⟨A, c, rfl, hc1, hc2⟩ := own_any r.row
  have c0 : w.cell? ⟨h, 0, none⟩ = some (.slice A l.length c) := r.blk.cell 0
  have HR := Lib.hid r
  have HO := Lib.hid hone
  have hf := r.few
  clear r hone
  generalize hn : l.length = n at *
  have HN := Lib.hid hn
  clear hn
  go_enter Try.func24, Try.ntmps24
  go_wp2
  go_loop [5] (fun iv => ∃ j : Nat, j ≤ n ∧ iv = .int .i64 j) (fun iv => n - (intOf iv).toNat)
  case atStart => exact ⟨0, by omega, rfl⟩
  case round =>
    obtain ⟨j, hj, rfl⟩ := hrel
    by_cases hjn : j < n
    · have hr := HR.out
      rw [← HN.out] at hr
      obtain ⟨b, c', he, -, -, -, -⟩ := hr.shape (by rw [HN.out]; omega)
      cases he
      obtain ⟨p0, -⟩ := hr.cells j (by rw [HN.out]; exact hjn)
      have hne := HO.out j hjn
      clear hr
      generalize (ent l j).1 = x at *
      have hnb : (x == k) = false := by simpa using hne
      go_wp2
      go_round
      case rel => exact ⟨j + 1, by omega, by go_num⟩
      case measure => simp [intOf]; omega
    · go_wp2
      go_ret
      exact ⟨rfl, rfl⟩
end Go.Proofs.Ytplhdmaiammckaa
