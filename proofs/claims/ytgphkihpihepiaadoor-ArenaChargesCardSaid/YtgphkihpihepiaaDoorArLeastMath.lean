/- Blocks of no bytes, some of which were freed once; and the cells of a slice of bools. -/
import Derived.Test.YtgphkihpihepiaaDoorArPutsWalk
namespace Go.Proofs.YtgphkihpihepiaaDoor
open Go.RowKit
set_option linter.unusedVariables false

/-- n slots: those live for which L says so, the others were freed once. -/
def lsb (b : Bool) : Blk := if b then ⟨[], 16, 1⟩ else ⟨[], 0, 2⟩
def lsl (L : Nat → Bool) (n : Nat) : List Blk := (List.range n).map fun j => lsb (L j)
def lsa (L : Nat → Bool) (n : Nat) : Ar := ⟨65536, 65536, lsl L n⟩
def upd (L : Nat → Bool) (m : Nat) (b : Bool) : Nat → Bool := fun j => if j = m then b else L j
theorem lsl_len (L : Nat → Bool) (n : Nat) : (lsl L n).length = n := by simp [lsl]
theorem lsl_bk (L : Nat → Bool) {n j : Nat} (h : j < n) : bk (lsl L n) j = lsb (L j) := by
  rw [bk_of (by rw [lsl_len]; exact h)]; simp [lsl]
theorem lsl_succ (L : Nat → Bool) (n : Nat) : lsl L (n + 1) = lsl L n ++ [lsb (L n)] := by simp [lsl, List.range_succ]
theorem lsl_chg (L : Nat → Bool) (n : Nat) : chg (lsl L n) ≤ 16 * (n : Int) := by
  induction n with
  | zero => exact Int.le_refl _
  | succ n ih => rw [lsl_succ, chg_snoc]; cases L n <;> simp [lsb] <;> omega
theorem full_lsa (n : Nat) (L : Nat → Bool) (h : ∀ j, j < n → L j = true) : full 65536 n = lsa L n := by
  show (⟨65536, 65536, _⟩ : Ar) = ⟨65536, 65536, _⟩
  congr 1
  apply List.ext_getElem
  · simp [lsl]
  · intro i h1 h2
    have hi : i < n := by simpa using h1
    simp [lsl, h i hi, lsb]
theorem lsa_free (L : Nat → Bool) {n m : Nat} (h : m < n) : hit (lsa L n).l m 1 = L m ∧ fro (lsa L n) m 1 = lsa (upd L m false) n := by
  have hh : hit (lsa L n).l m 1 = L m := by
    show hit (lsl L n) m 1 = L m
    rw [hit, lsl_bk L h]; cases L m <;> rfl
  refine ⟨hh, ?_⟩
  rw [fro, hh]
  have key : ∀ b : Blk, b = lsb false → (lsl L n).set m b = lsl (upd L m false) n := by
    intro b hb
    subst hb
    apply List.ext_getElem
    · simp [lsl]
    · intro i h1 h2
      simp only [lsl, upd, List.getElem_set, List.getElem_map, List.getElem_range]
      by_cases e : m = i
      · subst e; simp
      · rw [if_neg e, if_neg (fun h => e h.symm)]
  cases hL : L m with
  | true =>
    rw [if_pos rfl]
    show (⟨65536, 65536, (lsl L n).set m (frb (bk (lsl L n) m))⟩ : Ar) = ⟨65536, 65536, _⟩
    rw [key _ (by rw [lsl_bk L h, hL]; rfl)]
  | false =>
    rw [if_neg (by decide)]
    show (⟨65536, 65536, lsl L n⟩ : Ar) = ⟨65536, 65536, lsl (upd L m false) n⟩
    rw [← key _ rfl]
    congr 1
    rw [set_self _ m _ (by rw [bk_get (by rw [lsl_len]; exact h), lsl_bk L h, hL])]
theorem lsa_least (L : Nat → Bool) {n m : Nat} (hn : n ≤ 30) (hm : m ≤ n) (h1 : ∀ j, j < m → L j = true) (h2 : m < n → L m = false) :
    aslot (lsa L n) (([120] : List UInt8).length : Int) = (m : Int) ∧ agen (lsa L n) (([120] : List UInt8).length : Int) = (if m < n then 2 else 1) ∧ aerr (lsa L n) (([120] : List UInt8).length : Int) = 0 := by
  have hf : fre (lsa L n).l = m := by
    refine fre_of (fun j hj => ?_) ?_
    · show (bk (lsl L n) j).r != 0
      rw [lsl_bk L (by omega), h1 j hj]; rfl
    · by_cases hlt : m < n
      · show ((bk (lsl L n) m).r != 0) = false
        rw [lsl_bk L hlt, h2 hlt]; rfl
      · exact lvb_ge (by show (lsl L n).length ≤ m; rw [lsl_len]; omega)
  have hb : (bk (lsa L n).l m).g = if m < n then 2 else 1 := by
    show (bk (lsl L n) m).g = _
    by_cases hlt : m < n
    · rw [lsl_bk L hlt, h2 hlt, if_pos hlt]; rfl
    · rw [bk_ge (by rw [lsl_len]; omega), if_neg hlt]; rfl
  have hc := lsl_chg L n
  have he : aerr (lsa L n) (([120] : List UInt8).length : Int) = 0 := aerr_of (by decide) (by show chg (lsl L n) + 16 ≤ 65536; omega) (by rw [hf]; omega)
  exact ⟨by rw [aslot, if_pos he, hf], by rw [agen, if_pos he, hf, hb], he⟩

/-- The cells of bools. -/
def bcl (n : Nat) (L : Nat → Bool) : Array Value := ((List.range n).map fun j => Value.bool (L j)).toArray
theorem bcl_get {n j : Nat} (L : Nat → Bool) (h : j < n) : (bcl n L)[j]? = some (.bool (L j)) := by simp [bcl, h]
theorem bcl_set (n j : Nat) (L : Nat → Bool) (b : Bool) : (bcl n L).setIfInBounds j (.bool b) = bcl n (upd L j b) := by
  unfold bcl
  rw [List.setIfInBounds_toArray]
  congr 1
  apply List.ext_getElem
  · simp
  · intro i h1 h2
    simp only [upd, List.getElem_set, List.getElem_map, List.getElem_range]
    by_cases e : j = i
    · subst e; simp
    · rw [if_neg e, if_neg (fun h => e h.symm)]
theorem bcl_ext {n : Nat} {L M : Nat → Bool} (h : ∀ j, j < n → L j = M j) : bcl n L = bcl n M := by
  unfold bcl
  congr 1
  apply List.map_congr_left
  intro j hj
  rw [h j (by simpa using hj)]
theorem info_bool : (Tryd.prog.info? 4).map (fun i => (i.zero, i.size, i.bytes)) = some (some (.bool false), 1, 1) := by kernel_rfl
theorem made_bools (W : Nat) : madeCells (Value.bool false).cells W = bcl W (fun _ => false) := by
  have h : (madeCells #[Value.bool false] W).toList = List.replicate W (Value.bool false) := toList_madeCells_one _ W
  apply Array.toList_inj.1
  have e : (Value.bool false).cells = #[Value.bool false] := rfl
  rw [e, h]
  simp [bcl, List.map_const']
theorem make_bools (W : Nat) (h8 : W ≤ 100000) (w : World) : (Instr.makeSlice 70 (.int .i64 W) (.int .i64 W)).run Tryd.prog w = .ok (.slice (some ⟨w.heap.size, 0, none⟩) W W) (w.alloc (.cells (bcl W (fun _ => false)) 4)) := by
  obtain ⟨i0, hi, hz0, hz1, hz2⟩ := info_parts info_bool
  have h := run_make (P := Tryd.prog) w 70 4 i0 (.bool false) Tryd.underlying70 hi hz0 .i64 .i64 W W (by omega) (by omega) (by rw [hz2]; omega) (by omega)
  rw [hz1] at h
  simp only [Int.toNat_natCast, Nat.mul_one] at h
  rw [made_bools W] at h
  exact h
end Go.Proofs.YtgphkihpihepiaaDoor
