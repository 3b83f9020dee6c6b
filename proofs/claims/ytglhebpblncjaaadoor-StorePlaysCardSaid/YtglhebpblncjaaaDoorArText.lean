/- What the helper text of the statements returns, as a contract: so many bytes alike. -/
import Derived.Test.YtglhebpblncjaaaDoorArAlloc
import Derived.Laws.IdiomStrings
namespace Go.Proofs.YtglhebpblncjaaaDoor
open Go.RowKit
set_option linter.unusedVariables false

theorem ainfo_u8 : (Tryd.prog.info? 5).map (fun i => (i.zero, i.size, i.bytes)) = some (some (.int .u8 0), 1, 1) := by kernel_rfl
theorem amade_bytes (W : Nat) : madeCells (Value.int IntKind.u8 0).cells W = bcells (List.replicate W 0) := by
  have h : (madeCells #[Value.int IntKind.u8 0] W).toList = List.replicate W (Value.int IntKind.u8 0) := toList_madeCells_one _ W
  apply Array.toList_inj.1
  have e : (Value.int IntKind.u8 0).cells = #[Value.int IntKind.u8 0] := rfl
  rw [e, h]
  simp [bcells]
theorem amake_bytes (W : Nat) (h8 : W ≤ 100000) (w : World) : (Instr.makeSlice 57 (.int .i64 W) (.int .i64 W)).run Tryd.prog w = .ok (.slice (some ⟨w.heap.size, 0, none⟩) W W) (w.alloc (.cells (bcells (List.replicate W 0)) 5)) := by
  obtain ⟨i0, hi, hz0, hz1, hz2⟩ := info_parts ainfo_u8
  have h := run_make (P := Tryd.prog) w 57 5 i0 (.int .u8 0) Tryd.underlying57 hi hz0 .i64 .i64 W W (by omega) (by omega) (by rw [hz2]; omega) (by omega)
  rw [hz1] at h
  simp only [Int.toNat_natCast, Nat.mul_one] at h
  rw [amade_bytes W] at h
  exact h
theorem aconv_bytes {wr : World} {g W : Nat} {l : List UInt8} (h : Has wr g 5 (bcells l)) (hl : l.length = W) :
    (convert 57 9 (.slice (some ⟨g, 0, none⟩) W W)).run Tryd.prog wr = .ok (.string (str l)) wr := by
  subst hl
  refine run_convert_bytes_back wr 57 9 5 ⟨g, 0, none⟩ l.length l Tryd.underlying57 Tryd.underlying5 Tryd.underlying9 ?_
  intro j hj
  rw [Go.WideShapes.add_plain, Nat.zero_add]
  exact (h.cell j).trans (bcells_get l j hj)

/-- So many bytes, each of them c. -/
def txt (n : Nat) (c : Int) : List UInt8 := List.replicate n (UInt8.ofNat c.toNat)
theorem txt_length (n : Nat) (c : Int) : (txt n c).length = n := by simp [txt]
def half (n : Nat) (c : Int) (k : Nat) : List UInt8 := List.replicate k (UInt8.ofNat c.toNat) ++ List.replicate (n - k) 0
theorem half_zero (n : Nat) (c : Int) : half n c 0 = List.replicate n 0 := by simp [half]
theorem half_all (n : Nat) (c : Int) : half n c n = txt n c := by simp [half, txt]
theorem half_length (n : Nat) (c : Int) (k : Nat) (h : k ≤ n) : (half n c k).length = n := by simp [half]; omega
theorem half_succ (n : Nat) (c : Int) (k : Nat) (h : k < n) : (half n c k).set k (UInt8.ofNat c.toNat) = half n c (k + 1) := by
  unfold half
  obtain ⟨m, hm⟩ : ∃ m, n - k = m + 1 := ⟨n - k - 1, by omega⟩
  rw [hm, show n - (k + 1) = m by omega, List.replicate_succ, List.set_append_right _ _ (by simp)]
  simp [List.replicate_succ', List.append_assoc]
theorem byte_int (c : Int) (h0 : 0 ≤ c) (h1 : c ≤ 255) : ((UInt8.ofNat c.toNat).toNat : Int) = c := by
  rw [UInt8.toNat_ofNat']; omega
theorem has_txt {wr : World} {g : Nat} {t : TypeId} {n k : Nat} {c : Int} (h0 : 0 ≤ c) (h1 : c ≤ 255) (h : Has wr g t (bcells (half n c k))) (hlt : k < n) :
    Has (wr.setCell ⟨g, k, none⟩ (.int .u8 c)) g t (bcells (half n c (k + 1))) := by
  have := h.put k (.int .u8 c)
  rw [← half_succ n c k hlt, ← bcells_set, byte_int c h0 h1]
  exact this

end Go.Proofs.YtglhebpblncjaaaDoor
