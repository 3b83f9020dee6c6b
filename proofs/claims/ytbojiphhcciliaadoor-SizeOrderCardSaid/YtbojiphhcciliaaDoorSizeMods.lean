/- The numbers of a slice, each modulo 1025: how many they are, and that each is at most 1024. -/
import Derived.Test.YtbojiphhcciliaaDoorSizeSum
namespace Go.Proofs.YtbojiphhcciliaaDoor
open Go.RowKit

/-- The first k numbers, each modulo 1025. -/
def mods (zs : List Int) (k : Nat) : List Int := (zs.take k).map (· % 1025)
theorem mods_len {zs : List Int} {k : Nat} (h : k ≤ zs.length) : (mods zs k).length = k := by simp [mods]; omega
theorem mods_succ {zs : List Int} {k : Nat} (h : k < zs.length) : mods zs (k + 1) = mods zs k ++ [zs.getD k 0 % 1025] := by
  rw [mods, mods, List.take_succ_eq_append_getElem h, List.map_append]
  simp [List.getD, h]
theorem mods_small (zs : List Int) (k : Nat) : Small (mods zs k) := by
  intro x hx
  simp only [mods, List.mem_map] at hx
  obtain ⟨y, _, rfl⟩ := hx
  omega
theorem getD_u16 {zs : List Int} (h : ∀ n ∈ zs, (Lit.int .u16 n).wf = true) {k : Nat} (hk : k < zs.length) : 0 ≤ zs.getD k 0 ∧ zs.getD k 0 ≤ 65535 := by
  have e : zs.getD k 0 = zs[k] := by simp [List.getD, hk]
  rw [e]
  have := bounds_u16 (h _ (List.getElem_mem hk))
  exact ⟨this.1, this.2⟩
end Go.Proofs.YtbojiphhcciliaaDoor
