/- How many bits a number has, where it has 55 to 63. -/
import Derived.Test.YtplhdmaiammckaaRkDiv
import Derived.Lib.Strings
import Derived.Lib.Slices
import Derived.Lib.Small
import Derived.Lib.Walk
import Derived.Lib.BitFns
namespace Go.Proofs.Ytplhdmaiammckaa
open Go.RowKit
set_option linter.unusedVariables false

theorem tab_size : Lib.len8tab.size = 256 := by decide +kernel
theorem tab_fin : ∀ n : Fin 256, (Lib.len8tab[n.val]'(by rw [tab_size]; exact n.isLt)).toNat = Lib.bitLen n.val := by decide +kernel
theorem tab_at (n : Nat) (h : n < Lib.len8tab.size) : (Lib.len8tab[n]'h).toNat = Lib.bitLen n := tab_fin ⟨n, by rw [← tab_size]; exact h⟩
theorem fin_add (k b : Nat) (hk : k ≤ 64) (hb : b ≤ 8) : wrap64 ((k : Int) + wrap64 (b : Int)) = ((k + b : Nat) : Int) := by unfold wrap64; omega
theorem pass56 (y : Nat) (h1 : 72057594037927936 ≤ y) (h2 : y < 18446744073709551616) : Lib.bitLen y = 56 + Lib.bitLen (y / 72057594037927936) := Lib.bitLen_shift56 y h1 h2
theorem pass48 (y : Nat) (h1 : 281474976710656 ≤ y) (h2 : y < 18446744073709551616) : Lib.bitLen y = 48 + Lib.bitLen (y / 281474976710656) := Lib.bitLen_shift48 y h1 h2
theorem div56 (y : Int) (h : 0 ≤ y) : (y / 4294967296 / 65536 / 256).toNat = y.toNat / 72057594037927936 := by omega
theorem div48 (y : Int) (h : 0 ≤ y) : (y / 4294967296 / 65536).toNat = y.toNat / 281474976710656 := by omega
set_option maxHeartbeats 4000000 in
set_option maxRecDepth 100000 in
theorem len_int (y : Int) (h1 : 18014398509481984 ≤ y) (h2 : y ≤ 9223372036854775807) (w : World) :
    Calls Try.prog 32 #[.int .u64 y] w fun e w' => e = .returned (.int .i64 (Lib.bitLen y.toNat : Nat)) ∧ w = w' := by
  have k0 : 4294967296 ≤ y := by omega
  have k1 : 65536 ≤ y / 4294967296 := by omega
  have k2 : 64 ≤ y / 4294967296 / 65536 := by omega
  by_cases hb : 256 ≤ y / 4294967296 / 65536
  ·
    have hc0 : 0 ≤ y / 4294967296 / 65536 / 256 := by omega
    have hc1 : y / 4294967296 / 65536 / 256 < (Lib.len8tab.size : Int) := by rw [tab_size]; omega
    have hc2 : y / 4294967296 / 65536 / 256 < 256 := by omega
    have he := div56 y (by omega)
    have hl := Lib.bitLen_le8' (y / 4294967296 / 65536 / 256) hc0 (by omega)
    rw [he] at hl
    have HE := Lib.hid he
    have HL := Lib.hid hl
    have HS := Lib.hid (pass56 y.toNat (by omega) (by omega))
    have HT : Hid ((y / 4294967296 / 65536 / 256).toNat < Lib.len8tab.size) := Lib.hid (by rw [tab_size]; omega)
    clear he hl
    go_enter Try.func32, Try.ntmps32
    go_wp2
    go_ret
    refine ⟨ret_int ?_, rfl⟩
    rw [tab_at (y / 4294967296 / 65536 / 256).toNat HT.out, HE.out, HS.out]
    exact fin_add 56 _ (by decide) HL.out
  ·
    have hc0 : 0 ≤ y / 4294967296 / 65536 := by omega
    have hc1 : y / 4294967296 / 65536 < (Lib.len8tab.size : Int) := by rw [tab_size]; omega
    have hc2 : y / 4294967296 / 65536 < 256 := by omega
    have he := div48 y (by omega)
    have hl := Lib.bitLen_le8' (y / 4294967296 / 65536) hc0 (by omega)
    rw [he] at hl
    have HE := Lib.hid he
    have HL := Lib.hid hl
    have HS := Lib.hid (pass48 y.toNat (by omega) (by omega))
    have HT : Hid ((y / 4294967296 / 65536).toNat < Lib.len8tab.size) := Lib.hid (by rw [tab_size]; omega)
    clear he hl
    go_enter Try.func32, Try.ntmps32
    go_wp2
    go_ret
    refine ⟨ret_int ?_, rfl⟩
    rw [tab_at (y / 4294967296 / 65536).toNat HT.out, HE.out, HS.out]
    exact fin_add 48 _ (by decide) HL.out
end Go.Proofs.Ytplhdmaiammckaa
