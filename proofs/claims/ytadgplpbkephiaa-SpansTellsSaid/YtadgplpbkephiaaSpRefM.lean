/- The appends of the document's Add, one behind the other. -/
import Derived.Test.YtadgplpbkephiaaSpAdd
import Derived.Test.YtadgplpbkephiaaSpCover
namespace Go.Proofs.Ytadgplpbkephiaa
open Go.RowKit
set_option linter.unusedVariables false

/-- The three appends that put a number in its place. -/
structure PutR (w2 w3 w4 w5 : World) (A B C : Option Addr) (i n c m d e : Nat) (x y : Int) (v1 v2 : Value) (T : List Sp) : Prop where
  r1 : (Builtin.append_ #[22, 22] 22 #[.slice none 0 0, .slice A i c]).run Try.prog w2 = .ok v1 w3
  r2 : (Builtin.append_ #[22, 22] 22 #[v1, .slice (some ⟨w3.heap.size, 0, none⟩) 1 1]).run Try.prog (w3.alloc (.cells #[.int .i64 x, .int .i64 y] 43)) = .ok v2 w4
  r3 : (Builtin.append_ #[22, 22] 22 #[v2, .slice B m d]).run Try.prog w4 = .ok (.slice C n e) w5
  b3 : Below w2.heap.size w2 w3
  b4 : Below w2.heap.size w2 w4
  b5 : Below w2.heap.size w2 w5
  sl : Sl w5 C n e T
theorem put_runs {w2 : World} {A B : Option Addr} {i c m d : Nat} {S T : List Sp} (h : Sl w2 A i c S) (k : Sl w2 B m d T) (x y : Int) {n : Nat} (hn : i + 1 + m = n) (hl : n ≤ 1000) :
    ∃ w3 w4 w5 C e v1 v2, PutR w2 w3 w4 w5 A B C i n c m d e x y v1 v2 (S ++ [(x, y)] ++ T) := by
  have l1 := h.len
  have l2 := k.len
  obtain ⟨v1, w3, r1, o1, g1, s1⟩ := sp_app (ow_nil w2 w2.heap.size) (Nat.le_refl _) h (by simp; omega)
  simp only [List.nil_append] at o1
  have b3 : Below w2.heap.size w2 w3 := Ow.bel (Below.refl _ _) (Nat.le_refl _) g1 (ow_nil w2 w2.heap.size) (Nat.le_refl _)
  have ba : Below w2.heap.size w2 (w3.alloc (.cells #[.int .i64 x, .int .i64 y] 43)) := b3.alloc b3.size _
  obtain ⟨v2, w4, r2, o2, g2, s2⟩ := sp_app (W := w3.alloc (.cells #[.int .i64 x, .int .i64 y] 43)) (show Ow _ w2.heap.size v1 S from World.ownsRow.alloc o1 _) ba.size (sl_one w3 x y) (by omega)
  have b4 : Below w2.heap.size w2 w4 := Ow.bel ba ba.size g2 (show Ow _ w2.heap.size v1 S from World.ownsRow.alloc o1 _) (Nat.le_refl _)
  obtain ⟨v3, w5, r3, o3, g3, s3⟩ := sp_app o2 b4.size (k.below b4) (by simp; omega)
  have b5 : Below w2.heap.size w2 w5 := Ow.bel b4 b4.size g3 o2 (Nat.le_refl _)
  obtain ⟨C, e, rfl, hsl⟩ := o3.shape
  have hL : (S ++ [(x, y)] ++ T).length = n := by simp; omega
  rw [hL] at hsl r3
  exact ⟨w3, w4, w5, C, e, v1, v2, r1, r2, r3, b3, b4, b5, hsl⟩
/-- The three appends that join two; the second behind a draw. -/
structure JoinR (w2 w3 w4 w5 : World) (A B C : Option Addr) (i n c m d e : Nat) (x y : Int) (v1 v2 : Value) (T : List Sp) : Prop where
  r1 : (Builtin.append_ #[22, 22] 22 #[.slice none 0 0, .slice A i c]).run Try.prog w2 = .ok v1 w3
  r2 : (Builtin.append_ #[22, 22] 22 #[v1, .slice (some ⟨w3.heap.size, 0, none⟩) 1 1]).run Try.prog (w3.alloc (.cells #[.int .i64 x, .int .i64 y] 43)).drew = .ok v2 w4
  r3 : (Builtin.append_ #[22, 22] 22 #[v2, .slice B m d]).run Try.prog w4 = .ok (.slice C n e) w5
  b3 : Below w2.heap.size w2 w3
  b4 : Below w2.heap.size w2 w4
  b5 : Below w2.heap.size w2 w5
  sl : Sl w5 C n e T
theorem join_runs {w2 : World} {A B : Option Addr} {i c m d : Nat} {S T : List Sp} (h : Sl w2 A i c S) (k : Sl w2 B m d T) (x y : Int) {n : Nat} (hn : i + 1 + m = n) (hl : n ≤ 1000) :
    ∃ w3 w4 w5 C e v1 v2, JoinR w2 w3 w4 w5 A B C i n c m d e x y v1 v2 (S ++ [(x, y)] ++ T) := by
  have l1 := h.len
  have l2 := k.len
  obtain ⟨v1, w3, r1, o1, g1, s1⟩ := sp_app (ow_nil w2 w2.heap.size) (Nat.le_refl _) h (by simp; omega)
  simp only [List.nil_append] at o1
  have b3 : Below w2.heap.size w2 w3 := Ow.bel (Below.refl _ _) (Nat.le_refl _) g1 (ow_nil w2 w2.heap.size) (Nat.le_refl _)
  have ba : Below w2.heap.size w2 (w3.alloc (.cells #[.int .i64 x, .int .i64 y] 43)).drew := (b3.alloc b3.size _).drew
  obtain ⟨v2, w4, r2, o2, g2, s2⟩ := sp_app (W := (w3.alloc (.cells #[.int .i64 x, .int .i64 y] 43)).drew) (show Ow _ w2.heap.size v1 S from (World.ownsRow.alloc o1 _).drew) ba.size (sl_one w3 x y).drew (by omega)
  have b4 : Below w2.heap.size w2 w4 := Ow.bel ba ba.size g2 (show Ow _ w2.heap.size v1 S from (World.ownsRow.alloc o1 _).drew) (Nat.le_refl _)
  obtain ⟨v3, w5, r3, o3, g3, s3⟩ := sp_app o2 b4.size (k.below b4) (by simp; omega)
  have b5 : Below w2.heap.size w2 w5 := Ow.bel b4 b4.size g3 o2 (Nat.le_refl _)
  obtain ⟨C, e, rfl, hsl⟩ := o3.shape
  have hL : (S ++ [(x, y)] ++ T).length = n := by simp; omega
  rw [hL] at hsl r3
  exact ⟨w3, w4, w5, C, e, v1, v2, r1, r2, r3, b3, b4, b5, hsl⟩
end Go.Proofs.Ytadgplpbkephiaa
