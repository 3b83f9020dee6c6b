/- Layer 7: what bytes make, whatever they are. -/
import Derived.Test.YtbhjimlikffalaaDoorExTruU
import Derived.Test.YtbhjimlikffalaaDoorExTruB
import Derived.Test.YtbhjimlikffalaaDoorExTruD
import Derived.Test.YtbhjimlikffalaaDoorExNumD
namespace Go.Proofs.YtbhjimlikffalaaDoor
open Go.RowKit
set_option linter.unusedVariables false

theorem mk_mono {w0 : World} {p : Nat} {L V O : Option Addr} {n c S S' : Nat} {ty : Int} {T0 : ET} {i' : Nat} {w : World} {e : Ending} {w' : World} (h : Mk w0 p L V O n c S ty T0 i' w e w') (hS : S ≤ S') : Mk w0 p L V O n c S' ty T0 i' w e w' := by
  obtain ⟨t, h1, h2, ⟨h3, h4, h5⟩, h6⟩ := h
  exact ⟨t, h1, h2, ⟨h3, h4, Nat.le_trans h5 hS⟩, h6⟩
/-- A number, a truth, as the reader makes it at any place. -/
def NumAt (bs : List Int) (S : Nat) (d : Int) (i : Nat) : Prop := ∃ T0 i2, ∀ (w0 : World) (L V O : Option Addr) (n c : Nat) (hC : FdC w0 bs L V O n c) (p : Nat) (w : World), Fd w0 p L V O n c i w → Calls Tryd.prog 66 #[.pointer (some ⟨p, 0, none⟩), .string (str [99]), .string (str [67]), .int .i64 d] w fun e w' => Mk w0 p L V O n c S 1 T0 i2 w e w'
def TruAt (bs : List Int) (S : Nat) (d : Int) (i : Nat) : Prop := ∃ T0 i2, ∀ (w0 : World) (L V O : Option Addr) (n c : Nat) (hC : FdC w0 bs L V O n c) (p : Nat) (w : World), Fd w0 p L V O n c i w → Calls Tryd.prog 41 #[.pointer (some ⟨p, 0, none⟩), .string (str [99]), .string (str [67]), .int .i64 d] w fun e w' => Mk w0 p L V O n c S 2 T0 i2 w e w'
theorem NumAt.mono {bs : List Int} {S S' : Nat} {d : Int} {i : Nat} (h : NumAt bs S d i) (hS : S ≤ S') : NumAt bs S' d i := by
  obtain ⟨T0, i2, h⟩ := h
  exact ⟨T0, i2, fun w0 L V O n c hC p w hw => (h w0 L V O n c hC p w hw).mono fun e w' h => mk_mono h hS⟩
theorem TruAt.mono {bs : List Int} {S S' : Nat} {d : Int} {i : Nat} (h : TruAt bs S d i) (hS : S ≤ S') : TruAt bs S' d i := by
  obtain ⟨T0, i2, h⟩ := h
  exact ⟨T0, i2, fun w0 L V O n c hC p w hw => (h w0 L V O n c hC p w hw).mono fun e w' h => mk_mono h hS⟩
variable {bs : List Int}
theorem num_at0 (hb : ∀ x ∈ bs, 0 ≤ x ∧ x ≤ 255) (i : Nat) : NumAt bs 1 0 i := by
  obtain ⟨y, hy⟩ : ∃ y, nx bs i = y := ⟨_, rfl⟩
  obtain ⟨x, i1⟩ := y
  have hbb := nx_b hb i
  rw [hy] at hbb
  simp only at hbb
  by_cases h3 : x % 8 < 3
  · obtain ⟨T0, h⟩ := num_A1 hb i x i1 hy 0 h3
    exact ⟨T0, i1, h⟩
  by_cases h2 : x % 2 = 0
  · obtain ⟨T0, h⟩ := num_A2 hb i x i1 hy h3 h2
    exact ⟨T0, i1, h⟩
  have h8 : x % 8 = 3 ∨ x % 8 = 5 ∨ x % 8 = 7 := by omega
  rcases h8 with h8 | h8 | h8
  · exact num_B2_3 hb i x i1 hy h8 (by omega)
  · exact num_B2_5 hb i x i1 hy h8 (by omega)
  · exact num_B2_7 hb i x i1 hy h8 (by omega)
theorem num_at1 (hb : ∀ x ∈ bs, 0 ≤ x ∧ x ≤ 255) (i : Nat) : NumAt bs 3 1 i := by
  obtain ⟨y, hy⟩ : ∃ y, nx bs i = y := ⟨_, rfl⟩
  obtain ⟨x, i1⟩ := y
  have hbb := nx_b hb i
  rw [hy] at hbb
  simp only at hbb
  by_cases h3 : x % 8 < 3
  · obtain ⟨T0, h⟩ := num_A1 hb i x i1 hy 1 h3
    exact NumAt.mono ⟨T0, i1, h⟩ (by omega)
  by_cases h6 : x % 8 < 6
  · exact NumAt.mono (num_B1 hb i x i1 hy 1 h3 h6 (by omega)) (by omega)
  by_cases h7 : x % 8 = 6
  · exact NumAt.mono (num_C hb i x i1 hy h7 1 (num_at0 hb i1)) (by omega)
  · exact num_D hb i x i1 hy (by omega) 1 (fun i => num_at0 hb i)
theorem tru_at0 (hb : ∀ x ∈ bs, 0 ≤ x ∧ x ≤ 255) (i : Nat) : TruAt bs 7 0 i := by
  obtain ⟨y, hy⟩ : ∃ y, nx bs i = y := ⟨_, rfl⟩
  obtain ⟨x, i1⟩ := y
  exact tru_C1 hb i x i1 hy 0 (by omega) 3 (fun i => num_at1 hb i)
theorem tru_step (hb : ∀ x ∈ bs, 0 ≤ x ∧ x ≤ 255) (d : Int) (hd0 : 0 < d) (hd3 : d ≤ 3) (S : Nat) (hS : 7 ≤ S) (ih : ∀ i, TruAt bs S (d - 1) i) (i : Nat) : TruAt bs (2 * S + 1) d i := by
  obtain ⟨y, hy⟩ : ∃ y, nx bs i = y := ⟨_, rfl⟩
  obtain ⟨x, i1⟩ := y
  have hbb := nx_b hb i
  rw [hy] at hbb
  simp only at hbb
  by_cases h0 : x % 8 = 0
  · exact TruAt.mono (tru_U hb i x i1 hy d hd0 hd3 h0 S (ih i1)) (by omega)
  by_cases h3 : x % 8 < 3
  · exact tru_B hb i x i1 hy d hd0 hd3 h0 h3 S ih
  · exact TruAt.mono (tru_C2 hb i x i1 hy d hd0 h3 3 (fun i => num_at1 hb i)) (by omega)
theorem tru_next (hb : ∀ x ∈ bs, 0 ≤ x ∧ x ≤ 255) (d e : Int) (he : e = d - 1) (hd0 : 0 < d) (hd3 : d ≤ 3) (S S' : Nat) (hS' : S' = 2 * S + 1) (hS : 7 ≤ S) (ih : ∀ i, TruAt bs S e i) (i : Nat) : TruAt bs S' d i := by
  subst hS'
  exact tru_step hb d hd0 hd3 S hS (fun i => he ▸ ih i) i
theorem tru_at1 (hb : ∀ x ∈ bs, 0 ≤ x ∧ x ≤ 255) (i : Nat) : TruAt bs 15 1 i := tru_next hb 1 0 (by omega) (by omega) (by omega) 7 15 (by omega) (by omega) (fun i => tru_at0 hb i) i
theorem tru_at2 (hb : ∀ x ∈ bs, 0 ≤ x ∧ x ≤ 255) (i : Nat) : TruAt bs 31 2 i := tru_next hb 2 1 (by omega) (by omega) (by omega) 15 31 (by omega) (by omega) (fun i => tru_at1 hb i) i
theorem tru_at3 (hb : ∀ x ∈ bs, 0 ≤ x ∧ x ≤ 255) (i : Nat) : TruAt bs 63 3 i := tru_next hb 3 2 (by omega) (by omega) (by omega) 31 63 (by omega) (by omega) (fun i => tru_at2 hb i) i
end Go.Proofs.YtbhjimlikffalaaDoor
