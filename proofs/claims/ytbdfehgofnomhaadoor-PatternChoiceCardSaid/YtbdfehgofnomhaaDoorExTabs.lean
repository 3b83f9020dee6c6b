/- The two tables of unicode/utf8, the powers of ten; ValidString and FormatInt. -/
import Derived.Test.YtbdfehgofnomhaaDoorExSame
import Derived.Test.YtbdfehgofnomhaaDoorExShelf
import Derived.Lib.OthersKept
namespace Go.Proofs.YtbdfehgofnomhaaDoor
open Go.RowKit
theorem tab_below {P : Program} {w w' : World} {name : String} {k : IntKind} {zs : List Int} (h : Lib.TabIs P w name k zs) (hb : Below w.heap.size w w') : Lib.TabIs P w' name k zs := by
  unfold Lib.TabIs World.var? at *
  cases hg : P.globalNamed name with
  | none => rw [hg] at h; simp at h
  | some g =>
    rw [hg] at h
    simp only [Option.bind_some] at h ⊢
    have hlt : g < w.heap.size := by
      rcases Nat.lt_or_ge g w.heap.size with h1 | h1
      · exact h1
      · rw [Array.getElem?_eq_none h1] at h; simp at h
    rw [hb.block g hlt]
    exact h
/-- The two tables of unicode/utf8 are as they are written. -/
def Tabs8 (w : World) : Prop := Lib.Utf8Tabs 0 1 w
theorem Tabs8.below {w w' : World} (h : Tabs8 w) (hb : Below w.heap.size w w') : Tabs8 w' := by
  obtain ⟨h1, h2⟩ := h
  exact ⟨fun c hc => (hb.cell (World.block_lt_of_cell? _ _ (h1 c hc))).trans (h1 c hc), fun i hi => ⟨(hb.cell (World.block_lt_of_cell? _ _ (h2 i hi).1)).trans (h2 i hi).1, (hb.cell (World.block_lt_of_cell? _ _ (h2 i hi).2)).trans (h2 i hi).2⟩⟩
/-- So is the powers of ten's. -/
def Tabs (w : World) : Prop := Tabs8 w ∧ Lib.TabIs Tryd.prog w "internal/strconv.uint64pow10" .u64 Lib.pow10Tab
theorem Tabs.below {w w' : World} (h : Tabs w) (hb : Below w.heap.size w w') : Tabs w' := ⟨h.1.below hb, tab_below h.2 hb⟩
instance {w : World} : Coe (Tabs w) (Tabs8 w) := ⟨fun h => h.1⟩
theorem valid_any (l : Nm) (w : World) (hs : l.length ≤ 9223372036854775807) (hT : Tabs8 w) :
    Calls Tryd.prog 35 #[.string (str l)] w fun e w' => e = .returned (.bool (Lib.validD l)) ∧ Below w.heap.size w w' := by
  have := Tryd.utf8_ValidString (str l) w (by rw [str_size]; exact hs) hT
  rwa [str_data] at this
theorem grow_below (w : World) (k : Nat) (os : Array Obj) : Below w.heap.size w (Sort.grow (w.drewN k) os) :=
  ⟨rfl, rfl, rfl, by simp [Sort.grow, World.drewN], fun q hq => by simp [Sort.grow, World.drewN, Array.getElem?_append, hq]⟩
theorem format_any (n : Int) (w : World) (h0 : -9223372036854775808 ≤ n) (h1 : n ≤ 9223372036854775807) (hT : Tabs w) :
    Calls Tryd.prog 22 #[.int .i64 n, .int .i64 10] w fun e w' => e = .returned (.string (str (Lib.itoa n))) ∧ Below w.heap.size w w' := by
  refine (Tryd.strconv_FormatInt_10 n h0 h1 w hT.2).mono ?_
  rintro e w' ⟨rfl, k, os, rfl⟩
  exact ⟨rfl, grow_below _ _ _⟩
end Go.Proofs.YtbdfehgofnomhaaDoor
