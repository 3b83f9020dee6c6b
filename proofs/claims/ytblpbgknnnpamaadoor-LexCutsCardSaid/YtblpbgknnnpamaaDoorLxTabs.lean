/- The two tables of unicode/utf8, the two errors of strconv; ValidString and ParseInt. -/
import Derived.Test.YtblpbgknnnpamaaDoorLxWords
import Derived.Test.YtblpbgknnnpamaaDoorLxShelf
import Derived.Lib.OthersKept
namespace Go.Proofs.YtblpbgknnnpamaaDoor
open Go.RowKit
/-- A variable of an interface's type holds such a value. -/
def Held (g : Nat) (w : World) : Prop := ∃ ev, w.cell? ⟨g, 0, none⟩ = some ev ∧ (ev = .nilIface ∨ ∃ te pe, ev = .iface te pe)
theorem Held.below {g : Nat} {w w' : World} (h : Held g w) (hb : Below w.heap.size w w') : Held g w' := by
  obtain ⟨ev, h1, h2⟩ := h
  exact ⟨ev, (hb.cell (World.block_lt_of_cell? _ _ h1)).trans h1, h2⟩
/-- The tables are as they are written; the two errors are there. -/
def Tabs (w : World) : Prop := Lib.Utf8Tabs 0 1 w ∧ Held 3 w ∧ Held 2 w
theorem Tabs.below {w w' : World} (h : Tabs w) (hb : Below w.heap.size w w') : Tabs w' := by
  obtain ⟨⟨h1, h2⟩, h3, h4⟩ := h
  exact ⟨⟨fun c hc => (hb.cell (World.block_lt_of_cell? _ _ (h1 c hc))).trans (h1 c hc), fun i hi => ⟨(hb.cell (World.block_lt_of_cell? _ _ (h2 i hi).1)).trans (h2 i hi).1, (hb.cell (World.block_lt_of_cell? _ _ (h2 i hi).2)).trans (h2 i hi).2⟩⟩, h3.below hb, h4.below hb⟩
theorem valid_any (l : Nm) (w : World) (hs : l.length ≤ 9223372036854775807) (hT : Tabs w) :
    Calls Tryd.prog 18 #[.string (str l)] w fun e w' => e = .returned (.bool (Lib.validD l)) ∧ Below w.heap.size w w' := by
  have := Tryd.utf8_ValidString (str l) w (by rw [str_size]; exact hs) hT.1
  rwa [str_data] at this
/-- What ParseInt tells: the number and no error, or an error. -/
def parV (l : Nm) : Option Int := match Lib.parseIntB 64 l with
  | .ok v => some v
  | _ => none
theorem parse_some (l : Nm) (v : Int) (w : World) (hs : l.length ≤ 281474976710656) (hv : parV l = some v) :
    Calls Tryd.prog 35 #[.string (str l), .int .i64 10, .int .i64 64] w fun e w' => e = .returned (.tuple #[.int .i64 v, .nilIface]) ∧ Below w.heap.size w w' := by
  have h : Lib.parseIntB 64 l = .ok v := by
    unfold parV at hv
    split at hv
    · rename_i x e; rw [e]; cases hv; rfl
    · cases hv
  refine (Tryd.parse_ok (str l) (by rw [str_size]; omega) v (by rw [str_data]; exact h) w).mono ?_
  rintro e w' ⟨rfl, hw⟩
  refine ⟨rfl, ?_⟩
  rcases hw with rfl | ⟨t, rfl⟩
  · exact Below.refl _ _
  · exact Lib.bytesWorld_below _ _ _
theorem parse_none (l : Nm) (w : World) (hs : l.length ≤ 281474976710656) (hv : parV l = none) (hT : Tabs w) :
    Calls Tryd.prog 35 #[.string (str l), .int .i64 10, .int .i64 64] w fun e w' => ∃ (v : Int) (t : TypeId) (x : Value), e = .returned (.tuple #[.int .i64 v, .iface t x]) ∧ Below w.heap.size w w' := by
  obtain ⟨_, ⟨e1, c1, d1⟩, e2, c2, d2⟩ := hT
  cases h : Lib.parseIntB 64 l
  · unfold parV at hv; rw [h] at hv; cases hv
  · refine (Tryd.parse_none (str l) (by rw [str_size]; exact hs) (fun v => by rw [str_data, h]; exact fun e => by cases e) (by rw [str_data, h]; exact fun e => by cases e) e2 w c2 d2).mono ?_
    rintro e w' ⟨N, rfl, _, _, hb⟩
    exact ⟨_, _, _, rfl, hb⟩
  · refine (Tryd.parse_range (str l) (by rw [str_size]; exact hs) (by rw [str_data]; exact h) e1 w c1 d1).mono ?_
    rintro e w' ⟨N, rfl, _, _, hb⟩
    exact ⟨_, _, _, rfl, hb⟩
theorem numV_eq (o : Nm) : numV o = if 1 < o.length ∧ o.getD 0 0 = 48 then none else parV o := rfl
end Go.Proofs.YtblpbgknnnpamaaDoor
