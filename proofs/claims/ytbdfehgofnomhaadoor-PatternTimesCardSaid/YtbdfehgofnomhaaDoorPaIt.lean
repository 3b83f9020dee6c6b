/- Layer 9: items as cells. -/
import Derived.Test.YtbdfehgofnomhaaDoorPaDef
import Derived.Test.YtbdfehgofnomhaaDoorPaPutM
namespace Go.Proofs.YtbdfehgofnomhaaDoor
open Go.RowKit
set_option linter.unusedVariables false

theorem itemAt {w : World} {A : Option Addr} {j : Nat} {x : IT} (h : CellsI w A j x) : ∃ b off, A = some ⟨b, off, none⟩ ∧ w.cell? ⟨b, off + j * 7, none⟩ = some (.int .i64 x.k) ∧ w.cell? ⟨b, off + j * 7 + 1, none⟩ = some (.string (str x.nm)) ∧ w.cell? ⟨b, off + j * 7 + 2, none⟩ = some (.string (str x.vr))
  ∧ w.cell? ⟨b, off + j * 7 + 3, none⟩ = some (.slice x.pA x.ps.length x.pc) ∧ w.cell? ⟨b, off + j * 7 + 4, none⟩ = some (.int .i64 x.lo) ∧ w.cell? ⟨b, off + j * 7 + 5, none⟩ = some (.int .i64 x.hi) ∧ w.cell? ⟨b, off + j * 7 + 6, none⟩ = some (.slice x.kA x.ks.length x.kc) := h
/-- Lists of items lie there. -/
def Kds (w : World) (A : Option Addr) (ks : List (List IT)) (kp : List (Option Addr × Nat)) : Prop := kp.length = ks.length ∧ ∀ j (h : j < ks.length) (h' : j < kp.length), (SliceAt w A j kp[j].1 ks[j].length kp[j].2 ∧ okS kp[j].1 ks[j].length kp[j].2) ∧ Its w kp[j].1 ks[j]
theorem Kds.imp {w w' : World} {A : Option Addr} {ks : List (List IT)} {kp : List (Option Addr × Nat)} (h : Kds w A ks kp) (hk : ∀ (p : Addr) v, w.cell? p = some v → w'.cell? p = some v) : Kds w' A ks kp :=
  ⟨h.1, fun j h1 h2 => ⟨⟨(h.2 j h1 h2).1.1.imp hk, (h.2 j h1 h2).1.2⟩, (h.2 j h1 h2).2.imp hk⟩⟩
theorem Kds.below {w w' : World} {A : Option Addr} {ks : List (List IT)} {kp : List (Option Addr × Nat)} (h : Kds w A ks kp) (hb : Below w.heap.size w w') : Kds w' A ks kp := h.imp (below_imp hb)
theorem IT.In.kds {w : World} {k : Int} {nm vr : Nm} {pA : Option Addr} {pc : Nat} {ps : List ET} {lo hi : Int} {kA : Option Addr} {kc : Nat} {kp : List (Option Addr × Nat)} {ks : List (List IT)} (h : IT.In w (.mk k nm vr pA pc ps lo hi kA kc kp ks)) : Kds w kA ks kp :=
  ⟨h.len, fun j h1 h2 => h.kids j h1 h2⟩
/-- Expressions lie there. -/
def Ets (w : World) (A : Option Addr) (ps : List ET) : Prop := ∀ j (h : j < ps.length), CellsAt w A j ps[j] ∧ ET.In w ps[j]
theorem Ets.imp {w w' : World} {A : Option Addr} {ps : List ET} (h : Ets w A ps) (hk : ∀ (p : Addr) v, w.cell? p = some v → w'.cell? p = some v) : Ets w' A ps := fun j h1 => ⟨(h j h1).1.imp hk, ET.In.imp hk _ (h j h1).2⟩
theorem Ets.below {w w' : World} {A : Option Addr} {ps : List ET} (h : Ets w A ps) (hb : Below w.heap.size w w') : Ets w' A ps := h.imp (below_imp hb)
/-- The cells of an item. -/
abbrev csIm (k : Int) (nm vr : Nm) (pA : Option Addr) (pm pc : Nat) (lo hi : Int) (kA : Option Addr) (km kc : Nat) : Array Value := #[.int .i64 k, .string (str nm), .string (str vr), .slice pA pm pc, .int .i64 lo, .int .i64 hi, .slice kA km kc]
abbrev csI (x : IT) : Array Value := csIm x.k x.nm x.vr x.pA x.ps.length x.pc x.lo x.hi x.kA x.ks.length x.kc
/-- The seven cells at block q. -/
def seven (w : World) (q : Nat) (k : Int) (nm vr : Nm) (pA : Option Addr) (pm pc : Nat) (lo hi : Int) (kA : Option Addr) (km kc : Nat) : Prop :=
  w.cell? ⟨q, 0, none⟩ = some (.int .i64 k) ∧ w.cell? ⟨q, 1, none⟩ = some (.string (str nm)) ∧ w.cell? ⟨q, 2, none⟩ = some (.string (str vr)) ∧ w.cell? ⟨q, 3, none⟩ = some (.slice pA pm pc) ∧ w.cell? ⟨q, 4, none⟩ = some (.int .i64 lo) ∧ w.cell? ⟨q, 5, none⟩ = some (.int .i64 hi) ∧ w.cell? ⟨q, 6, none⟩ = some (.slice kA km kc)
theorem seven_has {w : World} {q : Nat} {t : TypeId} {k : Int} {nm vr : Nm} {pA : Option Addr} {pm pc : Nat} {lo hi : Int} {kA : Option Addr} {km kc : Nat} (h : Has w q t (csIm k nm vr pA pm pc lo hi kA km kc)) : seven w q k nm vr pA pm pc lo hi kA km kc :=
  ⟨h.cell 0, h.cell 1, h.cell 2, h.cell 3, h.cell 4, h.cell 5, h.cell 6⟩
theorem seven_below {w w' : World} {q : Nat} {k : Int} {nm vr : Nm} {pA : Option Addr} {pm pc : Nat} {lo hi : Int} {kA : Option Addr} {km kc : Nat} (h : seven w q k nm vr pA pm pc lo hi kA km kc) (hb : Below w.heap.size w w') : seven w' q k nm vr pA pm pc lo hi kA km kc := by
  obtain ⟨h0, h1, h2, h3, h4, h5, h6⟩ := h
  exact ⟨below_imp hb _ _ h0, below_imp hb _ _ h1, below_imp hb _ _ h2, below_imp hb _ _ h3, below_imp hb _ _ h4, below_imp hb _ _ h5, below_imp hb _ _ h6⟩
theorem okS_cap {A : Option Addr} {m c : Nat} (h : okS A m c) : m ≤ 9223372036854775807 := by have := h.2; unfold maxLen at this; omega
theorem new1 (w : World) (cs : Array Value) (t : TypeId) : Has (w.alloc (.cells cs t)) w.heap.size t cs ∧ Below w.heap.size w (w.alloc (.cells cs t)) := ⟨heap_alloc_new w _, (Below.refl _ _).alloc (Nat.le_refl _) _⟩
end Go.Proofs.YtbdfehgofnomhaaDoor
