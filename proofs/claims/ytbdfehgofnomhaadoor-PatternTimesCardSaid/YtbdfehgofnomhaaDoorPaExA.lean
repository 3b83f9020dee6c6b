/- Layer 9: the chapter's examples: what they make. -/
import Derived.Test.YtbdfehgofnomhaaDoorPaPutQ
import Derived.Test.YtbdfehgofnomhaaDoorPaCount
import Derived.Test.YtbdfehgofnomhaaDoorPaDeep
import Derived.Test.YtbdfehgofnomhaaDoorPaSet
import Derived.Deep.RegionHeld3
namespace Go.Proofs.YtbdfehgofnomhaaDoor
open Go.RowKit
set_option linter.unusedVariables false

set_option maxHeartbeats 2000000 in
theorem mkone_any (a v : Nm) (w : World) : Calls Tryd.prog 17 #[.string (str a), .string (str v)] w fun e w' => e = .returned (.agg #[.int .i64 0, .string (str a), .string (str v), .slice none 0 0, .int .i64 0, .int .i64 0, .slice none 0 0]) ∧ Below w.heap.size w w' := by
  go_enter Tryd.func17, Tryd.ntmps17
  go_wp2
  refine bodyPost_ret (v := .agg #[.int .i64 0, .string (str a), .string (str v), .slice none 0 0, .int .i64 0, .int .i64 0, .slice none 0 0]) (by simp [results, Tryd.results17, go_sem]) rfl ?_
  exact ⟨rfl, (Below.refl _ _).alloc (Nat.le_refl _) _⟩
abbrev tmI : IT := .mk 1 [67] [99] none 0 [] 1 3 none 0 [] []
abbrev ntI (q : Nat) : IT := .mk 2 [66] [98] (some ⟨q, 0, none⟩) 1 [rf [98] [121]] 0 0 none 0 [] []
abbrev onI (a v : Nm) : IT := .mk 0 a v none 0 [] 0 0 none 0 [] []
abbrev cs14 : Array Value := #[.int .i64 0, .string (str [65]), .string (str [120]), .slice none 0 0, .int .i64 0, .int .i64 0, .slice none 0 0, .int .i64 1, .string (str [67]), .string (str [99]), .slice none 0 0, .int .i64 1, .int .i64 3, .slice none 0 0]
def KidsIn (u : World) (q q2 q1 : Nat) : Prop := Has u q 22 #[.slice (some ⟨q2, 0, none⟩) 2 2, .slice (some ⟨q1, 0, none⟩) 1 1] ∧ Has u q2 42 cs14 ∧ Has u q1 42 (csI (onI [66] [122]))
def AltIn (u : World) (p : Nat) : Prop := ∃ q q2 q1, Has u p 42 (csIm 3 [] [] none 0 0 0 0 (some ⟨q, 0, none⟩) 2 2) ∧ KidsIn u q q2 q1
theorem KidsIn.mono {u u' : World} {q q2 q1 : Nat} (h : KidsIn u q q2 q1) (hk : ∀ q t cs, Has u q t cs → Has u' q t cs) : KidsIn u' q q2 q1 := ⟨hk _ _ _ h.1, hk _ _ _ h.2.1, hk _ _ _ h.2.2⟩
theorem AltIn.mono {u u' : World} {p : Nat} (h : AltIn u p) (hk : ∀ q t cs, Has u q t cs → Has u' q t cs) : AltIn u' p := by
  obtain ⟨q, q2, q1, h1, h2⟩ := h
  exact ⟨q, q2, q1, hk _ _ _ h1, h2.mono hk⟩
theorem KidsIn.below {u u' : World} {q q2 q1 : Nat} (h : KidsIn u q q2 q1) (hb : Below u.heap.size u u') : KidsIn u' q q2 q1 := h.mono fun _ _ _ h => hasB hb h
theorem ne14 : cs14 ≠ zer7 := fun h => by have := congrArg Array.size h; simp at this
theorem neB : csI (onI [66] [122]) ≠ zer7 := fun h => by
  have := congrArg (fun c : Array Value => c[1]?) h
  simp [IT.nm, str] at this
theorem ne2 {u v : Value} : #[u, v] ≠ zer7 := fun h => by have := congrArg Array.size h; simp at this
theorem KidsIn.set {u : World} {p q q2 q1 : Nat} {t0 : TypeId} (hz : Has u p t0 zer7) (h : KidsIn u q q2 q1) (u0 u1 u2 u3 u4 u5 u6 : Value) : KidsIn (set7 u p u0 u1 u2 u3 u4 u5 u6) q q2 q1 :=
  ⟨set7_keep hz _ _ _ _ _ _ _ _ _ _ h.1 ne2, set7_keep hz _ _ _ _ _ _ _ _ _ _ h.2.1 ne14, set7_keep hz _ _ _ _ _ _ _ _ _ _ h.2.2 neB⟩
end Go.Proofs.YtbdfehgofnomhaaDoor
