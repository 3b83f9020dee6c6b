/- Layer 9: the chapter's examples: the query, how it lies. -/
import Derived.Test.YtbdfehgofnomhaaDoorPaExA
import Derived.Test.YtbdfehgofnomhaaDoorPaSet3
namespace Go.Proofs.YtbdfehgofnomhaaDoor
open Go.RowKit
set_option linter.unusedVariables false

/-- The cells of its three items. -/
abbrev cs21 (e q : Nat) : Array Value := #[.int .i64 0, .string (str [65]), .string (str [97]), .slice none 0 0, .int .i64 0, .int .i64 0, .slice none 0 0, .int .i64 2, .string (str [66]), .string (str [98]), .slice (some ⟨e, 0, none⟩) 1 1, .int .i64 0, .int .i64 0, .slice none 0 0, .int .i64 3, .string (str []), .string (str []), .slice none 0 0, .int .i64 0, .int .i64 0, .slice (some ⟨q, 0, none⟩) 2 2]
theorem ne21 {e q : Nat} : cs21 e q ≠ zer3 := fun h => by have := congrArg Array.size h; simp at this
def QIn (e q : Nat) (u : World) (b : Nat) : Prop := ∃ g, Has u b 24 #[.slice (some ⟨g, 0, none⟩) 3 3, .int .i64 5, .string (str [107])] ∧ Has u g 42 (cs21 e q)
theorem QIn.mono {e q : Nat} {u u' : World} {b : Nat} (h : QIn e q u b) (hk : ∀ q t cs, Has u q t cs → Has u' q t cs) : QIn e q u' b := by
  obtain ⟨g, h1, h2⟩ := h
  exact ⟨g, hk _ _ _ h1, hk _ _ _ h2⟩
abbrev altI (q q2 q1 : Nat) : IT := .mk 3 [] [] none 0 [] 0 0 (some ⟨q, 0, none⟩) 2 [(some ⟨q2, 0, none⟩, 2), (some ⟨q1, 0, none⟩, 1)] [[onI [65] [120], tmI], [onI [66] [122]]]
/-- The chapter's query. -/
abbrev exL (e q q2 q1 : Nat) : List IT := [onI [65] [97], ntI e, altI q q2 q1]
theorem in_plain (w : World) (k : Int) (a v : Nm) (lo hi : Int) (hk : 0 ≤ k ∧ k ≤ 3) (hl : 0 ≤ lo ∧ lo ≤ 4) (hh : 0 ≤ hi ∧ hi ≤ 4) (ha : a.length ≤ 1000) (hv : v.length ≤ 1000) : IT.In w (.mk k a v none 0 [] lo hi none 0 [] []) :=
  .of ⟨⟨by omega, by omega⟩, ⟨by omega, by omega⟩, ⟨by omega, by omega⟩, by omega, by omega, ⟨fun _ => rfl, Nat.le_refl _, Nat.zero_le _⟩, ⟨fun _ => rfl, Nat.le_refl _, Nat.zero_le _⟩⟩ (fun j hj => by simp at hj) rfl (fun j hj => by simp at hj)
theorem exL_in {w : World} {e q q2 q1 g : Nat} (h1 : Has w e 47 (cs1 (rf [98] [121]))) (hg : Has w g 42 (cs21 e q)) (hk : KidsIn w q q2 q1) : Its w (some ⟨g, 0, none⟩) (exL e q q2 q1) := by
  obtain ⟨k1, k2, k3⟩ := hk
  have hmx : (2 : Nat) ≤ maxLen := by unfold maxLen; omega
  have hmx1 : (1 : Nat) ≤ maxLen := by unfold maxLen; omega
  intro j hj
  have hj3 : j < 3 := hj
  rcases j with _ | _ | _ | j
  · exact ⟨⟨g, 0, rfl, hg.cell 0, hg.cell 1, hg.cell 2, hg.cell 3, hg.cell 4, hg.cell 5, hg.cell 6⟩, in_plain w 0 [65] [97] 0 0 (by omega) (by omega) (by omega) (by simp) (by simp)⟩
  · refine ⟨⟨g, 0, rfl, hg.cell 7, hg.cell 8, hg.cell 9, hg.cell 10, hg.cell 11, hg.cell 12, hg.cell 13⟩, ?_⟩
    refine .of ⟨⟨by omega, by omega⟩, ⟨by omega, by omega⟩, ⟨by omega, by omega⟩, by simp, by simp, ⟨(fun h => by cases h), Nat.le_refl _, hmx1⟩, ⟨fun _ => rfl, Nat.le_refl _, Nat.zero_le _⟩⟩ (fun j hj => ?_) rfl (fun j hj => by simp at hj)
    obtain rfl : j = 0 := by simpa using hj
    exact ⟨at1 h1, in_rf w [98] [121] (by simp) (by simp)⟩
  · refine ⟨⟨g, 0, rfl, hg.cell 14, hg.cell 15, hg.cell 16, hg.cell 17, hg.cell 18, hg.cell 19, hg.cell 20⟩, ?_⟩
    refine .of ⟨⟨by omega, by omega⟩, ⟨by omega, by omega⟩, ⟨by omega, by omega⟩, by simp, by simp, ⟨fun _ => rfl, Nat.le_refl _, Nat.zero_le _⟩, ⟨(fun h => by cases h), Nat.le_refl _, hmx⟩⟩ (fun j hj => by simp at hj) rfl (fun j hj hj' => ?_)
    have hj2 : j < 2 := hj
    rcases j with _ | _ | j
    · refine ⟨⟨⟨q, 0, rfl, k1.cell 0⟩, (fun h => by cases h), Nat.le_refl _, hmx⟩, fun i hi => ?_⟩
      have hi2 : i < 2 := hi
      rcases i with _ | _ | i
      · exact ⟨⟨q2, 0, rfl, k2.cell 0, k2.cell 1, k2.cell 2, k2.cell 3, k2.cell 4, k2.cell 5, k2.cell 6⟩, in_plain w 0 [65] [120] 0 0 (by omega) (by omega) (by omega) (by simp) (by simp)⟩
      · exact ⟨⟨q2, 0, rfl, k2.cell 7, k2.cell 8, k2.cell 9, k2.cell 10, k2.cell 11, k2.cell 12, k2.cell 13⟩, in_plain w 1 [67] [99] 1 3 (by omega) (by omega) (by omega) (by simp) (by simp)⟩
      · omega
    · refine ⟨⟨⟨q, 0, rfl, k1.cell 1⟩, (fun h => by cases h), Nat.le_refl _, hmx1⟩, fun i hi => ?_⟩
      obtain rfl : i = 0 := by simpa using hi
      exact ⟨⟨q1, 0, rfl, k3.cell 0, k3.cell 1, k3.cell 2, k3.cell 3, k3.cell 4, k3.cell 5, k3.cell 6⟩, in_plain w 0 [66] [122] 0 0 (by omega) (by omega) (by omega) (by simp) (by simp)⟩
    · omega
  · omega
end Go.Proofs.YtbdfehgofnomhaaDoor
