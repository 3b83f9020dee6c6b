/- heap.up: what stands at j goes up to its place. -/
import Derived.Test.YtplhdmaiammckaaRkPop
namespace Go.Proofs.Ytplhdmaiammckaa
open Go.RowKit
set_option linter.unusedVariables false

/-- The same entries, the same from n on. -/
structure Sm (n : Nat) (l l' : List Ent) : Prop where
  len : l'.length = l.length
  lst : ∀ S, Lst l S → Lst l' S
  far : ∀ k, n ≤ k → ent l' k = ent l k
theorem Sm.refl (n : Nat) (l : List Ent) : Sm n l l := ⟨rfl, fun _ h => h, fun _ _ => rfl⟩
theorem Sm.swp {n : Nat} {l l' : List Ent} (h : Sm n l l') {i j : Nat} (hi : i < n) (hj : j < n) (hn : n ≤ l.length) : Sm n l (swp l' i j) := by
  have hl := h.len
  refine ⟨by rw [swp_length]; exact hl, fun S hS => (h.lst S hS).swp (by omega) (by omega), fun k hk => ?_⟩
  rw [ent_swp l' i j k (by omega) (by omega), if_neg (by omega), if_neg (by omega)]
  exact h.far k hk
/-- A rank on the way. -/
structure Wy (w wr : World) (B g m n : Nat) (v : Value) (l l' : List Ent) : Prop where
  ok : Ok wr B g m v l'
  fq : Fq g m v.ownBlock w wr
  sm : Sm n l l'
theorem Wy.below {w wr w2 : World} {B g m n : Nat} {v : Value} {l l' : List Ent} (h : Wy w wr B g m n v l l') (hb : Below wr.heap.size wr w2) : Wy w w2 B g m n v l l' := ⟨h.ok.below hb, h.fq.trans' (.of_below hb), h.sm⟩
/-- What up leaves. -/
def Upd (w : World) (B g m n : Nat) (v : Value) (l : List Ent) (w' : World) : Prop := ∃ l', Wy w w' B g m n v l l' ∧ Hp l' n
theorem half_up (k : Nat) : ((k + 1 : Nat) : Int) - 1 = (k : Int) := by omega
theorem half_div (k : Nat) : ((k : Int)).tdiv 2 = ((k / 2 : Nat) : Int) := by
  rw [Int.tdiv_eq_ediv_of_nonneg (by omega)]; omega
set_option maxHeartbeats 2000000 in
theorem up_any {w : World} {B g m n : Nat} {v : Value} {l : List Ent} (h : Ok w B g m v l) (j : Nat) (hj : j < n) (hn : n ≤ l.length) (hx : Ex l n j) (hk : Kid l n j) :
    Calls Try.prog 29 #[.iface 58 (.pointer (some ⟨g, 0, none⟩)), .int .i64 j] w fun e w' => e = .returned (.tuple #[]) ∧ Upd w B g m n v l w' := by
  have hf := h.few
  have H0 : Hid (Wy w w B g m n v l l) := Lib.hid ⟨h, .refl _ _ _ _, .refl _ _⟩
  have HX := Lib.hid (And.intro hx hk)
  clear h hx hk
  go_enter Try.func29, Try.ntmps29
  go_wp2
  go_loopw [1] (fun jv wr => ∃ (jn : Nat) (l' : List Ent), jv = .int .i64 jn ∧ jn < n ∧ Wy w wr B g m n v l l' ∧ Ex l' n jn ∧ Kid l' n jn) (fun jv _ => (intOf jv).toNat)
  case atStart => exact ⟨j, l, rfl, hj, H0.out, HX.out.1, HX.out.2⟩
  case round =>
    obtain ⟨jn, l', rfl, hjn, hw, hx, hk⟩ := hrel
    have hlen := hw.sm.len
    have HW := Lib.hid hw
    have HXX := Lib.hid (And.intro hx hk)
    have HL := Lib.hid hlen
    clear hx hk hw
    cases jn with
    | zero =>
      clear hlen
      go_wp2
      go_end0
      exact ⟨rfl, l', HW.out, HXX.out.1.heap HXX.out.2 (fun h => absurd h (by omega))⟩
    | succ k =>
      obtain ⟨i, hi⟩ : ∃ i, k / 2 = i := ⟨_, rfl⟩
      have hil : i < k + 1 := by omega
      have HI := Lib.hid hi
      have e1 : IntKind.i64.wrap (((k + 1 : Nat) : Int) - 1) = (k : Int) := by rw [half_up]; exact IntWalk.i64_in _ (by omega)
      have e2 : (k : Int).tdiv 2 = (i : Int) := by rw [half_div, hi]
      have e3 : (k : Int) / 2 = (i : Int) := by omega
      have e4 : ((k + 1 : Nat) : Int) - 1 = (k : Int) := half_up k
      have e5 : ((i : Int) == ((k + 1 : Nat) : Int)) = false := by simp; omega
      clear hi hlen
      have hle := less_any HW.out.ok (k + 1) i (by have := HL.out; omega) (by have := HL.out; omega)
      have HLE := Lib.hid hle
      clear hle
      cases hb : ltB (ent l' (k + 1)) (ent l' i) with
      | false =>
        rw [hb] at HLE
        go_wp2_with (go_at_call 49; refine HLE.out.mono ?_; rintro e w2 ⟨rfl, b2⟩)
        go_end0
        exact ⟨rfl, l', HW.out.below b2, HXX.out.1.heap HXX.out.2 (fun _ => by have := ltB_false hb; rw [show par (k + 1) = i from HI.out]; exact this)⟩
      | true =>
        rw [hb] at HLE
        go_wp2_with (go_at_call 49; refine HLE.out.mono ?_; rintro e w2 ⟨rfl, b2⟩)
        have hw2 := HW.out.below b2
        have hlen := HL.out
        have hsw : Calls Try.prog 52 #[.pointer (some ⟨g, 0, none⟩), .int .i64 i, .int .i64 ((k : Int) + 1)] w2 fun e w' => e = .returned (.tuple #[]) ∧ Ok w' B g m v (swp l' i (k + 1)) ∧ Fq g m v.ownBlock w2 w' := swap_any hw2.ok i (k + 1) (by omega) (by omega) (by omega)
        have hstep := HXX.out.1.up HXX.out.2 (by omega) hjn (by omega) (by rw [show par (k + 1) = i from HI.out]; exact hb)
        rw [show par (k + 1) = i from HI.out] at hstep
        have HST := Lib.hid hstep
        have HSW := Lib.hid hsw
        have HW2 := Lib.hid hw2
        clear hstep hsw hw2 hlen b2
        refine HSW.out.mono ?_
        rintro e w3 ⟨rfl, o3, q3⟩
        go_wp2
        go_roundw
        case rel => exact ⟨i, swp l' i (k + 1), rfl, by omega, ⟨o3, HW2.out.fq.trans' q3, HW2.out.sm.swp (by omega) hjn hn⟩, HST.out.1, HST.out.2⟩
        case measure => simp [intOf]; omega
end Go.Proofs.Ytplhdmaiammckaa
