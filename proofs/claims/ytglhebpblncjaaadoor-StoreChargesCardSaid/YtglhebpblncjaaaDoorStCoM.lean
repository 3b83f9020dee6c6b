/- What is put and held so often, in plain mathematics. -/
import Derived.Test.YtglhebpblncjaaaDoorStEx
import Derived.Test.YtglhebpblncjaaaDoorStBack
namespace Go.Proofs.YtglhebpblncjaaaDoor
open Go.RowKit
set_option linter.unusedVariables false

theorem upd_upd {α : Type} (f : Int → α) (k : Int) (a b : α) : upd (upd f k a) k b = upd f k b := by
  funext i
  unfold upd
  split <;> rfl
theorem upd_id {α : Type} (f : Int → α) (k : Int) (a : α) (h : f k = a) : upd f k a = f := by
  funext i
  unfold upd
  split
  · rename_i e; rw [e, h]
  · rfl
theorem rnd128 {n : Int} (h0 : 0 ≤ n) (h1 : n ≤ 128) : rnd n ≤ 128 := by
  unfold rnd
  repeat' split
  all_goals omega
def c0 : Sv := ⟨⟨1000, 1000, []⟩, fun _ => none, 0⟩
def cE : Sv := ⟨⟨1000, 1000, [⟨[], 0, 2⟩]⟩, fun _ => none, 0⟩
def cS (t : List UInt8) (j ix : Int) : Sv := ⟨⟨1000, 1000, [⟨t, rnd t.length, 1⟩]⟩, upd (fun _ => none) ix (some ⟨0, 1, j⟩), 1⟩
theorem cs_put (t : List UInt8) (ix : Int) (h : t.length ≤ 128) : perr c0 ix true t = 0 ∧ sput c0 ix true t = cS t 1 ix := by
  have hr := rnd128 (n := (t.length : Int)) (by omega) (by omega)
  have ha : aerr c0.s (t.length : Int) = 0 := aerr_of (rok_yes (by omega) (by omega)) (by show (0 : Int) + rnd _ ≤ 1000; omega) (by show 0 < 4096; omega)
  have hp : perr c0 ix true t = 0 := by unfold perr; rw [if_neg (by decide), if_neg (by simp [c0])]; exact ha
  refine ⟨hp, ?_⟩
  unfold sput alo
  rw [if_pos hp, if_pos ha]
  rfl
theorem cs_f (t : List UInt8) (j ix : Int) : (cS t j ix).f ix = some ⟨0, 1, j⟩ := by
  show (upd (fun _ => (none : Option Ct)) ix (some ⟨0, 1, j⟩)) ix = some ⟨0, 1, j⟩
  exact upd_same (fun _ => (none : Option Ct)) ix (some ⟨0, 1, j⟩)
theorem cs_hold (t : List UInt8) (j ix : Int) : shold (cS t j ix) ix = cS t (j + 1) ix := by
  unfold shold
  rw [cs_f]
  show Sv.mk _ (upd (upd _ _ _) _ _) _ = _
  rw [upd_upd]
  rfl
theorem cs_drop (t : List UInt8) (j ix : Int) (h : j ≠ 1) : sdrop (cS t j ix) ix = cS t (j - 1) ix := by
  unfold sdrop
  rw [cs_f]
  show (if j = 1 then _ else Sv.mk _ (upd (upd _ _ _) _ _) _) = _
  rw [if_neg h, upd_upd]
  rfl
theorem cs_hit (t : List UInt8) (h : t.length ≤ 128) : hit [⟨t, rnd t.length, 1⟩] 0 1 = true := by
  have := (rnd16 (n := (t.length : Int)) (rok_yes (by omega) (by omega))).1
  unfold hit
  simp [bk]
  omega
theorem cs_last (t : List UInt8) (ix : Int) (h : t.length ≤ 128) : sdrop (cS t 1 ix) ix = cE := by
  unfold sdrop
  rw [cs_f]
  show (if (1 : Int) = 1 then Sv.mk (fro ⟨1000, 1000, [⟨t, rnd t.length, 1⟩]⟩ 0 1) (upd (upd _ _ _) _ _) _ else _) = _
  rw [if_pos rfl, upd_upd, upd_id _ _ _ rfl]
  unfold fro
  rw [if_pos (cs_hit t h)]
  rfl
theorem cs_byt (t : List UInt8) (j ix : Int) (h : t.length ≤ 128) : sbyt (cS t j ix) ix = t := by
  unfold sbyt
  rw [cs_f]
  show got ⟨1000, 1000, [⟨t, rnd t.length, 1⟩]⟩ 0 1 = t
  unfold got
  rw [if_pos (cs_hit t h)]
  rfl
theorem cs_cnt (t : List UInt8) (j ix : Int) : scnt (cS t j ix) ix = j := by unfold scnt; rw [cs_f]; rfl
theorem cs_chg (t : List UInt8) (j ix : Int) : chg (cS t j ix).s.l = rnd t.length := by
  show rnd t.length + 0 = _
  omega
theorem cE_all (ix : Int) : sbyt cE ix = [] ∧ scnt cE ix = 0 ∧ cE.f ix = none ∧ chg cE.s.l = 0 ∧ cE.n = 0 := ⟨rfl, rfl, rfl, rfl, rfl⟩
/-- Of so many left. -/
def cJ (t : List UInt8) (j : Nat) (ix : Int) : Sv := if j = 0 then cE else cS t j ix
theorem cJ_pos (t : List UInt8) {j : Nat} (ix : Int) (h : 0 < j) : cJ t j ix = cS t j ix := if_neg (by omega)
theorem cJ_drop (t : List UInt8) {j : Nat} (ix : Int) (h : 0 < j) (ht : t.length ≤ 128) : sdrop (cS t j ix) ix = cJ t (j - 1) ix := by
  unfold cJ
  by_cases h1 : j = 1
  · subst h1
    rw [if_pos rfl]
    exact cs_last t ix ht
  · rw [if_neg (by omega), cs_drop t j ix (by omega), show ((j : Int) - 1) = ((j - 1 : Nat) : Int) by omega]
theorem owns_lower {w : World} {B B' : Nat} {e : TypeId} {size : Nat} {v : Value} {n : Nat} {xs : List Value} (h : w.ownsRow B e size v n xs) (hB : B' ≤ B) : w.ownsRow B' e size v n xs := by
  refine ⟨h.1, ?_⟩
  rcases h.2 with h2 | ⟨g, cap, cur, hv, hb, r⟩
  · exact .inl h2
  · exact .inr ⟨g, cap, cur, hv, Nat.le_trans hB hb, r⟩
/-- What lay below the arena may be the statement's own. -/
theorem Sc.lower {w : World} {B B' g : Nat} {s : Ar} {K E : List Nat} (h : Sc w B g s K) (hB : B' ≤ B) (tb : 0 < B') (db : 1 < B') (hE : ∀ k ∈ E, B' ≤ k ∧ k < B) : Sc w B' g s (E ++ K) := by
  obtain ⟨v, h1, h2⟩ := h.ar
  have hb := h.bl
  refine ⟨h.tab, h.dbt, tb, db, Nat.le_trans hB h.bl, v, ⟨Nat.le_trans hB h1.low, h1.ne, h1.wf, owns_lower h1.row hB, h1.blk⟩, fun k hk => ?_⟩
  rcases List.mem_append.1 hk with hk | hk
  · have := hE k hk
    have := h1.low
    refine ⟨by omega, by omega, by omega, fun e => ?_⟩
    have := (h1.vlt k e).1
    omega
  · have := h2 k hk
    exact ⟨by omega, this.2⟩
theorem Xs.back {w0 w : World} {B g hh m p : Nat} {Kd T : Int} {A : Option Addr} {n c : Nat} {l : List Int} {N : Nat} {S : Sv} {K K' : List Nat} (h : Xs w0 B g hh m p Kd T A n c l N S K w) (hs : ∀ k ∈ K', k ∈ K) (hp : p ∈ K') (hb : l ≠ [] → ∀ x, A = some x → x.block < B) :
    Xs w0 B g hh m p Kd T A n c l N S K' w := ⟨h.st.sub hs, h.ev, hp, ⟨h.ly.li, fun hn x e => .inl (hb hn x e)⟩, h.bel, h.hB⟩
theorem low_of {w : World} {A : Option Addr} {l : List Int} (h : Lies w A (ints l)) (hn : l ≠ []) (x : Addr) (hx : A = some x) : x.block < w.heap.size := by
  cases l with
  | nil => exact (hn rfl).elim
  | cons a r =>
    obtain ⟨y, e2, hy⟩ := h 0 _ rfl
    cases hx.symm.trans e2
    have := World.block_lt_of_cell? _ _ hy
    rwa [add_block] at this
end Go.Proofs.YtglhebpblncjaaaDoor
