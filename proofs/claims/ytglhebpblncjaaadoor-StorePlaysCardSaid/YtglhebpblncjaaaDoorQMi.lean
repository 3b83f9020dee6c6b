/- What is put and held so often, in plain mathematics. -/
import Derived.Test.YtglhebpblncjaaaDoorStEx
import Derived.Test.YtglhebpblncjaaaDoorStBack
namespace Go.Proofs.YtglhebpblncjaaaDoor
open Go.RowKit
set_option linter.unusedVariables false

theorem upd_upd {α : Type} (f : Int → α) (k : Int) (a b : α) : upd (upd f k a) k b = upd f k b := by
  funext i
  unfold upd
  split <;> rfl
theorem upd_id {α : Type} (f : Int → α) (k : Int) (a : α) (h : f k = a) : upd f k a = f := by
  funext i
  unfold upd
  split
  · rename_i e; rw [e, h]
  · rfl
theorem rnd128 {n : Int} (h0 : 0 ≤ n) (h1 : n ≤ 128) : rnd n ≤ 128 := by
  unfold rnd
  repeat' split
  all_goals omega
def c0 : Sv := ⟨⟨1000, 1000, []⟩, fun _ => none, 0⟩
def cE : Sv := ⟨⟨1000, 1000, [⟨[], 0, 2⟩]⟩, fun _ => none, 0⟩
def cS (t : List UInt8) (j ix : Int) : Sv := ⟨⟨1000, 1000, [⟨t, rnd t.length, 1⟩]⟩, upd (fun _ => none) ix (some ⟨0, 1, j⟩), 1⟩
theorem cs_put (t : List UInt8) (ix : Int) (h : t.length ≤ 128) : perr c0 ix true t = 0 ∧ sput c0 ix true t = cS t 1 ix := by
  have hr := rnd128 (n := (t.length : Int)) (by omega) (by omega)
  have ha : aerr c0.s (t.length : Int) = 0 := aerr_of (rok_yes (by omega) (by omega)) (by show (0 : Int) + rnd _ ≤ 1000; omega) (by show 0 < 4096; omega)
  have hp : perr c0 ix true t = 0 := by unfold perr; rw [if_neg (by decide), if_neg (by simp [c0])]; exact ha
  refine ⟨hp, ?_⟩
  unfold sput alo
  rw [if_pos hp, if_pos ha]
  rfl
theorem cs_f (t : List UInt8) (j ix : Int) : (cS t j ix).f ix = some ⟨0, 1, j⟩ := by
  show (upd (fun _ => (none : Option Ct)) ix (some ⟨0, 1, j⟩)) ix = some ⟨0, 1, j⟩
  exact upd_same (fun _ => (none : Option Ct)) ix (some ⟨0, 1, j⟩)
theorem cs_hold (t : List UInt8) (j ix : Int) : shold (cS t j ix) ix = cS t (j + 1) ix := by
  unfold shold
  rw [cs_f]
  show Sv.mk _ (upd (upd _ _ _) _ _) _ = _
  rw [upd_upd]
  rfl
theorem cs_drop (t : List UInt8) (j ix : Int) (h : j ≠ 1) : sdrop (cS t j ix) ix = cS t (j - 1) ix := by
  unfold sdrop
  rw [cs_f]
  show (if j = 1 then _ else Sv.mk _ (upd (upd _ _ _) _ _) _) = _
  rw [if_neg h, upd_upd]
  rfl
theorem cs_hit (t : List UInt8) (h : t.length ≤ 128) : hit [⟨t, rnd t.length, 1⟩] 0 1 = true := by
  have := (rnd16 (n := (t.length : Int)) (rok_yes (by omega) (by omega))).1
  unfold hit
  simp [bk]
  omega
theorem cs_last (t : List UInt8) (ix : Int) (h : t.length ≤ 128) : sdrop (cS t 1 ix) ix = cE := by
  unfold sdrop
  rw [cs_f]
  show (if (1 : Int) = 1 then Sv.mk (fro ⟨1000, 1000, [⟨t, rnd t.length, 1⟩]⟩ 0 1) (upd (upd _ _ _) _ _) _ else _) = _
  rw [if_pos rfl, upd_upd, upd_id _ _ _ rfl]
  unfold fro
  rw [if_pos (cs_hit t h)]
  rfl
theorem cs_byt (t : List UInt8) (j ix : Int) (h : t.length ≤ 128) : sbyt (cS t j ix) ix = t := by
  unfold sbyt
  rw [cs_f]
  show got ⟨1000, 1000, [⟨t, rnd t.length, 1⟩]⟩ 0 1 = t
  unfold got
  rw [if_pos (cs_hit t h)]
  rfl
theorem cs_cnt (t : List UInt8) (j ix : Int) : scnt (cS t j ix) ix = j := by unfold scnt; rw [cs_f]; rfl
theorem cs_chg (t : List UInt8) (j ix : Int) : chg (cS t j ix).s.l = rnd t.length := by
  show rnd t.length + 0 = _
  omega
theorem cE_all (ix : Int) : sbyt cE ix = [] ∧ scnt cE ix = 0 ∧ cE.f ix = none ∧ chg cE.s.l = 0 ∧ cE.n = 0 := ⟨rfl, rfl, rfl, rfl, rfl⟩
/-- Of so many left. -/
def cJ (t : List UInt8) (j : Nat) (ix : Int) : Sv := if j = 0 then cE else cS t j ix
theorem cJ_pos (t : List UInt8) {j : Nat} (ix : Int) (h : 0 < j) : cJ t j ix = cS t j ix := if_neg (by omega)
theorem cJ_drop (t : List UInt8) {j : Nat} (ix : Int) (h : 0 < j) (ht : t.length ≤ 128) : sdrop (cS t j ix) ix = cJ t (j - 1) ix := by
  unfold cJ
  by_cases h1 : j = 1
  · subst h1
    rw [if_pos rfl]
    exact cs_last t ix ht
  · rw [if_neg (by omega), cs_drop t j ix (by omega), show ((j : Int) - 1) = ((j - 1 : Nat) : Int) by omega]
theorem owns_lower {w : World} {B B' : Nat} {e : TypeId} {size : Nat} {v : Value} {n : Nat} {xs : List Value} (h : w.ownsRow B e size v n xs) (hB : B' ≤ B) : w.ownsRow B' e size v n xs := by
  refine ⟨h.1, ?_⟩
  rcases h.2 with h2 | ⟨g, cap, cur, hv, hb, r⟩
  · exact .inl h2
  · exact .inr ⟨g, cap, cur, hv, Nat.le_trans hB hb, r⟩
/-- What lay below the arena may be the statement's own. -/
theorem Sc.lower {w : World} {B B' g : Nat} {s : Ar} {K E : List Nat} (h : Sc w B g s K) (hB : B' ≤ B) (tb : 0 < B') (db : 1 < B') (hE : ∀ k ∈ E, B' ≤ k ∧ k < B) : Sc w B' g s (E ++ K) := by
  obtain ⟨v, h1, h2⟩ := h.ar
  have hb := h.bl
  refine ⟨h.tab, h.dbt, tb, db, Nat.le_trans hB h.bl, v, ⟨Nat.le_trans hB h1.low, h1.ne, h1.wf, owns_lower h1.row hB, h1.blk⟩, fun k hk => ?_⟩
  rcases List.mem_append.1 hk with hk | hk
  · have := hE k hk
    have := h1.low
    refine ⟨by omega, by omega, by omega, fun e => ?_⟩
    have := (h1.vlt k e).1
    omega
  · have := h2 k hk
    exact ⟨by omega, this.2⟩
theorem Xs.back {w0 w : World} {B g hh m p : Nat} {Kd T : Int} {A : Option Addr} {n c : Nat} {l : List Int} {N : Nat} {S : Sv} {K K' : List Nat} (h : Xs w0 B g hh m p Kd T A n c l N S K w) (hs : ∀ k ∈ K', k ∈ K) (hp : p ∈ K') (hb : l ≠ [] → ∀ x, A = some x → x.block < B) :
    Xs w0 B g hh m p Kd T A n c l N S K' w := ⟨h.st.sub hs, h.ev, hp, ⟨h.ly.li, fun hn x e => .inl (hb hn x e)⟩, h.bel, h.hB⟩
theorem low_of {w : World} {A : Option Addr} {l : List Int} (h : Lies w A (ints l)) (hn : l ≠ []) (x : Addr) (hx : A = some x) : x.block < w.heap.size := by
  cases l with
  | nil => exact (hn rfl).elim
  | cons a r =>
    obtain ⟨y, e2, hy⟩ := h 0 _ rfl
    cases hx.symm.trans e2
    have := World.block_lt_of_cell? _ _ hy
    rwa [add_block] at this
end Go.Proofs.YtglhebpblncjaaaDoor
/- What each deed makes of a store, in plain mathematics: who is in which slot, what is charged. -/
namespace Go.Proofs.YtglhebpblncjaaaDoor
open Go.RowKit
set_option linter.unusedVariables false

/-- Each that is there has a block of its own that lives. -/
structure Iv (S : Sv) : Prop where
  hit : ∀ k c, S.f k = some c → hit S.s.l c.s c.g = true
  one : ∀ k j c d, S.f k = some c → S.f j = some d → k ≠ j → c.s ≠ d.s
/-- How much is charged for what is at k. -/
def rz (S : Sv) (k : Int) : Int := match S.f k with
  | some c => (bk S.s.l c.s).r
  | none => 0
theorem rz_some {S : Sv} {k : Int} {c : Ct} (h : S.f k = some c) : rz S k = (bk S.s.l c.s).r := by unfold rz; rw [h]
theorem rz_none {S : Sv} {k : Int} (h : S.f k = none) : rz S k = 0 := by unfold rz; rw [h]
theorem sbyt_some {S : Sv} {k : Int} {c : Ct} (h : S.f k = some c) : sbyt S k = got S.s c.s c.g := by unfold sbyt; rw [h]
theorem sbyt_none {S : Sv} {k : Int} (h : S.f k = none) : sbyt S k = [] := by unfold sbyt; rw [h]
theorem got_hit {s : Ar} {i : Nat} {g : Int} (h : hit s.l i g = true) : got s i g = (bk s.l i).t := by unfold got; rw [if_pos h]
theorem perr_ok {S : Sv} {ix : Int} {t : List UInt8} (hn : S.f ix = none) : perr S ix true t = aerr S.s t.length := by
  unfold perr
  rw [if_neg (by decide), if_neg (by rw [hn]; decide)]
theorem Iv.new (c d : Int) : Iv ⟨⟨c, d, []⟩, fun _ => none, 0⟩ := ⟨(fun k c e => by cases e), fun k j c d e => by cases e⟩
theorem sput_f {S : Sv} {ix : Int} {t : List UInt8} (hp : perr S ix true t = 0) : sput S ix true t = ⟨alo S.s t, upd S.f ix (some ⟨fre S.s.l, (bk S.s.l (fre S.s.l)).g, 1⟩), S.n + 1⟩ := by unfold sput; rw [if_pos hp]
theorem alo_l {s : Ar} {t : List UInt8} (h : aerr s t.length = 0) : (alo s t).l = tak s.l t (rnd t.length) := by unfold alo; rw [if_pos h]
theorem Iv.put {S : Sv} (h : Iv S) {ix : Int} {t : List UInt8} (hn : S.f ix = none) (hp : perr S ix true t = 0) :
    Iv (sput S ix true t) ∧ chg (sput S ix true t).s.l = chg S.s.l + rnd t.length ∧ liv (sput S ix true t).s.l = liv S.s.l + 1 ∧ rz (sput S ix true t) ix = rnd t.length ∧ sbyt (sput S ix true t) ix = t ∧
      (∀ k, k ≠ ix → rz (sput S ix true t) k = rz S k ∧ sbyt (sput S ix true t) k = sbyt S k ∧ (sput S ix true t).f k = S.f k) ∧ (sput S ix true t).f ix = some ⟨fre S.s.l, (bk S.s.l (fre S.s.l)).g, 1⟩ ∧ (sput S ix true t).n = S.n + 1 := by
  have ha : aerr S.s t.length = 0 := by rw [← perr_ok hn]; exact hp
  have hr := rnd16 (aerr_ok ha).1
  rw [sput_f hp]
  have hl := alo_l ha
  have hbk : ∀ j, bk (alo S.s t).l j = if j = fre S.s.l then tkb S.s.l t (rnd t.length) else bk S.s.l j := fun j => by rw [hl]; exact tak_bk _ _ _ _
  have hne : ∀ k c, S.f k = some c → c.s ≠ fre S.s.l := fun k c e e2 => by
    have h1 := (hit_r (h.hit k c e)).1
    rw [e2] at h1
    exact h1 (fre_r _)
  have hold : ∀ k c, S.f k = some c → bk (alo S.s t).l c.s = bk S.s.l c.s := fun k c e => by rw [hbk, if_neg (hne k c e)]
  have hnew : bk (alo S.s t).l (fre S.s.l) = tkb S.s.l t (rnd t.length) := by rw [hbk, if_pos rfl]
  have hnh : Go.Proofs.YtglhebpblncjaaaDoor.hit (alo S.s t).l (fre S.s.l) (bk S.s.l (fre S.s.l)).g = true := by
    unfold Go.Proofs.YtglhebpblncjaaaDoor.hit
    rw [hnew]
    simp [tkb]
    omega
  have hnf : ∀ k, k ≠ ix → (Sv.mk (alo S.s t) (upd S.f ix (some ⟨fre S.s.l, (bk S.s.l (fre S.s.l)).g, 1⟩)) (S.n + 1)).f k = S.f k := fun k hk => upd_other _ _ _ _ hk
  have hxf : (Sv.mk (alo S.s t) (upd S.f ix (some ⟨fre S.s.l, (bk S.s.l (fre S.s.l)).g, 1⟩)) (S.n + 1)).f ix = some ⟨fre S.s.l, (bk S.s.l (fre S.s.l)).g, 1⟩ := upd_same S.f ix (some ⟨fre S.s.l, (bk S.s.l (fre S.s.l)).g, 1⟩)
  refine ⟨⟨fun k c e => ?_, fun k j c d e1 e2 hkj => ?_⟩, ?_, ?_, ?_, ?_, fun k hk => ⟨?_, ?_, hnf k hk⟩, hxf, rfl⟩
  · by_cases hk : k = ix
    · subst hk
      rw [hxf] at e
      cases e
      exact hnh
    · rw [hnf k hk] at e
      have := h.hit k c e
      unfold Go.Proofs.YtglhebpblncjaaaDoor.hit at this ⊢
      show ((bk (alo S.s t).l c.s).r != 0 && (bk (alo S.s t).l c.s).g == c.g) = true
      rw [hold k c e]
      exact this
  · by_cases hk : k = ix
    · subst hk
      rw [hxf] at e1
      rw [hnf j (fun e => hkj e.symm)] at e2
      cases e1
      exact fun e => hne j d e2 e.symm
    · rw [hnf k hk] at e1
      by_cases hj : j = ix
      · subst hj
        rw [hxf] at e2
        cases e2
        exact hne k c e1
      · rw [hnf j hj] at e2
        exact h.one k j c d e1 e2 hkj
  · show chg (alo S.s t).l = _
    rw [hl, tak_chg]
  · show liv (alo S.s t).l = _
    rw [hl, tak_liv _ _ _ (by omega)]
  · rw [rz_some hxf]
    show (bk (alo S.s t).l (fre S.s.l)).r = _
    rw [hnew]; rfl
  · rw [sbyt_some hxf]
    show got (alo S.s t) (fre S.s.l) _ = t
    rw [got_hit hnh, hnew]; rfl
  · cases e : S.f k with
    | none => rw [rz_none e, rz_none ((hnf k hk).trans e)]
    | some c =>
      rw [rz_some e, rz_some ((hnf k hk).trans e)]
      show (bk (alo S.s t).l c.s).r = _
      rw [hold k c e]
  · cases e : S.f k with
    | none => rw [sbyt_none e, sbyt_none ((hnf k hk).trans e)]
    | some c =>
      rw [sbyt_some e, sbyt_some ((hnf k hk).trans e)]
      have h1 := h.hit k c e
      have h2 : Go.Proofs.YtglhebpblncjaaaDoor.hit (alo S.s t).l c.s c.g = true := by
        unfold Go.Proofs.YtglhebpblncjaaaDoor.hit at h1 ⊢
        rw [hold k c e]
        exact h1
      show got (alo S.s t) c.s c.g = _
      rw [got_hit h1, got_hit h2, hold k c e]
theorem Iv.hold {S : Sv} (h : Iv S) (ix : Int) : Iv (shold S ix) ∧ (shold S ix).s = S.s ∧ (shold S ix).n = S.n ∧ (∀ k, rz (shold S ix) k = rz S k ∧ sbyt (shold S ix) k = sbyt S k ∧ ((shold S ix).f k).isSome = (S.f k).isSome) ∧ scnt (shold S ix) ix = if (S.f ix).isSome = true then scnt S ix + 1 else scnt S ix := by
  cases e : S.f ix with
  | none =>
    have e1 : shold S ix = S := by unfold shold; rw [e]
    rw [e1]
    exact ⟨h, rfl, rfl, fun k => ⟨rfl, rfl, rfl⟩, by simp⟩
  | some c =>
    have e1 : shold S ix = ⟨S.s, upd S.f ix (some ⟨c.s, c.g, c.t + 1⟩), S.n⟩ := by unfold shold; rw [e]
    rw [e1]
    have hxf : (Sv.mk S.s (upd S.f ix (some ⟨c.s, c.g, c.t + 1⟩)) S.n).f ix = some ⟨c.s, c.g, c.t + 1⟩ := upd_same S.f ix (some ⟨c.s, c.g, c.t + 1⟩)
    have hnf : ∀ k, k ≠ ix → (Sv.mk S.s (upd S.f ix (some ⟨c.s, c.g, c.t + 1⟩)) S.n).f k = S.f k := fun k hk => upd_other _ _ _ _ hk
    have key : ∀ k d, (Sv.mk S.s (upd S.f ix (some ⟨c.s, c.g, c.t + 1⟩)) S.n).f k = some d → ∃ d', S.f k = some d' ∧ d'.s = d.s ∧ d'.g = d.g := fun k d e2 => by
      by_cases hk : k = ix
      · subst hk
        rw [hxf] at e2
        cases e2
        exact ⟨c, e, rfl, rfl⟩
      · rw [hnf k hk] at e2
        exact ⟨d, e2, rfl, rfl⟩
    refine ⟨⟨fun k d e2 => ?_, fun k j d d2 e2 e3 hkj => ?_⟩, rfl, rfl, fun k => ?_, ?_⟩
    · obtain ⟨d', h1, h2, h3⟩ := key k d e2
      rw [← h2, ← h3]
      exact h.hit k d' h1
    · obtain ⟨a, h1, h2, _⟩ := key k d e2
      obtain ⟨b, g1, g2, _⟩ := key j d2 e3
      rw [← h2, ← g2]
      exact h.one k j a b h1 g1 hkj
    · by_cases hk : k = ix
      · subst hk
        rw [rz_some hxf, rz_some e, sbyt_some hxf, sbyt_some e, hxf, e]
        exact ⟨rfl, rfl, rfl⟩
      · have := hnf k hk
        refine ⟨?_, ?_, by rw [this]⟩
        · unfold rz; rw [this]
        · unfold sbyt; rw [this]
    · unfold scnt
      rw [hxf, e]
      rfl
theorem fro_l {s : Ar} {i : Nat} {g : Int} (h : hit s.l i g = true) : fro s i g = ⟨s.cap, s.lim, s.l.set i (frb (bk s.l i))⟩ := by unfold fro; rw [if_pos h]
/-- With one counted once, dropped. -/
theorem Iv.last {S : Sv} (h : Iv S) {ix : Int} {c : Ct} (e : S.f ix = some c) (ht : c.t = 1) :
    Iv (sdrop S ix) ∧ chg (sdrop S ix).s.l = chg S.s.l - rz S ix ∧ liv (sdrop S ix).s.l = liv S.s.l - 1 ∧ rz (sdrop S ix) ix = 0 ∧ (sdrop S ix).f ix = none ∧
      (∀ k, k ≠ ix → rz (sdrop S ix) k = rz S k ∧ sbyt (sdrop S ix) k = sbyt S k ∧ (sdrop S ix).f k = S.f k) ∧ (sdrop S ix).n = S.n - 1 ∧ (sdrop S ix).s.cap = S.s.cap ∧ (sdrop S ix).s.lim = S.s.lim ∧ (sdrop S ix).s.l.length = S.s.l.length := by
  have hh := h.hit ix c e
  have hl := hit_lt hh
  have hr := (hit_r hh).1
  have e1 : sdrop S ix = ⟨⟨S.s.cap, S.s.lim, S.s.l.set c.s (frb (bk S.s.l c.s))⟩, upd S.f ix none, S.n - 1⟩ := by unfold sdrop; rw [e]; simp only [ht, if_true]; rw [fro_l hh]
  rw [e1]
  have hxf : (Sv.mk ⟨S.s.cap, S.s.lim, S.s.l.set c.s (frb (bk S.s.l c.s))⟩ (upd S.f ix none) (S.n - 1)).f ix = none := upd_same S.f ix none
  have hnf : ∀ k, k ≠ ix → (Sv.mk ⟨S.s.cap, S.s.lim, S.s.l.set c.s (frb (bk S.s.l c.s))⟩ (upd S.f ix none) (S.n - 1)).f k = S.f k := fun k hk => upd_other _ _ _ _ hk
  have hbk : ∀ k d, k ≠ ix → S.f k = some d → bk (S.s.l.set c.s (frb (bk S.s.l c.s))) d.s = bk S.s.l d.s := fun k d hk e2 => by rw [bk_set hl, if_neg (h.one k ix d c e2 e hk)]
  refine ⟨⟨fun k d e2 => ?_, fun k j d d2 e2 e3 hkj => ?_⟩, ?_, ?_, rz_none hxf, hxf, fun k hk => ⟨?_, ?_, hnf k hk⟩, rfl, rfl, rfl, by simp⟩
  · have hk : k ≠ ix := fun e3 => by subst e3; rw [hxf] at e2; cases e2
    rw [hnf k hk] at e2
    have := h.hit k d e2
    unfold Go.Proofs.YtglhebpblncjaaaDoor.hit at this ⊢
    show ((bk (S.s.l.set c.s (frb (bk S.s.l c.s))) d.s).r != 0 && (bk (S.s.l.set c.s (frb (bk S.s.l c.s))) d.s).g == d.g) = true
    rw [hbk k d hk e2]
    exact this
  · have hk : k ≠ ix := fun e4 => by subst e4; rw [hxf] at e2; cases e2
    have hj : j ≠ ix := fun e4 => by subst e4; rw [hxf] at e3; cases e3
    rw [hnf k hk] at e2
    rw [hnf j hj] at e3
    exact h.one k j d d2 e2 e3 hkj
  · show chg (S.s.l.set c.s (frb (bk S.s.l c.s))) = _
    rw [chg_set hl, rz_some e]
    simp [frb]
  · show liv (S.s.l.set c.s (frb (bk S.s.l c.s))) = _
    rw [liv_set hl]
    have h1 : Go.Proofs.YtglhebpblncjaaaDoor.one (bk S.s.l c.s).r = 1 := if_neg hr
    have h2 : Go.Proofs.YtglhebpblncjaaaDoor.one (frb (bk S.s.l c.s)).r = 0 := if_pos rfl
    omega
  · cases e2 : S.f k with
    | none => rw [rz_none e2, rz_none ((hnf k hk).trans e2)]
    | some d =>
      rw [rz_some e2, rz_some ((hnf k hk).trans e2)]
      show (bk (S.s.l.set c.s (frb (bk S.s.l c.s))) d.s).r = _
      rw [hbk k d hk e2]
  · cases e2 : S.f k with
    | none => rw [sbyt_none e2, sbyt_none ((hnf k hk).trans e2)]
    | some d =>
      rw [sbyt_some e2, sbyt_some ((hnf k hk).trans e2)]
      have h1 := h.hit k d e2
      have h2 : Go.Proofs.YtglhebpblncjaaaDoor.hit (S.s.l.set c.s (frb (bk S.s.l c.s))) d.s d.g = true := by
        unfold Go.Proofs.YtglhebpblncjaaaDoor.hit at h1 ⊢
        rw [hbk k d hk e2]
        exact h1
      show got ⟨S.s.cap, S.s.lim, S.s.l.set c.s (frb (bk S.s.l c.s))⟩ d.s d.g = _
      rw [got_hit h1, got_hit (s := ⟨S.s.cap, S.s.lim, S.s.l.set c.s (frb (bk S.s.l c.s))⟩) h2]
      show (bk (S.s.l.set c.s (frb (bk S.s.l c.s))) d.s).t = _
      rw [hbk k d hk e2]
/-- With one counted more often, dropped once. -/
theorem Iv.less {S : Sv} (h : Iv S) {ix : Int} {c : Ct} (e : S.f ix = some c) (ht : c.t ≠ 1) :
    Iv (sdrop S ix) ∧ (sdrop S ix).s = S.s ∧ (sdrop S ix).n = S.n ∧ (∀ k, rz (sdrop S ix) k = rz S k ∧ sbyt (sdrop S ix) k = sbyt S k ∧ ((sdrop S ix).f k).isSome = (S.f k).isSome) ∧ scnt (sdrop S ix) ix = c.t - 1 := by
  have e1 : sdrop S ix = ⟨S.s, upd S.f ix (some ⟨c.s, c.g, c.t - 1⟩), S.n⟩ := by unfold sdrop; rw [e]; exact if_neg ht
  rw [e1]
  have hxf : (Sv.mk S.s (upd S.f ix (some ⟨c.s, c.g, c.t - 1⟩)) S.n).f ix = some ⟨c.s, c.g, c.t - 1⟩ := upd_same S.f ix (some ⟨c.s, c.g, c.t - 1⟩)
  have hnf : ∀ k, k ≠ ix → (Sv.mk S.s (upd S.f ix (some ⟨c.s, c.g, c.t - 1⟩)) S.n).f k = S.f k := fun k hk => upd_other _ _ _ _ hk
  have key : ∀ k d, (Sv.mk S.s (upd S.f ix (some ⟨c.s, c.g, c.t - 1⟩)) S.n).f k = some d → ∃ d', S.f k = some d' ∧ d'.s = d.s ∧ d'.g = d.g := fun k d e2 => by
    by_cases hk : k = ix
    · subst hk
      rw [hxf] at e2
      cases e2
      exact ⟨c, e, rfl, rfl⟩
    · rw [hnf k hk] at e2
      exact ⟨d, e2, rfl, rfl⟩
  refine ⟨⟨fun k d e2 => ?_, fun k j d d2 e2 e3 hkj => ?_⟩, rfl, rfl, fun k => ?_, ?_⟩
  · obtain ⟨d', h1, h2, h3⟩ := key k d e2
    rw [← h2, ← h3]
    exact h.hit k d' h1
  · obtain ⟨a, h1, h2, _⟩ := key k d e2
    obtain ⟨b, g1, g2, _⟩ := key j d2 e3
    rw [← h2, ← g2]
    exact h.one k j a b h1 g1 hkj
  · by_cases hk : k = ix
    · subst hk
      rw [rz_some hxf, rz_some e, sbyt_some hxf, sbyt_some e, hxf, e]
      exact ⟨rfl, rfl, rfl⟩
    · have := hnf k hk
      refine ⟨?_, ?_, by rw [this]⟩
      · unfold rz; rw [this]
      · unfold sbyt; rw [this]
  · unfold scnt
    rw [hxf]
    rfl
end Go.Proofs.YtglhebpblncjaaaDoor
/- An event that has room, or not, in plain mathematics; two events beside a store. -/
namespace Go.Proofs.YtglhebpblncjaaaDoor
open Go.RowKit
set_option linter.unusedVariables false

theorem perr_fit {S : Sv} {ix : Int} {t : List UInt8} (hn : S.f ix = none) (ht : t.length ≤ 128) (hl : S.s.l.length ≤ 4000) : perr S ix true t = if S.s.lim < chg S.s.l + rnd t.length then 9 else 0 := by
  rw [perr_ok hn]
  have hr : rok (t.length : Int) = true := rok_yes (by omega) (by omega)
  have hf := fre_le S.s.l
  unfold aerr
  rw [if_neg (by rw [hr]; decide)]
  split
  · rfl
  · rw [if_neg (by omega)]
theorem sput_no {S : Sv} {ix : Int} {t : List UInt8} (hp : perr S ix true t ≠ 0) : sput S ix true t = S := by unfold sput; rw [if_neg hp]
theorem sput_len (S : Sv) (ix : Int) (t : List UInt8) : (sput S ix true t).s.l.length ≤ S.s.l.length + 1 ∧ (sput S ix true t).s.lim = S.s.lim := by
  unfold sput
  split
  · unfold alo
    split
    · refine ⟨?_, rfl⟩
      show (tak _ _ _).length ≤ _
      rw [tak_len]
      split <;> omega
    · exact ⟨by simp, rfl⟩
  · exact ⟨by simp, rfl⟩
theorem none_put {S : Sv} (h : Iv S) {ix k : Int} {t : List UInt8} (hn : S.f ix = none) (hk : k ≠ ix) : (sput S ix true t).f k = S.f k := by
  by_cases hp : perr S ix true t = 0
  · exact ((h.put hn hp).2.2.2.2.2.1 k hk).2.2
  · rw [sput_no hp]
def r0 (R : Int) : Sv := ⟨⟨R, R, []⟩, fun _ => none, 0⟩
/-- What comes of two events, of which the first is dropped, and the second put again. -/
structure RoomM (R k n : Int) (t1 t2 : List UInt8) (bf bb : Bool) : Prop where
  p1 : perr (r0 R) 1 true t1 = if bf = true then 0 else 9
  p2 : perr (sput (r0 R) 1 true t1) 2 true t2 = if bb = true then 0 else 9
  d1 : ((sput (sput (r0 R) 1 true t1) 2 true t2).f 1).isSome = bf
  p3 : perr (sdrop (sput (sput (r0 R) 1 true t1) 2 true t2) 1) 3 true t2 = if n + (if bb = true then n else 0) ≤ R then 0 else 9
theorem room_math (R : Int) (t1 t2 : List UInt8) (h1 : t1.length ≤ 128) (h2 : t2.length ≤ 128) (bf bb : Bool) (hf : decide (rnd t1.length ≤ R) = bf) (hb : decide ((if bf = true then rnd t1.length else 0) + rnd t2.length ≤ R) = bb) :
    RoomM R (rnd t1.length) (rnd t2.length) t1 t2 bf bb := by
  have iv0 : Iv (r0 R) := Iv.new R R
  have e1 := perr_fit (S := r0 R) (ix := 1) (t := t1) rfl h1 (by simp [r0])
  have c0 : chg (r0 R).s.l = 0 := rfl
  have m0 : (r0 R).s.lim = R := rfl
  rw [c0, m0] at e1
  have e1' : perr (r0 R) 1 true t1 = if bf = true then 0 else 9 := by
    rw [e1, ← hf]
    by_cases h : rnd (t1.length : Int) ≤ R
    · rw [if_neg (by omega), if_pos (by simpa using h)]
    · rw [if_pos (by omega), if_neg (by simpa using h)]
  obtain ⟨l1, m1⟩ := sput_len (r0 R) 1 t1
  rw [show (r0 R).s.l.length = 0 from rfl] at l1
  have f13 : (sput (r0 R) 1 true t1).f 3 = none := none_put iv0 rfl (by decide)
  have f12 : (sput (r0 R) 1 true t1).f 2 = none := none_put iv0 rfl (by decide)
  have k1 : Iv (sput (r0 R) 1 true t1) ∧ chg (sput (r0 R) 1 true t1).s.l = (if bf = true then rnd t1.length else 0) ∧ ((sput (r0 R) 1 true t1).f 1).isSome = bf ∧ rz (sput (r0 R) 1 true t1) 1 = (if bf = true then rnd t1.length else 0) ∧ ∀ c, (sput (r0 R) 1 true t1).f 1 = some c → c.t = 1 := by
    cases bf with
    | true =>
      obtain ⟨a1, a2, a3, a4, a5, a6, a7, a8⟩ := iv0.put (ix := 1) (t := t1) rfl e1'
      exact ⟨a1, by rw [a2, c0]; simp, by rw [a7]; rfl, by rw [a4]; rfl, fun c e => by rw [a7] at e; cases e; rfl⟩
    | false =>
      rw [sput_no (by rw [e1']; decide)]
      exact ⟨iv0, rfl, rfl, rfl, fun c e => by cases e⟩
  obtain ⟨iv1, c1, s1, z1, t1e⟩ := k1
  have e2 := perr_fit (S := sput (r0 R) 1 true t1) (ix := 2) (t := t2) f12 h2 (by omega)
  rw [c1, m1, m0] at e2
  have e2' : perr (sput (r0 R) 1 true t1) 2 true t2 = if bb = true then 0 else 9 := by
    rw [e2, ← hb]
    by_cases h : (if bf = true then rnd (t1.length : Int) else 0) + rnd (t2.length : Int) ≤ R
    · rw [if_neg (by omega), if_pos (by simpa using h)]
    · rw [if_pos (by omega), if_neg (by simpa using h)]
  obtain ⟨S1, hS1⟩ : ∃ S, sput (r0 R) 1 true t1 = S := ⟨_, rfl⟩
  rw [hS1] at l1 m1 f12 f13 iv1 c1 s1 z1 t1e e2 e2'
  obtain ⟨l2, m2⟩ := sput_len S1 2 t2
  have f21 : (sput S1 2 true t2).f 1 = S1.f 1 := none_put iv1 f12 (by decide)
  have f23 : (sput S1 2 true t2).f 3 = S1.f 3 := none_put iv1 f12 (by decide)
  have k2 : Iv (sput S1 2 true t2) ∧ chg (sput S1 2 true t2).s.l = chg S1.s.l + (if bb = true then rnd t2.length else 0) ∧ rz (sput S1 2 true t2) 1 = rz S1 1 := by
    cases bb with
    | true =>
      obtain ⟨a1, a2, a3, a4, a5, a6, a7, a8⟩ := iv1.put (ix := 2) (t := t2) f12 e2'
      exact ⟨a1, a2, (a6 1 (by decide)).1⟩
    | false =>
      rw [sput_no (by rw [e2']; decide)]
      exact ⟨iv1, by simp, rfl⟩
  obtain ⟨iv2, c2, z2⟩ := k2
  have d1' : ((sput S1 2 true t2).f 1).isSome = bf := by rw [f21]; exact s1
  have key : (sdrop (sput S1 2 true t2) 1).f 3 = (sput S1 2 true t2).f 3 ∧ chg (sdrop (sput S1 2 true t2) 1).s.l = (if bb = true then rnd t2.length else 0) ∧ (sdrop (sput S1 2 true t2) 1).s.lim = R ∧ (sdrop (sput S1 2 true t2) 1).s.l.length ≤ 10 := by
    cases hc : (sput S1 2 true t2).f 1 with
    | none =>
      have e : sdrop (sput S1 2 true t2) 1 = sput S1 2 true t2 := by unfold sdrop; rw [hc]
      rw [hc] at d1'
      have hbf : bf = false := d1'.symm
      rw [e, c2, c1, hbf]
      exact ⟨rfl, by simp, by rw [m2, m1, m0], by omega⟩
    | some c =>
      rw [hc] at d1'
      have hbf : bf = true := d1'.symm
      have ht : c.t = 1 := t1e c (by rw [← f21]; exact hc)
      obtain ⟨a1, a2, a3, a4, a5, a6, a7, a8, a9, a10⟩ := iv2.last hc ht
      refine ⟨(a6 3 (by decide)).2.2, ?_, by rw [a9, m2, m1, m0], by rw [a10]; omega⟩
      rw [a2, z2, z1, c2, c1, hbf]
      omega
  obtain ⟨x1, x2, x3, x4⟩ := key
  have e3 := perr_fit (S := sdrop (sput S1 2 true t2) 1) (ix := 3) (t := t2) (by rw [x1, f23, f13]) h2 (by omega)
  rw [x2, x3] at e3
  refine ⟨e1', by rw [hS1]; exact e2', by rw [hS1]; exact d1', ?_⟩
  rw [hS1, e3]
  by_cases h : rnd (t2.length : Int) + (if bb = true then rnd (t2.length : Int) else 0) ≤ R
  · rw [if_neg (by omega), if_pos h]
  · rw [if_pos (by omega), if_neg h]
theorem zeros_len (k : Nat) (T : Int) (n : Nat) (hk : k < 256) (h : n ≤ 8) : (wput (k : Int) T (List.replicate n 0)).length = 10 + 8 * n := by rw [wput_length k T _ hk (by simp; omega)]; simp
theorem mod9 (a : Int) (h0 : 0 ≤ a) : ∃ x : Nat, a.tmod 9 = (x : Int) ∧ x < 9 := ⟨(a % 9).toNat, by rw [Int.tmod_eq_emod_of_nonneg h0]; omega, by omega⟩
end Go.Proofs.YtglhebpblncjaaaDoor
/- Eight events at most, each of its own size: what is charged is their sum, in plain mathematics. -/
namespace Go.Proofs.YtglhebpblncjaaaDoor
open Go.RowKit
set_option linter.unusedVariables false

def acc (f : Nat → Int) : Nat → Int
  | 0 => 0
  | n + 1 => acc f n + f n
theorem acc_same (f g : Nat → Int) (n : Nat) (h : ∀ j, j < n → g j = f j) : acc g n = acc f n := by
  induction n with
  | zero => rfl
  | succ n ih => simp only [acc]; rw [ih (fun j hj => h j (by omega)), h n (by omega)]
theorem acc_upd (f g : Nat → Int) (i n : Nat) (hi : i < n) (h : ∀ j, j ≠ i → g j = f j) : acc g n = acc f n - f i + g i := by
  induction n with
  | zero => omega
  | succ n ih =>
    simp only [acc]
    by_cases e : i = n
    · subst e
      rw [acc_same f g i (fun j hj => h j (by omega))]
      omega
    · rw [ih (by omega), h n (fun e2 => e e2.symm)]
      omega
theorem acc_bd (f : Nat → Int) (M : Int) (h : ∀ j, 0 ≤ f j ∧ f j ≤ M) (n : Nat) : 0 ≤ acc f n ∧ acc f n ≤ M * (n : Int) := by
  induction n with
  | zero => simp [acc]
  | succ n ih =>
    have := h n
    simp only [acc]
    have e : M * ((n + 1 : Nat) : Int) = M * (n : Int) + M := by rw [Int.natCast_add, Int.mul_add]; simp
    omega
theorem fre_liv (l : List Blk) : (fre l : Int) ≤ liv l := by
  induction l with
  | nil => simp [fre, liv]
  | cons b r ih =>
    have := (liv_bd r).1
    simp only [fre, liv]
    split
    · simp; omega
    · rename_i h; simp; omega
/-- What is put of the event of so many numbers. -/
def t8 (k : Nat) : List UInt8 := wput (k : Int) 0 (List.replicate k 0)
theorem t8_len {k : Nat} (h : k < 8) : (t8 k).length = 10 + 8 * k := zeros_len k 0 k (by omega) (by omega)
def so (S : Sv) (k : Nat) : Int := if (S.f (k : Int)).isSome = true then 1 else 0
def sumTo (S : Sv) (n : Nat) : Int := acc (fun k => rz S (k : Int)) n
def cntTo (S : Sv) (n : Nat) : Int := acc (so S) n
/-- A store of such events. -/
structure Cg (S : Sv) : Prop where
  iv : Iv S
  tx : ∀ k : Nat, k < 8 → (S.f (k : Int)).isSome = true → sbyt S k = t8 k ∧ rz S k = rnd (t8 k).length
  out : ∀ k : Nat, 8 ≤ k → S.f (k : Int) = none
  chg : chg S.s.l = sumTo S 8
  liv : liv S.s.l = cntTo S 8
  n : (S.n : Int) = cntTo S 8
  lim : S.s.lim = 300
theorem so_bd (S : Sv) (k : Nat) : 0 ≤ so S k ∧ so S k ≤ 1 := by unfold so; split <;> omega
theorem Cg.rz {S : Sv} (h : Cg S) (k : Nat) : 0 ≤ Go.Proofs.YtglhebpblncjaaaDoor.rz S k ∧ Go.Proofs.YtglhebpblncjaaaDoor.rz S k ≤ 128 := by
  cases e : S.f (k : Int) with
  | none => rw [rz_none e]; omega
  | some c =>
    by_cases hk : k < 8
    · have h1 := (h.tx k hk (by rw [e]; rfl)).2
      have hl := t8_len hk
      have a := rnd128 (n := ((t8 k).length : Int)) (by omega) (by omega)
      have b := (rnd16 (n := ((t8 k).length : Int)) (rok_yes (by omega) (by omega))).1
      rw [h1]; omega
    · rw [h.out k (by omega)] at e; cases e
theorem Cg.sums {S : Sv} (h : Cg S) (n : Nat) : 0 ≤ sumTo S n ∧ sumTo S n ≤ 128 * (n : Int) := acc_bd _ 128 h.rz n
theorem cnt_bd (S : Sv) (n : Nat) : 0 ≤ cntTo S n ∧ cntTo S n ≤ 1 * (n : Int) := acc_bd _ 1 (so_bd S) n
theorem Cg.new : Cg (r0 300) := ⟨Iv.new _ _, (fun k _ e => by cases e), fun k _ => rfl, rfl, rfl, rfl, rfl⟩
theorem Cg.err {S : Sv} (h : Cg S) {i : Nat} (hi : i < 8) (hn : S.f (i : Int) = none) : perr S i true (t8 i) = 0 ∨ perr S i true (t8 i) = 9 := by
  rw [perr_ok hn]
  have hl := t8_len hi
  have hr : rok ((t8 i).length : Int) = true := rok_yes (by omega) (by omega)
  have h1 := fre_liv S.s.l
  have h2 := (cnt_bd S 8).2
  rw [← h.liv] at h2
  unfold aerr
  rw [if_neg (by rw [hr]; decide)]
  split
  · exact .inr rfl
  · rw [if_neg (by omega)]; exact .inl rfl
theorem Cg.put {S : Sv} (h : Cg S) {i : Nat} (hi : i < 8) (hn : S.f (i : Int) = none) : Cg (sput S i true (t8 i)) := by
  rcases h.err hi hn with hp | hp
  · obtain ⟨a1, a2, a3, a4, a5, a6, a7, a8⟩ := h.iv.put hn hp
    have hs : so (sput S i true (t8 i)) i = 1 := by unfold so; rw [a7]; rfl
    have hs0 : so S i = 0 := by unfold so; rw [hn]; rfl
    have hso : ∀ j, j ≠ i → so (sput S i true (t8 i)) j = so S j := fun j hj => by unfold so; rw [(a6 j (by omega)).2.2]
    have hrz : ∀ j : Nat, j ≠ i → Go.Proofs.YtglhebpblncjaaaDoor.rz (sput S i true (t8 i)) j = Go.Proofs.YtglhebpblncjaaaDoor.rz S j := fun j hj => (a6 j (by omega)).1
    have e1 : sumTo (sput S i true (t8 i)) 8 = sumTo S 8 - Go.Proofs.YtglhebpblncjaaaDoor.rz S i + Go.Proofs.YtglhebpblncjaaaDoor.rz (sput S i true (t8 i)) i := acc_upd _ _ i 8 hi hrz
    have e2 : cntTo (sput S i true (t8 i)) 8 = cntTo S 8 - so S i + so (sput S i true (t8 i)) i := acc_upd _ _ i 8 hi hso
    rw [rz_none hn, a4] at e1
    rw [hs, hs0] at e2
    refine ⟨a1, fun k hk e => ?_, fun k hk => by rw [(a6 k (by omega)).2.2]; exact h.out k hk, ?_, ?_, ?_, by rw [(sput_len S i (t8 i)).2]; exact h.lim⟩
    · by_cases hki : k = i
      · subst hki
        exact ⟨a5, a4⟩
      · obtain ⟨b1, b2, b3⟩ := a6 k (by omega)
        rw [b3] at e
        rw [b1, b2]
        exact h.tx k hk e
    · rw [a2, h.chg, e1]; omega
    · rw [a3, h.liv, e2]; omega
    · rw [a8, e2, ← h.n]; omega
  · rw [sput_no (by rw [hp]; decide)]
    exact h
theorem Cg.put_some {S : Sv} {i : Nat} {c : Ct} (e : S.f (i : Int) = some c) : perr S i true (t8 i) = 1 ∧ sput S i true (t8 i) = S := by
  have hp : perr S i true (t8 i) = 1 := by unfold perr; rw [if_neg (by decide), if_pos (by rw [e]; rfl)]
  exact ⟨hp, sput_no (by rw [hp]; decide)⟩
/-- With the same slots, sizes and who is there. -/
theorem Cg.like {S S' : Sv} (h : Cg S) (iv : Iv S') (hs : S'.s = S.s) (hn : S'.n = S.n) (hk : ∀ k, Go.Proofs.YtglhebpblncjaaaDoor.rz S' k = Go.Proofs.YtglhebpblncjaaaDoor.rz S k ∧ sbyt S' k = sbyt S k ∧ (S'.f k).isSome = (S.f k).isSome) : Cg S' := by
  have e1 : sumTo S' 8 = sumTo S 8 := acc_same _ _ 8 fun j _ => (hk j).1
  have e2 : cntTo S' 8 = cntTo S 8 := acc_same _ _ 8 fun j _ => by unfold so; rw [(hk j).2.2]
  refine ⟨iv, fun k h8 e => ?_, fun k h8 => ?_, by rw [hs, h.chg, e1], by rw [hs, h.liv, e2], by rw [hn, h.n, e2], by rw [hs]; exact h.lim⟩
  · rw [(hk k).2.2] at e
    rw [(hk k).1, (hk k).2.1]
    exact h.tx k h8 e
  · have := (hk k).2.2
    rw [h.out k h8] at this
    cases e : S'.f (k : Int) with
    | none => rfl
    | some c => rw [e] at this; cases this
theorem Cg.hold {S : Sv} (h : Cg S) (i : Nat) : Cg (shold S i) := by
  obtain ⟨a1, a2, a3, a4, a5⟩ := h.iv.hold i
  exact h.like a1 a2 a3 a4
theorem Cg.drop {S : Sv} (h : Cg S) {i : Nat} (hi : i < 8) : Cg (sdrop S i) := by
  cases e : S.f (i : Int) with
  | none =>
    have e1 : sdrop S i = S := by unfold sdrop; rw [e]
    rw [e1]; exact h
  | some c =>
    by_cases ht : c.t = 1
    · obtain ⟨a1, a2, a3, a4, a5, a6, a7, a8, a9, a10⟩ := h.iv.last e ht
      have hs : so (sdrop S i) i = 0 := by unfold so; rw [a5]; rfl
      have hs0 : so S i = 1 := by unfold so; rw [e]; rfl
      have hso : ∀ j, j ≠ i → so (sdrop S i) j = so S j := fun j hj => by unfold so; rw [(a6 j (by omega)).2.2]
      have e1 : sumTo (sdrop S i) 8 = sumTo S 8 - Go.Proofs.YtglhebpblncjaaaDoor.rz S i + Go.Proofs.YtglhebpblncjaaaDoor.rz (sdrop S i) i := acc_upd _ _ i 8 hi fun j hj => (a6 j (by omega)).1
      have e2 : cntTo (sdrop S i) 8 = cntTo S 8 - so S i + so (sdrop S i) i := acc_upd _ _ i 8 hi hso
      rw [a4] at e1
      rw [hs, hs0] at e2
      have hpos : 1 ≤ S.n := by
        have h1 := h.n
        have h2 := (cnt_bd (sdrop S i) 8).1
        omega
      refine ⟨a1, fun k hk e3 => ?_, fun k hk => by rw [(a6 k (by omega)).2.2]; exact h.out k hk, ?_, ?_, ?_, by rw [a9]; exact h.lim⟩
      · have hki : k ≠ i := fun e4 => by subst e4; rw [a5] at e3; cases e3
        obtain ⟨b1, b2, b3⟩ := a6 k (by omega)
        rw [b3] at e3
        rw [b1, b2]
        exact h.tx k hk e3
      · rw [a2, h.chg, e1]; omega
      · rw [a3, h.liv, e2]; omega
      · have := h.n
        rw [a7, e2]; omega
    · obtain ⟨a1, a2, a3, a4, a5⟩ := h.iv.less e ht
      exact h.like a1 a2 a3 a4
theorem cnt_none {S : Sv} {k : Int} (e : S.f k = none) : scnt S k = 0 := by unfold scnt; rw [e]; rfl
theorem cnt_some {S : Sv} {k : Int} {c : Ct} (e : S.f k = some c) : scnt S k = c.t := by unfold scnt; rw [e]; rfl
theorem hold_cnt {S : Sv} (h : Iv S) {k : Int} {c : Ct} (e : S.f k = some c) : scnt (shold S k) k = c.t + 1 := by
  rw [(h.hold k).2.2.2.2, e, cnt_some e]; rfl
theorem drop_cnt {S : Sv} (h : Iv S) {k : Int} {c : Ct} (e : S.f k = some c) : scnt (sdrop S k) k = c.t - 1 := by
  by_cases ht : c.t = 1
  · rw [cnt_none (h.last e ht).2.2.2.2.1]; omega
  · exact (h.less e ht).2.2.2.2
end Go.Proofs.YtglhebpblncjaaaDoor
