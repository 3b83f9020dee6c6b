/- What each deed makes of a store, in plain mathematics: who is in which slot, what is charged. -/
import Derived.Test.YtglhebpblncjaaaDoorStCoM
namespace Go.Proofs.YtglhebpblncjaaaDoor
open Go.RowKit
set_option linter.unusedVariables false

/-- Each that is there has a block of its own that lives. -/
structure Iv (S : Sv) : Prop where
  hit : ∀ k c, S.f k = some c → hit S.s.l c.s c.g = true
  one : ∀ k j c d, S.f k = some c → S.f j = some d → k ≠ j → c.s ≠ d.s
/-- How much is charged for what is at k. -/
def rz (S : Sv) (k : Int) : Int := match S.f k with
  | some c => (bk S.s.l c.s).r
  | none => 0
theorem rz_some {S : Sv} {k : Int} {c : Ct} (h : S.f k = some c) : rz S k = (bk S.s.l c.s).r := by unfold rz; rw [h]
theorem rz_none {S : Sv} {k : Int} (h : S.f k = none) : rz S k = 0 := by unfold rz; rw [h]
theorem sbyt_some {S : Sv} {k : Int} {c : Ct} (h : S.f k = some c) : sbyt S k = got S.s c.s c.g := by unfold sbyt; rw [h]
theorem sbyt_none {S : Sv} {k : Int} (h : S.f k = none) : sbyt S k = [] := by unfold sbyt; rw [h]
theorem got_hit {s : Ar} {i : Nat} {g : Int} (h : hit s.l i g = true) : got s i g = (bk s.l i).t := by unfold got; rw [if_pos h]
theorem perr_ok {S : Sv} {ix : Int} {t : List UInt8} (hn : S.f ix = none) : perr S ix true t = aerr S.s t.length := by
  unfold perr
  rw [if_neg (by decide), if_neg (by rw [hn]; decide)]
theorem Iv.new (c d : Int) : Iv ⟨⟨c, d, []⟩, fun _ => none, 0⟩ := ⟨(fun k c e => by cases e), fun k j c d e => by cases e⟩
theorem sput_f {S : Sv} {ix : Int} {t : List UInt8} (hp : perr S ix true t = 0) : sput S ix true t = ⟨alo S.s t, upd S.f ix (some ⟨fre S.s.l, (bk S.s.l (fre S.s.l)).g, 1⟩), S.n + 1⟩ := by unfold sput; rw [if_pos hp]
theorem alo_l {s : Ar} {t : List UInt8} (h : aerr s t.length = 0) : (alo s t).l = tak s.l t (rnd t.length) := by unfold alo; rw [if_pos h]
theorem Iv.put {S : Sv} (h : Iv S) {ix : Int} {t : List UInt8} (hn : S.f ix = none) (hp : perr S ix true t = 0) :
    Iv (sput S ix true t) ∧ chg (sput S ix true t).s.l = chg S.s.l + rnd t.length ∧ liv (sput S ix true t).s.l = liv S.s.l + 1 ∧ rz (sput S ix true t) ix = rnd t.length ∧ sbyt (sput S ix true t) ix = t ∧
      (∀ k, k ≠ ix → rz (sput S ix true t) k = rz S k ∧ sbyt (sput S ix true t) k = sbyt S k ∧ (sput S ix true t).f k = S.f k) ∧ (sput S ix true t).f ix = some ⟨fre S.s.l, (bk S.s.l (fre S.s.l)).g, 1⟩ ∧ (sput S ix true t).n = S.n + 1 := by
  have ha : aerr S.s t.length = 0 := by rw [← perr_ok hn]; exact hp
  have hr := rnd16 (aerr_ok ha).1
  rw [sput_f hp]
  have hl := alo_l ha
  have hbk : ∀ j, bk (alo S.s t).l j = if j = fre S.s.l then tkb S.s.l t (rnd t.length) else bk S.s.l j := fun j => by rw [hl]; exact tak_bk _ _ _ _
  have hne : ∀ k c, S.f k = some c → c.s ≠ fre S.s.l := fun k c e e2 => by
    have h1 := (hit_r (h.hit k c e)).1
    rw [e2] at h1
    exact h1 (fre_r _)
  have hold : ∀ k c, S.f k = some c → bk (alo S.s t).l c.s = bk S.s.l c.s := fun k c e => by rw [hbk, if_neg (hne k c e)]
  have hnew : bk (alo S.s t).l (fre S.s.l) = tkb S.s.l t (rnd t.length) := by rw [hbk, if_pos rfl]
  have hnh : Go.Proofs.YtglhebpblncjaaaDoor.hit (alo S.s t).l (fre S.s.l) (bk S.s.l (fre S.s.l)).g = true := by
    unfold Go.Proofs.YtglhebpblncjaaaDoor.hit
    rw [hnew]
    simp [tkb]
    omega
  have hnf : ∀ k, k ≠ ix → (Sv.mk (alo S.s t) (upd S.f ix (some ⟨fre S.s.l, (bk S.s.l (fre S.s.l)).g, 1⟩)) (S.n + 1)).f k = S.f k := fun k hk => upd_other _ _ _ _ hk
  have hxf : (Sv.mk (alo S.s t) (upd S.f ix (some ⟨fre S.s.l, (bk S.s.l (fre S.s.l)).g, 1⟩)) (S.n + 1)).f ix = some ⟨fre S.s.l, (bk S.s.l (fre S.s.l)).g, 1⟩ := upd_same S.f ix (some ⟨fre S.s.l, (bk S.s.l (fre S.s.l)).g, 1⟩)
  refine ⟨⟨fun k c e => ?_, fun k j c d e1 e2 hkj => ?_⟩, ?_, ?_, ?_, ?_, fun k hk => ⟨?_, ?_, hnf k hk⟩, hxf, rfl⟩
  · by_cases hk : k = ix
    · subst hk
      rw [hxf] at e
      cases e
      exact hnh
    · rw [hnf k hk] at e
      have := h.hit k c e
      unfold Go.Proofs.YtglhebpblncjaaaDoor.hit at this ⊢
      show ((bk (alo S.s t).l c.s).r != 0 && (bk (alo S.s t).l c.s).g == c.g) = true
      rw [hold k c e]
      exact this
  · by_cases hk : k = ix
    · subst hk
      rw [hxf] at e1
      rw [hnf j (fun e => hkj e.symm)] at e2
      cases e1
      exact fun e => hne j d e2 e.symm
    · rw [hnf k hk] at e1
      by_cases hj : j = ix
      · subst hj
        rw [hxf] at e2
        cases e2
        exact hne k c e1
      · rw [hnf j hj] at e2
        exact h.one k j c d e1 e2 hkj
  · show chg (alo S.s t).l = _
    rw [hl, tak_chg]
  · show liv (alo S.s t).l = _
    rw [hl, tak_liv _ _ _ (by omega)]
  · rw [rz_some hxf]
    show (bk (alo S.s t).l (fre S.s.l)).r = _
    rw [hnew]; rfl
  · rw [sbyt_some hxf]
    show got (alo S.s t) (fre S.s.l) _ = t
    rw [got_hit hnh, hnew]; rfl
  · cases e : S.f k with
    | none => rw [rz_none e, rz_none ((hnf k hk).trans e)]
    | some c =>
      rw [rz_some e, rz_some ((hnf k hk).trans e)]
      show (bk (alo S.s t).l c.s).r = _
      rw [hold k c e]
  · cases e : S.f k with
    | none => rw [sbyt_none e, sbyt_none ((hnf k hk).trans e)]
    | some c =>
      rw [sbyt_some e, sbyt_some ((hnf k hk).trans e)]
      have h1 := h.hit k c e
      have h2 : Go.Proofs.YtglhebpblncjaaaDoor.hit (alo S.s t).l c.s c.g = true := by
        unfold Go.Proofs.YtglhebpblncjaaaDoor.hit at h1 ⊢
        rw [hold k c e]
        exact h1
      show got (alo S.s t) c.s c.g = _
      rw [got_hit h1, got_hit h2, hold k c e]
theorem Iv.hold {S : Sv} (h : Iv S) (ix : Int) : Iv (shold S ix) ∧ (shold S ix).s = S.s ∧ (shold S ix).n = S.n ∧ (∀ k, rz (shold S ix) k = rz S k ∧ sbyt (shold S ix) k = sbyt S k ∧ ((shold S ix).f k).isSome = (S.f k).isSome) ∧ scnt (shold S ix) ix = if (S.f ix).isSome = true then scnt S ix + 1 else scnt S ix := by
  cases e : S.f ix with
  | none =>
    have e1 : shold S ix = S := by unfold shold; rw [e]
    rw [e1]
    exact ⟨h, rfl, rfl, fun k => ⟨rfl, rfl, rfl⟩, by simp⟩
  | some c =>
    have e1 : shold S ix = ⟨S.s, upd S.f ix (some ⟨c.s, c.g, c.t + 1⟩), S.n⟩ := by unfold shold; rw [e]
    rw [e1]
    have hxf : (Sv.mk S.s (upd S.f ix (some ⟨c.s, c.g, c.t + 1⟩)) S.n).f ix = some ⟨c.s, c.g, c.t + 1⟩ := upd_same S.f ix (some ⟨c.s, c.g, c.t + 1⟩)
    have hnf : ∀ k, k ≠ ix → (Sv.mk S.s (upd S.f ix (some ⟨c.s, c.g, c.t + 1⟩)) S.n).f k = S.f k := fun k hk => upd_other _ _ _ _ hk
    have key : ∀ k d, (Sv.mk S.s (upd S.f ix (some ⟨c.s, c.g, c.t + 1⟩)) S.n).f k = some d → ∃ d', S.f k = some d' ∧ d'.s = d.s ∧ d'.g = d.g := fun k d e2 => by
      by_cases hk : k = ix
      · subst hk
        rw [hxf] at e2
        cases e2
        exact ⟨c, e, rfl, rfl⟩
      · rw [hnf k hk] at e2
        exact ⟨d, e2, rfl, rfl⟩
    refine ⟨⟨fun k d e2 => ?_, fun k j d d2 e2 e3 hkj => ?_⟩, rfl, rfl, fun k => ?_, ?_⟩
    · obtain ⟨d', h1, h2, h3⟩ := key k d e2
      rw [← h2, ← h3]
      exact h.hit k d' h1
    · obtain ⟨a, h1, h2, _⟩ := key k d e2
      obtain ⟨b, g1, g2, _⟩ := key j d2 e3
      rw [← h2, ← g2]
      exact h.one k j a b h1 g1 hkj
    · by_cases hk : k = ix
      · subst hk
        rw [rz_some hxf, rz_some e, sbyt_some hxf, sbyt_some e, hxf, e]
        exact ⟨rfl, rfl, rfl⟩
      · have := hnf k hk
        refine ⟨?_, ?_, by rw [this]⟩
        · unfold rz; rw [this]
        · unfold sbyt; rw [this]
    · unfold scnt
      rw [hxf, e]
      rfl
theorem fro_l {s : Ar} {i : Nat} {g : Int} (h : hit s.l i g = true) : fro s i g = ⟨s.cap, s.lim, s.l.set i (frb (bk s.l i))⟩ := by unfold fro; rw [if_pos h]
/-- With one counted once, dropped. -/
theorem Iv.last {S : Sv} (h : Iv S) {ix : Int} {c : Ct} (e : S.f ix = some c) (ht : c.t = 1) :
    Iv (sdrop S ix) ∧ chg (sdrop S ix).s.l = chg S.s.l - rz S ix ∧ liv (sdrop S ix).s.l = liv S.s.l - 1 ∧ rz (sdrop S ix) ix = 0 ∧ (sdrop S ix).f ix = none ∧
      (∀ k, k ≠ ix → rz (sdrop S ix) k = rz S k ∧ sbyt (sdrop S ix) k = sbyt S k ∧ (sdrop S ix).f k = S.f k) ∧ (sdrop S ix).n = S.n - 1 ∧ (sdrop S ix).s.cap = S.s.cap ∧ (sdrop S ix).s.lim = S.s.lim ∧ (sdrop S ix).s.l.length = S.s.l.length := by
  have hh := h.hit ix c e
  have hl := hit_lt hh
  have hr := (hit_r hh).1
  have e1 : sdrop S ix = ⟨⟨S.s.cap, S.s.lim, S.s.l.set c.s (frb (bk S.s.l c.s))⟩, upd S.f ix none, S.n - 1⟩ := by unfold sdrop; rw [e]; simp only [ht, if_true]; rw [fro_l hh]
  rw [e1]
  have hxf : (Sv.mk ⟨S.s.cap, S.s.lim, S.s.l.set c.s (frb (bk S.s.l c.s))⟩ (upd S.f ix none) (S.n - 1)).f ix = none := upd_same S.f ix none
  have hnf : ∀ k, k ≠ ix → (Sv.mk ⟨S.s.cap, S.s.lim, S.s.l.set c.s (frb (bk S.s.l c.s))⟩ (upd S.f ix none) (S.n - 1)).f k = S.f k := fun k hk => upd_other _ _ _ _ hk
  have hbk : ∀ k d, k ≠ ix → S.f k = some d → bk (S.s.l.set c.s (frb (bk S.s.l c.s))) d.s = bk S.s.l d.s := fun k d hk e2 => by rw [bk_set hl, if_neg (h.one k ix d c e2 e hk)]
  refine ⟨⟨fun k d e2 => ?_, fun k j d d2 e2 e3 hkj => ?_⟩, ?_, ?_, rz_none hxf, hxf, fun k hk => ⟨?_, ?_, hnf k hk⟩, rfl, rfl, rfl, by simp⟩
  · have hk : k ≠ ix := fun e3 => by subst e3; rw [hxf] at e2; cases e2
    rw [hnf k hk] at e2
    have := h.hit k d e2
    unfold Go.Proofs.YtglhebpblncjaaaDoor.hit at this ⊢
    show ((bk (S.s.l.set c.s (frb (bk S.s.l c.s))) d.s).r != 0 && (bk (S.s.l.set c.s (frb (bk S.s.l c.s))) d.s).g == d.g) = true
    rw [hbk k d hk e2]
    exact this
  · have hk : k ≠ ix := fun e4 => by subst e4; rw [hxf] at e2; cases e2
    have hj : j ≠ ix := fun e4 => by subst e4; rw [hxf] at e3; cases e3
    rw [hnf k hk] at e2
    rw [hnf j hj] at e3
    exact h.one k j d d2 e2 e3 hkj
  · show chg (S.s.l.set c.s (frb (bk S.s.l c.s))) = _
    rw [chg_set hl, rz_some e]
    simp [frb]
  · show liv (S.s.l.set c.s (frb (bk S.s.l c.s))) = _
    rw [liv_set hl]
    have h1 : Go.Proofs.YtglhebpblncjaaaDoor.one (bk S.s.l c.s).r = 1 := if_neg hr
    have h2 : Go.Proofs.YtglhebpblncjaaaDoor.one (frb (bk S.s.l c.s)).r = 0 := if_pos rfl
    omega
  · cases e2 : S.f k with
    | none => rw [rz_none e2, rz_none ((hnf k hk).trans e2)]
    | some d =>
      rw [rz_some e2, rz_some ((hnf k hk).trans e2)]
      show (bk (S.s.l.set c.s (frb (bk S.s.l c.s))) d.s).r = _
      rw [hbk k d hk e2]
  · cases e2 : S.f k with
    | none => rw [sbyt_none e2, sbyt_none ((hnf k hk).trans e2)]
    | some d =>
      rw [sbyt_some e2, sbyt_some ((hnf k hk).trans e2)]
      have h1 := h.hit k d e2
      have h2 : Go.Proofs.YtglhebpblncjaaaDoor.hit (S.s.l.set c.s (frb (bk S.s.l c.s))) d.s d.g = true := by
        unfold Go.Proofs.YtglhebpblncjaaaDoor.hit at h1 ⊢
        rw [hbk k d hk e2]
        exact h1
      show got ⟨S.s.cap, S.s.lim, S.s.l.set c.s (frb (bk S.s.l c.s))⟩ d.s d.g = _
      rw [got_hit h1, got_hit (s := ⟨S.s.cap, S.s.lim, S.s.l.set c.s (frb (bk S.s.l c.s))⟩) h2]
      show (bk (S.s.l.set c.s (frb (bk S.s.l c.s))) d.s).t = _
      rw [hbk k d hk e2]
/-- With one counted more often, dropped once. -/
theorem Iv.less {S : Sv} (h : Iv S) {ix : Int} {c : Ct} (e : S.f ix = some c) (ht : c.t ≠ 1) :
    Iv (sdrop S ix) ∧ (sdrop S ix).s = S.s ∧ (sdrop S ix).n = S.n ∧ (∀ k, rz (sdrop S ix) k = rz S k ∧ sbyt (sdrop S ix) k = sbyt S k ∧ ((sdrop S ix).f k).isSome = (S.f k).isSome) ∧ scnt (sdrop S ix) ix = c.t - 1 := by
  have e1 : sdrop S ix = ⟨S.s, upd S.f ix (some ⟨c.s, c.g, c.t - 1⟩), S.n⟩ := by unfold sdrop; rw [e]; exact if_neg ht
  rw [e1]
  have hxf : (Sv.mk S.s (upd S.f ix (some ⟨c.s, c.g, c.t - 1⟩)) S.n).f ix = some ⟨c.s, c.g, c.t - 1⟩ := upd_same S.f ix (some ⟨c.s, c.g, c.t - 1⟩)
  have hnf : ∀ k, k ≠ ix → (Sv.mk S.s (upd S.f ix (some ⟨c.s, c.g, c.t - 1⟩)) S.n).f k = S.f k := fun k hk => upd_other _ _ _ _ hk
  have key : ∀ k d, (Sv.mk S.s (upd S.f ix (some ⟨c.s, c.g, c.t - 1⟩)) S.n).f k = some d → ∃ d', S.f k = some d' ∧ d'.s = d.s ∧ d'.g = d.g := fun k d e2 => by
    by_cases hk : k = ix
    · subst hk
      rw [hxf] at e2
      cases e2
      exact ⟨c, e, rfl, rfl⟩
    · rw [hnf k hk] at e2
      exact ⟨d, e2, rfl, rfl⟩
  refine ⟨⟨fun k d e2 => ?_, fun k j d d2 e2 e3 hkj => ?_⟩, rfl, rfl, fun k => ?_, ?_⟩
  · obtain ⟨d', h1, h2, h3⟩ := key k d e2
    rw [← h2, ← h3]
    exact h.hit k d' h1
  · obtain ⟨a, h1, h2, _⟩ := key k d e2
    obtain ⟨b, g1, g2, _⟩ := key j d2 e3
    rw [← h2, ← g2]
    exact h.one k j a b h1 g1 hkj
  · by_cases hk : k = ix
    · subst hk
      rw [rz_some hxf, rz_some e, sbyt_some hxf, sbyt_some e, hxf, e]
      exact ⟨rfl, rfl, rfl⟩
    · have := hnf k hk
      refine ⟨?_, ?_, by rw [this]⟩
      · unfold rz; rw [this]
      · unfold sbyt; rw [this]
  · unfold scnt
    rw [hxf]
    rfl
end Go.Proofs.YtglhebpblncjaaaDoor
