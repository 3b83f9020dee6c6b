/- An event that has room, or not, in plain mathematics; two events beside a store. -/
import Derived.Test.YtglhebpblncjaaaDoorStIv
namespace Go.Proofs.YtglhebpblncjaaaDoor
open Go.RowKit
set_option linter.unusedVariables false

theorem perr_fit {S : Sv} {ix : Int} {t : List UInt8} (hn : S.f ix = none) (ht : t.length ≤ 128) (hl : S.s.l.length ≤ 4000) : perr S ix true t = if S.s.lim < chg S.s.l + rnd t.length then 9 else 0 := by
  rw [perr_ok hn]
  have hr : rok (t.length : Int) = true := rok_yes (by omega) (by omega)
  have hf := fre_le S.s.l
  unfold aerr
  rw [if_neg (by rw [hr]; decide)]
  split
  · rfl
  · rw [if_neg (by omega)]
theorem sput_no {S : Sv} {ix : Int} {t : List UInt8} (hp : perr S ix true t ≠ 0) : sput S ix true t = S := by unfold sput; rw [if_neg hp]
theorem sput_len (S : Sv) (ix : Int) (t : List UInt8) : (sput S ix true t).s.l.length ≤ S.s.l.length + 1 ∧ (sput S ix true t).s.lim = S.s.lim := by
  unfold sput
  split
  · unfold alo
    split
    · refine ⟨?_, rfl⟩
      show (tak _ _ _).length ≤ _
      rw [tak_len]
      split <;> omega
    · exact ⟨by simp, rfl⟩
  · exact ⟨by simp, rfl⟩
theorem none_put {S : Sv} (h : Iv S) {ix k : Int} {t : List UInt8} (hn : S.f ix = none) (hk : k ≠ ix) : (sput S ix true t).f k = S.f k := by
  by_cases hp : perr S ix true t = 0
  · exact ((h.put hn hp).2.2.2.2.2.1 k hk).2.2
  · rw [sput_no hp]
def r0 (R : Int) : Sv := ⟨⟨R, R, []⟩, fun _ => none, 0⟩
/-- What comes of two events, of which the first is dropped, and the second put again. -/
structure RoomM (R k n : Int) (t1 t2 : List UInt8) (bf bb : Bool) : Prop where
  p1 : perr (r0 R) 1 true t1 = if bf = true then 0 else 9
  p2 : perr (sput (r0 R) 1 true t1) 2 true t2 = if bb = true then 0 else 9
  d1 : ((sput (sput (r0 R) 1 true t1) 2 true t2).f 1).isSome = bf
  p3 : perr (sdrop (sput (sput (r0 R) 1 true t1) 2 true t2) 1) 3 true t2 = if n + (if bb = true then n else 0) ≤ R then 0 else 9
theorem room_math (R : Int) (t1 t2 : List UInt8) (h1 : t1.length ≤ 128) (h2 : t2.length ≤ 128) (bf bb : Bool) (hf : decide (rnd t1.length ≤ R) = bf) (hb : decide ((if bf = true then rnd t1.length else 0) + rnd t2.length ≤ R) = bb) :
    RoomM R (rnd t1.length) (rnd t2.length) t1 t2 bf bb := by
  have iv0 : Iv (r0 R) := Iv.new R R
  have e1 := perr_fit (S := r0 R) (ix := 1) (t := t1) rfl h1 (by simp [r0])
  have c0 : chg (r0 R).s.l = 0 := rfl
  have m0 : (r0 R).s.lim = R := rfl
  rw [c0, m0] at e1
  have e1' : perr (r0 R) 1 true t1 = if bf = true then 0 else 9 := by
    rw [e1, ← hf]
    by_cases h : rnd (t1.length : Int) ≤ R
    · rw [if_neg (by omega), if_pos (by simpa using h)]
    · rw [if_pos (by omega), if_neg (by simpa using h)]
  obtain ⟨l1, m1⟩ := sput_len (r0 R) 1 t1
  rw [show (r0 R).s.l.length = 0 from rfl] at l1
  have f13 : (sput (r0 R) 1 true t1).f 3 = none := none_put iv0 rfl (by decide)
  have f12 : (sput (r0 R) 1 true t1).f 2 = none := none_put iv0 rfl (by decide)
  have k1 : Iv (sput (r0 R) 1 true t1) ∧ chg (sput (r0 R) 1 true t1).s.l = (if bf = true then rnd t1.length else 0) ∧ ((sput (r0 R) 1 true t1).f 1).isSome = bf ∧ rz (sput (r0 R) 1 true t1) 1 = (if bf = true then rnd t1.length else 0) ∧ ∀ c, (sput (r0 R) 1 true t1).f 1 = some c → c.t = 1 := by
    cases bf with
    | true =>
      obtain ⟨a1, a2, a3, a4, a5, a6, a7, a8⟩ := iv0.put (ix := 1) (t := t1) rfl e1'
      exact ⟨a1, by rw [a2, c0]; simp, by rw [a7]; rfl, by rw [a4]; rfl, fun c e => by rw [a7] at e; cases e; rfl⟩
    | false =>
      rw [sput_no (by rw [e1']; decide)]
      exact ⟨iv0, rfl, rfl, rfl, fun c e => by cases e⟩
  obtain ⟨iv1, c1, s1, z1, t1e⟩ := k1
  have e2 := perr_fit (S := sput (r0 R) 1 true t1) (ix := 2) (t := t2) f12 h2 (by omega)
  rw [c1, m1, m0] at e2
  have e2' : perr (sput (r0 R) 1 true t1) 2 true t2 = if bb = true then 0 else 9 := by
    rw [e2, ← hb]
    by_cases h : (if bf = true then rnd (t1.length : Int) else 0) + rnd (t2.length : Int) ≤ R
    · rw [if_neg (by omega), if_pos (by simpa using h)]
    · rw [if_pos (by omega), if_neg (by simpa using h)]
  obtain ⟨S1, hS1⟩ : ∃ S, sput (r0 R) 1 true t1 = S := ⟨_, rfl⟩
  rw [hS1] at l1 m1 f12 f13 iv1 c1 s1 z1 t1e e2 e2'
  obtain ⟨l2, m2⟩ := sput_len S1 2 t2
  have f21 : (sput S1 2 true t2).f 1 = S1.f 1 := none_put iv1 f12 (by decide)
  have f23 : (sput S1 2 true t2).f 3 = S1.f 3 := none_put iv1 f12 (by decide)
  have k2 : Iv (sput S1 2 true t2) ∧ chg (sput S1 2 true t2).s.l = chg S1.s.l + (if bb = true then rnd t2.length else 0) ∧ rz (sput S1 2 true t2) 1 = rz S1 1 := by
    cases bb with
    | true =>
      obtain ⟨a1, a2, a3, a4, a5, a6, a7, a8⟩ := iv1.put (ix := 2) (t := t2) f12 e2'
      exact ⟨a1, a2, (a6 1 (by decide)).1⟩
    | false =>
      rw [sput_no (by rw [e2']; decide)]
      exact ⟨iv1, by simp, rfl⟩
  obtain ⟨iv2, c2, z2⟩ := k2
  have d1' : ((sput S1 2 true t2).f 1).isSome = bf := by rw [f21]; exact s1
  have key : (sdrop (sput S1 2 true t2) 1).f 3 = (sput S1 2 true t2).f 3 ∧ chg (sdrop (sput S1 2 true t2) 1).s.l = (if bb = true then rnd t2.length else 0) ∧ (sdrop (sput S1 2 true t2) 1).s.lim = R ∧ (sdrop (sput S1 2 true t2) 1).s.l.length ≤ 10 := by
    cases hc : (sput S1 2 true t2).f 1 with
    | none =>
      have e : sdrop (sput S1 2 true t2) 1 = sput S1 2 true t2 := by unfold sdrop; rw [hc]
      rw [hc] at d1'
      have hbf : bf = false := d1'.symm
      rw [e, c2, c1, hbf]
      exact ⟨rfl, by simp, by rw [m2, m1, m0], by omega⟩
    | some c =>
      rw [hc] at d1'
      have hbf : bf = true := d1'.symm
      have ht : c.t = 1 := t1e c (by rw [← f21]; exact hc)
      obtain ⟨a1, a2, a3, a4, a5, a6, a7, a8, a9, a10⟩ := iv2.last hc ht
      refine ⟨(a6 3 (by decide)).2.2, ?_, by rw [a9, m2, m1, m0], by rw [a10]; omega⟩
      rw [a2, z2, z1, c2, c1, hbf]
      omega
  obtain ⟨x1, x2, x3, x4⟩ := key
  have e3 := perr_fit (S := sdrop (sput S1 2 true t2) 1) (ix := 3) (t := t2) (by rw [x1, f23, f13]) h2 (by omega)
  rw [x2, x3] at e3
  refine ⟨e1', by rw [hS1]; exact e2', by rw [hS1]; exact d1', ?_⟩
  rw [hS1, e3]
  by_cases h : rnd (t2.length : Int) + (if bb = true then rnd (t2.length : Int) else 0) ≤ R
  · rw [if_neg (by omega), if_pos h]
  · rw [if_pos (by omega), if_neg h]
theorem zeros_len (k : Nat) (T : Int) (n : Nat) (hk : k < 256) (h : n ≤ 8) : (wput (k : Int) T (List.replicate n 0)).length = 10 + 8 * n := by rw [wput_length k T _ hk (by simp; omega)]; simp
theorem mod9 (a : Int) (h0 : 0 ≤ a) : ∃ x : Nat, a.tmod 9 = (x : Int) ∧ x < 9 := ⟨(a % 9).toNat, by rw [Int.tmod_eq_emod_of_nonneg h0]; omega, by omega⟩
end Go.Proofs.YtglhebpblncjaaaDoor
