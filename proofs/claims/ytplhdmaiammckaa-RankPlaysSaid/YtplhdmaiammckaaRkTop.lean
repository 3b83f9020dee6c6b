/- heap.Push and heap.Remove over a rank. -/
import Derived.Test.YtplhdmaiammckaaRkDown
namespace Go.Proofs.Ytplhdmaiammckaa
open Go.RowKit
set_option linter.unusedVariables false

/-- A rank of n ids, S, whose slice may be a new one. -/
def Rto (w : World) (B g m : Nat) (v : Value) (n : Nat) (S : Int → Option Int) (w' : World) : Prop :=
  ∃ v' l', Ok w' B g m v' l' ∧ Hp l' l'.length ∧ l'.length = n ∧ Lst l' S ∧ Fq g m v.ownBlock w w' ∧ (v'.ownBlock = v.ownBlock ∨ ∃ q, v'.ownBlock = some q ∧ w.heap.size ≤ q)
theorem ex_push {l : List Ent} (h : Hp l l.length) (p : Ent) : Ex (l ++ [p]) (l.length + 1) l.length ∧ Kid (l ++ [p]) (l.length + 1) l.length := by
  have e0 : ∀ i, i < l.length → ent (l ++ [p]) i = ent l i := fun i hi => by rw [ent_append, if_pos hi]
  have hp : ∀ k, par k = (k - 1) / 2 := fun _ => rfl
  refine ⟨⟨fun k h0 h1 h2 h3 => ?_, fun k h0 h1 h2 _ => ?_⟩, fun k h0 h1 h2 => ?_⟩
  · rw [e0 k (by omega), e0 (par k) (by have := hp k; omega)]
    exact h k h0 (by omega)
  · have := hp k; omega
  · have := hp k; omega
theorem ex_swap {l : List Ent} {n i : Nat} (h : Hp l (n + 1)) (hl : l.length = n + 1) (hi : i < n) : Ex (swp l i n) n i := by
  have hs := fun a => ent_swp l i n a (by omega) (by omega)
  have hp : ∀ k, par k = (k - 1) / 2 := fun _ => rfl
  refine ⟨fun k h0 h1 h2 h3 => ?_, fun k h0 h1 h2 h3 => ?_⟩
  · rw [hs (par k), if_neg (by have := hp k; omega), if_neg h3, hs k, if_neg (by omega), if_neg h2]
    exact h k h0 (by omega)
  · rw [hs (par i), if_neg (by have := hp i; omega), if_neg (by have := hp i; omega), hs k, if_neg (by omega), if_neg (by have := hp k; omega)]
    exact (h.ex i).near k h0 (by omega) h2 h3
theorem hp_take {l : List Ent} {n : Nat} (h : Hp l n) : Hp (l.take n) n := fun k h0 h1 => by
  rw [ent_take l n k h1, ent_take l n (par k) (by have : par k = (k - 1) / 2 := rfl; omega)]
  exact h k h0 h1
theorem hp_less {l : List Ent} {n n' : Nat} (h : Hp l n) (hn : n' ≤ n) : Hp l n' := fun k h0 h1 => h k h0 (by omega)
set_option maxHeartbeats 1000000 in
theorem hpush_any {w : World} {B g m : Nat} {v : Value} {l : List Ent} {S : Int → Option Int} (h : Ok w B g m v l) (hS : Lst l S) (hh : Hp l l.length) (k s : Int) (hk : I64 k) (hs : I64 s) (hno : S k = none) (hl : l.length < 100000) :
    Calls Try.prog 23 #[.iface 58 (.pointer (some ⟨g, 0, none⟩)), .iface 60 (.agg #[.int .i64 k, .int .i64 s])] w fun e w' => e = .returned (.tuple #[]) ∧ Rto w B g m v (l.length + 1) (upd S k (some s)) w' := by
  have hpu := push_any h k s hk hs (fun i hi e => by
    have := hS.fwd i hi
    rw [e, hno] at this; cases this) hl
  have HP := Lib.hid hpu
  have HS := Lib.hid (hS.push (s := s) hno)
  have HX := Lib.hid (ex_push hh (k, s))
  have HL := Lib.hid (show (l ++ [(k, s)]).length = l.length + 1 by simp)
  clear hpu h hS hh hno
  generalize hn : l.length = n at *
  have HN := Lib.hid hn
  clear hn
  go_enter Try.func23, Try.ntmps23
  go_wp2_with fail
  refine HP.out.mono ?_
  rintro e w1 ⟨rfl, v1, o1, q1, d1⟩
  have hle := len_any o1
  rw [HL.out] at hle
  have HLE := Lib.hid hle
  have hup := up_any o1 n (by omega) (by rw [HL.out]; exact Nat.le_refl _) HX.out.1 HX.out.2
  have HUP := Lib.hid hup
  have HQ := Lib.hid (And.intro q1 d1)
  clear hle hup o1 q1 d1
  have e1 : ((n + 1 : Nat) : Int) - 1 = (n : Int) := half_up n
  go_wp2_with fail
  refine HLE.out.mono ?_
  rintro e w2 ⟨rfl, rfl⟩
  go_wp2_with fail
  refine HUP.out.mono ?_
  rintro e w2 ⟨rfl, l', hw, hp⟩
  go_wp2
  go_end0
  have hlen : l'.length = n + 1 := by rw [hw.sm.len, HL.out]
  refine ⟨rfl, v1, l', hw.ok, by rw [hlen]; exact hp, hlen, hw.sm.lst _ HS.out, HQ.out.1.trans hw.fq fun q e => ?_, HQ.out.2⟩
  rcases HQ.out.2 with e1 | ⟨q', e1, h1⟩
  · exact .inl (e1.symm.trans e)
  · have := Option.some.inj (e1.symm.trans e)
    exact .inr (by omega)
theorem pop_rto {w w1 w2 : World} {B g m n : Nat} {v : Value} {l l1 : List Ent} {S : Int → Option Int} (hw : Wy w w1 B g m n v l l1) (hp : Hp l1 n) (hl : l.length = n + 1) (hS : Lst l S) (h2 : Popped w1 B g m v l1 n w2) :
    Rto w B g m v n (upd S (ent l n).1 none) w2 := by
  obtain ⟨v2, o2, q2, d2⟩ := h2
  have hlen : (l1.take n).length = n := by simp; have := hw.sm.len; omega
  have hL := (hw.sm.lst _ hS).pop (by rw [hw.sm.len, hl])
  rw [hw.sm.far n (Nat.le_refl _)] at hL
  exact ⟨v2, _, o2, by rw [hlen]; exact hp_take hp, hlen, hL, hw.fq.trans' q2, .inl d2⟩
def Gone (w : World) (B g m : Nat) (v : Value) (n : Nat) (S : Int → Option Int) (e : Ending) (w' : World) : Prop := ∃ r, e = .returned r ∧ Rto w B g m v n S w'
theorem rto_sm {w w1 w2 : World} {B g m n n0 : Nat} {v : Value} {S : Int → Option Int} (q : Fq g m v.ownBlock w w1) (h : Rto w1 B g m v n S w2) : Rto w B g m v n S w2 := by
  obtain ⟨v', l', h1, h2, h3, h4, h5, h6⟩ := h
  refine ⟨v', l', h1, h2, h3, h4, q.trans' h5, h6.imp id fun ⟨p, e, hp⟩ => ⟨p, e, Nat.le_trans q.size hp⟩⟩
set_option maxHeartbeats 2000000 in
theorem hremove_any {w : World} {B g m n : Nat} {v : Value} {l : List Ent} {S : Int → Option Int} (h : Ok w B g m v l) (hS : Lst l S) (hl : l.length = n + 1) (hh : Hp l (n + 1)) (i : Nat) (hi : i ≤ n) :
    Calls Try.prog 25 #[.iface 58 (.pointer (some ⟨g, 0, none⟩)), .int .i64 i] w fun e w' => Gone w B g m v n (upd S (ent l i).1 none) e w' := by
  have hf := h.few
  have hle := len_any h
  rw [hl] at hle
  have HLE := Lib.hid hle
  have HS := Lib.hid hS
  have HL := Lib.hid hl
  have e1 : ((n + 1 : Nat) : Int) - 1 = (n : Int) := half_up n
  have hn : n ≤ 100000 := by omega
  by_cases hin : i = n
  · subst hin
    have HPP := Lib.hid (pop_any h hl)
    have HW : Hid (Wy w w B g m i v l l) := Lib.hid ⟨h, .refl _ _ _ _, .refl _ _⟩
    have HH := Lib.hid (hp_less hh (Nat.le_succ _))
    clear h hS hl hle hh
    go_enter Try.func25, Try.ntmps25
    go_wp2_with fail
    refine HLE.out.mono ?_
    rintro e w2 ⟨rfl, rfl⟩
    go_wp2_with fail
    refine HPP.out.mono ?_
    rintro e w2 ⟨rfl, h2⟩
    go_wp2
    go_ret
    exact ⟨_, rfl, pop_rto HW.out HH.out HL.out HS.out h2⟩
  · have hlt : i < n := by omega
    have hne : ((n : Int) == (i : Int)) = false := by simp; omega
    have hne2 : ((n : Int) != (i : Int)) = true := by simp; omega
    have HSW := Lib.hid (swap_any h i n (by omega) (by omega) (by omega))
    have HX := Lib.hid (ex_swap hh hl hlt)
    have HE := Lib.hid (show ent (swp l i n) n = ent l i by rw [ent_swp l i n n (by omega) (by omega), if_pos rfl])
    have HS1 := Lib.hid (hS.swp (i := i) (j := n) (by omega) (by omega))
    have HL1 := Lib.hid (show (swp l i n).length = n + 1 by rw [swp_length]; exact hl)
    clear h hS hl hle hh hin
    go_enter Try.func25, Try.ntmps25
    go_wp2_with fail
    refine HLE.out.mono ?_
    rintro e w2 ⟨rfl, rfl⟩
    go_wp2_with fail
    refine HSW.out.mono ?_
    rintro e w1 ⟨rfl, o1, q1⟩
    have HQ1 := Lib.hid q1
    have HD := Lib.hid (down_any o1 i hlt (by rw [HL1.out]; omega) HX.out)
    clear q1 o1
    go_wp2_with fail
    refine HD.out.mono ?_
    rintro e w2 ⟨b, rfl, l2, j, hw, hx, hk, hjn, hb1, hb2⟩
    have hl2 : l2.length = n + 1 := by rw [hw.sm.len, HL1.out]
    have HL2 := Lib.hid hl2
    cases b with
    | true =>
      have HPP := Lib.hid (pop_any hw.ok hl2)
      have HW := Lib.hid hw
      have HH := Lib.hid (hx.heap hk (hb1 rfl))
      clear hw hx hk hb1 hb2 hl2
      go_wp2_with fail
      refine HPP.out.mono ?_
      rintro e w3 ⟨rfl, h3⟩
      go_wp2
      go_ret
      have hr := pop_rto HW.out HH.out HL1.out HS1.out h3
      rw [HE.out] at hr
      exact ⟨_, rfl, rto_sm (n0 := 0) HQ1.out hr⟩
    | false =>
      have hji := hb2 rfl
      subst hji
      have HUP := Lib.hid (up_any hw.ok j hjn (by rw [hl2]; omega) hx hk)
      have HW := Lib.hid hw
      clear hw hx hk hb1 hb2 hl2
      go_wp2_with fail
      refine HUP.out.mono ?_
      rintro e w3 ⟨rfl, l3, hw3, hp3⟩
      have hsm : Sm n (swp l j n) l3 := ⟨hw3.sm.len.trans HW.out.sm.len, fun S hS => hw3.sm.lst S (HW.out.sm.lst S hS), fun k hk => (hw3.sm.far k hk).trans (HW.out.sm.far k hk)⟩
      have HW3 : Hid (Wy w1 w3 B g m n v (swp l j n) l3) := Lib.hid ⟨hw3.ok, HW.out.fq.trans' hw3.fq, hsm⟩
      have HPP := Lib.hid (pop_any hw3.ok (by rw [hw3.sm.len, HL2.out]))
      have HH := Lib.hid hp3
      clear hw3 hp3 hsm
      go_wp2_with fail
      refine HPP.out.mono ?_
      rintro e w4 ⟨rfl, h4⟩
      go_wp2
      go_ret
      have hr := pop_rto HW3.out HH.out HL1.out HS1.out h4
      rw [HE.out] at hr
      exact ⟨_, rfl, rto_sm (n0 := 0) HQ1.out hr⟩
end Go.Proofs.Ytplhdmaiammckaa
