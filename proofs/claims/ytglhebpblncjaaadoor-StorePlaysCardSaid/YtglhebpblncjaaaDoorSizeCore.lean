/- What three functions of package size return, as contracts: Class, Round and Sum, called in any memory in which the table of classes reads as it is written. -/
import Derived.Test.YtglhebpblncjaaaDoorBase
import Derived.Test.YtglhebpblncjaaaDoorSizeMath
import Derived.Test.YtglhebpblncjaaaDoorApp
import Derived.Test.YtglhebpblncjaaaDoorInts
namespace Go.Proofs.YtglhebpblncjaaaDoor
open Go.RowKit
set_option linter.unusedVariables false

/-- The table of classes reads as it is written. -/
def Tab (w : World) : Prop := ∀ k, k < 7 → w.cell? ⟨0, k, none⟩ = some (.int .i64 (cv k))
theorem Tab.keep {w w' : World} (h : Tab w) (hk : ∀ p : Addr, p.block < w.heap.size → w'.cell? p = w.cell? p) : Tab w' := fun k hk7 =>
  (hk _ (World.block_lt_of_cell? _ _ (h k hk7))).trans (h k hk7)
theorem Tab.below {w w' : World} (h : Tab w) (hb : Below w.heap.size w w') : Tab w' := h.keep fun _ hp => hb.cell hp

set_option maxHeartbeats 400000 in
theorem class_any (n : Int) (w : World) (ht : Tab w) :
    Calls Tryd.prog 43 #[.int .i64 n] w fun e w' => e = .returned (.int .i64 (cls n)) ∧ w = w' := by
  by_cases hn : n < 0
  · have H := Lib.hid (cls_neg hn)
    go_enter Tryd.func43, Tryd.ntmps43
    go_wp2
    go_ret
    exact ⟨ret_int H.out.symm, rfl⟩
  · have hn0 : 0 ≤ n := by omega
    clear hn
    go_enter Tryd.func43, Tryd.ntmps43
    go_wp2
    go_loop [6] (fun i => ∃ k : Nat, k ≤ 7 ∧ i = .int .i64 k ∧ (k = 0 ∨ cv (k - 1) < n)) (fun i => 7 - (intOf i).toNat)
    case atStart => exact ⟨0, by omega, rfl, .inl rfl⟩
    case round =>
      obtain ⟨k, hk, rfl, hlo⟩ := hrel
      have HL := Lib.hid hlo
      clear hlo
      by_cases hlt : k < 7
      · have hc := ht k hlt
        by_cases hle : n ≤ cv k
        · have H := Lib.hid (cls_of k hlt hn0 HL.out hle)
          go_wp2
          go_ret
          exact ⟨ret_int H.out, rfl⟩
        · go_wp2
          go_round
          case rel => exact ⟨k + 1, by omega, by go_num, .inr (by simpa using hle)⟩
          case measure => simp [intOf]; omega
      · have H : Hid (cls n = -1) := Lib.hid (cls_big (by
          rcases HL.out with h | h
          · omega
          · obtain rfl : k = 7 := by omega
            simpa [cv] using h))
        go_wp2
        go_ret
        exact ⟨ret_int H.out.symm, rfl⟩

set_option maxHeartbeats 400000 in
theorem round_any (n : Int) (w : World) (ht : Tab w) :
    Calls Tryd.prog 27 #[.int .i64 n] w fun e w' => e = .returned (.tuple #[.int .i64 (rnd n), .bool (rok n)]) ∧ w = w' := by
  by_cases hn : 0 ≤ n ∧ n ≤ 1024
  · obtain ⟨k, hk, h1, h2, _, _⟩ := rnd_of hn.1 hn.2
    have H1 := Lib.hid h1
    have H2 := Lib.hid h2
    have H3 := Lib.hid (rok_yes hn.1 hn.2)
    have hc := ht k hk
    clear h1 h2 hn
    go_enter Tryd.func27, Tryd.ntmps27
    go_wp2_with fail
    refine (class_any n _ ht).mono ?_
    rintro e w' ⟨rfl, rfl⟩
    rw [H1.out]
    go_wp2
    go_ret2
    exact ⟨by rw [H2.out, H3.out]; rfl, rfl⟩
  · have h1 : cls n = -1 := by
      by_cases h : n < 0
      · exact cls_neg h
      · exact cls_big (by omega)
    have H1 := Lib.hid h1
    have H2 := Lib.hid (rnd_no (n := n) (by omega))
    have H3 := Lib.hid (rok_no (n := n) (by omega))
    clear h1 hn
    go_enter Tryd.func27, Tryd.ntmps27
    go_wp2_with fail
    refine (class_any n _ ht).mono ?_
    rintro e w' ⟨rfl, rfl⟩
    rw [H1.out]
    go_wp2
    go_ret2
    exact ⟨by rw [H2.out, H3.out]; rfl, rfl⟩

theorem info_int : (Tryd.prog.info? 3).map (fun i => (i.zero, i.size, i.bytes)) = some (some (.int .i64 0), 1, 8) := by kernel_rfl
/-- A slice of integers: nil, or a row of cells; 'zs' are its cells up to the capacity. -/
def IsRow (k : IntKind) (w : World) (a : Option Addr) (len cap : Nat) (zs : List Int) : Prop :=
  len ≤ zs.length ∧ zs.length = cap ∧ cap ≤ maxLen ∧ ∀ i, i < zs.length → ∃ x : Addr, a = some x ∧ w.cell? (x.add i) = some (.int k (zs.getD i 0))
theorem IsRow.keep {k : IntKind} {w w' : World} {a : Option Addr} {len cap : Nat} {zs : List Int} (h : IsRow k w a len cap zs) (hk : ∀ p : Addr, p.block < w.heap.size → w'.cell? p = w.cell? p) : IsRow k w' a len cap zs :=
  ⟨h.1, h.2.1, h.2.2.1, fun i hi => by
    obtain ⟨x, rfl, hx⟩ := h.2.2.2 i hi
    exact ⟨x, rfl, (hk _ (World.block_lt_of_cell? _ _ hx)).trans hx⟩⟩
theorem IsRow.below {k : IntKind} {w w' : World} {a : Option Addr} {len cap : Nat} {zs : List Int} (h : IsRow k w a len cap zs) (hb : Below w.heap.size w w') : IsRow k w' a len cap zs := h.keep fun _ hp => hb.cell hp
/-- The cell of an element, as a walk spells it. -/
theorem IsRow.at_ {k : IntKind} {w : World} {a : Option Addr} {len cap : Nat} {zs : List Int} (h : IsRow k w a len cap zs) {i : Nat} (hi : i < len) :
    ∃ b off, a = some ⟨b, off, none⟩ ∧ w.cell? ⟨b, off + i, none⟩ = some (.int k (zs.getD i 0)) := by
  have hl := h.1
  obtain ⟨x, rfl, hx⟩ := h.2.2.2 0 (by omega)
  obtain ⟨b, off, sp⟩ := x
  have hs : sp = none := by simpa [Addr.add] using World.cell?_spot hx
  subst hs
  obtain ⟨y, e, hy⟩ := h.2.2.2 i (by omega)
  obtain rfl := Option.some.inj e
  refine ⟨b, off, rfl, ?_⟩
  rw [← Go.WideShapes.add_plain]
  exact hy

theorem drop_step {l : List Int} {k : Nat} (h : k < l.length) : l.drop k = l.getD k 0 :: l.drop (k + 1) := by
  rw [List.drop_eq_getElem_cons h]; simp [List.getD, h]
theorem take_getD {zs : List Int} {len k : Nat} (h : k < len) : (zs.take len).getD k 0 = zs.getD k 0 := by
  simp [List.getD, h]

set_option maxHeartbeats 800000 in
theorem sum_lies (A : Option Addr) (len cap : Nat) (ls : List Int) (w : World) (ht : Tab w) (hl : ls.length = len) (hm : len ≤ maxLen) (hr : Lies w A (ints ls)) :
    Calls Tryd.prog 60 #[.slice A len cap] w fun e w' => e = .returned (.tuple #[.int .i64 (smv ls), .bool (smk ls)]) ∧ w = w' := by
  unfold maxLen at hm
  have HR := Lib.hid hr
  have HL := Lib.hid hl
  have hlen : (len : Int) ≤ 9223372036854775807 := by omega
  clear hr hl hm
  go_enter Tryd.func60, Tryd.ntmps60
  go_wp2
  go_loop [4, 10] (fun t i => ∃ (k : Nat) (s : Int), k ≤ len ∧ i = .int .i64 k ∧ t = .int .i64 s ∧ 0 ≤ s ∧ s ≤ 2147483647 ∧ smo s (ls.drop k) = smo 0 ls) (fun _ i => len - (intOf i).toNat)
  case atStart => exact ⟨0, 0, by omega, rfl, rfl, by omega, by omega, rfl⟩
  case round =>
    obtain ⟨k, s, hk, rfl, rfl, hs0, hs1, hsm⟩ := hrel
    by_cases hlt : k < len
    · have hkl : k < ls.length := by rw [HL.out]; exact hlt
      obtain ⟨b, off, rfl, hc⟩ := HR.out.at_ (ints_get hkl)
      have hd : ls.drop k = ls.getD k 0 :: ls.drop (k + 1) := drop_step hkl
      rw [hd] at hsm
      clear hd hkl
      generalize ls.getD k 0 = x at hc hsm
      have HM := Lib.hid hsm
      clear hsm
      have hb := rnd_bd x
      by_cases hok : rok x = true
      · have HO := Lib.hid hok
        clear hok
        by_cases hfit : rnd x ≤ 2147483647 - s
        · have HN : Hid (smo (s + rnd x) (ls.drop (k + 1)) = smo 0 ls) := Lib.hid (by rw [← HM.out, smo_yes HO.out (by omega)])
          go_wp2_with fail
          refine (round_any x _ ht).mono ?_
          rintro e w' ⟨rfl, rfl⟩
          rw [HO.out]
          go_wp2
          go_round
          case rel => exact ⟨k + 1, s + rnd x, by omega, by go_num, by go_num, by omega, by omega, HN.out⟩
          case measure => simp [intOf]; omega
        · have HN : Hid (none = smo 0 ls) := Lib.hid (by rw [← HM.out, smo_no (.inr (by omega))])
          go_wp2_with fail
          refine (round_any x _ ht).mono ?_
          rintro e w' ⟨rfl, rfl⟩
          rw [HO.out]
          go_wp2
          go_ret2
          exact ⟨by rw [smv, smk, ← HN.out]; rfl, rfl⟩
      · have HO : Hid (rok x = false) := Lib.hid (by simpa using hok)
        clear hok
        have HN : Hid (none = smo 0 ls) := Lib.hid (by rw [← HM.out, smo_no (.inl HO.out)])
        go_wp2_with fail
        refine (round_any x _ ht).mono ?_
        rintro e w' ⟨rfl, rfl⟩
        rw [HO.out]
        go_wp2
        go_ret2
        exact ⟨by rw [smv, smk, ← HN.out]; rfl, rfl⟩
    · have HN : Hid (some s = smo 0 ls) := Lib.hid (by rw [← hsm, List.drop_of_length_le (by rw [HL.out]; omega), smo_nil])
      clear hsm
      go_wp2
      go_ret2
      exact ⟨by rw [smv, smk, ← HN.out]; rfl, rfl⟩

/-- An append of numbers onto a slice of the call's own. -/
theorem app_ints (w : World) (base : Nat) (v : Value) (n : Nat) (xs ys : List Int) (hown : w.ownsRow base 3 1 v n (ints xs)) (A : Option Addr) (m c : Nat) (hl : ys.length = m) (hlies : Lies w A (ints ys)) (hnil : A = none → c = 0)
    (hsmall : n + m ≤ 100000) (hbase : base ≤ w.heap.size) :
    ∃ v' w', (Builtin.append_ #[117, 117] 117 #[v, .slice A m c]).run Tryd.prog w = .ok v' w' ∧ w'.ownsRow base 3 1 v' (n + m) (ints (xs ++ ys)) ∧ w.grownBy w' v.ownBlock ∧ (v'.ownBlock = v.ownBlock ∨ v'.ownBlock = some w.heap.size) := by
  obtain ⟨i0, hi, hz0, hz1, hz2⟩ := info_parts info_int
  obtain ⟨v', w', h1, h2, h3, h4⟩ := run_app (P := Tryd.prog) w base 117 117 3 i0 (.int .i64 0) 8 Tryd.underlying117 hi hz0 hz1 hz2 rfl v n (ints xs) hown A m c (ints ys) (by simpa using hl) hlies hnil (ints_one ys) (by unfold maxLen; omega) (by omega) hbase
  exact ⟨v', w', h1, by simpa [ints] using h2, h3, h4⟩
end Go.Proofs.YtglhebpblncjaaaDoor
