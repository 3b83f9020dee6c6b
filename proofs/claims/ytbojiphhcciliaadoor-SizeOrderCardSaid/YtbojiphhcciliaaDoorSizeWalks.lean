/- What the functions of package size return, as contracts: Class, Round, Sum and Classes, called in any memory in which the table of classes reads as it is written. -/
import Derived.Test.YtbojiphhcciliaaDoorProg
import Derived.Test.YtbojiphhcciliaaDoorSizeMath
import Derived.WalkKit
import Derived.IntWalk
import Derived.Lib.Hide
import Derived.OpenShut
namespace Go.Proofs.YtbojiphhcciliaaDoor
open Go.RowKit
set_option linter.unusedVariables false

theorem ret_int {k : IntKind} {a b : Int} (h : a = b) : Ending.returned (.int k a) = .returned (.int k b) := by rw [h]
/-- The table of classes reads as it is written. -/
def Tab (w : World) : Prop := ∀ k, k < 7 → w.cell? ⟨0, k, none⟩ = some (.int .i64 (cv k))
theorem Tab.keep {w w' : World} (h : Tab w) (hk : ∀ p : Addr, p.block < w.heap.size → w'.cell? p = w.cell? p) : Tab w' := fun k hk7 =>
  (hk _ (World.block_lt_of_cell? _ _ (h k hk7))).trans (h k hk7)
theorem Tab.below {w w' : World} (h : Tab w) (hb : Below w.heap.size w w') : Tab w' := h.keep fun _ hp => hb.cell hp

set_option maxHeartbeats 400000 in
theorem class_any (n : Int) (w : World) (ht : Tab w) :
    Calls Tryd.prog 15 #[.int .i64 n] w fun e w' => e = .returned (.int .i64 (cls n)) ∧ w = w' := by
  by_cases hn : n < 0
  · have H := Lib.hid (cls_neg hn)
    go_enter Tryd.func15, Tryd.ntmps15
    go_wp2
    go_ret
    exact ⟨ret_int H.out.symm, rfl⟩
  · have hn0 : 0 ≤ n := by omega
    clear hn
    go_enter Tryd.func15, Tryd.ntmps15
    go_wp2
    go_loop [6] (fun i => ∃ k : Nat, k ≤ 7 ∧ i = .int .i64 k ∧ (k = 0 ∨ cv (k - 1) < n)) (fun i => 7 - (intOf i).toNat)
    case atStart => exact ⟨0, by omega, rfl, .inl rfl⟩
    case round =>
      obtain ⟨k, hk, rfl, hlo⟩ := hrel
      have HL := Lib.hid hlo
      clear hlo
      by_cases hlt : k < 7
      · have hc := ht k hlt
        by_cases hle : n ≤ cv k
        · have H := Lib.hid (cls_of k hlt hn0 HL.out hle)
          go_wp2
          go_ret
          exact ⟨ret_int H.out, rfl⟩
        · go_wp2
          go_round
          case rel => exact ⟨k + 1, by omega, by go_num, .inr (by simpa using hle)⟩
          case measure => simp [intOf]; omega
      · have H : Hid (cls n = -1) := Lib.hid (cls_big (by
          rcases HL.out with h | h
          · omega
          · obtain rfl : k = 7 := by omega
            simpa [cv] using h))
        go_wp2
        go_ret
        exact ⟨ret_int H.out.symm, rfl⟩

set_option maxHeartbeats 400000 in
theorem round_any (n : Int) (w : World) (ht : Tab w) :
    Calls Tryd.prog 9 #[.int .i64 n] w fun e w' => e = .returned (.tuple #[.int .i64 (rnd n), .bool (rok n)]) ∧ w = w' := by
  by_cases hn : 0 ≤ n ∧ n ≤ 1024
  · obtain ⟨k, hk, h1, h2, _, _⟩ := rnd_of hn.1 hn.2
    have H1 := Lib.hid h1
    have H2 := Lib.hid h2
    have H3 := Lib.hid (rok_yes hn.1 hn.2)
    have hc := ht k hk
    clear h1 h2 hn
    go_enter Tryd.func9, Tryd.ntmps9
    go_wp2_with fail
    refine (class_any n _ ht).mono ?_
    rintro e w' ⟨rfl, rfl⟩
    rw [H1.out]
    go_wp2
    go_ret2
    exact ⟨by rw [H2.out, H3.out]; rfl, rfl⟩
  · have h1 : cls n = -1 := by
      by_cases h : n < 0
      · exact cls_neg h
      · exact cls_big (by omega)
    have H1 := Lib.hid h1
    have H2 := Lib.hid (rnd_no (n := n) (by omega))
    have H3 := Lib.hid (rok_no (n := n) (by omega))
    clear h1 hn
    go_enter Tryd.func9, Tryd.ntmps9
    go_wp2_with fail
    refine (class_any n _ ht).mono ?_
    rintro e w' ⟨rfl, rfl⟩
    rw [H1.out]
    go_wp2
    go_ret2
    exact ⟨by rw [H2.out, H3.out]; rfl, rfl⟩

/-- Block g is just these cells, and may be written. -/
def Has (w : World) (g : Nat) (t : TypeId) (cs : Array Value) : Prop := w.heap[g]? = some (.cells cs t (0, 0))
theorem Has.cell {w : World} {g : Nat} {t : TypeId} {cs : Array Value} (h : Has w g t cs) (i : Nat) : w.cell? ⟨g, i, none⟩ = cs[i]? := cell_of_row w g i cs t (0, 0) h
theorem Has.free {w : World} {g : Nat} {t : TypeId} {cs : Array Value} (h : Has w g t cs) (i : Nat) : w.frozen? ⟨g, i, none⟩ = false := by
  unfold Has at h
  simp [World.frozen?, h]
theorem Has.put {w : World} {g : Nat} {t : TypeId} {cs : Array Value} (h : Has w g t cs) (i : Nat) (u : Value) : Has (w.setCell ⟨g, i, none⟩ u) g t (cs.setIfInBounds i u) := by
  unfold Has at h ⊢
  simp [World.setCell, Array.getElem?_modify, h]
theorem Has.lt {w : World} {g : Nat} {t : TypeId} {cs : Array Value} (h : Has w g t cs) : g < w.heap.size := by
  rcases Nat.lt_or_ge g w.heap.size with hlt | hge
  · exact hlt
  · unfold Has at h; rw [Array.getElem?_eq_none hge] at h; cases h
theorem Has.below {w w' : World} {g B : Nat} {t : TypeId} {cs : Array Value} (h : Has w g t cs) (hb : Below B w w') (hg : g < B) : Has w' g t cs := (hb.block g hg).trans h

/-- The seven cells with the first k classes in them. -/
def filled : Nat → Array Value
  | 0 => #[.int .i64 0, .int .i64 0, .int .i64 0, .int .i64 0, .int .i64 0, .int .i64 0, .int .i64 0]
  | 1 => #[.int .i64 16, .int .i64 0, .int .i64 0, .int .i64 0, .int .i64 0, .int .i64 0, .int .i64 0]
  | 2 => #[.int .i64 16, .int .i64 32, .int .i64 0, .int .i64 0, .int .i64 0, .int .i64 0, .int .i64 0]
  | 3 => #[.int .i64 16, .int .i64 32, .int .i64 64, .int .i64 0, .int .i64 0, .int .i64 0, .int .i64 0]
  | 4 => #[.int .i64 16, .int .i64 32, .int .i64 64, .int .i64 128, .int .i64 0, .int .i64 0, .int .i64 0]
  | 5 => #[.int .i64 16, .int .i64 32, .int .i64 64, .int .i64 128, .int .i64 256, .int .i64 0, .int .i64 0]
  | 6 => #[.int .i64 16, .int .i64 32, .int .i64 64, .int .i64 128, .int .i64 256, .int .i64 512, .int .i64 0]
  | _ => #[.int .i64 16, .int .i64 32, .int .i64 64, .int .i64 128, .int .i64 256, .int .i64 512, .int .i64 1024]
theorem filled_succ {k : Nat} (hk : k < 7) : (filled k).setIfInBounds k (.int .i64 (cv k)) = filled (k + 1) ∧ ∃ u, (filled k)[k]? = some u := by
  match k, hk with
  | 0, _ => exact ⟨rfl, _, rfl⟩
  | 1, _ => exact ⟨rfl, _, rfl⟩
  | 2, _ => exact ⟨rfl, _, rfl⟩
  | 3, _ => exact ⟨rfl, _, rfl⟩
  | 4, _ => exact ⟨rfl, _, rfl⟩
  | 5, _ => exact ⟨rfl, _, rfl⟩
  | 6, _ => exact ⟨rfl, _, rfl⟩

theorem info_int : (Tryd.prog.info? 3).map (fun i => (i.zero, i.size, i.bytes)) = some (some (.int .i64 0), 1, 8) := by kernel_rfl
theorem make7 (w : World) : (Instr.makeSlice 22 (.int .i64 7) (.int .i64 7)).run Tryd.prog w = .ok (.slice (some ⟨w.heap.size, 0, none⟩) 7 7) (w.alloc (.cells (filled 0) 3)) := by
  obtain ⟨i0, hi, hz0, hz1, hz2⟩ := info_parts info_int
  have h := run_make (P := Tryd.prog) w 22 3 i0 (.int .i64 0) Tryd.underlying22 hi hz0 .i64 .i64 7 7 (by omega) (by omega) (by rw [hz2]; omega) (by omega)
  rw [hz1, show madeCells (Value.int IntKind.i64 0).cells (Int.toNat 7 * 1) = filled 0 by kernel_rfl] at h
  exact h

set_option maxHeartbeats 400000 in
theorem classes_any (w : World) (ht : Tab w) :
    Calls Tryd.prog 13 #[] w fun e w' => e = .returned (.slice (some ⟨w.heap.size, 0, none⟩) 7 7) ∧ Has w' w.heap.size 3 (filled 7) ∧ Below w.heap.size w w' := by
  go_enter Tryd.func13, Tryd.ntmps13
  have hm := make7
  go_wp2
  clear hm
  go_loopw [3] (fun i wr => ∃ k : Nat, k ≤ 7 ∧ i = .int .i64 k ∧ Has wr w.heap.size 3 (filled k) ∧ Below w.heap.size w wr) (fun i _ => 7 - (intOf i).toNat)
  case atStart => exact ⟨0, by omega, rfl, heap_alloc_new w _, (Below.refl _ _).alloc (Nat.le_refl _) _⟩
  case round =>
    obtain ⟨k, hk, rfl, hh, hb⟩ := hrel
    by_cases hlt : k < 7
    · have hc := (ht.below hb) k hlt
      have hf := hh.free k
      obtain ⟨hs, u, hu⟩ := filled_succ hlt
      have hd : wr.cell? ⟨w.heap.size, k, none⟩ = some u := (hh.cell k).trans hu
      have hh' := hh.put k (.int .i64 (cv k))
      rw [hs] at hh'
      have HH := Lib.hid hh'
      have HB := Lib.hid hb
      clear hs hu hh' hh hb
      go_wp2
      go_roundw
      case rel => exact ⟨k + 1, by omega, by go_num, HH.out, HB.out.setCell (Nat.le_refl _) _⟩
      case measure => simp [intOf]; omega
    · obtain rfl : k = 7 := by omega
      have HH := Lib.hid hh
      have HB := Lib.hid hb
      clear hh hb
      go_wp2
      go_ret
      exact ⟨rfl, HH.out, HB.out⟩

/-- A slice of integers: nil, or a row of cells; 'zs' are its cells up to the capacity. -/
def IsRow (k : IntKind) (w : World) (a : Option Addr) (len cap : Nat) (zs : List Int) : Prop :=
  len ≤ zs.length ∧ zs.length = cap ∧ cap ≤ maxLen ∧ ∀ i, i < zs.length → ∃ x : Addr, a = some x ∧ w.cell? (x.add i) = some (.int k (zs.getD i 0))
theorem IsRow.keep {k : IntKind} {w w' : World} {a : Option Addr} {len cap : Nat} {zs : List Int} (h : IsRow k w a len cap zs) (hk : ∀ p : Addr, p.block < w.heap.size → w'.cell? p = w.cell? p) : IsRow k w' a len cap zs :=
  ⟨h.1, h.2.1, h.2.2.1, fun i hi => by
    obtain ⟨x, rfl, hx⟩ := h.2.2.2 i hi
    exact ⟨x, rfl, (hk _ (World.block_lt_of_cell? _ _ hx)).trans hx⟩⟩
theorem IsRow.below {k : IntKind} {w w' : World} {a : Option Addr} {len cap : Nat} {zs : List Int} (h : IsRow k w a len cap zs) (hb : Below w.heap.size w w') : IsRow k w' a len cap zs := h.keep fun _ hp => hb.cell hp
/-- The cell of an element, as a walk spells it. -/
theorem IsRow.at_ {k : IntKind} {w : World} {a : Option Addr} {len cap : Nat} {zs : List Int} (h : IsRow k w a len cap zs) {i : Nat} (hi : i < len) :
    ∃ b off, a = some ⟨b, off, none⟩ ∧ w.cell? ⟨b, off + i, none⟩ = some (.int k (zs.getD i 0)) := by
  have hl := h.1
  obtain ⟨x, rfl, hx⟩ := h.2.2.2 0 (by omega)
  obtain ⟨b, off, sp⟩ := x
  have hs : sp = none := by simpa [Addr.add] using World.cell?_spot hx
  subst hs
  obtain ⟨y, e, hy⟩ := h.2.2.2 i (by omega)
  obtain rfl := Option.some.inj e
  refine ⟨b, off, rfl, ?_⟩
  rw [← Go.WideShapes.add_plain]
  exact hy

theorem drop_step {l : List Int} {k : Nat} (h : k < l.length) : l.drop k = l.getD k 0 :: l.drop (k + 1) := by
  rw [List.drop_eq_getElem_cons h]; simp [List.getD, h]
theorem take_getD {zs : List Int} {len k : Nat} (h : k < len) : (zs.take len).getD k 0 = zs.getD k 0 := by
  simp [List.getD, h]

set_option maxHeartbeats 800000 in
theorem sum_any (a : Option Addr) (len cap : Nat) (zs : List Int) (w : World) (ht : Tab w) (hr : IsRow .i64 w a len cap zs) :
    Calls Tryd.prog 11 #[.slice a len cap] w fun e w' => e = .returned (.tuple #[.int .i64 (smv (zs.take len)), .bool (smk (zs.take len))]) ∧ w = w' := by
  obtain ⟨hl, hz, hm, _⟩ := id hr
  unfold maxLen at hm
  have hlz : (zs.take len).length = len := by simp; omega
  have HR := Lib.hid hr
  have hlen : (len : Int) ≤ 9223372036854775807 := by omega
  clear hr hz hl hm
  obtain ⟨ls, hls⟩ : ∃ ls, ls = zs.take len := ⟨_, rfl⟩
  have HS := Lib.hid hls
  rw [← hls] at hlz ⊢
  have HL := Lib.hid hlz
  clear hls hlz
  go_enter Tryd.func11, Tryd.ntmps11
  go_wp2
  go_loop [4, 10] (fun t i => ∃ (k : Nat) (s : Int), k ≤ len ∧ i = .int .i64 k ∧ t = .int .i64 s ∧ 0 ≤ s ∧ s ≤ 2147483647 ∧ smo s (ls.drop k) = smo 0 ls) (fun _ i => len - (intOf i).toNat)
  case atStart => exact ⟨0, 0, by omega, rfl, rfl, by omega, by omega, rfl⟩
  case round =>
    obtain ⟨k, s, hk, rfl, rfl, hs0, hs1, hsm⟩ := hrel
    by_cases hlt : k < len
    · obtain ⟨b, off, rfl, hc⟩ := HR.out.at_ hlt
      obtain ⟨x, hx⟩ : ∃ x, x = zs.getD k 0 := ⟨_, rfl⟩
      rw [← hx] at hc
      have hd : ls.drop k = x :: ls.drop (k + 1) := by
        rw [drop_step (by rw [HL.out]; exact hlt), HS.out, take_getD hlt, ← hx]
      rw [hd] at hsm
      have HM := Lib.hid hsm
      clear hsm hd hx
      have hb := rnd_bd x
      by_cases hok : rok x = true
      · have HO := Lib.hid hok
        clear hok
        by_cases hfit : rnd x ≤ 2147483647 - s
        · have HN : Hid (smo (s + rnd x) (ls.drop (k + 1)) = smo 0 ls) := Lib.hid (by rw [← HM.out, smo_yes HO.out (by omega)])
          go_wp2_with fail
          refine (round_any x _ ht).mono ?_
          rintro e w' ⟨rfl, rfl⟩
          rw [HO.out]
          go_wp2
          go_round
          case rel => exact ⟨k + 1, s + rnd x, by omega, by go_num, by go_num, by omega, by omega, HN.out⟩
          case measure => simp [intOf]; omega
        · have HN : Hid (none = smo 0 ls) := Lib.hid (by rw [← HM.out, smo_no (.inr (by omega))])
          go_wp2_with fail
          refine (round_any x _ ht).mono ?_
          rintro e w' ⟨rfl, rfl⟩
          rw [HO.out]
          go_wp2
          go_ret2
          exact ⟨by rw [smv, smk, ← HN.out]; rfl, rfl⟩
      · have HO : Hid (rok x = false) := Lib.hid (by simpa using hok)
        clear hok
        have HN : Hid (none = smo 0 ls) := Lib.hid (by rw [← HM.out, smo_no (.inl HO.out)])
        go_wp2_with fail
        refine (round_any x _ ht).mono ?_
        rintro e w' ⟨rfl, rfl⟩
        rw [HO.out]
        go_wp2
        go_ret2
        exact ⟨by rw [smv, smk, ← HN.out]; rfl, rfl⟩
    · have HN : Hid (some s = smo 0 ls) := Lib.hid (by rw [← hsm, List.drop_of_length_le (by rw [HL.out]; omega), smo_nil])
      clear hsm
      go_wp2
      go_ret2
      exact ⟨by rw [smv, smk, ← HN.out]; rfl, rfl⟩
end Go.Proofs.YtbojiphhcciliaaDoor
