/- Layer 7: Vars: sorted, each once. -/
import Derived.Test.YtbhjimlikffalaaDoorExVars
import Derived.Sort.OwnSorted
namespace Go.Proofs.YtbhjimlikffalaaDoor
open Go.RowKit Go.Sort
set_option linter.unusedVariables false

/-- Sorted by their bytes. -/
def srt (l : List Nm) : List Nm := l.mergeSort fun x y => decide (x ≤ y)
theorem srt_len (l : List Nm) : (srt l).length = l.length := by unfold srt; simp
theorem sort_any {w : World} {base : Nat} {sv : Value} {l : List Nm} (h : SO w base sv l) (hl : l.length ≤ 1000000) :
    Calls Tryd.prog 52 #[sv] w fun e w' => e = .returned (.tuple #[]) ∧ SO w' base sv (srt l) ∧ w.grownBy w' sv.ownBlock := by
  rcases h.2 with ⟨rfl, h0⟩ | ⟨g, cap, cur, rfl, hbase, hh, hn, hm, hc, ht⟩
  · have hx : l = [] := by simpa using h0
    subst hx
    refine (Tryd.slices_Sort_string_none none 0 w).mono ?_
    rintro e w' ⟨rfl, rfl⟩
    rw [show srt [] = [] by unfold srt; simp]
    exact ⟨rfl, SO.nil _ _, ⟨rfl, rfl, rfl, Nat.le_refl _, fun _ _ _ => rfl⟩⟩
  · refine (Tryd.slices_Sort_string g 0 cap l w (holds_of_block hh (by rw [Nat.mul_one] at ht; exact ht)) (Array.getElem?_eq_some_iff.1 hh).1 (by omega)).mono ?_
    rintro e w' ⟨rfl, n, os, rfl⟩
    refine ⟨rfl, ?_, grownBy_sorted _⟩
    have := ownsRow_sorted (n := n) (os := os) (ts := srt l) (ss := l) (base := base) (srt_len l) hbase hh hn hm hc
    unfold SO
    rw [srt_len]
    exact this
theorem compact_le (l : List Nm) : (Lib.compact l).length ≤ l.length := by
  unfold Lib.compact Lib.compactUpTo
  rw [List.length_map]
  refine Nat.le_trans (List.length_filter_le _ _) ?_
  simp
theorem compact_any {w : World} {base : Nat} {sv : Value} {l : List Nm} (h : SO w base sv l) (hl : l.length ≤ 1000000) :
    Calls Tryd.prog 53 #[sv] w fun e w' => ∃ A c, e = .returned (.slice A (Lib.compact l).length c) ∧ Strs w' A c (Lib.compact l) ∧ w.grownBy w' sv.ownBlock ∧ (∀ a, A = some a → sv.ownBlock = some a.block) := by
  rcases h.2 with ⟨rfl, h0⟩ | ⟨g, cap, cur, rfl, hbase, hh, hn, hm, hc, ht⟩
  · have hx : l = [] := by simpa using h0
    subst hx
    refine (Tryd.slices_Compact_string_empty none 0 w).mono ?_
    rintro e w' ⟨rfl, rfl⟩
    exact ⟨none, 0, rfl, Strs.nil _, ⟨rfl, rfl, rfl, Nat.le_refl _, fun _ _ _ => rfl⟩, fun a h => by cases h⟩
  · have hH := holds_of_block (ss := l) hh (by rw [Nat.mul_one] at ht; exact ht)
    refine (Tryd.slices_Compact_string g 0 cap l w hH (by omega) hn).mono ?_
    rintro e w' ⟨rfl, q, rfl⟩
    have hcl := compact_le l
    have hHa : Holds encStr (Sort.ahead w q) g 0 l.toArray := hH
    obtain ⟨d, hd⟩ : ∃ d, (Lib.compact l ++ List.replicate (l.length - (Lib.compact l).length) []).toArray = d := ⟨_, rfl⟩
    have hds : d.size = l.toArray.size := by rw [← hd]; simp; omega
    have hH2 := holds_putRow encStr (Sort.ahead w q) g 0 l.toArray d hHa hds
    rw [hd]
    refine ⟨some ⟨g, 0, none⟩, cap, rfl, ⟨fun i u hu => ⟨_, rfl, ?_⟩, (fun h => by cases h), by omega, hm⟩, ?_, fun a h => by cases h; rfl⟩
    · have hi : i < (Lib.compact l).length := by
        rcases Nat.lt_or_ge i (Lib.compact l).length with h1 | h1
        · exact h1
        · rw [List.getElem?_eq_none (by simpa using h1)] at hu; cases hu
      have h1 := (hH2 i (by rw [hds]; simp; omega)).1
      rw [Go.WideShapes.add_plain, h1]
      rw [List.getElem?_map, List.getElem?_eq_getElem hi] at hu
      obtain rfl := Option.some.inj hu
      have h2 : d[i]! = (Lib.compact l)[i] := by
        rw [getElem!_pos d i (by rw [hds]; simp; omega)]
        subst hd
        rw [List.getElem_toArray, List.getElem_append_left hi]
      rw [h2]
      rfl
    · have := grownBy_sorted (w := w) (g := g) (n := q) (os := #[]) d
      rwa [show Sort.grow (putRow encStr (Sort.ahead w q) g 0 d) #[] = putRow encStr (Sort.ahead w q) g 0 d from grow_empty _] at this
/-- What Vars gathers. -/
def gath (t : ET) : List Nm := (allF vst [] t).1
def varsT (t : ET) : List Nm := Lib.compact (srt (gath t))
theorem gath_len (t : ET) : (gath t).length ≤ t.size := by
  have := mu_all (st := vst) (μ := fun l => l.length) (fun s t => by
    show (if t.k = 1 then s ++ [t.v] else s).length ≤ s.length + 1
    split <;> simp) t []
  have e : ([] : List Nm).length = 0 := rfl
  unfold gath
  omega
theorem grown_low {w w' : World} {B b : Nat} {sv : Value} (h : w.grownBy w' sv.ownBlock) (hlt : ∀ k, sv.ownBlock = some k → b < k) (hB : B ≤ b + 1) (hs : B ≤ w.heap.size) : Below B w w' :=
  ⟨h.os, h.tape, h.output, h.size, fun k hk => h.block k (by omega) (fun e => by have := hlt k e.symm; omega)⟩
theorem Strs.set {w : World} {A : Option Addr} {c : Nat} {l : List Nm} (h : Strs w A c l) (p : Addr) (u : Value) (hA : ∀ a, A = some a → a.block ≠ p.block) : Strs (w.setCell p u) A c l := by
  refine ⟨fun i v hv => ?_, h.2⟩
  obtain ⟨x, rfl, hx⟩ := h.1 i v hv
  refine ⟨x, rfl, ?_⟩
  have eb : (x.add i).block = x.block := by unfold Addr.add; split <;> rfl
  rw [cell_block ((set_grown w p u).block _ (World.block_lt_of_cell? _ _ hx) (fun e => hA x rfl (by rw [eb] at e; exact Option.some.inj e)))]
  exact hx
set_option maxHeartbeats 1000000 in
theorem vars_any (t : ET) (w : World) (hin : t.In w) (hs : t.size ≤ 1000000) :
    Calls Tryd.prog 12 #[t.val] w fun e w' => (∃ A c, e = .returned (.slice A (varsT t).length c) ∧ Strs w' A c (varsT t)) ∧ Below w.heap.size w w' := by
  obtain ⟨u, hu⟩ : ∃ u, u = t.val := ⟨_, rfl⟩
  have hv : u = .agg #[.int .i64 t.k, .string (str t.op), .int .i64 t.n, .string (str t.v), .string (str t.f), .slice t.A t.ks.length t.c] := hu
  obtain ⟨x1, x2, x3⟩ := two_new w #[.int .i64 t.k, .string (str t.op), .int .i64 t.n, .string (str t.v), .string (str t.f), .slice t.A t.ks.length t.c] #[.slice none 0 0] 24 35
  have hc := all_any (vars_acc w (w.heap.size + 1) t.size hs (by omega)) t [] _ hin ⟨x3, _, x2, SO.nil _ _⟩ (by simp)
  have hmf : ∀ (fn : Fn) (first cap : Array Value) (w : World), (Instr.makeFunc fn first cap).run Tryd.prog w = .ok (.func fn first cap) w := fun _ _ _ _ => rfl
  have hgl := gath_len t
  have hb1 : (allF vst [] t).2 = (allF vst [] t).2 := rfl
  obtain ⟨bb, hbb⟩ : ∃ x, (allF vst [] t).2 = x := ⟨_, rfl⟩
  rw [hbb, ← hu] at hc
  rw [show (allF vst [] t).1 = gath t from rfl] at hc
  obtain ⟨l, hl⟩ : ∃ l, gath t = l := ⟨_, rfl⟩
  rw [hl] at hc hgl
  rw [← hu, hv]
  rw [hv] at hc
  rw [show varsT t = Lib.compact (srt l) by unfold varsT; rw [hl]]
  have hsl := srt_len l
  have HGL := Lib.hid (show l.length ≤ 1000000 by omega)
  clear x1 x2 x3 hu hv hb1 hbb hl hgl
  go_enter Tryd.func12, Tryd.ntmps12
  go_wp2_with (go_at_call 43; refine hc.mono ?_; rintro e w1 ⟨rfl, ⟨b1, sv, h1, g1⟩, f1⟩; have c0 := h1.cell 0; have f0 := h1.free 0; simp at c0)
  have hlt := h1.lt
  have hsz := b1.size
  have hne : sv.ownBlock ≠ some (w.heap.size + 1) := fun e => by have := (g1.lt _ e).1; omega
  have hgt : ∀ k, sv.ownBlock = some k → w.heap.size + 1 < k := fun k hk => (g1.lt k hk).1
  refine (sort_any g1 HGL.out).mono ?_
  rintro e w2 ⟨rfl, s2, gr2⟩
  have h2 : Has w2 (w.heap.size + 1) 35 #[sv] := (gr2.block _ hlt (fun e => hne e.symm)).trans h1
  have c2 := h2.cell 0
  simp at c2
  have B2 := b1.trans (grown_low gr2 hgt (B := w.heap.size) (by omega) (by omega))
  have HB2 := Lib.hid B2
  clear c0 f0 B2
  go_wp2_with fail
  refine (compact_any s2 (by rw [hsl]; exact HGL.out)).mono ?_
  rintro e w3 ⟨A, c, rfl, s3, gr3, ha⟩
  have h3 : Has w3 (w.heap.size + 1) 35 #[sv] := (gr3.block _ h2.lt (fun e => hne e.symm)).trans h2
  have c3 := h3.cell 0
  have f3 := h3.free 0
  simp at c3
  have hsz2 := HB2.out.size
  have HB3 := Lib.hid (HB2.out.trans (grown_low gr3 hgt (B := w.heap.size) (by omega) hsz2))
  have Y0 := (h3.put 0 (.slice A (Lib.compact (srt l)).length c)).cell 0
  simp at Y0
  have HY := Lib.hid Y0
  have HS3 := Lib.hid (s3.set ⟨w.heap.size + 1, 0, none⟩ (.slice A (Lib.compact (srt l)).length c) (fun a e => by
    have e1 := hgt _ (ha a e)
    simp
    omega))
  clear c2 Y0 s3 gr3 ha hgt hne h3 h2 s2 gr2 hsz hsz2 hlt
  go_wp2_with fail
  have Y0 := HY.out
  refine bodyPost_ret (v := .slice A (Lib.compact (srt l)).length c) (by simp [results, Tryd.results12, go_sem, Y0]) rfl ?_
  exact ⟨⟨A, c, rfl, HS3.out⟩, HB3.out.setCell (p := ⟨w.heap.size + 1, 0, none⟩) (by simp) _⟩
end Go.Proofs.YtbhjimlikffalaaDoor
