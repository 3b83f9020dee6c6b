/- Layer 7: Vars: the closure that gathers. -/
import Derived.Test.YtbhjimlikffalaaDoorExType
import Derived.Test.YtbhjimlikffalaaDoorExFr
namespace Go.Proofs.YtbhjimlikffalaaDoor
open Go.RowKit
set_option linter.unusedVariables false

theorem own_below {w w' : World} {base : Nat} {e : TypeId} {s n : Nat} {v : Value} {xs : List Value} (h : w.ownsRow base e s v n xs) (hb : Below w.heap.size w w') : w'.ownsRow base e s v n xs :=
  h.kept (row := none) ⟨hb.os, hb.tape, hb.output, hb.size, fun k hk _ => hb.block k hk⟩ (by cases v.ownBlock with | none => exact .inl rfl | some k => exact .inr (by simp))
/-- v is a slice of these texts that lies in no older memory. -/
def SO (w : World) (base : Nat) (v : Value) (l : List Nm) : Prop := w.ownsRow base 9 1 v l.length (l.map fun s => Value.string (str s))
theorem SO.nil (w : World) (base : Nat) : SO w base (.slice none 0 0) [] := World.ownsRow_nil w base _ 1
theorem SO.below {w w' : World} {base : Nat} {v : Value} {l : List Nm} (h : SO w base v l) (hb : Below w.heap.size w w') : SO w' base v l := own_below h hb
theorem SO.lt {w : World} {base : Nat} {v : Value} {l : List Nm} (h : SO w base v l) : ∀ k, v.ownBlock = some k → base ≤ k ∧ k < w.heap.size := World.ownsRow.lt h
theorem info_str : (Tryd.prog.info? 9).map (fun i => (i.zero, i.size, i.bytes)) = some (some (.string { data := #[] }), 1, 16) := by kernel_rfl
/-- What an append of a text leaves. -/
theorem SO.app {w : World} {base : Nat} {v : Value} {l : List Nm} (h : SO w base v l) (hbase : base ≤ w.heap.size) (x : Nm) (hl : l.length ≤ 1000000000) :
    ∃ v' w', (Builtin.append_ #[35, 35] 35 #[v, .slice (some ⟨w.heap.size, 0, none⟩) 1 1]).run Tryd.prog (w.alloc (.cells #[.string (str x)] 9)) = .ok v' w' ∧ SO w' base v' (l ++ [x]) ∧ (w.alloc (.cells #[.string (str x)] 9)).grownBy w' v.ownBlock ∧ (v'.ownBlock = v.ownBlock ∨ v'.ownBlock = some (w.heap.size + 1)) := by
  obtain ⟨i0, hi, hz0, hz1, hz2⟩ := info_parts info_str
  obtain ⟨W, hW⟩ : ∃ W, W = w.alloc (.cells #[.string (str x)] 9) := ⟨_, rfl⟩
  have hWz : W.heap.size = w.heap.size + 1 := by rw [hW]; simp
  have bw : Below w.heap.size w W := by rw [hW]; exact (Below.refl _ _).alloc (Nat.le_refl _) _
  have hlie : Lies W (some ⟨w.heap.size, 0, none⟩) [.string (str x)] := by rw [hW]; exact Lies.one w _ _
  rw [← hW]
  have h2W : W.ownsRow base 9 1 v l.length (l.map fun s => Value.string (str s)) := own_below h bw
  obtain ⟨v', w', r1, r2, r3, r4⟩ := run_app (P := Tryd.prog) W base 35 35 9 i0 (.string { data := #[] }) 16 Tryd.underlying35 hi hz0 hz1 hz2 rfl v l.length _ h2W
    (some ⟨w.heap.size, 0, none⟩) 1 1 [.string (str x)] rfl hlie (fun h => by cases h) (by intro u hu; simp at hu; subst hu; rfl) (by unfold maxLen; omega) (by omega) (by omega)
  refine ⟨v', w', r1, ?_, r3, by rw [← hWz]; exact r4⟩
  unfold SO
  simpa using r2
/-- What is gathered: the Vars of the Refs. -/
def vst (s : List Nm) (t : ET) : List Nm × Bool := (if t.k = 1 then s ++ [t.v] else s, true)
/-- The box b holds a slice of these. -/
def Gat (w : World) (b : Nat) (l : List Nm) : Prop := ∃ sv, Has w b 35 #[sv] ∧ SO w (b + 1) sv l
/-- A block that is neither the box nor its slice's. -/
def Off (b q : Nat) (w : World) : Prop := b < w.heap.size ∧ q ≠ b ∧ ∀ sv, w.cell? ⟨b, 0, none⟩ = some sv → sv.ownBlock ≠ some q
theorem SO.kept {w w' : World} {base : Nat} {v : Value} {l : List Nm} {row : Option Nat} (h : SO w base v l) (hg : w.grownBy w' row) (hr : ∀ k, row = some k → v.ownBlock ≠ some k) : SO w' base v l :=
  World.ownsRow.kept (row := row) h hg (by
    cases hv : v.ownBlock with
    | none => exact .inl rfl
    | some k => exact .inr (fun e => hr k e.symm hv))
set_option maxHeartbeats 1000000 in
theorem vars1_any (k : Int) (op : Nm) (n : Int) (v f : Nm) (A : Option Addr) (m c : Nat) (b : Nat) (l : List Nm) (w : World) (hl : l.length ≤ 1000000) (hg : Gat w b l) :
    Calls Tryd.prog 51 #[ex k op n v f A m c, .pointer (some ⟨b, 0, none⟩)] w fun e w' => e = .returned (.bool true) ∧ Gat w' b (if k = 1 then l ++ [v] else l) ∧ w.heap.size ≤ w'.heap.size ∧ (∀ q, q < w.heap.size → Off b q w → w'.heap[q]? = w.heap[q]? ∧ Off b q w') ∧ (∀ q, q < b → q < w.heap.size → w'.heap[q]? = w.heap[q]?) ∧ w'.os = w.os ∧ w'.tape = w.tape ∧ w'.output = w.output := by
  obtain ⟨sv, hb, hso⟩ := hg
  have hlt := hb.lt
  obtain ⟨W, hW⟩ : ∃ W, W = w.alloc (.cells #[.int .i64 k, .string (str op), .int .i64 n, .string (str v), .string (str f), .slice A m c] 24) := ⟨_, rfl⟩
  have bl : Below w.heap.size w W := by rw [hW]; exact (Below.refl _ _).alloc (Nat.le_refl _) _
  have hWz : W.heap.size = w.heap.size + 1 := by rw [hW]; simp
  have hb2 := hb.below bl hlt
  have hso2 := hso.below bl
  have cb : w.cell? ⟨b, 0, none⟩ = some sv := hb.cell 0
  unfold ex
  by_cases h1 : k = 1
  · subst h1
    rw [if_pos rfl]
    obtain ⟨v', w', r1, r2, r3, r4⟩ := hso2.app (by omega) v (by omega)
    have c0 : (W.alloc (.cells #[.string (str v)] 9)).cell? ⟨b, 0, none⟩ = some sv := (hb2.below ((Below.refl _ _).alloc (Nat.le_refl _) _) (by omega)).cell 0
    have c00 : W.cell? ⟨b, 0, none⟩ = some sv := hb2.cell 0
    have hne : sv.ownBlock ≠ some b := fun e => by have := (hso.lt b e).1; omega
    have hb3 : Has w' b 35 #[sv] := (r3.block b (by simp; omega) (fun e => hne e.symm)).trans (hb2.below ((Below.refl _ _).alloc (Nat.le_refl _) _) (by omega))
    have hput := hb3.put 0 v'
    have f0 : w'.frozen? ⟨b, 0, none⟩ = false := hb3.free 0
    have c1 : w'.cell? ⟨b, 0, none⟩ = some sv := hb3.cell 0
    obtain ⟨A', n', cc, hv'⟩ : ∃ A n c, v' = .slice A n c := by obtain ⟨A, c, h, _⟩ := own_shape r2; exact ⟨_, _, _, h⟩
    obtain ⟨A0, n0, c0', hv0⟩ : ∃ A n c, sv = .slice A n c := by obtain ⟨A, c, h, _⟩ := own_shape hso; exact ⟨_, _, _, h⟩
    have hso' := r2
    rw [hWz] at r1
    rw [hW] at r1 c0 c00
    subst hv' hv0
    have HR1 := Lib.hid r1
    have HP := Lib.hid hput
    have HSO := Lib.hid hso'
    have H3 := Lib.hid r3
    have H4 := Lib.hid r4
    have HB := Lib.hid bl
    have HW := Lib.hid hW
    have HZ := Lib.hid hWz
    have HLT := Lib.hid hso.lt
    have HCB := Lib.hid cb
    have HN := Lib.hid hne
    have HHb := Lib.hid hlt
    have HB0 := Lib.hid hb
    clear r1 hput hso' r2 r3 r4 bl hW hWz hb3 hb2 hso2 hso hne cb hb
    go_enter Tryd.func51, Tryd.ntmps51
    go_wp2_with (at_builtin; refine wpList_app HR1.out rfl rfl rfl rfl rfl ?_)
    go_ret
    have hlt2 := HHb.out
    have hgz := H3.out.size
    have hz1 : w.heap.size ≤ w'.heap.size := by
      have h1 := HZ.out
      have : (W.alloc (.cells #[.string (str v)] 9)).heap.size = W.heap.size + 1 := by simp
      omega
    have hBW : Below w.heap.size w (W.alloc (.cells #[.string (str v)] 9)) := HB.out.alloc (by have := HZ.out; omega) _
    have hq : ∀ q, q < w.heap.size → q ≠ b → (Value.slice A0 n0 c0').ownBlock ≠ some q → (w'.setCell ⟨b, 0, none⟩ (.slice A' n' cc)).heap[q]? = w.heap[q]? := fun q hq hqb hqo => by
      rw [(set_grown w' ⟨b, 0, none⟩ (.slice A' n' cc)).block q (by omega) (by simpa using hqb), H3.out.block q (by have := hBW.size; omega) (fun e => hqo e.symm)]
      exact hBW.block q hq
    refine ⟨rfl, ⟨_, by simpa using HP.out, HSO.out.kept (set_grown _ _ _) (fun k hk e => ?_)⟩, by simp [World.setCell]; omega, ?_, ?_, ?_, ?_, ?_⟩
    · have h1 := (HSO.out.lt k e).1
      simp at hk
      omega
    · rintro q hql ⟨o1, o2, o3⟩
      have ho := o3 _ HCB.out
      refine ⟨hq q hql o2 ho, by simp [World.setCell]; omega, o2, fun sv' hsv' => ?_⟩
      have e1 : sv' = .slice A' n' cc := by
        have h2 := HP.out.cell 0
        rw [h2] at hsv'
        simpa using hsv'.symm
      subst e1
      rcases H4.out with e | e
      · rw [e]; exact ho
      · rw [e]; have := HZ.out; simp; omega
    · intro q hqb hql
      exact hq q hql (by omega) (fun e => by have := (HLT.out q e).1; omega)
    · exact H3.out.os.trans hBW.os
    · exact H3.out.tape.trans hBW.tape
    · exact H3.out.output.trans hBW.output
  · rw [if_neg h1]
    have d1 : (k == 1) = false := by simpa using h1
    have HB := Lib.hid bl
    have HG := Lib.hid (show Gat W b l from ⟨sv, hb2, hso2⟩)
    have HW := Lib.hid hW
    have HHb := Lib.hid hlt
    have HC := Lib.hid cb
    have HC2 := Lib.hid (hb2.cell 0)
    clear bl hb2 hso2 hW hso hb hlt cb h1
    go_enter Tryd.func51, Tryd.ntmps51
    go_wp2_with fail
    go_ret
    rw [← HW.out]
    refine ⟨rfl, HG.out, HB.out.size, ?_, fun q _ hq => HB.out.block q hq, HB.out.os, HB.out.tape, HB.out.output⟩
    rintro q hql ⟨o1, o2, o3⟩
    refine ⟨HB.out.block q hql, by have := HB.out.size; omega, o2, fun sv' hsv' => ?_⟩
    have e1 : sv' = sv := by
      have h2 := HC2.out
      rw [h2] at hsv'
      simpa using hsv'.symm
    subst e1
    exact o3 _ HC.out
theorem vars_acc (w0 : World) (b : Nat) (M : Nat) (hM : M ≤ 1000000) (hb : w0.heap.size ≤ b) : Acc 51 #[.pointer (some ⟨b, 0, none⟩)] w0 (Off b) (fun l w => Below w0.heap.size w0 w ∧ Gat w b l) vst (fun l => l.length) M where
  low := fun s w h => h.1
  keep := fun s w w' h hb' => by
    obtain ⟨h1, sv, h2, h3⟩ := h
    exact ⟨h1.trans (hb'.mono h1.size), sv, h2.below hb' h2.lt, h3.below hb'⟩
  new := fun s w o h => by
    obtain ⟨h1, sv, h2, h3⟩ := h
    have hlt := h2.lt
    refine ⟨by simp; omega, by omega, fun sv' hsv' => ?_⟩
    have e1 : (w.alloc o).cell? ⟨b, 0, none⟩ = some sv := (h2.below ((Below.refl _ _).alloc (Nat.le_refl _) _) hlt).cell 0
    rw [e1] at hsv'
    obtain rfl := Option.some.inj hsv'
    intro e
    have := (h3.lt _ e).2
    omega
  stay := fun q w w' hq h hb' => by
    obtain ⟨h1, h2, h3⟩ := h
    exact ⟨Nat.lt_of_lt_of_le h1 hb'.size, h2, fun sv hsv => h3 sv ((hb'.cell (p := ⟨b, 0, none⟩) h1).symm.trans hsv)⟩
  step := fun s t => by
    show (if t.k = 1 then s ++ [t.v] else s).length ≤ s.length + 1
    split <;> simp
  enters := by intro args w; simp [go_sem]
  call := fun s w t h hin hlt => by
    refine (vars1_any t.k t.op t.n t.v t.f t.A t.ks.length t.c b s w (by omega) h.2).mono ?_
    rintro e w' ⟨rfl, hg, hz, hfr, hlow, h1, h2, h3⟩
    exact ⟨rfl, ⟨⟨h1.trans h.1.os, h2.trans h.1.tape, h3.trans h.1.output, Nat.le_trans h.1.size hz, fun q hq => (hlow q (by omega) (Nat.lt_of_lt_of_le hq h.1.size)).trans (h.1.block q hq)⟩, hg⟩, hz, hfr⟩
end Go.Proofs.YtbhjimlikffalaaDoor
