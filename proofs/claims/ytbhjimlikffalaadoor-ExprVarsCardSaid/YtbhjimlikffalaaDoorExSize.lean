/- Layer 7: Size. -/
import Derived.Test.YtbhjimlikffalaaDoorExAll
namespace Go.Proofs.YtbhjimlikffalaaDoor
open Go.RowKit
set_option linter.unusedVariables false

/-- It counts. -/
def cnt (s : Nat) (t : ET) : Nat × Bool := (s + 1, true)
theorem cnt_all : ∀ (t : ET) (s : Nat), allF cnt s t = (s + t.size, true) := by
  refine ET.ind fun k op n v f A c ks ih s => ?_
  have hl : ∀ (l : List ET), (∀ t ∈ l, ∀ s, allF cnt s t = (s + t.size, true)) → ∀ s, allL cnt s l = (s + sizeL l, true) := by
    intro l
    induction l with
    | nil => intro _ s; rw [allL_nil, sizeL_nil]; rfl
    | cons t ts ihl =>
      intro hh s
      have h1 := hh t (by simp) s
      rw [allL_yes (by rw [h1]), h1, sizeL_cons, ihl (fun t ht => hh t (by simp [ht])), Nat.add_assoc]
  rw [allF_yes rfl, size_mk]
  show allL cnt (s + 1) ks = _
  rw [hl ks ih, Prod.mk.injEq]
  exact ⟨by omega, rfl⟩
theorem size1_any (u0 u1 u2 u3 u4 u5 : Value) (b : Nat) (n : Nat) (w : World) (hn : n < 9223372036854775807) (hb : Has w b 3 #[.int .i64 n]) :
    Calls Tryd.prog 64 #[.agg #[u0, u1, u2, u3, u4, u5], .pointer (some ⟨b, 0, none⟩)] w fun e w' => e = .returned (.bool true) ∧ Has w' b 3 #[.int .i64 (n + 1 : Nat)] ∧ w.heap.size ≤ w'.heap.size ∧ (∀ q, q < w.heap.size → q ≠ b → w'.heap[q]? = w.heap[q]?) ∧ w'.os = w.os ∧ w'.tape = w.tape ∧ w'.output = w.output := by
  have hlt := hb.lt
  have bl : Below w.heap.size w (w.alloc (.cells #[u0, u1, u2, u3, u4, u5] 24)) := (Below.refl _ _).alloc (Nat.le_refl _) _
  have hb2 : Has (w.alloc (.cells #[u0, u1, u2, u3, u4, u5] 24)) b 3 #[.int .i64 n] := hb.below bl hlt
  have c0 : (w.alloc (.cells #[u0, u1, u2, u3, u4, u5] 24)).cell? ⟨b, 0, none⟩ = some (.int .i64 n) := hb2.cell 0
  have f0 : (w.alloc (.cells #[u0, u1, u2, u3, u4, u5] 24)).frozen? ⟨b, 0, none⟩ = false := hb2.free 0
  have HP := Lib.hid (hb2.put 0 (.int .i64 (n + 1 : Nat)))
  have HB := Lib.hid bl
  clear bl hb hb2 hlt
  go_enter Tryd.func64, Tryd.ntmps64
  go_wp2_with fail
  go_ret
  refine ⟨rfl, HP.out, ?_, ?_, HB.out.os, HB.out.tape, HB.out.output⟩
  · have := HB.out.size; simp
  · intro q hq hne
    rw [← HB.out.block q hq]
    simp [World.setCell, Array.getElem?_modify]
    intro e; exact absurd e.symm hne
theorem two_new (w : World) (cs ds : Array Value) (t s : TypeId) : Has ((w.alloc (.cells cs t)).alloc (.cells ds s)) w.heap.size t cs ∧ Has ((w.alloc (.cells cs t)).alloc (.cells ds s)) (w.heap.size + 1) s ds ∧ Below w.heap.size w ((w.alloc (.cells cs t)).alloc (.cells ds s)) := by
  have h1 : Has (w.alloc (.cells cs t)) w.heap.size t cs := heap_alloc_new w _
  have h2 : Has ((w.alloc (.cells cs t)).alloc (.cells ds s)) (w.alloc (.cells cs t)).heap.size s ds := heap_alloc_new _ _
  refine ⟨h1.below ((Below.refl _ _).alloc (Nat.le_refl _) _) (by simp), ?_, ((Below.refl _ _).alloc (Nat.le_refl _) _).alloc (by simp) _⟩
  rw [show w.heap.size + 1 = (w.alloc (.cells cs t)).heap.size by simp]
  exact h2
theorem size_acc (w0 : World) (b : Nat) (M : Nat) (hM : M ≤ 1000000) (hb : w0.heap.size ≤ b) : Acc 64 #[.pointer (some ⟨b, 0, none⟩)] w0 (fun q _ => q ≠ b) (fun n w => Below w0.heap.size w0 w ∧ Has w b 3 #[.int .i64 (n : Nat)]) cnt (fun n => n) M where
  low := fun s w h => h.1
  keep := fun s w w' h hb' => ⟨h.1.trans (hb'.mono h.1.size), h.2.below hb' h.2.lt⟩
  new := fun s w o h => by have := h.2.lt; omega
  stay := fun q w w' _ h _ => h
  step := fun s t => Nat.le_refl _
  enters := by intro args w; simp [go_sem]
  call := fun s w t h hin hlt => by
    refine (size1_any _ _ _ _ _ _ b s w (by omega) h.2).mono ?_
    rintro e w' ⟨rfl, hh, hz, hfr, h1, h2, h3⟩
    exact ⟨rfl, ⟨⟨h1.trans h.1.os, h2.trans h.1.tape, h3.trans h.1.output, Nat.le_trans h.1.size hz, fun q hq => (hfr q (Nat.lt_of_lt_of_le hq h.1.size) (by omega)).trans (h.1.block q hq)⟩, hh⟩, hz, fun q hq hne => ⟨hfr q hq hne, hne⟩⟩
theorem size_any (t : ET) (w : World) (hin : t.In w) (hs : t.size ≤ 1000000) :
    Calls Tryd.prog 38 #[t.val] w fun e w' => e = .returned (.int .i64 t.size) ∧ Below w.heap.size w w' := by
  obtain ⟨u, hu⟩ : ∃ u, u = t.val := ⟨_, rfl⟩
  have hv : u = .agg #[.int .i64 t.k, .string (str t.op), .int .i64 t.n, .string (str t.v), .string (str t.f), .slice t.A t.ks.length t.c] := hu
  obtain ⟨x1, x2, x3⟩ := two_new w #[.int .i64 t.k, .string (str t.op), .int .i64 t.n, .string (str t.v), .string (str t.f), .slice t.A t.ks.length t.c] #[.int .i64 0] 24 3
  have hc := all_any (size_acc w (w.heap.size + 1) t.size hs (by omega)) t 0 _ hin ⟨x3, x2⟩ (by omega)
  rw [cnt_all, ← hu, Nat.zero_add] at hc
  have hmf : ∀ (fn : Fn) (first cap : Array Value) (w : World), (Instr.makeFunc fn first cap).run Tryd.prog w = .ok (.func fn first cap) w := fun _ _ _ _ => rfl
  rw [← hu, hv]
  rw [hv] at hc
  clear x1 x2 x3 hu hv
  go_enter Tryd.func38, Tryd.ntmps38
  go_wp2_with (go_at_call 43; refine hc.mono ?_; rintro e w1 ⟨rfl, ⟨b1, h1⟩, f1⟩; have c0 := h1.cell 0; have f0 := h1.free 0; simp at c0)
  have Y0 := (h1.put 0 (.int .i64 t.size)).cell 0
  simp at Y0
  refine bodyPost_ret (v := .int .i64 t.size) (by simp [results, Tryd.results38, go_sem, Y0]) rfl ?_
  exact ⟨rfl, b1.setCell (p := ⟨w.heap.size + 1, 0, none⟩) (by simp) _⟩
end Go.Proofs.YtbhjimlikffalaaDoor
