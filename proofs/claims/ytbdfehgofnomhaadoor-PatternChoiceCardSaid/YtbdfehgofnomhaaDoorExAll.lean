/- Layer 7: all: what a closure is asked of each, gathered. -/
import Derived.Test.YtbdfehgofnomhaaDoorExSaid
import Derived.Shelf.Abstract
namespace Go.Proofs.YtbdfehgofnomhaaDoor
open Go.RowKit
set_option linter.unusedVariables false

/-- Blocks that stand by stay as they are, and stand by. -/
def Fr (T : Nat → World → Prop) (w w' : World) : Prop := w.heap.size ≤ w'.heap.size ∧ ∀ q, q < w.heap.size → T q w → w'.heap[q]? = w.heap[q]? ∧ T q w'
theorem Fr.refl (T : Nat → World → Prop) (w : World) : Fr T w w := ⟨Nat.le_refl _, fun _ _ h => ⟨rfl, h⟩⟩
theorem Fr.trans {T : Nat → World → Prop} {a b c : World} (h : Fr T a b) (h' : Fr T b c) : Fr T a c := ⟨Nat.le_trans h.1 h'.1, fun q hq ht => by
  obtain ⟨e1, t1⟩ := h.2 q hq ht
  obtain ⟨e2, t2⟩ := h'.2 q (Nat.lt_of_lt_of_le hq h.1) t1
  exact ⟨e2.trans e1, t2⟩⟩
/-- What a closure that is asked of each keeps to: s is what it has gathered, I how that lies in memory, T which blocks stand by. -/
structure Acc {σ : Type} (g : Nat) (cb : Array Value) (w0 : World) (T : Nat → World → Prop) (I : σ → World → Prop) (st : σ → ET → σ × Bool) (μ : σ → Nat) (M : Nat) : Prop where
  low : ∀ s w, I s w → Below w0.heap.size w0 w
  keep : ∀ s w w', I s w → Below w.heap.size w w' → I s w'
  new : ∀ s w o, I s w → T w.heap.size (w.alloc o)
  stay : ∀ q w w', q < w.heap.size → T q w → Below w.heap.size w w' → T q w'
  step : ∀ s t, μ (st s t).1 ≤ μ s + 1
  call : ∀ s w t, I s w → t.In w0 → μ s < M → Calls Tryd.prog g (#[t.val] ++ cb) w fun e w' => e = .returned (.bool (st s t).2) ∧ I (st s t).1 w' ∧ Fr T w w'
  enters : ∀ args w, (callFunc g args).run Tryd.prog w = .ok (.enter g args) w
theorem Acc.fr {σ : Type} {g : Nat} {cb : Array Value} {w0 : World} {T : Nat → World → Prop} {I : σ → World → Prop} {st : σ → ET → σ × Bool} {μ : σ → Nat} {M : Nat} (h : Acc g cb w0 T I st μ M) {w w' : World} (hb : Below w.heap.size w w') : Fr T w w' :=
  ⟨hb.size, fun q hq ht => ⟨hb.block q hq, h.stay q w w' hq ht hb⟩⟩
theorem mu_all {σ : Type} {st : σ → ET → σ × Bool} {μ : σ → Nat} (h : ∀ s t, μ (st s t).1 ≤ μ s + 1) : ∀ (t : ET) (s : σ), μ (allF st s t).1 ≤ μ s + t.size := by
  refine ET.ind fun k op n v f A c ks ih s => ?_
  have hl : ∀ (l : List ET), (∀ t ∈ l, ∀ s, μ (allF st s t).1 ≤ μ s + t.size) → ∀ s, μ (allL st s l).1 ≤ μ s + sizeL l := by
    intro l
    induction l with
    | nil => intro _ s; rw [allL_nil]; show μ s ≤ _; omega
    | cons t ts ihl =>
      intro hh s
      have h1 := hh t (by simp) s
      rw [sizeL_cons]
      by_cases hb : (allF st s t).2 = true
      · rw [allL_yes hb]
        have := ihl (fun t ht => hh t (by simp [ht])) (allF st s t).1
        omega
      · rw [allL_no (by simpa using hb)]
        show μ (allF st s t).1 ≤ _
        omega
  have h0 := h s (.mk k op n v f A c ks)
  rw [size_mk]
  by_cases hb : (st s (.mk k op n v f A c ks)).2 = true
  · rw [allF_yes hb]
    have := hl ks ih (st s (.mk k op n v f A c ks)).1
    show μ (allL st _ ks).1 ≤ _
    omega
  · rw [allF_no (by simpa using hb)]
    show μ (st s (.mk k op n v f A c ks)).1 ≤ _
    omega
set_option maxHeartbeats 4000000 in
theorem all_any {σ : Type} {g : Nat} {cb : Array Value} {w0 : World} {T : Nat → World → Prop} {I : σ → World → Prop} {st : σ → ET → σ × Bool} {μ : σ → Nat} {M : Nat} (h : Acc g cb w0 T I st μ M) :
    ∀ (t : ET) (s : σ) (w : World), t.In w0 → I s w → μ s + t.size ≤ M →
      Calls Tryd.prog 73 #[t.val, .func (.func g) #[] cb] w fun e w' => e = .returned (.bool (allF st s t).2) ∧ I (allF st s t).1 w' ∧ Fr T w w' := by
  have eg := h.enters
  refine ET.ind fun k op n v f A c ks ih s w hin hi hM => ?_
  obtain ⟨t, ht⟩ : ∃ t, t = ET.mk k op n v f A c ks := ⟨_, rfl⟩
  rw [← ht] at hM
  have hok := hin.ok
  have hcap : (ks.length : Nat) ≤ 9223372036854775807 := by have := hok.2.2.2.2.2.2; unfold maxLen at this; omega
  have hM2 : μ s + (sizeL ks + 1) ≤ M := by rw [ht, size_mk] at hM; exact hM
  have htin : t.In w0 := by rw [ht]; exact hin
  have hks : t.ks = ks := by rw [ht]; rfl
  obtain ⟨W, hW⟩ : ∃ W, W = w.alloc (.cells #[.int .i64 k, .string (str op), .int .i64 n, .string (str v), .string (str f), .slice A ks.length c] 47) := ⟨_, rfl⟩
  have bl : Below w.heap.size w W := by rw [hW]; exact (Below.refl _ _).alloc (Nat.le_refl _) _
  have iW := h.keep s w W hi bl
  have tW : T w.heap.size W := by rw [hW]; exact h.new s w _ hi
  have hx : Has W w.heap.size 47 #[.int .i64 k, .string (str op), .int .i64 n, .string (str v), .string (str f), .slice A ks.length c] := by rw [hW]; exact heap_alloc_new w _
  have fW : Fr T w W := h.fr bl
  have hcall := h.call s W t iW htin (by omega)
  rw [show t.val = Value.agg #[.int .i64 k, .string (str op), .int .i64 n, .string (str v), .string (str f), .slice A ks.length c] by rw [ht]; rfl] at hcall
  have hmu := h.step s t
  obtain ⟨sb, hsb⟩ : ∃ x, st s t = x := ⟨_, rfl⟩
  obtain ⟨s1, b⟩ := sb
  rw [hsb] at hcall hmu
  have hHW := Lib.hid hW
  have hHX := Lib.hid hx
  have hHT := Lib.hid tW
  have hHF := Lib.hid fW
  have hHK := Lib.hid hks
  have hHC := Lib.hid hcall
  have hHI := Lib.hid ih
  have hHM := Lib.hid hM2
  have hHin := Lib.hid hin
  have hHmu := Lib.hid hmu
  clear hcall hW hx tW fW iW bl ih hM hM2 hin hks hmu hok
  cases b with
  | false =>
    have e8 : Hid (allF st s t = (s1, false)) := Lib.hid (by rw [allF_no (by rw [hsb]), hsb])
    rw [← ht, e8.out]
    rw [show t.val = Value.agg #[.int .i64 k, .string (str op), .int .i64 n, .string (str v), .string (str f), .slice A ks.length c] by rw [ht]; rfl]
    clear ht hsb htin
    go_enter Tryd.func73, Tryd.ntmps73
    go_wp2_with (go_at_fn g; rw [← hHW.out]; refine hHC.out.mono ?_; rintro e w1 ⟨rfl, i1, f1⟩)
    go_ret
    exact ⟨rfl, i1, hHF.out.trans f1⟩
  | true =>
    obtain ⟨R, hR⟩ : ∃ R, allF st s t = R := ⟨_, rfl⟩
    have e8 : Hid (allL st s1 ks = R) := Lib.hid (by rw [← hR, allF_yes (by rw [hsb]), hsb, hHK.out])
    rw [← ht, hR]
    rw [show t.val = Value.agg #[.int .i64 k, .string (str op), .int .i64 n, .string (str v), .string (str f), .slice A ks.length c] by rw [ht]; rfl]
    clear ht hsb htin hR
    go_enter Tryd.func73, Tryd.ntmps73
    have hq : w.heap.size < W.heap.size := hHX.out.lt
    go_wp2_with (go_at_fn g; rw [← hHW.out]; refine hHC.out.mono ?_; rintro e w1 ⟨rfl, i1, f1⟩; have c5 : w1.cell? ⟨w.heap.size, 5, none⟩ = some (.slice A ks.length c) := Has.cell ((f1.2 _ hq hHT.out).1.trans hHX.out) 5)
    have hF1 := Lib.hid (hHF.out.trans f1)
    clear c5 f1 hHX hHT hHF hHC
    go_loopw [14] (fun i wr => ∃ j : Nat, j ≤ ks.length ∧ i = .int .i64 j ∧ ∃ s' : σ, I s' wr ∧ allL st s' (ks.drop j) = R ∧ μ s' + sizeL (ks.drop j) ≤ M ∧ Fr T w wr) (fun i _ => ks.length - (intOf i).toNat)
    case atStart => exact ⟨0, Nat.zero_le _, rfl, s1, i1, e8.out, by have := hHM.out; have := hHmu.out; simp; omega, hF1.out⟩
    case round =>
      obtain ⟨j, hj, rfl, s', i', hR', hm', f'⟩ := hrel
      have hRR := Lib.hid hR'
      have hMM := Lib.hid hm'
      have hFF := Lib.hid f'
      have hII := Lib.hid i'
      clear hR' hm' f' i'
      by_cases hlt : j < ks.length
      · obtain ⟨⟨b, off, rfl, g0, g1, g2, g3, g4, g5⟩, hkin⟩ := (hHin.out.kids j hlt)
        have hlow := h.low s' wr hII.out
        have gg : ∀ o v, w0.cell? ⟨b, o, none⟩ = some v → wr.cell? ⟨b, o, none⟩ = some v := fun o v hv => (hlow.cell (p := ⟨b, o, none⟩) (World.block_lt_of_cell? _ _ hv)).trans hv
        replace g0 := gg _ _ g0
        replace g1 := gg _ _ g1
        replace g2 := gg _ _ g2
        replace g3 := gg _ _ g3
        replace g4 := gg _ _ g4
        replace g5 := gg _ _ g5
        clear gg hlow
        have hd := drop_at hlt
        obtain ⟨kid, hkid⟩ : ∃ x, ks[j] = x := ⟨_, rfl⟩
        have hmem : kid ∈ ks := by rw [← hkid]; exact List.getElem_mem _
        rw [hkid] at g0 g1 g2 g3 g4 g5 hkin hd
        obtain ⟨W2, hW2⟩ : ∃ W2, W2 = wr.alloc (.cells #[.int .i64 kid.k, .string (str kid.op), .int .i64 kid.n, .string (str kid.v), .string (str kid.f), .slice kid.A kid.ks.length kid.c] 47) := ⟨_, rfl⟩
        have bl2 : Below wr.heap.size wr W2 := by rw [hW2]; exact (Below.refl _ _).alloc (Nat.le_refl _) _
        have i2 := h.keep s' wr W2 hII.out bl2
        have f2 := hFF.out.trans (h.fr bl2)
        have hm2 := hMM.out
        rw [hd, sizeL_cons] at hm2
        have hcl := hHI.out kid hmem s' W2 hkin i2 (by omega)
        rw [show kid.val = Value.agg #[.int .i64 kid.k, .string (str kid.op), .int .i64 kid.n, .string (str kid.v), .string (str kid.f), .slice kid.A kid.ks.length kid.c] from rfl] at hcl
        have hmu2 := mu_all (st := st) h.step kid s'
        obtain ⟨sb, hsb⟩ : ∃ x, allF st s' kid = x := ⟨_, rfl⟩
        obtain ⟨s2, b2⟩ := sb
        rw [hsb] at hcl hmu2
        have hCL := Lib.hid hcl
        have hSB := Lib.hid hsb
        have hD := Lib.hid hd
        have hW2h := Lib.hid hW2
        have hF2 := Lib.hid f2
        have hM2h := Lib.hid hm2
        have hMu2 := Lib.hid hmu2
        clear hcl hsb hd hW2 f2 i2 bl2 hkin hkid hmem hm2 hmu2
        cases b2 with
        | false =>
          have hE : Hid (R = (s2, false)) := Lib.hid (by rw [← hRR.out, hD.out, allL_no (by rw [hSB.out]), hSB.out])
          go_wp2_with (go_at_call 73; rw [← hW2h.out]; refine hCL.out.mono ?_; rintro e w3 ⟨rfl, i3, f3⟩)
          go_ret
          rw [hE.out]
          exact ⟨rfl, i3, hF2.out.trans f3⟩
        | true =>
          have hE : Hid (allL st s2 (ks.drop (j + 1)) = R) := Lib.hid (by rw [← hRR.out, hD.out, allL_yes (by rw [hSB.out]), hSB.out])
          go_wp2_with (go_at_call 73; rw [← hW2h.out]; refine hCL.out.mono ?_; rintro e w3 ⟨rfl, i3, f3⟩)
          go_roundw
          case rel => exact ⟨j + 1, by omega, by go_num, s2, i3, hE.out, by have := hM2h.out; have := hMu2.out; simp at this ⊢; omega, hF2.out.trans f3⟩
          case measure => simp [intOf]; omega
      · have hE : Hid (R = (s', true)) := Lib.hid (by rw [← hRR.out, List.drop_eq_nil_of_le (by omega), allL_nil])
        go_wp2
        go_ret
        rw [hE.out]
        exact ⟨rfl, hII.out, hFF.out⟩
end Go.Proofs.YtbdfehgofnomhaaDoor
