/- Layer 7: tree, of bytes. -/
import Derived.Test.YtbhjimlikffalaaDoorExCut
namespace Go.Proofs.YtbhjimlikffalaaDoor
open Go.RowKit
set_option linter.unusedVariables false

set_option maxRecDepth 100000 in
set_option maxHeartbeats 8000000 in
theorem tree_all (len : Nat) (zs : List Int) (hz : ∀ n ∈ zs, 0 ≤ n ∧ n ≤ 255) : ∃ T0 : ET, ∀ (k n : Int) (op v f : Nm) (A : Option Addr) (m c : Nat) (x : Option Addr) (cap : Nat) (w : World) (hr : IsRow .u8 w x len cap zs),
    Calls Tryd.prog 7 #[.agg #[.int .i64 k, .string (str op), .int .i64 n, .string (str v), .string (str f), .slice A m c, .bool true, .slice x len cap]] w fun e w' => ∃ t : ET, e = .returned (.agg (cs1 t)) ∧ t.er = T0 ∧ (rightT t = true ∧ typT t = 2 ∧ t.size ≤ 63) ∧ Nw w.heap.size w' t ∧ Below w.heap.size w w' := by
  obtain ⟨T0, i2, htr⟩ := tru_at3 (bs := zs.take len) (fun n hn => hz n (List.mem_of_mem_take hn)) 0
  refine ⟨T0, fun k n op v f A m c x cap w hr => ?_⟩
  obtain ⟨W, hW⟩ : ∃ W, (w.alloc (.cells #[.int .i64 k, .string (str op), .int .i64 n, .string (str v), .string (str f), .slice A m c, .bool true, .slice x len cap] 27)).alloc (.cells zer 24) = W := ⟨_, rfl⟩
  have b0 : Below w.heap.size w W := by rw [← hW]; exact ((Below.refl _ _).alloc (Nat.le_refl _) _).alloc (by simp) _
  have zW : W.heap.size = w.heap.size + 2 := by rw [← hW]; simp
  have hq : Has W (w.heap.size + 1) 24 zer := by rw [← hW]; exact has_at rfl (by simp)
  obtain ⟨hrd, hbd⟩ := rdr_new W x len cap
  obtain ⟨W2, hW2⟩ : ∃ W2, ((W.alloc (.cells vCs 9)).alloc (.cells oCs 9)).alloc (.cells (fCs x len cap W.heap.size (W.heap.size + 1)) 67) = W2 := ⟨_, rfl⟩
  rw [hW2] at hrd hbd
  have b2 := b0.trans (hbd.mono b0.size)
  obtain ⟨hC, hF⟩ := hrd.start (hr.below b2) hz (fun a ha h0 => by have := row_blocks hr a ha h0; omega)
  have hcall := htr _ _ _ _ _ _ hC _ W2 hF
  have hq2 := hq.below hbd hq.lt
  rw [zW] at hcall
  have HC : Hid (Calls Tryd.prog 41 #[.pointer (some ⟨w.heap.size + 2 + 2, 0, none⟩), .string { data := #[99] }, .string { data := #[67] }, .int .i64 3] W2 fun e w' => ∃ t : ET, e = .returned (.agg (cs1 t)) ∧ (t.er = T0 ∧ rightT t = true ∧ typT t = 2 ∧ t.size ≤ 63) ∧ Nw W2.heap.size w' t ∧ FrP (w.heap.size + 2 + 2) W2 w' ∧ Has w' (w.heap.size + 1) 24 zer) := Lib.hid (by
    refine hcall.mono ?_
    rintro e w' ⟨t, he, her, hg, hn, -, hf⟩
    exact ⟨t, he, ⟨her, hg⟩, hn, hf, hf.has hq2 (by omega)⟩)
  have HB := Lib.hid b2
  have HZ := Lib.hid zW
  have HS : Hid (W2.heap.size = w.heap.size + 5) := Lib.hid (by rw [← hW2]; simp [zW])
  have HW2 : Hid (((((w.alloc (.cells #[.int .i64 k, .string (str op), .int .i64 n, .string (str v), .string (str f), .slice A m c, .bool true, .slice x len cap] 27)).alloc (.cells #[.int .i64 0, .string { data := #[] }, .int .i64 0, .string { data := #[] }, .string { data := #[] }, .slice none 0 0] 24)).alloc (.cells #[.string { data := #[97] }, .string { data := #[98] }] 9)).alloc (.cells #[.string { data := #[65] }, .string { data := #[66] }] 9)).alloc (.cells #[.slice x len cap, .int .i64 0, .slice (some ⟨w.heap.size + 1 + 1, 0, none⟩) 2 2, .slice (some ⟨w.heap.size + 1 + 1 + 1, 0, none⟩) 2 2] 67) = W2) := Lib.hid (by rw [← hW2, ← hW]; simp [vCs, oCs, fCs, zer])
  clear hcall htr hC hF hrd hbd hq hq2 hr hz b0 b2 hW hW2 zW
  go_enter Tryd.func7, Tryd.ntmps7
  go_wp2_with fail
  rw [HW2.out]
  refine HC.out.mono ?_
  rintro e w3 ⟨t, rfl, hg, hn, hf, hz3⟩
  simp only [cs1]
  have zw := HZ.out
  have z2 := hf.size
  have bl := HB.out.size
  have hW3 : W2.heap.size ≤ w3.heap.size := hf.size
  have low := hf.low (B := w.heap.size) (by omega) bl
  have bb := HB.out.trans low
  have hx := set6_has hz3 (.int .i64 t.k) (.string (str t.op)) (.int .i64 t.n) (.string (str t.v)) (.string (str t.f)) (.slice t.A t.ks.length t.c)
  have hb := bb.trans (set6_below (w := w3) (q := w.heap.size + 1) (B := w.heap.size) (by omega) (.int .i64 t.k) (.string (str t.op)) (.int .i64 t.n) (.string (str t.v)) (.string (str t.f)) (.slice t.A t.ks.length t.c))
  have hnn := hn.set (N' := w.heap.size) (q := w.heap.size + 1) bl (by have := HS.out; omega) (.int .i64 t.k) (.string (str t.op)) (.int .i64 t.n) (.string (str t.v)) (.string (str t.f)) (.slice t.A t.ks.length t.c)
  have HX := Lib.hid (And.intro hx (And.intro hb hnn))
  have HG := Lib.hid hg
  obtain ⟨z0, z1, z2, z3, z4, z5⟩ := zer_six hz3
  obtain ⟨f0, f1, f2, f3, f4, f5⟩ := six_free hz3
  clear hx hb hnn hn hf hz3 hg zw bl hW3 low bb
  go_wp2_with fail
  rw [set6_fold]
  clear z0 z1 z2 z3 z4 z5 f0 f1 f2 f3 f4 f5
  generalize set6 w3 (w.heap.size + 1) (.int .i64 t.k) (.string (str t.op)) (.int .i64 t.n) (.string (str t.v)) (.string (str t.f)) (.slice t.A t.ks.length t.c) = X at HX ⊢
  have y0 : X.cell? ⟨w.heap.size + 1, 0, none⟩ = some (.int .i64 t.k) := HX.out.1.cell 0
  have y1 : X.cell? ⟨w.heap.size + 1, 1, none⟩ = some (.string (str t.op)) := HX.out.1.cell 1
  have y2 : X.cell? ⟨w.heap.size + 1, 2, none⟩ = some (.int .i64 t.n) := HX.out.1.cell 2
  have y3 : X.cell? ⟨w.heap.size + 1, 3, none⟩ = some (.string (str t.v)) := HX.out.1.cell 3
  have y4 : X.cell? ⟨w.heap.size + 1, 4, none⟩ = some (.string (str t.f)) := HX.out.1.cell 4
  have y5 : X.cell? ⟨w.heap.size + 1, 5, none⟩ = some (.slice t.A t.ks.length t.c) := HX.out.1.cell 5
  refine bodyPost_ret (v := .agg (cs1 t)) (by simp [results, Tryd.results7, go_sem, y0, y1, y2, y3, y4, y5]) rfl ?_
  exact ⟨t, rfl, HG.out.1, HG.out.2, HX.out.2.2, HX.out.2.1⟩
theorem tree_any (k n : Int) (op v f : Nm) (A : Option Addr) (m c : Nat) (x : Option Addr) (len cap : Nat) (zs : List Int) (w : World) (hr : IsRow .u8 w x len cap zs) (hz : ∀ n ∈ zs, 0 ≤ n ∧ n ≤ 255) :
    Calls Tryd.prog 7 #[.agg #[.int .i64 k, .string (str op), .int .i64 n, .string (str v), .string (str f), .slice A m c, .bool true, .slice x len cap]] w fun e w' => ∃ t : ET, e = .returned (.agg (cs1 t)) ∧ (rightT t = true ∧ typT t = 2 ∧ t.size ≤ 63) ∧ Nw w.heap.size w' t ∧ Below w.heap.size w w' := by
  obtain ⟨T0, h⟩ := tree_all len zs hz
  refine (h k n op v f A m c x cap w hr).mono ?_
  rintro e w' ⟨t, h1, -, h2⟩
  exact ⟨t, h1, h2⟩
end Go.Proofs.YtbhjimlikffalaaDoor
