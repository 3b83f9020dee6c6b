/- Layer 9: a query that bytes make. -/
import Derived.Test.YtbdfehgofnomhaaDoorQPaItF
import Derived.Test.YtbdfehgofnomhaaDoorQEx
import Derived.Test.YtbdfehgofnomhaaDoorScRowDef
import Derived.Test.YtbdfehgofnomhaaDoorQOu
import Derived.Test.YtbdfehgofnomhaaDoorQPaItem
import Derived.Test.YtbdfehgofnomhaaDoorQMe
namespace Go.Proofs.YtbdfehgofnomhaaDoor
open Go.RowKit
set_option linter.unusedVariables false

/-- What a query that bytes make is. -/
def AskC (w : World) (e : Ending) (w' : World) : Prop := ∃ (l : List IT) (B : Option Addr) (cap : Nat) (n : Int) (y : Nm), e = .returned (.agg #[.slice B l.length cap, .int .i64 n, .string (str y)]) ∧ okS B l.length cap ∧ (rightIs l = true ∧ wtIs l ≤ 10000 ∧ Its (hidL w.heap.size w') B l) ∧ (0 ≤ n ∧ n ≤ 11) ∧ (y = [] ∨ y = [107]) ∧ Below w.heap.size w w'
theorem Its.hidL {N : Nat} {w : World} {A : Option Addr} {l : List IT} (h : Its (hidL N w) A l) : Its w A l := h.imp fun _ _ hv => (hidL_cell hv).2
theorem plies_row {W : World} {x : Option Addr} {len cap : Nat} {zs : List Int} (h : IsRow .u8 W x len cap zs) : Lies W x ((zs.take len).map (Value.int .u8)) := fun i u hu => by
  have hi : i < len ∧ i < zs.length := by
    rcases Nat.lt_or_ge i ((zs.take len).map (Value.int .u8)).length with h1 | h1
    · simp at h1; omega
    · rw [List.getElem?_eq_none h1] at hu; cases hu
  obtain ⟨y, e, hy⟩ := h.2.2.2 i hi.2
  refine ⟨y, e, ?_⟩
  rw [List.getElem?_map, List.getElem?_take, if_pos hi.1, List.getElem?_eq_getElem hi.2] at hu
  rw [hy, List.getD_eq_getElem?_getD, List.getElem?_eq_getElem hi.2]
  exact hu
theorem FrI.low {wp w w' : World} {p B : Nat} {K K' : PK} (h : FrI p K w K' w') (hR : Rd wp p K w) (hB : B ≤ p) : Below B w w' :=
  ⟨h.os, h.tape, h.output, h.size, fun q hq => h.block q (by have := hR.lt; omega) (by
    cases e : rdOwn p K q with
    | false => rfl
    | true => have := (hR.own_lt e).1; omega)⟩
def K0 (A : Option Addr) (n c : Nat) : PK := { L := A, V := none, O := none, n := n, c := c, m := 0, cv := 0, co := 0, M := 0 }
/-- The reader, at the beginning. -/
theorem rd_new {w : World} {A : Option Addr} {n c : Nat} {zs : List Int} (hr : IsRow .u8 w A n c zs) (hz : ∀ z ∈ zs, 0 ≤ z ∧ z ≤ 255) (W : World) (hb : Below w.heap.size w W) (o : Obj) (ho : o = .cells #[.slice A n c, .int .i64 0, .slice none 0 0, .slice none 0 0, .int .i64 0] 70) :
    Rd w W.heap.size (K0 A n c) (W.alloc o) := by
  subst ho
  have hl : (zs.take n).length = n := by rw [List.length_take]; have := hr.1; have := hr.2.1; omega
  exact ⟨hb.size, hb.alloc hb.size _, ⟨0, heap_alloc_new W _, Nat.zero_le _⟩, ⟨zs.take n, hl, by show n ≤ _; have := hr.2.2.1; have := hr.1; have := hr.2.1; unfold maxLen at *; omega, fun x hx => hz x (List.mem_of_mem_take hx), plies_row hr⟩,
    ⟨[], World.ownsRow_nil _ _ _ 1, fun x hx => by cases hx⟩, ⟨[], World.ownsRow_nil _ _ _ 1⟩, (fun q hq => by cases hq), Int.le_refl _⟩
set_option maxRecDepth 100000 in
set_option maxHeartbeats 8000000 in
theorem asked_any (hI : ItemsC 1 3 516 36 7000) (A : Option Addr) (n c : Nat) (zs : List Int) (w : World) (hr : IsRow .u8 w A n c zs) (hz : ∀ z ∈ zs, 0 ≤ z ∧ z ≤ 255) :
    Calls Tryd.prog 18 #[.slice A n c] w fun e w' => AskC w e w' := by
  obtain ⟨W0, hW0⟩ : ∃ W0, W0 = w.alloc (.cells #[.slice none 0 0, .int .i64 0, .string { data := #[] }] 24) := ⟨_, rfl⟩
  have b0 : Below w.heap.size w W0 := by rw [hW0]; exact (Below.refl _ _).alloc (Nat.le_refl _) _
  have z0 : W0.heap.size = w.heap.size + 1 := by rw [hW0]; simp
  have hq2 : Has W0 w.heap.size 24 #[.slice none 0 0, .int .i64 0, .string { data := #[] }] := by rw [hW0]; exact heap_alloc_new w _
  have hR := rd_new hr hz W0 b0 _ rfl
  rw [z0] at hR
  obtain ⟨W1, hW1⟩ : ∃ W1, W0.alloc (.cells #[.slice A n c, .int .i64 0, .slice none 0 0, .slice none 0 0, .int .i64 0] 70) = W1 := ⟨_, rfl⟩
  rw [hW1] at hR
  have b1 : Below w.heap.size w W1 := by rw [← hW1]; exact b0.alloc (by omega) _
  have z1 : W1.heap.size = w.heap.size + 1 + 1 := by rw [← hW1, alloc_size, z0]
  have hq2' : Has W1 w.heap.size 24 #[.slice none 0 0, .int .i64 0, .string { data := #[] }] := by rw [← hW1]; exact hq2.below (step1 _ _) hq2.lt
  obtain ⟨bs, vs, os, hC⟩ := hR.pdc
  have HN := Lib.hid (next_p hC (w.heap.size + 1) W1 hR.pd)
  have HN2 := Lib.hid (fun (u : World) (h : Pd (hidB (w.heap.size + 1) W1) (w.heap.size + 1) (K0 A n c) u) => next_p hC (w.heap.size + 1) u h)
  have HW : Hid ((w.alloc (.cells #[.slice none 0 0, .int .i64 0, .string { data := #[] }] 24)).alloc (.cells #[.slice A n c, .int .i64 0, .slice none 0 0, .slice none 0 0, .int .i64 0] 70) = W1) := Lib.hid (by rw [← hW0]; exact hW1)
  have HR := Lib.hid hR
  have HQ := Lib.hid hq2'
  have HB := Lib.hid b1
  have HI := Lib.hid hI
  have HZ := Lib.hid z1
  clear hW0 b0 z0 hq2 hR hW1 b1 hq2' hC hI hr hz z1
  go_enter Tryd.func18, Tryd.ntmps18
  go_wp2_with fail
  rw [HW.out]
  refine HN.out.mono ?_
  rintro e w2 ⟨x, rfl, hxb, fd2, fr2⟩
  have h22 := fr2.has HQ.out (by omega)
  have HX := Lib.hid hxb
  have HD2 := Lib.hid fd2
  have HF2 := Lib.hid fr2
  have HQ2 := Lib.hid h22
  clear HN HQ fd2 fr2 h22
  have m12 := tmod_of hxb.1 12
  go_upto_region 3 with fail
  obtain ⟨X3, hX3⟩ : ∃ X3, w2.alloc (.cells #[.slice none 0 0, .int .i64 (x % 12), .string { data := #[] }] 24) = X3 := ⟨_, rfl⟩
  have b3 : Below w2.heap.size w2 X3 := by rw [← hX3]; exact step1 _ _
  have h3q : Has X3 w2.heap.size 24 #[.slice none 0 0, .int .i64 (x % 12), .string (str [])] := by rw [← hX3]; exact has_at rfl rfl
  rw [hX3]
  have hqs : W1.heap.size ≤ w2.heap.size := HF2.out.size
  obtain ⟨q, hq⟩ : ∃ q, w2.heap.size = q := ⟨_, rfl⟩
  have h32 := HQ2.out.below b3 HQ2.out.lt
  have d3 := HD2.out.below b3
  have r3 := HF2.out.trans (FrP.below HD2.out.lt b3)
  rw [hq] at h3q hqs ⊢
  have HH3Q := Lib.hid h3q
  have HH32 := Lib.hid h32
  have HD3 := Lib.hid d3
  have HF3 := Lib.hid r3
  have HQL := Lib.hid hqs
  have HC3 := Lib.hid (HN2.out X3 d3)
  clear hX3 b3 h3q h32 d3 r3 hq hqs m12 HD2 HF2 HQ2
  go_wp2_with fail
  refine HC3.out.mono ?_
  rintro e w4 ⟨y, rfl, hyb, fd4, fr4⟩
  have hz1 := HZ.out
  have hqs := HQL.out
  have h4q := fr4.has HH3Q.out (by omega)
  have h42 := fr4.has HH32.out (by omega)
  have hF4 := HF3.out.trans fr4
  clear fr4
  have hk : y % 2 = 0 ∨ y % 2 = 1 := by omega
  rcases hk with hk | hk
  · have m2 : y.tmod 2 = 0 := by rw [tmod_of hyb.1]; exact hk
    obtain ⟨X5, hX5⟩ : ∃ X5, w4.setCell ⟨q, 2, none⟩ (.string { data := #[107] }) = X5 := ⟨_, rfl⟩
    have b5 : Below W1.heap.size w4 X5 := by rw [← hX5]; exact set_belowN (by omega) _
    have h5q : Has X5 q 24 #[.slice none 0 0, .int .i64 (x % 12), .string (str [107])] := by rw [← hX5]; exact h4q.put 2 (.string { data := #[107] })
    have h52 : Has X5 w.heap.size 24 zer3 := by rw [← hX5]; exact hasS h42 _ _ (by omega)
    have f2 : w4.frozen? ⟨q, 2, none⟩ = false := h4q.free 2
    have y2 : w4.cell? ⟨q, 2, none⟩ = some (.string { data := #[] }) := h4q.cell 2
    have d5 := fd4.belowB b5 (by omega) (Nat.le_of_eq (hid_size _ _))
    have r5 := hF4.belowB (by omega) b5
    have R5 : Rd w (w.heap.size + 1) (K0 A n c) X5 := HR.out.fr (M := 0) d5 r5 (Int.le_refl _)
    have HC := Lib.hid (HI.out w (w.heap.size + 1) (K0 A n c) X5 R5 ⟨Int.le_refl _, by show (0 : Int) ≤ 7000; omega⟩)
    have hlow : Below w.heap.size w X5 := HB.out.trans ((r5.low (Nat.le_succ _) HB.out.size))
    have HL := Lib.hid hlow
    have HR5 := Lib.hid R5
    have H5Q := Lib.hid h5q
    have H52 := Lib.hid h52
    have HQ5 := Lib.hid (show q < X5.heap.size from h5q.lt)
    clear d5 r5 R5 hlow h5q h52 b5 fd4 hF4 h4q h42
    go_upto_region 5 with fail
    clear m2 hX5 f2 y2
    go_wp2_with fail
    refine HC.out.mono ?_
    rintro e w6 ⟨B, cap, l, K', rfl, okB, gl, R6, F6, -⟩
    have nq : rdOwn (w.heap.size + 1) (K0 A n c) q = false := HR.out.new HQL.out
    have n2 : rdOwn (w.heap.size + 1) (K0 A n c) w.heap.size = false := rdOwn_not.2 ⟨by omega, (fun h => by cases h), (fun h => by cases h)⟩
    have h6q := (F6.has H5Q.out nq).1
    have h62 := (F6.has H52.out n2).1
    have b6 : Below w.heap.size X5 w6 := F6.low HR5.out (Nat.le_succ _)
    have f0 : w6.frozen? ⟨q, 0, none⟩ = false := h6q.free 0
    have y0 : w6.cell? ⟨q, 0, none⟩ = some (.slice none 0 0) := h6q.cell 0
    obtain ⟨X7, hX7⟩ : ∃ X7, w6.setCell ⟨q, 0, none⟩ (.slice B l.length cap) = X7 := ⟨_, rfl⟩
    have b7 : Below w.heap.size w6 X7 := by rw [← hX7]; exact set_belowN (by omega) _
    have h7q : Has X7 q 24 #[.slice B l.length cap, .int .i64 (x % 12), .string (str [107])] := by rw [← hX7]; exact h6q.put 0 (.slice B l.length cap)
    have h72 : Has X7 w.heap.size 24 zer3 := by rw [← hX7]; exact hasS h62 _ _ (by omega)
    have bz : Below w.heap.size X7 (set3 X7 w.heap.size (.slice B l.length cap) (.int .i64 (x % 12)) (.string (str [107]))) := set3_below (Nat.le_refl _) _ _ _
    have hz := set3_has h72 (.slice B l.length cap) (.int .i64 (x % 12)) (.string (str [107]))
    have hit : Its (hidL w.heap.size (set3 X7 w.heap.size (.slice B l.length cap) (.int .i64 (x % 12)) (.string (str [107])))) B l := gl.2.2.imp fun a v hv => by
      obtain ⟨g1, g2⟩ := hidS_cell hv
      obtain ⟨g3, g4⟩ := nwS_not.1 g1
      have := HQ5.out
      refine (cell_block ((hidL_block _ (by have := HL.out.size; omega)).trans ((set3_same _ _ _ (by have := HL.out.size; omega)).trans ?_))).trans g2
      rw [← hX7]
      exact setCell_ne _ (by omega)
    have HFIN : Hid (AskC w (.returned (.agg #[.slice B l.length cap, .int .i64 (x % 12), .string (str [107])])) (set3 X7 w.heap.size (.slice B l.length cap) (.int .i64 (x % 12)) (.string (str [107])))) := Lib.hid ⟨l, B, cap, x % 12, [107], rfl, okB, ⟨gl.1, by have := gl.2.1; omega, hit⟩, by omega, .inr rfl, ((HL.out.trans (b6.mono (Nat.le_refl _))).trans b7).trans bz⟩
    have HZ7 := Lib.hid hz
    obtain ⟨z0, z1, z2⟩ : X7.cell? ⟨q, 0, none⟩ = some (.slice B l.length cap) ∧ X7.cell? ⟨q, 1, none⟩ = some (.int .i64 (x % 12)) ∧ X7.cell? ⟨q, 2, none⟩ = some (.string (str [107])) := ⟨h7q.cell 0, h7q.cell 1, h7q.cell 2⟩
    obtain ⟨⟨v0, v1, v2⟩, ⟨u0, u1, u2⟩, nlt⟩ := zer3_facts h72
    clear b6 b7 bz h6q h62 h7q h72 hz hit okB gl R6 F6 nq n2
    go_upto_region 6 with fail
    clear hX7 f0 y0
    go_wp2_with fail
    change bodyPost _ _ _ _ _ (set3 X7 w.heap.size (.slice B l.length cap) (.int .i64 (x % 12)) (.string (str [107])))
    generalize set3 X7 w.heap.size (.slice B l.length cap) (.int .i64 (x % 12)) (.string (str [107])) = Z at HFIN HZ7 ⊢
    clear z0 z1 z2 v0 v1 v2 u0 u1 u2 nlt
    have z0 := HZ7.out.cell 0
    have z1 := HZ7.out.cell 1
    have z2 := HZ7.out.cell 2
    refine bodyPost_ret (v := .agg #[.slice B l.length cap, .int .i64 (x % 12), .string (str [107])]) (by simp [results, Tryd.results18, go_sem, z0, z1, z2]) rfl ?_
    exact HFIN.out
  · have m2 : y.tmod 2 = 1 := by rw [tmod_of hyb.1]; exact hk
    obtain ⟨X5, hX5⟩ : ∃ X5, w4 = X5 := ⟨_, rfl⟩
    have b5 : Below W1.heap.size w4 X5 := by rw [← hX5]; exact Below.refl _ _
    have h5q : Has X5 q 24 #[.slice none 0 0, .int .i64 (x % 12), .string (str [])] := by rw [← hX5]; exact h4q
    have h52 : Has X5 w.heap.size 24 zer3 := by rw [← hX5]; exact h42
    have d5 := fd4.belowB b5 (by omega) (Nat.le_of_eq (hid_size _ _))
    have r5 := hF4.belowB (by omega) b5
    have R5 : Rd w (w.heap.size + 1) (K0 A n c) X5 := HR.out.fr (M := 0) d5 r5 (Int.le_refl _)
    have HC := Lib.hid (HI.out w (w.heap.size + 1) (K0 A n c) X5 R5 ⟨Int.le_refl _, by show (0 : Int) ≤ 7000; omega⟩)
    have hlow : Below w.heap.size w X5 := HB.out.trans ((r5.low (Nat.le_succ _) HB.out.size))
    have HL := Lib.hid hlow
    have HR5 := Lib.hid R5
    have H5Q := Lib.hid h5q
    have H52 := Lib.hid h52
    have HQ5 := Lib.hid (show q < X5.heap.size from h5q.lt)
    clear d5 r5 R5 hlow h5q h52 b5 fd4 hF4 h4q h42
    go_upto_region 5 with fail
    clear m2 hX5
    go_wp2_with fail
    refine HC.out.mono ?_
    rintro e w6 ⟨B, cap, l, K', rfl, okB, gl, R6, F6, -⟩
    have nq : rdOwn (w.heap.size + 1) (K0 A n c) q = false := HR.out.new HQL.out
    have n2 : rdOwn (w.heap.size + 1) (K0 A n c) w.heap.size = false := rdOwn_not.2 ⟨by omega, (fun h => by cases h), (fun h => by cases h)⟩
    have h6q := (F6.has H5Q.out nq).1
    have h62 := (F6.has H52.out n2).1
    have b6 : Below w.heap.size X5 w6 := F6.low HR5.out (Nat.le_succ _)
    have f0 : w6.frozen? ⟨q, 0, none⟩ = false := h6q.free 0
    have y0 : w6.cell? ⟨q, 0, none⟩ = some (.slice none 0 0) := h6q.cell 0
    obtain ⟨X7, hX7⟩ : ∃ X7, w6.setCell ⟨q, 0, none⟩ (.slice B l.length cap) = X7 := ⟨_, rfl⟩
    have b7 : Below w.heap.size w6 X7 := by rw [← hX7]; exact set_belowN (by omega) _
    have h7q : Has X7 q 24 #[.slice B l.length cap, .int .i64 (x % 12), .string (str [])] := by rw [← hX7]; exact h6q.put 0 (.slice B l.length cap)
    have h72 : Has X7 w.heap.size 24 zer3 := by rw [← hX7]; exact hasS h62 _ _ (by omega)
    have bz : Below w.heap.size X7 (set3 X7 w.heap.size (.slice B l.length cap) (.int .i64 (x % 12)) (.string (str []))) := set3_below (Nat.le_refl _) _ _ _
    have hz := set3_has h72 (.slice B l.length cap) (.int .i64 (x % 12)) (.string (str []))
    have hit : Its (hidL w.heap.size (set3 X7 w.heap.size (.slice B l.length cap) (.int .i64 (x % 12)) (.string (str [])))) B l := gl.2.2.imp fun a v hv => by
      obtain ⟨g1, g2⟩ := hidS_cell hv
      obtain ⟨g3, g4⟩ := nwS_not.1 g1
      have := HQ5.out
      refine (cell_block ((hidL_block _ (by have := HL.out.size; omega)).trans ((set3_same _ _ _ (by have := HL.out.size; omega)).trans ?_))).trans g2
      rw [← hX7]
      exact setCell_ne _ (by omega)
    have HFIN : Hid (AskC w (.returned (.agg #[.slice B l.length cap, .int .i64 (x % 12), .string (str [])])) (set3 X7 w.heap.size (.slice B l.length cap) (.int .i64 (x % 12)) (.string (str [])))) := Lib.hid ⟨l, B, cap, x % 12, [], rfl, okB, ⟨gl.1, by have := gl.2.1; omega, hit⟩, by omega, .inl rfl, ((HL.out.trans (b6.mono (Nat.le_refl _))).trans b7).trans bz⟩
    have HZ7 := Lib.hid hz
    obtain ⟨z0, z1, z2⟩ : X7.cell? ⟨q, 0, none⟩ = some (.slice B l.length cap) ∧ X7.cell? ⟨q, 1, none⟩ = some (.int .i64 (x % 12)) ∧ X7.cell? ⟨q, 2, none⟩ = some (.string (str [])) := ⟨h7q.cell 0, h7q.cell 1, h7q.cell 2⟩
    obtain ⟨⟨v0, v1, v2⟩, ⟨u0, u1, u2⟩, nlt⟩ := zer3_facts h72
    clear b6 b7 bz h6q h62 h7q h72 hz hit okB gl R6 F6 nq n2
    go_upto_region 6 with fail
    clear hX7 f0 y0
    go_wp2_with fail
    change bodyPost _ _ _ _ _ (set3 X7 w.heap.size (.slice B l.length cap) (.int .i64 (x % 12)) (.string (str [])))
    generalize set3 X7 w.heap.size (.slice B l.length cap) (.int .i64 (x % 12)) (.string (str [])) = Z at HFIN HZ7 ⊢
    clear z0 z1 z2 v0 v1 v2 u0 u1 u2 nlt
    have z0 := HZ7.out.cell 0
    have z1 := HZ7.out.cell 1
    have z2 := HZ7.out.cell 2
    refine bodyPost_ret (v := .agg #[.slice B l.length cap, .int .i64 (x % 12), .string (str [])]) (by simp [results, Tryd.results18, go_sem, z0, z1, z2]) rfl ?_
    exact HFIN.out
end Go.Proofs.YtbdfehgofnomhaaDoor
/- Layer 9: items that bytes make: the walk. -/
namespace Go.Proofs.YtbdfehgofnomhaaDoor
open Go.RowKit
set_option linter.unusedVariables false

set_option maxRecDepth 100000 in
set_option maxHeartbeats 16000000 in
theorem items_of (deep most : Int) (hmost : most = 2 ∨ most = 3) (W m : Nat) (hW : 16 ≤ W) (hm : 1 ≤ m) (B B1 : Int) (hB : B + 4 * m ≤ B1) (h1 : ItemC deep W m B1) (h0 : ItemC 0 16 1 B1) : ItemsC deep most (4 * W) (4 * m) B := by
  intro wp p K w h hM
  have HI := Lib.hid (h1 wp p K w false h ⟨hM.1, by omega⟩)
  have HI1 := Lib.hid h1
  have HI0 := Lib.hid h0
  have HWP := Lib.hid h.bel.size
  have HM := Lib.hid hM
  have HMM := Lib.hid (And.intro hW (And.intro hm hB))
  have HMO := Lib.hid hmost
  clear h1 h0 h hM hW hm hB hmost
  go_enter Tryd.func33, Tryd.ntmps33
  go_wp2_with fail
  refine HI.out.mono ?_
  rintro e w1 ⟨t, K1, rfl, hx, hr, hf, hMM⟩
  have HO := Lib.hid (OutI.first (m := m) HWP.out hx hr hf hMM)
  clear hx hr hf hMM HI
  go_wp2_with fail
  go_loopw [7, 8] (fun v i wr => ∃ (l : List IT) (A : Option Addr) (c : Nat) (K' : PK), v = .slice A l.length c ∧ i = .int .i64 (l.length : Nat) ∧ 1 ≤ l.length ∧ l.length ≤ 3 ∧ Hid (OutI wp w p K W m l A c K' wr)) (fun _ i _ => (3 - intOf i).toNat)
  case atStart => exact ⟨[t], some ⟨w1.heap.size, 0, none⟩, 1, K1, rfl, rfl, by simp, by simp, HO⟩
  case round =>
    obtain ⟨l, A, c, K', rfl, rfl, hl1, hl2, HOut⟩ := hrel
    obtain ⟨i, i2, i3⟩ := HOut.out.rd.has
    have c0 : wr.cell? ⟨p, 0, none⟩ = some (.slice K'.L K'.n K'.c) := i2.cell 0
    have c1 : wr.cell? ⟨p, 1, none⟩ = some (.int .i64 i) := i2.cell 1
    have c4 : wr.cell? ⟨p, 4, none⟩ = some (.int .i64 K'.M) := i2.cell 4
    have hbd : 0 ≤ K'.M ∧ K'.M ≤ B1 ∧ K'.M + 4 * m ≤ B1 + 4 * m := by
      have := HOut.out.lo; have := HOut.out.hi; have := HM.out; have := HMM.out
      have h6 : (m : Int) * (l.length : Int) ≤ m * 4 := Int.mul_le_mul_of_nonneg_left (by omega) (by omega)
      omega
    have HBD := Lib.hid hbd
    clear i2 hbd
    obtain ⟨bc, hbc⟩ : ∃ b : Bool, b = (decide ((l.length : Int) < most) && decide ((i : Int) < (K'.n : Int)) && decide (K'.M < 6)) := ⟨_, rfl⟩
    have HBC := Lib.hid hbc
    clear hbc
    go_upto_region 3 with fail
    go_cut [34] from 13 to 34 (fun t wx => t = .bool bc ∧ wx = wr.drew)
    case first =>
      by_cases k1 : (l.length : Int) < most
      · have e1 : decide ((l.length : Int) < most) = true := decide_eq_true k1
        by_cases k2 : (i : Int) < (K'.n : Int)
        · have e2 : decide ((i : Int) < (K'.n : Int)) = true := decide_eq_true k2
          by_cases k3 : K'.M < 6
          · have e3 : decide (K'.M < 6) = true := decide_eq_true k3
            go_region
            go_wp2_with fail
            go_meet
            exact ⟨by rw [HBC.out, e1, e2, e3]; rfl, rfl⟩
          · have e3 : decide (K'.M < 6) = false := decide_eq_false k3
            go_region
            go_wp2_with fail
            go_meet
            exact ⟨by rw [HBC.out, e1, e2, e3]; rfl, rfl⟩
        · have e2 : decide ((i : Int) < (K'.n : Int)) = false := decide_eq_false k2
          go_region
          go_wp2_with fail
          go_meet
          exact ⟨by rw [HBC.out, e1, e2]; rfl, rfl⟩
      · have e1 : decide ((l.length : Int) < most) = false := decide_eq_false k1
        go_region
        go_wp2_with fail
        go_meet
        exact ⟨by rw [HBC.out, e1]; rfl, rfl⟩
    case rest =>
      obtain ⟨rfl, rfl⟩ := hcut
      cases bc
      · obtain ⟨g, hA, -, -, -, -, hcc⟩ := HOut.out.drew.shape hl1
        subst hA
        obtain ⟨n', hn⟩ : ∃ n', l.length = n' + 1 := ⟨l.length - 1, by omega⟩
        have hlt : n' < l.length := by omega
        obtain ⟨x, hx⟩ : ∃ x, l[n']? = some x := ⟨_, List.getElem?_eq_getElem hlt⟩
        have ck : wr.drew.cell? ⟨g, n' * 7, none⟩ = some (.int .i64 x.k) := hcc n' 0 _ (by omega) x hx rfl
        have hsub : (l.length : Int) - 1 = (n' : Int) := by omega
        clear hcc hx hn c0 c1 c4
        by_cases hk2 : x.k = 2
        · rw [hk2] at ck
          clear hk2
          go_wp2_with fail
          refine (HI0.out wp p K' wr.drew false HOut.out.drew.rd ⟨HBD.out.1, HBD.out.2.1⟩).mono ?_
          rintro e w2 ⟨y, K2, rfl, hx, hr, hf, hMM⟩
          obtain ⟨A', c', w3, r1, hO2⟩ := HOut.out.drew.step (by omega) ⟨hx.1, Nat.le_trans hx.2.1 HMM.out.1, hx.2.2⟩ hr hf ⟨hMM.1, by have := hMM.2; have := HMM.out.2.1; omega⟩
          have HR := Lib.hid r1
          have hfin := hO2.fin (by simp) (by simp; omega)
          rw [List.length_append] at hfin
          have HFN := Lib.hid hfin
          clear r1 hO2 hx hr hf hMM hfin
          go_wp2_with (at_builtin; refine wpList_app HR.out rfl rfl rfl rfl rfl ?_)
          go_ret
          exact ⟨A', c', l ++ [y], K2, by rw [List.length_append]; rfl, by rw [List.length_append]; exact HFN.out.1, HFN.out.2.1, HFN.out.2.2.1, HFN.out.2.2.2.1, HFN.out.2.2.2.2⟩
        · have hk3 : (x.k == 2) = false := by simpa using hk2
          have hfin := HOut.out.drew.fin hl1 (by omega)
          have HFN := Lib.hid hfin
          clear hfin
          go_wp2_with fail
          go_ret
          exact ⟨_, c, l, K', rfl, HFN.out.1, HFN.out.2.1, HFN.out.2.2.1, HFN.out.2.2.2.1, HFN.out.2.2.2.2⟩
      · have hl3 : l.length ≤ 2 := by have := HMO.out; have := HBC.out; simp at this; omega
        go_wp2_with fail
        refine (HI1.out wp p K' wr.drew _ HOut.out.drew.rd ⟨HBD.out.1, HBD.out.2.1⟩).mono ?_
        rintro e w2 ⟨x, K2, rfl, hx, hr, hf, hMM⟩
        obtain ⟨A', c', w3, r1, hO2⟩ := HOut.out.drew.step (by omega) hx hr hf hMM
        have HR := Lib.hid r1
        have HO2 := Lib.hid hO2
        clear r1 hO2 hx hr hf hMM
        go_wp2_with (at_builtin; refine wpList_app HR.out rfl rfl rfl rfl rfl ?_)
        go_roundw
        case rel => exact ⟨l ++ [x], A', c', K2, by rw [List.length_append]; rfl, by rw [List.length_append]; go_num, by simp, by simp; omega, HO2⟩
        case measure => simp [intOf]; omega
end Go.Proofs.YtbdfehgofnomhaaDoor
/- Layer 9: the query of a Shape that is its own. -/
namespace Go.Proofs.YtbdfehgofnomhaaDoor
open Go.RowKit
set_option linter.unusedVariables false

theorem item0 (B : Int) (hB : B ≤ 10000) : ItemC 0 16 1 B := item_of 0 (.inl rfl) 16 1 (Nat.le_refl _) (Nat.le_refl _) B hB (fun h => absurd h (by decide))
theorem items0 : ItemsC 0 2 64 4 9000 := items_of 0 2 (.inl rfl) 16 1 (Nat.le_refl _) (Nat.le_refl _) 9000 10000 (by decide) (item0 _ (by decide)) (item0 _ (by decide))
theorem item1 : ItemC 1 129 9 8000 := item_of 1 (.inr rfl) 129 9 (by decide) (by decide) 8000 (by decide) (fun _ => ⟨64, 4, 9000, items0, by decide, by decide, by decide⟩)
theorem items1 : ItemsC 1 3 516 36 7000 := items_of 1 3 (.inr rfl) 129 9 (by decide) (by decide) 7000 8000 (by decide) item1 (item0 _ (by decide))
theorem isrow_below {k : IntKind} {w w' : World} {a : Option Addr} {len cap : Nat} {zs : List Int} (h : IsRow k w a len cap zs) (hb : Below w.heap.size w w') : IsRow k w' a len cap zs :=
  ⟨h.1, h.2.1, h.2.2.1, fun i hi => by
    obtain ⟨x, e, hx⟩ := h.2.2.2 i hi
    exact ⟨x, e, below_imp hb _ _ hx⟩⟩
set_option maxHeartbeats 4000000 in
theorem shape_any (A : Option Addr) (m c : Nat) (n : Int) (y : Nm) (a : Option Addr) (len cap : Nat) (zs : List Int) (w : World) (hr : IsRow .u8 w a len cap zs) (hz : ∀ z ∈ zs, 0 ≤ z ∧ z ≤ 255) :
    Calls Tryd.prog 8 #[.agg #[.slice A m c, .int .i64 n, .string (str y), .bool true, .slice a len cap]] w fun e w' => AskC w e w' := by
  obtain ⟨W0, hW0⟩ : ∃ W0, W0 = w.alloc (.cells #[.slice A m c, .int .i64 n, .string (str y), .bool true, .slice a len cap] 27) := ⟨_, rfl⟩
  have b0 : Below w.heap.size w W0 := by rw [hW0]; exact (Below.refl _ _).alloc (Nat.le_refl _) _
  have z0 : W0.heap.size = w.heap.size + 1 := by rw [hW0]; simp
  have h0 : Has W0 w.heap.size 27 #[.slice A m c, .int .i64 n, .string (str y), .bool true, .slice a len cap] := by rw [hW0]; exact heap_alloc_new w _
  obtain ⟨W1, hW1⟩ : ∃ W1, W0.alloc (.cells zer3 24) = W1 := ⟨_, rfl⟩
  have b1 : Below w.heap.size w W1 := by rw [← hW1]; exact b0.alloc (by omega) _
  have hq : Has W1 (w.heap.size + 1) 24 zer3 := by rw [← hW1, ← z0]; exact heap_alloc_new W0 _
  have h1 : Has W1 w.heap.size 27 #[.slice A m c, .int .i64 n, .string (str y), .bool true, .slice a len cap] := by rw [← hW1]; exact h0.below (step1 _ _) h0.lt
  have HC := Lib.hid (asked_any items1 a len cap zs W1 (isrow_below hr b1) hz)
  have HW : Hid ((w.alloc (.cells #[.slice A m c, .int .i64 n, .string (str y), .bool true, .slice a len cap] 27)).alloc (.cells #[.slice none 0 0, .int .i64 0, .string { data := #[] }] 24) = W1) := Lib.hid (by rw [← hW0]; exact hW1)
  have HB := Lib.hid b1
  have HQ := Lib.hid hq
  have HZ := Lib.hid (show w.heap.size + 1 < W1.heap.size from hq.lt)
  have c3 : W1.cell? ⟨w.heap.size, 3, none⟩ = some (.bool true) := h1.cell 3
  have c4 : W1.cell? ⟨w.heap.size, 4, none⟩ = some (.slice a len cap) := h1.cell 4
  clear hW0 b0 z0 h0 hW1 b1 hq h1 hr hz
  go_enter Tryd.func8, Tryd.ntmps8
  go_upto_region 1 with fail
  rw [HW.out]
  go_wp2_with fail
  refine HC.out.mono ?_
  rintro e w2 ⟨l, B, cp, n', y', rfl, ok, gl, hn, hy, bel⟩
  have h2 := HQ.out.below bel HQ.out.lt
  have bz : Below w.heap.size w2 (set3 w2 (w.heap.size + 1) (.slice B l.length cp) (.int .i64 n') (.string (str y'))) := set3_below (Nat.le_succ _) _ _ _
  have hz := set3_has h2 (.slice B l.length cp) (.int .i64 n') (.string (str y'))
  have hit : Its (hidL w.heap.size (set3 w2 (w.heap.size + 1) (.slice B l.length cp) (.int .i64 n') (.string (str y')))) B l := gl.2.2.imp fun p v hv => by
    obtain ⟨g1, g2⟩ := hidL_cell hv
    have := HZ.out
    exact (cell_block ((hidL_block _ (by omega)).trans (set3_same _ _ _ (by omega)))).trans g2
  have HFIN : Hid (AskC w (.returned (.agg #[.slice B l.length cp, .int .i64 n', .string (str y')])) (set3 w2 (w.heap.size + 1) (.slice B l.length cp) (.int .i64 n') (.string (str y')))) := Lib.hid ⟨l, B, cp, n', y', rfl, ok, ⟨gl.1, gl.2.1, hit⟩, hn, hy, (HB.out.trans (bel.mono HB.out.size)).trans bz⟩
  have HZ7 := Lib.hid hz
  obtain ⟨⟨v0, v1, v2⟩, ⟨u0, u1, u2⟩, nlt⟩ := zer3_facts h2
  clear h2 bz hz hit ok gl hn hy bel c3 c4 HC
  go_wp2_with fail
  change bodyPost _ _ _ _ _ (set3 w2 (w.heap.size + 1) (.slice B l.length cp) (.int .i64 n') (.string (str y')))
  generalize set3 w2 (w.heap.size + 1) (.slice B l.length cp) (.int .i64 n') (.string (str y')) = Z at HFIN HZ7 ⊢
  clear v0 v1 v2 u0 u1 u2 nlt
  have z0 := HZ7.out.cell 0
  have z1 := HZ7.out.cell 1
  have z2 := HZ7.out.cell 2
  refine bodyPost_ret (v := .agg #[.slice B l.length cp, .int .i64 n', .string (str y')]) (by simp [results, Tryd.results8, go_sem, z0, z1, z2]) rfl ?_
  exact HFIN.out
end Go.Proofs.YtbdfehgofnomhaaDoor
/- Layer 9: what the queries that bytes make are: right, not long. -/
namespace Go.Proofs.YtbdfehgofnomhaaDoor
open Go.RowKit
set_option linter.unusedVariables false

theorem itoa12 {n : Int} (h0 : 0 ≤ n) (h1 : n ≤ 11) : (Lib.itoa n).length ≤ 2 := by
  have h : n = 0 ∨ n = 1 ∨ n = 2 ∨ n = 3 ∨ n = 4 ∨ n = 5 ∨ n = 6 ∨ n = 7 ∨ n = 8 ∨ n = 9 ∨ n = 10 ∨ n = 11 := by omega
  rcases h with rfl | rfl | rfl | rfl | rfl | rfl | rfl | rfl | rfl | rfl | rfl | rfl <;> exact of_decide_eq_true (by kernel_rfl)
theorem its_mem {w : World} {A : Option Addr} {l : List IT} (h : Its w A l) : ∀ t ∈ l, IT.In w t := fun t ht => by
  obtain ⟨j, hj, rfl⟩ := List.getElem_of_mem ht
  exact (h j hj).2
theorem ask_right {l : List IT} {n : Int} {y : Nm} (hr : rightIs l = true) (hn : 0 ≤ n ∧ n ≤ 11) (hy : y = [] ∨ y = [107]) : rightQ l n y = true := by
  unfold rightQ
  rw [hr]
  have h1 : decide (0 ≤ n ∧ n ≤ 1000000000) = true := decide_eq_true ⟨hn.1, by omega⟩
  rw [h1]
  rcases hy with rfl | rfl
  · rfl
  · have e : nameB [107] = true := by kernel_rfl
    rw [e]
    simp
theorem ask_ylen {y : Nm} (hy : y = [] ∨ y = [107]) : y.length ≤ 140737488355328 := by rcases hy with rfl | rfl <;> simp
theorem ask_items {w : World} {A : Option Addr} {l : List IT} (hr : rightIs l = true) (hw : wtIs l ≤ 10000) (h : Its w A l) : (putIs l).length ≤ 1000000 := by
  have := items_len hr (its_mem h)
  omega
theorem ask_put {w : World} {A : Option Addr} {l : List IT} {n : Int} {y : Nm} (hr : rightIs l = true) (hw : wtIs l ≤ 10000) (h : Its w A l) (hn : 0 ≤ n ∧ n ≤ 11) (hy : y = [] ∨ y = [107]) : (putQ l n y).length ≤ 100000000 := by
  have h1 := ask_items hr hw h
  have h2 := itoa12 hn.1 hn.2
  unfold putQ
  rcases hy with rfl | rfl
  · simp; omega
  · simp; omega
theorem okS_len {A : Option Addr} {m c : Nat} (h : okS A m c) : m ≤ 9223372036854775807 := okS_cap h
abbrev sh5 (A : Option Addr) (m c : Nat) (n : Int) (y : Nm) (o : Bool) (a : Option Addr) (len cap : Nat) : Array Value := #[.slice A m c, .int .i64 n, .string (str y), .bool o, .slice a len cap]
theorem five_has {w : World} {q : Nat} {t : TypeId} {u0 u1 u2 u3 u4 : Value} (h : Has w q t #[u0, u1, u2, u3, u4]) : w.cell? ⟨q, 0, none⟩ = some u0 ∧ w.cell? ⟨q, 1, none⟩ = some u1 ∧ w.cell? ⟨q, 2, none⟩ = some u2 ∧ w.cell? ⟨q, 3, none⟩ = some u3 ∧ w.cell? ⟨q, 4, none⟩ = some u4 :=
  ⟨h.cell 0, h.cell 1, h.cell 2, h.cell 3, h.cell 4⟩
theorem five_free {w : World} {q : Nat} {t : TypeId} {cs : Array Value} (h : Has w q t cs) : w.frozen? ⟨q, 0, none⟩ = false ∧ w.frozen? ⟨q, 1, none⟩ = false ∧ w.frozen? ⟨q, 2, none⟩ = false ∧ w.frozen? ⟨q, 3, none⟩ = false ∧ w.frozen? ⟨q, 4, none⟩ = false :=
  ⟨h.free 0, h.free 1, h.free 2, h.free 3, h.free 4⟩
def set5 (w : World) (q : Nat) (u0 u1 u2 u3 u4 : Value) : World := ((((w.setCell ⟨q, 0, none⟩ u0).setCell ⟨q, 1, none⟩ u1).setCell ⟨q, 2, none⟩ u2).setCell ⟨q, 3, none⟩ u3).setCell ⟨q, 4, none⟩ u4
theorem set5_has {w : World} {q : Nat} {t : TypeId} {z0 z1 z2 z3 z4 : Value} (h : Has w q t #[z0, z1, z2, z3, z4]) (u0 u1 u2 u3 u4 : Value) : Has (set5 w q u0 u1 u2 u3 u4) q t #[u0, u1, u2, u3, u4] := by
  have := ((((h.put 0 u0).put 1 u1).put 2 u2).put 3 u3).put 4 u4
  unfold set5
  simpa using this
theorem set5_below {w : World} {q B : Nat} (h : B ≤ q) (u0 u1 u2 u3 u4 : Value) : Below B w (set5 w q u0 u1 u2 u3 u4) :=
  (((((Below.refl B w).setCell (p := ⟨q, 0, none⟩) h _).setCell (p := ⟨q, 1, none⟩) h _).setCell (p := ⟨q, 2, none⟩) h _).setCell (p := ⟨q, 3, none⟩) h _).setCell (p := ⟨q, 4, none⟩) h _
theorem set5_same {w : World} {p q : Nat} (u0 u1 u2 u3 u4 : Value) (h : q ≠ p) : (set5 w p u0 u1 u2 u3 u4).heap[q]? = w.heap[q]? := by
  unfold set5
  rw [setCell_ne _ h, setCell_ne _ h, setCell_ne _ h, setCell_ne _ h, setCell_ne _ h]
end Go.Proofs.YtbdfehgofnomhaaDoor
/- Layer 9: items appended to items: the run, and where they lie then. -/
namespace Go.Proofs.YtbdfehgofnomhaaDoor
open Go.RowKit
set_option linter.unusedVariables false

theorem icl_get {w : World} {b off i : Nat} {x : IT} {r : Nat} {u : Value} (h : CellsI w (some ⟨b, off, none⟩) i x) (hr : r < 7) (hu : (icl x)[r]? = some u) : w.cell? ⟨b, off + (i * 7 + r), none⟩ = some u := by
  obtain ⟨b', off', e, h0, h1, h2, h3, h4, h5, h6⟩ := h
  cases e
  match r, hr with
  | 0, _ => obtain rfl := Option.some.inj hu; exact h0
  | 1, _ => obtain rfl := Option.some.inj hu; exact h1
  | 2, _ => obtain rfl := Option.some.inj hu; exact h2
  | 3, _ => obtain rfl := Option.some.inj hu; exact h3
  | 4, _ => obtain rfl := Option.some.inj hu; exact h4
  | 5, _ => obtain rfl := Option.some.inj hu; exact h5
  | 6, _ => obtain rfl := Option.some.inj hu; exact h6
theorem icells_at : ∀ {l : List IT} {j : Nat} {u : Value}, (icells l)[j]? = some u → ∃ i r x, l[i]? = some x ∧ r < 7 ∧ j = i * 7 + r ∧ (icl x)[r]? = some u
  | [], j, u, h => by simp [icells] at h
  | y :: ys, j, u, h => by
    rw [icells, List.flatMap_cons, ← icells] at h
    rcases Nat.lt_or_ge j 7 with h7 | h7
    · rw [List.getElem?_append_left (by rw [icl_len]; omega)] at h
      exact ⟨0, j, y, rfl, h7, by omega, h⟩
    · rw [List.getElem?_append_right (by rw [icl_len]; omega), icl_len] at h
      obtain ⟨i, r, x, hx, hr, e, hu⟩ := icells_at h
      exact ⟨i + 1, r, x, by simpa using hx, hr, by omega, hu⟩
theorem icells_app (l m : List IT) : icells (l ++ m) = icells l ++ icells m := by simp [icells]
theorem icells_one {l : List IT} : ∀ u ∈ icells l, u.oneCell' = true := by
  intro u hu
  simp only [icells, List.mem_flatMap] at hu
  obtain ⟨x, _, hx⟩ := hu
  simp [icl] at hx
  rcases hx with rfl | rfl | rfl | rfl | rfl | rfl | rfl <;> rfl
theorem its_app {w : World} {base : Nat} {v : Value} {l m : List IT} {A : Option Addr} {c : Nat} (h : w.ownsRow base 42 7 v l.length (icells l)) (hm : Its w A m) (h0 : 0 < m.length) (hb : base ≤ w.heap.size) (h1 : l.length + m.length ≤ 100000) :
    ∃ v' w', (Builtin.append_ #[22, 22] 22 #[v, .slice A m.length c]).run Tryd.prog w = .ok v' w' ∧ w'.ownsRow base 42 7 v' (l ++ m).length (icells (l ++ m)) ∧ Below base w w' := by
  obtain ⟨i0, hi, hz0, hz1, hz2⟩ := pinfo_parts pinfo_item
  obtain ⟨⟨b, off, hA, -⟩, -⟩ := hm 0 h0
  subst hA
  obtain ⟨v', w', r1, r2, r3, _, r4⟩ := run_append_own_at (P := Tryd.prog) w base 22 22 42 i0 (.agg #[.int .i64 0, .string { data := #[] }, .string { data := #[] }, .slice none 0 0, .int .i64 0, .int .i64 0, .slice none 0 0]) 7 104 Tryd.underlying22 hi hz0 hz1 hz2 rfl (by omega) v l.length (icells l) h
    ⟨b, off, none⟩ m.length c (icells m) (icells_len m) (fun j u hu => by
      obtain ⟨i, r, x, hx, hr, rfl, hu⟩ := icells_at hu
      obtain ⟨hil, rfl⟩ := List.getElem?_eq_some_iff.1 hx
      rw [Go.WideShapes.add_plain]
      exact icl_get (hm i hil).1 hr hu) icells_one (by unfold maxLen; omega) (by omega) hb
  exact ⟨v', w', r1, by rw [icells_app, List.length_append]; exact r2, (Below.refl _ _).grown r3 (by omega) (fun j hj => (h.lt j hj).1)⟩
theorem own_its {w : World} {base : Nat} {v : Value} {l : List IT} (h : w.ownsRow base 42 7 v l.length (icells l)) (hl : 0 < l.length) : ∃ g c, v = .slice (some ⟨g, 0, none⟩) l.length c ∧ base ≤ g ∧ g < w.heap.size ∧ l.length ≤ c ∧ c ≤ maxLen ∧ ∀ j (h : j < l.length), CellsI w (some ⟨g, 0, none⟩) j l[j] := by
  have h2 := h
  rcases h.2 with ⟨rfl, h0⟩ | ⟨g, cap, cur, rfl, hg, hh, hn, hm, _, _⟩
  · omega
  · refine ⟨g, cap, rfl, hg, (h2.lt g rfl).2, hn, hm, fun j hj => ?_⟩
    have gx : ∀ r u, r < 7 → (icl l[j])[r]? = some u → w.cell? ⟨g, 0 + (j * 7 + r), none⟩ = some u := fun r u hr hu => by
      have := h2.cells (g := g) rfl (j * 7 + r) u ((icells_get (List.getElem?_eq_getElem hj) hr).trans hu)
      rwa [Go.WideShapes.add_plain] at this
    exact ⟨g, 0, rfl, gx 0 _ (by omega) rfl, gx 1 _ (by omega) rfl, gx 2 _ (by omega) rfl, gx 3 _ (by omega) rfl, gx 4 _ (by omega) rfl, gx 5 _ (by omega) rfl, gx 6 _ (by omega) rfl⟩
/-- append(append(nil, a...), b...). -/
theorem two_app {w : World} {l m : List IT} {A A' : Option Addr} {c c' : Nat} (hl : Its w A l) (hm : Its w A' m) (h0 : 0 < l.length) (h0' : 0 < m.length) (h1 : l.length + m.length ≤ 100000) :
    ∃ v1 w1 g cp w2, (Builtin.append_ #[22, 22] 22 #[.slice none 0 0, .slice A l.length c]).run Tryd.prog w = .ok v1 w1
      ∧ (Builtin.append_ #[22, 22] 22 #[v1, .slice A' m.length c']).run Tryd.prog w1 = .ok (.slice (some ⟨g, 0, none⟩) (l ++ m).length cp) w2
      ∧ Below w.heap.size w w2 ∧ (l ++ m).length ≤ cp ∧ cp ≤ maxLen ∧ Its w2 (some ⟨g, 0, none⟩) (l ++ m) := by
  obtain ⟨v1, w1, r1, o1, b1⟩ := its_app (l := []) (c := c) (World.ownsRow_nil w w.heap.size _ 7) hl h0 (Nat.le_refl _) (by simp; omega)
  rw [List.nil_append] at o1
  obtain ⟨v2, w2, r2, o2, b2⟩ := its_app (c := c') o1 (hm.below b1) h0' b1.size h1
  obtain ⟨g, cp, rfl, hg, _, hn, hmx, hc⟩ := own_its o2 (by rw [List.length_append]; omega)
  have bb := b1.trans b2
  refine ⟨v1, w1, g, cp, w2, r1, r2, bb, hn, hmx, fun j hj => ⟨hc j hj, ?_⟩⟩
  rcases List.mem_append.1 (List.getElem_mem hj) with h | h
  · obtain ⟨i, hi, e⟩ := List.getElem_of_mem h
    rw [← e]
    exact (hl i hi).2.below bb
  · obtain ⟨i, hi, e⟩ := List.getElem_of_mem h
    rw [← e]
    exact (hm i hi).2.below bb
/-- The beginning of what was appended. -/
theorem its_take {w : World} {A : Option Addr} {l m : List IT} (h : Its w A (l ++ m)) : Its w A l := fun j hj => by
  have h2 := h j (by rw [List.length_append]; omega)
  rwa [List.getElem_append_left hj] at h2
end Go.Proofs.YtbdfehgofnomhaaDoor
