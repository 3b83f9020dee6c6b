/- What Get of package wire tells, as a contract: bytes in any memory are got as the event whose bytes they are, or are refused. -/
import Derived.Test.YtglhebpblncjaaaDoorWrPut
namespace Go.Proofs.YtglhebpblncjaaaDoor
open Go.RowKit
set_option linter.unusedVariables false

/-- Are these the bytes of an event? -/
def gok (l : List UInt8) : Bool := decide (10 ≤ l.length ∧ byteAt l 1 ≤ 8 ∧ l.length = 10 + 8 * byteAt l 1)
/-- The numbers of the event whose bytes these are. -/
def gvs (l : List UInt8) : List Int := (List.range (byteAt l 1)).map fun i => intAt l (10 + 8 * i)
theorem gvs_length (l : List UInt8) : (gvs l).length = byteAt l 1 := by simp [gvs]
theorem gok_no {l : List UInt8} (h : l.length < 10 ∨ 8 < byteAt l 1 ∨ l.length ≠ 10 + 8 * byteAt l 1) : gok l = false := by
  unfold gok; exact decide_eq_false fun ⟨_, _, _⟩ => by omega
theorem gok_yes {l : List UInt8} (h : byteAt l 1 ≤ 8) (h2 : l.length = 10 + 8 * byteAt l 1) : gok l = true := by
  unfold gok; exact decide_eq_true ⟨by omega, h, h2⟩
/-- Cells of numbers. -/
def icells (l : List Int) : Array Value := (ints l).toArray
theorem icells_get (l : List Int) (i : Nat) (h : i < l.length) : (icells l)[i]? = some (.int .i64 (l.getD i 0)) := by
  unfold icells; simp [h, List.getD]
theorem icells_set (l : List Int) (i : Nat) (b : Int) : (icells l).setIfInBounds i (.int .i64 b) = icells (l.set i b) := by
  unfold icells; simp [ints, List.map_set]
theorem Has.lies {w : World} {g : Nat} {t : TypeId} {l : List Int} (h : Has w g t (icells l)) : Lies w (some ⟨g, 0, none⟩) (ints l) := fun i u hu => by
  refine ⟨_, rfl, ?_⟩
  rw [Go.WideShapes.add_plain, Nat.zero_add]
  exact (h.cell i).trans (by unfold icells; simpa using hu)
/-- What getEvent leaves. -/
def GotP (l : List UInt8) (w : World) (e : Ending) (w' : World) : Prop :=
  Below w.heap.size w w' ∧ ((gok l = true ∧ ∃ g, e = .returned (ev (byteAt l 0 : Nat) (intAt l 2) (some ⟨g, 0, none⟩) (byteAt l 1) (byteAt l 1)) ∧ w.heap.size ≤ g ∧ Has w' g 2 (icells (gvs l)))
    ∨ (gok l = false ∧ e = .panicked (thrown 7)))
theorem info_i64 : (Tryd.prog.info? 2).map (fun i => (i.zero, i.size, i.bytes)) = some (some (.int .i64 0), 1, 8) := by kernel_rfl
theorem made_ints (W : Nat) : madeCells (Value.int IntKind.i64 0).cells W = icells (List.replicate W 0) := by
  have h : (madeCells #[Value.int IntKind.i64 0] W).toList = List.replicate W (Value.int IntKind.i64 0) := toList_madeCells_one _ W
  apply Array.toList_inj.1
  have e : (Value.int IntKind.i64 0).cells = #[Value.int IntKind.i64 0] := rfl
  rw [e, h]
  simp [icells, ints]
theorem make_ints (W : Nat) (h8 : W ≤ 16) (w : World) : (Instr.makeSlice 33 (.int .i64 W) (.int .i64 W)).run Tryd.prog w = .ok (.slice (some ⟨w.heap.size, 0, none⟩) W W) (w.alloc (.cells (icells (List.replicate W 0)) 2)) := by
  obtain ⟨i0, hi, hz0, hz1, hz2⟩ := info_parts info_i64
  have h := run_make (P := Tryd.prog) w 33 2 i0 (.int .i64 0) Tryd.underlying33 hi hz0 .i64 .i64 W W (by omega) (by omega) (by rw [hz2]; omega) (by omega)
  rw [hz1] at h
  simp only [Int.toNat_natCast, Nat.mul_one] at h
  rw [made_ints W] at h
  exact h

/-- The numbers, of which k are got. -/
def ipart (p : List Int) (k : Nat) : List Int := p.take k ++ List.replicate (p.length - k) 0
theorem ipart_zero (p : List Int) : ipart p 0 = List.replicate p.length 0 := by simp [ipart]
theorem ipart_all (p : List Int) : ipart p p.length = p := by simp [ipart]
theorem ipart_length (p : List Int) (k : Nat) (h : k ≤ p.length) : (ipart p k).length = p.length := by simp [ipart]; omega
theorem ipart_succ (p : List Int) (k : Nat) (h : k < p.length) : (ipart p k).set k (p.getD k 0) = ipart p (k + 1) := by
  apply List.ext_getElem
  · rw [List.length_set, ipart_length _ _ (by omega), ipart_length _ _ (by omega)]
  · intro i h1 h2
    rw [List.length_set, ipart_length _ _ (by omega)] at h1
    simp only [ipart, List.getElem_set, List.getElem_append, List.length_take, List.getD, List.getElem?_eq_getElem h, Option.getD_some]
    by_cases e : k = i
    · subst e; simp; omega
    · by_cases h3 : i < k
      · simp only [e, if_false, List.getElem_take, List.getElem_replicate]
        rw [dif_pos (by omega), dif_pos (by omega)]
      · simp only [e, if_false, List.getElem_take, List.getElem_replicate]
        rw [dif_neg (by omega), dif_neg (by omega)]
theorem gvs_get (l : List UInt8) {k : Nat} (h : k < byteAt l 1) : (gvs l).getD k 0 = intAt l (10 + 8 * k) := by
  unfold gvs
  rw [List.getD_eq_getElem?_getD, List.getElem?_map, List.getElem?_range h, Option.map_some, Option.getD_some]
theorem has_int {wr : World} {g : Nat} {t : TypeId} {p : List Int} {k : Nat} (h : Has wr g t (icells (ipart p k))) (hlt : k < p.length) :
    Has (wr.setCell ⟨g, k, none⟩ (.int .i64 (p.getD k 0))) g t (icells (ipart p (k + 1))) := by
  have := h.put k (.int .i64 (p.getD k 0))
  rw [icells_set, ipart_succ _ _ hlt] at this
  exact this

theorem getInt_yesz (s : ByteArray) (z : Int) (i : Nat) (hz : z = i) (h : i + 8 ≤ s.size) (hs : s.size ≤ 4611686018427387904) (w : World) :
    Calls Tryd.prog 66 #[.string s, .int .i64 z] w fun e w' => e = .returned (.int .i64 (intAt s.data.toList i)) ∧ Below w.heap.size w w' := by
  subst hz
  exact getInt_yes s i h hs w
theorem getInt_noz (s : ByteArray) (z : Int) (i : Nat) (hz : z = i) (h : s.size < i + 8) (hs : s.size ≤ 4611686018427387904) (w : World) :
    Calls Tryd.prog 66 #[.string s, .int .i64 z] w fun e w' => e = .panicked (thrown 7) ∧ Below w.heap.size w w' := by
  subst hz
  exact getInt_no s i h hs w
set_option maxHeartbeats 1600000 in
theorem getEvent_any (s : ByteArray) (l : List UInt8) (w : World) (hl : s.data.toList = l) (hs : s.size ≤ 4611686018427387904) :
    Calls Tryd.prog 55 #[.string s] w (GotP l w) := by
  have hlen : l.length = s.size := by rw [← hl]; simp
  have HL := Lib.hid hl
  clear hl
  go_enter Tryd.func55, Tryd.ntmps55
  go_wp2_with fail
  have X0 := Lib.hid (has_new w #[.int .i64 0, .int .i64 0, .slice none 0 0] 35)
  have XB := Lib.hid ((Below.refl w.heap.size w).alloc (Nat.le_refl _) (.cells #[.int .i64 0, .int .i64 0, .slice none 0 0] 35))
  generalize w.alloc (.cells #[.int .i64 0, .int .i64 0, .slice none 0 0] 35) = w0 at *
  by_cases h0 : s.size ≤ 0
  · refine (getByte_no s 0 h0 hs _).mono ?_
    rintro e w1 ⟨rfl, h1⟩
    have Y := Lib.hid (Below.step XB.out h1 (Nat.le_refl _))
    clear h1
    go_wp2
    exact ⟨rfl, Y.out, .inr ⟨gok_no (by omega), rfl⟩⟩
  refine (getByte_yes s 0 (by omega) hs _).mono ?_
  rw [HL.out]
  rintro e w1 ⟨rfl, h1⟩
  have X1 := Lib.hid (X0.out.next h1)
  have B1 := Lib.hid (Below.step XB.out h1 (Nat.le_refl _))
  clear h1 XB X0
  go_wp2_with fail
  have X2 := Lib.hid (X1.out.alloc (.cells #[.int .i64 (byteAt l 0 : Nat), .int .i64 0, .slice none 0 0] 35))
  have E2 := Lib.hid (has_new w1 #[.int .i64 (byteAt l 0 : Nat), .int .i64 0, .slice none 0 0] 35)
  have B2 := Lib.hid (B1.out.alloc B1.out.size (.cells #[.int .i64 (byteAt l 0 : Nat), .int .i64 0, .slice none 0 0] 35))
  have hq : w.heap.size < w1.heap.size := X1.out.lt
  clear X1 B1
  obtain ⟨q, hqe⟩ : ∃ q, q = w1.heap.size := ⟨_, rfl⟩
  rw [← hqe] at hq E2 ⊢
  generalize w1.alloc (.cells #[.int .i64 (byteAt l 0 : Nat), .int .i64 0, .slice none 0 0] 35) = w2 at *
  clear hqe
  by_cases h1 : s.size ≤ 1
  · refine (getByte_no s 1 h1 hs _).mono ?_
    rintro e w3 ⟨rfl, h3⟩
    have Y := Lib.hid (Below.step B2.out h3 (Nat.le_refl _))
    clear h3
    go_wp2
    exact ⟨rfl, Y.out, .inr ⟨gok_no (by omega), rfl⟩⟩
  refine (getByte_yes s 1 (by omega) hs _).mono ?_
  rw [HL.out]
  rintro e w3 ⟨rfl, h3⟩
  have X3 := Lib.hid (X2.out.next h3)
  have E3 := Lib.hid (E2.out.next h3)
  have B3 := Lib.hid (Below.step B2.out h3 (Nat.le_refl _))
  clear h3 X2 E2 B2
  obtain ⟨n, hn⟩ : ∃ n, byteAt l 1 = n := ⟨_, rfl⟩
  have hn2 := byteAt_lt l 1
  rw [hn] at hn2 ⊢
  have HN := Lib.hid hn
  clear hn
  by_cases h8 : 8 < n
  · have hdec : decide ((n : Int) ≤ 8) = false := by simp; omega
    go_wp2_with fail
    refine (must_no 7 _).mono ?_
    rintro e w4 ⟨rfl, rfl⟩
    go_wp2
    exact ⟨rfl, B3.out, .inr ⟨gok_no (by rw [HN.out]; omega), rfl⟩⟩
  have hdec : decide ((n : Int) ≤ 8) = true := by simp; omega
  go_wp2_with fail
  refine (must_yes 7 _).mono ?_
  rintro e w4 ⟨rfl, rfl⟩
  go_wp2_with fail
  by_cases h10 : s.size < 10
  · refine (getInt_no s 2 (by omega) hs _).mono ?_
    rintro e w4 ⟨rfl, h4⟩
    have Y := Lib.hid (Below.step B3.out h4 (Nat.le_refl _))
    clear h4
    go_wp2
    exact ⟨rfl, Y.out, .inr ⟨gok_no (by omega), rfl⟩⟩
  refine (getInt_yes s 2 (by omega) hs _).mono ?_
  rw [HL.out]
  rintro e w4 ⟨rfl, h4⟩
  have X4 := Lib.hid (X3.out.next h4)
  have E4 := Lib.hid (E3.out.next h4)
  have B4 := Lib.hid (Below.step B3.out h4 (Nat.le_refl _))
  clear h4 X3 E3 B3
  have hm := make_ints n (by omega)
  have d1 := E4.out.cell 1
  have d2 := E4.out.free 1
  have d3 := E4.out.cell 2
  have d4 := E4.out.free 2
  have d5 := E4.out.lt
  simp at d1 d3
  go_wp2_with fail
  clear hm d1 d2 d3 d4
  have hg : q < w4.heap.size := d5
  clear d5
  have E5 := Lib.hid (((E4.out.put 1 (.int .i64 (intAt l 2))).put 2 (.slice (some ⟨w4.heap.size, 0, none⟩) n n)).alloc (.cells (icells (List.replicate n 0)) 2))
  have X5 := Lib.hid (((X4.out.set_other ⟨q, 1, none⟩ (.int .i64 (intAt l 2)) (by simp; omega)).set_other ⟨q, 2, none⟩ (.slice (some ⟨w4.heap.size, 0, none⟩) n n) (by simp; omega)).alloc (.cells (icells (List.replicate n 0)) 2))
  have G5 := Lib.hid (has_new ((w4.setCell ⟨q, 1, none⟩ (.int .i64 (intAt l 2))).setCell ⟨q, 2, none⟩ (.slice (some ⟨w4.heap.size, 0, none⟩) n n)) (icells (List.replicate n 0)) 2)
  have B5 := Lib.hid (((B4.out.setCell (p := ⟨q, 1, none⟩) (by simp; omega) (.int .i64 (intAt l 2))).setCell (p := ⟨q, 2, none⟩) (by simp; omega) (.slice (some ⟨w4.heap.size, 0, none⟩) n n)).alloc (by simp [World.setCell]; omega) (.cells (icells (List.replicate n 0)) 2))
  have e5 : ((w4.setCell ⟨q, 1, none⟩ (.int .i64 (intAt l 2))).setCell ⟨q, 2, none⟩ (.slice (some ⟨w4.heap.size, 0, none⟩) n n)).heap.size = w4.heap.size := by simp [World.setCell]
  rw [e5] at G5
  clear X4 E4 B4 e5
  generalize ((w4.setCell ⟨q, 1, none⟩ (.int .i64 (intAt l 2))).setCell ⟨q, 2, none⟩ (.slice (some ⟨w4.heap.size, 0, none⟩) n n)).alloc (.cells (icells (List.replicate n 0)) 2) = w5 at *
  obtain ⟨g, hge⟩ : ∃ g, g = w4.heap.size := ⟨_, rfl⟩
  rw [← hge] at hg E5 G5 ⊢
  clear hge
  have HLN : Hid ((gvs l).length = n) := Lib.hid ((gvs_length l).trans HN.out)
  go_loopw [23] (fun i wr => ∃ k : Nat, k ≤ n ∧ 10 + 8 * k ≤ s.size ∧ i = .int .i64 k ∧ Has wr q 35 #[.int .i64 (byteAt l 0 : Nat), .int .i64 (intAt l 2), .slice (some ⟨g, 0, none⟩) n n] ∧ Has wr w.heap.size 35 #[.int .i64 0, .int .i64 0, .slice none 0 0] ∧ Has wr g 2 (icells (ipart (gvs l) k)) ∧ Below w.heap.size w wr) (fun i _ => n - (intOf i).toNat)
  case atStart => exact ⟨0, by omega, by omega, rfl, E5.out, X5.out, by rw [ipart_zero, HLN.out]; exact G5.out, B5.out⟩
  case round =>
    obtain ⟨k, hk, hks, rfl, he, hx, hh, hb⟩ := hrel
    clear E5 X5 G5 B5
    by_cases hlt : k < n
    · have HE := Lib.hid he
      have HX := Lib.hid hx
      have HH := Lib.hid hh
      have HB := Lib.hid hb
      clear he hx hh hb
      have HZ : Hid (IntKind.i64.wrap (10 + IntKind.i64.wrap ((k : Int) * 8)) = ((10 + 8 * k : Nat) : Int)) := Lib.hid (by rw [IntWalk.i64_in ((k : Int) * 8) (by omega), IntWalk.i64_in _ (by omega)]; omega)
      by_cases hin : 18 + 8 * k ≤ s.size
      · have hu : ∃ u, (icells (ipart (gvs l) k))[k]? = some u := ⟨_, icells_get _ _ (by rw [ipart_length _ _ (by rw [HLN.out]; omega), HLN.out]; exact hlt)⟩
        obtain ⟨u, hu⟩ := hu
        go_wp2_with fail
        go_region_held3 (fun w' => w'.cell? ⟨q, 2, none⟩ = some (.slice (some ⟨g, 0, none⟩) n n))
          (first | exact E6.out.three.2.2 | exact (E6.out.set_other ⟨g, k, none⟩ _ (by simp; omega)).three.2.2 | exact HE.out.three.2.2)
          (first
            | (go_at_call 66; refine (getInt_yesz s _ (10 + 8 * k) HZ.out ?_ hs _).mono ?_; omega; rw [HL.out]; rintro e w6 ⟨rfl, h6⟩; have E6 := Lib.hid (HE.out.drew.next h6); have X6 := Lib.hid (HX.out.drew.next h6); have G6 := Lib.hid (HH.out.drew.next h6); have B6 := Lib.hid (Below.step HB.out.drew h6 (Nat.le_refl _)); clear h6; have k1 := (G6.out.cell k).trans hu; have k2 := G6.out.free k))
        clear HE HX HH HB k1 k2
        go_wp2
        go_roundw
        case rel =>
          refine ⟨k + 1, by omega, by omega, by go_num, E6.out.set_other _ _ (by simp; omega), X6.out.set_other _ _ (by simp; omega), ?_, B6.out.setCell (by simp; omega) _⟩
          have := has_int G6.out (by rw [HLN.out]; exact hlt)
          rw [gvs_get l (by rw [HN.out]; exact hlt)] at this
          exact this
        case measure => simp [intOf]; omega
      · have hu : ∃ u, (icells (ipart (gvs l) k))[k]? = some u := ⟨_, icells_get _ _ (by rw [ipart_length _ _ (by rw [HLN.out]; omega), HLN.out]; exact hlt)⟩
        obtain ⟨u, hu⟩ := hu
        go_wp2_with fail
        refine Code.wp_mono (Q := fun e a w' => e = .panic (thrown 7) ∧ a.defers = [] ∧ Below w.heap.size w w') ?imp ?_
        case imp =>
          rintro e a w' ⟨rfl, hd, hb⟩
          have HBX := Lib.hid hb
          clear hb
          go_wp2
          exact ⟨hd, HBX.out, .inr ⟨gok_no (by rw [HN.out]; omega), rfl⟩⟩
        go_region_held (fun w' => w'.cell? ⟨q, 2, none⟩ = some (.slice (some ⟨g, 0, none⟩) n n))
          (first | exact E6.out.three.2.2 | exact (E6.out.set_other ⟨g, k, none⟩ _ (by simp; omega)).three.2.2 | exact HE.out.three.2.2)
          (first
            | (go_at_call 66; refine (getInt_noz s _ (10 + 8 * k) HZ.out ?_ hs _).mono ?_; omega; intro e w6 h6; have h4 : (e = .panicked (thrown 7) ∧ Below wr.heap.size wr.drew w6) ∨ (e = .returned (.int .i64 0) ∧ Below wr.heap.size wr.drew w6 ∧ Hid False) := .inl h6; clear h6; rcases h4 with ⟨rfl, h6⟩ | ⟨rfl, h6, HF⟩; exact ⟨rfl, HB.out.drew.trans (h6.mono HB.out.size)⟩; have E6 := Lib.hid (HE.out.drew.next h6); have G6 := Lib.hid (HH.out.drew.next h6); clear h6; have k1 := (G6.out.cell k).trans hu; have k2 := G6.out.free k))
        exact HF.out.elim
    · obtain rfl : k = n := by omega
      have HE := Lib.hid he
      have HX := Lib.hid hx
      have HH := Lib.hid hh
      have HB := Lib.hid hb
      have e0 := he.three
      have x0 := hx.three
      have f0 := hx.free 0
      have f1 := hx.free 1
      have f2 := hx.free 2
      have y0 := e0.1
      have y1 := e0.2.1
      have y2 := e0.2.2
      have z0 := x0.1
      have z1 := x0.2.1
      have z2 := x0.2.2
      clear he hx hh hb e0 x0
      by_cases hsz : s.size = 10 + 8 * k
      · have hdec2 : ((s.size : Int) == 10 + (k : Int) * 8) = true := by rw [hsz]; simp; omega
        have HZ := Lib.hid hsz
        clear hsz
        go_wp2_with fail
        refine (must_yes 7 _).mono ?_
        rintro e w9 ⟨rfl, rfl⟩
        go_wp2
        have R := ((HX.out.put 0 (.int .i64 (byteAt l 0 : Nat))).put 1 (.int .i64 (intAt l 2))).put 2 (.slice (some ⟨g, 0, none⟩) k k)
        have hR0 := R.cell 0
        have hR1 := R.cell 1
        have hR2 := R.cell 2
        simp at hR0 hR1 hR2
        refine bodyPost_ret (v := ev (byteAt l 0 : Nat) (intAt l 2) (some ⟨g, 0, none⟩) k k) (by simp [results, Tryd.results55, go_sem, hR0, hR1, hR2, ev]) rfl ?_
        refine ⟨((HB.out.setCell (p := ⟨w.heap.size, 0, none⟩) (by simp) _).setCell (p := ⟨w.heap.size, 1, none⟩) (by simp) _).setCell (p := ⟨w.heap.size, 2, none⟩) (by simp) _, .inl ⟨gok_yes (by rw [HN.out]; omega) (by rw [HN.out, hlen]; exact HZ.out), g, by rw [HN.out], by omega, ?_⟩⟩
        have G := HH.out
        rw [show ipart (gvs l) k = gvs l by rw [← HLN.out]; exact ipart_all _] at G
        exact ((G.set_other _ _ (by simp; omega)).set_other _ _ (by simp; omega)).set_other _ _ (by simp; omega)
      · have hdec2 : ((s.size : Int) == 10 + (k : Int) * 8) = false := by simp; omega
        have HZ := Lib.hid hsz
        clear hsz
        go_wp2_with fail
        refine (must_no 7 _).mono ?_
        rintro e w9 ⟨rfl, rfl⟩
        go_wp2
        exact ⟨rfl, HB.out, .inr ⟨gok_no (by have := HZ.out; rw [HN.out]; omega), rfl⟩⟩
end Go.Proofs.YtglhebpblncjaaaDoor
