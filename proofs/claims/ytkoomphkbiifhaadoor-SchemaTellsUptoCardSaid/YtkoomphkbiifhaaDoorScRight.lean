/- Right: kind by kind. -/
import Derived.Test.YtkoomphkbiifhaaDoorScIsName
import Derived.Deep.RegionHeld3
namespace Go.Proofs.YtkoomphkbiifhaaDoor
open Go.RowKit
set_option linter.unusedVariables false

/-- The first of f 0, f 1, .. below n that is not 0; else 0. -/
def firstNZ (f : Nat → Int) : Nat → Int
  | 0 => 0
  | n + 1 => if firstNZ f n = 0 then f n else firstNZ f n
theorem firstNZ_zero {f : Nat → Int} : ∀ {n : Nat}, (∀ i, i < n → f i = 0) → firstNZ f n = 0
  | 0, _ => rfl
  | n + 1, h => by
    rw [firstNZ, if_pos (firstNZ_zero fun i hi => h i (by omega))]
    exact h n (by omega)
theorem firstNZ_at {f : Nat → Int} {k : Nat} (hk : f k ≠ 0) (hb : ∀ i, i < k → f i = 0) : ∀ {n : Nat}, k < n → firstNZ f n = f k
  | n + 1, h => by
    by_cases e : k = n
    · subst e
      rw [firstNZ, if_pos (firstNZ_zero hb)]
    · rw [firstNZ, if_neg (by rw [firstNZ_at hk hb (by omega)]; exact hk), firstNZ_at hk hb (by omega)]
/-- Of the fields of a kind: 5, if one is no name, or stands ahead; else 0. -/
def fldE (l : List Nm) (i : Nat) : Int := match l[i]? with
  | none => 0
  | some f => if nameB f = true ∧ idx (fun x => x == f) (l.take i) < 0 then 0 else 5
def rightK (es : List Kd) (k : Kd) : Int :=
  if 8 < k.2.length then 4 else if nameB k.1 = true ∧ idx (fun x => x.1 == k.1) es < 0 then firstNZ (fldE k.2) k.2.length else 5
def kindE (l : List Kd) (i : Nat) : Int := match l[i]? with
  | none => 0
  | some k => rightK (l.take i) k
def rightE (l : List Kd) : Int := if l = [] ∨ 16 < l.length then 4 else firstNZ (kindE l) l.length
theorem fldE_zero {l : List Nm} {i : Nat} (h : i < l.length) (h1 : nameB l[i] = true) (h2 : idx (fun x => x == l[i]) (l.take i) < 0) : fldE l i = 0 := by
  unfold fldE; rw [List.getElem?_eq_getElem h]; exact if_pos ⟨h1, h2⟩
theorem fldE_five {l : List Nm} {i : Nat} (h : i < l.length) (h1 : ¬ (nameB l[i] = true ∧ idx (fun x => x == l[i]) (l.take i) < 0)) : fldE l i = 5 := by
  unfold fldE; rw [List.getElem?_eq_getElem h]; exact if_neg h1
theorem kindE_at {l : List Kd} {i : Nat} (h : i < l.length) : kindE l i = rightK (l.take i) l[i] := by
  unfold kindE; rw [List.getElem?_eq_getElem h]

theorem place_take (l : List Nm) (A : Option Addr) (c k : Nat) (hk : k ≤ l.length) (y : Nm) (w : World) (h : Strs w A c l) :
    Calls Tryd.prog 32 #[.slice A k c, .string (str y)] w fun e w' => e = .returned (.int .i64 (idx (fun x => x == y) (l.take k))) ∧ Below w.heap.size w w' := by
  have := place_any (l.take k) A c y w (h.take k)
  rwa [List.length_take, Nat.min_eq_left hk] at this
theorem find_take (l : List Kd) (A : Option Addr) (c k : Nat) (hk : l.length = k) (y : Nm) (w : World) (h : Kinds w A c l) :
    Calls Tryd.prog 22 #[.slice A k c, .string (str y)] w fun e w' => e = .returned (.int .i64 (idx (fun x => x.1 == y) l)) ∧ Below w.heap.size w w' := by
  subst hk; exact find_any l A c y w h
theorem idx_lt {α : Type} (p : α → Bool) (l : List α) : -1 ≤ idx p l ∧ idx p l ≤ l.length := by
  unfold idx
  split
  · rename_i i h
    have := (List.findIdx?_eq_some_iff_getElem.1 h).1
    omega
  · omega

set_option maxHeartbeats 1000000 in
theorem rightKind_any (es : List Kd) (n : Nat) (hn : es.length = n) (A : Option Addr) (c : Nat) (k : Kd) (B : Option Addr) (d : Nat) (w : World) (hes : Kinds w A c es) (hk : Strs w B d k.2) (hT : Tabs w)
    (hl1 : k.1.length ≤ 9223372036854775807) (hl2 : ∀ f ∈ k.2, f.length ≤ 9223372036854775807) :
    Calls Tryd.prog 40 #[.slice A n c, .agg #[.string (str k.1), .slice B k.2.length d]] w fun e w' => e = .returned (.int .i64 (rightK es k)) ∧ Below w.heap.size w w' := by
  have hcap := hk.cap
  obtain ⟨W, hW⟩ : ∃ W, W = w.alloc (.cells #[Value.string (str k.1), .slice B k.2.length d] 40) := ⟨_, rfl⟩
  have bl : Below w.heap.size w W := by rw [hW]; exact (Below.refl _ _).alloc (Nat.le_refl _) _
  have hz : w.heap.size < W.heap.size := by rw [hW]; simp
  have c0 : W.cell? ⟨w.heap.size, 0, none⟩ = some (.string (str k.1)) := by rw [hW]; go_simp
  have c1 : W.cell? ⟨w.heap.size, 1, none⟩ = some (.slice B k.2.length d) := by rw [hW]; go_simp
  have HW := Lib.hid hW
  have HN := Lib.hid hn
  clear hW hn
  by_cases h8 : 8 < k.2.length
  · have e8 : rightK es k = 4 := if_pos h8
    rw [e8]
    go_enter Tryd.func40, Tryd.ntmps40
    go_wp2_with fail
    go_ret
    exact ⟨rfl, by rw [← HW.out]; exact bl⟩
  cases hnm : nameB k.1 with
  | false =>
    have e8 : rightK es k = 5 := by unfold rightK; rw [if_neg h8, if_neg (by simp [hnm])]
    rw [e8]
    go_enter Tryd.func40, Tryd.ntmps40
    go_wp2_with fail
    rw [← HW.out]
    refine (isName_any k.1 W hl1 (hT.below bl)).mono ?_
    rintro e w1 ⟨rfl, b1⟩
    go_wp2_with fail
    go_ret
    exact ⟨rfl, bl.trans (b1.mono bl.size)⟩
  | true =>
  obtain ⟨x, hx⟩ : ∃ x, idx (fun y => y.1 == k.1) es = x := ⟨_, rfl⟩
  have hxl := idx_lt (fun y => y.1 == k.1) es
  have hec := hes.cap
  rw [hx] at hxl
  have HX := Lib.hid hx
  clear hx
  by_cases hx0 : 0 ≤ x
  · have e8 : rightK es k = 5 := by unfold rightK; rw [if_neg h8, if_neg (by rw [HX.out]; omega)]
    rw [e8]
    go_enter Tryd.func40, Tryd.ntmps40
    go_wp2_with fail
    rw [← HW.out]
    refine (isName_any k.1 W hl1 (hT.below bl)).mono ?_
    rintro e w1 ⟨rfl, b1⟩
    have c0' := (b1.cell (p := ⟨w.heap.size, 0, none⟩) hz).trans c0
    have c1' := (b1.cell (p := ⟨w.heap.size, 1, none⟩) hz).trans c1
    have hes1 := (hes.below bl).below b1
    go_wp2_with fail
    refine (find_take es A c n HN.out k.1 w1 hes1).mono ?_
    rw [HX.out]
    rintro e w2 ⟨rfl, b2⟩
    go_wp2_with fail
    go_ret
    exact ⟨rfl, bl.trans ((b1.trans (b2.mono b1.size)).mono bl.size)⟩
  · have e8 : rightK es k = firstNZ (fldE k.2) k.2.length := by unfold rightK; rw [if_neg h8, if_pos ⟨hnm, by rw [HX.out]; omega⟩]
    rw [e8]
    clear e8
    go_enter Tryd.func40, Tryd.ntmps40
    go_wp2_with fail
    rw [← HW.out]
    refine (isName_any k.1 W hl1 (hT.below bl)).mono ?_
    rintro e w1 ⟨rfl, b1⟩
    have c0' := (b1.cell (p := ⟨w.heap.size, 0, none⟩) hz).trans c0
    have hes1 := (hes.below bl).below b1
    go_wp2_with fail
    refine (find_take es A c n HN.out k.1 w1 hes1).mono ?_
    rw [HX.out]
    rintro e w2 ⟨rfl, b2⟩
    have b12 := b1.trans (b2.mono b1.size)
    have c1' := (b12.cell (p := ⟨w.heap.size, 1, none⟩) hz).trans c1
    go_wp2_with fail
    clear c0' c1' hes1
    go_loopw [25] (fun i wr => ∃ j : Nat, j ≤ k.2.length ∧ i = .int .i64 j ∧ (∀ i, i < j → fldE k.2 i = 0) ∧ Below W.heap.size W wr) (fun i _ => k.2.length - (intOf i).toNat)
    case atStart => exact ⟨0, Nat.zero_le _, rfl, fun _ h => by omega, b12⟩
    case round =>
      obtain ⟨j, hj, rfl, hno, br⟩ := hrel
      have HZ := Lib.hid hno
      clear hno
      have BR := bl.trans (br.mono bl.size)
      by_cases hlt : j < k.2.length
      · obtain ⟨b, off, rfl, hc⟩ := (hk.below BR).shape (by omega)
        have hcj := hc j hlt
        clear hc
        have hTr := hT.below BR
        have hlj := hl2 k.2[j] (List.getElem_mem _)
        cases hnf : nameB k.2[j] with
        | false =>
          go_wp2_with fail
          refine (isName_any k.2[j] wr hlj hTr).mono ?_
          rintro e w3 ⟨rfl, b3⟩
          go_wp2_with fail
          go_ret
          refine ⟨ret_int ?_, BR.trans (b3.mono BR.size)⟩
          rw [firstNZ_at (by rw [fldE_five hlt (by simp [hnf])]; omega) HZ.out hlt, fldE_five hlt (by simp [hnf])]
        | true =>
          obtain ⟨y, hy⟩ : ∃ y, idx (fun x => x == k.2[j]) (k.2.take j) = y := ⟨_, rfl⟩
          have hyl := idx_lt (fun x => x == k.2[j]) (k.2.take j)
          rw [hy, List.length_take] at hyl
          have HY := Lib.hid hy
          clear hy
          have hd : (j : Int) ≤ (d : Int) := by have := hk.2.2.1; omega
          by_cases hy0 : 0 ≤ y
          · have e5 := fldE_five hlt (by rw [HY.out]; omega)
            have HE := Lib.hid e5
            clear e5
            go_wp2_with fail
            refine (isName_any k.2[j] wr hlj hTr).mono ?_
            rintro e w3 ⟨rfl, b3⟩
            have br3 := br.trans (b3.mono br.size)
            have c1' := (br3.cell (p := ⟨w.heap.size, 1, none⟩) hz).trans c1
            have hk3 := hk.below (bl.trans (br3.mono bl.size))
            go_wp2_with fail
            refine (place_take k.2 _ d j hj k.2[j] w3 hk3).mono ?_
            rw [HY.out]
            rintro e w4 ⟨rfl, b4⟩
            have br4 := br3.trans (b4.mono br3.size)
            go_wp2_with fail
            go_ret
            refine ⟨ret_int ?_, bl.trans (br4.mono bl.size)⟩
            rw [firstNZ_at (by rw [HE.out]; omega) HZ.out hlt, HE.out]
          · have e5 := fldE_zero hlt hnf (by rw [HY.out]; omega)
            have HE := Lib.hid e5
            clear e5
            go_wp2_with fail
            refine (isName_any k.2[j] wr hlj hTr).mono ?_
            rintro e w3 ⟨rfl, b3⟩
            have br3 := br.trans (b3.mono br.size)
            have c1' := (br3.cell (p := ⟨w.heap.size, 1, none⟩) hz).trans c1
            have hk3 := hk.below (bl.trans (br3.mono bl.size))
            go_wp2_with fail
            refine (place_take k.2 _ d j hj k.2[j] w3 hk3).mono ?_
            rw [HY.out]
            rintro e w4 ⟨rfl, b4⟩
            have br4 := br3.trans (b4.mono br3.size)
            go_wp2_with fail
            go_roundw
            case rel => exact ⟨j + 1, by omega, by go_num, (fun i hi => by
              by_cases e : i = j
              · subst e; exact HE.out
              · exact HZ.out i (by omega)), br4⟩
            case measure => simp [intOf]; omega
      · go_wp2_with fail
        go_ret
        exact ⟨ret_int (firstNZ_zero fun i hi => HZ.out i (by omega)).symm, BR⟩

set_option maxHeartbeats 1000000 in
theorem right_any (l : List Kd) (A : Option Addr) (c : Nat) (w : World) (h : Kinds w A c l) (hT : Tabs w)
    (hl : ∀ k ∈ l, k.1.length ≤ 9223372036854775807 ∧ ∀ f ∈ k.2, f.length ≤ 9223372036854775807) :
    Calls Tryd.prog 20 #[.slice A l.length c] w fun e w' => e = .returned (.int .i64 (rightE l)) ∧ Below w.heap.size w w' := by
  have hcap := h.cap
  by_cases h0 : l.length = 0
  · have e : rightE l = 4 := if_pos (.inl (List.eq_nil_of_length_eq_zero h0))
    rw [e]
    go_enter Tryd.func20, Tryd.ntmps20
    go_wp2_with fail
    go_ret
    exact ⟨rfl, Below.refl _ _⟩
  by_cases h16 : 16 < l.length
  · have e : rightE l = 4 := if_pos (.inr h16)
    rw [e]
    go_enter Tryd.func20, Tryd.ntmps20
    go_wp2_with fail
    go_ret
    exact ⟨rfl, Below.refl _ _⟩
  have e : rightE l = firstNZ (kindE l) l.length := if_neg (by rintro (rfl | h); exact h0 rfl; exact h16 h)
  rw [e]
  clear e
  have d0 : ((l.length : Int) == 0) = false := by rw [beq_eq_false_iff_ne]; omega
  have d1 : decide (16 < (l.length : Int)) = false := by simp; omega
  go_enter Tryd.func20, Tryd.ntmps20
  go_wp2_with fail
  go_loopw [16] (fun i wr => ∃ j : Nat, j ≤ l.length ∧ i = .int .i64 j ∧ (∀ i, i < j → kindE l i = 0) ∧ Below w.heap.size w wr) (fun i _ => l.length - (intOf i).toNat)
  case atStart => exact ⟨0, Nat.zero_le _, rfl, fun _ h => by omega, Below.refl _ _⟩
  case round =>
    obtain ⟨j, hj, rfl, hno, br⟩ := hrel
    have HZ := Lib.hid hno
    clear hno
    by_cases hlt : j < l.length
    · obtain ⟨b, off, rfl, hc⟩ := (h.below br).shape (by omega)
      obtain ⟨B, d, g0, g1, hs⟩ := hc j hlt
      clear hc
      have hd : (j : Int) ≤ (c : Int) := by have := h.2.2.1; omega
      have hd2 : j ≤ c := by omega
      have hlj := hl l[j] (List.getElem_mem _)
      obtain ⟨W, hW⟩ : ∃ W, W = wr.alloc (.cells #[Value.string (str l[j].1), .slice B l[j].2.length d] 40) := ⟨_, rfl⟩
      have bl : Below wr.heap.size wr W := by rw [hW]; exact (Below.refl _ _).alloc (Nat.le_refl _) _
      have c0 : W.cell? ⟨wr.heap.size, 0, none⟩ = some (.string (str l[j].1)) := by rw [hW]; go_simp
      have c1 : W.cell? ⟨wr.heap.size, 1, none⟩ = some (.slice B l[j].2.length d) := by rw [hW]; go_simp
      have HW := Lib.hid hW
      have BW := br.trans (bl.mono br.size)
      have hTW := hT.below BW
      have hKW := (h.below BW).take j
      have hSW := hs.below bl
      clear hW
      go_wp2_with fail
      rw [← HW.out]
      obtain ⟨r, hr⟩ : ∃ r, rightK (l.take j) l[j] = r := ⟨_, rfl⟩
      have HR := Lib.hid hr
      clear hr
      go_region_held3 (fun w' => w'.cell? ⟨wr.heap.size, 0, none⟩ = some (.string (str l[j].1)) ∧ w'.cell? ⟨wr.heap.size, 1, none⟩ = some (.slice B l[j].2.length d))
        (first | exact K3.out | exact ⟨c0, c1⟩)
        ((go_at_call 40; refine (rightKind_any (l.take j) j (by simp; omega) _ c l[j] B d _ (hKW.below (Below.refl _ _).drew) (hSW.below (Below.refl _ _).drew) (hTW.below (Below.refl _ _).drew) hlj.1 hlj.2).mono ?_; rw [HR.out]; rintro e w3 ⟨rfl, b3'⟩; have b3 : Below W.heap.size W w3 := (Below.refl _ W).drew.trans b3'; have K3 : Hid (w3.cell? ⟨wr.heap.size, 0, none⟩ = some (.string (str l[j].1)) ∧ w3.cell? ⟨wr.heap.size, 1, none⟩ = some (.slice B l[j].2.length d)) := Lib.hid ⟨(b3.cell (World.block_lt_of_cell? _ _ c0)).trans c0, (b3.cell (World.block_lt_of_cell? _ _ c1)).trans c1⟩; clear b3'))
      have BE := BW.trans (b3.mono BW.size)
      clear K3 c0 c1
      by_cases hr0 : r = 0
      · have hz := (kindE_at hlt).trans (HR.out.trans hr0)
        have HE := Lib.hid hz
        clear hz HR
        subst hr0
        go_wp2_with fail
        go_roundw
        case rel => exact ⟨j + 1, by omega, by go_num, (fun i hi => by
          by_cases e : i = j
          · subst e; exact HE.out
          · exact HZ.out i (by omega)), BE⟩
        case measure => simp [intOf]; omega
      · have hrn : (r != 0) = true := by simp [hr0]
        have hz := (kindE_at hlt).trans HR.out
        have HE := Lib.hid hz
        clear hz
        go_wp2_with fail
        go_ret
        refine ⟨ret_int ?_, BE⟩
        rw [firstNZ_at (by rw [HE.out]; exact hr0) HZ.out hlt, HE.out]
    · go_wp2_with fail
      go_ret
      exact ⟨ret_int (firstNZ_zero fun i hi => HZ.out i (by omega)).symm, br⟩
end Go.Proofs.YtkoomphkbiifhaaDoor
