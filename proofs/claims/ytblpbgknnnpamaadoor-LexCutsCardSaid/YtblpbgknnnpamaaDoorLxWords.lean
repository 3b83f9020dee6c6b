/- Layer 6: runes and texts: letters, digits, space, prefixes, signs. -/
import Derived.Test.YtblpbgknnnpamaaDoorLxDef
namespace Go.Proofs.YtblpbgknnnpamaaDoor
open Go.RowKit
set_option linter.unusedVariables false

theorem ret_bool {a b : Bool} (h : a = b) : Ending.returned (.bool a) = .returned (.bool b) := by rw [h]
theorem is_any (a b : Nm) (w : World) :
    Calls Tryd.prog 26 #[.string (str a), .string (str b)] w fun e w' => e = .returned (.bool (a == b)) ∧ w = w' := by
  go_enter Tryd.func26, Tryd.ntmps26
  go_wp2
  go_ret
  refine ⟨?_, rfl⟩
  simp [str_toList]
theorem same_any (a b : Nm) (w : World) :
    Calls Tryd.prog 17 #[.string (str a), .string (str b)] w fun e w' => e = .returned (.bool (a == b)) ∧ w = w' := by
  go_enter Tryd.func17, Tryd.ntmps17
  go_wp2_with (go_at_call 26; refine (is_any a b _).mono ?_; rintro e w' ⟨rfl, rfl⟩)
  go_ret
  exact ⟨rfl, rfl⟩
theorem begins_any (r : Int) (w : World) (h0 : 0 ≤ r) (h1 : r ≤ 1114111) :
    Calls Tryd.prog 19 #[.int .i32 r] w fun e w' => e = .returned (.bool (begB r)) ∧ w = w' := by
  go_enter Tryd.func19, Tryd.ntmps19
  go_wp2
  all_goals go_ret
  all_goals exact ⟨ret_bool (by first | rfl | (unfold begB; rw [Bool.eq_iff_iff]; simp; omega)), rfl⟩
theorem isDigit_any (r : Int) (w : World) (h0 : 0 ≤ r) (h1 : r ≤ 1114111) :
    Calls Tryd.prog 20 #[.int .i32 r] w fun e w' => e = .returned (.bool (digB r)) ∧ w = w' := by
  go_enter Tryd.func20, Tryd.ntmps20
  go_wp2
  all_goals go_ret
  all_goals exact ⟨ret_bool (by first | rfl | (unfold digB; rw [Bool.eq_iff_iff]; simp; omega)), rfl⟩
theorem ldigit_any (r : Int) (w : World) (h0 : 0 ≤ r) (h1 : r ≤ 1114111) :
    Calls Tryd.prog 21 #[.int .i32 r] w fun e w' => e = .returned (.bool (digB r)) ∧ w = w' := by
  go_enter Tryd.func21, Tryd.ntmps21
  go_wp2
  all_goals go_ret
  all_goals exact ⟨ret_bool (by first | rfl | (unfold digB; rw [Bool.eq_iff_iff]; simp; omega)), rfl⟩
theorem lspace_any (r : Int) (w : World) (h0 : 0 ≤ r) (h1 : r ≤ 1114111) :
    Calls Tryd.prog 25 #[.int .i32 r] w fun e w' => e = .returned (.bool (spB r)) ∧ w = w' := by
  go_enter Tryd.func25, Tryd.ntmps25
  go_wp2
  all_goals go_ret
  all_goals exact ⟨ret_bool (by first | rfl | (unfold spB; rw [Bool.eq_iff_iff]; simp <;> omega)), rfl⟩
theorem take_str (a : Nm) (k : Nat) : (str a).extract 0 k = str (a.take k) := by
  apply ByteArray.ext
  simp [str, ByteArray.data_extract]
theorem pfx_take (a b : Nm) (h : b.length ≤ a.length) : (a.take b.length == b) = b.isPrefixOf a := by
  rw [Bool.eq_iff_iff, beq_iff_eq, List.isPrefixOf_iff_prefix, List.prefix_iff_eq_take]
  exact eq_comm
theorem lite_any (a b : Nm) (w : World) :
    Calls Tryd.prog 33 #[.string (str a), .string (str b)] w fun e w' => e = .returned (.bool (b.isPrefixOf a)) ∧ w = w' := by
  have ha := str_size a
  have hb := str_size b
  by_cases h : b.length ≤ a.length
  · have e1 : decide ((a.length : Int) ≥ (b.length : Int)) = true := by simp; omega
    have e2 : (str a).extract 0 b.length = str (a.take b.length) := take_str a _
    go_enter Tryd.func33, Tryd.ntmps33
    go_wp2
    go_ret
    refine ⟨ret_bool ?_, rfl⟩
    rw [← pfx_take a b h]
    simp [str_toList]
  · have e1 : decide ((a.length : Int) ≥ (b.length : Int)) = false := by simp; omega
    have hf : b.isPrefixOf a = false := by
      rw [Bool.eq_false_iff, Ne, List.isPrefixOf_iff_prefix]
      intro hp
      exact h hp.length_le
    rw [hf]
    go_enter Tryd.func33, Tryd.ntmps33
    go_wp2
    go_ret
    exact ⟨rfl, rfl⟩
theorem prefix_any (a b : Nm) (w : World) :
    Calls Tryd.prog 28 #[.string (str a), .string (str b)] w fun e w' => e = .returned (.bool (b.isPrefixOf a)) ∧ w = w' := by
  go_enter Tryd.func28, Tryd.ntmps28
  go_wp2_with (go_at_call 33; refine (lite_any a b _).mono ?_; rintro e w' ⟨rfl, rfl⟩)
  go_ret
  exact ⟨rfl, rfl⟩

def sgC : Array Value := (sgT.map fun s => Value.string (str s)).toArray
theorem strs_new (w : World) (l : List Nm) (t : TypeId) (hl : l.length ≤ 1000000) : Strs (w.alloc (.cells ((l.map fun s => Value.string (str s)).toArray) t)) (some ⟨w.heap.size, 0, none⟩) l.length l := by
  refine ⟨fun i u hu => ⟨_, rfl, ?_⟩, (fun h => by cases h), Nat.le_refl _, by unfold maxLen; omega⟩
  rw [Go.WideShapes.add_plain, Nat.zero_add, cell_of_row _ w.heap.size i _ t (0, 0) (heap_alloc_new w _), List.getElem?_toArray]
  exact hu
set_option maxRecDepth 100000 in
theorem signs_any (w : World) :
    Calls Tryd.prog 13 #[] w fun e w' => ∃ A, e = .returned (.slice A 24 24) ∧ Strs w' A 24 sgT ∧ Below w.heap.size w w' := by
  have bl : Below w.heap.size w (w.alloc (.cells sgC 9)) := (Below.refl _ _).alloc (Nat.le_refl _) _
  have st : Strs (w.alloc (.cells sgC 9)) (some ⟨w.heap.size, 0, none⟩) 24 sgT := strs_new w sgT 9 (by decide)
  obtain ⟨W, hW⟩ : ∃ W, w.alloc (.cells sgC 9) = W := ⟨_, rfl⟩
  rw [hW] at bl st
  have hW2 : w.alloc (.cells #[.string { data := #[59] }, .string { data := #[33] }, .string { data := #[124] }, .string { data := #[40] }, .string { data := #[41] }, .string { data := #[123] }, .string { data := #[125] }, .string { data := #[44] }, .string { data := #[91] }, .string { data := #[93] }, .string { data := #[46] }, .string { data := #[43] }, .string { data := #[45] }, .string { data := #[42] }, .string { data := #[47] }, .string { data := #[37] }, .string { data := #[60] }, .string { data := #[62] }, .string { data := #[61, 61] }, .string { data := #[33, 61] }, .string { data := #[60, 61] }, .string { data := #[62, 61] }, .string { data := #[38, 38] }, .string { data := #[124, 124] }] 9) = W := hW
  clear hW
  go_enter Tryd.func13, Tryd.ntmps13
  go_wp2
  go_ret
  exact ⟨_, rfl, st, bl⟩
theorem sign1_any (x y : Nm) (p : Addr) (w : World) (hp : w.cell? p = some (.string (str y))) :
    Calls Tryd.prog 30 #[.string (str x), .pointer (some p)] w fun e w' => e = .returned (.bool (y.isPrefixOf x)) ∧ w = w' := by
  go_enter Tryd.func30, Tryd.ntmps30
  go_wp2_with (go_at_call 28; refine (prefix_any x y _).mono ?_; rintro e w' ⟨rfl, rfl⟩)
  go_ret
  exact ⟨rfl, rfl⟩
set_option maxHeartbeats 400000 in
theorem idxf_any (l : List Nm) (A : Option Addr) (c : Nat) (y : Nm) (p : Addr) (w : World) (h : Strs w A c l) (hp : w.cell? p = some (.string (str y))) :
    Calls Tryd.prog 34 #[.slice A l.length c, .func (Fn.func 30) #[] #[.pointer (some p)]] w fun e w' => e = .returned (.int .i64 (idx (fun x => y.isPrefixOf x) l)) ∧ w = w' := by
  have hcap := h.cap
  go_enter Tryd.func34, Tryd.ntmps34
  go_wp2
  go_loop [8] (fun i => ∃ k : Nat, k ≤ l.length ∧ i = .int .i64 k ∧ ∀ j (hj : j < l.length), j < k → y.isPrefixOf l[j] = false) (fun i => l.length - (intOf i).toNat)
  case atStart => exact ⟨0, Nat.zero_le _, rfl, fun _ _ h => by omega⟩
  case round =>
    obtain ⟨k, hk, rfl, hno⟩ := hrel
    by_cases hlt : k < l.length
    · obtain ⟨b, off, rfl, hc⟩ := h.shape (by omega)
      have hck := hc k hlt
      have HN := Lib.hid hno
      clear hc hno
      cases hh : y.isPrefixOf l[k] with
      | true =>
        go_wp2_with (go_at_call 30; refine (sign1_any l[k] y p _ hp).mono ?_; rw [hh]; rintro e w' ⟨rfl, rfl⟩)
        go_ret
        exact ⟨ret_int (idx_at (fun x => y.isPrefixOf x) l k hlt hh fun i hi hik => HN.out i hi hik).symm, rfl⟩
      | false =>
        go_wp2_with (go_at_call 30; refine (sign1_any l[k] y p _ hp).mono ?_; rw [hh]; rintro e w' ⟨rfl, rfl⟩)
        go_round
        case rel => exact ⟨k + 1, by omega, by go_num, fun j hj hjk => by
          by_cases e : j = k
          · subst e; exact hh
          · exact HN.out j hj (by omega)⟩
        case measure => simp [intOf]; omega
    · have HN := Lib.hid hno
      clear hno
      go_wp2
      go_ret
      exact ⟨ret_int (idx_none (fun x => y.isPrefixOf x) l fun i hi => HN.out i hi (by omega)).symm, rfl⟩
theorem idx_any_ge {α : Type} (p : α → Bool) (l : List α) : decide (idx p l ≥ 0) = l.any p := by
  unfold idx
  cases h : l.findIdx? p with
  | none =>
    rw [List.findIdx?_eq_none_iff] at h
    have : l.any p = false := by
      rw [Bool.eq_false_iff, Ne, List.any_eq_true]
      rintro ⟨x, hx, hp⟩
      rw [h x hx] at hp
      cases hp
    rw [this]
    rfl
  | some i =>
    obtain ⟨hi, hp, _⟩ := List.findIdx?_eq_some_iff_getElem.1 h
    have : l.any p = true := by
      rw [List.any_eq_true]
      exact ⟨l[i], List.getElem_mem _, hp⟩
    rw [this]
    simp
theorem idx_ge (p : Nm → Bool) (l : List Nm) : -1 ≤ idx p l ∧ (l.any p = true → 0 ≤ idx p l) ∧ (l.any p = false → idx p l = -1) := by
  have h := idx_any_ge p l
  have h1 : -1 ≤ idx p l := by unfold idx; split <;> omega
  refine ⟨h1, fun e => by rw [e] at h; simpa using h, fun e => ?_⟩
  rw [e] at h
  simp at h
  omega
theorem cfunc_any (l : List Nm) (A : Option Addr) (c : Nat) (y : Nm) (p : Addr) (w : World) (h : Strs w A c l) (hp : w.cell? p = some (.string (str y))) :
    Calls Tryd.prog 29 #[.slice A l.length c, .func (Fn.func 30) #[] #[.pointer (some p)]] w fun e w' => e = .returned (.bool (l.any fun x => y.isPrefixOf x)) ∧ w = w' := by
  obtain ⟨h1, h2, h3⟩ := idx_ge (fun x => y.isPrefixOf x) l
  have hx := idxf_any l A c y p w h hp
  generalize idx (fun x => y.isPrefixOf x) l = z at *
  generalize (l.any fun x => y.isPrefixOf x) = b at *
  have hd : decide (z ≥ 0) = b := by
    cases b
    · have := h3 rfl; subst this; rfl
    · simpa using h2 rfl
  have HD := Lib.hid hd
  clear hd h2 h3
  go_enter Tryd.func29, Tryd.ntmps29
  go_wp2_with (go_at_call 34; refine hx.mono ?_; rintro e w' ⟨rfl, rfl⟩)
  go_ret
  exact ⟨ret_bool HD.out, rfl⟩
set_option maxHeartbeats 400000 in
theorem index_any (l : List Nm) (A : Option Addr) (c : Nat) (y : Nm) (w : World) (h : Strs w A c l) :
    Calls Tryd.prog 36 #[.slice A l.length c, .string (str y)] w fun e w' => e = .returned (.int .i64 (idx (fun x => y == x) l)) ∧ w = w' := by
  have hcap := h.cap
  go_enter Tryd.func36, Tryd.ntmps36
  go_wp2
  go_loop [8] (fun i => ∃ k : Nat, k ≤ l.length ∧ i = .int .i64 k ∧ ∀ j (hj : j < l.length), j < k → (y == l[j]) = false) (fun i => l.length - (intOf i).toNat)
  case atStart => exact ⟨0, Nat.zero_le _, rfl, fun _ _ h => by omega⟩
  case round =>
    obtain ⟨k, hk, rfl, hno⟩ := hrel
    by_cases hlt : k < l.length
    · obtain ⟨b, off, rfl, hc⟩ := h.shape (by omega)
      have hck := hc k hlt
      have HN := Lib.hid hno
      clear hc hno
      have e0 : ((str y).toList == (str l[k]).toList) = (y == l[k]) := by rw [str_toList, str_toList]
      cases hh : (y == l[k]) with
      | true =>
        rw [hh] at e0
        go_wp2
        go_ret
        exact ⟨ret_int (idx_at (fun x => y == x) l k hlt hh fun i hi hik => HN.out i hi hik).symm, rfl⟩
      | false =>
        rw [hh] at e0
        go_wp2
        go_round
        case rel => exact ⟨k + 1, by omega, by go_num, fun j hj hjk => by
          by_cases e : j = k
          · subst e; exact hh
          · exact HN.out j hj (by omega)⟩
        case measure => simp [intOf]; omega
    · have HN := Lib.hid hno
      clear hno
      go_wp2
      go_ret
      exact ⟨ret_int (idx_none (fun x => y == x) l fun i hi => HN.out i hi (by omega)).symm, rfl⟩
theorem contains_any (l : List Nm) (A : Option Addr) (c : Nat) (y : Nm) (w : World) (h : Strs w A c l) :
    Calls Tryd.prog 32 #[.slice A l.length c, .string (str y)] w fun e w' => e = .returned (.bool (l.contains y)) ∧ w = w' := by
  have hcon : (l.any fun x => y == x) = l.contains y := by
    rw [List.contains_eq_any_beq]
  obtain ⟨h1, h2, h3⟩ := idx_ge (fun x => y == x) l
  have hx := index_any l A c y w h
  rw [← hcon]
  generalize idx (fun x => y == x) l = z at *
  generalize (l.any fun x => y == x) = b at *
  have hd : decide (z ≥ 0) = b := by
    cases b
    · have := h3 rfl; subst this; rfl
    · simpa using h2 rfl
  have HD := Lib.hid hd
  clear hd h2 h3
  go_enter Tryd.func32, Tryd.ntmps32
  go_wp2_with (go_at_call 36; refine hx.mono ?_; rintro e w' ⟨rfl, rfl⟩)
  go_ret
  exact ⟨ret_bool HD.out, rfl⟩
theorem bsign_any (y : Nm) (w : World) :
    Calls Tryd.prog 23 #[.string (str y)] w fun e w' => e = .returned (.bool (sgT.any fun x => y.isPrefixOf x)) ∧ Below w.heap.size w w' := by
  have hl : sgT.length = 24 := rfl
  have b1 : Below w.heap.size w (w.alloc (.cells #[Value.string (str y)] 9)) := (Below.refl _ _).alloc (Nat.le_refl _) _
  have hc1 : (w.alloc (.cells #[Value.string (str y)] 9)).cell? ⟨w.heap.size, 0, none⟩ = some (.string (str y)) := by
    rw [cell_of_row _ w.heap.size 0 _ 9 (0, 0) (heap_alloc_new w _)]; rfl
  go_enter Tryd.func23, Tryd.ntmps23
  go_wp2_with fail
  refine (signs_any _).mono ?_
  rintro e w1 ⟨A, rfl, hs, b2⟩
  have hc2 : w1.cell? ⟨w.heap.size, 0, none⟩ = some (.string (str y)) := (b2.cell (World.block_lt_of_cell? _ _ hc1)).trans hc1
  have B2 := b1.trans (b2.mono b1.size)
  go_wp2_with fail
  refine (cfunc_any sgT A 24 y _ w1 hs hc2).mono ?_
  rintro e w2 ⟨rfl, rfl⟩
  go_wp2_with fail
  go_ret
  exact ⟨rfl, B2⟩
end Go.Proofs.YtblpbgknnnpamaaDoor
