/- Names held against one another. -/
import Derived.Test.YtkoomphkbiifhaaDoorScBase
namespace Go.Proofs.YtkoomphkbiifhaaDoor
open Go.RowKit
set_option linter.unusedVariables false

theorem ret_bool {a b : Bool} (h : a = b) : Ending.returned (.bool a) = .returned (.bool b) := by rw [h]
theorem is_any (a b : Nm) (w : World) :
    Calls Tryd.prog 51 #[.string (str a), .string (str b)] w fun e w' => e = .returned (.bool (a == b)) ∧ w = w' := by
  go_enter Tryd.func51, Tryd.ntmps51
  go_wp2
  go_ret
  refine ⟨?_, rfl⟩
  simp [str_toList]
theorem same_any (a b : Nm) (w : World) :
    Calls Tryd.prog 33 #[.string (str a), .string (str b)] w fun e w' => e = .returned (.bool (a == b)) ∧ w = w' := by
  go_enter Tryd.func33, Tryd.ntmps33
  go_wp2_with (go_at_call 51; refine (is_any a b _).mono ?_; rintro e w' ⟨rfl, rfl⟩)
  go_ret
  exact ⟨rfl, rfl⟩
theorem placef_any (x y : Nm) (p : Addr) (w : World) (hp : w.cell? p = some (.string (str y))) :
    Calls Tryd.prog 50 #[.string (str x), .pointer (some p)] w fun e w' => e = .returned (.bool (x == y)) ∧ w = w' := by
  go_enter Tryd.func50, Tryd.ntmps50
  go_wp2_with (go_at_call 33; refine (same_any x y _).mono ?_; rintro e w' ⟨rfl, rfl⟩)
  go_ret
  exact ⟨rfl, rfl⟩
set_option maxHeartbeats 400000 in
theorem idxs_any (l : List Nm) (A : Option Addr) (c : Nat) (y : Nm) (p : Addr) (w : World) (h : Strs w A c l) (hp : w.cell? p = some (.string (str y))) :
    Calls Tryd.prog 49 #[.slice A l.length c, .func (Fn.func 50) #[] #[.pointer (some p)]] w fun e w' => e = .returned (.int .i64 (idx (fun x => x == y) l)) ∧ w = w' := by
  have hcap := h.cap
  go_enter Tryd.func49, Tryd.ntmps49
  go_wp2
  go_loop [8] (fun i => ∃ k : Nat, k ≤ l.length ∧ i = .int .i64 k ∧ ∀ j (hj : j < l.length), j < k → (l[j] == y) = false) (fun i => l.length - (intOf i).toNat)
  case atStart => exact ⟨0, Nat.zero_le _, rfl, fun _ _ h => by omega⟩
  case round =>
    obtain ⟨k, hk, rfl, hno⟩ := hrel
    by_cases hlt : k < l.length
    · obtain ⟨b, off, rfl, hc⟩ := h.shape (by omega)
      have hck := hc k hlt
      have HN := Lib.hid hno
      clear hc hno
      go_wp2_with (go_at_call 50; refine (placef_any l[k] y p _ hp).mono ?_; rintro e w' ⟨rfl, rfl⟩)
      · have hh : (l[k] == y) = true := by assumption
        go_ret
        exact ⟨ret_int (idx_at (fun x => x == y) l k hlt hh fun i hi hik => HN.out i hi hik).symm, rfl⟩
      · have hh : (l[k] == y) = false := by assumption
        go_round
        case rel => exact ⟨k + 1, by omega, by go_num, fun j hj hjk => by
          by_cases e : j = k
          · subst e; exact hh
          · exact HN.out j hj (by omega)⟩
        case measure => simp [intOf]; omega
    · have HN := Lib.hid hno
      clear hno
      go_wp2
      go_ret
      exact ⟨ret_int (idx_none (fun x => x == y) l fun i hi => HN.out i hi (by omega)).symm, rfl⟩
theorem place_any (l : List Nm) (A : Option Addr) (c : Nat) (y : Nm) (w : World) (h : Strs w A c l) :
    Calls Tryd.prog 32 #[.slice A l.length c, .string (str y)] w fun e w' => e = .returned (.int .i64 (idx (fun x => x == y) l)) ∧ Below w.heap.size w w' := by
  have h2 : Strs (w.alloc (.cells #[Value.string (str y)] 9)) A c l := h.below ((Below.refl _ _).alloc (Nat.le_refl _) _)
  go_enter Tryd.func32, Tryd.ntmps32
  go_wp2_with (go_at_call 49; refine (idxs_any l A c y _ _ h2 (by go_simp)).mono ?_; rintro e w' ⟨rfl, rfl⟩)
  go_ret
  exact ⟨rfl, (Below.refl _ _).alloc (Nat.le_refl _) _⟩
theorem field_any (nm : Nm) (l : List Nm) (A : Option Addr) (c : Nat) (y : Nm) (w : World) (h : Strs w A c l) :
    Calls Tryd.prog 16 #[.agg #[.string (str nm), .slice A l.length c], .string (str y)] w fun e w' => e = .returned (.int .i64 (idx (fun x => x == y) l)) ∧ Below w.heap.size w w' := by
  have h2 : Strs (w.alloc (.cells #[Value.string (str nm), .slice A l.length c] 40)) A c l := h.below ((Below.refl _ _).alloc (Nat.le_refl _) _)
  go_enter Tryd.func16, Tryd.ntmps16
  go_wp2_with (go_at_call 32; refine (place_any l A c y _ h2).mono ?_; rintro e w' ⟨rfl, hb⟩)
  go_ret
  exact ⟨rfl, ((Below.refl _ _).alloc (Nat.le_refl _) _).trans (hb.mono (by simp))⟩
/-- One kind, as a value. -/
theorem findf_any (x y : Nm) (u : Value) (p : Addr) (w : World) (hp : w.cell? p = some (.string (str y))) (hpb : p.block < w.heap.size) :
    Calls Tryd.prog 42 #[.agg #[.string (str x), u], .pointer (some p)] w fun e w' => e = .returned (.bool (x == y)) ∧ Below w.heap.size w w' := by
  have hp2 : (w.alloc (.cells #[Value.string (str x), u] 40)).cell? p = some (.string (str y)) := (World.cell?_alloc_lt w _ p hpb).trans hp
  go_enter Tryd.func42, Tryd.ntmps42
  go_wp2_with (go_at_call 33; refine (same_any x y _).mono ?_; rintro e w' ⟨rfl, rfl⟩)
  go_ret
  exact ⟨rfl, (Below.refl _ _).alloc (Nat.le_refl _) _⟩
set_option maxHeartbeats 400000 in
theorem idxk_any (l : List Kd) (A : Option Addr) (c : Nat) (y : Nm) (p : Addr) (w : World) (h : Kinds w A c l) (hp : w.cell? p = some (.string (str y))) :
    Calls Tryd.prog 41 #[.slice A l.length c, .func (Fn.func 42) #[] #[.pointer (some p)]] w fun e w' => e = .returned (.int .i64 (idx (fun x => x.1 == y) l)) ∧ Below w.heap.size w w' := by
  have hcap := h.cap
  have hpb := World.block_lt_of_cell? _ _ hp
  go_enter Tryd.func41, Tryd.ntmps41
  go_wp2
  go_loopw [8] (fun i wr => ∃ k : Nat, k ≤ l.length ∧ i = .int .i64 k ∧ (∀ j (hj : j < l.length), j < k → (l[j].1 == y) = false) ∧ Below w.heap.size w wr) (fun i _ => l.length - (intOf i).toNat)
  case atStart => exact ⟨0, Nat.zero_le _, rfl, fun _ _ h => by omega, Below.refl _ _⟩
  case round =>
    obtain ⟨k, hk, rfl, hno, hb⟩ := hrel
    by_cases hlt : k < l.length
    · obtain ⟨b, off, rfl, hc⟩ := (h.below hb).shape (by omega)
      obtain ⟨B, d, hc0, hc1, _⟩ := hc k hlt
      have hp2 : wr.cell? p = some (.string (str y)) := (hb.cell hpb).trans hp
      have hpb2 := World.block_lt_of_cell? _ _ hp2
      have HN := Lib.hid hno
      clear hc hno hp
      go_wp2_with (go_at_call 42; refine (findf_any l[k].1 y _ p _ hp2 hpb2).mono ?_; rintro e w' ⟨rfl, hb2⟩)
      · have hh : (l[k].1 == y) = true := by assumption
        go_ret
        exact ⟨ret_int (idx_at (fun x : Kd => x.1 == y) l k hlt hh fun i hi hik => HN.out i hi hik).symm, hb.trans (hb2.mono hb.size)⟩
      · have hh : (l[k].1 == y) = false := by assumption
        go_roundw
        case rel => exact ⟨k + 1, by omega, by go_num, (fun j hj hjk => by
          by_cases e : j = k
          · subst e; exact hh
          · exact HN.out j hj (by omega)), hb.trans (hb2.mono hb.size)⟩
        case measure => simp [intOf]; omega
    · have HN := Lib.hid hno
      clear hno
      go_wp2
      go_ret
      exact ⟨ret_int (idx_none (fun x : Kd => x.1 == y) l fun i hi => HN.out i hi (by omega)).symm, hb⟩
theorem find_any (l : List Kd) (A : Option Addr) (c : Nat) (y : Nm) (w : World) (h : Kinds w A c l) :
    Calls Tryd.prog 22 #[.slice A l.length c, .string (str y)] w fun e w' => e = .returned (.int .i64 (idx (fun x => x.1 == y) l)) ∧ Below w.heap.size w w' := by
  have h2 : Kinds (w.alloc (.cells #[Value.string (str y)] 9)) A c l := h.below ((Below.refl _ _).alloc (Nat.le_refl _) _)
  go_enter Tryd.func22, Tryd.ntmps22
  go_wp2_with (go_at_call 41; refine (idxk_any l A c y _ _ h2 (by go_simp)).mono ?_; rintro e w' ⟨rfl, hb⟩)
  go_ret
  exact ⟨rfl, ((Below.refl _ _).alloc (Nat.le_refl _) _).trans (hb.mono (by simp))⟩

/- Two slices, one by one. -/
theorem eqs_false {α : Type} [BEq α] [LawfulBEq α] {a b : List α} {k : Nat} (ha : k < a.length) (hb : k < b.length) (h : (a[k] == b[k]) = false) : (a == b) = false := by
  rw [beq_eq_false_iff_ne]
  rintro rfl
  simp at h
theorem eqs_true {α : Type} [BEq α] [LawfulBEq α] {a b : List α} (hl : a.length = b.length) (h : ∀ i (h1 : i < a.length) (h2 : i < b.length), (a[i] == b[i]) = true) : (a == b) = true := by
  rw [beq_iff_eq]
  exact List.ext_getElem hl fun i h1 h2 => by simpa using h i h1 h2
theorem eqs_len {α : Type} [BEq α] [LawfulBEq α] {a b : List α} (hl : a.length ≠ b.length) : (a == b) = false := by
  rw [beq_eq_false_iff_ne]
  rintro rfl
  exact hl rfl
set_option maxHeartbeats 400000 in
theorem eqls_any (l m : List Nm) (A B : Option Addr) (c d : Nat) (w : World) (h : Strs w A c l) (h' : Strs w B d m) :
    Calls Tryd.prog 53 #[.slice A l.length c, .slice B m.length d, .func (Fn.func 33) #[] #[]] w fun e w' => e = .returned (.bool (l == m)) ∧ w = w' := by
  have hcap := h.cap
  have hcap' := h'.cap
  by_cases hl : l.length = m.length
  · have HL := Lib.hid hl
    have d1 : ((l.length : Int) != (m.length : Int)) = false := by simp; omega
    clear hl
    go_enter Tryd.func53, Tryd.ntmps53
    go_wp2
    go_loop [17] (fun i => ∃ k : Nat, k ≤ l.length ∧ i = .int .i64 k ∧ ∀ j (hj : j < l.length) (hj' : j < m.length), j < k → (l[j] == m[j]) = true) (fun i => l.length - (intOf i).toNat)
    case atStart => exact ⟨0, Nat.zero_le _, rfl, fun _ _ _ h => by omega⟩
    case round =>
      obtain ⟨k, hk, rfl, hno⟩ := hrel
      by_cases hlt : k < l.length
      · have hlt' : k < m.length := by have := HL.out; omega
        obtain ⟨b, off, rfl, hc⟩ := h.shape (by omega)
        obtain ⟨b', off', rfl, hc'⟩ := h'.shape (by omega)
        have hck := hc k hlt
        have hck' := hc' k hlt'
        have HN := Lib.hid hno
        clear hc hc' hno
        cases hh : (l[k] == m[k])
        · go_wp2_with (go_at_call 33; refine (same_any l[k] m[k] _).mono ?_; rintro e w' ⟨rfl, rfl⟩)
          go_ret
          exact ⟨ret_bool (eqs_false hlt hlt' hh).symm, rfl⟩
        · go_wp2_with (go_at_call 33; refine (same_any l[k] m[k] _).mono ?_; rintro e w' ⟨rfl, rfl⟩)
          go_round
          case rel => exact ⟨k + 1, by omega, by go_num, fun j hj hj' hjk => by
            by_cases e : j = k
            · subst e; exact hh
            · exact HN.out j hj hj' (by omega)⟩
          case measure => simp [intOf]; omega
      · have HN := Lib.hid hno
        clear hno
        go_wp2
        go_ret
        exact ⟨ret_bool (eqs_true HL.out fun i h1 h2 => HN.out i h1 h2 (by omega)).symm, rfl⟩
  · rw [eqs_len hl]
    have d1 : ((l.length : Int) != (m.length : Int)) = true := by simp; omega
    go_enter Tryd.func53, Tryd.ntmps53
    go_wp2
    go_ret
    exact ⟨rfl, rfl⟩
set_option maxHeartbeats 400000 in
theorem ksame_any (k m : Kd) (A B : Option Addr) (c d : Nat) (w : World) (h : Strs w A c k.2) (h' : Strs w B d m.2) :
    Calls Tryd.prog 44 #[.agg #[.string (str k.1), .slice A k.2.length c], .agg #[.string (str m.1), .slice B m.2.length d]] w fun e w' => e = .returned (.bool (k == m)) ∧ Below w.heap.size w w' := by
  have bl : Below w.heap.size w ((w.alloc (.cells #[Value.string (str k.1), .slice A k.2.length c] 40)).alloc (.cells #[Value.string (str m.1), .slice B m.2.length d] 40)) :=
    ((Below.refl _ _).alloc (Nat.le_refl _) _).alloc (by simp) _
  have h2 := h.below bl
  have h2' := h'.below bl
  have e0 : (k == m) = ((k.1 == m.1) && (k.2 == m.2)) := rfl
  rw [e0]
  clear e0
  cases hn : (k.1 == m.1) with
  | true =>
    go_enter Tryd.func44, Tryd.ntmps44
    go_wp2_with (first | (go_at_call 33; refine (same_any k.1 m.1 _).mono ?_; rintro e w' ⟨rfl, rfl⟩) | (go_at_call 53; refine (eqls_any k.2 m.2 A B c d _ h2 h2').mono ?_; rintro e w' ⟨rfl, rfl⟩))
    go_ret
    exact ⟨ret_bool (by simp), bl⟩
  | false =>
    go_enter Tryd.func44, Tryd.ntmps44
    go_wp2_with (first | (go_at_call 33; refine (same_any k.1 m.1 _).mono ?_; rintro e w' ⟨rfl, rfl⟩) | (go_at_call 53; refine (eqls_any k.2 m.2 A B c d _ h2 h2').mono ?_; rintro e w' ⟨rfl, rfl⟩))
    go_ret
    exact ⟨ret_bool (by simp), bl⟩
set_option maxHeartbeats 1000000 in
theorem eqlk_any (l m : List Kd) (A B : Option Addr) (c d : Nat) (w : World) (h : Kinds w A c l) (h' : Kinds w B d m) :
    Calls Tryd.prog 43 #[.slice A l.length c, .slice B m.length d, .func (Fn.func 44) #[] #[]] w fun e w' => e = .returned (.bool (l == m)) ∧ Below w.heap.size w w' := by
  have hcap := h.cap
  have hcap' := h'.cap
  by_cases hl : l.length = m.length
  · have HL := Lib.hid hl
    have d1 : ((l.length : Int) != (m.length : Int)) = false := by simp; omega
    clear hl
    go_enter Tryd.func43, Tryd.ntmps43
    go_wp2
    go_loopw [17] (fun i wr => ∃ k : Nat, k ≤ l.length ∧ i = .int .i64 k ∧ (∀ j (hj : j < l.length) (hj' : j < m.length), j < k → (l[j] == m[j]) = true) ∧ Below w.heap.size w wr) (fun i _ => l.length - (intOf i).toNat)
    case atStart => exact ⟨0, Nat.zero_le _, rfl, fun _ _ _ h => by omega, Below.refl _ _⟩
    case round =>
      obtain ⟨k, hk, rfl, hno, hb⟩ := hrel
      by_cases hlt : k < l.length
      · have hlt' : k < m.length := by have := HL.out; omega
        obtain ⟨b, off, rfl, hc⟩ := (h.below hb).shape (by omega)
        obtain ⟨b', off', rfl, hc'⟩ := (h'.below hb).shape (by omega)
        obtain ⟨A1, c1, g0, g1, s1⟩ := hc k hlt
        obtain ⟨A2, c2, g0', g1', s2⟩ := hc' k hlt'
        have HN := Lib.hid hno
        clear hc hc' hno
        have q0 := World.block_lt_of_cell? _ _ g0'
        have q1 := World.block_lt_of_cell? _ _ g1'
        have bl : Below wr.heap.size wr ((wr.alloc (.cells #[Value.string (str l[k].1), .slice A1 l[k].2.length c1] 40)).alloc (.cells #[Value.string (str m[k].1), .slice A2 m[k].2.length c2] 40)) :=
          ((Below.refl _ _).alloc (Nat.le_refl _) _).alloc (by simp) _
        have z1 := s1.below bl
        have z2 := s2.below bl
        cases hh : (l[k] == m[k])
        · go_wp2_with (go_at_call 44; refine (ksame_any l[k] m[k] A1 A2 c1 c2 _ z1 z2).mono ?_; rintro e w' ⟨rfl, hb2⟩)
          go_ret
          exact ⟨ret_bool (eqs_false hlt hlt' hh).symm, hb.trans ((bl.trans (hb2.mono bl.size)).mono hb.size)⟩
        · go_wp2_with (go_at_call 44; refine (ksame_any l[k] m[k] A1 A2 c1 c2 _ z1 z2).mono ?_; rintro e w' ⟨rfl, hb2⟩)
          go_roundw
          case rel => exact ⟨k + 1, by omega, by go_num, (fun j hj hj' hjk => by
            by_cases e : j = k
            · subst e; exact hh
            · exact HN.out j hj hj' (by omega)), hb.trans ((bl.trans (hb2.mono bl.size)).mono hb.size)⟩
          case measure => simp [intOf]; omega
      · have HN := Lib.hid hno
        clear hno
        go_wp2
        go_ret
        exact ⟨ret_bool (eqs_true HL.out fun i h1 h2 => HN.out i h1 h2 (by omega)).symm, hb⟩
  · rw [eqs_len hl]
    have d1 : ((l.length : Int) != (m.length : Int)) = true := by simp; omega
    go_enter Tryd.func43, Tryd.ntmps43
    go_wp2
    go_ret
    exact ⟨rfl, Below.refl _ _⟩
theorem sames_any (l m : List Kd) (A B : Option Addr) (c d : Nat) (w : World) (h : Kinds w A c l) (h' : Kinds w B d m) :
    Calls Tryd.prog 25 #[.slice A l.length c, .slice B m.length d] w fun e w' => e = .returned (.bool (l == m)) ∧ Below w.heap.size w w' := by
  go_enter Tryd.func25, Tryd.ntmps25
  go_wp2_with (go_at_call 43; refine (eqlk_any l m A B c d _ h h').mono ?_; rintro e w' ⟨rfl, hb⟩)
  go_ret
  exact ⟨rfl, hb⟩
end Go.Proofs.YtkoomphkbiifhaaDoor
