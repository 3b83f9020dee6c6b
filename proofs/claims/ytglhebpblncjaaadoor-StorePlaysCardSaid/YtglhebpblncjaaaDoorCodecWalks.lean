/- What the functions of package codec return, as contracts: Put, Get, Set, Int and GetInt, called in any memory. -/
import Derived.Test.YtglhebpblncjaaaDoorBase
import Derived.Test.YtglhebpblncjaaaDoorCodecMath
import Derived.Outline
import Derived.Laws.IdiomStrings
namespace Go.Proofs.YtglhebpblncjaaaDoor
open Go.RowKit
set_option linter.unusedVariables false

theorem info_u8 : (Tryd.prog.info? 5).map (fun i => (i.zero, i.size, i.bytes)) = some (some (.int .u8 0), 1, 1) := by kernel_rfl
theorem made_bytes (W : Nat) : madeCells (Value.int IntKind.u8 0).cells W = bcells (List.replicate W 0) := by
  have h : (madeCells #[Value.int IntKind.u8 0] W).toList = List.replicate W (Value.int IntKind.u8 0) := toList_madeCells_one _ W
  apply Array.toList_inj.1
  have e : (Value.int IntKind.u8 0).cells = #[Value.int IntKind.u8 0] := rfl
  rw [e, h]
  simp [bcells]
theorem make_bytes (W : Nat) (h8 : W ≤ 8) (w : World) : (Instr.makeSlice 57 (.int .i64 W) (.int .i64 W)).run Tryd.prog w = .ok (.slice (some ⟨w.heap.size, 0, none⟩) W W) (w.alloc (.cells (bcells (List.replicate W 0)) 5)) := by
  obtain ⟨i0, hi, hz0, hz1, hz2⟩ := info_parts info_u8
  have h := run_make (P := Tryd.prog) w 57 5 i0 (.int .u8 0) Tryd.underlying57 hi hz0 .i64 .i64 W W (by omega) (by omega) (by rw [hz2]; omega) (by omega)
  rw [hz1] at h
  simp only [Int.toNat_natCast, Nat.mul_one] at h
  rw [made_bytes W] at h
  exact h
def part (p : List UInt8) (k : Nat) : List UInt8 := p.take k ++ List.replicate (p.length - k) 0
theorem part_zero (W N : Nat) : part (put W N) 0 = List.replicate W 0 := by simp [part, put_length]
theorem part_all (p : List UInt8) : part p p.length = p := by simp [part]
theorem part_length (p : List UInt8) (k : Nat) (h : k ≤ p.length) : (part p k).length = p.length := by simp [part]; omega
theorem part_succ (p : List UInt8) (k : Nat) (h : k < p.length) : (part p k).set k p[k] = part p (k + 1) := by
  apply List.ext_getElem
  · rw [List.length_set, part_length _ _ (by omega), part_length _ _ (by omega)]
  · intro i h1 h2
    rw [List.length_set, part_length _ _ (by omega)] at h1
    simp only [part, List.getElem_set, List.getElem_append, List.length_take]
    by_cases e : k = i
    · subst e; simp; omega
    · by_cases h3 : i < k
      · simp only [e, if_false, List.getElem_take, List.getElem_replicate]
        rw [dif_pos (by omega), dif_pos (by omega)]
      · simp only [e, if_false, List.getElem_take, List.getElem_replicate]
        rw [dif_neg (by omega), dif_neg (by omega)]
theorem two_pow_bytes (j : Nat) : (2 : Int) ^ (8 * j) = ((256 ^ j : Nat) : Int) := by
  rw [Int.pow_mul, Int.natCast_pow]; rfl
theorem byte_val (W N k : Nat) (h : k < W) : ((N : Int) / 2 ^ (8 * (W - 1 - k)) % 256) = (((put W N)[k]'(by rw [put_length]; exact h)).toNat : Int) := by
  rw [put_get W N k h, ofNat_toNat (Nat.mod_lt _ (by omega)), two_pow_bytes, Int.natCast_emod, Int.natCast_ediv]
  rfl
theorem has_byte {wr : World} {g : Nat} {t : TypeId} {W N k : Nat} (h : Has wr g t (bcells (part (put W N) k))) (hlt : k < W) :
    Has (wr.setCell ⟨g, k, none⟩ (.int .u8 (↑N / 2 ^ (8 * (W - 1 - k)) % 256))) g t (bcells (part (put W N) (k + 1))) := by
  have hl : k < (put W N).length := by rw [put_length]; exact hlt
  have := h.put k (.int .u8 (↑N / 2 ^ (8 * (W - 1 - k)) % 256))
  rw [byte_val W N k hlt, bcells_set, part_succ _ _ hl] at this
  rw [byte_val W N k hlt]
  exact this
theorem conv_bytes {wr : World} {g W : Nat} {l : List UInt8} (h : Has wr g 5 (bcells l)) (hl : l.length = W) :
    (convert 57 9 (.slice (some ⟨g, 0, none⟩) W W)).run Tryd.prog wr = .ok (.string (str l)) wr := by
  subst hl
  refine run_convert_bytes_back wr 57 9 5 ⟨g, 0, none⟩ l.length l Tryd.underlying57 Tryd.underlying5 Tryd.underlying9 ?_
  intro j hj
  rw [Go.WideShapes.add_plain, Nat.zero_add]
  exact (h.cell j).trans (bcells_get l j hj)

set_option maxHeartbeats 400000 in
theorem bytes_any (W N : Nat) (w : World) (h1 : 1 ≤ W) (h8 : W ≤ 8) (hN : N < 18446744073709551616) :
    Calls Tryd.prog 69 #[.int .i64 W, .int .u64 N] w fun e w' => e = .returned (.string (str (put W N))) ∧ Below w.heap.size w w' := by
  have HN := Lib.hid hN
  clear hN
  go_enter Tryd.func69, Tryd.ntmps69
  have hm := make_bytes W h8
  go_wp2
  clear hm
  go_loopw [10] (fun i wr => ∃ k : Nat, k ≤ W ∧ i = .int .i64 k ∧ Has wr w.heap.size 5 (bcells (part (put W N) k)) ∧ Below w.heap.size w wr) (fun i _ => W - (intOf i).toNat)
  case atStart => exact ⟨0, by omega, rfl, by rw [part_zero]; exact heap_alloc_new w _, (Below.refl _ _).alloc (Nat.le_refl _) _⟩
  case round =>
    obtain ⟨k, hk, rfl, hh, hb⟩ := hrel
    by_cases hlt : k < W
    · have hf := hh.free k
      have hd : ∃ u, wr.cell? ⟨w.heap.size, k, none⟩ = some u := ⟨_, (hh.cell k).trans (bcells_get _ _ (by rw [part_length _ _ (by rw [put_length]; exact hk), put_length]; exact hlt))⟩
      obtain ⟨u, hu⟩ := hd
      have HH := Lib.hid hh
      have HB := Lib.hid hb
      clear hh hb
      go_wp2
      go_roundw
      case rel => exact ⟨k + 1, by omega, by go_num, has_byte HH.out hlt, HB.out.setCell (Nat.le_refl _) _⟩
      case measure => simp [intOf]; omega
    · obtain rfl : k = W := by omega
      have hc := conv_bytes (l := put k N) (by have := hh; rw [show part (put k N) k = put k N by have := part_all (put k N); rwa [put_length] at this] at this; exact this) (put_length k N)
      have HB := Lib.hid hb
      clear hh hb
      go_wp2
      go_ret
      exact ⟨rfl, HB.out⟩

/-- Does Put tell true? -/
def putk (W : Int) (N : Nat) : Bool := decide (1 ≤ W ∧ W ≤ 8 ∧ N < 256 ^ W.toNat)
def putv (W : Int) (N : Nat) : List UInt8 := if putk W N then put W.toNat N else []
theorem putk_yes {k N : Nat} (h1 : 1 ≤ k) (h8 : k ≤ 8) (h : N < 256 ^ k) : putk k N = true := by
  unfold putk; simp only [Int.toNat_natCast]; exact decide_eq_true ⟨by omega, by omega, h⟩
theorem putk_big {k N : Nat} (h : ¬ N < 256 ^ k) : putk k N = false := by
  unfold putk; simp only [Int.toNat_natCast]; exact decide_eq_false fun ⟨_, _, h'⟩ => h h'
theorem putk_out {W : Int} {N : Nat} (h : W < 1 ∨ 8 < W) : putk W N = false := by
  unfold putk; exact decide_eq_false fun ⟨_, _, _⟩ => by omega
theorem putv_yes {k N : Nat} (h : putk k N = true) : putv k N = put k N := by unfold putv; rw [h]; simp
theorem putv_no {W : Int} {N : Nat} (h : putk W N = false) : putv W N = [] := by unfold putv; rw [h]; simp
theorem shr_zero {k N : Nat} (h : N < 256 ^ k) : ((N : Int) / 2 ^ (8 * k) != 0) = false := by
  rw [two_pow_bytes, ← Int.natCast_ediv, Nat.div_eq_of_lt h]; rfl
theorem shr_some {k N : Nat} (h : ¬ N < 256 ^ k) : ((N : Int) / 2 ^ (8 * k) != 0) = true := by
  rw [two_pow_bytes, ← Int.natCast_ediv]
  have : 0 < N / 256 ^ k := Nat.div_pos (by omega) (Nat.pow_pos (by omega))
  simp only [bne_iff_ne]; omega

set_option maxHeartbeats 400000 in
theorem put_any (W : Int) (N : Nat) (w : World) (hN : N < 18446744073709551616) :
    Calls Tryd.prog 68 #[.int .i64 W, .int .u64 N] w fun e w' => e = .returned (.tuple #[.string (str (putv W N)), .bool (putk W N)]) ∧ Below w.heap.size w w' := by
  have HN := Lib.hid hN
  clear hN
  by_cases hl : W < 1
  · have H := Lib.hid (putk_out (N := N) (.inl hl))
    go_enter Tryd.func68, Tryd.ntmps68
    go_wp2
    go_ret2
    exact ⟨by rw [putv_no H.out, H.out]; rfl, Below.refl _ _⟩
  by_cases hh : 8 < W
  · have H := Lib.hid (putk_out (N := N) (.inr hh))
    go_enter Tryd.func68, Tryd.ntmps68
    go_wp2
    go_ret2
    exact ⟨by rw [putv_no H.out, H.out]; rfl, Below.refl _ _⟩
  obtain ⟨k, rfl⟩ : ∃ k : Nat, W = k := ⟨W.toNat, by omega⟩
  have h1 : 1 ≤ k := by omega
  have h8 : k ≤ 8 := by omega
  clear hl hh
  by_cases hb : N < 256 ^ k
  · have H := Lib.hid (putk_yes h1 h8 hb)
    have hs := shr_zero hb
    clear hb
    go_enter Tryd.func68, Tryd.ntmps68
    go_wp2_with (first | (go_at_call 69; refine (bytes_any k N _ h1 h8 HN.out).mono ?_; rintro e w' ⟨rfl, hb⟩) | go_in)
    go_ret2
    exact ⟨by rw [putv_yes H.out, H.out]; rfl, by assumption⟩
  · have H := Lib.hid (putk_big hb)
    have hs := shr_some hb
    clear hb
    go_enter Tryd.func68, Tryd.ntmps68
    go_wp2
    go_ret2
    exact ⟨by rw [putv_no H.out, H.out]; rfl, Below.refl _ _⟩

/-- What place lays: the text, and where to look. -/
def placed (s : ByteArray) (at_ : Int) (w : World) : World := (w.alloc (.cells #[.string s] 9)).alloc (.cells #[.int .i64 at_] 3)
def asker (g : Nat) : Value := .func (.func 74) #[] #[.pointer (some ⟨g, 0, none⟩), .pointer (some ⟨g + 1, 0, none⟩)]
set_option maxHeartbeats 400000 in
theorem place_yes (s : ByteArray) (i k : Nat) (w : World) (h1 : 1 ≤ k) (h8 : k ≤ 8) (hi : i + k ≤ s.size) (hs : s.size ≤ 4611686018427387904) :
    Calls Tryd.prog 73 #[.string s, .int .i64 i, .int .i64 k] w fun e w' => e = .returned (.tuple #[asker w.heap.size, .bool true]) ∧ placed s i w = w' := by
  go_enter Tryd.func73, Tryd.ntmps73
  go_wp2
  go_ret2
  exact ⟨rfl, rfl⟩
set_option maxHeartbeats 400000 in
theorem place_no (s : ByteArray) (at_ W : Int) (w : World) (h : W < 1 ∨ 8 < W ∨ at_ < 0 ∨ s.size < at_ + W) (hs : s.size ≤ 4611686018427387904) :
    Calls Tryd.prog 73 #[.string s, .int .i64 at_, .int .i64 W] w fun e w' => e = .returned (.tuple #[.nilFunc, .bool false]) ∧ placed s at_ w = w' := by
  by_cases h1 : W < 1
  · clear h
    go_enter Tryd.func73, Tryd.ntmps73
    go_wp2
    go_ret2
    exact ⟨rfl, rfl⟩
  by_cases h8 : 8 < W
  · clear h
    go_enter Tryd.func73, Tryd.ntmps73
    go_wp2
    go_ret2
    exact ⟨rfl, rfl⟩
  by_cases h0 : at_ < 0
  · clear h
    go_enter Tryd.func73, Tryd.ntmps73
    go_wp2
    go_ret2
    exact ⟨rfl, rfl⟩
  have h9 : s.size - W < at_ := by omega
  clear h
  go_enter Tryd.func73, Tryd.ntmps73
  go_wp2
  go_ret2
  exact ⟨rfl, rfl⟩
set_option maxHeartbeats 400000 in
theorem ask_any (s : ByteArray) (i j g : Nat) (w : World) (h : i + j < s.size) (hs : s.size ≤ 4611686018427387904)
    (h0 : w.cell? ⟨g, 0, none⟩ = some (.string s)) (h1 : w.cell? ⟨g + 1, 0, none⟩ = some (.int .i64 i)) :
    Calls Tryd.prog 74 #[.int .i64 j, .pointer (some ⟨g, 0, none⟩), .pointer (some ⟨g + 1, 0, none⟩)] w fun e w' => e = .returned (.int .u8 (s[i + j].toNat : Int)) ∧ w = w' := by
  go_enter Tryd.func74, Tryd.ntmps74
  go_wp2
  go_ret
  exact ⟨rfl, rfl⟩
end Go.Proofs.YtglhebpblncjaaaDoor
