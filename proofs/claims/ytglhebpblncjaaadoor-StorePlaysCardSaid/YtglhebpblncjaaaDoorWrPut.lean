/- What Put of package wire tells, as a contract: an event in any memory is put to its bytes, or is refused. -/
import Derived.Test.YtglhebpblncjaaaDoorWrCatch
import Derived.Test.YtglhebpblncjaaaDoorInts
import Derived.Deep.RegionHeld3
namespace Go.Proofs.YtglhebpblncjaaaDoor
open Go.RowKit
set_option linter.unusedVariables false

/-- An event as a value. -/
def ev (K T : Int) (A : Option Addr) (n c : Nat) : Value := .agg #[.int .i64 K, .int .i64 T, .slice A n c]
/-- The bytes of numbers. -/
def vs : List Int → List UInt8
  | [] => []
  | n :: l => put 8 (u64n n) ++ vs l
theorem vs_length (l : List Int) : (vs l).length = 8 * l.length := by
  induction l with
  | nil => rfl
  | cons n l ih => simp [vs, put_length, ih]; omega
theorem vs_append (l r : List Int) : vs (l ++ r) = vs l ++ vs r := by
  induction l with
  | nil => rfl
  | cons n l ih => simp [vs, ih]
theorem vs_take {l : List Int} {k : Nat} (h : k < l.length) : vs (l.take (k + 1)) = vs (l.take k) ++ put 8 (u64n (l.getD k 0)) := by
  rw [List.take_succ_eq_append_getElem h, vs_append]
  simp [vs, List.getD, h]
/-- What stands ahead of the numbers. -/
def hd (K n : Nat) (T : Int) : List UInt8 := put 1 K ++ (put 1 n ++ put 8 (u64n T))
theorem hd_length (K n : Nat) (T : Int) : (hd K n T).length = 10 := by simp [hd, put_length]
/-- May the event be put? -/
def wok (K : Int) (l : List Int) : Bool := decide (0 ≤ K ∧ K ≤ 255 ∧ l.length ≤ 8)
def wput (K T : Int) (l : List Int) : List UInt8 := if wok K l then hd K.toNat l.length T ++ vs l else []
theorem wok_long {K : Int} {l : List Int} (h : 8 < l.length) : wok K l = false := by unfold wok; exact decide_eq_false fun ⟨_, _, _⟩ => by omega
theorem wok_kind {K : Int} {l : List Int} (h : K < 0 ∨ 255 < K) : wok K l = false := by unfold wok; exact decide_eq_false fun ⟨_, _, _⟩ => by omega
theorem wok_yes {K : Nat} {l : List Int} (h : K < 256) (h8 : l.length ≤ 8) : wok K l = true := by unfold wok; exact decide_eq_true ⟨by omega, by omega, h8⟩
theorem wput_no {K T : Int} {l : List Int} (h : wok K l = false) : wput K T l = [] := by unfold wput; rw [h]; rfl
theorem wput_yes {K : Nat} {T : Int} {l : List Int} (h : wok K l = true) : wput K T l = hd K l.length T ++ vs l := by unfold wput; rw [h]; rfl

theorem Has.three {w : World} {g : Nat} {t : TypeId} {a b c : Value} (h : Has w g t #[a, b, c]) : w.cell? ⟨g, 0, none⟩ = some a ∧ w.cell? ⟨g, 1, none⟩ = some b ∧ w.cell? ⟨g, 2, none⟩ = some c :=
  ⟨h.cell 0, h.cell 1, h.cell 2⟩

set_option maxHeartbeats 800000 in
theorem putEvent_long (K T : Int) (A : Option Addr) (n c : Nat) (w : World) (h : 8 < n) (hm : n ≤ maxLen) :
    Calls Tryd.prog 46 #[ev K T A n c] w fun e w' => e = .panicked (thrown 7) ∧ Below w.heap.size w w' := by
  unfold ev
  unfold maxLen at hm
  have hdec : decide ((n : Int) ≤ 8) = false := by simp; omega
  go_enter Tryd.func46, Tryd.ntmps46
  go_wp2_with fail
  refine (must_no 7 _).mono ?_
  rintro e w2 ⟨rfl, rfl⟩
  go_wp2
  exact ⟨rfl, rfl, (Below.refl _ _).alloc (Nat.le_refl _) _⟩
theorem Below.step {w w1 w2 : World} {B : Nat} (h : Below B w w1) (h2 : Below w1.heap.size w1 w2) (hB : B ≤ w.heap.size) : Below B w w2 := h.trans (h2.mono (Nat.le_trans hB h.size))
theorem Lies.drew {w : World} {A : Option Addr} {xs : List Value} (h : Lies w A xs) : Lies w.drew A xs := h
theorem Has.drew {w : World} {g : Nat} {t : TypeId} {cs : Array Value} (h : Has w g t cs) : Has w.drew g t cs := h
theorem Has.next {w w' : World} {g : Nat} {t : TypeId} {cs : Array Value} (h : Has w g t cs) (hb : Below w.heap.size w w') : Has w' g t cs := h.below hb h.lt

set_option maxHeartbeats 1600000 in
theorem putEvent_kind (K T : Int) (A : Option Addr) (n c : Nat) (w : World) (h : n ≤ 8) (N : Nat) (hN : IntKind.u64.wrap K = N) (hN1 : 256 ≤ N) (hN2 : N < 18446744073709551616) :
    Calls Tryd.prog 46 #[ev K T A n c] w fun e w' => e = .panicked (thrown 7) ∧ Below w.heap.size w w' := by
  unfold ev
  have HN := Lib.hid hN
  clear hN
  have hdec : decide ((n : Int) ≤ 8) = true := by simp; omega
  go_enter Tryd.func46, Tryd.ntmps46
  go_wp2_with fail
  refine (must_yes 7 _).mono ?_
  rintro e w2 ⟨rfl, rfl⟩
  have H0 : Has (w.alloc (.cells #[.int .i64 K, .int .i64 T, .slice A n c] 35)) w.heap.size 35 #[.int .i64 K, .int .i64 T, .slice A n c] := heap_alloc_new w _
  have HB := Lib.hid ((Below.refl w.heap.size w).alloc (Nat.le_refl _) (.cells #[.int .i64 K, .int .i64 T, .slice A n c] 35))
  generalize w.alloc (.cells #[.int .i64 K, .int .i64 T, .slice A n c] 35) = w0 at *
  have C0 := Lib.hid H0
  clear H0
  have hr := run_add_str [] (put 1 n) (by simp [put_length])
  have hr2 := run_add_str (put 1 n) (put 8 (u64n T)) (by simp [put_length])
  go_wp2_with fail
  refine Code.wp_mono (Q := fun e a w' => e = .panic (thrown 7) ∧ a.defers = [] ∧ Below w.heap.size w w') ?imp ?_
  case imp =>
    rintro e a w' ⟨rfl, hd, hb⟩
    go_wp2
    exact ⟨hd, rfl, hb⟩
  go_region_held (fun w' => w'.cell? ⟨w.heap.size, 0, none⟩ = some (.int .i64 K) ∧ w'.cell? ⟨w.heap.size, 1, none⟩ = some (.int .i64 T) ∧ w'.cell? ⟨w.heap.size, 2, none⟩ = some (.slice A n c))
    (first | exact C5.out.three | exact C4.out.three | exact C3.out.three | exact C0.out.three)
    (first
      | (have h9 := C3; clear h9; go_at_call 58; refine (putByte_yes n (by omega) _).mono ?_; rintro e w4 ⟨rfl, h4⟩; have C4 := Lib.hid (C3.out.next h4); clear h4)
      | (go_at_call 58; refine (putByte_no K N HN.out hN1 hN2 _).mono ?_; intro e w3 h3; have h4 : (e = .panicked (thrown 7) ∧ Below w0.heap.size w0.drew w3) ∨ (e = .returned (.string (str [])) ∧ Below w0.heap.size w0.drew w3 ∧ Hid False) := .inl h3; clear h3; rcases h4 with ⟨rfl, h3⟩ | ⟨rfl, h3, HF⟩; have h6 := HB.out.drew.trans (h3.mono HB.out.size); exact ⟨rfl, h6⟩; have C3 := Lib.hid (C0.out.drew.next h3); clear h3)
      | (go_at_call 59; refine (int_any T (u64n T) _ (wrap_u64n T) (u64n_lt T)).mono ?_; rintro e w5 ⟨rfl, h5⟩; have C5 := Lib.hid (C4.out.next h5); clear h5))
  exact HF.out.elim
set_option maxHeartbeats 1600000 in
theorem putEvent_yes (K : Nat) (T : Int) (A : Option Addr) (n c : Nat) (l : List Int) (w : World) (hK : K < 256) (h8 : n ≤ 8) (hl : l.length = n) (hr : Lies w A (ints l)) :
    Calls Tryd.prog 46 #[ev K T A n c] w fun e w' => e = .returned (.string (str (hd K n T ++ vs l))) ∧ Below w.heap.size w w' := by
  unfold ev
  have HR := Lib.hid (hr.alloc (.cells #[.int .i64 K, .int .i64 T, .slice A n c] 35))
  have HL := Lib.hid hl
  clear hr hl
  have hdec : decide ((n : Int) ≤ 8) = true := by simp; omega
  go_enter Tryd.func46, Tryd.ntmps46
  go_wp2_with fail
  refine (must_yes 7 _).mono ?_
  rintro e w2 ⟨rfl, rfl⟩
  have H0 : Has (w.alloc (.cells #[.int .i64 K, .int .i64 T, .slice A n c] 35)) w.heap.size 35 #[.int .i64 K, .int .i64 T, .slice A n c] := heap_alloc_new w _
  have HB := Lib.hid ((Below.refl w.heap.size w).alloc (Nat.le_refl _) (.cells #[.int .i64 K, .int .i64 T, .slice A n c] 35))
  generalize w.alloc (.cells #[.int .i64 K, .int .i64 T, .slice A n c] 35) = w0 at *
  have C0 := Lib.hid H0
  clear H0
  have hr1 := run_add_str (put 1 K) (put 1 n) (by simp [put_length])
  have hr2 := run_add_str (put 1 K ++ put 1 n) (put 8 (u64n T)) (by simp [put_length])
  go_wp2_with fail
  go_region_held3 (fun w' => w'.cell? ⟨w.heap.size, 0, none⟩ = some (.int .i64 K) ∧ w'.cell? ⟨w.heap.size, 1, none⟩ = some (.int .i64 T) ∧ w'.cell? ⟨w.heap.size, 2, none⟩ = some (.slice A n c))
    (first | exact C5.out.three | exact C4.out.three | exact C3.out.three | exact C0.out.three)
    (first
      | (have h9 := C3; clear h9; go_at_call 58; refine (putByte_yes n (by omega) _).mono ?_; rintro e w4 ⟨rfl, h4⟩; have C4 := Lib.hid (C3.out.next h4); have H4 := Lib.hid (Below.step H3.out h4 (Nat.le_refl _)); have R4 := Lib.hid (R3.out.below h4); clear h4)
      | (go_at_call 58; refine (putByte_yes K hK _).mono ?_; rintro e w3 ⟨rfl, h3⟩; have C3 := Lib.hid (C0.out.drew.next h3); have H3 := Lib.hid (Below.step HB.out.drew h3 (Nat.le_refl _)); have R3 := Lib.hid (HR.out.drew.below h3); clear h3)
      | (go_at_call 59; refine (int_any T (u64n T) _ (wrap_u64n T) (u64n_lt T)).mono ?_; rintro e w5 ⟨rfl, h5⟩; have C5 := Lib.hid (C4.out.next h5); have H5 := Lib.hid (Below.step H4.out h5 (Nat.le_refl _)); have R5 := Lib.hid (R4.out.below h5); clear h5))
  clear hr1 hr2 HB C0 C3 H3 C4 H4 HR R3 R4
  have c2 := C5.out.three.2.2
  clear C5
  rw [show put 1 K ++ (put 1 n ++ put 8 (u64n T)) = hd K n T from rfl]
  go_wp2_with fail
  go_loopw [3, 26] (fun s i wr => ∃ k : Nat, k ≤ n ∧ i = .int .i64 k ∧ s = .string (str (hd K n T ++ vs (l.take k))) ∧ Below w.heap.size w wr ∧ Lies wr A (ints l)) (fun _ i _ => n - (intOf i).toNat)
  case atStart => exact ⟨0, by omega, rfl, by simp [vs], H5.out, R5.out⟩
  case round =>
    obtain ⟨k, hk, rfl, rfl, hb, hrr⟩ := hrel
    clear H5 R5
    by_cases hlt : k < n
    · have hkl : k < l.length := by rw [HL.out]; exact hlt
      obtain ⟨b, off, rfl, hc⟩ := hrr.at_ (ints_get hkl)
      have HX := Lib.hid (vs_take hkl)
      have HRR := Lib.hid hrr
      have HBB := Lib.hid hb
      have hr3 := run_add_str (hd K n T ++ vs (l.take k)) (put 8 (u64n (l.getD k 0))) (by simp [put_length, hd_length, vs_length]; omega)
      clear hkl hrr hb
      generalize l.getD k 0 = x at *
      go_wp2_with fail
      refine (int_any x (u64n x) _ (wrap_u64n x) (u64n_lt x)).mono ?_
      rintro e w6 ⟨rfl, h6⟩
      have H6 := Lib.hid h6
      clear h6
      go_wp2
      go_roundw
      case rel => exact ⟨k + 1, by omega, by go_num, by simp only [HX.out], Below.step HBB.out H6.out (Nat.le_refl _), HRR.out.below H6.out⟩
      case measure => simp [intOf]; omega
    · obtain rfl : k = n := by omega
      have HX : Hid (l.take k = l) := Lib.hid (List.take_of_length_le (by rw [HL.out]; exact Nat.le_refl _))
      have HBB := Lib.hid hb
      clear hrr hb
      go_wp2
      go_ret
      exact ⟨by rw [HX.out]; rfl, HBB.out⟩

theorem has_new (w : World) (cs : Array Value) (t : TypeId) : Has (w.alloc (.cells cs t)) w.heap.size t cs := heap_alloc_new w _
theorem Has.alloc {w : World} {g : Nat} {t : TypeId} {cs : Array Value} (h : Has w g t cs) (o : Obj) : Has (w.alloc o) g t cs := (Below.heap_alloc w o g h.lt).trans h
theorem Has.set_other {w : World} {g : Nat} {t : TypeId} {cs : Array Value} (h : Has w g t cs) (p : Addr) (u : Value) (hp : p.block ≠ g) : Has (w.setCell p u) g t cs := (Below.heap_setCell w p u g (Ne.symm hp)).trans h
/-- Three new blocks, one behind the other. -/
theorem three_new (w : World) (c0 c1 c2 : Array Value) (t0 t1 t2 : TypeId) :
    Has (((w.alloc (.cells c0 t0)).alloc (.cells c1 t1)).alloc (.cells c2 t2)) w.heap.size t0 c0 ∧ Has (((w.alloc (.cells c0 t0)).alloc (.cells c1 t1)).alloc (.cells c2 t2)) (w.heap.size + 1) t1 c1 ∧
    Has (((w.alloc (.cells c0 t0)).alloc (.cells c1 t1)).alloc (.cells c2 t2)) (w.heap.size + 1 + 1) t2 c2 ∧ Below w.heap.size w (((w.alloc (.cells c0 t0)).alloc (.cells c1 t1)).alloc (.cells c2 t2)) := by
  have e1 : (w.alloc (.cells c0 t0)).heap.size = w.heap.size + 1 := by simp
  have e2 : ((w.alloc (.cells c0 t0)).alloc (.cells c1 t1)).heap.size = w.heap.size + 1 + 1 := by simp
  refine ⟨((has_new w c0 t0).alloc _).alloc _, ?_, ?_, (((Below.refl _ _).alloc (Nat.le_refl _) _).alloc (by omega) _).alloc (by omega) _⟩
  · rw [← e1]; exact (has_new _ c1 t1).alloc _
  · rw [← e2]; exact has_new _ c2 t2
set_option maxHeartbeats 1600000 in
theorem wput_no_ (K T : Int) (A : Option Addr) (n c : Nat) (w : World)
    (h : ∀ w, Calls Tryd.prog 46 #[ev K T A n c] w fun e w' => e = .panicked (thrown 7) ∧ Below w.heap.size w w') :
    Calls Tryd.prog 32 #[ev K T A n c] w fun e w' => e = .returned (.tuple #[.string (str []), .bool false]) ∧ Below w.heap.size w w' := by
  have hmf : ∀ (fn : Fn) (first cap : Array Value) (w : World), (Instr.makeFunc fn first cap).run Tryd.prog w = .ok (.func fn first cap) w := fun _ _ _ _ => rfl
  have HC := Lib.hid h
  clear h
  unfold ev at *
  go_enter_defers Tryd.func32, Tryd.ntmps32
  go_wp2_with fail
  refine (HC.out _).mono ?_
  rintro e w1 ⟨rfl, h1⟩
  have T0 := three_new w #[.int .i64 K, .int .i64 T, .slice A n c] #[.string (str [])] #[.bool false] 35 9 4
  have X1 := Lib.hid (Has.below T0.2.1 h1 T0.2.1.lt)
  have X2 := Lib.hid (Has.below T0.2.2.1 h1 T0.2.2.1.lt)
  have XB := Lib.hid (Below.step T0.2.2.2 h1 (Nat.le_refl _))
  clear T0 h1
  go_wp2
  refine leaves_cons (f := 45) (args := #[.pointer (some ⟨w.heap.size + 1, 0, none⟩), .pointer (some ⟨w.heap.size + 1 + 1, 0, none⟩)]) (by simp [thrown]) (by simp [go_sem]) ?_
  refine (pcatch_panicking ⟨w.heap.size + 1, 0, none⟩ ⟨w.heap.size + 1 + 1, 0, none⟩ _ _ 7 [] _ (X1.out.cell 0) (X1.out.free 0) (X2.out.cell 0) (X2.out.free 0) (by simp)).mono ?_
  rintro e u' w'' ⟨rfl, rfl, rfl⟩
  have Y1 := ((X1.out.put 0 (.string (str []))).set_other ⟨w.heap.size + 1 + 1, 0, none⟩ (.bool false) (by simp)).cell 0
  have Y2 := ((X2.out.set_other ⟨w.heap.size + 1, 0, none⟩ (.string (str [])) (by simp)).put 0 (.bool false)).cell 0
  simp at Y1 Y2
  simp [Leaves, settle, results, Tryd.results32, go_sem, Y1, Y2]
  exact (XB.out.setCell (p := ⟨w.heap.size + 1, 0, none⟩) (by simp) _).setCell (p := ⟨w.heap.size + 1 + 1, 0, none⟩) (by simp; omega) _
set_option maxHeartbeats 1600000 in
theorem wput_yes_ (K T : Int) (A : Option Addr) (n c : Nat) (w : World) (t : List UInt8)
    (h : ∀ w1, Below w.heap.size w w1 → Calls Tryd.prog 46 #[ev K T A n c] w1 fun e w' => e = .returned (.string (str t)) ∧ Below w1.heap.size w1 w') :
    Calls Tryd.prog 32 #[ev K T A n c] w fun e w' => e = .returned (.tuple #[.string (str t), .bool true]) ∧ Below w.heap.size w w' := by
  have hmf : ∀ (fn : Fn) (first cap : Array Value) (w : World), (Instr.makeFunc fn first cap).run Tryd.prog w = .ok (.func fn first cap) w := fun _ _ _ _ => rfl
  have HC := Lib.hid h
  clear h
  unfold ev at *
  go_enter_defers Tryd.func32, Tryd.ntmps32
  go_wp2_with fail
  have T0 := three_new w #[.int .i64 K, .int .i64 T, .slice A n c] #[.string (str [])] #[.bool false] 35 9 4
  refine (HC.out _ T0.2.2.2).mono ?_
  rintro e w1 ⟨rfl, h1⟩
  have X1 := Lib.hid (Has.below T0.2.1 h1 T0.2.1.lt)
  have X2 := Lib.hid (Has.below T0.2.2.1 h1 T0.2.2.1.lt)
  have XB := Lib.hid (Below.step T0.2.2.2 h1 (Nat.le_refl _))
  clear T0 h1
  have c1 := X1.out.cell 0
  have f1 := X1.out.free 0
  have c2 := X2.out.cell 0
  have f2 := X2.out.free 0
  simp at c1 c2
  go_wp2
  refine leaves_cons (f := 45) (args := #[.pointer (some ⟨w.heap.size + 1, 0, none⟩), .pointer (some ⟨w.heap.size + 1 + 1, 0, none⟩)]) (by simp) (by simp [go_sem]) ?_
  refine (pcatch_idle ⟨w.heap.size + 1, 0, none⟩ ⟨w.heap.size + 1 + 1, 0, none⟩ _).mono ?_
  rintro e u' w'' ⟨rfl, rfl, rfl⟩
  have Y1 := ((X1.out.put 0 (.string (str t))).set_other ⟨w.heap.size + 1 + 1, 0, none⟩ (.bool true) (by simp)).cell 0
  have Y2 := ((X2.out.set_other ⟨w.heap.size + 1, 0, none⟩ (.string (str t)) (by simp)).put 0 (.bool true)).cell 0
  simp at Y1 Y2
  simp [Leaves, settle, results, Tryd.results32, go_sem, Y1, Y2]
  exact (XB.out.setCell (p := ⟨w.heap.size + 1, 0, none⟩) (by simp) _).setCell (p := ⟨w.heap.size + 1 + 1, 0, none⟩) (by simp; omega) _

/-- May it be put? Either way, in numbers. -/
theorem wok_cases (K : Int) (l : List Int) : (wok K l = true ∧ ∃ k : Nat, K = k ∧ k < 256 ∧ l.length ≤ 8) ∨ (wok K l = false ∧ (8 < l.length ∨ (l.length ≤ 8 ∧ (K < 0 ∨ 255 < K)))) := by
  by_cases h : 0 ≤ K ∧ K ≤ 255 ∧ l.length ≤ 8
  · exact .inl ⟨decide_eq_true h, K.toNat, by omega, by omega, h.2.2⟩
  · exact .inr ⟨decide_eq_false h, by omega⟩
theorem wput_any (K T : Int) (A : Option Addr) (n c : Nat) (l : List Int) (w : World) (hK0 : -9223372036854775808 ≤ K) (hK1 : K ≤ 9223372036854775807) (hl : l.length = n) (hm : n ≤ maxLen) (hr : Lies w A (ints l)) :
    Calls Tryd.prog 32 #[ev K T A n c] w fun e w' => e = .returned (.tuple #[.string (str (wput K T l)), .bool (wok K l)]) ∧ Below w.heap.size w w' := by
  rcases wok_cases K l with ⟨hk, k, rfl, hk1, h8⟩ | ⟨hk, h8 | ⟨h8, hb⟩⟩
  · rw [wput_yes hk, hk, hl]
    exact wput_yes_ k T A n c w _ fun w1 hb => putEvent_yes k T A n c l w1 hk1 (by omega) hl (hr.below hb)
  · rw [wput_no hk, hk]
    exact wput_no_ K T A n c w fun w1 => putEvent_long K T A n c w1 (by omega) hm
  · rw [wput_no hk, hk]
    refine wput_no_ K T A n c w fun w1 => putEvent_kind K T A n c w1 (by omega) (u64n K) (wrap_u64n K) ?_ (u64n_lt K)
    unfold u64n
    omega
set_option maxHeartbeats 400000 in
theorem wsize_any (K T : Int) (A : Option Addr) (n c : Nat) (l : List Int) (w : World) (hK0 : -9223372036854775808 ≤ K) (hK1 : K ≤ 9223372036854775807) (hl : l.length = n) (hm : n ≤ maxLen) (hr : Lies w A (ints l)) :
    Calls Tryd.prog 28 #[ev K T A n c] w fun e w' => e = .returned (.int .i64 ((wput K T l).length : Nat)) ∧ Below w.heap.size w w' := by
  have HP := Lib.hid (wput_any K T A n c l (w.alloc (.cells #[.int .i64 K, .int .i64 T, .slice A n c] 35)) hK0 hK1 hl hm (hr.alloc _))
  have HS := str_size (wput K T l)
  clear hr hl
  unfold ev at *
  go_enter Tryd.func28, Tryd.ntmps28
  go_wp2_with fail
  refine HP.out.mono ?_
  rintro e w1 ⟨rfl, h1⟩
  have XB := Lib.hid (Below.step ((Below.refl _ _).alloc (Nat.le_refl _) _) h1 (Nat.le_refl _))
  clear h1
  go_wp2
  go_ret
  exact ⟨rfl, XB.out⟩
end Go.Proofs.YtglhebpblncjaaaDoor
