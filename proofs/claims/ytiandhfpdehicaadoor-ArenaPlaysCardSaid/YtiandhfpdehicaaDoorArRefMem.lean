/- How the reference's arena (package jettisonref03) lies in memory, by the same plain mathematics as the program's; its plain calls. -/
import Derived.Test.YtiandhfpdehicaaDoorArRef1
import Derived.Test.YtiandhfpdehicaaDoorArScene
namespace Go.Proofs.YtiandhfpdehicaaDoor
open Go.RowKit
set_option linter.unusedVariables false

/-- The cells of the reference's blocks. -/
def rcells (l : List Blk) : List Value := l.flatMap fun b => [.int .u32 b.g, .bool (b.r != 0), .int .i64 b.r, .string (str b.t)]
theorem rcells_cons (b : Blk) (l : List Blk) : rcells (b :: l) = [.int .u32 b.g, .bool (b.r != 0), .int .i64 b.r, .string (str b.t)] ++ rcells l := rfl
theorem rcells_len (l : List Blk) : (rcells l).length = l.length * 4 := by
  induction l with
  | nil => rfl
  | cons b r ih => rw [rcells_cons]; simp; omega
theorem rcells_get {l : List Blk} {i : Nat} (h : i < l.length) : (rcells l)[i * 4]? = some (.int .u32 (bk l i).g) ∧ (rcells l)[i * 4 + 1]? = some (.bool ((bk l i).r != 0)) ∧ (rcells l)[i * 4 + 2]? = some (.int .i64 (bk l i).r) ∧ (rcells l)[i * 4 + 3]? = some (.string (str (bk l i).t)) := by
  induction l generalizing i with
  | nil => simp at h
  | cons b r ih =>
    cases i with
    | zero => exact ⟨rfl, rfl, rfl, rfl⟩
    | succ i =>
      have h1 := ih (i := i) (by simpa using h)
      rw [bk_succ, rcells_cons, show (i + 1) * 4 = i * 4 + 4 by omega]
      simpa [List.getElem?_append, show i * 4 + 4 + 1 = (i * 4 + 1) + 4 by omega, show i * 4 + 4 + 2 = (i * 4 + 2) + 4 by omega, show i * 4 + 4 + 3 = (i * 4 + 3) + 4 by omega] using h1
theorem rcells_set (l : List Blk) (i : Nat) (b : Blk) : ((((rcells l).set (i * 4) (.int .u32 b.g)).set (i * 4 + 1) (.bool (b.r != 0))).set (i * 4 + 2) (.int .i64 b.r)).set (i * 4 + 3) (.string (str b.t)) = rcells (l.set i b) := by
  induction l generalizing i with
  | nil => simp [rcells]
  | cons c r ih =>
    cases i with
    | zero => rfl
    | succ i =>
      rw [List.set_cons_succ, rcells_cons, rcells_cons, ← ih i, show (i + 1) * 4 = i * 4 + 4 by omega, show i * 4 + 4 + 1 = (i * 4 + 1) + 4 by omega, show i * 4 + 4 + 2 = (i * 4 + 2) + 4 by omega, show i * 4 + 4 + 3 = (i * 4 + 3) + 4 by omega]
      rfl
theorem rcells_snoc (l : List Blk) (b : Blk) : rcells (l ++ [b]) = rcells l ++ [.int .u32 b.g, .bool (b.r != 0), .int .i64 b.r, .string (str b.t)] := by simp [rcells]
theorem rcells_one (l : List Blk) : ∀ u ∈ rcells l, u.oneCell' = true := by
  intro u hu
  simp only [rcells, List.mem_flatMap] at hu
  obtain ⟨b, _, hb⟩ := hu
  simp at hb
  rcases hb with rfl | rfl | rfl | rfl <;> rfl

/-- The reference's arena in memory: its own block is g, its blocks' slice v. -/
structure RfAt (w : World) (B g : Nat) (v : Value) (s : Ar) : Prop where
  low : B ≤ g
  ne : v.ownBlock ≠ some g
  wf : Wf s
  row : w.ownsRow B 69 4 v s.l.length (rcells s.l)
  blk : Has w g 56 #[.int .i64 s.cap, .int .i64 s.lim, v]
theorem RfAt.keep {w w' : World} {B g : Nat} {v : Value} {s : Ar} (h : RfAt w B g v s) (hk : ∀ k, k = g ∨ v.ownBlock = some k → w'.heap[k]? = w.heap[k]?) : RfAt w' B g v s :=
  ⟨h.low, h.ne, h.wf, owns_keep h.row fun k hkk => hk k (.inr hkk), (hk g (.inl rfl)).trans h.blk⟩
theorem RfAt.lt {w : World} {B g : Nat} {v : Value} {s : Ar} (h : RfAt w B g v s) : g < w.heap.size := h.blk.lt
theorem RfAt.vlt {w : World} {B g : Nat} {v : Value} {s : Ar} (h : RfAt w B g v s) : ∀ k, v.ownBlock = some k → B ≤ k ∧ k < w.heap.size := h.row.lt
theorem RfAt.below {w w' : World} {B g : Nat} {v : Value} {s : Ar} (h : RfAt w B g v s) (hb : Below w.heap.size w w') : RfAt w' B g v s :=
  h.keep fun k hk => hb.block k (by
    rcases hk with rfl | hk
    · exact h.lt
    · exact (h.vlt k hk).2)
theorem RfAt.slot {w : World} {B g : Nat} {v : Value} {s : Ar} (h : RfAt w B g v s) {i : Nat} (hi : i < s.l.length) :
    ∃ q cap, v = .slice (some ⟨q, 0, none⟩) s.l.length cap ∧ q ≠ g ∧ q < w.heap.size ∧ s.l.length ≤ cap ∧ w.cell? ⟨q, i * 4, none⟩ = some (.int .u32 (bk s.l i).g) ∧ w.cell? ⟨q, i * 4 + 1, none⟩ = some (.bool ((bk s.l i).r != 0)) ∧ w.cell? ⟨q, i * 4 + 2, none⟩ = some (.int .i64 (bk s.l i).r) ∧ w.cell? ⟨q, i * 4 + 3, none⟩ = some (.string (str (bk s.l i).t)) ∧ (∀ j, w.frozen? ⟨q, j, none⟩ = false) := by
  obtain ⟨g1, g2, g3, g4⟩ := rcells_get hi
  have hr := h.row
  rcases hr.2 with ⟨rfl, h0⟩ | ⟨q, cap, cur, rfl, hb, hgg, hc1, _⟩
  · omega
  · refine ⟨q, cap, rfl, fun e => h.ne (by rw [← e]; rfl), (hr.lt q rfl).2, hc1, ?_, ?_, ?_, ?_, fun j => hr.frozenAt j⟩
    · rw [hr.cellAt _ (by omega)]; exact g1
    · rw [hr.cellAt _ (by omega)]; exact g2
    · rw [hr.cellAt _ (by omega)]; exact g3
    · rw [hr.cellAt _ (by omega)]; exact g4

theorem refNew_yes (c : Int) (w : World) (h0 : 0 ≤ c) (h1 : c ≤ 16777216) :
    Calls Tryd.prog 6 #[.int .i64 c] w fun e w' => e = .returned (.pointer (some ⟨w.heap.size, 0, none⟩)) ∧ RfAt w' w.heap.size w.heap.size (.slice none 0 0) ⟨c, c, []⟩ ∧ Below w.heap.size w w' := by
  have HW := Lib.hid (new_wf h0 h1)
  go_enter Tryd.func6, Tryd.ntmps6
  go_wp2
  go_ret
  exact ⟨rfl, ⟨Nat.le_refl _, by simp [Value.ownBlock], HW.out, World.ownsRow_nil _ _ _ _, heap_alloc_new w _⟩, (Below.refl _ _).alloc (Nat.le_refl _) _⟩
theorem refNew_no (c : Int) (w : World) (h : c < 0 ∨ 16777216 < c) :
    Calls Tryd.prog 6 #[.int .i64 c] w fun e w' => e = .returned (.pointer none) ∧ w = w' := by
  rcases h with h | h
  all_goals
    go_enter Tryd.func6, Tryd.ntmps6
    go_wp2
    go_ret
    exact ⟨rfl, rfl⟩

theorem chg_take {l : List Blk} {k : Nat} (h : k < l.length) : chg (l.take (k + 1)) = chg (l.take k) + (bk l k).r := by
  rw [List.take_succ_eq_append_getElem h, chg_snoc, bk_of h]
theorem liv_take {l : List Blk} {k : Nat} (h : k < l.length) : liv (l.take (k + 1)) = liv (l.take k) + one (bk l k).r := by
  rw [List.take_succ_eq_append_getElem h, liv_snoc, bk_of h]
theorem chg_take_bd {l : List Blk} (h : Okl l) (k : Nat) : 0 ≤ chg (l.take k) ∧ chg (l.take k) ≤ 1024 * (k : Int) := by
  refine ⟨chg_ge fun b hb => h b (List.mem_of_mem_take hb), ?_⟩
  induction k with
  | zero => simp [chg]
  | succ k ih =>
    by_cases hk : k < l.length
    · rw [chg_take hk]
      have := (h.at_ k).2.1
      omega
    · rw [List.take_of_length_le (by omega)]
      rw [List.take_of_length_le (by omega)] at ih
      omega
theorem liv_take_bd (l : List Blk) (k : Nat) : 0 ≤ liv (l.take k) ∧ liv (l.take k) ≤ (k : Int) := by
  have h := liv_bd (l.take k)
  have h2 : (l.take k).length ≤ k := List.length_take_le _ _
  omega

set_option maxHeartbeats 800000 in
theorem refCharged_any {w : World} {B g : Nat} {v : Value} {s : Ar} (h : RfAt w B g v s) :
    Calls Tryd.prog 21 #[.pointer (some ⟨g, 0, none⟩)] w fun e w' => e = .returned (.int .i64 (chg s.l)) ∧ w = w' := by
  have c2 : w.cell? ⟨g, 2, none⟩ = some v := h.blk.cell 2
  have hn := h.wf.len
  obtain ⟨A, c, rfl⟩ := own_slice h.row
  have H := Lib.hid h
  clear h
  go_enter Tryd.func21, Tryd.ntmps21
  go_wp2
  go_loop [3, 4] (fun t i => ∃ k : Nat, k ≤ s.l.length ∧ i = .int .i64 k ∧ t = .int .i64 (chg (s.l.take k))) (fun _ i => s.l.length - (intOf i).toNat)
  case atStart => exact ⟨0, by omega, rfl, rfl⟩
  case round =>
    obtain ⟨k, hk, rfl, rfl⟩ := hrel
    have hb := chg_take_bd H.out.wf.ok k
    have hb1 := hb.1
    have hb2 := hb.2
    clear hb
    by_cases hlt : k < s.l.length
    · obtain ⟨q, cap, e, _, _, _, _, d1, d2, _, _⟩ := H.out.slot hlt
      simp only [Value.slice.injEq, true_and] at e
      obtain ⟨rfl, rfl⟩ := e
      have HN := Lib.hid (chg_take hlt)
      have hok := H.out.wf.ok.at_ k
      have hr1 := hok.2.1
      have hr0 : 0 ≤ (bk s.l k).r := by have := hok.1; omega
      clear hok
      generalize (bk s.l k).r = r at *
      by_cases hr : r = 0
      · have hr' : (r != 0) = false := by simpa using hr
        rw [hr'] at d1
        clear hr'
        have HR := Lib.hid hr
        clear hr
        go_wp2
        go_round
        case rel => exact ⟨k + 1, by omega, by go_num, by rw [HN.out, HR.out]; go_num⟩
        case measure => simp [intOf]; omega
      · have hr' : (r != 0) = true := by simpa using hr
        rw [hr'] at d1
        clear hr' hr
        go_wp2
        go_round
        case rel => exact ⟨k + 1, by omega, by go_num, by rw [HN.out]⟩
        case measure => simp [intOf]; omega
    · have HE : Hid (chg (s.l.take k) = chg s.l) := Lib.hid (by rw [List.take_of_length_le (by omega)])
      go_wp2
      go_ret
      exact ⟨ret_int HE.out, rfl⟩
set_option maxHeartbeats 800000 in
theorem refLive_any {w : World} {B g : Nat} {v : Value} {s : Ar} (h : RfAt w B g v s) :
    Calls Tryd.prog 23 #[.pointer (some ⟨g, 0, none⟩)] w fun e w' => e = .returned (.int .i64 (liv s.l)) ∧ w = w' := by
  have c2 : w.cell? ⟨g, 2, none⟩ = some v := h.blk.cell 2
  have hn := h.wf.len
  obtain ⟨A, c, rfl⟩ := own_slice h.row
  have H := Lib.hid h
  clear h
  go_enter Tryd.func23, Tryd.ntmps23
  go_wp2
  go_loop [3, 4] (fun t i => ∃ k : Nat, k ≤ s.l.length ∧ i = .int .i64 k ∧ t = .int .i64 (liv (s.l.take k))) (fun _ i => s.l.length - (intOf i).toNat)
  case atStart => exact ⟨0, by omega, rfl, rfl⟩
  case round =>
    obtain ⟨k, hk, rfl, rfl⟩ := hrel
    have hb := liv_take_bd s.l k
    have hb1 := hb.1
    have hb2 := hb.2
    clear hb
    by_cases hlt : k < s.l.length
    · obtain ⟨q, cap, e, _, _, _, _, d1, d2, _, _⟩ := H.out.slot hlt
      simp only [Value.slice.injEq, true_and] at e
      obtain ⟨rfl, rfl⟩ := e
      have HN := Lib.hid (liv_take hlt)
      generalize (bk s.l k).r = r at *
      by_cases hr : r = 0
      · have hr' : (r != 0) = false := by simpa using hr
        rw [hr'] at d1
        clear hr' d2
        have HR := Lib.hid hr
        clear hr
        go_wp2
        go_round
        case rel => exact ⟨k + 1, by omega, by go_num, by rw [HN.out, HR.out]; simp [one]⟩
        case measure => simp [intOf]; omega
      · have hr' : (r != 0) = true := by simpa using hr
        rw [hr'] at d1
        have HR := Lib.hid hr
        clear hr' hr d2
        go_wp2
        go_round
        case rel => exact ⟨k + 1, by omega, by go_num, by rw [HN.out, one, if_neg HR.out]⟩
        case measure => simp [intOf]; omega
    · have HE : Hid (liv (s.l.take k) = liv s.l) := Lib.hid (by rw [List.take_of_length_le (by omega)])
      go_wp2
      go_ret
      exact ⟨ret_int HE.out, rfl⟩
end Go.Proofs.YtiandhfpdehicaaDoor
