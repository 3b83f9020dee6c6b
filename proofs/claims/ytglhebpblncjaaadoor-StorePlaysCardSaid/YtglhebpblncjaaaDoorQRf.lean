/- What the functions of package jettisonref01 (the document's own answer to chapter 1) return, as contracts: Classes, Class, Round and Sum, called in any memory; they write nothing that was there. -/
import Derived.Test.YtglhebpblncjaaaDoorSizeCore
import Derived.Test.YtglhebpblncjaaaDoorArScene
import Derived.Deep.RegionHeld3
namespace Go.Proofs.YtglhebpblncjaaaDoor
open Go.RowKit
set_option linter.unusedVariables false

def filled7 : Array Value := #[.int .i64 16, .int .i64 32, .int .i64 64, .int .i64 128, .int .i64 256, .int .i64 512, .int .i64 1024]
theorem refClasses_any (w : World) :
    Calls Tryd.prog 64 #[] w fun e w' => e = .returned (.slice (some ⟨w.heap.size, 0, none⟩) 7 7) ∧ Has w' w.heap.size 3 filled7 ∧ Below w.heap.size w w' := by
  go_enter Tryd.func64, Tryd.ntmps64
  go_wp2
  go_ret
  exact ⟨rfl, heap_alloc_new w _, (Below.refl _ _).alloc (Nat.le_refl _) _⟩

theorem filled_at {k : Nat} (hk : k < 7) : filled7[k]? = some (.int .i64 (cv k)) := by
  match k, hk with
  | 0, _ => rfl
  | 1, _ => rfl
  | 2, _ => rfl
  | 3, _ => rfl
  | 4, _ => rfl
  | 5, _ => rfl
  | 6, _ => rfl

set_option maxHeartbeats 800000 in
theorem refClass_any (n : Int) (w : World) :
    Calls Tryd.prog 63 #[.int .i64 n] w fun e w' => e = .returned (.int .i64 (cls n)) ∧ Below w.heap.size w w' := by
  by_cases hn : n < 0
  · have H := Lib.hid (cls_neg hn)
    go_enter Tryd.func63, Tryd.ntmps63
    go_wp2_with fail
    refine (refClasses_any _).mono ?_
    rintro e w1 ⟨rfl, hh, hb⟩
    have HB := Lib.hid hb
    clear hh hb
    go_wp2
    go_loop [4] (fun i => i = .int .i64 0) (fun i => 7 - (intOf i).toNat)
    case atStart => rfl
    case round =>
      subst hrel
      go_wp2
      go_ret
      exact ⟨ret_int H.out.symm, HB.out⟩
  · have hn0 : 0 ≤ n := by omega
    clear hn
    go_enter Tryd.func63, Tryd.ntmps63
    go_wp2_with fail
    refine (refClasses_any _).mono ?_
    rintro e w1 ⟨rfl, hh, hb⟩
    have HB := Lib.hid hb
    have HH := Lib.hid hh
    clear hh hb
    go_wp2
    go_loop [4] (fun i => ∃ k : Nat, k ≤ 7 ∧ i = .int .i64 k ∧ (k = 0 ∨ cv (k - 1) < n)) (fun i => 7 - (intOf i).toNat)
    case atStart => exact ⟨0, by omega, rfl, .inl rfl⟩
    case round =>
      obtain ⟨k, hk, rfl, hlo⟩ := hrel
      have HL := Lib.hid hlo
      clear hlo
      by_cases hlt : k < 7
      · have hc : w1.cell? ⟨w.heap.size, k, none⟩ = some (.int .i64 (cv k)) := (HH.out.cell k).trans (filled_at hlt)
        by_cases hle : n ≤ cv k
        · have H := Lib.hid (cls_of k hlt hn0 HL.out hle)
          go_wp2
          go_ret
          exact ⟨ret_int H.out, HB.out⟩
        · go_wp2
          go_round
          case rel => exact ⟨k + 1, by omega, by go_num, .inr (by simpa using hle)⟩
          case measure => simp [intOf]; omega
      · have H : Hid (cls n = -1) := Lib.hid (cls_big (by
          rcases HL.out with h | h
          · omega
          · obtain rfl : k = 7 := by omega
            simpa [cv] using h))
        go_wp2
        go_ret
        exact ⟨ret_int H.out.symm, HB.out⟩

set_option maxHeartbeats 800000 in
theorem refRound_any (n : Int) (w : World) :
    Calls Tryd.prog 51 #[.int .i64 n] w fun e w' => e = .returned (.tuple #[.int .i64 (rnd n), .bool (rok n)]) ∧ Below w.heap.size w w' := by
  by_cases hn : 0 ≤ n ∧ n ≤ 1024
  · obtain ⟨k, hk, h1, h2, _, _⟩ := rnd_of hn.1 hn.2
    have H1 := Lib.hid h1
    have H2 := Lib.hid h2
    have H3 := Lib.hid (rok_yes hn.1 hn.2)
    clear h1 h2 hn
    go_enter Tryd.func51, Tryd.ntmps51
    go_wp2_with fail
    refine (refClass_any n _).mono ?_
    rintro e w1 ⟨rfl, hb⟩
    have HB := Lib.hid hb
    clear hb
    rw [H1.out]
    go_wp2_with fail
    refine (refClasses_any _).mono ?_
    rintro e w2 ⟨rfl, hh, hb⟩
    have HB2 : Hid (Below w.heap.size w w2) := Lib.hid (HB.out.trans (hb.mono HB.out.size))
    have hc : w2.cell? ⟨w1.heap.size, k, none⟩ = some (.int .i64 (cv k)) := (hh.cell k).trans (filled_at hk)
    clear hb hh HB
    go_wp2
    go_ret2
    exact ⟨by rw [H2.out, H3.out]; rfl, HB2.out⟩
  · have h1 : cls n = -1 := by
      by_cases h : n < 0
      · exact cls_neg h
      · exact cls_big (by omega)
    have H1 := Lib.hid h1
    have H2 := Lib.hid (rnd_no (n := n) (by omega))
    have H3 := Lib.hid (rok_no (n := n) (by omega))
    clear h1 hn
    go_enter Tryd.func51, Tryd.ntmps51
    go_wp2_with fail
    refine (refClass_any n _).mono ?_
    rintro e w1 ⟨rfl, hb⟩
    have HB := Lib.hid hb
    clear hb
    rw [H1.out]
    go_wp2
    go_ret2
    exact ⟨by rw [H2.out, H3.out]; rfl, HB.out⟩

end Go.Proofs.YtglhebpblncjaaaDoor
/- How the reference's arena (package jettisonref03) lies in memory, by the same plain mathematics as the program's; its plain calls. -/
namespace Go.Proofs.YtglhebpblncjaaaDoor
open Go.RowKit
set_option linter.unusedVariables false

/-- The cells of the reference's blocks. -/
def rcells (l : List Blk) : List Value := l.flatMap fun b => [.int .u32 b.g, .bool (b.r != 0), .int .i64 b.r, .string (str b.t)]
theorem rcells_cons (b : Blk) (l : List Blk) : rcells (b :: l) = [.int .u32 b.g, .bool (b.r != 0), .int .i64 b.r, .string (str b.t)] ++ rcells l := rfl
theorem rcells_len (l : List Blk) : (rcells l).length = l.length * 4 := by
  induction l with
  | nil => rfl
  | cons b r ih => rw [rcells_cons]; simp; omega
theorem rcells_get {l : List Blk} {i : Nat} (h : i < l.length) : (rcells l)[i * 4]? = some (.int .u32 (bk l i).g) ∧ (rcells l)[i * 4 + 1]? = some (.bool ((bk l i).r != 0)) ∧ (rcells l)[i * 4 + 2]? = some (.int .i64 (bk l i).r) ∧ (rcells l)[i * 4 + 3]? = some (.string (str (bk l i).t)) := by
  induction l generalizing i with
  | nil => simp at h
  | cons b r ih =>
    cases i with
    | zero => exact ⟨rfl, rfl, rfl, rfl⟩
    | succ i =>
      have h1 := ih (i := i) (by simpa using h)
      rw [bk_succ, rcells_cons, show (i + 1) * 4 = i * 4 + 4 by omega]
      simpa [List.getElem?_append, show i * 4 + 4 + 1 = (i * 4 + 1) + 4 by omega, show i * 4 + 4 + 2 = (i * 4 + 2) + 4 by omega, show i * 4 + 4 + 3 = (i * 4 + 3) + 4 by omega] using h1
theorem rcells_set (l : List Blk) (i : Nat) (b : Blk) : ((((rcells l).set (i * 4) (.int .u32 b.g)).set (i * 4 + 1) (.bool (b.r != 0))).set (i * 4 + 2) (.int .i64 b.r)).set (i * 4 + 3) (.string (str b.t)) = rcells (l.set i b) := by
  induction l generalizing i with
  | nil => simp [rcells]
  | cons c r ih =>
    cases i with
    | zero => rfl
    | succ i =>
      rw [List.set_cons_succ, rcells_cons, rcells_cons, ← ih i, show (i + 1) * 4 = i * 4 + 4 by omega, show i * 4 + 4 + 1 = (i * 4 + 1) + 4 by omega, show i * 4 + 4 + 2 = (i * 4 + 2) + 4 by omega, show i * 4 + 4 + 3 = (i * 4 + 3) + 4 by omega]
      rfl
theorem rcells_snoc (l : List Blk) (b : Blk) : rcells (l ++ [b]) = rcells l ++ [.int .u32 b.g, .bool (b.r != 0), .int .i64 b.r, .string (str b.t)] := by simp [rcells]
theorem rcells_one (l : List Blk) : ∀ u ∈ rcells l, u.oneCell' = true := by
  intro u hu
  simp only [rcells, List.mem_flatMap] at hu
  obtain ⟨b, _, hb⟩ := hu
  simp at hb
  rcases hb with rfl | rfl | rfl | rfl <;> rfl

/-- The reference's arena in memory: its own block is g, its blocks' slice v. -/
structure RfAt (w : World) (B g : Nat) (v : Value) (s : Ar) : Prop where
  low : B ≤ g
  ne : v.ownBlock ≠ some g
  wf : Wf s
  row : w.ownsRow B 99 4 v s.l.length (rcells s.l)
  blk : Has w g 67 #[.int .i64 s.cap, .int .i64 s.lim, v]
theorem RfAt.keep {w w' : World} {B g : Nat} {v : Value} {s : Ar} (h : RfAt w B g v s) (hk : ∀ k, k = g ∨ v.ownBlock = some k → w'.heap[k]? = w.heap[k]?) : RfAt w' B g v s :=
  ⟨h.low, h.ne, h.wf, owns_keep h.row fun k hkk => hk k (.inr hkk), (hk g (.inl rfl)).trans h.blk⟩
theorem RfAt.lt {w : World} {B g : Nat} {v : Value} {s : Ar} (h : RfAt w B g v s) : g < w.heap.size := h.blk.lt
theorem RfAt.vlt {w : World} {B g : Nat} {v : Value} {s : Ar} (h : RfAt w B g v s) : ∀ k, v.ownBlock = some k → B ≤ k ∧ k < w.heap.size := h.row.lt
theorem RfAt.below {w w' : World} {B g : Nat} {v : Value} {s : Ar} (h : RfAt w B g v s) (hb : Below w.heap.size w w') : RfAt w' B g v s :=
  h.keep fun k hk => hb.block k (by
    rcases hk with rfl | hk
    · exact h.lt
    · exact (h.vlt k hk).2)
theorem RfAt.slot {w : World} {B g : Nat} {v : Value} {s : Ar} (h : RfAt w B g v s) {i : Nat} (hi : i < s.l.length) :
    ∃ q cap, v = .slice (some ⟨q, 0, none⟩) s.l.length cap ∧ q ≠ g ∧ q < w.heap.size ∧ s.l.length ≤ cap ∧ w.cell? ⟨q, i * 4, none⟩ = some (.int .u32 (bk s.l i).g) ∧ w.cell? ⟨q, i * 4 + 1, none⟩ = some (.bool ((bk s.l i).r != 0)) ∧ w.cell? ⟨q, i * 4 + 2, none⟩ = some (.int .i64 (bk s.l i).r) ∧ w.cell? ⟨q, i * 4 + 3, none⟩ = some (.string (str (bk s.l i).t)) ∧ (∀ j, w.frozen? ⟨q, j, none⟩ = false) := by
  obtain ⟨g1, g2, g3, g4⟩ := rcells_get hi
  have hr := h.row
  rcases hr.2 with ⟨rfl, h0⟩ | ⟨q, cap, cur, rfl, hb, hgg, hc1, _⟩
  · omega
  · refine ⟨q, cap, rfl, fun e => h.ne (by rw [← e]; rfl), (hr.lt q rfl).2, hc1, ?_, ?_, ?_, ?_, fun j => hr.frozenAt j⟩
    · rw [hr.cellAt _ (by omega)]; exact g1
    · rw [hr.cellAt _ (by omega)]; exact g2
    · rw [hr.cellAt _ (by omega)]; exact g3
    · rw [hr.cellAt _ (by omega)]; exact g4

theorem refNew_yes (c : Int) (w : World) (h0 : 0 ≤ c) (h1 : c ≤ 16777216) :
    Calls Tryd.prog 9 #[.int .i64 c] w fun e w' => e = .returned (.pointer (some ⟨w.heap.size, 0, none⟩)) ∧ RfAt w' w.heap.size w.heap.size (.slice none 0 0) ⟨c, c, []⟩ ∧ Below w.heap.size w w' := by
  have HW := Lib.hid (new_wf h0 h1)
  go_enter Tryd.func9, Tryd.ntmps9
  go_wp2
  go_ret
  exact ⟨rfl, ⟨Nat.le_refl _, by simp [Value.ownBlock], HW.out, World.ownsRow_nil _ _ _ _, heap_alloc_new w _⟩, (Below.refl _ _).alloc (Nat.le_refl _) _⟩
theorem refNew_no (c : Int) (w : World) (h : c < 0 ∨ 16777216 < c) :
    Calls Tryd.prog 9 #[.int .i64 c] w fun e w' => e = .returned (.pointer none) ∧ w = w' := by
  rcases h with h | h
  all_goals
    go_enter Tryd.func9, Tryd.ntmps9
    go_wp2
    go_ret
    exact ⟨rfl, rfl⟩

theorem chg_take {l : List Blk} {k : Nat} (h : k < l.length) : chg (l.take (k + 1)) = chg (l.take k) + (bk l k).r := by
  rw [List.take_succ_eq_append_getElem h, chg_snoc, bk_of h]
theorem liv_take {l : List Blk} {k : Nat} (h : k < l.length) : liv (l.take (k + 1)) = liv (l.take k) + one (bk l k).r := by
  rw [List.take_succ_eq_append_getElem h, liv_snoc, bk_of h]
theorem chg_take_bd {l : List Blk} (h : Okl l) (k : Nat) : 0 ≤ chg (l.take k) ∧ chg (l.take k) ≤ 1024 * (k : Int) := by
  refine ⟨chg_ge fun b hb => h b (List.mem_of_mem_take hb), ?_⟩
  induction k with
  | zero => simp [chg]
  | succ k ih =>
    by_cases hk : k < l.length
    · rw [chg_take hk]
      have := (h.at_ k).2.1
      omega
    · rw [List.take_of_length_le (by omega)]
      rw [List.take_of_length_le (by omega)] at ih
      omega
theorem liv_take_bd (l : List Blk) (k : Nat) : 0 ≤ liv (l.take k) ∧ liv (l.take k) ≤ (k : Int) := by
  have h := liv_bd (l.take k)
  have h2 : (l.take k).length ≤ k := List.length_take_le _ _
  omega

set_option maxHeartbeats 800000 in
theorem refCharged_any {w : World} {B g : Nat} {v : Value} {s : Ar} (h : RfAt w B g v s) :
    Calls Tryd.prog 26 #[.pointer (some ⟨g, 0, none⟩)] w fun e w' => e = .returned (.int .i64 (chg s.l)) ∧ w = w' := by
  have c2 : w.cell? ⟨g, 2, none⟩ = some v := h.blk.cell 2
  have hn := h.wf.len
  obtain ⟨A, c, rfl⟩ := own_slice h.row
  have H := Lib.hid h
  clear h
  go_enter Tryd.func26, Tryd.ntmps26
  go_wp2
  go_loop [3, 4] (fun t i => ∃ k : Nat, k ≤ s.l.length ∧ i = .int .i64 k ∧ t = .int .i64 (chg (s.l.take k))) (fun _ i => s.l.length - (intOf i).toNat)
  case atStart => exact ⟨0, by omega, rfl, rfl⟩
  case round =>
    obtain ⟨k, hk, rfl, rfl⟩ := hrel
    have hb := chg_take_bd H.out.wf.ok k
    have hb1 := hb.1
    have hb2 := hb.2
    clear hb
    by_cases hlt : k < s.l.length
    · obtain ⟨q, cap, e, _, _, _, _, d1, d2, _, _⟩ := H.out.slot hlt
      simp only [Value.slice.injEq, true_and] at e
      obtain ⟨rfl, rfl⟩ := e
      have HN := Lib.hid (chg_take hlt)
      have hok := H.out.wf.ok.at_ k
      have hr1 := hok.2.1
      have hr0 : 0 ≤ (bk s.l k).r := by have := hok.1; omega
      clear hok
      generalize (bk s.l k).r = r at *
      by_cases hr : r = 0
      · have hr' : (r != 0) = false := by simpa using hr
        rw [hr'] at d1
        clear hr'
        have HR := Lib.hid hr
        clear hr
        go_wp2
        go_round
        case rel => exact ⟨k + 1, by omega, by go_num, by rw [HN.out, HR.out]; go_num⟩
        case measure => simp [intOf]; omega
      · have hr' : (r != 0) = true := by simpa using hr
        rw [hr'] at d1
        clear hr' hr
        go_wp2
        go_round
        case rel => exact ⟨k + 1, by omega, by go_num, by rw [HN.out]⟩
        case measure => simp [intOf]; omega
    · have HE : Hid (chg (s.l.take k) = chg s.l) := Lib.hid (by rw [List.take_of_length_le (by omega)])
      go_wp2
      go_ret
      exact ⟨ret_int HE.out, rfl⟩
end Go.Proofs.YtglhebpblncjaaaDoor
/- The chapter's examples, which each statement asks first, tell true. -/
namespace Go.Proofs.YtglhebpblncjaaaDoor
open Go.RowKit
set_option linter.unusedVariables false

def hello : List UInt8 := [104, 101, 108, 108, 111]
def ax0 : Ar := ⟨48, 48, []⟩
def ax1 : Ar := ⟨48, 48, [⟨hello, 16, 1⟩]⟩
def ax2 : Ar := ⟨48, 48, [⟨txt 16 2, 16, 1⟩]⟩
def ax3 : Ar := ⟨48, 48, [⟨[], 0, 2⟩]⟩
def ax4 : Ar := ⟨48, 48, [⟨[], 16, 2⟩]⟩
theorem x01 : alo ax0 hello = ax1 ∧ aslot ax0 (hello.length : Int) = 0 ∧ agen ax0 (hello.length : Int) = 1 ∧ aerr ax0 (hello.length : Int) = 0 := ⟨rfl, rfl, rfl, rfl⟩
theorem x11 : alo ax1 (txt 33 1) = ax1 ∧ aslot ax1 ((txt 33 1).length : Int) = 0 ∧ agen ax1 ((txt 33 1).length : Int) = 0 ∧ aerr ax1 ((txt 33 1).length : Int) = 9 := ⟨rfl, rfl, rfl, rfl⟩
theorem x1g : got ax1 0 1 = hello ∧ hit ax1.l 0 1 = true := ⟨rfl, rfl⟩
theorem x12 : pto ax1 0 1 (txt 16 2) = ax2 ∧ pok ax1 0 1 ((txt 16 2).length : Int) = true := ⟨rfl, rfl⟩
theorem x22 : pto ax2 0 1 (txt 17 2) = ax2 ∧ pok ax2 0 1 ((txt 17 2).length : Int) = false := ⟨rfl, rfl⟩
theorem x2l : sto ax2 8 = ax2 ∧ serr ax2 8 = 9 ∧ chg ax2.l = 16 := ⟨rfl, rfl, rfl⟩
theorem x23 : fro ax2 0 1 = ax3 ∧ hit ax2.l 0 1 = true := ⟨rfl, rfl⟩
theorem x3g : got ax3 0 1 = [] ∧ hit ax3.l 0 1 = false ∧ fro ax3 0 1 = ax3 := ⟨rfl, rfl, rfl⟩
theorem x34 : alo ax3 [] = ax4 ∧ aslot ax3 (([] : List UInt8).length : Int) = 0 ∧ agen ax3 (([] : List UInt8).length : Int) = 2 ∧ aerr ax3 (([] : List UInt8).length : Int) = 0 := ⟨rfl, rfl, rfl, rfl⟩
theorem x4l : liv ax4.l = 1 ∧ fits ax4 [32] = true ∧ fits ax4 [33] = false := ⟨rfl, rfl, rfl⟩
theorem Has.two {w : World} {g : Nat} {t : TypeId} {a b : Value} (h : Has w g t #[a, b]) : w.cell? ⟨g, 0, none⟩ = some a ∧ w.cell? ⟨g, 1, none⟩ = some b := ⟨h.cell 0, h.cell 1⟩
theorem Sc.box {w : World} {B g : Nat} {s : Ar} {K : List Nat} (h : Sc w B g s K) (o : Obj) : Sc (w.alloc o) B g s (w.heap.size :: K) := h.fresh ((Below.refl _ _).alloc (Nat.le_refl _) _) (Nat.le_refl _) (by simp)
theorem Sc.alloc {w : World} {B g : Nat} {s : Ar} {K : List Nat} (h : Sc w B g s K) (o : Obj) : Sc (w.alloc o) B g s K := h.below ((Below.refl _ _).alloc (Nat.le_refl _) _)
theorem Sc.kpa {w : World} {B g : Nat} {s : Ar} {K : List Nat} (h : Sc w B g s K) (o : Obj) : Kp B K w (w.alloc o) := h.kp ((Below.refl _ _).alloc (Nat.le_refl _) _)
theorem str_hello : str (got ax1 0 1) = ⟨#[104, 101, 108, 108, 111]⟩ := rfl
theorem small_len {n : Nat} (h : n ≤ 100000) : n ≤ maxLen := by unfold maxLen; omega

end Go.Proofs.YtglhebpblncjaaaDoor
/- A slice of handles that a statement owns, beside an arena: what an append onto it leaves, and its cells. -/
namespace Go.Proofs.YtglhebpblncjaaaDoor
open Go.RowKit
set_option linter.unusedVariables false

/-- The cells of handles. -/
def hcells (l : List (Int × Int)) : List Value := l.flatMap fun h => [.int .u32 h.1, .int .u32 h.2]
theorem hcells_len (l : List (Int × Int)) : (hcells l).length = l.length * 2 := by
  induction l with
  | nil => rfl
  | cons b r ih => simp only [hcells, List.flatMap_cons] at *; simp; simp at ih; omega
theorem hcells_snoc (l : List (Int × Int)) (h : Int × Int) : hcells (l ++ [h]) = hcells l ++ [.int .u32 h.1, .int .u32 h.2] := by simp [hcells]
theorem hcells_get {l : List (Int × Int)} {i : Nat} {h : Int × Int} (hi : l[i]? = some h) : (hcells l)[i * 2]? = some (.int .u32 h.1) ∧ (hcells l)[i * 2 + 1]? = some (.int .u32 h.2) := by
  induction l generalizing i with
  | nil => simp at hi
  | cons b r ih =>
    have e : hcells (b :: r) = [.int .u32 b.1, .int .u32 b.2] ++ hcells r := rfl
    cases i with
    | zero => simp at hi; subst hi; exact ⟨rfl, rfl⟩
    | succ i =>
      have h1 := ih (i := i) (by simpa using hi)
      rw [e, show (i + 1) * 2 = i * 2 + 2 by omega]
      simpa [List.getElem?_append, show i * 2 + 2 + 1 = (i * 2 + 1) + 2 by omega] using h1
theorem hcells_one (l : List (Int × Int)) : ∀ u ∈ hcells l, u.oneCell' = true := by
  intro u hu
  simp only [hcells, List.mem_flatMap] at hu
  obtain ⟨b, _, hb⟩ := hu
  simp at hb
  rcases hb with rfl | rfl <;> rfl

/-- The statement turns a block of its own, and makes memory, of which n is one of its own from now on. -/
theorem Sc.turnf {w w' : World} {B g : Nat} {s : Ar} {K : List Nat} (h : Sc w B g s K) {o : Option Nat} (ho : ∀ k, o = some k → k ∈ K) (hos : w'.os = w.os) (ht : w'.tape = w.tape) (hout : w'.output = w.output) (hs : w.heap.size ≤ w'.heap.size) (hb : ∀ k, k < w.heap.size → o ≠ some k → w'.heap[k]? = w.heap[k]?)
    {n : Nat} (h0 : w.heap.size ≤ n) (hn : n < w'.heap.size) : Sc w' B g s (n :: K) ∧ Below B w w' := by
  obtain ⟨v, h1, h2⟩ := h.ar
  have hg := h1.lt
  have bel : Below B w w' := ⟨hos, ht, hout, hs, fun k hk => hb k (Nat.lt_of_lt_of_le hk h.bl) (fun e => by have := (h2 k (ho k e)).1; omega)⟩
  refine ⟨⟨tab_bel h.tab h.tb bel, dbt_bel h.dbt h.db bel, h.tb, h.db, Nat.le_trans h.bl hs, v, h1.keep fun k hk => ?_, fun k hk => ?_⟩, bel⟩
  · refine hb k ?_ (fun e => ?_)
    · rcases hk with rfl | hk
      · exact hg
      · exact (h1.vlt k hk).2
    · have := h2 k (ho k e)
      rcases hk with rfl | hk
      · exact this.2.2.1 rfl
      · exact this.2.2.2 hk
  · rcases List.mem_cons.1 hk with rfl | hk
    · refine ⟨Nat.le_trans h.bl h0, hn, by omega, fun e => ?_⟩
      have := (h1.vlt _ e).2
      omega
    · exact ⟨(h2 k hk).1, Nat.lt_of_lt_of_le (h2 k hk).2.1 hs, (h2 k hk).2.2⟩

theorem info_handle : (Tryd.prog.info? 78).map (fun i => (i.zero, i.size, i.bytes)) = some (some (.agg #[.int .u32 0, .int .u32 0]), 2, 8) := by kernel_rfl
theorem pair_lies (w : World) (a b : Int) : ∀ j u, [Value.int .u32 a, .int .u32 b][j]? = some u → (w.alloc (.cells #[.int .u32 a, .int .u32 b] 78)).cell? ((⟨w.heap.size, 0, none⟩ : Addr).add j) = some u := by
  intro j u hu
  rw [Go.WideShapes.add_plain, Nat.zero_add, cell_of_row _ w.heap.size j #[.int .u32 a, .int .u32 b] 78 (0, 0) (heap_alloc_new w _)]
  simpa using hu
/-- What an append of a handle leaves, beside an arena. -/
def Apped (B g : Nat) (s : Ar) (K : List Nat) (v : Value) (l : List (Int × Int)) (h : Int × Int) (w : World) (v' : Value) (w' : World) : Prop :=
  w'.ownsRow B 78 2 v' (l.length + 1) (hcells (l ++ [h])) ∧ Sc w' B g s (v'.ownBlock.toList ++ K) ∧ Below B w w' ∧ (∀ k, k < w.heap.size → v.ownBlock ≠ some k → w'.heap[k]? = w.heap[k]?) ∧ (v'.ownBlock = v.ownBlock ∨ ∃ n, v'.ownBlock = some n ∧ w.heap.size ≤ n)
/-- The slice written out, and the cells of a handle of it. -/
theorem hs_at {w : World} {B : Nat} {v : Value} {n : Nat} {l : List (Int × Int)} (hown : w.ownsRow B 78 2 v n (hcells l)) {i : Nat} {h : Int × Int} (hi : l[i]? = some h) :
    ∃ q cap, v = .slice (some ⟨q, 0, none⟩) n cap ∧ n ≤ cap ∧ w.cell? ⟨q, i * 2, none⟩ = some (.int .u32 h.1) ∧ w.cell? ⟨q, i * 2 + 1, none⟩ = some (.int .u32 h.2) := by
  have hlen : (hcells l).length = n * 2 := by simpa using hown.1
  obtain ⟨g1, g2⟩ := hcells_get hi
  have hil : i < l.length := by
    rcases Nat.lt_or_ge i l.length with h1 | h1
    · exact h1
    · rw [List.getElem?_eq_none h1] at hi; cases hi
  rw [hcells_len] at hlen
  rcases hown.2 with ⟨rfl, h0⟩ | ⟨q, cap, cur, rfl, hb, hgg, hc1, _⟩
  · omega
  · refine ⟨q, cap, rfl, hc1, ?_, ?_⟩
    · rw [hown.cellAt _ (by omega)]; exact g1
    · rw [hown.cellAt _ (by omega)]; exact g2
end Go.Proofs.YtglhebpblncjaaaDoor
/- What a handle finds in the reference's arena, as contracts: lives, Get, Put, Free; SetLimit and Fits. -/
namespace Go.Proofs.YtglhebpblncjaaaDoor
open Go.RowKit
set_option linter.unusedVariables false

theorem rboxed (w : World) (a b : Value) : Below w.heap.size w (w.alloc (.cells #[a, b] 85)) := (Below.refl _ _).alloc (Nat.le_refl _) _
theorem rboxed_at (w w1 : World) (a b : Value) (hb : Below (w.alloc (.cells #[a, b] 85)).heap.size (w.alloc (.cells #[a, b] 85)) w1) : w1.cell? ⟨w.heap.size, 0, none⟩ = some a ∧ w1.cell? ⟨w.heap.size, 1, none⟩ = some b := by
  have h := heap_alloc_new w (.cells #[a, b] 85)
  have hl : w.heap.size < (w.alloc (.cells #[a, b] 85)).heap.size := by simp
  constructor
  · rw [hb.cell (p := ⟨w.heap.size, 0, none⟩) hl]; exact cell_of_row _ _ 0 _ _ _ h
  · rw [hb.cell (p := ⟨w.heap.size, 1, none⟩) hl]; exact cell_of_row _ _ 1 _ _ _ h

set_option maxHeartbeats 1600000 in
theorem refLives_any {w : World} {B g : Nat} {v : Value} {s : Ar} (h : RfAt w B g v s) (i : Nat) (gn : Int) (hi : i ≤ 4294967295) (hgn0 : 0 ≤ gn) (hgn1 : gn ≤ 4294967295) :
    Calls Tryd.prog 53 #[.pointer (some ⟨g, 0, none⟩), .agg #[.int .u32 i, .int .u32 gn]] w fun e w' => e = .returned (.bool (hit s.l i gn)) ∧ Below w.heap.size w w' := by
  have hn := h.wf.len
  have hc : w.cell? ⟨g, 2, none⟩ = some v := h.blk.cell 2
  have hlt := h.lt
  by_cases hl : i < s.l.length
  · obtain ⟨q, cap, rfl, hqg, hq, hcap, hg, hv, _, _, _⟩ := h.slot hl
    have hok := h.wf.ok.at_ i
    have hg1 := hok.2.2.1
    have hg2 := hok.2.2.2
    have HH : Hid (hit s.l i gn = ((bk s.l i).r != 0 && (bk s.l i).g == gn)) := Lib.hid rfl
    clear h hok
    generalize bk s.l i = b at *
    generalize s.l.length = n at *
    have hi0 : (0 : Int) ≤ (i : Int) := by omega
    have hi1 : (i : Int) < (n : Int) := by omega
    by_cases h0 : b.r = 0
    · have h7 : (b.r != 0) = false := by simpa using h0
      rw [h7] at hv
      have HE : Hid (hit s.l i gn = false) := Lib.hid (by rw [HH.out, h7]; rfl)
      clear h0 h7 HH
      go_enter Tryd.func53, Tryd.ntmps53
      go_wp2
      go_quiet (fail)
      go_wp2
      go_ret
      exact ⟨ret_bool HE.out.symm, below_drewN ((Below.refl _ _).alloc (Nat.le_refl _) _) _⟩
    · have h7 : (b.r != 0) = true := by simpa using h0
      rw [h7] at hv
      by_cases hgg : b.g = gn
      · have h8 : (b.g == gn) = true := by simpa using hgg
        have HE : Hid (hit s.l i gn = true) := Lib.hid (by rw [HH.out, h7, h8]; rfl)
        clear h0 h7 HH hgg
        go_enter Tryd.func53, Tryd.ntmps53
        go_wp2
        go_quiet (fail)
        go_wp2
        go_ret
        exact ⟨ret_bool HE.out.symm, below_drewN ((Below.refl _ _).alloc (Nat.le_refl _) _) _⟩
      · have h8 : (b.g == gn) = false := by simpa using hgg
        have HE : Hid (hit s.l i gn = false) := Lib.hid (by rw [HH.out, h7, h8]; rfl)
        clear h0 h7 HH hgg
        go_enter Tryd.func53, Tryd.ntmps53
        go_wp2
        go_quiet (fail)
        go_wp2
        go_ret
        exact ⟨ret_bool HE.out.symm, below_drewN ((Below.refl _ _).alloc (Nat.le_refl _) _) _⟩
  · obtain ⟨A, c, rfl⟩ := own_slice h.row
    have HE : Hid (hit s.l i gn = false) := Lib.hid (by rw [hit, bk_ge (by omega)]; rfl)
    clear h
    generalize s.l.length = n at *
    have hd : decide ((i : Int) < (n : Int)) = false := decide_eq_false (by omega)
    have hd2 : decide (i < n) = false := decide_eq_false hl
    go_enter Tryd.func53, Tryd.ntmps53
    go_wp2
    go_quiet (fail)
    go_wp2
    go_ret
    exact ⟨ret_bool HE.out.symm, below_drewN ((Below.refl _ _).alloc (Nat.le_refl _) _) _⟩

set_option maxHeartbeats 800000 in
theorem refGet_any {w : World} {B g : Nat} {v : Value} {s : Ar} (h : RfAt w B g v s) (i : Nat) (gn : Int) (hi : i ≤ 4294967295) (hgn0 : 0 ≤ gn) (hgn1 : gn ≤ 4294967295) :
    Calls Tryd.prog 41 #[.pointer (some ⟨g, 0, none⟩), .agg #[.int .u32 i, .int .u32 gn]] w fun e w' => e = .returned (.tuple #[.string (str (got s i gn)), .bool (hit s.l i gn)]) ∧ Below w.heap.size w w' := by
  have HA := Lib.hid (h.below (rboxed w (.int .u32 i) (.int .u32 gn)))
  cases hh : hit s.l i gn with
  | false =>
    have HG : Hid (got s i gn = []) := Lib.hid (by rw [got, if_neg (by rw [hh]; decide)])
    have HH := Lib.hid hh
    clear hh h
    go_enter Tryd.func41, Tryd.ntmps41
    go_wp2_with fail
    refine (refLives_any HA.out i gn hi hgn0 hgn1).mono ?_
    rw [HH.out]
    rintro e w1 ⟨rfl, hb⟩
    have HB := Lib.hid ((rboxed w (.int .u32 i) (.int .u32 gn)).trans (hb.mono (by simp)))
    clear hb
    go_wp2
    go_ret2
    exact ⟨ret_sb HG.out.symm rfl, HB.out⟩
  | true =>
    have hl := hit_lt hh
    have hn := h.wf.len
    obtain ⟨q, cap, rfl, hqg, hq, hcap, _, _, _, ht, _⟩ := h.slot hl
    have hc : w.cell? ⟨g, 2, none⟩ = some _ := h.blk.cell 2
    have hgl := h.lt
    have HG : Hid (got s i gn = (bk s.l i).t) := Lib.hid (by rw [got, if_pos hh])
    have HH := Lib.hid hh
    have HT := Lib.hid ht
    have HC := Lib.hid hc
    clear hh h ht hc
    go_enter Tryd.func41, Tryd.ntmps41
    go_wp2_with fail
    refine (refLives_any HA.out i gn hi hgn0 hgn1).mono ?_
    rw [HH.out]
    rintro e w1 ⟨rfl, hb⟩
    have hx := rboxed_at w w1 (.int .u32 i) (.int .u32 gn) hb
    have HB := Lib.hid ((rboxed w (.int .u32 i) (.int .u32 gn)).trans (hb.mono (by simp)))
    have d2 := (HB.out.cell (p := ⟨g, 2, none⟩) hgl).trans HC.out
    have d3 := (HB.out.cell (p := ⟨q, i * 4 + 3, none⟩) hq).trans HT.out
    have d0 := hx.1
    have hi0 : (0 : Int) ≤ (i : Int) := by omega
    have hi1 : (i : Int) < (s.l.length : Int) := by omega
    clear hb hx
    go_wp2_with fail
    go_quiet (fail)
    go_wp2
    go_ret2
    exact ⟨ret_sb HG.out.symm rfl, below_drewN HB.out _⟩
end Go.Proofs.YtglhebpblncjaaaDoor
/- What Free, SetLimit and Fits do to the reference's arena, as contracts. -/
namespace Go.Proofs.YtglhebpblncjaaaDoor
open Go.RowKit
set_option linter.unusedVariables false

theorem rcells_put {l : List Blk} {i : Nat} (h : i < l.length) (t : List UInt8) : (rcells l).set (i * 4 + 3) (.string (str t)) = rcells (l.set i (ptb (bk l i) t)) := by
  obtain ⟨g1, g2, g3, g4⟩ := rcells_get h
  rw [← rcells_set, ptb]
  rw [set_self (rcells l) (i * 4) _ g1, set_self (rcells l) (i * 4 + 1) _ g2, set_self (rcells l) (i * 4 + 2) _ g3]

set_option maxHeartbeats 1600000 in
theorem refFree_any {w : World} {B g : Nat} {v : Value} {s : Ar} (h : RfAt w B g v s) (i : Nat) (gn : Int) (hi : i ≤ 4294967295) (hgn0 : 0 ≤ gn) (hgn1 : gn ≤ 4294967295) :
    Calls Tryd.prog 38 #[.pointer (some ⟨g, 0, none⟩), .agg #[.int .u32 i, .int .u32 gn]] w fun e w' => e = .returned (.bool (hit s.l i gn)) ∧ RfAt w' B g v (fro s i gn) ∧ Fr g v.ownBlock w w' := by
  have HA := Lib.hid (h.below (rboxed w (.int .u32 i) (.int .u32 gn)))
  cases hh : hit s.l i gn with
  | false =>
    have HH := Lib.hid hh
    have H := Lib.hid h
    clear hh h
    go_enter Tryd.func38, Tryd.ntmps38
    go_wp2_with fail
    refine (refLives_any HA.out i gn hi hgn0 hgn1).mono ?_
    rw [HH.out]
    rintro e w1 ⟨rfl, hb⟩
    have HB := Lib.hid ((rboxed w (.int .u32 i) (.int .u32 gn)).trans (hb.mono (by simp)))
    clear hb
    go_wp2
    go_ret
    exact ⟨rfl, by rw [fro, if_neg (by rw [HH.out]; decide)]; exact H.out.below HB.out, .of_below HB.out⟩
  | true =>
    have hl := hit_lt hh
    have hn := h.wf.len
    have hg := (hit_r hh).2
    obtain ⟨q, cap, rfl, hqg, hq, hcap, h0, h1, h2, h3, hfz⟩ := h.slot hl
    have hgl := h.lt
    have hc : w.cell? ⟨g, 2, none⟩ = some _ := h.blk.cell 2
    have HC := Lib.hid hc
    have Q0 := Lib.hid h0
    have Q1 := Lib.hid h1
    have Q2 := Lib.hid h2
    have Q3 := Lib.hid h3
    have HFZ := Lib.hid hfz
    have HH := Lib.hid hh
    have H := Lib.hid h
    have HL := Lib.hid hl
    have HG := Lib.hid hg
    have hi0 : (0 : Int) ≤ (i : Int) := by omega
    have hi1 : (i : Int) < (s.l.length : Int) := by omega
    clear hh h h0 h1 h2 h3 hfz hl hc hg
    go_enter Tryd.func38, Tryd.ntmps38
    go_wp2_with fail
    refine (refLives_any HA.out i gn hi hgn0 hgn1).mono ?_
    rw [HH.out]
    rintro e w1 ⟨rfl, hb⟩
    have hx := rboxed_at w w1 (.int .u32 i) (.int .u32 gn) hb
    have HB := Lib.hid ((rboxed w (.int .u32 i) (.int .u32 gn)).trans (hb.mono (by simp)))
    have e0 := hx.1
    have e1 := hx.2
    have e2 := (HB.out.cell (p := ⟨g, 2, none⟩) hgl).trans HC.out
    have d0 := (HB.out.cell (p := ⟨q, i * 4, none⟩) hq).trans Q0.out
    have d1 := (HB.out.cell (p := ⟨q, i * 4 + 1, none⟩) hq).trans Q1.out
    have d2 := (HB.out.cell (p := ⟨q, i * 4 + 2, none⟩) hq).trans Q2.out
    have d3 := (HB.out.cell (p := ⟨q, i * 4 + 3, none⟩) hq).trans Q3.out
    have f0 : ∀ j, w1.frozen? ⟨q, j, none⟩ = false := fun j => (HB.out.frozen (p := ⟨q, j, none⟩) hq).trans (HFZ.out j)
    clear hb hx
    go_wp2_with fail
    go_region
    go_wp2
    go_ret
    have hw := fro_wf H.out.wf i gn
    have H1 := H.out.below HB.out
    rw [fro, if_pos HH.out] at hw ⊢
    have hset := rcells_set s.l i (frb (bk s.l i))
    have hrow := ((((H1.row.stored (i * 4) (.int .u32 ((gn + 1) % 4294967296))).1.stored (i * 4 + 1) (.bool false)).1.stored (i * 4 + 2) (.int .i64 0)).1.stored (i * 4 + 3) (.string ⟨#[]⟩)).1
    have e9 : (((rcells s.l).set (i * 4) (.int .u32 ((gn + 1) % 4294967296))).set (i * 4 + 1) (.bool false)).set (i * 4 + 2) (.int .i64 0) = (((rcells s.l).set (i * 4) (.int .u32 (frb (bk s.l i)).g)).set (i * 4 + 1) (.bool ((frb (bk s.l i)).r != 0))).set (i * 4 + 2) (.int .i64 (frb (bk s.l i)).r) := by
      simp only [frb, HG.out]; rfl
    rw [e9] at hrow
    have hqg' : g ≠ q := fun e => hqg e.symm
    refine ⟨rfl, ⟨H1.low, H1.ne, hw, ?_, ?_⟩, (((((Fr.of_below HB.out).seto _ _).seto _ _).seto _ _).seto _ _).drew⟩
    · show World.ownsRow _ _ _ _ _ (s.l.set _ _).length _
      rw [List.length_set, ← hset]
      exact hrow
    · exact (Below.heap_setCell _ _ _ _ hqg').trans ((Below.heap_setCell _ _ _ _ hqg').trans ((Below.heap_setCell _ _ _ _ hqg').trans ((Below.heap_setCell _ _ _ _ hqg').trans H1.blk)))

end Go.Proofs.YtglhebpblncjaaaDoor
