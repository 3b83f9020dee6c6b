/- ExprVars without the walk: what Vars tells is sorted, each once, and is what was gathered; has. -/
import Derived.Test.YtbhjimlikffalaaDoorExErV
import Derived.Test.YtbhjimlikffalaaDoorExSort
namespace Go.Proofs.YtbhjimlikffalaaDoor
open Go.RowKit
set_option linter.unusedVariables false

theorem nm_total (a b : Nm) : a ≤ b ∨ b ≤ a := List.le_total a b
theorem nm_lt {a b : Nm} (h : a ≤ b) (hn : a ≠ b) : a < b := by
  by_cases h2 : a < b
  · exact h2
  · exact absurd (List.le_antisymm h (List.not_lt.1 h2)) hn
theorem srt_pairwise (l : List Nm) : (srt l).Pairwise (· ≤ ·) := by
  have := List.pairwise_mergeSort (le := fun x y : Nm => decide (x ≤ y)) (fun a b c h1 h2 => by simp only [decide_eq_true_eq] at *; exact List.le_trans h1 h2) (fun a b => by simp only [Bool.or_eq_true, decide_eq_true_eq]; exact nm_total a b) l
  unfold srt
  exact this.imp fun h => by simpa using h
theorem compact_up (d : Array Nm) (hs : ∀ i j, i ≤ j → j < d.size → d[i]! ≤ d[j]!) : ∀ m, m ≤ d.size → (Lib.compactUpTo d m).Pairwise (· < ·) ∧ (∀ x ∈ Lib.compactUpTo d m, 0 < m ∧ x ≤ d[m - 1]!) ∧ ∀ j, j < m → d[j]! ∈ Lib.compactUpTo d m := by
  intro m
  induction m with
  | zero => intro _; exact ⟨by simp [Lib.compactUpTo], fun x hx => by simp [Lib.compactUpTo] at hx, fun j hj => by omega⟩
  | succ m ih =>
    intro hm
    obtain ⟨h1, h2, h3⟩ := ih (by omega)
    rw [Lib.compactUpTo_succ]
    cases hk : Lib.keeps d m with
    | true =>
      rw [if_pos rfl]
      refine ⟨?_, ?_, ?_⟩
      · rw [List.pairwise_append]
        refine ⟨h1, by simp, fun x hx y hy => ?_⟩
        obtain rfl : y = d[m]! := by simpa using hy
        obtain ⟨hm0, hx2⟩ := h2 x hx
        have hne : d[m - 1]! ≠ d[m]! := by
          simp only [Lib.keeps, decide_eq_true_eq] at hk
          rcases hk with e | e
          · omega
          · exact fun e2 => e e2.symm
        exact List.lt_of_le_of_lt hx2 (nm_lt (hs (m - 1) m (by omega) (by omega)) hne)
      · intro x hx
        refine ⟨by omega, ?_⟩
        rw [Nat.add_sub_cancel]
        rcases List.mem_append.1 hx with hx | hx
        · exact List.le_trans (h2 x hx).2 (hs (m - 1) m (by omega) (by omega))
        · obtain rfl : x = d[m]! := by simpa using hx
          exact List.le_refl _
      · intro j hj
        by_cases e : j = m
        · subst e; simp
        · exact List.mem_append_left _ (h3 j (by omega))
    | false =>
      rw [if_neg (by decide), List.append_nil]
      have hm0 : 0 < m := by
        rcases Nat.eq_zero_or_pos m with e | e
        · subst e; simp [Lib.keeps] at hk
        · exact e
      have he : d[m]! = d[m - 1]! := by
        simp only [Lib.keeps, decide_eq_false_iff_not, not_or, Classical.not_not] at hk
        exact hk.2
      refine ⟨h1, fun x hx => ⟨by omega, by rw [Nat.add_sub_cancel, he]; exact (h2 x hx).2⟩, fun j hj => ?_⟩
      by_cases e : j = m
      · subst e; rw [he]; exact h3 _ (by omega)
      · exact h3 j (by omega)
theorem compact_sub (d : Array Nm) (m : Nat) : ∀ x ∈ Lib.compactUpTo d m, ∃ j, j < m ∧ x = d[j]! := by
  intro x hx
  unfold Lib.compactUpTo at hx
  obtain ⟨j, hj, rfl⟩ := List.mem_map.1 hx
  exact ⟨j, List.mem_range.1 (List.mem_filter.1 hj).1, rfl⟩
theorem compact_sorted {l : List Nm} (h : l.Pairwise (· ≤ ·)) : (Lib.compact l).Pairwise (· < ·) ∧ ∀ x, x ∈ Lib.compact l ↔ x ∈ l := by
  have hs : ∀ i j, i ≤ j → j < l.toArray.size → l.toArray[i]! ≤ l.toArray[j]! := by
    intro i j hij hj
    have hj' : j < l.length := by simpa using hj
    rw [getElem!_pos l.toArray i (by simp; omega), getElem!_pos l.toArray j hj]
    simp only [List.getElem_toArray]
    rcases Nat.lt_or_ge i j with e | e
    · exact (List.pairwise_iff_getElem.1 h) i j (by omega) hj' e
    · obtain rfl : i = j := by omega
      exact List.le_refl _
  obtain ⟨h1, h2, h3⟩ := compact_up l.toArray hs l.length (by simp)
  refine ⟨h1, fun x => ⟨fun hx => ?_, fun hx => ?_⟩⟩
  · obtain ⟨j, hj, rfl⟩ := compact_sub l.toArray l.length x hx
    rw [getElem!_pos l.toArray j (by simpa using hj)]
    simp
  · obtain ⟨j, hj, rfl⟩ := List.getElem_of_mem hx
    have := h3 j hj
    rw [getElem!_pos l.toArray j (by simpa using hj)] at this
    unfold Lib.compact
    simpa using this
theorem varsT_lt (t : ET) : (varsT t).Pairwise (· < ·) := (compact_sorted (srt_pairwise _)).1
theorem varsT_mem (t : ET) (x : Nm) : x ∈ varsT t ↔ x ∈ gath t := by
  unfold varsT
  rw [(compact_sorted (srt_pairwise _)).2]
  unfold srt
  exact List.mem_mergeSort
/- What an operation of two gathers. -/
theorem vst_acc : ∀ (t : ET) (l : List Nm), allF vst l t = (l ++ gath t, true) := by
  have key : ∀ t : ET, ∀ l : List Nm, allF vst l t = (l ++ (allF vst [] t).1, true) := by
    refine ET.ind fun k op n v f A c ks ih l => ?_
    have hl : ∀ (ks : List ET), (∀ t ∈ ks, ∀ l, allF vst l t = (l ++ (allF vst [] t).1, true)) → ∀ l, allL vst l ks = (l ++ (allL vst [] ks).1, true) := by
      intro ks
      induction ks with
      | nil => intro _ l; rw [allL_nil, allL_nil]; simp
      | cons t ts ihl =>
        intro hh l
        have h1 := hh t (by simp)
        rw [allL_yes (by rw [h1]), allL_yes (by rw [h1]), h1 l, ihl (fun t ht => hh t (by simp [ht])) (l ++ _)]
        show _ = (l ++ (allL vst (allF vst [] t).1 ts).1, true)
        rw [ihl (fun t ht => hh t (by simp [ht])) (allF vst [] t).1]
        simp
    rw [allF_yes rfl, allF_yes rfl]
    show allL vst (vst l (.mk k op n v f A c ks)).1 ks = (l ++ (allL vst (vst [] (.mk k op n v f A c ks)).1 ks).1, true)
    rw [hl ks ih (vst l _).1, hl ks ih (vst [] _).1]
    by_cases hk : k = 1 <;> simp [vst, ET.k, ET.v, hk]
  exact fun t l => key t l
theorem gath_two (op : Nm) (A : Option Addr) (c : Nat) (a b : ET) : gath (.mk 3 op 0 [] [] A c [a, b]) = gath a ++ gath b := by
  unfold gath
  rw [allF_yes rfl]
  show (allL vst (vst [] _).1 [a, b]).1 = _
  have e : (vst [] (.mk 3 op 0 [] [] A c [a, b])).1 = [] := rfl
  rw [e, allL_yes (by rw [vst_acc]), allL_yes (by rw [vst_acc]), allL_nil, vst_acc, vst_acc]
  simp [gath]
theorem varsT_num (n : Int) : varsT (nm n) = [] := by
  have : gath (nm n) = [] := by kernel_rfl
  unfold varsT
  rw [this]
  unfold srt
  simp [Lib.compact, Lib.compactUpTo]
set_option maxHeartbeats 2000000 in
theorem has_any (l : List Nm) (A : Option Addr) (c : Nat) (s : Nm) (w : World) (h : Strs w A c l) :
    Calls Tryd.prog 13 #[.slice A l.length c, .string (str s)] w fun e w' => e = .returned (.bool (decide (s ∈ l))) ∧ w = w' := by
  have hcap := h.cap
  have HS := Lib.hid h
  clear h
  go_enter Tryd.func13, Tryd.ntmps13
  go_wp2_with fail
  go_loopw [5] (fun i wr => ∃ k : Nat, k ≤ l.length ∧ i = .int .i64 k ∧ (∀ j (hj : j < l.length), j < k → l[j] ≠ s) ∧ w = wr) (fun i _ => l.length - (intOf i).toNat)
  case atStart => exact ⟨0, Nat.zero_le _, rfl, (fun j hj h => by omega), rfl⟩
  case round =>
    obtain ⟨k, hk, rfl, hno, rfl⟩ := hrel
    by_cases hlt : k < l.length
    · obtain ⟨b, off, rfl, hc⟩ := HS.out.shape (by omega)
      have hck := hc k hlt
      have HN := Lib.hid hno
      clear hc hno
      obtain ⟨y, hy⟩ : ∃ y, l[k] = y := ⟨_, rfl⟩
      rw [hy] at hck
      have HY := Lib.hid hy
      clear hy
      by_cases he : y = s
      · subst he
        have HM : Hid (decide (y ∈ l) = true) := Lib.hid (by rw [decide_eq_true_eq, ← HY.out]; exact List.getElem_mem _)
        go_wp2_with fail
        go_ret
        exact ⟨ret_bool HM.out.symm, rfl⟩
      · have hyn : (y == s) = false := by simpa using he
        have t1 := str_toList y
        have t2 := str_toList s
        have HE := Lib.hid he
        clear he
        go_wp2_with fail
        go_roundw
        case rel => exact ⟨k + 1, by omega, by go_num, (fun j hj hjk => by
          by_cases e : j = k
          · subst e; rw [HY.out]; exact HE.out
          · exact HN.out j hj (by omega)), by trivial⟩
        case measure => simp [intOf]; omega
    · have HM : Hid (decide (s ∈ l) = false) := Lib.hid (by
        rw [decide_eq_false_iff_not]
        intro hm
        obtain ⟨j, hj, e⟩ := List.getElem_of_mem hm
        exact hno j hj (by omega) e)
      clear hno
      go_wp2_with fail
      go_ret
      exact ⟨ret_bool HM.out.symm, rfl⟩
end Go.Proofs.YtbhjimlikffalaaDoor
