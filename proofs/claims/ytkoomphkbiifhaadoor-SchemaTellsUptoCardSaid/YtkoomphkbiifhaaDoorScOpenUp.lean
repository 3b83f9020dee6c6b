/- The statements' struct of kinds opened, with what the bulk leaves of it. -/
import Derived.Test.YtkoomphkbiifhaaDoorScOpen
import Derived.Test.YtkoomphkbiifhaaDoorScPutMath
namespace Go.Proofs.YtkoomphkbiifhaaDoor
open Go.ChangeShapes Go.WideShapes Go.ChangeAt Go.RowKit Go.Deep
set_option linter.unusedVariables false
set_option maxRecDepth 1000000

/-- The bulk of two lists, one behind the other. -/
theorem bulk_app {H : Type} : ∀ l r : List (DataW H), Rows.uptoBulkAll (l ++ r) = Rows.uptoBulkAll l + Rows.uptoBulkAll r
  | [], r => (Nat.zero_add _).symm
  | d :: l, r => by rw [List.cons_append, Rows.uptoBulkAll, Rows.uptoBulkAll, bulk_app l r, Nat.add_assoc]
theorem bulk_sum {H α : Type} (g : α → Nat) (D : Nat → DataW H) : ∀ (n : Nat) (l : List α), l.length = n → (∀ i x, l[i]? = some x → g x ≤ Rows.uptoBulk (D i)) → (l.map g).sum ≤ Rows.uptoBulkAll ((List.range n).map D)
  | 0, l, hl, _ => by rw [List.eq_nil_of_length_eq_zero hl]; simp
  | n + 1, l, hl, h => by
    have e : l = l.take n ++ [l[n]] := by
      have := List.take_succ_eq_append_getElem (l := l) (i := n) (by omega)
      rw [List.take_of_length_le (by omega)] at this
      exact this
    have ih := bulk_sum g D n (l.take n) (by simp; omega) fun i x hx => by
      rw [List.getElem?_take] at hx
      split at hx
      · exact h i x hx
      · cases hx
    have hn := h n l[n] (List.getElem?_eq_getElem (by omega))
    rw [e, List.map_append, List.sum_append, List.range_succ, List.map_append, bulk_app]
    simp only [List.map_cons, List.map_nil, List.sum_cons, List.sum_nil, Rows.uptoBulkAll]
    omega
def fsum (l : List Nm) : Nat := (l.map fun f : Nm => f.length + 1).sum
theorem joinC_sum : ∀ l : List Nm, (joinC l).length ≤ fsum l
  | [] => by simp [joinC]
  | [a] => by simp [fsum, joinC]
  | a :: b :: r => by
    have := joinC_sum (b :: r)
    simp only [fsum, joinC, List.length_append, List.length_cons, List.map_cons, List.sum_cons] at *
    omega
theorem putL_sum : ∀ l : List Kd, (putL l).length = (l.map fun k => (kindTxt k).length).sum
  | [] => rfl
  | k :: l => by
    have := putL_sum l
    have e : putL (k :: l) = kindTxt k ++ putL l := rfl
    rw [e, List.length_append, this]
    simp
theorem putL_len (l : List Kd) : l.length ≤ (putL l).length := by
  induction l with
  | nil => simp
  | cons k l ih =>
    have e : putL (k :: l) = kindTxt k ++ putL l := rfl
    rw [e, List.length_append, List.length_cons, kindTxt_length]
    omega
section
variable {H : Type} {enc : TypeId × Value → H} {W : World} {held : Bool}
/-- Texts that came in. -/
theorem strs_upo {fuel : Nat} {v : Value} {x : DataW H × List MemPlace} (h : DataW.trod enc Tryd.prog W 0 (fun _ => true) held fuel 38 [v] = some x) :
    ∃ A c l, v = .slice A (List.length l) c ∧ Strs W A c l ∧ (∀ f ∈ l, f.length ≤ maxLen) ∧ fsum l + 1 ≤ Rows.uptoBulk x.1 := by
  rcases open_slice Tryd.underlying38 h with ⟨hcs, hx⟩ | ⟨a, len, cap, m, n, D, Pl, hcs, _, hl, hm, hmm, hx, hi⟩
  · simp at hcs
    exact ⟨none, 0, [], hcs, Strs.nil W, (fun f hf => by cases hf), by rw [hx]; simp [fsum, Rows.uptoBulk]⟩
  · simp at hcs
    obtain ⟨l, hll, hq⟩ := list_of (fun i s => W.cell? (a.add i) = some (.string (str s)) ∧ s.length ≤ maxLen ∧ s.length + 1 ≤ Rows.uptoBulk (D i)) len fun i hil => by
      obtain ⟨cs', hc, ht'⟩ := hi i (by rw [hmm]; simp; omega)
      have h1 : Tryd.prog.cellsOf 9 = 1 := by kernel_rfl
      rw [h1, Nat.mul_one] at hc
      obtain ⟨s, e, ed, hs⟩ := DataW.trod_string Tryd.underlying9 ht'
      obtain ⟨_, _, hat⟩ := World.cells?_some hc
      have h2 := hat 0 (by omega)
      rw [e, Go.Deep.add_add, Nat.add_zero] at h2
      refine ⟨s.data.toList, by rw [str_of]; simpa using h2, by rw [← Lib.size_eq]; exact hs, ?_⟩
      rw [(Prod.mk.inj ed).1]
      simp [Rows.uptoBulk]
    refine ⟨some a, cap, l, by rw [hcs, hll], ⟨fun i u hu => ⟨a, rfl, ?_⟩, (fun h => by cases h), by omega, hm⟩, (fun f hf => ?_), ?_⟩
    · rw [List.getElem?_map] at hu
      obtain ⟨s, hs, rfl⟩ := Option.map_eq_some_iff.1 hu
      exact (hq i s hs).1
    · obtain ⟨i, hi, rfl⟩ := List.getElem_of_mem hf
      exact (hq i _ (List.getElem?_eq_getElem hi)).2.1
    · have : fsum l ≤ _ := bulk_sum (fun f : Nm => f.length + 1) D len l hll fun i x hx => (hq i x hx).2.2
      rw [hx]
      simp only [Rows.uptoBulk]
      omega
/-- A kind that came in, by its two cells. -/
theorem kind_upo {fuel : Nat} {cs : List Value} {x : DataW H × List MemPlace} (h : DataW.trod enc Tryd.prog W 0 (fun _ => true) held fuel 40 cs = some x) :
    ∃ (k : Kd) (B : Option Addr) (d : Nat), cs = [.string (str k.1), .slice B k.2.length d] ∧ Strs W B d k.2 ∧ k.1.length ≤ maxLen ∧ (∀ f ∈ k.2, f.length ≤ maxLen) ∧ (kindTxt k).length ≤ Rows.uptoBulk x.1 := by
  obtain ⟨ys, n, _, hx, hlen, hyl, hf⟩ := DataW.trod_struct Tryd.underlying40 h
  have hC : Tryd.prog.cellsOf 40 = 2 := by kernel_rfl
  rw [hC] at hlen
  match cs, hlen with
  | [u, v], _ =>
    have h0 : DataW.trod enc Tryd.prog W 0 (fun _ => true) held n 9 ((([u, v] : List Value).drop 0).take (Tryd.prog.cellsOf 9)) = ys[0]? := hf 0 _ rfl
    have h1 : DataW.trod enc Tryd.prog W 0 (fun _ => true) held n 38 ((([u, v] : List Value).drop 1).take (Tryd.prog.cellsOf 38)) = ys[1]? := hf 1 _ rfl
    have c9 : Tryd.prog.cellsOf 9 = 1 := by kernel_rfl
    have c38 : Tryd.prog.cellsOf 38 = 1 := by kernel_rfl
    rw [c9] at h0
    rw [c38] at h1
    simp only [List.drop_zero, List.take_succ_cons, List.take_zero, List.drop_succ_cons] at h0 h1
    have hy : ys.length = 2 := hyl
    match ys, hy with
    | [y0, y1], _ =>
    simp only [List.getElem?_cons_zero, List.getElem?_cons_succ] at h0 h1
    obtain ⟨s, e0, ed, hs⟩ := DataW.trod_string Tryd.underlying9 h0
    obtain ⟨A, c, l, e1, hst, hll, hsum⟩ := strs_upo h1
    simp at e0
    refine ⟨(s.data.toList, l), A, c, by rw [e0, e1, str_of], hst, by rw [← Lib.size_eq]; exact hs, hll, ?_⟩
    have hj := joinC_sum l
    rw [hx, kindTxt_length]
    simp only [List.map_cons, List.map_nil, Rows.uptoBulk, Rows.uptoBulkAll, ed]
    omega
theorem kinds_upo {fuel : Nat} {v : Value} {x : DataW H × List MemPlace} (h : DataW.trod enc Tryd.prog W 0 (fun _ => true) held fuel 22 [v] = some x) :
    ∃ A c ks, v = .slice A (List.length ks) c ∧ Kinds W A c ks ∧ (∀ k ∈ ks, k.1.length ≤ maxLen ∧ ∀ f ∈ k.2, f.length ≤ maxLen) ∧ (putL ks).length ≤ Rows.uptoBulk x.1 := by
  rcases open_slice Tryd.underlying22 h with ⟨hcs, hx⟩ | ⟨a, len, cap, m, n, D, Pl, hcs, _, hl, hm, hmm, hx, hi⟩
  · simp at hcs
    exact ⟨none, 0, [], hcs, Kinds.nil W, (fun f hf => by cases hf), by rw [hx]; simp [putL]⟩
  · simp at hcs
    have h2 : Tryd.prog.cellsOf 40 = 2 := by kernel_rfl
    rw [h2] at hi
    obtain ⟨l, hll, hq⟩ := list_of (fun i (k : Kd) => (∃ B d, W.cell? (a.add (i * 2)) = some (.string (str k.1)) ∧ W.cell? (a.add (i * 2 + 1)) = some (.slice B k.2.length d) ∧ Strs W B d k.2) ∧ (k.1.length ≤ maxLen ∧ ∀ f ∈ k.2, f.length ≤ maxLen) ∧ (kindTxt k).length ≤ Rows.uptoBulk (D i)) len fun i hil => by
      obtain ⟨cs', hc, ht'⟩ := hi i (by rw [hmm]; simp; omega)
      obtain ⟨k, B, d, e, hst, hb1, hb2, hb3⟩ := kind_upo ht'
      obtain ⟨_, _, hat⟩ := World.cells?_some hc
      have g0 := hat 0 (by omega)
      have g1 := hat 1 (by omega)
      rw [e, Go.Deep.add_add] at g0 g1
      exact ⟨k, ⟨B, d, by simpa using g0, by simpa using g1, hst⟩, ⟨hb1, hb2⟩, hb3⟩
    refine ⟨some a, cap, l, by rw [hcs, hll], ⟨fun i k hk => ?_, (fun h => by cases h), by omega, hm⟩, (fun k hk => ?_), ?_⟩
    · obtain ⟨⟨B, d, g0, g1, hst⟩, _⟩ := hq i k hk
      obtain ⟨b, off, sp⟩ := a
      have hs : sp = none := by
        have h0 : 0 < l.length := by
          rcases Nat.eq_zero_or_pos l.length with h | h
          · rw [List.eq_nil_of_length_eq_zero h] at hk; simp at hk
          · exact h
        obtain ⟨⟨_, _, e0, _⟩, _⟩ := hq 0 _ (List.getElem?_eq_getElem h0)
        simpa [Addr.add] using World.cell?_spot e0
      subst hs
      rw [add_plain] at g0 g1
      exact ⟨b, off, B, d, rfl, g0, by rw [Nat.add_assoc]; exact g1, hst⟩
    · obtain ⟨i, hi, rfl⟩ := List.getElem_of_mem hk
      exact (hq i _ (List.getElem?_eq_getElem hi)).2.1
    · have := bulk_sum (fun k : Kd => (kindTxt k).length) D len l hll fun i x hx => (hq i x hx).2.2
      rw [hx, putL_sum]
      simp only [Rows.uptoBulk]
      omega
/-- The statements' struct of kinds. -/
theorem some_upo {r : Reach} {b0 : Nat} {v : Value} {d : DataW H} {p : List MemPlace} (hv : Value.okWide Tryd.prog W r b0 25 v) (h : DataW.Trod enc Tryd.prog W 0 (fun _ => true) held 25 v d p) :
    ∃ A c ks o a len cap zs, v = .agg #[.slice A (List.length ks) c, .bool o, .slice a len cap] ∧ Kinds W A c ks ∧ (∀ k ∈ ks, k.1.length ≤ maxLen ∧ ∀ f ∈ k.2, f.length ≤ maxLen) ∧ IsRow .u8 W a len cap zs ∧ (∀ z ∈ zs, 0 ≤ z ∧ z ≤ 255) ∧ (putL ks).length ≤ Rows.uptoBulk d := by
  obtain ⟨v0, v1, v2, y0, y1, y2, n, rfl, hd, _, h0, h1, h2⟩ := Go.Joins.open_agg3 Tryd.underlying25 (by kernel_rfl) (by kernel_rfl) hv h
  obtain ⟨A, c, ks, rfl, hK, hb, hu⟩ := kinds_upo h0
  have hud : (putL ks).length ≤ Rows.uptoBulk d := by rw [hd]; simp only [Rows.uptoBulk, Rows.uptoBulkAll]; omega
  obtain ⟨o, e1, _⟩ := DataW.trod_bool Tryd.underlying4 h1
  simp at e1
  subst e1
  rcases DataW.trod_slice Tryd.underlying23 h2 with ⟨e2, _⟩ | ⟨a, len, cap, _, _, _, _, e2, _⟩
  · simp at e2
    subst e2
    exact ⟨A, c, ks, o, none, 0, 0, [], rfl, hK, hb, ⟨Nat.le_refl _, rfl, Nat.zero_le _, fun i hi => absurd hi (by simp)⟩, (fun z hz => by cases hz), hud⟩
  · simp at e2
    subst e2
    obtain ⟨zs, hr, hw⟩ := row_open (t := 23) Tryd.underlying23 Tryd.underlying5 (by kernel_rfl) (d := y2.1) (p := y2.2) ⟨n, by simpa [Value.cells] using h2⟩
    exact ⟨A, c, ks, o, some a, len, cap, zs, rfl, hK, hb, hr, (fun z hz => by simpa [Lit.wf, IntKind.min, IntKind.max, IntKind.signed, IntKind.bits] using hw z hz), hud⟩
end
end Go.Proofs.YtkoomphkbiifhaaDoor
