/- Merged by program: VaLaid, VaRow, VtLaid, VtOpen. -/
import Derived.Test.YtbhjimlikffalaaDoorRows
import Derived.Test.YtbhjimlikffalaaDoorExTabs
import Derived.ProofKit
import Derived.LaidMore
import Derived.OpenShut
import Derived.Below
import Derived.ChangeOld
import Derived.Stop.Joined
import Derived.HandedShaped
import Derived.PinnedBridge
import Derived.Lib.LaidU8T
import Derived.Shelf.Vars
import Derived.Lay
import Derived.Test.YtbhjimlikffalaaDoorScRowDef
import Derived.SizedLaws
import Derived.Test.YtbhjimlikffalaaDoorVrAll

import Derived.Deep.Slices
import Derived.Deep.Fields
/- The two tables of unicode/utf8, as the cards of layer 8 list them, read as they are written. -/
namespace Go.Proofs.YtbhjimlikffalaaDoor
open Go.ChangeShapes Go.WideShapes Go.ChangeAt Go.RowKit
set_option linter.unusedVariables false

theorem own : ownKnob Tryd.prog.godebug = none := by kernel_rfl
theorem laidOut : laidOutB Tryd.prog = true := by kernel_rfl
/-- What the cards list. -/
abbrev laids : List (String × DataW Unit) := [("unicode/utf8.acceptRanges", Rows.laid_unicode_utf8_acceptRanges), ("unicode/utf8.first", Rows.laid_unicode_utf8_first)]
theorem u8x : U8Extra Tryd.prog Tryd.lays196_ren := ⟨by kernel_rfl, by kernel_rfl, by kernel_rfl, by kernel_rfl, by kernel_rfl, by kernel_rfl, by kernel_rfl⟩
set_option maxRecDepth 100000 in
theorem accept_eq : (Rows.laid_unicode_utf8_acceptRanges : DataW Unit) = Lib.acceptData := by kernel_rfl
set_option maxRecDepth 100000 in
theorem tabs_of {W : World} (h : laidMetH Tryd.prog laids W) : Tabs8 W := by
  rw [MakeChecks.laidMetH_plain _ _ _ (by kernel_rfl)] at h
  have h3 := Lib.laidMet.reads h (.tail _ (.head _))
  have h4 := Lib.laidMet.reads h (.head _)
  rw [accept_eq] at h4
  rw [show (Rows.laid_unicode_utf8_first : DataW Unit) = Lib.firstData from Pinned.utf8First_eq] at h3
  exact utf8Tabs_of_readsT (U8Types.of196 Tryd.lays196) u8x h3 h4
/-- The frame of a law's proof: what is listed, and the world's shape, are handed to the walk. -/
theorem handed {C : Checked} {H : Type} {enc : TypeId × Value → H} {os : Os} {f : FuncId} {fn : Func} {s : ChangeSpec} {X : World → Array Value → Prop}
    (hX : ∀ (w w' : World) (args : Array Value), w.heap = w'.heap → X w args → X w' args) (own : ownKnob C.prog.godebug = none) (started : os.Started) (noInit : C.prog.inits.idxOf? f = none) (hfn : C.prog.funcs[f]? = some fn)
    (witness : ∃ (w : World) (tape : Tape) (i : Input), w.os = os ∧ (w.forCall tape i).Shaped C.prog ∧ i.vars = [] ∧ Input.okWide C.prog (w.forCall tape i) .any w.heap.size f i ∧
      ((s.pre enc C.prog fn [] false (w.forCall tape i).memory i.args ∧ X (w.forCall tape i).memory i.args) ∧ sizedMet enc C.prog fn (OpenSpec.ofChange s) false (w.forCall tape i).memory i.args) ∧ ({} : Assume).holds C.prog (lone (Frame.enter C.prog f i.args .normal) [] (w.forCall tape i)))
    (contract : ∀ (W : World) (base : Nat) (args : Array Value) (ds gs : List (DataW H)) (before : List MemPlace),
      (∀ (j : Nat) t v, fn.params[j]? = some t → args[j]? = some v → Value.okWide C.prog W .any base t v) → DataW.Whole enc C.prog fn.params.toList s.vars false W args.toList ds gs before → X W args → W.ShapedOpen C.prog →
      Calls C.prog f args W fun e W' => ∃ v, e = .returned v ∧ s.post enc C.prog fn false true false false W args v W') :
    ReturnsInHanded {} C os f .any (fun w args => (s.pre enc C.prog fn [] false w args ∧ X w args) ∧ sizedMet enc C.prog fn (OpenSpec.ofChange s) false w args) (s.post enc C.prog fn false true false false) := by
  refine returnsInHanded_of_calls own started noInit witness fun w tape i _ hsh _ hok hpre _ => ?_
  obtain ⟨_, _, _, fn', hfn', _, _, _, _, hval⟩ := hok
  obtain rfl : fn' = fn := Option.some.inj (hfn'.symm.trans hfn)
  obtain ⟨⟨⟨ds, gs, before, hw, _⟩, hx⟩, _⟩ := hpre
  refine (contract (w.forCall tape i) w.heap.size i.args ds gs before hval (DataW.Whole.of_heap (w' := w.forCall tape i) (by rfl) hw) (hX _ _ _ (by rfl) hx) hsh).mono fun e W' ⟨v, he, hp⟩ => ?_
  subst he
  exact ChangeSpec.post_blind hp
end Go.Proofs.YtbhjimlikffalaaDoor
/- How a slice of integers that comes in is opened for the walks: nil or a row of cells, with the numbers up to its capacity. -/
namespace Go.Proofs.YtbhjimlikffalaaDoor
open Go.ChangeShapes Go.WideShapes Go.ChangeAt Go.RowKit

theorem row_open {H : Type} {enc : TypeId × Value → H} {W : World} {held : Bool} {t e : TypeId} {k : IntKind} {a : Option Addr} {len cap : Nat} {d : DataW H} {p : List MemPlace}
    (ht : Tryd.prog.underlying t = some (.slice e)) (he : Tryd.prog.underlying e = some (.int k)) (hc : Tryd.prog.cellsOf e = 1) (h : DataW.Trod enc Tryd.prog W 0 (fun _ => true) held t (.slice a len cap) d p) :
    ∃ zs, IsRow k W a len cap zs ∧ ∀ n ∈ zs, (Lit.int k n).wf = true := by
  obtain ⟨fuel, hf⟩ := h
  rcases open_ints ht he hc hf with ⟨hcs, _⟩ | ⟨x, l, c, zs, hcs, _, hl, hm, hz, _, hcell, hwz⟩
  · simp [Value.cells] at hcs
    obtain ⟨rfl, rfl, rfl⟩ := hcs
    exact ⟨[], ⟨Nat.le_refl _, rfl, Nat.zero_le _, fun i hi => absurd hi (by simp)⟩, fun n hn => by cases hn⟩
  · simp [Value.cells] at hcs
    obtain ⟨rfl, rfl, rfl⟩ := hcs
    have hz' : zs.length = cap := by simpa using hz
    exact ⟨zs, ⟨by omega, hz', by omega, fun i hi => ⟨x, rfl, hcell i hi⟩⟩, hwz⟩
end Go.Proofs.YtbhjimlikffalaaDoor
/- The frame of a law's proof, with the reach handed on. -/
namespace Go.Proofs.YtbhjimlikffalaaDoor
open Go.ChangeShapes Go.WideShapes Go.ChangeAt Go.RowKit
set_option linter.unusedVariables false

/-- The frame of a law's proof: what is listed, and the world's shape, are handed to the walk. -/
theorem handed2 {C : Checked} {H : Type} {enc : TypeId × Value → H} {os : Os} {f : FuncId} {fn : Func} {s : ChangeSpec} {X : World → Array Value → Prop}
    (hX : ∀ (w w' : World) (args : Array Value), w.heap = w'.heap → X w args → X w' args) (own : ownKnob C.prog.godebug = none) (started : os.Started) (noInit : C.prog.inits.idxOf? f = none) (hfn : C.prog.funcs[f]? = some fn)
    (witness : ∃ (w : World) (tape : Tape) (i : Input), w.os = os ∧ (w.forCall tape i).Shaped C.prog ∧ i.vars = [] ∧ Input.okWide C.prog (w.forCall tape i) .any w.heap.size f i ∧
      ((s.pre enc C.prog fn [] false (w.forCall tape i).memory i.args ∧ X (w.forCall tape i).memory i.args) ∧ sizedMet enc C.prog fn (OpenSpec.ofChange s) false (w.forCall tape i).memory i.args) ∧ ({} : Assume).holds C.prog (lone (Frame.enter C.prog f i.args .normal) [] (w.forCall tape i)))
    (contract : ∀ (W : World) (base : Nat) (args : Array Value) (ds gs : List (DataW H)) (before : List MemPlace),
      (∀ (j : Nat) t v, fn.params[j]? = some t → args[j]? = some v → Value.okWide C.prog W .any base t v) → DataW.Whole enc C.prog fn.params.toList s.vars false W args.toList ds gs before → X W args → (DataW.weightsEach C.prog (fn.params.toList ++ s.plain.varTypes C.prog) (ds ++ gs)).all (· ≤ reachBytes) = true → W.ShapedOpen C.prog →
      Calls C.prog f args W fun e W' => ∃ v, e = .returned v ∧ s.post enc C.prog fn false true false false W args v W') :
    ReturnsInHanded {} C os f .any (fun w args => (s.pre enc C.prog fn [] false w args ∧ X w args) ∧ sizedMet enc C.prog fn (OpenSpec.ofChange s) false w args) (s.post enc C.prog fn false true false false) := by
  refine returnsInHanded_of_calls own started noInit witness fun w tape i _ hsh _ hok hpre _ => ?_
  obtain ⟨_, _, _, fn', hfn', _, _, _, _, hval⟩ := hok
  obtain rfl : fn' = fn := Option.some.inj (hfn'.symm.trans hfn)
  obtain ⟨⟨⟨ds, gs, before, hw, _⟩, hx⟩, hz⟩ := hpre
  have hw' := DataW.Whole.of_heap (w' := w.forCall tape i) (by rfl) hw
  refine (contract (w.forCall tape i) w.heap.size i.args ds gs before hval hw' (hX _ _ _ (by rfl) hx) (hz.weights hw) hsh).mono fun e W' ⟨v, he, hp⟩ => ?_
  subst he
  exact ChangeSpec.post_blind hp
end Go.Proofs.YtbhjimlikffalaaDoor
/- An expression that came in, opened: a tree in memory, whose texts and lists are of a machine's size. -/
namespace Go.Proofs.YtbhjimlikffalaaDoor
open Go.ChangeShapes Go.WideShapes Go.ChangeAt Go.RowKit Go.Deep
set_option linter.unusedVariables false
set_option maxRecDepth 1000000

theorem list_of {α : Type} (Q : Nat → α → Prop) : ∀ n : Nat, (∀ i, i < n → ∃ x, Q i x) → ∃ l : List α, l.length = n ∧ ∀ i x, l[i]? = some x → Q i x
  | 0, _ => ⟨[], rfl, fun i x h => by simp at h⟩
  | n + 1, h => by
    obtain ⟨l, hl, hq⟩ := list_of Q n fun i hi => h i (by omega)
    obtain ⟨x, hx⟩ := h n (by omega)
    refine ⟨l ++ [x], by simp [hl], fun i y hy => ?_⟩
    rw [List.getElem?_append] at hy
    split at hy
    · exact hq i y hy
    · have : i - l.length = 0 := by
        rcases Nat.eq_zero_or_pos (i - l.length) with h0 | h0
        · exact h0
        · rw [List.getElem?_eq_none (by simp; omega)] at hy; cases hy
      rw [this] at hy
      cases hy
      obtain rfl : i = n := by omega
      exact hx
theorem weights_all {H : Type} {e : TypeId} : ∀ {l : List (DataW H)} {d : DataW H} {q : Nat}, d ∈ l → q ∈ d.weights Tryd.prog e → q ∈ DataW.weightsAll Tryd.prog e l
  | [], d, q, h, _ => by cases h
  | x :: l, d, q, h, hq => by
    rw [DataW.weightsAll, List.mem_append]
    rcases List.mem_cons.1 h with rfl | h
    · exact .inl hq
    · exact .inr (weights_all h hq)
section
variable {H : Type} {enc : TypeId × Value → H} {W : World} {held : Bool}
theorem expr_in : ∀ (fuel : Nat) (cs : List Value) (x : DataW H × List MemPlace), DataW.trod enc Tryd.prog W 0 (fun _ => true) held fuel 24 cs = some x → (∀ q ∈ x.1.weights Tryd.prog 24, q ≤ reachBytes) →
    ∃ t : ET, cs = ec t ∧ t.In W ∧ Kl t := by
  intro fuel
  induction fuel using Nat.strongRecOn with
  | ind fuel IH =>
    intro cs x h hw
    obtain ⟨ys, n, rfl, rfl, hlen, hyl, hf⟩ := DataW.trod_struct Tryd.underlying24 h
    have cE : Tryd.prog.cellsOf 24 = 6 := by kernel_rfl
    rw [cE] at hlen
    obtain ⟨u0, u1, u2, u3, u4, u5, rfl⟩ : ∃ u0 u1 u2 u3 u4 u5, cs = [u0, u1, u2, u3, u4, u5] := by
      match cs, hlen with
      | [u0, u1, u2, u3, u4, u5], _ => exact ⟨u0, u1, u2, u3, u4, u5, rfl⟩
    have c3 : Tryd.prog.cellsOf 3 = 1 := by kernel_rfl
    have c9 : Tryd.prog.cellsOf 9 = 1 := by kernel_rfl
    have c2 : Tryd.prog.cellsOf 2 = 1 := by kernel_rfl
    have c22 : Tryd.prog.cellsOf 22 = 1 := by kernel_rfl
    have h0 : DataW.trod enc Tryd.prog W 0 (fun _ => true) held n 3 ((([u0, u1, u2, u3, u4, u5] : List Value).drop 0).take (Tryd.prog.cellsOf 3)) = ys[0]? := hf 0 _ rfl
    have h1 : DataW.trod enc Tryd.prog W 0 (fun _ => true) held n 9 ((([u0, u1, u2, u3, u4, u5] : List Value).drop 1).take (Tryd.prog.cellsOf 9)) = ys[1]? := hf 1 _ rfl
    have h2 : DataW.trod enc Tryd.prog W 0 (fun _ => true) held n 2 ((([u0, u1, u2, u3, u4, u5] : List Value).drop 2).take (Tryd.prog.cellsOf 2)) = ys[2]? := hf 2 _ rfl
    have h3 : DataW.trod enc Tryd.prog W 0 (fun _ => true) held n 9 ((([u0, u1, u2, u3, u4, u5] : List Value).drop 3).take (Tryd.prog.cellsOf 9)) = ys[3]? := hf 3 _ rfl
    have h4 : DataW.trod enc Tryd.prog W 0 (fun _ => true) held n 9 ((([u0, u1, u2, u3, u4, u5] : List Value).drop 4).take (Tryd.prog.cellsOf 9)) = ys[4]? := hf 4 _ rfl
    have h5 : DataW.trod enc Tryd.prog W 0 (fun _ => true) held n 22 ((([u0, u1, u2, u3, u4, u5] : List Value).drop 5).take (Tryd.prog.cellsOf 22)) = ys[5]? := hf 5 _ rfl
    rw [c3] at h0
    rw [c9] at h1 h3 h4
    rw [c2] at h2
    rw [c22] at h5
    simp only [List.drop_zero, List.take_succ_cons, List.take_zero, List.drop_succ_cons] at h0 h1 h2 h3 h4 h5
    have hy : ys.length = 6 := hyl
    obtain ⟨y0, y1, y2, y3, y4, y5, rfl⟩ : ∃ y0 y1 y2 y3 y4 y5, ys = [y0, y1, y2, y3, y4, y5] := by
      match ys, hy with
      | [y0, y1, y2, y3, y4, y5], _ => exact ⟨y0, y1, y2, y3, y4, y5, rfl⟩
    simp only [List.getElem?_cons_zero, List.getElem?_cons_succ] at h0 h1 h2 h3 h4 h5
    have hwe : ∀ (j : Nat) (t : TypeId) (d : DataW H), ([3, 9, 2, 9, 9, 22] : List TypeId)[j]? = some t → ([y0.1, y1.1, y2.1, y3.1, y4.1, y5.1] : List (DataW H))[j]? = some d → ∀ q ∈ d.weights Tryd.prog t, q ≤ reachBytes := by
      intro j t d ht hd q hq
      refine hw q ?_
      have hm := DataW.weights_mem_each ht hd q hq
      simp only [List.map_cons, List.map_nil, DataW.weights, Tryd.underlying24]
      exact hm
    obtain ⟨k, e0, _, _⟩ := DataW.trod_int Tryd.underlying3 h0
    obtain ⟨s1, e1, d1, _⟩ := DataW.trod_string Tryd.underlying9 h1
    obtain ⟨m, e2, _, w2⟩ := DataW.trod_int Tryd.underlying2 h2
    obtain ⟨s3, e3, d3, _⟩ := DataW.trod_string Tryd.underlying9 h3
    obtain ⟨s4, e4, d4, _⟩ := DataW.trod_string Tryd.underlying9 h4
    have hs : ∀ (j : Nat) (s : ByteArray) (y : DataW H × List MemPlace), y = (.lit (.string s.data.toList), []) → ([3, 9, 2, 9, 9, 22] : List TypeId)[j]? = some 9 → ([y0.1, y1.1, y2.1, y3.1, y4.1, y5.1] : List (DataW H))[j]? = some y.1 → s.data.toList.length ≤ 140737488355328 := by
      intro j s y hy ht hd
      have := hwe j 9 y.1 ht hd s.data.toList.length (by rw [hy]; simp [DataW.weights])
      unfold reachBytes at this
      omega
    have l1 := hs 1 s1 y1 d1 rfl rfl
    have l3 := hs 3 s3 y3 d3 rfl rfl
    have l4 := hs 4 s4 y4 d4 rfl rfl
    simp at e0 e1 e2 e3 e4
    have b2 := bounds_i64 w2
    have fin : ∀ (A : Option Addr) (c : Nat) (ts : List ET), u5 = .slice A ts.length c → (A = none → c = 0) → ts.length ≤ c → c ≤ maxLen → ts.length ≤ 1599289640355 → (∀ j (h : j < ts.length), CellsAt W A j ts[j] ∧ ET.In W ts[j]) → (∀ t ∈ ts, Kl t) →
        ∃ t : ET, [u0, u1, u2, u3, u4, u5] = ec t ∧ t.In W ∧ Kl t := fun A c ts h5' hA hc hm hl hk hkl =>
      ⟨.mk k s1.data.toList m s3.data.toList s4.data.toList A c ts, by rw [e0, e1, e2, e3, e4, h5']; simp [ec, ET.k, ET.op, ET.n, ET.v, ET.f, ET.A, ET.c, ET.ks, str_of], .of ⟨b2.1, b2.2, l1, l3, l4, hA, hc, hm⟩ hk, kl_mk hl hkl⟩
    rcases DataW.trod_slice Tryd.underlying22 h5 with ⟨e5, _⟩ | ⟨a, len, cap, elems, rest, n', hn, e5, d5, _, hlc, hcm, hel, hes, hrs, _⟩
    · simp at e5
      exact fin none 0 [] e5 (fun _ => rfl) (Nat.le_refl _) (Nat.zero_le _) (Nat.zero_le _) (fun j h => absurd h (by simp)) (fun t ht => by cases ht)
    · simp at e5
      have hrl := (hrs rfl).1
      have hwl : ∀ q ∈ y5.1.weights Tryd.prog 22, q ≤ reachBytes := hwe 5 _ _ rfl rfl
      have hb : (elems.length + rest.length) * 88 ≤ reachBytes := by
        have := hwl ((elems.length + rest.length) * 88) (by
          rw [d5]
          simp only [DataW.weights, Tryd.underlying22, List.length_map, show Tryd.prog.bytesOf 24 = 88 by kernel_rfl]
          exact List.mem_cons_self ..)
        exact this
      unfold reachBytes at hb
      have hwi : ∀ y ∈ elems, ∀ q ∈ y.1.weights Tryd.prog 24, q ≤ reachBytes := by
        intro y hy q hq
        refine hwl q ?_
        rw [d5]
        simp only [DataW.weights, Tryd.underlying22]
        exact List.mem_cons_of_mem _ (List.mem_append_left _ (weights_all (List.mem_map_of_mem hy) hq))
      obtain ⟨l, hll, hq⟩ := list_of (fun i (t : ET) => (∀ r u, (ec t)[r]? = some u → W.cell? ((a.add (i * 6)).add r) = some u) ∧ t.In W ∧ Kl t) len fun i hil => by
        have hi := hes i hil
        rw [List.getElem?_eq_getElem (by omega), cE] at hi
        obtain ⟨cs', hc, ht'⟩ := Option.bind_eq_some_iff.1 hi
        obtain ⟨t, het, htin, htk⟩ := IH n' (by omega) cs' _ ht' (hwi _ (List.getElem_mem _))
        obtain ⟨_, _, hat⟩ := World.cells?_some hc
        refine ⟨t, fun r u hu => ?_, htin, htk⟩
        have hr : r < 6 := by
          have := (List.getElem?_eq_some_iff.1 hu).1
          simpa [ec] using this
        have g := hat r hr
        rw [het] at g
        rw [g]
        exact hu
      obtain ⟨b, off, sp⟩ := a
      refine fin (some ⟨b, off, sp⟩) cap l (by rw [e5, hll]) (fun h => by cases h) (by omega) hcm (by omega) (fun j hj => ?_) (fun t ht => ?_)
      · obtain ⟨hc, htin, _⟩ := hq j _ (List.getElem?_eq_getElem hj)
        have hs : sp = none := by
          have hl0 : 0 < l.length := by omega
          obtain ⟨hc0, _, _⟩ := hq 0 _ (List.getElem?_eq_getElem hl0)
          have h0 := hc0 0 (.int .i64 l[0].k) rfl
          simpa [Addr.add] using World.cell?_spot h0
        subst hs
        have gx : ∀ r u, (ec l[j])[r]? = some u → W.cell? ⟨b, off + (j * 6 + r), none⟩ = some u := fun r u hu => by
          have := hc r u hu
          rw [Go.Deep.add_add, add_plain] at this
          exact this
        exact ⟨⟨b, off, rfl, gx 0 _ rfl, gx 1 _ rfl, gx 2 _ rfl, gx 3 _ rfl, gx 4 _ rfl, gx 5 _ rfl⟩, htin⟩
      · obtain ⟨i, hi, rfl⟩ := List.getElem_of_mem ht
        exact (hq i _ (List.getElem?_eq_getElem hi)).2.2
/-- An expression that came in. -/
theorem expr_open2 {r : Reach} {b0 : Nat} {v : Value} {d : DataW H} {p : List MemPlace} (hv : Value.okWide Tryd.prog W r b0 24 v) (h : DataW.Trod enc Tryd.prog W 0 (fun _ => true) held 24 v d p) (hw : ∀ q ∈ d.weights Tryd.prog 24, q ≤ reachBytes) :
    ∃ t : ET, v = .agg #[.int .i64 t.k, .string (str t.op), .int .i64 t.n, .string (str t.v), .string (str t.f), .slice t.A t.ks.length t.c] ∧ t.In W ∧ Kl t := by
  obtain ⟨cs, rfl, hsz⟩ := okWide_struct Tryd.underlying24 hv
  obtain ⟨fuel, ht⟩ := h
  obtain ⟨t, het, hin, hkl⟩ := expr_in fuel _ _ ht hw
  refine ⟨t, ?_, hin, hkl⟩
  obtain ⟨l⟩ := cs
  simp only [Value.cells] at het
  rw [het]
  rfl
end
end Go.Proofs.YtbhjimlikffalaaDoor
