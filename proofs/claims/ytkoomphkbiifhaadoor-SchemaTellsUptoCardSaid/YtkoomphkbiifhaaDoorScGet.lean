/- Get: a kind, and all of them. -/
import Derived.Test.YtkoomphkbiifhaaDoorScPut
import Derived.Test.YtkoomphkbiifhaaDoorScGetMath
import Derived.Test.YtkoomphkbiifhaaDoorScOwn
import Derived.Test.YtkoomphkbiifhaaDoorScRight
namespace Go.Proofs.YtkoomphkbiifhaaDoor
open Go.RowKit
set_option linter.unusedVariables false

theorem below_drewN {B : Nat} {a w : World} (h : Below B a w) (n : Nat) : Below B a (w.drewN n) := ⟨h.os, h.tape, h.output, h.size, h.block⟩
/-- The library's Cut at one byte. -/
theorem cutc_any (c : UInt8) (s : Nm) (w : World) (hs : s.length < 4294967281) (hT : Tabs w) :
    Calls Tryd.prog 29 #[.string (str s), .string (str [c])] w fun e w' => e = .returned (.tuple #[.string (str (cutB c s).1), .string (str (cutB c s).2.1), .bool (cutB c s).2.2]) ∧ Below w.heap.size w w' ∧ w'.heap = w.heap := by
  obtain ⟨m, hm⟩ := hT.2
  refine (Tryd.strings_Cut (str s) (str [c]) m w (by rw [str_size]; exact hs) hm).mono ?_
  rintro e w' ⟨rfl, n, rfl⟩
  rw [str_data, str_data, cut_eq]
  exact ⟨rfl, below_drewN (Below.refl _ _) _, by simp⟩
theorem cutb_any (s : Nm) (w : World) :
    s.length ≤ 9223372036854775807 → Calls Tryd.prog 47 #[.string (str s), .string { data := #[41] }] w fun e w' => e = .returned (.tuple #[.string (str (Lib.trimSuffix s [41])), .bool (Lib.hasSuffix s [41])]) ∧ w = w' := fun hs => by
  refine (Tryd.strings_CutSuffix (str s) (str [41]) w (by rw [str_size]; exact hs)).mono ?_
  rintro e w' ⟨rfl, rfl⟩
  rw [str_data, str_data]
  exact ⟨rfl, rfl⟩
theorem splitn_any (s : Nm) (w : World) (hs : s.length < 4294967281) (hT : Tabs w) :
    Calls Tryd.prog 48 #[.string (str s), .string { data := #[44] }, .int .i64 9] w fun e w' => ∃ d, e = .returned (.slice (some ⟨w.heap.size, 0, none⟩) (splitC 8 s).length d) ∧ Strs w' (some ⟨w.heap.size, 0, none⟩) d (splitC 8 s) ∧ Below w.heap.size w w' := by
  obtain ⟨m, hm⟩ := hT.2
  refine (Tryd.strings_SplitN (str s) (str [44]) 9 m w (by rw [str_size]; exact hs) hm (by decide) (by omega) (by omega)).mono ?_
  rintro e w' ⟨rfl, rfl⟩
  rw [str_size]
  have hk : min 9 (s.length + 1) - 1 = min 8 s.length := by omega
  rw [hk]
  obtain ⟨L, hL⟩ : ∃ L, Lib.splitB (str [44]) 0 (min 8 s.length) (str s) = L := ⟨_, rfl⟩
  have hd := Lib.splitB_data (str [44]) 0 (min 8 s.length) (str s)
  rw [hL, str_data, str_data, splitK_eq, splitC_min] at hd
  have hlen : L.length = (splitC 8 s).length := by rw [← hd]; simp
  have hle : (splitC 8 s).length ≤ min 9 (s.length + 1) := by
    rw [← splitC_min]
    have := (splitC_len (min 8 s.length) s).2
    omega
  rw [hL]
  refine ⟨min 9 (s.length + 1), by rw [hlen], ⟨fun i u hu => ⟨_, rfl, ?_⟩, (fun h => by cases h), hle, by unfold maxLen; omega⟩, (Below.refl _ _).alloc (Nat.le_refl _) _⟩
  rw [Go.WideShapes.add_plain, Nat.zero_add, cell_of_row _ w.heap.size i _ 9 (0, 0) (heap_alloc_new w _)]
  rw [← hd, List.map_map, List.getElem?_map] at hu
  obtain ⟨x, hx, rfl⟩ := Option.map_eq_some_iff.1 hu
  have hi : i < L.length := by
    rcases Nat.lt_or_ge i L.length with h | h
    · exact h
    · rw [List.getElem?_eq_none h] at hx; cases hx
  simp only [Lib.cellsOf, List.getElem?_toArray, Function.comp, str_of]
  rw [List.getElem?_append_left (by simpa using hi), List.getElem?_map, hx]
  rfl
theorem cut40_any (s : Nm) (w : World) (hs : s.length < 4294967281) (hT : Tabs w) :
    Calls Tryd.prog 29 #[.string (str s), .string { data := #[40] }] w fun e w' => e = .returned (.tuple #[.string (str (cutB 40 s).1), .string (str (cutB 40 s).2.1), .bool (cutB 40 s).2.2]) ∧ Below w.heap.size w w' ∧ w'.heap = w.heap := cutc_any 40 s w hs hT
theorem cut59_any (s : Nm) (w : World) (hs : s.length < 4294967281) (hT : Tabs w) :
    Calls Tryd.prog 29 #[.string (str s), .string { data := #[59] }] w fun e w' => e = .returned (.tuple #[.string (str (cutB 59 s).1), .string (str (cutB 59 s).2.1), .bool (cutB 59 s).2.2]) ∧ Below w.heap.size w w' ∧ w'.heap = w.heap := cutc_any 59 s w hs hT
theorem Strs.set {w : World} {A : Option Addr} {c : Nat} {l : List Nm} (h : Strs w A c l) (p : Addr) (v : Value) (hne : ∀ a, A = some a → a.block ≠ p.block) : Strs (w.setCell p v) A c l := by
  refine ⟨fun i u hu => ?_, h.2⟩
  obtain ⟨x, rfl, hx⟩ := h.1 i u hu
  have eb : (x.add i).block = x.block := by simp only [Addr.add]; split <;> rfl
  refine ⟨x, rfl, (World.cell?_of_block (Below.heap_setCell _ _ _ _ ?_)).trans hx⟩
  rw [eb]
  exact hne x rfl
theorem ret_kind {post : Ending → World → Prop} {a : Act} {w : World} {b : Nat} {x y : Value} {ok : Bool} (h : Has w b 40 #[x, y]) (h2 : a.tmps[2]?.getD undef = .pointer (some ⟨b, 0, none⟩)) (h3 : a.tmps[3]?.getD undef = .bool ok) (hd : a.defers = [])
    (hp : post (.returned (.tuple #[.agg #[x, y], .bool ok])) w) : bodyPost Tryd.prog Tryd.f30 post Exit.ret a w := by
  have v0 := h.cell 0
  have v1 := h.cell 1
  simp at v0 v1
  exact bodyPost_ret (v := .tuple #[.agg #[x, y], .bool ok]) (by simp [results, Tryd.results30, go_sem, h2, h3, v0, v1]) hd hp
/-- What getKind tells. -/
def GkPost (r : Option Kd) (w : World) (e : Ending) (w' : World) : Prop := Below w.heap.size w w' ∧ match r with
  | none => e = .returned (.tuple #[.agg #[.string (str []), .slice none 0 0], .bool false])
  | some k => ∃ F d, e = .returned (.tuple #[.agg #[.string (str k.1), .slice F k.2.length d], .bool true]) ∧ Strs w' F d k.2 ∧ ∀ a, F = some a → w.heap.size ≤ a.block
theorem gk_no {t : Nm} (h : ¬ ((cutB 40 t).2.2 = true ∧ Lib.hasSuffix (cutB 40 t).2.1 [41] = true)) : gk t = none := if_neg h
theorem gk_yes {t : Nm} (h1 : (cutB 40 t).2.2 = true) (h2 : Lib.hasSuffix (cutB 40 t).2.1 [41] = true) : gk t = some ((cutB 40 t).1, if Lib.trimSuffix (cutB 40 t).2.1 [41] = [] then [] else splitC 8 (Lib.trimSuffix (cutB 40 t).2.1 [41])) := if_pos ⟨h1, h2⟩
set_option maxHeartbeats 1000000 in
theorem getKind_any (t : Nm) (w : World) (hs : t.length < 4294967281) (hT : Tabs w) :
    Calls Tryd.prog 30 #[.string (str t)] w (GkPost (gk t) w) := by
  have gn := gk_no (t := t)
  have gy := gk_yes (t := t)
  have le := (cutB_le 40 t).1
  have le2 := trim_le (cutB 40 t).2.1
  have cc := cut40_any t
  have cd := cutb_any (cutB 40 t).2.1
  generalize (cutB 40 t).1 = nm at *
  generalize (cutB 40 t).2.1 = bh at *
  generalize (cutB 40 t).2.2 = op at *
  have sn := splitn_any (Lib.trimSuffix bh [41])
  generalize Lib.trimSuffix bh [41] = fl at *
  generalize Lib.hasSuffix bh [41] = cl at *
  generalize gk t = r at *
  obtain ⟨W, hW⟩ : ∃ W, W = w.alloc (Obj.cells #[Value.string { data := #[] }, Value.slice none 0 0] 40) := ⟨_, rfl⟩
  have bl : Below w.heap.size w W := by rw [hW]; exact (Below.refl _ _).alloc (Nat.le_refl _) _
  have hX : Has W w.heap.size 40 #[Value.string { data := #[] }, Value.slice none 0 0] := by rw [hW]; exact Has.new _ _ _
  have HW := Lib.hid hW
  have HX := Lib.hid hX
  have hz : W.heap.size = w.heap.size + 1 := by rw [hW]; simp
  clear hW hX
  go_enter Tryd.func30, Tryd.ntmps30
  go_wp2_with fail
  rw [← HW.out]
  refine (cc W hs (hT.below bl)).mono ?_
  rintro e w1 ⟨rfl, b1, hh⟩
  have hz1 : w1.heap.size = w.heap.size + 1 := by rw [hh, hz]
  have B1 := bl.trans (b1.mono bl.size)
  have HX1 := Lib.hid (HX.out.below b1 (by omega))
  clear b1 hh HX cc
  go_wp2_with fail
  refine (cd w1 (by omega)).mono ?_
  rintro e w' ⟨rfl, rfl⟩
  have x0 := HX1.out.cell 0
  have x1 := HX1.out.cell 1
  have f0 := HX1.out.free 0
  have f1 := HX1.out.free 1
  simp at x0 x1
  by_cases hoc : op = true ∧ cl = true
  · obtain ⟨rfl, rfl⟩ := hoc
    have hr := gy rfl rfl
    clear gn gy
    subst hr
    by_cases hf : fl = []
    · subst hf
      have es : (str ([] : Nm)).toList = [] := str_toList []
      have es2 : (!(str ([] : Nm)).toList.isEmpty) = false := by rw [es]; rfl
      go_wp2_with fail
      refine ret_kind (x := .string (str nm)) (y := .slice none 0 0) (((HX1.out.put 0 _).put 0 _).put 1 _) rfl rfl rfl ⟨?_, none, 0, rfl, Strs.nil _, fun a h => by cases h⟩
      exact ((B1.setCell (Nat.le_refl _) _).setCell (Nat.le_refl _) _).setCell (Nat.le_refl _) _
    · rw [if_neg hf]
      have es : (str fl).toList.isEmpty = false := by rw [str_toList]; simpa using hf
      have es2 : ((str fl).toList = []) = False := by rw [str_toList]; simpa using hf
      have es3 : (!(str fl).toList.isEmpty) = true := by rw [es]; rfl
      obtain ⟨W2, hW2⟩ : ∃ W2, W2 = w1.setCell ⟨w.heap.size, 0, none⟩ (.string (str nm)) := ⟨_, rfl⟩
      have B2 : Below w.heap.size w W2 := by rw [hW2]; exact B1.setCell (Nat.le_refl _) _
      have hX2 : Has W2 w.heap.size 40 #[Value.string (str nm), Value.slice none 0 0] := by rw [hW2]; exact HX1.out.put 0 _
      have HW2 := Lib.hid hW2
      have HX2 := Lib.hid hX2
      have hz2 : W2.heap.size = w.heap.size + 1 := by rw [hW2]; simp [hz1]
      clear hW2 hX2
      go_wp2_with fail
      rw [← HW2.out]
      refine (sn W2 (by omega) (hT.below B2)).mono ?_
      rintro e w3 ⟨d, rfl, hst, b3⟩
      rw [hz2] at hst
      have B3 := B2.trans (b3.mono B2.size)
      have HX3 := Lib.hid (HX2.out.below b3 (by omega))
      have y0 := HX3.out.cell 0
      have y1 := HX3.out.cell 1
      have p0 := HX3.out.free 0
      have p1 := HX3.out.free 1
      simp at y0 y1
      have hz3 : w.heap.size < w3.heap.size := by have := b3.size; omega
      go_wp2_with fail
      refine ret_kind (x := .string (str nm)) (y := .slice (some ⟨w.heap.size + 1, 0, none⟩) (splitC 8 fl).length d) (((HX3.out.put 1 _).put 0 _).put 1 _) rfl rfl rfl ⟨?_, _, d, rfl, ?_, fun a h => by cases h; simp only; omega⟩
      · exact ((B3.setCell (Nat.le_refl _) _).setCell (Nat.le_refl _) _).setCell (Nat.le_refl _) _
      · exact ((hst.set _ _ (fun a h => by cases h; simp only; omega)).set _ _ (fun a h => by cases h; simp only; omega)).set _ _ (fun a h => by cases h; simp only; omega)
  · have hr := gn hoc
    subst hr
    clear gn gy
    cases op with
    | false =>
      go_wp2_with fail
      refine ret_kind (x := .string (str [])) (y := .slice none 0 0) ((HX1.out.put 0 _).put 1 _) rfl rfl rfl ⟨?_, rfl⟩
      exact (B1.setCell (Nat.le_refl _) _).setCell (Nat.le_refl _) _
    | true =>
      cases cl with
      | true => exact absurd ⟨rfl, rfl⟩ hoc
      | false =>
        go_wp2_with fail
        refine ret_kind (x := .string (str [])) (y := .slice none 0 0) ((HX1.out.put 0 _).put 1 _) rfl rfl rfl ⟨?_, rfl⟩
        exact (B1.setCell (Nat.le_refl _) _).setCell (Nat.le_refl _) _

/-- Kinds, from a text, behind those that are read already. -/
def getL : Nat → List Kd → Nm → Option (List Kd)
  | 0, _, _ => none
  | f + 1, acc, t => if t = [] then (if rightE acc = 0 then some acc else none) else
      match gk (cutB 59 t).1 with
      | none => none
      | some k => if (cutB 59 t).2.2 = true ∧ acc.length ≠ 16 then getL f (acc ++ [k]) (cutB 59 t).2.1 else none
def getT (t : Nm) : Option (List Kd) := getL (t.length + 1) [] t
/-- What Get tells. -/
def GetPost (r : Option (List Kd)) (w : World) (e : Ending) (w' : World) : Prop := Below w.heap.size w w' ∧ match r with
  | none => e = .returned (.tuple #[.slice none 0 0, .bool false])
  | some l => ∃ A c, e = .returned (.tuple #[.slice A l.length c, .bool true]) ∧ Kinds w' A c l
theorem gk_bytes {t : Nm} {k : Kd} (h : gk t = some k) : k.1.length ≤ t.length ∧ ∀ f ∈ k.2, f.length ≤ t.length := by
  unfold gk at h
  split at h
  · have le := (cutB_le 40 t).1
    have le2 := trim_le (cutB 40 t).2.1
    cases h
    refine ⟨by simp only; omega, fun f hf => ?_⟩
    simp only at hf
    split at hf
    · cases hf
    · have := splitC_bytes 8 _ f hf
      omega
  · cases h
set_option maxHeartbeats 2000000 in
theorem get_any (t : Nm) (w : World) (hs : t.length < 4294967281) (hT : Tabs w) :
    Calls Tryd.prog 13 #[.string (str t)] w (GetPost (getT t) w) := by
  go_enter Tryd.func13, Tryd.ntmps13
  go_wp2_with fail
  go_loopw [4, 5] (fun v s wr => ∃ (acc : List Kd) (rest : Nm) (f : Nat), s = .string (str rest) ∧ KW wr w.heap.size v acc ∧ acc.length ≤ 16 ∧ rest.length ≤ t.length ∧ rest.length + 1 ≤ f ∧ getL f acc rest = getT t ∧ (∀ k ∈ acc, k.1.length ≤ t.length ∧ ∀ f ∈ k.2, f.length ≤ t.length) ∧ Below w.heap.size w wr) (fun _ s _ => (match s with | .string x => x.size | _ => 0))
  case atStart => exact ⟨[], t, t.length + 1, rfl, KW.nil w _, by simp, Nat.le_refl _, Nat.le_refl _, rfl, (fun k hk => by cases hk), Below.refl _ _⟩
  case round =>
    obtain ⟨acc, rest, f, rfl, hK, hac, hrl, hf, hg, hby, br⟩ := hrel
    have HG := Lib.hid hg
    have HK := Lib.hid hK
    have HB := Lib.hid hby
    clear hg hK hby
    by_cases hr : rest = []
    · subst hr
      obtain ⟨f', rfl⟩ : ∃ f', f = f' + 1 := ⟨f - 1, by omega⟩
      have es : (str ([] : Nm)).toList = [] := str_toList []
      have es2 : (!(str ([] : Nm)).toList.isEmpty) = false := by rw [es]; rfl
      obtain ⟨A, c, rfl, hKd⟩ := HK.out.shape
      have hTr := hT.below br
      by_cases h0 : rightE acc = 0
      · have HE := Lib.hid (show getT t = some acc by rw [← HG.out, getL, if_pos rfl, if_pos h0])
        go_wp2_with fail
        refine (right_any acc A c wr hKd hTr (fun k hk => ⟨by have := (HB.out k hk).1; omega, fun f hf => by have := (HB.out k hk).2 f hf; omega⟩)).mono ?_
        rw [h0]
        rintro e w2 ⟨rfl, b2⟩
        go_wp2_with fail
        go_ret2
        rw [HE.out]
        exact ⟨br.trans (b2.mono br.size), A, c, rfl, hKd.below b2⟩
      · have HE := Lib.hid (show getT t = none by rw [← HG.out, getL, if_pos rfl, if_neg h0])
        obtain ⟨x, hx⟩ : ∃ x, rightE acc = x := ⟨_, rfl⟩
        rw [hx] at h0
        have hx0 : (x != 0) = true := by simpa using h0
        have HX := Lib.hid hx
        clear hx
        go_wp2_with fail
        refine (right_any acc A c wr hKd hTr (fun k hk => ⟨by have := (HB.out k hk).1; omega, fun f hf => by have := (HB.out k hk).2 f hf; omega⟩)).mono ?_
        rw [HX.out]
        rintro e w2 ⟨rfl, b2⟩
        go_wp2_with fail
        go_ret2
        rw [HE.out]
        exact ⟨br.trans (b2.mono br.size), rfl⟩
    · obtain ⟨f', rfl⟩ : ∃ f', f = f' + 1 := ⟨f - 1, by omega⟩
      have es : (str rest).toList.isEmpty = false := by rw [str_toList]; simpa using hr
      have es2 : ((str rest).toList = []) = False := by rw [str_toList]; simpa using hr
      have es3 : (!(str rest).toList.isEmpty) = true := by rw [es]; rfl
      have cl := cutB_le 59 rest
      have cc := cut59_any rest wr (by omega) (hT.below br)
      have hg := HG.out
      rw [getL, if_neg hr] at hg
      clear HG
      generalize (cutB 59 rest).1 = one at *
      generalize (cutB 59 rest).2.1 = bh at *
      generalize (cutB 59 rest).2.2 = en at *
      have HG := Lib.hid hg
      have HCL := Lib.hid cl.2
      have cl1 := cl.1
      clear hg cl
      go_wp2_with fail
      refine cc.mono ?_
      rintro e w1 ⟨rfl, b1, _⟩
      have B1 := br.trans (b1.mono br.size)
      have HK1 := Lib.hid (HK.out.below b1)
      clear cc HK
      go_wp2_with fail
      refine (getKind_any one w1 (by omega) (hT.below B1)).mono ?_
      rintro e w2 ⟨b2, he⟩
      have B2 := B1.trans (b2.mono B1.size)
      have HK2 := Lib.hid (HK1.out.below b2)
      cases hgk : gk one with
      | none =>
        rw [hgk] at he
        have HE := Lib.hid (show getT t = none by rw [← HG.out, hgk])
        simp only at he
        subst he
        cases en <;> (go_wp2_with fail; go_ret2; rw [HE.out]; exact ⟨B2.alloc B2.size _, rfl⟩)
      | some k =>
        rw [hgk] at he
        have hg2 := HG.out
        rw [hgk] at hg2
        simp only at hg2
        obtain ⟨F, d, rfl, hst, hfr⟩ := he
        have hkb := gk_bytes hgk
        clear hgk HG
        cases en with
        | false =>
          have HE := Lib.hid (show getT t = none by rw [← hg2, if_neg (by simp)])
          clear hg2
          go_wp2_with fail
          go_ret2
          rw [HE.out]
          exact ⟨B2.alloc B2.size _, rfl⟩
        | true =>
          obtain ⟨A, c, rfl, hKd⟩ := HK2.out.shape
          have hlK := HK1.out.lt
          clear HK1
          by_cases h16 : acc.length = 16
          · have HE := Lib.hid (show getT t = none by rw [← hg2, if_neg (by simp [h16])])
            clear hg2
            go_wp2_with fail
            go_ret2
            rw [HE.out]
            exact ⟨B2.alloc B2.size _, rfl⟩
          · have HE := Lib.hid (show getL f' (acc ++ [k]) bh = getT t by rw [← hg2, if_pos ⟨rfl, h16⟩])
            clear hg2
            have d16 : ((acc.length : Int) == 16) = false := by rw [beq_eq_false_iff_ne]; omega
            obtain ⟨W, hW⟩ : ∃ W, W = w2.alloc (.cells #[.string (str k.1), .slice F k.2.length d] 40) := ⟨_, rfl⟩
            have bW : Below w2.heap.size w2 W := by rw [hW]; exact (Below.refl _ _).alloc (Nat.le_refl _) _
            have BW := B2.trans (bW.mono B2.size)
            have hX : Has W w2.heap.size 40 #[.string (str k.1), .slice F k.2.length d] := by rw [hW]; exact Has.new _ _ _
            have x0 := hX.cell 0
            have x1 := hX.cell 1
            simp at x0 x1
            have HW := Lib.hid hW
            clear hW hX
            obtain ⟨v', w4, hrun, hK4, b4, _, _, _⟩ := (HK2.out.below bW).app BW.size k F d (hst.below bW) (fun _ a ha => by
              intro e
              have h1 := (hlK _ e).2
              have h2 := hfr a ha
              omega) (by omega)
            have hWz : W.heap.size = w2.heap.size + 1 := by rw [HW.out]; simp
            rw [hWz, HW.out] at hrun
            have HR := Lib.hid hrun
            clear hrun hWz x0 x1
            go_wp2_with (at_builtin; refine wpList_app HR.out rfl rfl rfl rfl rfl ?_)
            go_wp2_with fail
            go_roundw
            case rel =>
              refine ⟨acc ++ [k], bh, f', rfl, hK4, by simp; omega, by omega, by have := HCL.out trivial; omega, HE.out, fun m hm => ?_, BW.trans b4⟩
              rcases List.mem_append.1 hm with hm | hm
              · exact HB.out m hm
              · simp at hm
                subst hm
                exact ⟨by omega, fun f hf => by have := hkb.2 f hf; omega⟩
            case measure =>
              have := HCL.out trivial
              simp only [str_size]
              omega
end Go.Proofs.YtkoomphkbiifhaaDoor
