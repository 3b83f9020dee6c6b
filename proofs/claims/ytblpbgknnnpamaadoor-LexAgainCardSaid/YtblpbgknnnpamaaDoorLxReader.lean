/- The reader's small methods: beginsName, goesOn, begin. -/
import Derived.Test.YtblpbgknnnpamaaDoorLxOwn
import Derived.Laws.Cover4
namespace Go.Proofs.YtblpbgknnnpamaaDoor
open Go.RowKit
set_option linter.unusedVariables false

/-- The reader of the text s, with an open word of kind k from fr on, and the words v. -/
abbrev Rd (w : World) (q : Nat) (s : Nm) (k fr : Nat) (v : Value) : Prop := Has w q 44 #[.string (str s), .int .i64 k, .int .i64 fr, v]
set_option maxRecDepth 1000000 in
theorem enc_str (r : Nat) : Utf8.encode (r : Int) = str (enc r) := by unfold enc; rw [str_of]
theorem run_add_str (a b : List UInt8) (h : a.length + b.length ≤ 9223372036854775807) (W : World) : (Op.stringOp .add (str a) (str b)).run Tryd.prog W = .ok (.string (str (a ++ b))) W := by
  rw [run_string_add_sum W _ _ (by rw [str_size, str_size]; exact h), str_append]
theorem drop_str (s : Nm) (p : Nat) : (str s).extract p s.length = str (s.drop p) := by
  apply ByteArray.ext
  simp only [str, ByteArray.data_extract]
  simp
  exact List.take_of_length_le (by rw [List.length_drop]; omega)
theorem mid_str (s : Nm) (a b : Nat) : (str s).extract a b = str ((s.take b).drop a) := by
  apply ByteArray.ext
  simp [str, ByteArray.data_extract, List.drop_take]
theorem enc_len (r : Nat) : (enc r).length ≤ 4 := by
  have h := encode_size_le (r : Int)
  rwa [enc_str, str_size] at h
set_option maxHeartbeats 1000000 in
theorem bname_E (s : Nm) (k fr q p r : Nat) (v : Value) (w : World) (h : Rd w q s k fr v) (hs : s.length ≤ 2048) (hp : p ≤ s.length) (E : Nm) (he : Utf8.encode (r : Int) = str E) (hl : E.length ≤ 4) (hT : Tabs w) :
    Calls Tryd.prog 22 #[.pointer (some ⟨q, 0, none⟩), .int .i64 p, .int .i32 r] w fun e w' => e = .returned (.bool (E.isPrefixOf (s.drop p) && nameB E)) ∧ Below w.heap.size w w' := by
  obtain ⟨c0, c1, c2, c3⟩ := four h
  have hz := str_size s
  have hd := drop_str s p
  cases hx : E.isPrefixOf (s.drop p) with
  | false =>
    go_enter Tryd.func22, Tryd.ntmps22
    go_wp2_with fail
    refine (prefix_any (s.drop p) E w).mono ?_
    rw [hx]
    rintro e w' ⟨rfl, rfl⟩
    go_wp2_with fail
    go_ret
    exact ⟨rfl, Below.refl _ _⟩
  | true =>
    go_enter Tryd.func22, Tryd.ntmps22
    go_wp2_with fail
    refine (prefix_any (s.drop p) E w).mono ?_
    rw [hx]
    rintro e w' ⟨rfl, rfl⟩
    go_wp2_with fail
    refine (isName_any E _ (by omega) hT).mono ?_
    rintro e w1 ⟨rfl, b1⟩
    go_wp2_with fail
    go_ret
    exact ⟨rfl, b1⟩
theorem bname_any (s : Nm) (k fr q p r : Nat) (v : Value) (w : World) (h : Rd w q s k fr v) (hs : s.length ≤ 2048) (hp : p ≤ s.length) (hr : (Lib.decodeL (s.drop p)).1 = r) (hT : Tabs w) :
    Calls Tryd.prog 22 #[.pointer (some ⟨q, 0, none⟩), .int .i64 p, .int .i32 r] w fun e w' => e = .returned (.bool (bnB (s.drop p))) ∧ Below w.heap.size w w' := by
  unfold bnB
  rw [hr]
  exact bname_E s k fr q p r v w h hs hp (enc r) (enc_str r) (enc_len r) hT
set_option maxHeartbeats 1000000 in
set_option maxRecDepth 100000 in
theorem gsign_E (s : Nm) (fr q p r : Nat) (o : Nm) (v : Value) (w : World) (h : Rd w q s 3 fr v) (hs : s.length ≤ 2048) (hf : fr ≤ p) (hp : p ≤ s.length) (ho : (s.take p).drop fr = o) (E : Nm) (he : Utf8.encode (r : Int) = str E) (hl : E.length ≤ 4) :
    Calls Tryd.prog 14 #[.pointer (some ⟨q, 0, none⟩), .int .i64 p, .int .i32 r] w fun e w' => e = .returned (.bool (sgT.any fun s => (o ++ E).isPrefixOf s)) ∧ Below w.heap.size w w' := by
  obtain ⟨c0, c1, c2, c3⟩ := four h
  have hz := str_size s
  have hm := mid_str s fr p
  rw [ho] at hm
  have hol : o.length ≤ 2048 := by rw [← ho]; simp; omega
  have ha := run_add_str o E (by omega)
  clear ho
  go_enter Tryd.func14, Tryd.ntmps14
  go_wp2_with fail
  go_still_tail 13, (by kernel_rfl)
  change wpList _ _ _ _ _ w.drew
  have b1 : Below w.heap.size w w.drew := (Below.refl _ _).drew
  clear ha hm he c0 c1 c2 c3
  go_wp2_with fail
  refine (bsign_any (o ++ E) _).mono ?_
  rintro e w1 ⟨rfl, b2⟩
  go_wp2_with fail
  go_ret
  exact ⟨rfl, b1.trans (b2.mono b1.size)⟩
theorem goes0 (o l : Nm) : goes 0 o l = false := by simp [goes]
theorem goes1 (o l : Nm) {r : Nat} (hr : (Lib.decodeL l).1 = r) : goes 1 o l = (digB (r : Int) || bnB l) := by unfold goes; rw [if_pos rfl, hr]
theorem goes2 (o l : Nm) {r : Nat} (hr : (Lib.decodeL l).1 = r) : goes 2 o l = digB (r : Int) := by unfold goes; rw [if_neg (by omega), if_pos rfl, hr]
theorem goes3 (o l : Nm) {r : Nat} (hr : (Lib.decodeL l).1 = r) : goes 3 o l = sgT.any fun s => (o ++ enc r).isPrefixOf s := by unfold goes; rw [if_neg (by omega), if_neg (by omega), if_pos rfl, hr]
set_option maxHeartbeats 1000000 in
set_option maxRecDepth 100000 in
theorem goesOn_any (s : Nm) (k fr q p r : Nat) (o : Nm) (v : Value) (w : World) (h : Rd w q s k fr v) (hk : k ≤ 3) (hs : s.length ≤ 2048) (hf : fr ≤ p) (hp : p ≤ s.length) (ho : (s.take p).drop fr = o) (hr : (Lib.decodeL (s.drop p)).1 = r) (hr1 : r ≤ 1114111) (hT : Tabs w) :
    Calls Tryd.prog 14 #[.pointer (some ⟨q, 0, none⟩), .int .i64 p, .int .i32 r] w fun e w' => e = .returned (.bool (goes k o (s.drop p))) ∧ Below w.heap.size w w' := by
  obtain rfl | rfl | rfl | rfl : k = 0 ∨ k = 1 ∨ k = 2 ∨ k = 3 := by omega
  · rw [goes0]
    obtain ⟨c0, c1, c2, c3⟩ := four h
    go_enter Tryd.func14, Tryd.ntmps14
    go_wp2_with fail
    go_ret
    exact ⟨rfl, Below.refl _ _⟩
  · rw [goes1 o _ hr]
    have hB := bname_any s 1 fr q p r v w h hs hp hr hT
    obtain ⟨c0, c1, c2, c3⟩ := four h
    clear hr ho
    cases hd : digB (r : Int) with
    | true =>
      go_enter Tryd.func14, Tryd.ntmps14
      go_wp2_with fail
      refine (ldigit_any (r : Int) _ (by omega) (by omega)).mono ?_
      rw [hd]
      rintro e w' ⟨rfl, rfl⟩
      go_wp2_with fail
      go_ret
      exact ⟨rfl, Below.refl _ _⟩
    | false =>
      go_enter Tryd.func14, Tryd.ntmps14
      go_wp2_with fail
      refine (ldigit_any (r : Int) _ (by omega) (by omega)).mono ?_
      rw [hd]
      rintro e w' ⟨rfl, rfl⟩
      go_wp2_with fail
      refine hB.mono ?_
      rintro e w1 ⟨rfl, b1⟩
      go_wp2_with fail
      go_ret
      exact ⟨ret_bool (by rw [Bool.false_or]), b1⟩
  · rw [goes2 o _ hr]
    obtain ⟨c0, c1, c2, c3⟩ := four h
    clear hr ho
    go_enter Tryd.func14, Tryd.ntmps14
    go_wp2_with fail
    refine (ldigit_any (r : Int) _ (by omega) (by omega)).mono ?_
    rintro e w' ⟨rfl, rfl⟩
    go_wp2_with fail
    go_ret
    exact ⟨rfl, Below.refl _ _⟩
  · rw [goes3 o _ hr]
    exact gsign_E s fr q p r o v w h hs hf hp ho (enc r) (enc_str r) (enc_len r)
/-- begin writes two fields. -/
theorem Has.below_set {w : World} {q : Nat} {t : TypeId} {cs : Array Value} (h : Has w q t cs) {B : Nat} {w0 : World} (hb : Below B w0 w) (hq : B ≤ q) (i : Nat) (u : Value) : Below B w0 (w.setCell ⟨q, i, none⟩ u) := hb.setCell (p := ⟨q, i, none⟩) hq u
set_option maxHeartbeats 1000000 in
theorem begin_any (s : Nm) (k fr q p r : Nat) (v : Value) (w : World) (h : Rd w q s k fr v) (hs : s.length ≤ 2048) (hp : p ≤ s.length) (hr : (Lib.decodeL (s.drop p)).1 = r) (hr1 : r ≤ 1114111) (hT : ∀ u : World, w.grownBy u (some q) → Tabs u) :
    Calls Tryd.prog 16 #[.pointer (some ⟨q, 0, none⟩), .int .i64 p, .int .i32 r] w fun e w' => e = .returned (.tuple #[]) ∧ Rd w' q s (beg (s.drop p)) p v ∧ w.grownBy w' (some q) := by
  obtain ⟨c0, c1, c2, c3⟩ := four h
  have f1 := h.free 1
  have f2 := h.free 2
  have g1 := grown_set w ⟨q, 2, none⟩ (.int .i64 p)
  have h1 : Rd (w.setCell ⟨q, 2, none⟩ (.int .i64 p)) q s k p v := h.put 2 _
  have hbg : beg (s.drop p) = if spB (r : Int) then 0 else if bnB (s.drop p) then 1 else if digB (r : Int) then 2 else 3 := by unfold beg; rw [hr]
  have hT1 := hT _ g1
  have hB := bname_any s k p q p r v _ h1 hs hp hr hT1
  obtain ⟨W, hW⟩ : ∃ W, w.setCell ⟨q, 2, none⟩ (.int .i64 p) = W := ⟨_, rfl⟩
  rw [hW] at g1 h1 hT1 hB
  have HBG := Lib.hid hbg
  have H1 := Lib.hid h1
  have G1 := Lib.hid g1
  have e1 := H1.out.free 1
  obtain ⟨d0, d1, d2, d3⟩ := four h1
  clear hbg hr h1 g1
  have fin_ : ∀ (u : World) (K : Nat), Rd u q s k p v → w.grownBy u (some q) → beg (s.drop p) = K → Rd (u.setCell ⟨q, 1, none⟩ (.int .i64 K)) q s (beg (s.drop p)) p v ∧ w.grownBy (u.setCell ⟨q, 1, none⟩ (.int .i64 K)) (some q) := fun u K hu hg hK => by
    refine ⟨?_, World.grownBy.trans hg (grown_set u ⟨q, 1, none⟩ _)⟩
    have := hu.put 1 (.int .i64 (K : Int))
    rw [hK]
    exact this
  have FIN := Lib.hid fin_
  clear fin_
  cases hsp : spB (r : Int) with
  | true =>
    have hb0 : beg (s.drop p) = 0 := by rw [HBG.out, hsp]; rfl
    have HB0 := Lib.hid hb0
    clear hb0
    go_enter Tryd.func16, Tryd.ntmps16
    go_wp2_with fail
    refine (lspace_any (r : Int) _ (by omega) (by omega)).mono ?_
    rw [hsp]
    rintro e w' ⟨rfl, rfl⟩
    go_wp2_with fail
    go_end0
    exact ⟨rfl, FIN.out W 0 H1.out G1.out HB0.out⟩
  | false =>
  cases hbn : bnB (s.drop p) with
  | true =>
    have hb0 : beg (s.drop p) = 1 := by rw [HBG.out, hsp, hbn]; rfl
    have HB0 := Lib.hid hb0
    clear hb0
    rw [hbn] at hB
    go_enter Tryd.func16, Tryd.ntmps16
    go_wp2_with fail
    refine (lspace_any (r : Int) _ (by omega) (by omega)).mono ?_
    rw [hsp]
    rintro e w' ⟨rfl, rfl⟩
    go_wp2_with fail
    refine hB.mono ?_
    rintro e w2 ⟨rfl, b2⟩
    have h2 := H1.out.below b2 H1.out.lt
    obtain ⟨x0, x1, x2, x3⟩ := four h2
    have y1 := h2.free 1
    have H2 := Lib.hid h2
    have G2 : Hid (w.grownBy w2 (some q)) := Lib.hid (World.grownBy.trans G1.out ⟨b2.os, b2.tape, b2.output, b2.size, fun j hj _ => b2.block j hj⟩)
    clear h2 b2 d0 d1 d2 d3 e1
    go_wp2_with fail
    go_end0
    exact ⟨rfl, FIN.out w2 1 H2.out G2.out HB0.out⟩
  | false =>
    rw [hbn] at hB
    obtain ⟨K, hK⟩ : ∃ K : Nat, K = if digB (r : Int) then 2 else 3 := ⟨_, rfl⟩
    have hb0 : beg (s.drop p) = K := by rw [HBG.out, hsp, hbn, hK]; rfl
    have HB0 := Lib.hid hb0
    clear hb0
    cases hdg : digB (r : Int) with
    | true =>
      rw [hdg] at hK
      obtain rfl : K = 2 := hK
      go_enter Tryd.func16, Tryd.ntmps16
      go_wp2_with fail
      refine (lspace_any (r : Int) _ (by omega) (by omega)).mono ?_
      rw [hsp]
      rintro e w' ⟨rfl, rfl⟩
      go_wp2_with fail
      refine hB.mono ?_
      rintro e w2 ⟨rfl, b2⟩
      have h2 := H1.out.below b2 H1.out.lt
      obtain ⟨x0, x1, x2, x3⟩ := four h2
      have y1 := h2.free 1
      have H2 := Lib.hid h2
      have G2 : Hid (w.grownBy w2 (some q)) := Lib.hid (World.grownBy.trans G1.out ⟨b2.os, b2.tape, b2.output, b2.size, fun j hj _ => b2.block j hj⟩)
      clear h2 b2 d0 d1 d2 d3 e1
      go_wp2_with fail
      refine (ldigit_any (r : Int) _ (by omega) (by omega)).mono ?_
      rw [hdg]
      rintro e w' ⟨rfl, rfl⟩
      go_wp2_with fail
      go_end0
      exact ⟨rfl, FIN.out w2 2 H2.out G2.out HB0.out⟩
    | false =>
      rw [hdg] at hK
      obtain rfl : K = 3 := hK
      go_enter Tryd.func16, Tryd.ntmps16
      go_wp2_with fail
      refine (lspace_any (r : Int) _ (by omega) (by omega)).mono ?_
      rw [hsp]
      rintro e w' ⟨rfl, rfl⟩
      go_wp2_with fail
      refine hB.mono ?_
      rintro e w2 ⟨rfl, b2⟩
      have h2 := H1.out.below b2 H1.out.lt
      obtain ⟨x0, x1, x2, x3⟩ := four h2
      have y1 := h2.free 1
      have H2 := Lib.hid h2
      have G2 : Hid (w.grownBy w2 (some q)) := Lib.hid (World.grownBy.trans G1.out ⟨b2.os, b2.tape, b2.output, b2.size, fun j hj _ => b2.block j hj⟩)
      clear h2 b2 d0 d1 d2 d3 e1
      go_wp2_with fail
      refine (ldigit_any (r : Int) _ (by omega) (by omega)).mono ?_
      rw [hdg]
      rintro e w' ⟨rfl, rfl⟩
      go_wp2_with fail
      go_end0
      exact ⟨rfl, FIN.out w2 3 H2.out G2.out HB0.out⟩
end Go.Proofs.YtblpbgknnnpamaaDoor
