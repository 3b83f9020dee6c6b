/- The reader's method end. -/
import Derived.Test.YtblpbgknnnpamaaDoorLxReader
import Derived.Test.YtblpbgknnnpamaaDoorAppStep
import Derived.Deep.RegionLaw
namespace Go.Proofs.YtblpbgknnnpamaaDoor
open Go.RowKit
set_option linter.unusedVariables false

/-- What end leaves. -/
def EndPost (s : Nm) (k fr q : Nat) (base : Nat) (v : Value) (acc : List Tok) (o : Nm) (w : World) (e : Ending) (w' : World) : Prop :=
  ((close k o fr = none ∧ e = .returned (.bool false) ∧ Rd w' q s k fr v) ∨ (∃ ts v', close k o fr = some ts ∧ e = .returned (.bool true) ∧ Rd w' q s k fr v' ∧ TW w' base v' (acc ++ ts))) ∧ Below q w w' ∧ (∀ x, w.heap[q + 1]? = some x → w'.heap[q + 1]? = some x)
theorem three {w : World} {q : Nat} {t : TypeId} {a b c d : Value} (h : Has w q t #[a, b, c, d]) : w.cell? ⟨q, 0, none⟩ = some a ∧ w.cell? ⟨q, 1, none⟩ = some b ∧ w.cell? ⟨q, 2, none⟩ = some c :=
  ⟨h.cell 0, h.cell 1, h.cell 2⟩
theorem Has.al {w : World} {q : Nat} {t : TypeId} {cs : Array Value} (h : Has w q t cs) (o : Obj) : Has (w.alloc o) q t cs := h.below ((Below.refl _ _).alloc (Nat.le_refl _) o) h.lt
theorem Has.st4 {w : World} {q : Nat} {t : TypeId} {cs : Array Value} (h : Has w q t cs) {g : Nat} (hg : g ≠ q) (a b c d : Value) : Has ((((w.setCell ⟨g, 0, none⟩ a).setCell ⟨g, 1, none⟩ b).setCell ⟨g, 2, none⟩ c).setCell ⟨g, 3, none⟩ d) q t cs := by
  have e : ∀ (u : World) (i : Nat) (x : Value), Has u q t cs → Has (u.setCell ⟨g, i, none⟩ x) q t cs := fun u i x hu => (Below.heap_setCell u ⟨g, i, none⟩ x q (fun e => hg e.symm)).trans hu
  exact e _ 3 _ (e _ 2 _ (e _ 1 _ (e _ 0 _ h)))
set_option maxHeartbeats 4000000 in
set_option maxRecDepth 100000 in
theorem end_any (s : Nm) (k fr q p base : Nat) (o : Nm) (v : Value) (acc : List Tok) (w : World) (h : Rd w q s k fr v) (hv : TW w base v acc) (hbase : base = q + 2) (hbs : base ≤ w.heap.size) (hacc : acc.length ≤ 2048) (hk : k ≤ 3) (hs : s.length ≤ 2048) (hf : fr ≤ p) (hp : p ≤ s.length) (ho : (s.take p).drop fr = o) (hT : Tabs w) :
    Calls Tryd.prog 15 #[.pointer (some ⟨q, 0, none⟩), .int .i64 p] w (EndPost s k fr q base v acc o w) := by
  obtain ⟨c0, c1, c2, c3⟩ := four h
  by_cases hk0 : k = 0
  · subst hk0
    go_enter Tryd.func15, Tryd.ntmps15
    go_wp2_with fail
    go_ret
    exact ⟨.inr ⟨[], v, by simp [close], rfl, h, by rw [List.append_nil]; exact hv⟩, Below.refl _ _, fun x hx => hx⟩
  have d0 : ((k : Int) == 0) = false := by rw [beq_eq_false_iff_ne]; omega
  have hz := str_size s
  have hm := mid_str s fr p
  rw [ho] at hm
  have hol : o.length ≤ 2048 := by rw [← ho]; simp; omega
  have H := Lib.hid h
  have HV := Lib.hid hv
  clear ho h hv
  go_enter Tryd.func15, Tryd.ntmps15
  go_wp2_with fail
  have hq : q < w.heap.size := by omega
  have HD : Hid (Rd w.drew q s k fr v) := Lib.hid H.out
  have bD : Below w.heap.size w w.drew := (Below.refl _ _).drew
  have bA : Below w.heap.size w (w.alloc (.cells #[.int .i64 0, .string { data := #[] }, .int .i64 0, .int .i64 0] 30)).drew := ((Below.refl _ _).alloc (Nat.le_refl _) _).drew
  have hTD := hT.below bD
  have hTA := hT.below bA
  have HA : Hid (Has ((w.alloc (.cells #[.int .i64 0, .string { data := #[] }, .int .i64 0, .int .i64 0] 30)).drew) w.heap.size 30 #[.int .i64 0, .string { data := #[] }, .int .i64 0, .int .i64 0]) := Lib.hid (heap_alloc_new w _)
  have HE : Hid (Rd ((w.alloc (.cells #[.int .i64 0, .string { data := #[] }, .int .i64 0, .int .i64 0] 30)).drew) q s k fr v) := Lib.hid (H.out.below bA hq)
  clear c0 c1 c2 c3
  go_region_held3 (fun w' => w'.cell? ⟨q, 0, none⟩ = some (.string (str s)) ∧ w'.cell? ⟨q, 1, none⟩ = some (.int .i64 k) ∧ w'.cell? ⟨q, 2, none⟩ = some (.int .i64 fr))
    (first | with_reducible exact three HD.out | with_reducible exact three K3.out | with_reducible exact three (K3.out.al _) | with_reducible exact three HE.out | with_reducible exact three (K3.out.st4 (by omega) _ _ _ _))
    (first
      | (go_at_call 24; (with_reducible refine (token_any k o fr w.drew (by omega) hk (by omega) hTD).mono ?_); rintro e w3 ⟨⟨K, n, b, rfl, hcl⟩, b3'⟩; have HC := Lib.hid hcl; have b3 := bD.trans b3'; have K3 := Lib.hid (H.out.below b3 hq); clear hcl b3')
      | (go_at_call 24; (with_reducible refine (token_any k o fr ((w.alloc (.cells #[.int .i64 0, .string { data := #[] }, .int .i64 0, .int .i64 0] 30)).drew) (by omega) hk (by omega) hTA).mono ?_); rintro e w3 ⟨⟨K, n, b, rfl, hcl⟩, b3'⟩; have HC := Lib.hid hcl; have A3 := HA.out.below b3' HA.out.lt; have AA := Lib.hid A3; have ⟨a0, a1, a2, a3⟩ := four A3; have f0 := A3.free 0; have f1 := A3.free 1; have f2 := A3.free 2; have f3 := A3.free 3; have b3 := bA.trans (b3'.mono bA.size); have K3 := Lib.hid (H.out.below b3 hq); clear hcl b3' A3))
  · have A5 : Has (w3.alloc (.cells #[.int .i64 K, .string (str o), .int .i64 n, .int .i64 fr] 30)) w3.heap.size 30 #[.int .i64 K, .string (str o), .int .i64 n, .int .i64 fr] := heap_alloc_new w3 _
    have B5 : Below w.heap.size w (w3.alloc (.cells #[.int .i64 K, .string (str o), .int .i64 n, .int .i64 fr] 30)) := b3.alloc b3.size _
    have G5 := b3.size
    clear HD bD bA hTD hTA HA HE K3 b3
    generalize w3.alloc (.cells #[.int .i64 K, .string (str o), .int .i64 n, .int .i64 fr] 30) = w5 at *
    generalize w3.heap.size = g5 at *
    have R5 := H.out.below B5 hq
    have V5 := HV.out.below B5
    have I5 : ∀ x, w.heap[q + 1]? = some x → w5.heap[q + 1]? = some x := fun x hx => (B5.block _ (by omega)).trans hx
    have Bq := B5.mono (show q ≤ w.heap.size by omega)
    clear H HV hm
    cases b with
    | false =>
      have hcn : close k o fr = none := HC.out.elim (fun h => h.2) (fun h => by cases h.1)
      have HN := Lib.hid hcn
      have HI := Lib.hid I5
      clear hcn HC I5
      go_wp2_with fail
      go_ret
      exact ⟨.inl ⟨HN.out, rfl, R5⟩, Bq, HI.out⟩
    | true =>
      have hcs : close k o fr = some [⟨K, o, n, fr⟩] := HC.out.elim (fun h => by cases h.1) (fun h => h.2)
      have HS := Lib.hid hcs
      have HI := Lib.hid I5
      clear hcs HC I5
      obtain ⟨v', w6, hrun, hV6, b6, gr6, sz6, ow6⟩ := (V5.below (Below.refl _ _).drew).app (w := w5.drew) (show base ≤ w5.heap.size from Nat.le_trans hbs B5.size) ⟨K, o, n, fr⟩ (by omega)
      obtain ⟨A', c', ev, _⟩ := hV6.shape
      obtain ⟨L, hL⟩ : ∃ L, (acc ++ [(⟨K, o, n, fr⟩ : Tok)]).length = L := ⟨_, rfl⟩
      rw [hL] at ev
      subst ev
      clear hL
      have hlt := V5.lt
      have hvq : v.ownBlock ≠ some q := fun e => by have := (hlt _ e).1; omega
      obtain ⟨A, c, hvs, _⟩ := V5.shape
      have Ra : Rd (w5.drew.alloc (.cells (tc ⟨K, o, n, fr⟩).toArray 30)) q s k fr v := R5.below (((Below.refl w5.heap.size w5).drew).alloc (Nat.le_refl _) _) R5.lt
      have R6 : Rd w6 q s k fr v := Ra.grown gr6 hvq
      have R7 : Rd (w6.setCell ⟨q, 3, none⟩ (.slice A' L c')) q s k fr (.slice A' L c') := R6.put 3 _
      have V7 : TW (w6.setCell ⟨q, 3, none⟩ (.slice A' L c')) base (.slice A' L c') (acc ++ [⟨K, o, n, fr⟩]) := hV6.set _ _ (fun e => by have := (hV6.lt _ e).1; simp only at this; omega)
      have B7 : Below q w (w6.setCell ⟨q, 3, none⟩ (.slice A' L c')) := ((Bq.drew).trans (b6.mono (by omega))).setCell (p := ⟨q, 3, none⟩) (Nat.le_refl _) _
      have I7 : Hid (∀ x, w.heap[q + 1]? = some x → (w6.setCell ⟨q, 3, none⟩ (.slice A' L c')).heap[q + 1]? = some x) := Lib.hid (fun x hx => (Below.heap_setCell w6 ⟨q, 3, none⟩ _ (q + 1) (by simp)).trans ((b6.block _ (by omega)).trans (HI.out x hx)))
      have HR := Lib.hid hrun
      have HR7 := Lib.hid R7
      have HV7 := Lib.hid V7
      have HB7 := Lib.hid B7
      have Rb : Rd (w5.alloc (.cells (tc ⟨K, o, n, fr⟩).toArray 30)) q s k fr v := R5.below ((Below.refl w5.heap.size w5).alloc (Nat.le_refl _) _) R5.lt
      have Ab := A5.below ((Below.refl w5.heap.size w5).alloc (Nat.le_refl _) (.cells (tc ⟨K, o, n, fr⟩).toArray 30)) A5.lt
      obtain ⟨x0, x1, x2, x3⟩ := four R5
      obtain ⟨y0, y1, y2, y3⟩ := four A5
      obtain ⟨X0, X1, X2, X3⟩ := four Rb
      obtain ⟨Y0, Y1, Y2, Y3⟩ := four Ab
      obtain ⟨z0, z1, z2, z3⟩ := four R6
      have f3 := R6.free 3
      clear R5 V5 Bq hrun hV6 b6 gr6 sz6 ow6 hlt hvq Ra R6 R7 V7 B7 Rb Ab A5 B5 G5 HI x0 x1 x2 X0 X1 X2 z0 z1 z2
      unfold tc at *
      subst hvs
      go_wp2_with fail
      go_region_law (refine step_app (R := fun x y => .slice A' L c' = x ∧ w6 = y) ⟨_, w6, HR.out, rfl, rfl⟩ rfl rfl rfl (by simp [Act.eval]) (by simp [Act.eval]) ?_; rintro _ _ ⟨rfl, rfl⟩)
      all_goals
        clear x3 y0 y1 y2 y3 X3 Y0 Y1 Y2 Y3 z3 f3 HR
        go_wp2_with fail
        go_ret
        exact ⟨.inr ⟨_, _, HS.out, rfl, HR7.out, HV7.out⟩, HB7.out, I7.out⟩
  · have A5 : Has ((((w3.setCell ⟨w.heap.size, 0, none⟩ (.int .i64 K)).setCell ⟨w.heap.size, 1, none⟩ (.string (str o))).setCell ⟨w.heap.size, 2, none⟩ (.int .i64 n)).setCell ⟨w.heap.size, 3, none⟩ (.int .i64 fr)) w.heap.size 30 #[.int .i64 K, .string (str o), .int .i64 n, .int .i64 fr] := put4 AA.out _ _ _ _
    have B5 := below4 b3 (Nat.le_refl _) (.int .i64 K) (.string (str o)) (.int .i64 n) (.int .i64 fr)
    have G5 := Nat.le_refl w.heap.size
    clear HD bD bA hTD hTA HA HE K3 b3 AA a0 a1 a2 a3 f0 f1 f2 f3
    generalize (((w3.setCell ⟨w.heap.size, 0, none⟩ (.int .i64 K)).setCell ⟨w.heap.size, 1, none⟩ (.string (str o))).setCell ⟨w.heap.size, 2, none⟩ (.int .i64 n)).setCell ⟨w.heap.size, 3, none⟩ (.int .i64 fr) = w5 at *
    have R5 := H.out.below B5 hq
    have V5 := HV.out.below B5
    have I5 : ∀ x, w.heap[q + 1]? = some x → w5.heap[q + 1]? = some x := fun x hx => (B5.block _ (by omega)).trans hx
    have Bq := B5.mono (show q ≤ w.heap.size by omega)
    clear H HV hm
    cases b with
    | false =>
      have hcn : close k o fr = none := HC.out.elim (fun h => h.2) (fun h => by cases h.1)
      have HN := Lib.hid hcn
      have HI := Lib.hid I5
      clear hcn HC I5
      go_wp2_with fail
      go_ret
      exact ⟨.inl ⟨HN.out, rfl, R5⟩, Bq, HI.out⟩
    | true =>
      have hcs : close k o fr = some [⟨K, o, n, fr⟩] := HC.out.elim (fun h => by cases h.1) (fun h => h.2)
      have HS := Lib.hid hcs
      have HI := Lib.hid I5
      clear hcs HC I5
      obtain ⟨v', w6, hrun, hV6, b6, gr6, sz6, ow6⟩ := (V5.below (Below.refl _ _).drew).app (w := w5.drew) (show base ≤ w5.heap.size from Nat.le_trans hbs B5.size) ⟨K, o, n, fr⟩ (by omega)
      obtain ⟨A', c', ev, _⟩ := hV6.shape
      obtain ⟨L, hL⟩ : ∃ L, (acc ++ [(⟨K, o, n, fr⟩ : Tok)]).length = L := ⟨_, rfl⟩
      rw [hL] at ev
      subst ev
      clear hL
      have hlt := V5.lt
      have hvq : v.ownBlock ≠ some q := fun e => by have := (hlt _ e).1; omega
      obtain ⟨A, c, hvs, _⟩ := V5.shape
      have Ra : Rd (w5.drew.alloc (.cells (tc ⟨K, o, n, fr⟩).toArray 30)) q s k fr v := R5.below (((Below.refl w5.heap.size w5).drew).alloc (Nat.le_refl _) _) R5.lt
      have R6 : Rd w6 q s k fr v := Ra.grown gr6 hvq
      have R7 : Rd (w6.setCell ⟨q, 3, none⟩ (.slice A' L c')) q s k fr (.slice A' L c') := R6.put 3 _
      have V7 : TW (w6.setCell ⟨q, 3, none⟩ (.slice A' L c')) base (.slice A' L c') (acc ++ [⟨K, o, n, fr⟩]) := hV6.set _ _ (fun e => by have := (hV6.lt _ e).1; simp only at this; omega)
      have B7 : Below q w (w6.setCell ⟨q, 3, none⟩ (.slice A' L c')) := ((Bq.drew).trans (b6.mono (by omega))).setCell (p := ⟨q, 3, none⟩) (Nat.le_refl _) _
      have I7 : Hid (∀ x, w.heap[q + 1]? = some x → (w6.setCell ⟨q, 3, none⟩ (.slice A' L c')).heap[q + 1]? = some x) := Lib.hid (fun x hx => (Below.heap_setCell w6 ⟨q, 3, none⟩ _ (q + 1) (by simp)).trans ((b6.block _ (by omega)).trans (HI.out x hx)))
      have HR := Lib.hid hrun
      have HR7 := Lib.hid R7
      have HV7 := Lib.hid V7
      have HB7 := Lib.hid B7
      have Rb : Rd (w5.alloc (.cells (tc ⟨K, o, n, fr⟩).toArray 30)) q s k fr v := R5.below ((Below.refl w5.heap.size w5).alloc (Nat.le_refl _) _) R5.lt
      have Ab := A5.below ((Below.refl w5.heap.size w5).alloc (Nat.le_refl _) (.cells (tc ⟨K, o, n, fr⟩).toArray 30)) A5.lt
      obtain ⟨x0, x1, x2, x3⟩ := four R5
      obtain ⟨y0, y1, y2, y3⟩ := four A5
      obtain ⟨X0, X1, X2, X3⟩ := four Rb
      obtain ⟨Y0, Y1, Y2, Y3⟩ := four Ab
      obtain ⟨z0, z1, z2, z3⟩ := four R6
      have f3 := R6.free 3
      clear R5 V5 Bq hrun hV6 b6 gr6 sz6 ow6 hlt hvq Ra R6 R7 V7 B7 Rb Ab A5 B5 G5 HI x0 x1 x2 X0 X1 X2 z0 z1 z2
      unfold tc at *
      subst hvs
      go_wp2_with fail
      go_region_law (refine step_app (R := fun x y => .slice A' L c' = x ∧ w6 = y) ⟨_, w6, HR.out, rfl, rfl⟩ rfl rfl rfl (by simp [Act.eval]) (by simp [Act.eval]) ?_; rintro _ _ ⟨rfl, rfl⟩)
      all_goals
        clear x3 y0 y1 y2 y3 X3 Y0 Y1 Y2 Y3 z3 f3 HR
        go_wp2_with fail
        go_ret
        exact ⟨.inr ⟨_, _, HS.out, rfl, HR7.out, HV7.out⟩, HB7.out, I7.out⟩
end Go.Proofs.YtblpbgknnnpamaaDoor
