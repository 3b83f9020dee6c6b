/- Layer 9: Put of a query. -/
import Derived.Test.YtbdfehgofnomhaaDoorPaTop
namespace Go.Proofs.YtbdfehgofnomhaaDoor
open Go.RowKit
set_option linter.unusedVariables false

theorem box_okQ {b q : Nat} {w w' : World} {cs : Array Value} (h : OK b w w') (hq : Has w q 24 cs) (hb : q ≠ b) : Has w' q 24 cs :=
  h q _ hq (by simpa using hb) (by rintro c fz e; cases e)
set_option maxHeartbeats 8000000 in
/-- Put of a query that is right. -/
theorem putQ_any (l : List IT) (A : Option Addr) (c : Nat) (n : Int) (y : Nm) (w : World) (hcap : l.length ≤ 9223372036854775807) (hl : Its w A l) (hT : Tabs w) (hy : y.length ≤ 140737488355328) (hr : rightQ l n y = true) (hlen : (putQ l n y).length ≤ 100000000) :
    Calls Tryd.prog 10 #[qv A l.length c n y] w fun e w' => e = .returned (.string (str (putQ l n y))) ∧ Below w.heap.size w w' := by
  obtain ⟨T, hTT⟩ : ∃ T, putQ l n y = T := ⟨_, rfl⟩
  have hrr := hr
  rw [rightQ] at hrr
  simp only [Bool.and_eq_true, decide_eq_true_eq, Bool.or_eq_true] at hrr
  obtain ⟨⟨hri, hn0, hn1⟩, _⟩ := hrr
  rw [hTT] at hlen ⊢
  rw [putQ] at hTT
  obtain ⟨m, hm⟩ : ∃ m, l.length = m := ⟨_, rfl⟩
  obtain ⟨W, hW⟩ : ∃ W, W = w.alloc (.cells #[.slice A m c, .int .i64 n, .string (str y)] 24) := ⟨_, rfl⟩
  have bl : Below w.heap.size w W := by rw [hW]; exact (Below.refl _ _).alloc (Nat.le_refl _) _
  have hx : Has W w.heap.size 24 #[.slice A m c, .int .i64 n, .string (str y)] := by rw [hW]; exact heap_alloc_new w _
  have hc := rightQ_any l A c n y W hcap (hl.below bl) (hT.below bl) hy
  rw [hr] at hc
  have hpl : (putIs l).length ≤ 100000000 := by rw [← hTT] at hlen; simp at hlen; omega
  have hp : ∀ (w1 : World), Below W.heap.size W w1 → Calls Tryd.prog 20 #[.slice A l.length c, .pointer (some ⟨w1.heap.size, 0, none⟩)] (w1.alloc (.cells #[.pointer none, .slice none 0 0] 52)) fun e w' => e = .returned (.tuple #[]) ∧ PS W w1.heap.size w1.heap.size (putIs l) w' ∧ OK w1.heap.size (w1.alloc (.cells #[.pointer none, .slice none 0 0] 52)) w' := fun w1 hb => by
    have := putL_any (w0 := W) (B := w1.heap.size) (b := w1.heap.size) hb.size (hT.below bl) l A c hcap (hl.below bl) hri [] (w1.alloc (.cells #[.pointer none, .slice none 0 0] 52)) ⟨Lib.IsBuilderF.of (Lib.fresh_isBuilder _ _ w1), hb.alloc hb.size _, by simp⟩ (by simpa using hpl)
    exact this.mono fun e w' h => ⟨h.1, by simpa using h.2.1, h.2.2⟩
  have hTW := hT.below bl
  obtain ⟨d, hd⟩ : ∃ d, putIs l = d := ⟨_, rfl⟩
  obtain ⟨f, hf⟩ : ∃ f, Lib.itoa n = f := ⟨_, rfl⟩
  obtain ⟨v, hv⟩ : ∃ v, [32, 87, 73, 84, 72, 73, 78, 32] ++ f = v := ⟨_, rfl⟩
  rw [hd] at hp hTT
  rw [hf] at hTT
  have lv : v.length = f.length + 8 := by rw [← hv]; simp
  have hT2 : T = (d ++ v) ++ (if y = [] then [] else [32, 66, 89, 32] ++ y) := by rw [← hTT, ← hv]; simp
  have hl3 : d.length + v.length ≤ 100000000 := by rw [hT2] at hlen; simp at hlen; omega
  have ha1 : ∀ W, (Op.stringOp .add { data := #[32, 87, 73, 84, 72, 73, 78, 32] } (str f)).run Tryd.prog W = .ok (.string (str v)) W := fun W => by rw [← hv]; exact run_add_str [32, 87, 73, 84, 72, 73, 78, 32] f (by simp; omega) W
  have HF : Hid (∀ w' : World, Below W.heap.size W w' → Calls Tryd.prog 22 #[.int .i64 n, .int .i64 10] w' fun e w'' => e = .returned (.string (str f)) ∧ Below w'.heap.size w' w'') := Lib.hid fun w' hb => by rw [← hf]; exact format_any n w' (by omega) (by omega) (hTW.below hb)
  have HT2 := Lib.hid hT2
  have HLN := Lib.hid hlen
  have HC := Lib.hid hc
  have HP := Lib.hid hp
  have HW := Lib.hid hW
  have HX := Lib.hid hx
  have HB := Lib.hid bl
  have HL3 := Lib.hid hl3
  rw [hm] at HC HP ⊢
  clear hT2 hlen hc hp hW hx bl hl hT hTW hr hri hn0 hn1 hTT hd hf hv lv hpl hl3 hm
  unfold qv at HC ⊢
  have ey := str_toList y
  by_cases hy0 : y = []
  · have HE : Hid (d ++ v = T) := Lib.hid (by rw [HT2.out, if_pos hy0]; simp)
    have d2 : ((str y).toList == []) = true := by rw [ey, hy0]; rfl
    clear ey hy0 hy
    go_enter Tryd.func10, Tryd.ntmps10
    go_wp2_with fail
    rw [← HW.out]
    refine HC.out.mono ?_
    rintro e w1 ⟨rfl, b1⟩
    have HB1 := Lib.hid b1
    have HBS : Hid (W.heap.size ≤ w1.heap.size) := Lib.hid b1.size
    have hx1 := HX.out.below b1 HX.out.lt
    have HNB : Hid (w.heap.size ≠ w1.heap.size) := Lib.hid (by have := hx1.lt; omega)
    have hx2 := hx1.below ((Below.refl _ w1).alloc (Nat.le_refl _) (.cells #[.pointer none, .slice none 0 0] 52)) hx1.lt
    have HX2 := Lib.hid hx2
    obtain ⟨y0, y1, y2⟩ := three_has hx2
    clear b1 hx1 hx2
    go_wp2_with fail
    refine (HP.out w1 HB1.out).mono ?_
    rintro e w2 ⟨rfl, p2, o2⟩
    have HX3 := Lib.hid (box_okQ o2 HX2.out HNB.out)
    have HP3 := Lib.hid p2
    clear y0 y1 y2 p2 o2
    obtain ⟨y0, y1, y2⟩ := three_has HX3.out
    go_wp2_with fail
    refine (HF.out w2 HP3.out.2.1).mono ?_
    rintro e w4 ⟨rfl, b4⟩
    have HP4 := Lib.hid (HP3.out.below b4)
    have HX4 := Lib.hid (HX3.out.below b4 HX3.out.lt)
    clear y0 y1 y2 b4
    obtain ⟨y0, y1, y2⟩ := three_has HX4.out
    go_wp2_with fail
    refine (ps_str HBS.out v HP4.out (by have := HL3.out; omega) (by have := HL3.out; omega)).mono ?_
    rintro e w5 ⟨rfl, p5, o5⟩
    have HX5 := Lib.hid (box_okQ o5 HX4.out HNB.out)
    have HP5 := Lib.hid p5
    clear y0 y1 y2 p5 o5
    obtain ⟨y0, y1, y2⟩ := three_has HX5.out
    go_wp2_with fail
    refine (bstr_any _ _ T w5 (by rw [← HE.out]; exact HP5.out.1) HP5.out.2.2).mono ?_
    rintro e w6 ⟨rfl, h1, h2, h3⟩
    go_wp2_with fail
    go_ret
    exact ⟨rfl, HB.out.trans (Below.mono (HP5.out.2.1.trans (h2.mono HB1.out.size)) HB.out.size)⟩
  · obtain ⟨g, hg⟩ : ∃ g, [32, 66, 89, 32] ++ y = g := ⟨_, rfl⟩
    have HE : Hid ((d ++ v) ++ g = T) := Lib.hid (by rw [HT2.out, if_neg hy0, hg])
    have d2 : ((str y).toList == []) = false := by rw [ey]; simpa using hy0
    have lg : g.length = y.length + 4 := by rw [← hg]; simp
    have hlg : g.length ≤ 100000000 := by have := HLN.out; rw [← HE.out] at this; simp at this; omega
    have hb1 : ∀ W, (Op.stringOp .add { data := #[32, 66, 89, 32] } (str y)).run Tryd.prog W = .ok (.string (str g)) W := fun W => by rw [← hg]; exact run_add_str [32, 66, 89, 32] y (by simp; omega) W
    have HG := Lib.hid hlg
    clear ey hy0 hy lg hlg hg
    go_enter Tryd.func10, Tryd.ntmps10
    go_wp2_with fail
    rw [← HW.out]
    refine HC.out.mono ?_
    rintro e w1 ⟨rfl, b1⟩
    have HB1 := Lib.hid b1
    have HBS : Hid (W.heap.size ≤ w1.heap.size) := Lib.hid b1.size
    have hx1 := HX.out.below b1 HX.out.lt
    have HNB : Hid (w.heap.size ≠ w1.heap.size) := Lib.hid (by have := hx1.lt; omega)
    have hx2 := hx1.below ((Below.refl _ w1).alloc (Nat.le_refl _) (.cells #[.pointer none, .slice none 0 0] 52)) hx1.lt
    have HX2 := Lib.hid hx2
    obtain ⟨y0, y1, y2⟩ := three_has hx2
    clear b1 hx1 hx2
    go_wp2_with fail
    refine (HP.out w1 HB1.out).mono ?_
    rintro e w2 ⟨rfl, p2, o2⟩
    have HX3 := Lib.hid (box_okQ o2 HX2.out HNB.out)
    have HP3 := Lib.hid p2
    clear y0 y1 y2 p2 o2
    obtain ⟨y0, y1, y2⟩ := three_has HX3.out
    go_wp2_with fail
    refine (HF.out w2 HP3.out.2.1).mono ?_
    rintro e w4 ⟨rfl, b4⟩
    have HP4 := Lib.hid (HP3.out.below b4)
    have HX4 := Lib.hid (HX3.out.below b4 HX3.out.lt)
    clear y0 y1 y2 b4
    obtain ⟨y0, y1, y2⟩ := three_has HX4.out
    go_wp2_with fail
    refine (ps_str HBS.out v HP4.out (by have := HL3.out; omega) (by have := HL3.out; omega)).mono ?_
    rintro e w5 ⟨rfl, p5, o5⟩
    have HX5 := Lib.hid (box_okQ o5 HX4.out HNB.out)
    have HP5 := Lib.hid p5
    clear y0 y1 y2 p5 o5
    obtain ⟨y0, y1, y2⟩ := three_has HX5.out
    go_wp2_with fail
    refine (ps_str HBS.out g HP5.out (by have := HL3.out; simp; omega) (by have := HG.out; omega)).mono ?_
    rintro e w6 ⟨rfl, p6, o6⟩
    go_wp2_with fail
    refine (bstr_any _ _ T w6 (by rw [← HE.out]; exact p6.1) p6.2.2).mono ?_
    rintro e w7 ⟨rfl, h1, h2, h3⟩
    go_wp2_with fail
    go_ret
    exact ⟨rfl, HB.out.trans (Below.mono (p6.2.1.trans (h2.mono HB1.out.size)) HB.out.size)⟩
end Go.Proofs.YtbdfehgofnomhaaDoor
