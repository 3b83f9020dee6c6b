/- What Put of package store returns, and leaves. -/
import Derived.Test.YtglhebpblncjaaaDoorStDrop
namespace Go.Proofs.YtglhebpblncjaaaDoor
open Go.RowKit
set_option linter.unusedVariables false

section
variable {w : World} {B g hh m N : Nat} {S : Sv} {K : List Nat}
theorem box_ev (w : World) (Kd T : Int) (A : Option Addr) (n c : Nat) : Below w.heap.size w (w.alloc (.cells #[.int .i64 Kd, .int .i64 T, .slice A n c] 35)) := (Below.refl _ _).alloc (Nat.le_refl _) _
/-- What Put leaves where nothing is put. -/
theorem St.same {w' : World} (h : St w B g hh m N S K) (hb : Below w.heap.size w w') {ix : Int} {ok : Bool} {t : List UInt8} {x : Int} (he : perr S ix ok t = x) (hx : x ≠ 0) :
    St w' B g hh m (N + 1) (sput S ix ok t) K ∧ Kp B K w w' := by
  unfold sput
  rw [he, if_neg hx]
  exact ⟨(h.below hb).more (by omega), h.kp hb⟩
set_option maxHeartbeats 1000000 in
theorem stput_form (h : St w B g hh m N S K) (ix : Int) (Kd T : Int) (A : Option Addr) (n c : Nat) (l : List Int) (hk0 : -9223372036854775808 ≤ Kd) (hk1 : Kd ≤ 9223372036854775807) (hl : l.length = n) (hm : n ≤ maxLen) (hr : Lies w A (ints l)) (hok : wok Kd l = false) :
    Calls Tryd.prog 12 #[.pointer (some ⟨hh, 0, none⟩), .int .i64 ix, ev Kd T A n c] w fun e w' => e = .returned (.int .i64 (perr S ix (wok Kd l) (wput Kd T l))) ∧ St w' B g hh m (N + 1) (sput S ix (wok Kd l) (wput Kd T l)) K ∧ Kp B K w w' := by
  have b0 := box_ev w Kd T A n c
  have HP := Lib.hid (wput_any Kd T A n c l (w.alloc (.cells #[.int .i64 Kd, .int .i64 T, .slice A n c] 35)) hk0 hk1 hl hm (hr.below b0))
  have HH := Lib.hid (h)
  have HB := Lib.hid b0
  have HE : Hid (perr S ix (wok Kd l) (wput Kd T l) = 7) := Lib.hid (by unfold perr; rw [if_pos hok])
  have HO := Lib.hid hok
  clear h b0 hr hl hok
  unfold ev at *
  go_enter Tryd.func12, Tryd.ntmps12
  go_wp2_with fail
  refine HP.out.mono ?_
  rintro e w1 ⟨rfl, h1⟩
  rw [HO.out]
  have XB := Lib.hid (Below.step HB.out h1 (Nat.le_refl _))
  clear h1 HP
  go_wp2
  go_ret
  exact ⟨ret_int HE.out.symm, HH.out.same XB.out HE.out (by omega)⟩
set_option maxHeartbeats 1000000 in
theorem stput_arg (h : St w B g hh m N S K) (ix : Int) (hix : I64 ix) (Kd T : Int) (A : Option Addr) (n c : Nat) (l : List Int) (hk0 : -9223372036854775808 ≤ Kd) (hk1 : Kd ≤ 9223372036854775807) (hl : l.length = n) (hm : n ≤ maxLen) (hr : Lies w A (ints l)) (hok : wok Kd l = true) (d : Ct) (hd : S.f ix = some d) :
    Calls Tryd.prog 12 #[.pointer (some ⟨hh, 0, none⟩), .int .i64 ix, ev Kd T A n c] w fun e w' => e = .returned (.int .i64 (perr S ix (wok Kd l) (wput Kd T l))) ∧ St w' B g hh m (N + 1) (sput S ix (wok Kd l) (wput Kd T l)) K ∧ Kp B K w w' := by
  have b0 := box_ev w Kd T A n c
  have HP := Lib.hid (wput_any Kd T A n c l (w.alloc (.cells #[.int .i64 Kd, .int .i64 T, .slice A n c] 35)) hk0 hk1 hl hm (hr.below b0))
  have HH := Lib.hid (h)
  have HB := Lib.hid b0
  have HE : Hid (perr S ix (wok Kd l) (wput Kd T l) = 1) := Lib.hid (by unfold perr; rw [if_neg (by rw [hok]; decide), if_pos (by rw [hd]; rfl)])
  have HO := Lib.hid hok
  have HD := Lib.hid hd
  clear h b0 hr hl hok hd
  unfold ev at *
  go_enter Tryd.func12, Tryd.ntmps12
  go_wp2_with fail
  refine HP.out.mono ?_
  rintro e w1 ⟨rfl, h1⟩
  rw [HO.out]
  have XB := Lib.hid (Below.step HB.out h1 (Nat.le_refl _))
  have h2 := HH.out.below XB.out
  have hl := h2.map.look hix
  have c1 := h2.c1
  rw [HD.out] at hl
  unfold ctv at hl
  simp only [Option.getD_some, Option.isSome_some] at hl
  clear h1 HP h2
  go_wp2
  go_ret
  exact ⟨ret_int HE.out.symm, HH.out.same (XB.out.alloc XB.out.size _) HE.out (by omega)⟩
set_option maxHeartbeats 1000000 in
theorem stput_in (h : St w B g hh m N S K) (hN : N ≤ 1000) (ix : Int) (hix : I64 ix) (Kd T : Int) (A : Option Addr) (n c : Nat) (l : List Int) (hk0 : -9223372036854775808 ≤ Kd) (hk1 : Kd ≤ 9223372036854775807) (hl : l.length = n) (hm : n ≤ maxLen) (hr : Lies w A (ints l)) (hok : wok Kd l = true) (hd : S.f ix = none) :
    Calls Tryd.prog 12 #[.pointer (some ⟨hh, 0, none⟩), .int .i64 ix, ev Kd T A n c] w fun e w' => e = .returned (.int .i64 (perr S ix (wok Kd l) (wput Kd T l))) ∧ St w' B g hh m (N + 1) (sput S ix (wok Kd l) (wput Kd T l)) K ∧ Kp B K w w' := by
  have b0 := box_ev w Kd T A n c
  have HP := Lib.hid (wput_any Kd T A n c l (w.alloc (.cells #[.int .i64 Kd, .int .i64 T, .slice A n c] 35)) hk0 hk1 hl hm (hr.below b0))
  have HH := Lib.hid (h)
  have HB := Lib.hid b0
  have hpe : perr S ix (wok Kd l) (wput Kd T l) = aerr S.s (wput Kd T l).length := by unfold perr; rw [if_neg (by rw [hok]; decide), if_neg (by rw [hd]; decide)]
  have hpl : (wput Kd T l).length ≤ maxLen := by
    rcases wok_cases Kd l with ⟨hk, k, rfl, hk1, h8⟩ | ⟨hk, _⟩
    · rw [wput_yes hk, List.length_append, hd_length, vs_length]; unfold maxLen; omega
    · rw [hk] at hok; cases hok
  have HE := Lib.hid hpe
  have HO := Lib.hid hok
  have HD := Lib.hid hd
  have HL := Lib.hid hpl
  clear h b0 hr hl hok hd hpe hpl
  unfold ev at *
  go_enter Tryd.func12, Tryd.ntmps12
  go_wp2_with fail
  refine HP.out.mono ?_
  rintro e w1 ⟨rfl, h1⟩
  rw [HO.out]
  have XB := Lib.hid (Below.step HB.out h1 (Nat.le_refl _))
  have h2 := HH.out.below XB.out
  have hl := h2.map.look hix
  have c1 := h2.c1
  have c0 := h2.c0
  have lh := h2.blk.lt
  rw [HD.out] at hl
  unfold ctv zc at hl
  simp only [Option.getD_none, Option.isSome_none] at hl
  have b3 : Below w1.heap.size w1 (w1.alloc (.cells #[.int .u32 ((0 : Nat) : Int), .int .u32 0, .int .i64 0] 80)) := (Below.refl _ _).alloc (Nat.le_refl _) _
  have H3 := Lib.hid (h2.below b3)
  have XB3 := Lib.hid (Below.step XB.out b3 (Nat.le_refl _))
  clear h1 HP h2 b3 XB HB
  go_wp2_with fail
  clear c0 c1 hl lh
  generalize w1.alloc (.cells #[.int .u32 0, .int .u32 0, .int .i64 0] 80) = w3 at *
  generalize w1.heap.size = q at *
  refine (alloc_sc H3.out.sc (wput Kd T l) HL.out).mono ?_
  rintro e w4 ⟨rfl, h4, b4⟩
  obtain ⟨h5, b5⟩ := H3.out.deed h4 b4 (H3.out.tl.alo _)
  have HK := Lib.hid ((HH.out.kp XB3.out).trans b5)
  by_cases ha : aerr S.s ((wput Kd T l).length : Int) = 0
  · have e1 : aslot S.s ((wput Kd T l).length : Int) = (fre S.s.l : Nat) := by unfold aslot; rw [if_pos ha]
    have e2 : agen S.s ((wput Kd T l).length : Int) = (bk S.s.l (fre S.s.l)).g := by unfold agen; rw [if_pos ha]
    obtain ⟨a1, a2, a3⟩ := aerr_ok ha
    obtain ⟨v0, hv0, -⟩ := HH.out.sc.ar
    have hg := (hv0.wf.ok.at_ (fre S.s.l)).2.2
    have HS : Hid (sput S ix (wok Kd l) (wput Kd T l) = ⟨alo S.s (wput Kd T l), upd S.f ix (some ⟨fre S.s.l, (bk S.s.l (fre S.s.l)).g, 1⟩), S.n + 1⟩) := Lib.hid (by unfold sput; rw [if_pos (HE.out.trans ha)])
    have HE0 := Lib.hid (HE.out.trans ha)
    rw [ha, e1, e2]
    clear ha e1 e2 a1 a2 hv0
    generalize fre S.s.l = sl at *
    generalize (bk S.s.l sl).g = gn at *
    obtain ⟨w6, hw6⟩ : ∃ u, (w4.alloc (.cells #[.int .u32 (sl : Int), .int .u32 gn] 78)) = u := ⟨_, rfl⟩
    have b6 : Below w4.heap.size w4 w6 := by rw [← hw6]; exact (Below.refl _ _).alloc (Nat.le_refl _) _
    have n6 : Has w6 w4.heap.size 78 #[.int .u32 (sl : Int), .int .u32 gn] := by rw [← hw6]; exact heap_alloc_new w4 _
    have h6 := (h5.below b6).drew
    obtain ⟨w7, hr, hm7, ht7⟩ := h6.map.put (k := ix) ⟨sl, gn, 1⟩ hix (by have := HH.out.nn; show S.n < 1000000; omega)
    have hi : (S.f ix).isSome = false := by rw [HD.out]; rfl
    rw [show (Sv.mk (alo S.s (wput Kd T l)) S.f S.n).f = S.f from rfl, hi] at hm7
    have HE7 : Hid (St w7 B g hh m (N + 1) (sput S ix (wok Kd l) (wput Kd T l)) K ∧ Kp B K w w7) := Lib.hid (by
      rw [HS.out]
      obtain ⟨x1, x2⟩ := h6.mapd (N' := N + 1) ht7 hm7 (bd_upd h6.bd ix _ ⟨by show sl ≤ 4294967295; omega, by show 0 ≤ gn; omega, by show gn ≤ 4294967295; omega, by show (1 : Int) ≤ 1; omega, by show (1 : Int) ≤ N + 1; omega⟩) (by have := HH.out.nn; show S.n + 1 ≤ N + 1; omega)
      exact ⟨x1, (HK.out.trans (h5.kp b6.drew)).trans x2⟩)
    have C1 : w6.cell? ⟨hh, 1, none⟩ = some (.map (some m)) := h6.c1
    have e0 : w6.cell? ⟨w4.heap.size, 0, none⟩ = some (.int .u32 (sl : Int)) := n6.cell 0
    have e1 : w6.cell? ⟨w4.heap.size, 1, none⟩ = some (.int .u32 gn) := n6.cell 1
    unfold ctv at hr
    dsimp only at hr
    clear h5 b5 h4 b4 h6 hm7 ht7 b6 n6 hi
    go_wp2
    clear hw6
    go_region
    go_wp2
    go_ret
    exact ⟨ret_int HE0.out.symm, HE7.out⟩
  · have hs : alo S.s (wput Kd T l) = S.s := by unfold alo; rw [if_neg ha]
    rw [hs] at h5
    have HS : Hid (sput S ix (wok Kd l) (wput Kd T l) = S) := Lib.hid (by unfold sput; rw [if_neg (fun e => ha (HE.out.symm.trans e))])
    generalize aerr S.s ((wput Kd T l).length : Int) = x at *
    have hx : (x != 0) = true := by simpa using ha
    have H5 := Lib.hid h5
    clear h4 b4 h5 b5 hs ha
    go_wp2
    go_ret
    refine ⟨ret_int HE.out.symm, ?_⟩
    rw [HS.out]
    exact ⟨(St.below (S := S) H5.out ((Below.refl _ _).alloc (Nat.le_refl _) _)).more (by omega), HK.out.trans (St.kp (S := S) H5.out ((Below.refl _ _).alloc (Nat.le_refl _) _))⟩
end
end Go.Proofs.YtglhebpblncjaaaDoor
