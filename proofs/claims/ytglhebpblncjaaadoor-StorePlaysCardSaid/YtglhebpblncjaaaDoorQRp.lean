/- The document's store: Put. -/
import Derived.Test.YtglhebpblncjaaaDoorQRs
import Derived.Deep.RegionHeld3
import Derived.Deep.CutRange
import Derived.Deep.CutBlock
namespace Go.Proofs.YtglhebpblncjaaaDoor
open Go.RowKit
set_option linter.unusedVariables false

/-- What Put makes of the list. -/
def lput (S : Sv) (L : List (Int × Ct)) (ix : Int) (ok : Bool) (t : List UInt8) : List (Int × Ct) := if perr S ix ok t = 0 then L ++ [(ix, ⟨fre S.s.l, (bk S.s.l (fre S.s.l)).g, 1⟩)] else L
theorem sput_s (S : Sv) (ix : Int) (ok : Bool) (t : List UInt8) : (sput S ix ok t).s = if perr S ix ok t = 0 then alo S.s t else S.s := by
  unfold sput
  split <;> rfl
section
variable {w w' : World} {B g h : Nat} {v v2 : Value} {S : Sv} {L : List (Int × Ct)}
theorem rbox_ev (w : World) (Kd T : Int) (A : Option Addr) (n c : Nat) : Below w.heap.size w (w.alloc (.cells #[.int .i64 Kd, .int .i64 T, .slice A n c] 42)) := (Below.refl _ _).alloc (Nat.le_refl _) _
/-- What Put leaves where nothing is put. -/
theorem Rs.same (r : Rs w B g h v v2 S.s L) (hb : Below w.heap.size w w') {ix : Int} {ok : Bool} {t : List UInt8} {x : Int} (he : perr S ix ok t = x) (hx : x ≠ 0) :
    Rd (rK g h v v2) B g h (sput S ix ok t).s (lput S L ix ok t) w w' := by
  rw [sput_s, lput, he, if_neg hx, if_neg hx]
  exact ⟨v, v2, r.below hb, .of_below hb⟩
set_option maxHeartbeats 1000000 in
theorem rsput_form (r : Rs w B g h v v2 S.s L) (ix : Int) (Kd T : Int) (A : Option Addr) (n c : Nat) (l : List Int) (hl : l.length = n) (hm : n ≤ maxLen) (hr : Lies w A (ints l)) (hok : wok Kd l = false) :
    Calls Tryd.prog 13 #[.pointer (some ⟨h, 0, none⟩), .int .i64 ix, ev Kd T A n c] w fun e w' => e = .returned (.int .i64 (perr S ix (wok Kd l) (wput Kd T l))) ∧ Rd (rK g h v v2) B g h (sput S ix (wok Kd l) (wput Kd T l)).s (lput S L ix (wok Kd l) (wput Kd T l)) w w' := by
  have b0 := rbox_ev w Kd T A n c
  have HP := Lib.hid (rput_any Kd T A n c l (w.alloc (.cells #[.int .i64 Kd, .int .i64 T, .slice A n c] 42)) hl hm (hr.below b0))
  have HR := Lib.hid r
  have HB := Lib.hid b0
  have HE : Hid (perr S ix (wok Kd l) (wput Kd T l) = 7) := Lib.hid (by unfold perr; rw [if_pos hok])
  have HO := Lib.hid hok
  clear r b0 hr hl hok
  unfold ev at *
  go_enter Tryd.func13, Tryd.ntmps13
  go_wp2_with fail
  refine HP.out.mono ?_
  rintro e w1 ⟨rfl, h1⟩
  rw [HO.out]
  have XB := Lib.hid (Below.step HB.out h1 (Nat.le_refl _))
  clear h1 HP
  go_wp2
  go_ret
  exact ⟨ret_int HE.out.symm, HR.out.same XB.out HE.out (by omega)⟩
set_option maxHeartbeats 1000000 in
theorem rsput_arg (r : Rs w B g h v v2 S.s L) (ix : Int) (Kd T : Int) (A : Option Addr) (n c : Nat) (l : List Int) (hl : l.length = n) (hm : n ≤ maxLen) (hr : Lies w A (ints l)) (hok : wok Kd l = true) (hf : S.f ix = fof L ix) (d : Ct) (hd : fof L ix = some d) :
    Calls Tryd.prog 13 #[.pointer (some ⟨h, 0, none⟩), .int .i64 ix, ev Kd T A n c] w fun e w' => e = .returned (.int .i64 (perr S ix (wok Kd l) (wput Kd T l))) ∧ Rd (rK g h v v2) B g h (sput S ix (wok Kd l) (wput Kd T l)).s (lput S L ix (wok Kd l) (wput Kd T l)) w w' := by
  have b0 := rbox_ev w Kd T A n c
  have HP := Lib.hid (rput_any Kd T A n c l (w.alloc (.cells #[.int .i64 Kd, .int .i64 T, .slice A n c] 42)) hl hm (hr.below b0))
  have HR := Lib.hid r
  have HB := Lib.hid b0
  have HE : Hid (perr S ix (wok Kd l) (wput Kd T l) = 1) := Lib.hid (by unfold perr; rw [if_neg (by rw [hok]; decide), if_pos (by rw [hf, hd]; rfl)])
  have HO := Lib.hid hok
  have hi := (fof_some hd).1
  have hw : fwh L ix = (fnd L ix : Nat) := by unfold fwh; rw [if_pos hi]
  have hfew := r.few
  have HW := Lib.hid hw
  clear r b0 hr hl hok hd hf hw
  unfold ev at *
  go_enter Tryd.func13, Tryd.ntmps13
  go_wp2_with fail
  refine HP.out.mono ?_
  rintro e w1 ⟨rfl, h1⟩
  rw [HO.out]
  have XB := Lib.hid (Below.step HB.out h1 (Nat.le_refl _))
  clear h1 HP
  go_wp2_with fail
  refine (rfind_any (HR.out.below XB.out) ix).mono ?_
  rw [HW.out]
  rintro e w2 ⟨rfl, rfl⟩
  generalize fnd L ix = i at *
  go_wp2
  go_ret
  exact ⟨ret_int HE.out.symm, HR.out.same XB.out HE.out (by omega)⟩
set_option maxHeartbeats 2000000 in
theorem rsput_in (r : Rs w B g h v v2 S.s L) (hN : L.length < 1000) (ix : Int) (hix : I64 ix) (Kd T : Int) (A : Option Addr) (n c : Nat) (l : List Int) (hl : l.length = n) (hm : n ≤ maxLen) (hr : Lies w A (ints l)) (hok : wok Kd l = true) (hf : S.f ix = fof L ix) (hd : fof L ix = none) :
    Calls Tryd.prog 13 #[.pointer (some ⟨h, 0, none⟩), .int .i64 ix, ev Kd T A n c] w fun e w' => e = .returned (.int .i64 (perr S ix (wok Kd l) (wput Kd T l))) ∧ Rd (rK g h v v2) B g h (sput S ix (wok Kd l) (wput Kd T l)).s (lput S L ix (wok Kd l) (wput Kd T l)) w w' := by
  have b0 := rbox_ev w Kd T A n c
  have HP := Lib.hid (rput_any Kd T A n c l (w.alloc (.cells #[.int .i64 Kd, .int .i64 T, .slice A n c] 42)) hl hm (hr.below b0))
  have HR := Lib.hid r
  have HB := Lib.hid b0
  have hpe : perr S ix (wok Kd l) (wput Kd T l) = aerr S.s (wput Kd T l).length := by unfold perr; rw [if_neg (by rw [hok]; decide), if_neg (by rw [hf, hd]; decide)]
  have hpl : (wput Kd T l).length ≤ maxLen := by
    rcases wok_cases Kd l with ⟨hk, k, rfl, hk1, h8⟩ | ⟨hk, _⟩
    · rw [wput_yes hk, List.length_append, hd_length, vs_length]; unfold maxLen; omega
    · rw [hk] at hok; cases hok
  have HE := Lib.hid hpe
  have HO := Lib.hid hok
  have HL := Lib.hid hpl
  have hw : fwh L ix = -1 := by unfold fwh; rw [fof_none hd, if_neg (by omega)]
  have HW := Lib.hid hw
  have hfew := r.few
  clear r b0 hr hl hok hd hf hw hpe hpl
  unfold ev at *
  go_enter Tryd.func13, Tryd.ntmps13
  go_wp2_with fail
  refine HP.out.mono ?_
  rintro e w1 ⟨rfl, h1⟩
  rw [HO.out]
  have XB := Lib.hid (Below.step HB.out h1 (Nat.le_refl _))
  clear h1 HP HB
  go_wp2_with fail
  refine (rfind_any (HR.out.below XB.out) ix).mono ?_
  rw [HW.out]
  rintro e w2 ⟨rfl, rfl⟩
  have r1 := HR.out.below XB.out
  have R1 := Lib.hid r1
  have c0 := r1.c0
  clear r1
  go_wp2_with fail
  clear c0
  refine (refAlloc_any R1.out.rf R1.out.bl (wput Kd T l) HL.out).mono ?_
  rintro e w4 ⟨v4, rfl, ha4, hv4, hf4⟩
  obtain ⟨r4, t4⟩ := R1.out.arena ha4 hv4 hf4
  have T4 := Lib.hid ((Tr.of_below XB.out).trans t4)
  by_cases ha : aerr S.s ((wput Kd T l).length : Int) = 0
  · have e1 : aslot S.s ((wput Kd T l).length : Int) = (fre S.s.l : Nat) := by unfold aslot; rw [if_pos ha]
    have e2 : agen S.s ((wput Kd T l).length : Int) = (bk S.s.l (fre S.s.l)).g := by unfold agen; rw [if_pos ha]
    obtain ⟨a1, a2, a3⟩ := aerr_ok ha
    have hg := (R1.out.rf.wf.ok.at_ (fre S.s.l)).2.2
    have HS : Hid ((sput S ix (wok Kd l) (wput Kd T l)).s = alo S.s (wput Kd T l) ∧ lput S L ix (wok Kd l) (wput Kd T l) = L ++ [(ix, ⟨fre S.s.l, (bk S.s.l (fre S.s.l)).g, 1⟩)]) := Lib.hid ⟨by rw [sput_s, if_pos (HE.out.trans ha)], by rw [lput, if_pos (HE.out.trans ha)]⟩
    have HE0 := Lib.hid (HE.out.trans ha)
    rw [ha, e1, e2]
    clear ha e1 e2 a1 a2 ha4 hv4 hf4 t4
    generalize fre S.s.l = sl at *
    generalize (bk S.s.l sl).g = gn at *
    obtain ⟨w5, hw5⟩ : ∃ u, (w4.alloc (.cells #[.int .u32 (sl : Int), .int .u32 gn] 85)) = u := ⟨_, rfl⟩
    have b5 : Below w4.heap.size w4 w5 := by rw [← hw5]; exact (Below.refl _ _).alloc (Nat.le_refl _) _
    have n5 : Has w5 w4.heap.size 85 #[.int .u32 (sl : Int), .int .u32 gn] := by rw [← hw5]; exact heap_alloc_new w4 _
    have r5 := r4.below b5
    have b6 : Below w5.heap.size w5 (w5.alloc (.cells #[.int .i64 ix, .int .i64 1, .int .u32 (sl : Int), .int .u32 gn] 89)).drew := ((Below.refl _ _).alloc (Nat.le_refl _) _).drew
    have n6 : Has (w5.alloc (.cells #[.int .i64 ix, .int .i64 1, .int .u32 (sl : Int), .int .u32 gn] 89)).drew w5.heap.size 89 #[.int .i64 ix, .int .i64 1, .int .u32 (sl : Int), .int .u32 gn] := heap_alloc_new w5 _
    have r6 := r5.below b6
    obtain ⟨v7, w7, ra, ro, rg, rb⟩ := kpt_app r6.row r6.bl ⟨w5.heap.size, 0, none⟩ 1 1 [.int .i64 ix, .int .i64 1, .int .u32 (sl : Int), .int .u32 gn] rfl (fun j u hu => by
      rw [Go.WideShapes.add_plain, Nat.zero_add, n6.cell]
      simpa using hu) (by intro u hu; simp at hu; rcases hu with rfl | rfl | rfl | rfl <;> rfl) (by omega)
    rw [show kcells L ++ [.int .i64 ix, .int .i64 1, .int .u32 (sl : Int), .int .u32 gn] = kcells (L ++ [(ix, ⟨sl, gn, 1⟩)]) from (kcells_snoc L (ix, ⟨sl, gn, 1⟩)).symm, show L.length + 1 = (L ++ [(ix, (⟨sl, gn, 1⟩ : Ct))]).length by simp] at ro
    have hlst := r6.lst (Tn.grown rg) ro (fun n e => by
      rcases rb with e1 | e1
      · exact .inl (e1.symm.trans e)
      · have := Option.some.inj (e1.symm.trans e); exact .inr (by omega)) (by simp; omega) (fun p hp => by
      rcases List.mem_append.1 hp with hp | hp
      · exact r6.ok p hp
      · simp at hp
        rw [hp]
        exact ⟨hix, by show sl ≤ 4294967295; omega, by show 0 ≤ gn; omega, by show gn ≤ 4294967295; omega, by show (0 : Int) ≤ 1; omega, by show (1 : Int) ≤ 1000000; omega⟩)
    obtain ⟨A7, c7, rfl⟩ : ∃ A c, v7 = .slice A (L ++ [(ix, (⟨sl, gn, 1⟩ : Ct))]).length c := own_slice ro
    rw [show (L ++ [(ix, (⟨sl, gn, 1⟩ : Ct))]).length = L.length + 1 by simp] at hlst ra
    have HEND : Hid (Rd (rK g h v v2) B g h (sput S ix (wok Kd l) (wput Kd T l)).s (lput S L ix (wok Kd l) (wput Kd T l)) w (w7.setCell ⟨h, 1, none⟩ (.slice A7 (L.length + 1) c7))) := Lib.hid (by
      rw [HS.out.1, HS.out.2]
      exact ⟨v4, _, hlst.1, T4.out.trans ((Tr.of_below (Below.step b5 b6 (Nat.le_refl _))).trans hlst.2)⟩)
    have k7 : w7.heap[h]? = (w5.alloc (.cells #[.int .i64 ix, .int .i64 1, .int .u32 (sl : Int), .int .u32 gn] 89)).drew.heap[h]? := rg.block h r6.blk.lt (fun e => r6.wh e.symm)
    have b7 : Has w7 h 73 #[.pointer (some ⟨g, 0, none⟩), v2] := k7.trans r6.blk
    obtain ⟨A2, c2, hv2⟩ := own_slice r6.row
    rw [hv2] at ra b7
    have C5 : w5.cell? ⟨h, 1, none⟩ = some (.slice A2 L.length c2) := by rw [← hv2]; exact r5.c1
    have C6 : (w5.alloc (.cells #[.int .i64 ix, .int .i64 1, .int .u32 (sl : Int), .int .u32 gn] 89)).cell? ⟨h, 1, none⟩ = some (.slice A2 L.length c2) := by rw [← hv2]; exact r6.c1
    have C7 : w7.cell? ⟨h, 1, none⟩ = some (.slice A2 L.length c2) := b7.cell 1
    have F7 := b7.free 1
    have e0 : w5.cell? ⟨w4.heap.size, 0, none⟩ = some (.int .u32 (sl : Int)) := n5.cell 0
    have e1 : w5.cell? ⟨w4.heap.size, 1, none⟩ = some (.int .u32 gn) := n5.cell 1
    have lh5 := r5.blk.lt
    have lp5 := n5.lt
    have HRA := Lib.hid ra
    clear r4 r5 r6 b5 b6 n5 n6 ro rg rb hlst k7 b7 hv2 T4 R1 ra
    go_wp2
    clear hw5
    go_region_law (first
      | (refine step_app (R := fun x y => .slice A7 (L.length + 1) c7 = x ∧ w7 = y) ⟨_, _, HRA.out, rfl, rfl⟩ rfl rfl rfl ?_ ?_ ?_; (· (simp [Act.eval]; done)); (· (simp [Act.eval]; done)); rintro _ _ ⟨rfl, rfl⟩))
    all_goals
      go_wp2
      go_ret
      exact ⟨ret_int HE0.out.symm, HEND.out⟩
  · have hs : alo S.s (wput Kd T l) = S.s := by unfold alo; rw [if_neg ha]
    rw [hs] at r4
    have HS : Hid ((sput S ix (wok Kd l) (wput Kd T l)).s = S.s ∧ lput S L ix (wok Kd l) (wput Kd T l) = L) := Lib.hid ⟨by rw [sput_s, if_neg (fun e => ha (HE.out.symm.trans e))], by rw [lput, if_neg (fun e => ha (HE.out.symm.trans e))]⟩
    generalize aerr S.s ((wput Kd T l).length : Int) = x at *
    have hx : (x != 0) = true := by simpa using ha
    have R4 := Lib.hid r4
    clear r4 ha4 hv4 hf4 t4 hs ha
    go_wp2
    go_ret
    refine ⟨ret_int HE.out.symm, v4, v2, ?_, ?_⟩
    · rw [HS.out.1, HS.out.2]
      exact R4.out.below ((Below.refl _ _).alloc (Nat.le_refl _) _)
    · exact T4.out.trans (.of_below ((Below.refl _ _).alloc (Nat.le_refl _) _))
theorem rsput_any (r : Rs w B g h v v2 S.s L) (hN : L.length < 1000) (ix : Int) (hix : I64 ix) (Kd T : Int) (A : Option Addr) (n c : Nat) (l : List Int) (hl : l.length = n) (hm : n ≤ maxLen) (hr : Lies w A (ints l)) (hf : S.f ix = fof L ix) :
    Calls Tryd.prog 13 #[.pointer (some ⟨h, 0, none⟩), .int .i64 ix, ev Kd T A n c] w fun e w' => e = .returned (.int .i64 (perr S ix (wok Kd l) (wput Kd T l))) ∧ Rd (rK g h v v2) B g h (sput S ix (wok Kd l) (wput Kd T l)).s (lput S L ix (wok Kd l) (wput Kd T l)) w w' := by
  cases ho : wok Kd l with
  | false =>
    have := rsput_form r ix Kd T A n c l hl hm hr ho
    rw [ho] at this
    exact this
  | true =>
    cases hd : fof L ix with
    | some d =>
      have := rsput_arg r ix Kd T A n c l hl hm hr ho hf d hd
      rw [ho] at this
      exact this
    | none =>
      have := rsput_in r hN ix hix Kd T A n c l hl hm hr ho hf hd
      rw [ho] at this
      exact this
end
end Go.Proofs.YtglhebpblncjaaaDoor
/- The document's store: Drop and Get. -/
namespace Go.Proofs.YtglhebpblncjaaaDoor
open Go.RowKit
set_option linter.unusedVariables false

/-- What Drop makes of the list. -/
def ldrop (L : List (Int × Ct)) (k : Int) : List (Int × Ct) := match fof L k with
  | some c => if c.t = 1 then ers L k else L.set (fnd L k) (k, ⟨c.s, c.g, c.t - 1⟩)
  | none => L
theorem sdrop_s (S : Sv) (k : Int) : (sdrop S k).s = match S.f k with
  | some c => if c.t = 1 then fro S.s c.s c.g else S.s
  | none => S.s := by
  unfold sdrop
  cases S.f k with
  | none => rfl
  | some c => dsimp only; split <;> rfl
theorem ret_sbt (e : Ending) (l : List UInt8) (b : Bool) : e = .returned (.tuple #[.string (str l), .bool b]) → e = .returned (.tuple #[.string (str l), .bool b]) := id
/-- The two appends. -/
structure TwoK (W0 W1 W2 : World) (B g h i n c j q : Nat) (ad : Addr) (v : Value) (s : Ar) (L : List (Int × Ct)) (A1 : Option Addr) (c1 : Nat) (A2 : Option Addr) (c2 : Nat) : Prop where
  r1 : (Builtin.append_ #[71, 71] 71 #[.slice none 0 0, .slice (some ⟨q, 0, none⟩) i c]).run Tryd.prog W0 = .ok (.slice A1 i c1) W1
  r2 : (Builtin.append_ #[71, 71] 71 #[.slice A1 i c1, .slice (some ad) (n - j) (c - j)]).run Tryd.prog W1 = .ok (.slice A2 (n - 1) c2) W2
  d1 : W1.cell? ⟨h, 1, none⟩ = some (.slice (some ⟨q, 0, none⟩) n c)
  d2 : W2.cell? ⟨h, 1, none⟩ = some (.slice (some ⟨q, 0, none⟩) n c)
  f2 : W2.frozen? ⟨h, 1, none⟩ = false
  fin : Rd (rK g h v (.slice (some ⟨q, 0, none⟩) n c)) B g h s (L.take i ++ L.drop j) W0 (W2.setCell ⟨h, 1, none⟩ (.slice A2 (n - 1) c2))
section
variable {w w' : World} {B g h : Nat} {v v2 : Value} {s : Ar} {S : Sv} {L : List (Int × Ct)}
theorem twoK_of {q c n i j : Nat} (r : Rs w B g h v (.slice (some ⟨q, 0, none⟩) L.length c) s L) (hn : L.length = n) (hi : i < n) (hj : i + 1 = j) (ad : Addr) (had : (if c = j then some (⟨q, 0, none⟩ : Addr) else some ⟨q, j * 4, none⟩) = some ad) (hc : n ≤ c) :
    ∃ A1 c1 A2 c2 W1 W2, TwoK w W1 W2 B g h i n c j q ad v s L A1 c1 A2 c2 := by
  have lh := r.blk.lt
  have lq := (r.row.lt q rfl).2
  have hB := r.bl
  have hf := r.few
  have hcell : ∀ x, x < n * 4 → w.cell? ⟨q, x, none⟩ = (kcells L)[x]? := fun x hx => r.row.cellAt x (by rw [hn]; exact hx)
  have hel := kcells_len L
  obtain ⟨v1, W1, r1, o1, g1, s1⟩ := kpt_app (World.ownsRow_nil w B 89 4) hB ⟨q, 0, none⟩ i c (kcells (L.take i)) (by rw [kcells_len]; simp; omega) (fun x u hu => by
    have hx : x < i * 4 := by
      rcases Nat.lt_or_ge x (kcells (L.take i)).length with h1 | h1
      · rw [kcells_len] at h1; simp at h1; omega
      · rw [List.getElem?_eq_none h1] at hu; cases hu
    rw [kcells_take, List.getElem?_take, if_pos hx] at hu
    rw [Go.WideShapes.add_plain, Nat.zero_add, hcell x (by omega)]
    exact hu) (kcells_one _) (by omega)
  simp only [Nat.zero_add, List.nil_append] at o1
  have k1 : ∀ x, x < w.heap.size → W1.heap[x]? = w.heap[x]? := fun x hx => g1.block x hx (by simp [Value.ownBlock])
  obtain ⟨A1, c1, rfl⟩ := own_slice o1
  have hz1 := g1.size
  obtain ⟨v3, W2, r2, o2, g2, s2⟩ := kpt_app o1 (by omega) ad (n - j) (c - j) (kcells (L.drop j)) (by rw [kcells_len]; simp; omega) (fun x u hu => by
    have hx : x < (n - j) * 4 := by
      rcases Nat.lt_or_ge x (kcells (L.drop j)).length with h1 | h1
      · rw [kcells_len] at h1; simp at h1; omega
      · rw [List.getElem?_eq_none h1] at hu; cases hu
    rw [if_neg (by omega)] at had
    obtain rfl := Option.some.inj had
    rw [kcells_drop, List.getElem?_drop] at hu
    rw [Go.WideShapes.add_plain, World.cell?_of_block (k1 q lq), hcell _ (by omega)]
    exact hu) (kcells_one _) (by omega)
  rw [← kcells_app, show i + (n - j) = n - 1 by omega] at o2
  obtain ⟨A2, c2, rfl⟩ := own_slice o2
  have n1 : ∀ x, x < w.heap.size → (Value.slice A1 i c1).ownBlock ≠ some x := fun x hx e => by
    rcases s1 with h1 | h1
    · rw [h1] at e; cases e
    · have := Option.some.inj (h1.symm.trans e); omega
  have k2 : ∀ x, x < w.heap.size → W2.heap[x]? = w.heap[x]? := fun x hx => (g2.block x (by omega) (fun e => n1 x hx e.symm)).trans (k1 x hx)
  have hz2 := g2.size
  have n2 : ∀ x, (Value.slice A2 (n - 1) c2).ownBlock = some x → w.heap.size ≤ x := fun x e => Nat.le_of_not_lt fun hx => by
    rcases s2 with h1 | h1
    · exact n1 x hx (h1.symm.trans e)
    · have := Option.some.inj (h1.symm.trans e); omega
  have hblk := r.blk
  rw [hn] at hblk
  have b2 : Has W2 h 73 #[.pointer (some ⟨g, 0, none⟩), .slice (some ⟨q, 0, none⟩) n c] := (k2 h lh).trans hblk
  have b1 : Has W1 h 73 #[.pointer (some ⟨g, 0, none⟩), .slice (some ⟨q, 0, none⟩) n c] := (k1 h lh).trans hblk
  have hlen : (L.take i ++ L.drop j).length = n - 1 := by simp; omega
  have tn : Tn (Value.slice (some ⟨q, 0, none⟩) L.length c).ownBlock.toList w W2 := ⟨g2.os.trans g1.os, g2.tape.trans g1.tape, g2.output.trans g1.output, by omega, fun x hx _ => k2 x hx⟩
  have hl := r.lst tn (v2' := .slice A2 (n - 1) c2) (L' := L.take i ++ L.drop j) (by rw [hlen]; exact o2) (fun x e => .inr (n2 x e)) (by omega) (fun p hp => by
    rcases List.mem_append.1 hp with hp | hp
    · exact r.ok p (List.mem_of_mem_take hp)
    · exact r.ok p (List.mem_of_mem_drop hp))
  rw [hn] at hl
  exact ⟨A1, c1, A2, c2, W1, W2, r1, r2, b1.cell 1, b2.cell 1, b2.free 1, v, _, hl.1, hl.2⟩
set_option maxHeartbeats 2000000 in
theorem rdrop_less (r : Rs w B g h v v2 s L) (k : Int) (c : Ct) (e : fof L k = some c) (h1t : 1 ≤ c.t) (ht : c.t ≠ 1) :
    Calls Tryd.prog 17 #[.pointer (some ⟨h, 0, none⟩), .int .i64 k] w fun e w' => e = .returned (.bool true) ∧ Rd (rK g h v v2) B g h s (ldrop L k) w w' := by
  have HF := Lib.hid (rfind_any r k)
  have hfew := r.few
  obtain ⟨hi, he⟩ := fof_some e
  have hw : fwh L k = (fnd L k : Nat) := by unfold fwh; rw [if_pos hi]
  rw [hw] at HF
  obtain ⟨q, cap, rfl, hqh, hqg, hq, hc1, hc2, d0, d1, d2, d3, hfz⟩ := r.slot hi
  have hok := r.okAt hi
  rw [he] at d1 hok
  have h2t : c.t ≤ 1000000 := hok.2.2.2.2.2
  have hcn := r.cnt hi (c.t - 1) ⟨by omega, by omega⟩
  rw [he] at hcn
  have HE : Hid (ldrop L k = L.set (fnd L k) (k, ⟨c.s, c.g, c.t - 1⟩)) := Lib.hid (by unfold ldrop; rw [e]; exact if_neg ht)
  have c1 := r.c1
  have f1 := hfz (fnd L k * 4 + 1)
  have lh := r.blk.lt
  obtain ⟨w1, hw1⟩ : ∃ u, w.setCell ⟨q, fnd L k * 4 + 1, none⟩ (.int .i64 (c.t - 1)) = u := ⟨_, rfl⟩
  rw [hw1] at hcn
  have D1 : Hid (∃ q' cap', Value.slice (some ⟨q, 0, none⟩) L.length cap = .slice (some ⟨q', 0, none⟩) L.length cap' ∧ w1.cell? ⟨q', fnd L k * 4 + 1, none⟩ = some (.int .i64 (c.t - 1))) := Lib.hid ⟨q, cap, rfl, by rw [← hw1]; exact World.cell?_setCell_same _ _ _ d1⟩
  have C1 := hcn.1.c1
  have HC := Lib.hid hcn
  have d1' : w1.cell? ⟨q, fnd L k * 4 + 1, none⟩ = some (.int .i64 (c.t - 1)) := by rw [← hw1]; exact World.cell?_setCell_same _ _ _ d1
  have htm : (c.t - 1 == 0) = false := by simp; omega
  clear r e hw he d0 d2 d3 hfz hcn hok D1
  generalize fnd L k = i at *
  generalize hn : L.length = n at *
  have HN := Lib.hid hn
  clear hn
  obtain ⟨cs, cg, ct⟩ := c
  dsimp only at d1 HC HE h1t h2t d1' htm ht hw1
  have hin : (i : Int) < (n : Int) := by omega
  obtain ⟨ct1, hct1⟩ : ∃ x, ct - 1 = x := ⟨_, rfl⟩
  rw [hct1] at d1' htm hw1 HC HE
  go_enter Tryd.func17, Tryd.ntmps17
  go_wp2_with fail
  refine HF.out.mono ?_
  rintro e w2 ⟨rfl, rfl⟩
  go_wp2
  go_ret
  exact ⟨rfl, v, _, by rw [HE.out]; exact HC.out.1, HC.out.2⟩
theorem Rs.hnd {i q cap : Nat} (r : Rs w B g h v (.slice (some ⟨q, 0, none⟩) L.length cap) s L) (hi : i < L.length) : w.cell? ⟨q, i * 4 + 2, none⟩ = some (.int .u32 ((kp L i).2.s : Int)) ∧ w.cell? ⟨q, i * 4 + 3, none⟩ = some (.int .u32 (kp L i).2.g) := by
  obtain ⟨q', cap', e, -, -, -, -, -, -, -, d2, d3, -⟩ := r.slot hi
  simp only [Value.slice.injEq, Option.some.injEq, Addr.mk.injEq, and_true, true_and] at e
  obtain ⟨rfl, rfl⟩ := e
  exact ⟨d2, d3⟩
set_option maxHeartbeats 4000000 in
set_option maxRecDepth 100000 in
theorem rdrop_last (r : Rs w B g h v v2 s L) (k : Int) (c : Ct) (e : fof L k = some c) (ht : c.t = 1) :
    Calls Tryd.prog 17 #[.pointer (some ⟨h, 0, none⟩), .int .i64 k] w fun e w' => e = .returned (.bool true) ∧ Rd (rK g h v v2) B g h (fro s c.s c.g) (ldrop L k) w w' := by
  have HF := Lib.hid (rfind_any r k)
  have hfew := r.few
  obtain ⟨hi, he⟩ := fof_some e
  have hw : fwh L k = (fnd L k : Nat) := by unfold fwh; rw [if_pos hi]
  rw [hw] at HF
  obtain ⟨q, cap, rfl, hqh, hqg, hq, hc1, hc2, d0, d1, d2, d3, hfz⟩ := r.slot hi
  have hok := r.okAt hi
  rw [he] at d1 d2 d3 hok
  have hcn := r.cnt hi 0 ⟨by omega, by omega⟩
  rw [he] at hcn
  have HE : Hid (ldrop L k = L.take (fnd L k) ++ L.drop (fnd L k + 1)) := Lib.hid (by unfold ldrop; rw [e, ← ers_eq]; exact if_pos ht)
  have c1 := r.c1
  have f1 := hfz (fnd L k * 4 + 1)
  have lh := r.blk.lt
  obtain ⟨w1, hw1⟩ : ∃ u, w.setCell ⟨q, fnd L k * 4 + 1, none⟩ (.int .i64 0) = u := ⟨_, rfl⟩
  rw [hw1] at hcn
  have C1 := hcn.1.c1
  have C0 := hcn.1.c0
  have d1' : w1.cell? ⟨q, fnd L k * 4 + 1, none⟩ = some (.int .i64 0) := by rw [← hw1]; exact World.cell?_setCell_same _ _ _ d1
  have d2' : w1.cell? ⟨q, fnd L k * 4 + 2, none⟩ = some (.int .u32 (c.s : Int)) := by rw [← hw1, World.cell?_setCell_other _ _ _ _ (fun e => by have := congrArg Addr.off e; simp at this)]; exact d2
  have d3' : w1.cell? ⟨q, fnd L k * 4 + 3, none⟩ = some (.int .u32 c.g) := by rw [← hw1, World.cell?_setCell_other _ _ _ _ (fun e => by have := congrArg Addr.off e; simp at this)]; exact d3
  have HC := Lib.hid hcn
  have HOK := Lib.hid hok
  have HTD : Hid ((L.set (fnd L k) (k, (⟨c.s, c.g, 0⟩ : Ct))).take (fnd L k) = L.take (fnd L k) ∧ (L.set (fnd L k) (k, (⟨c.s, c.g, 0⟩ : Ct))).drop (fnd L k + 1) = L.drop (fnd L k + 1)) := Lib.hid
    ⟨List.take_set_of_le (Nat.le_refl _), List.drop_set_of_lt (by omega)⟩
  clear r e hw he d0 d2 d3 hcn hok hfz
  generalize fnd L k = i at *
  obtain ⟨n, hn⟩ : ∃ n, L.length = n := ⟨_, rfl⟩
  have HN := Lib.hid hn
  obtain ⟨L1, hL1⟩ : ∃ l, L.set i (k, (⟨c.s, c.g, 0⟩ : Ct)) = l := ⟨_, rfl⟩
  have hn1 : L1.length = n := by rw [← hL1, List.length_set, hn]
  have hkp1 : kp L1 i = (k, (⟨c.s, c.g, 0⟩ : Ct)) := by rw [← hL1]; simp [kp, List.getD, hi]
  have HKP := Lib.hid hkp1
  rw [hL1] at HC HTD
  rw [hn] at c1 C1 hc1 hi hfew ⊢
  have HC1 : Hid (Rs w1 B g h v (.slice (some ⟨q, 0, none⟩) L1.length cap) s L1 ∧ Tr (rK g h v (.slice (some ⟨q, 0, none⟩) n cap)) (rK g h v (.slice (some ⟨q, 0, none⟩) n cap)) w w1) := Lib.hid (by rw [hn1]; have := HC.out; rw [hn] at this; exact this)
  have HN1 := Lib.hid hn1
  clear HC hn hn1 hL1 hkp1
  obtain ⟨cs, cg, ct⟩ := c
  dsimp only at d1 d2' d3' HOK HKP ht ⊢
  subst ht
  obtain ⟨j, hj⟩ : ∃ j, i + 1 = j := ⟨_, rfl⟩
  rw [hj] at HTD HE
  have hin : (i : Int) < (n : Int) := by omega
  go_enter Tryd.func17, Tryd.ntmps17
  go_wp2_with fail
  refine HF.out.mono ?_
  rintro e w2 ⟨rfl, rfl⟩
  go_upto_region 6 with fail
  clear c1 f1 hw1 d1
  go_region_held3 (fun w' => w'.cell? ⟨h, 0, none⟩ = some (.pointer (some ⟨g, 0, none⟩)) ∧ w'.cell? ⟨h, 1, none⟩ = some (.slice (some ⟨q, 0, none⟩) n cap) ∧ w'.cell? ⟨q, i * 4 + 2, none⟩ = some (.int .u32 (cs : Int)) ∧ w'.cell? ⟨q, i * 4 + 3, none⟩ = some (.int .u32 cg))
    (first | exact ⟨R3.out.1.c0, by have := R3.out.1.c1; rw [HN1.out] at this; exact this, by have := (R3.out.1.hnd (i := i) (by rw [HN1.out]; exact hi)).1; rw [HKP.out] at this; exact this, by have := (R3.out.1.hnd (i := i) (by rw [HN1.out]; exact hi)).2; rw [HKP.out] at this; exact this⟩ | exact ⟨C0, C1, d2', d3'⟩)
    (first | (go_at_call 38; refine (refFree_any HC1.out.1.drew.rf cs cg HOK.out.2.1 HOK.out.2.2.1 HOK.out.2.2.2.1).mono ?_; rintro e w3 ⟨rfl, ha3, hf3⟩; have R3 := Lib.hid (HC1.out.1.drew.arena ha3 (.inl rfl) hf3); clear ha3 hf3))
  obtain ⟨ad, had⟩ : ∃ ad : Addr, (if cap = j then some (⟨q, 0, none⟩ : Addr) else some ⟨q, j * 4, none⟩) = some ad := by split <;> exact ⟨_, rfl⟩
  obtain ⟨A1, c1, A2, c2, W1, W2, TK⟩ := twoK_of R3.out.1.drew HN1.out hi hj ad had (by omega)
  have x1 : IntKind.i64.wrap ((i : Int) + 1) = (j : Int) := by rw [IntWalk.i64_in _ (by omega)]; omega
  have x2 : (i : Int) + 1 = (j : Int) := by omega
  have x3 : IntKind.i64.wrap (j : Int) = (j : Int) := IntWalk.i64_in _ (by omega)
  have hjn : j ≤ n := by omega
  have hic : i ≤ cap := by omega
  have hjI : (j : Int) ≤ n := by omega
  have HFIN : Hid (Rd (rK g h v (.slice (some ⟨q, 0, none⟩) n cap)) B g h (fro s cs cg) (ldrop L k) w (W2.setCell ⟨h, 1, none⟩ (.slice A2 (n - 1) c2))) := Lib.hid (by
    rw [HE.out, ← HTD.out.1, ← HTD.out.2]
    have t3 := R3.out.2
    rw [HN1.out] at t3
    exact .after (HC1.out.2.drew.trans (t3.drew)) TK.fin)
  have e1 : w3.cell? ⟨h, 1, none⟩ = some (.slice (some ⟨q, 0, none⟩) n cap) := by have := R3.out.1.c1; rw [HN1.out] at this; exact this
  have e2 := TK.d1
  have e3 := TK.d2
  have e4 := TK.f2
  have Q1 := Lib.hid TK.r1
  have Q2 := Lib.hid TK.r2
  clear TK C0 C1 d2' d3' hj
  go_wp2_with fail
  go_region_law (first
      | (refine step_app (R := fun x y => .slice A1 i c1 = x ∧ W1 = y) ⟨_, _, Q1.out, rfl, rfl⟩ rfl rfl rfl ?_ ?_ ?_; (· (simp [Act.eval]; done)); (· (simp [Act.eval, Act.put]; done)); rintro _ _ ⟨rfl, rfl⟩)
      | (refine step_app (R := fun x y => .slice A2 (n - 1) c2 = x ∧ W2 = y) ⟨_, _, Q2.out, rfl, rfl⟩ rfl rfl rfl ?_ ?_ ?_; (· (simp [Act.eval, Act.put]; done)); (· (simp [Act.eval, Act.put]; done)); rintro _ _ ⟨rfl, rfl⟩))
  all_goals
    go_wp2
    go_ret
    exact ⟨rfl, HFIN.out⟩
theorem rsdrop_any (r : Rs w B g h v v2 S.s L) (k : Int) (hf : S.f k = fof L k) (h1 : ∀ c, fof L k = some c → 1 ≤ c.t) :
    Calls Tryd.prog 17 #[.pointer (some ⟨h, 0, none⟩), .int .i64 k] w fun e w' => e = .returned (.bool (fof L k).isSome) ∧ Rd (rK g h v v2) B g h (sdrop S k).s (ldrop L k) w w' := by
  cases e : fof L k with
  | none =>
    have hw : fwh L k = -1 := by unfold fwh; rw [fof_none e, if_neg (by omega)]
    have HF := Lib.hid (rfind_any r k)
    rw [hw] at HF
    have HE : Hid ((sdrop S k).s = S.s ∧ ldrop L k = L) := Lib.hid ⟨by rw [sdrop_s, hf, e], by unfold ldrop; rw [e]⟩
    have HR := Lib.hid r
    clear r e hw hf h1
    go_enter Tryd.func17, Tryd.ntmps17
    go_wp2_with fail
    refine HF.out.mono ?_
    rintro e w1 ⟨rfl, rfl⟩
    go_wp2
    go_ret
    exact ⟨rfl, v, v2, by rw [HE.out.1, HE.out.2]; exact HR.out, .of_below (.refl _ _)⟩
  | some c =>
    by_cases ht : c.t = 1
    · have h2 : (sdrop S k).s = fro S.s c.s c.g := by rw [sdrop_s, hf, e]; exact if_pos ht
      rw [h2]
      exact rdrop_last r k c e ht
    · have h2 : (sdrop S k).s = S.s := by rw [sdrop_s, hf, e]; exact if_neg ht
      rw [h2]
      exact rdrop_less r k c e (h1 c e) ht
end
end Go.Proofs.YtglhebpblncjaaaDoor
/- The document's store: New and Get. -/
namespace Go.Proofs.YtglhebpblncjaaaDoor
open Go.RowKit
set_option linter.unusedVariables false

section
variable {w w' : World} {B g h : Nat} {v v2 : Value} {s : Ar} {S : Sv} {L : List (Int × Ct)}
theorem rsnew_any {w : World} {B g : Nat} {v : Value} {s : Ar} (r : RfAt w B g v s) (hB : B ≤ w.heap.size) :
    Calls Tryd.prog 11 #[.pointer (some ⟨g, 0, none⟩)] w fun e w' => e = .returned (.pointer (some ⟨w.heap.size, 0, none⟩)) ∧ Rs w' B g w.heap.size v (.slice none 0 0) s [] ∧ Below w.heap.size w w' := by
  have R := Lib.hid r
  clear r
  go_enter Tryd.func11, Tryd.ntmps11
  go_wp2
  go_ret
  have b : Below w.heap.size w (w.alloc (.cells #[.pointer (some ⟨g, 0, none⟩), .slice none 0 0] 73)) := (Below.refl _ _).alloc (Nat.le_refl _) _
  have lg := R.out.lt
  have lv := R.out.vlt
  exact ⟨rfl, ⟨R.out.below b, heap_alloc_new w _, World.ownsRow_nil _ _ _ _, by omega, fun e => by have := (lv _ e).2; omega, by simp [Value.ownBlock], by simp [Value.ownBlock], fun k _ => by simp [Value.ownBlock], hB, by simp, fun p hp => by cases hp⟩, b⟩
/-- What Get leaves. -/
def RGot (l : List UInt8) (w : World) (e : Ending) (w' : World) : Prop :=
  ∃ A c, e = .returned (.tuple #[ev (gK l) (gT l) A (gV l).length c, .bool (gok l)]) ∧ Below w.heap.size w w' ∧ Lies w' A (ints (gV l))
set_option maxHeartbeats 1000000 in
theorem rsget_no (r : Rs w B g h v v2 s L) (k : Int) (h0 : fof L k = none) :
    Calls Tryd.prog 19 #[.pointer (some ⟨h, 0, none⟩), .int .i64 k] w (RGot [] w) := by
  have b0 : Below w.heap.size w (w.alloc (.cells #[.int .i64 0, .int .i64 0, .slice none 0 0] 42)) := (Below.refl _ _).alloc (Nat.le_refl _) _
  have HF := Lib.hid (rfind_any (r.below b0) k)
  have hle := fnd_le L k
  have hw : fwh L k = -1 := by unfold fwh; rw [fof_none h0, if_neg (by omega)]
  rw [hw] at HF
  have HB := Lib.hid b0
  clear r b0 hw h0
  go_enter Tryd.func19, Tryd.ntmps19
  go_wp2_with fail
  refine HF.out.mono ?_
  rintro e w1 ⟨rfl, rfl⟩
  go_wp2
  refine bodyPost_ret (v := .tuple #[.agg #[.int .i64 0, .int .i64 0, .slice none 0 0], .bool false]) (by simp [results, Tryd.results19, go_sem]) rfl ?_
  exact ⟨none, 0, rfl, HB.out, fun i u hu => by simp [gV, gok] at hu⟩
set_option maxHeartbeats 2000000 in
theorem rsget_yes (r : Rs w B g h v v2 s L) (k : Int) (c : Ct) (h0 : fof L k = some c) (hlen : (got s c.s c.g).length ≤ 1024) :
    Calls Tryd.prog 19 #[.pointer (some ⟨h, 0, none⟩), .int .i64 k] w (RGot (got s c.s c.g) w) := by
  obtain ⟨w0, hw0⟩ : ∃ u, w.alloc (.cells #[.int .i64 0, .int .i64 0, .slice none 0 0] 42) = u := ⟨_, rfl⟩
  have b0 : Below w.heap.size w w0 := by rw [← hw0]; exact (Below.refl _ _).alloc (Nat.le_refl _) _
  have n1 : Has w0 w.heap.size 42 #[.int .i64 0, .int .i64 0, .slice none 0 0] := by rw [← hw0]; exact heap_alloc_new w _
  have r0 := r.below b0
  have HF := Lib.hid (rfind_any r0 k)
  have hfew := r.few
  obtain ⟨hi, he⟩ := fof_some h0
  have hw : fwh L k = (fnd L k : Nat) := by unfold fwh; rw [if_pos hi]
  rw [hw] at HF
  obtain ⟨q, cap, rfl, hqh, hqg, hq, hc1, hc2, d0, d1, d2, d3, hfz⟩ := r0.slot hi
  have hok := r.okAt hi
  rw [he] at d2 d3 hok
  have c0 := r0.c0
  have c1 := r0.c1
  have lh := r0.blk.lt
  have HOK := Lib.hid hok
  have HR := Lib.hid r0
  have HB := Lib.hid b0
  have N1 := Lib.hid n1
  have HL := Lib.hid hlen
  have HKP := Lib.hid he
  clear r r0 b0 n1 h0 hw he d0 d1 hok hfz hlen
  generalize fnd L k = i at *
  obtain ⟨n, hn⟩ : ∃ n, L.length = n := ⟨_, rfl⟩
  have HN := Lib.hid hn
  rw [hn] at c1 hc1 hi hfew
  clear hn
  obtain ⟨cs, cg, ct⟩ := c
  dsimp only at d2 d3 HOK HL HKP ⊢
  have hin : (i : Int) < (n : Int) := by omega
  go_enter Tryd.func19, Tryd.ntmps19
  go_wp2_with fail
  refine HF.out.mono ?_
  rintro e w1 ⟨rfl, rfl⟩
  clear hw0
  go_wp2_with fail
  go_region_held3 (fun w' => w'.cell? ⟨h, 0, none⟩ = some (.pointer (some ⟨g, 0, none⟩)) ∧ w'.cell? ⟨h, 1, none⟩ = some (.slice (some ⟨q, 0, none⟩) n cap) ∧ w'.cell? ⟨q, i * 4 + 2, none⟩ = some (.int .u32 (cs : Int)) ∧ w'.cell? ⟨q, i * 4 + 3, none⟩ = some (.int .u32 cg))
    (first | exact ⟨R3.out.c0, by have := R3.out.c1; rw [HN.out] at this; exact this, by have := (R3.out.hnd (i := i) (by rw [HN.out]; exact hi)).1; rw [HKP.out] at this; exact this, by have := (R3.out.hnd (i := i) (by rw [HN.out]; exact hi)).2; rw [HKP.out] at this; exact this⟩ | exact ⟨c0, c1, d2, d3⟩)
    (first | (go_at_call 41; refine (refGet_any HR.out.drew.rf cs cg HOK.out.2.1 HOK.out.2.2.1 HOK.out.2.2.2.1).mono ?_; rintro e w3 ⟨rfl, b3⟩; have R3 := Lib.hid (HR.out.drew.below b3); have P3 := Lib.hid (N1.out.drew.next b3); have Q3 := Lib.hid (Below.step HB.out.drew b3 (Nat.le_refl _)); clear b3))
  generalize hit s.l cs cg = t1 at *
  have hF : ∀ (l : List UInt8) (u : World), l.length ≤ 1024 → Calls Tryd.prog 42 #[.string (str l)] u (RFaceN l u) := fun l u hl => rget_new (str l) l u (str_data l) (by rw [str_size]; omega)
  generalize got s cs cg = l at *
  have HFG := Lib.hid hF
  clear hF c0 c1 d2 d3
  go_wp2_with fail
  refine (HFG.out l _ HL.out).mono ?_
  rintro e w4 ⟨A, c5, rfl, b4, hL, hA, hcl, hcm⟩
  have hp : w.heap.size < w3.heap.size := P3.out.lt
  have N4 := Lib.hid (P3.out.below b4 hp)
  have B4 := Lib.hid (Below.step Q3.out b4 (Nat.le_refl _))
  have hgk := gE_ok l
  have HLI := Lib.hid hL
  have HP := Lib.hid hp
  have HA := Lib.hid hA
  generalize gE l = x at *
  clear b4 hL hA HR R3 HB P3 Q3 N1 hp hcl hcm
  unfold ev
  generalize hn : (gV l).length = m at *
  generalize hK : gK l = K0 at *
  generalize hT : gT l = T0 at *
  have HN2 := Lib.hid (And.intro hn (And.intro hK hT))
  clear hn hK hT
  have f0 := N4.out.free 0
  have f1 := N4.out.free 1
  have f2 := N4.out.free 2
  obtain ⟨y0, y1, y2⟩ := N4.out.three
  have hp3 := N4.out.lt
  go_wp2
  have R := (((N4.out.put 0 (.int .i64 K0)).put 1 (.int .i64 T0)).put 2 (.slice A m c5)).alloc (.cells #[.int .i64 K0, .int .i64 T0, .slice A m c5] 42)
  have hR0 := R.cell 0
  have hR1 := R.cell 1
  have hR2 := R.cell 2
  simp at hR0 hR1 hR2
  refine bodyPost_ret (v := .tuple #[.agg #[.int .i64 K0, .int .i64 T0, .slice A m c5], .bool (gok l)]) (by simp [results, Tryd.results19, go_sem, hR0, hR1, hR2]) rfl ?_
  have hlie : Lies (((w4.setCell ⟨w.heap.size, 0, none⟩ (.int .i64 K0)).setCell ⟨w.heap.size, 1, none⟩ (.int .i64 T0)).setCell ⟨w.heap.size, 2, none⟩ (.slice A m c5)) A (ints (gV l)) := by
    intro i u hu
    obtain ⟨x, e1, hx⟩ := HLI.out i u hu
    have hne : w.heap.size ≠ (x.add i).block := by
      have h1 := HA.out x e1
      have h2 := HP.out
      have h3 := add_block x i
      omega
    refine ⟨x, e1, ?_⟩
    rw [World.cell?_setCell_other _ _ _ _ (fun e => hne (congrArg Addr.block e)), World.cell?_setCell_other _ _ _ _ (fun e => hne (congrArg Addr.block e)), World.cell?_setCell_other _ _ _ _ (fun e => hne (congrArg Addr.block e))]
    exact hx
  have hsz3 : w.heap.size ≤ (((w4.setCell ⟨w.heap.size, 0, none⟩ (.int .i64 K0)).setCell ⟨w.heap.size, 1, none⟩ (.int .i64 T0)).setCell ⟨w.heap.size, 2, none⟩ (.slice A m c5)).heap.size := by simp [World.setCell]; omega
  refine ⟨A, c5, ?_, (((B4.out.setCell (p := ⟨w.heap.size, 0, none⟩) (by simp) _).setCell (p := ⟨w.heap.size, 1, none⟩) (by simp) _).setCell (p := ⟨w.heap.size, 2, none⟩) (by simp) _).alloc hsz3 _, hlie.alloc _⟩
  rw [HN2.out.1, HN2.out.2.1, HN2.out.2.2]
  rfl
theorem rsget_any (r : Rs w B g h v v2 S.s L) (k : Int) (hf : S.f k = fof L k) (tl : Tl S.s) :
    Calls Tryd.prog 19 #[.pointer (some ⟨h, 0, none⟩), .int .i64 k] w (RGot (sbyt S k) w) := by
  cases e : fof L k with
  | none => rw [sbyt_none (hf.trans e)]; exact rsget_no r k e
  | some c => rw [sbyt_some (hf.trans e)]; exact rsget_yes r k c e (tl.got _ _)
end
end Go.Proofs.YtglhebpblncjaaaDoor
/- The program's store beside the document's: one deed on both. -/
namespace Go.Proofs.YtglhebpblncjaaaDoor
open Go.RowKit
set_option linter.unusedVariables false

/-- What a second call is to return, and leave. -/
def Snd (f : FuncId) (args : Array Value) (r : Value) (Q : World → Prop) (w : World) : Prop := Calls Tryd.prog f args w fun e w' => e = .returned r ∧ Q w'
theorem Snd.calls {f : FuncId} {args : Array Value} {r : Value} {Q : World → Prop} {w : World} (h : Snd f args r Q w) : Calls Tryd.prog f args w fun e w' => e = .returned r ∧ Q w' := h
/-- Both stores, of the same events, apart from the blocks of K. -/
structure Bt (w0 : World) (B g hh m g' h' : Nat) (v v2 : Value) (N : Nat) (S : Sv) (L : List (Int × Ct)) (K : List Nat) (w : World) : Prop where
  st : St w B g hh m N S (rK g' h' v v2 ++ K)
  rs : Rs w B g' h' v v2 S.s L
  ff : S.f = fof L
  nn : S.n = L.length
  ds : Dst L
  dj : ∀ k ∈ rK g' h' v v2, k ∉ K
  bel : Below w0.heap.size w0 w
  hB : w0.heap.size ≤ B
/-- After so many deeds. -/
def Bo (w0 : World) (B g hh m g' h' N : Nat) (K : List Nat) (w : World) : Prop := ∃ v v2 S L, Bt w0 B g hh m g' h' v v2 N S L K w
theorem dst_mem {L : List (Int × Ct)} (h : Dst L) {p : Int × Ct} (hp : p ∈ L) : fof L p.1 = some p.2 := by
  induction L with
  | nil => cases hp
  | cons q L ih =>
    obtain ⟨h1, h2⟩ := h
    rcases List.mem_cons.1 hp with e | e
    · rw [e]; simp [fof]
    · have := ih h2 e
      simp only [fof]
      by_cases e1 : q.1 = p.1
      · rw [e1] at h1; rw [h1] at this; cases this
      · rw [if_neg e1]; exact this
theorem lput_ok {S : Sv} {L : List (Int × Ct)} (hf : S.f = fof L) (hn : S.n = L.length) (hd : Dst L) (ix : Int) (ok : Bool) (t : List UInt8) :
    (sput S ix ok t).f = fof (lput S L ix ok t) ∧ (sput S ix ok t).n = (lput S L ix ok t).length ∧ Dst (lput S L ix ok t) := by
  unfold sput lput
  by_cases hp : perr S ix ok t = 0
  · rw [if_pos hp, if_pos hp]
    have h0 : fof L ix = none := by
      cases e : fof L ix with
      | none => rfl
      | some c =>
        unfold perr at hp
        rw [hf, e] at hp
        split at hp
        · cases hp
        · simp at hp
    exact ⟨by rw [fof_app _ h0, ← hf], by simp [hn], hd.app _ h0⟩
  · rw [if_neg hp, if_neg hp]
    exact ⟨hf, hn, hd⟩
theorem lhold_ok {S : Sv} {L : List (Int × Ct)} (hf : S.f = fof L) (hn : S.n = L.length) (hd : Dst L) (ix : Int) :
    (shold S ix).f = fof (lhold L ix) ∧ (shold S ix).n = (lhold L ix).length ∧ Dst (lhold L ix) ∧ (shold S ix).s = S.s := by
  unfold shold lhold
  cases e : fof L ix with
  | none =>
    rw [hf, e]
    exact ⟨hf, hn, hd, rfl⟩
  | some c =>
    rw [hf, e]
    exact ⟨(fof_set _ (fof_some e).1).symm, by simpa using hn, hd.set _, rfl⟩
theorem ldrop_ok {S : Sv} {L : List (Int × Ct)} (hf : S.f = fof L) (hn : S.n = L.length) (hd : Dst L) (ix : Int) :
    (sdrop S ix).f = fof (ldrop L ix) ∧ (sdrop S ix).n = (ldrop L ix).length ∧ Dst (ldrop L ix) := by
  unfold sdrop ldrop
  cases e : fof L ix with
  | none =>
    rw [hf, e]
    exact ⟨hf, hn, hd⟩
  | some c =>
    rw [hf, e]
    by_cases ht : c.t = 1
    · simp only [ht, if_true]
      exact ⟨(fof_ers hd).symm, by rw [ers_len (fof_some e).1, hn], hd.ers⟩
    · simp only [ht, if_false]
      exact ⟨(fof_set _ (fof_some e).1).symm, by simpa using hn, hd.set _⟩
section
variable {w0 w w1 w2 w' : World} {B g hh m g' h' : Nat} {v v2 : Value} {N N' : Nat} {S S' : Sv} {L L' : List (Int × Ct)} {K : List Nat}
theorem Bt.below (b : Bt w0 B g hh m g' h' v v2 N S L K w) (hb : Below w.heap.size w w') : Bt w0 B g hh m g' h' v v2 N S L K w' :=
  ⟨b.st.below hb, b.rs.below hb, b.ff, b.nn, b.ds, b.dj, b.bel.trans (hb.mono b.bel.size), b.hB⟩
theorem Bt.drew (b : Bt w0 B g hh m g' h' v v2 N S L K w) : Bt w0 B g hh m g' h' v v2 N S L K w.drew := b.below (Below.refl _ _).drew
/-- A variable that is boxed. -/
theorem Bt.box (b : Bt w0 B g hh m g' h' v v2 N S L K w) (o : Obj) : Bt w0 B g hh m g' h' v v2 N S L (w.heap.size :: K) (w.alloc o) := by
  have hb : Below w.heap.size w (w.alloc o) := (Below.refl _ _).alloc (Nat.le_refl _) o
  have c := b.below hb
  refine ⟨(b.st.tn (T := []) (K' := rK g' h' v v2 ++ (w.heap.size :: K)) (.of_below hb) (fun k hk => by cases hk) fun k hk => ?_).1, c.rs, c.ff, c.nn, c.ds, fun k hk hn => ?_, c.bel, c.hB⟩
  · simp only [List.mem_append, List.mem_cons] at hk ⊢
    rcases hk with e | e | e
    · exact .inl (.inl e)
    · exact .inr ⟨by omega, by simp; omega⟩
    · exact .inl (.inr e)
  · rcases List.mem_cons.1 hn with e | e
    · have := (b.rs.lt k hk).1; omega
    · exact b.dj k hk e
/-- A box of the statement's own is written. -/
theorem Bt.set (b : Bt w0 B g hh m g' h' v v2 N S L K w) {q : Nat} (hq : q ∈ K) (i : Nat) (u : Value) : Bt w0 B g hh m g' h' v v2 N S L K (w.setCell ⟨q, i, none⟩ u) := by
  have t := Tn.set w ⟨q, i, none⟩ u
  obtain ⟨a1, a2⟩ := b.st.tn (K' := rK g' h' v v2 ++ K) t (fun k hk => by simp at hk; rw [hk]; exact List.mem_append_right _ hq) (fun k hk => .inl hk)
  have hne : ∀ k ∈ rK g' h' v v2, k ≠ q := fun k hk e => b.dj k hk (by rw [e]; exact hq)
  exact ⟨a1, b.rs.keep fun k hk => t.block k (b.rs.lt k hk).1 (by simp; exact hne k hk), b.ff, b.nn, b.ds, b.dj, b.bel.trans (a2.mono b.hB), b.hB⟩
theorem Bt.sub {K' : List Nat} (b : Bt w0 B g hh m g' h' v v2 N S L K w) (hs : ∀ k ∈ K', k ∈ K) : Bt w0 B g hh m g' h' v v2 N S L K' w :=
  ⟨b.st.sub fun k hk => by
    simp only [List.mem_append] at hk ⊢
    exact hk.imp id (hs k), b.rs, b.ff, b.nn, b.ds, fun k hk hn => b.dj k hk (hs k hn), b.bel, b.hB⟩
theorem Bt.more (b : Bt w0 B g hh m g' h' v v2 N S L K w) (h : N ≤ N') : Bt w0 B g hh m g' h' v v2 N' S L K w := ⟨b.st.more h, b.rs, b.ff, b.nn, b.ds, b.dj, b.bel, b.hB⟩
theorem Bt.both (b : Bt w0 B g hh m g' h' v v2 N S L K w) (a : St w1 B g hh m N' S' (rK g' h' v v2 ++ K)) (k : Kp B (rK g' h' v v2 ++ K) w w1) (r : Rd (rK g' h' v v2) B g' h' S'.s L' w1 w2) (ff' : S'.f = fof L') (nn' : S'.n = L'.length) (ds' : Dst L') :
    Bo w0 B g hh m g' h' N' K w2 ∧ Kp B K w1 w2 := by
  obtain ⟨v', v2', r1, r2⟩ := r
  obtain ⟨a1, a2⟩ := a.tn (K' := rK g' h' v' v2' ++ K) r2.tn (fun k hk => List.mem_append_left _ hk) (fun k hk => by
    simp only [List.mem_append] at hk ⊢
    rcases hk with e | e
    · exact (r2.fr k e).imp .inl id
    · exact .inl (.inr e))
  refine ⟨⟨v', v2', S', L', a1, r1, ff', nn', ds', fun q hq hn => ?_, b.bel.trans ((k.bel.trans a2).mono b.hB), b.hB⟩, a2, fun q hn => r2.tn.block q (by
    have h1 := b.st.sc.klt (k := q) (by simp [hn])
    have h2 := k.bel.size
    omega) fun hq => b.dj q hq hn⟩
  rcases r2.fr q hq with e | e
  · exact b.dj q e hn
  · have h1 := b.st.sc.klt (k := q) (by simp [hn])
    have h2 := k.bel.size
    omega
theorem Bt.kept (b : Bt w0 B g hh m g' h' v v2 N S L K w) (k : Kp B (rK g' h' v v2 ++ K) w w1) : Rs w1 B g' h' v v2 S.s L := b.rs.keep fun q hq => k.blk q (List.mem_append_left _ hq)
theorem Bt.few (b : Bt w0 B g hh m g' h' v v2 N S L K w) (hN : N ≤ 100) : L.length < 1000 := by
  have := b.st.nn
  have := b.nn
  omega
theorem put_both (b : Bt w0 B g hh m g' h' v v2 N S L K w) (hN : N ≤ 100) (ix : Int) (hix : I64 ix) (Kd T : Int) (A : Option Addr) (n c : Nat) (l : List Int) (hk : I64 Kd) (hl : l.length = n) (hm : n ≤ maxLen) (hr : Ly B [] w A l) :
    Calls Tryd.prog 12 #[.pointer (some ⟨hh, 0, none⟩), .int .i64 ix, ev Kd T A n c] w fun e w1 => ∃ p, e = .returned (.int .i64 p) ∧ Kp B K w w1 ∧ Snd 13 #[.pointer (some ⟨h', 0, none⟩), .int .i64 ix, ev Kd T A n c] (.int .i64 p) (fun w2 => Bo w0 B g hh m g' h' (N + 1) K w2 ∧ Kp B K w1 w2) w1 := by
  refine (stput_any b.st (by omega) ix hix Kd T A n c l hk.1 hk.2 hl hm hr.li).mono fun e w1 ⟨h1, a, k⟩ => ⟨_, h1, k.sub fun q hq => List.mem_append_right _ hq, ?_⟩
  obtain ⟨x1, x2, x3⟩ := lput_ok b.ff b.nn b.ds ix (wok Kd l) (wput Kd T l)
  exact (rsput_any (b.kept k) (b.few hN) ix hix Kd T A n c l hl hm (hr.kp (k.sub fun q hq => by cases hq)).li (by rw [b.ff])).mono fun e' w2 ⟨h2, r⟩ => ⟨h2, b.both a k r x1 x2 x3⟩
theorem hold_both (b : Bt w0 B g hh m g' h' v v2 N S L K w) (hN : N ≤ 100) (ix : Int) (hix : I64 ix) :
    Calls Tryd.prog 14 #[.pointer (some ⟨hh, 0, none⟩), .int .i64 ix] w fun e w1 => ∃ p, e = .returned (.bool p) ∧ Snd 15 #[.pointer (some ⟨h', 0, none⟩), .int .i64 ix] (.bool p) (Bo w0 B g hh m g' h' (N + 1) K) w1 := by
  refine (sthold_any b.st (by omega) ix hix).mono fun e w1 ⟨h1, a, k⟩ => ⟨_, h1, ?_⟩
  obtain ⟨x1, x2, x3, x4⟩ := lhold_ok b.ff b.nn b.ds ix
  refine (rhold_any (b.kept k) ix (fun p hp => ?_)).mono fun e' w2 ⟨h2, r⟩ => ⟨by rw [h2, b.ff], (b.both a k (by rw [x4]; exact r) x1 x2 x3).1⟩
  have := b.st.bd p.1 p.2 (by rw [b.ff]; exact dst_mem b.ds hp)
  omega
theorem drop_both (b : Bt w0 B g hh m g' h' v v2 N S L K w) (hN : N ≤ 100) (ix : Int) (hix : I64 ix) :
    Calls Tryd.prog 16 #[.pointer (some ⟨hh, 0, none⟩), .int .i64 ix] w fun e w1 => ∃ p, e = .returned (.bool p) ∧ Snd 17 #[.pointer (some ⟨h', 0, none⟩), .int .i64 ix] (.bool p) (Bo w0 B g hh m g' h' (N + 1) K) w1 := by
  refine (stdrop_any b.st (by omega) ix hix).mono fun e w1 ⟨h1, a, k⟩ => ⟨_, h1, ?_⟩
  obtain ⟨x1, x2, x3⟩ := ldrop_ok b.ff b.nn b.ds ix
  refine (rsdrop_any (S := S) (b.kept k) ix (by rw [b.ff]) (fun c e => ?_)).mono fun e' w2 ⟨h2, r⟩ => ⟨by rw [h2, b.ff], (b.both a k r x1 x2 x3).1⟩
  exact (b.st.bd ix c (by rw [b.ff]; exact e)).2.2.2.1
end
end Go.Proofs.YtglhebpblncjaaaDoor
