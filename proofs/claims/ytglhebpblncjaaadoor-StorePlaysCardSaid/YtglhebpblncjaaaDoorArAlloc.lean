/- What Fits and Alloc do to an arena, as contracts. -/
import Derived.Test.YtglhebpblncjaaaDoorArTakeNew
namespace Go.Proofs.YtglhebpblncjaaaDoor
open Go.RowKit
set_option linter.unusedVariables false

theorem smo_bd : ∀ (l : List Int) (s x : Int), 0 ≤ s → s ≤ 2147483647 → smo s l = some x → 0 ≤ x ∧ x ≤ 2147483647 := by
  intro l
  induction l with
  | nil => intro s x h0 h1 h; simp [smo] at h; omega
  | cons y r ih =>
    intro s x h0 h1 h
    have hb := rnd_bd y
    unfold smo at h
    split at h
    · rename_i hc; exact ih _ _ (by omega) (by omega) h
    · cases h
theorem smv_bd (l : List Int) : 0 ≤ smv l ∧ smv l ≤ 2147483647 := by
  unfold smv
  cases h : smo 0 l with
  | none => simp
  | some x => have := smo_bd l 0 x (by omega) (by omega) h; simpa using this

set_option maxHeartbeats 800000 in
theorem fits_any {w : World} {B g : Nat} {v : Value} {s : Ar} (h : ArAt w B g v s) (ht : Tab w) (A : Option Addr) (len cap : Nat) (ls : List Int) (hl : ls.length = len) (hm : len ≤ maxLen) (hr : Lies w A (ints ls)) :
    Calls Tryd.prog 47 #[.pointer (some ⟨g, 0, none⟩), .slice A len cap] w fun e w' => e = .returned (.bool (fits s ls)) ∧ Below w.heap.size w w' := by
  obtain ⟨cs, h1, h2⟩ := h.blk
  have c1 := (h1.cell 1).trans h2.lim
  have c2 := (h1.cell 2).trans h2.chg
  have b0 := chg_ge h.wf.ok
  have b1 := h.wf.chl
  have b2 : s.lim ≤ 16777216 := by have := h.wf.limc; have := h.wf.cap1; omega
  have b3 := smv_bd ls
  have HS := Lib.hid (sum_lies A len cap ls w ht hl hm hr)
  have hb4 := b3.1
  have hb5 := b3.2
  clear h h1 h2 b3 hr hl hm ht
  cases hk : smk ls with
  | false =>
    have HE : Hid (fits s ls = false) := Lib.hid (by rw [fits, hk]; rfl)
    have HK := Lib.hid hk
    clear hk
    go_enter Tryd.func47, Tryd.ntmps47
    go_wp2_with fail
    refine HS.out.mono ?_
    rintro e w' ⟨rfl, rfl⟩
    rw [HK.out]
    go_wp2
    go_quiet (fail)
    go_wp2
    go_ret
    exact ⟨ret_bool HE.out.symm, below_drewN (Below.refl _ _) _⟩
  | true =>
    have HK := Lib.hid hk
    by_cases hc : smv ls ≤ s.lim - chg s.l
    · have HE : Hid (fits s ls = true) := Lib.hid (by rw [fits, hk]; simp; omega)
      clear hk
      go_enter Tryd.func47, Tryd.ntmps47
      go_wp2_with fail
      refine HS.out.mono ?_
      rintro e w' ⟨rfl, rfl⟩
      rw [HK.out]
      go_wp2
      go_quiet (fail)
      go_wp2
      go_ret
      exact ⟨ret_bool HE.out.symm, below_drewN (Below.refl _ _) _⟩
    · have HE : Hid (fits s ls = false) := Lib.hid (by rw [fits, hk]; simp; omega)
      clear hk
      go_enter Tryd.func47, Tryd.ntmps47
      go_wp2_with fail
      refine HS.out.mono ?_
      rintro e w' ⟨rfl, rfl⟩
      rw [HK.out]
      go_wp2
      go_quiet (fail)
      go_wp2
      go_ret
      exact ⟨ret_bool (by rw [HE.out]; simpa using hc), below_drewN (Below.refl _ _) _⟩

/-- What Alloc leaves: a handle, an error, the arena. -/
def Alloced (B g : Nat) (v : Value) (s : Ar) (t : List UInt8) (w : World) (e : Ending) (w' : World) : Prop :=
  ∃ v2, e = .returned (.tuple #[.agg #[.int .u32 (aslot s t.length), .int .u32 (agen s t.length)], .int .i64 (aerr s t.length)]) ∧ ArAt w' B g v2 (alo s t) ∧ (v2.ownBlock = v.ownBlock ∨ ∃ n, v2.ownBlock = some n ∧ w.heap.size ≤ n) ∧ Fr g v.ownBlock w w'

theorem one_fits (s : Ar) (n : Int) (h : rok n = true) : fits s [n] = decide (chg s.l + rnd n ≤ s.lim) := by
  have hb := rnd_bd n
  have e : smo 0 [n] = some (rnd n) := by rw [smo_yes h (by omega)]; simp [smo]
  simp [fits, smk, smv, e]
theorem ret_alloced {B g : Nat} {v : Value} {s : Ar} {t : List UInt8} {w w' : World} {a b c : Int} (ha : a = aslot s t.length) (hb : b = agen s t.length) (hc : c = aerr s t.length) (hc0 : aerr s t.length ≠ 0) (h : ArAt w' B g v s) (hf : Fr g v.ownBlock w w') :
    Alloced B g v s t w (.returned (.tuple #[.agg #[.int .u32 a, .int .u32 b], .int .i64 c])) w' :=
  ⟨v, by rw [ha, hb, hc], by rw [alo, if_neg hc0]; exact h, .inl rfl, hf⟩

set_option maxHeartbeats 1600000 in
theorem alloc_any {w : World} {B g : Nat} {v : Value} {s : Ar} (h : ArAt w B g v s) (hB : B ≤ w.heap.size) (ht : Tab w) (hT : Dbt w) (t : List UInt8) (hlen : t.length ≤ maxLen) :
    Calls Tryd.prog 33 #[.pointer (some ⟨g, 0, none⟩), .string (str t)] w (Alloced B g v s t w) := by
  unfold maxLen at hlen
  have hbx := boxed w (.int .u32 0) (.int .u32 0)
  have hA1 := h.below hbx
  have HA := Lib.hid hA1
  have HT1 := Lib.hid (ht.below hbx)
  have HX := Lib.hid hbx
  have hsz := str_size t
  cases hk : rok (t.length : Int) with
  | false =>
    have HE : Hid (aerr s t.length = 1) := Lib.hid (by rw [aerr, if_pos hk])
    have HK := Lib.hid hk
    clear h hA1 ht hT hbx hk
    go_enter Tryd.func33, Tryd.ntmps33
    go_wp2_with fail
    refine (round_any _ _ HT1.out).mono ?_
    rintro e w' ⟨rfl, rfl⟩
    rw [HK.out]
    go_wp2
    refine bodyPost_ret (v := .tuple #[.agg #[.int .u32 0, .int .u32 0], .int .i64 1]) (by simp [results, Tryd.results33, go_sem]) rfl ?_
    exact ret_alloced (by rw [aslot, HE.out]; rfl) (by rw [agen, HE.out]; rfl) HE.out.symm (by rw [HE.out]; decide) HA.out (.of_below HX.out)
  | true =>
    have HK := Lib.hid hk
    have hbx2 : Below w.heap.size w ((w.alloc (.cells #[.int .u32 0, .int .u32 0] 78)).alloc (.cells #[.int .i64 (t.length : Int)] 3)) := hbx.alloc (by simp) _
    have HA2 := Lib.hid (h.below hbx2)
    have HX2 := Lib.hid hbx2
    have HT2 := Lib.hid (ht.below hbx2)
    have HD2 := Lib.hid (hT.below hbx2)
    have HFI := Lib.hid (fits_any HA2.out HT2.out (some ⟨(w.alloc (.cells #[.int .u32 0, .int .u32 0] 78)).heap.size, 0, none⟩) 1 1 [(t.length : Int)] rfl (by unfold maxLen; omega) (Lies.one _ _ _))
    have hs1 : (w.alloc (.cells #[.int .u32 0, .int .u32 0] 78)).heap.size = w.heap.size + 1 := by simp
    rw [one_fits s _ hk, hs1] at HFI
    have HR0 : Hid (Has ((w.alloc (.cells #[.int .u32 0, .int .u32 0] 78)).alloc (.cells #[.int .i64 (t.length : Int)] 3)) w.heap.size 78 #[.int .u32 0, .int .u32 0]) := Lib.hid ((Below.heap_alloc _ _ _ (by simp)).trans (heap_alloc_new w _))
    have hgs : g < w.heap.size := h.lt
    have HV := Lib.hid h.vlt
    have hr16 := rnd16 hk
    obtain ⟨hr0, hr1, hr2⟩ := hr16
    have hne := h.ne
    clear hbx hA1 hbx2 ht hT hs1
    by_cases hfit : chg s.l + rnd (t.length : Int) ≤ s.lim
    · rw [show decide (chg s.l + rnd (t.length : Int) ≤ s.lim) = true by simpa using hfit] at HFI
      by_cases hfr : fre s.l < 4096
      · have HE : Hid (aerr s t.length = 0) := Lib.hid (aerr_of hk hfit hfr)
        clear hk h
        have HNE := Lib.hid hne
        clear hne
        go_enter Tryd.func33, Tryd.ntmps33
        go_wp2_with fail
        refine (round_any _ _ HT1.out).mono ?_
        rintro e w' ⟨rfl, rfl⟩
        rw [HK.out]
        go_wp2_with fail
        refine HFI.out.mono ?_
        rintro e w2 ⟨rfl, hb2⟩
        have HB2 := Lib.hid hb2
        clear hb2
        go_wp2_with fail
        refine (least_any (HA2.out.below HB2.out) (HD2.out.below HB2.out)).mono ?_
        rintro e w' ⟨rfl, rfl⟩
        rw [lst, lsk, if_pos hfr, show decide (fre s.l < 4096) = true by simpa using hfr]
        go_wp2_with fail
        refine (take_any (HA2.out.below HB2.out) (by have := HB2.out.size; have := HX2.out.size; omega) t _ hfr hr0 hr1 hfit).mono ?_
        rintro e w3 ⟨v2, rfl, hA3, hv3, hF3⟩
        have hR3 : Has w3 w.heap.size 78 #[.int .u32 0, .int .u32 0] := by
          have e1 := (HR0.out.below HB2.out (by simp; omega))
          refine (hF3.block _ e1.lt (by omega) (fun e => ?_)).trans e1
          have := (HV.out _ e).2
          omega
        have hR0 := hR3.cell 0
        have hR1 := hR3.cell 1
        simp only [List.getElem?_toArray, List.getElem?_cons_zero, List.getElem?_cons_succ] at hR0 hR1
        have fR := hR3.free
        have HA3 := Lib.hid hA3
        have HV3 := Lib.hid hv3
        have HF3 := Lib.hid hF3
        clear hR3 hA3 hv3 hF3
        go_wp2
        refine bodyPost_ret (v := .tuple #[.agg #[.int .u32 (fre s.l : Int), .int .u32 (bk s.l (fre s.l)).g], .int .i64 0]) (by simp [results, Tryd.results33, go_sem, hR0, hR1]) rfl ?_
        have F : Fr g v.ownBlock w w3 := (Fr.of_below (HX2.out.trans (HB2.out.mono (by have := HX2.out.size; omega)))).trans HF3.out (.inl rfl)
        have sz : w.heap.size ≤ w2.heap.size := by have := HB2.out.size; have := HX2.out.size; omega
        have hlow := HA3.out.vlt
        have hbn : v2.ownBlock ≠ some w.heap.size := by
          rcases HV3.out with e | ⟨n, e, hn⟩
          · intro e2
            have := (HV.out w.heap.size (by rw [← e]; exact e2)).2
            omega
          · intro e2
            have e3 := Option.some.inj (e.symm.trans e2)
            have := HB2.out.size
            simp at this
            omega
        refine ⟨v2, by rw [aslot, agen, HE.out]; rfl, ?_, ?_, ((F.set_ok (b := w.heap.size) (.inr (.inr (Nat.le_refl _))) 0 _).set_ok (b := w.heap.size) (.inr (.inr (Nat.le_refl _))) 1 _)⟩
        · rw [alo, if_pos HE.out]
          refine HA3.out.keep fun k hk => ?_
          have hkn : k ≠ w.heap.size := by
            rcases hk with rfl | hk
            · omega
            · intro e; exact hbn (by rw [hk, e])
          exact (Below.heap_setCell _ _ _ _ hkn).trans (Below.heap_setCell _ _ _ _ hkn)
        · rcases HV3.out with e | ⟨n, e, hn⟩
          · exact .inl e
          · exact .inr ⟨n, e, by omega⟩
      · have HE : Hid (aerr s t.length = 11) := Lib.hid (by rw [aerr, if_neg (by rw [hk]; decide), if_neg (by omega), if_pos (by omega)])
        clear hk h
        go_enter Tryd.func33, Tryd.ntmps33
        go_wp2_with fail
        refine (round_any _ _ HT1.out).mono ?_
        rintro e w' ⟨rfl, rfl⟩
        rw [HK.out]
        go_wp2_with fail
        refine HFI.out.mono ?_
        rintro e w2 ⟨rfl, hb2⟩
        have hR3 := (HR0.out.below hb2 (by simp; omega))
        have hR0 := hR3.cell 0
        have hR1 := hR3.cell 1
        simp only [List.getElem?_toArray, List.getElem?_cons_zero, List.getElem?_cons_succ] at hR0 hR1
        have fR := hR3.free
        have HB2 := Lib.hid hb2
        clear hb2 hR3
        go_wp2_with fail
        refine (least_any (HA2.out.below HB2.out) (HD2.out.below HB2.out)).mono ?_
        rintro e w' ⟨rfl, rfl⟩
        rw [lst, lsk, if_neg hfr, show decide (fre s.l < 4096) = false by simpa using hfr]
        go_wp2
        refine bodyPost_ret (v := .tuple #[.agg #[.int .u32 0, .int .u32 0], .int .i64 11]) (by simp [results, Tryd.results33, go_sem, hR0, hR1]) rfl ?_
        have F : Below w.heap.size w w2 := HX2.out.trans (HB2.out.mono (by have := HX2.out.size; omega))
        exact ret_alloced (by rw [aslot, HE.out]; rfl) (by rw [agen, HE.out]; rfl) HE.out.symm (by rw [HE.out]; decide) ((HA2.out.below HB2.out).keep fun k hk => by
          have hkn : k ≠ w.heap.size := by
            rcases hk with rfl | hk
            · omega
            · have := (HV.out k hk).2; omega
          exact (Below.heap_setCell _ _ _ _ hkn).trans (Below.heap_setCell _ _ _ _ hkn)) (((Fr.of_below F).set_ok (b := w.heap.size) (.inr (.inr (Nat.le_refl _))) 0 _).set_ok (b := w.heap.size) (.inr (.inr (Nat.le_refl _))) 1 _)
    · rw [show decide (chg s.l + rnd (t.length : Int) ≤ s.lim) = false by simpa using hfit] at HFI
      have HE : Hid (aerr s t.length = 9) := Lib.hid (by rw [aerr, if_neg (by rw [hk]; decide), if_pos (by omega)])
      clear hk h
      go_enter Tryd.func33, Tryd.ntmps33
      go_wp2_with fail
      refine (round_any _ _ HT1.out).mono ?_
      rintro e w' ⟨rfl, rfl⟩
      rw [HK.out]
      go_wp2_with fail
      refine HFI.out.mono ?_
      rintro e w2 ⟨rfl, hb2⟩
      have hR3 := (HR0.out.below hb2 (by simp; omega))
      have hR0 := hR3.cell 0
      have hR1 := hR3.cell 1
      simp only [List.getElem?_toArray, List.getElem?_cons_zero, List.getElem?_cons_succ] at hR0 hR1
      have fR := hR3.free
      have HB2 := Lib.hid hb2
      clear hb2 hR3
      go_wp2
      refine bodyPost_ret (v := .tuple #[.agg #[.int .u32 0, .int .u32 0], .int .i64 9]) (by simp [results, Tryd.results33, go_sem, hR0, hR1]) rfl ?_
      have F : Below w.heap.size w w2 := HX2.out.trans (HB2.out.mono (by have := HX2.out.size; omega))
      exact ret_alloced (by rw [aslot, HE.out]; rfl) (by rw [agen, HE.out]; rfl) HE.out.symm (by rw [HE.out]; decide) ((HA2.out.below HB2.out).keep fun k hk => by
        have hkn : k ≠ w.heap.size := by
          rcases hk with rfl | hk
          · omega
          · have := (HV.out k hk).2; omega
        exact (Below.heap_setCell _ _ _ _ hkn).trans (Below.heap_setCell _ _ _ _ hkn)) (((Fr.of_below F).set_ok (b := w.heap.size) (.inr (.inr (Nat.le_refl _))) 0 _).set_ok (b := w.heap.size) (.inr (.inr (Nat.le_refl _))) 1 _)
end Go.Proofs.YtglhebpblncjaaaDoor
