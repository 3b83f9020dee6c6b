/- What Put does to the reference's arena, as a contract. -/
import Derived.Test.YtiandhfpdehicaaDoorArRefNew
import Derived.Deep.RegionWith
namespace Go.Proofs.YtiandhfpdehicaaDoor
open Go.RowKit
set_option linter.unusedVariables false

set_option maxHeartbeats 1600000 in
theorem refPut_any {w : World} {B g : Nat} {v : Value} {s : Ar} (h : RfAt w B g v s) (i : Nat) (gn : Int) (hi : i ≤ 4294967295) (hgn0 : 0 ≤ gn) (hgn1 : gn ≤ 4294967295) (t : List UInt8) (ht : t.length ≤ maxLen) :
    Calls Tryd.prog 13 #[.pointer (some ⟨g, 0, none⟩), .agg #[.int .u32 i, .int .u32 gn], .string (str t)] w fun e w' => e = .returned (.bool (pok s i gn t.length)) ∧ RfAt w' B g v (pto s i gn t) ∧ Fr g v.ownBlock w w' := by
  unfold maxLen at ht
  have HA := Lib.hid (h.below (rboxed w (.int .u32 i) (.int .u32 gn)))
  have hsz := str_size t
  have hx0 := rboxed_at w _ (.int .u32 i) (.int .u32 gn) (Below.refl _ _)
  have X0 := Lib.hid hx0
  clear hx0
  cases hh : hit s.l i gn with
  | false =>
    have HG : Hid (pok s i gn t.length = false) := Lib.hid (by rw [pok, hh]; rfl)
    have HH := Lib.hid hh
    have H := Lib.hid h
    clear hh h
    go_enter Tryd.func13, Tryd.ntmps13
    go_wp2_with fail
    have x0 := X0.out.1
    have x1 := X0.out.2
    refine wp_region_any (by kernel_rfl) ?_
    change wpAny _ _ _ _ _ _ _ (World.drew _)
    refine wpAny_take (i := 0) (v := .pointer (some ⟨g, 0, none⟩)) rfl (by kernel_rfl) (by kernel_rfl) (by kernel_rfl) (fun _ _ _ h => h) (Or.inl ⟨by rfl, by (intro w; go_simp)⟩) ?_
    refine wpAny_ready (rs := [1]) (by kernel_rfl) (by simp) ?_
    refine AllReady.cons rfl (fun K hK => ?_) AllReady.nil
    go_simp
    refine hK _ _ ?_
    clear hK K
    refine wpAny_ready (rs := [2]) (by kernel_rfl) (by simp) ?_
    refine AllReady.cons rfl (fun K hK => ?_) AllReady.nil
    go_simp
    go_wp2_with (go_at_call 30; refine (refLives_any (HA.out.below (Below.refl _ _).drew) i gn hi hgn0 hgn1).mono ?_; rw [HH.out]; rintro e w1 ⟨rfl, hb⟩; have HB := Lib.hid ((rboxed w (.int .u32 i) (.int .u32 gn)).trans (((Below.refl _ _).drew.trans hb).mono (by simp))); clear hb)
    refine wpAny_take (i := 3) (v := .bool true) rfl (by kernel_rfl) (by kernel_rfl) (by kernel_rfl) (fun _ _ _ h => h) (Or.inl ⟨by rfl, by (intro w; go_simp)⟩) ?_
    change wpAny _ _ _ _ _ _ ⟨#[.pointer (some ⟨g, 0, none⟩), .agg #[.int .u32 (i : Int), .int .u32 gn], .string (str t), undef, .pointer (some ⟨w.heap.size, 0, none⟩), undef, .bool false, .pointer (some ⟨g, 0, none⟩), .agg #[.int .u32 (i : Int), .int .u32 gn], .bool false, .bool true, undef, undef, undef, undef, undef, undef, undef, undef, undef, undef, undef, undef, undef, undef, undef, undef, undef, undef, undef, undef, undef, undef, undef], []⟩ _
    refine wpAny_take (i := 4) (v := .bool true) rfl (by kernel_rfl) (by kernel_rfl) (by kernel_rfl) (fun _ _ _ h => h) (Or.inl ⟨by rfl, by (intro w; go_simp)⟩) ?_
    change wpAny _ _ _ _ _ _ ⟨#[.pointer (some ⟨g, 0, none⟩), .agg #[.int .u32 (i : Int), .int .u32 gn], .string (str t), undef, .pointer (some ⟨w.heap.size, 0, none⟩), undef, .bool false, .pointer (some ⟨g, 0, none⟩), .agg #[.int .u32 (i : Int), .int .u32 gn], .bool false, .bool true, .bool true, undef, undef, undef, undef, undef, undef, undef, undef, undef, undef, undef, undef, undef, undef, undef, undef, undef, undef, undef, undef, undef, undef], []⟩ _
    refine wpAny_take (i := 5) (v := undef) rfl (by kernel_rfl) (by kernel_rfl) (by kernel_rfl) (fun _ _ _ h => h) (Or.inr ⟨by kernel_rfl, rfl⟩) ?_
    change wpAny _ _ _ _ _ _ ⟨#[.pointer (some ⟨g, 0, none⟩), .agg #[.int .u32 (i : Int), .int .u32 gn], .string (str t), undef, .pointer (some ⟨w.heap.size, 0, none⟩), undef, .bool false, .pointer (some ⟨g, 0, none⟩), .agg #[.int .u32 (i : Int), .int .u32 gn], .bool false, .bool true, .bool true, undef, undef, undef, undef, undef, undef, undef, undef, undef, undef, undef, undef, undef, undef, undef, undef, undef, undef, undef, undef, undef, undef], []⟩ _
    refine wpAny_take (i := 6) (v := undef) rfl (by kernel_rfl) (by kernel_rfl) (by kernel_rfl) (fun _ _ _ h => h) (Or.inr ⟨by kernel_rfl, rfl⟩) ?_
    change wpAny _ _ _ _ _ _ ⟨#[.pointer (some ⟨g, 0, none⟩), .agg #[.int .u32 (i : Int), .int .u32 gn], .string (str t), undef, .pointer (some ⟨w.heap.size, 0, none⟩), undef, .bool false, .pointer (some ⟨g, 0, none⟩), .agg #[.int .u32 (i : Int), .int .u32 gn], .bool false, .bool true, .bool true, undef, undef, undef, undef, undef, undef, undef, undef, undef, undef, undef, undef, undef, undef, undef, undef, undef, undef, undef, undef, undef, undef], []⟩ _
    refine wpAny_take (i := 7) (v := undef) rfl (by kernel_rfl) (by kernel_rfl) (by kernel_rfl) (fun _ _ _ h => h) (Or.inr ⟨by kernel_rfl, rfl⟩) ?_
    change wpAny _ _ _ _ _ _ ⟨#[.pointer (some ⟨g, 0, none⟩), .agg #[.int .u32 (i : Int), .int .u32 gn], .string (str t), undef, .pointer (some ⟨w.heap.size, 0, none⟩), undef, .bool false, .pointer (some ⟨g, 0, none⟩), .agg #[.int .u32 (i : Int), .int .u32 gn], .bool false, .bool true, .bool true, undef, undef, undef, undef, undef, undef, undef, undef, undef, undef, undef, undef, undef, undef, undef, undef, undef, undef, undef, undef, undef, undef], []⟩ _
    refine wpAny_take (i := 8) (v := undef) rfl (by kernel_rfl) (by kernel_rfl) (by kernel_rfl) (fun _ _ _ h => h) (Or.inr ⟨by kernel_rfl, rfl⟩) ?_
    change wpAny _ _ _ _ _ _ ⟨#[.pointer (some ⟨g, 0, none⟩), .agg #[.int .u32 (i : Int), .int .u32 gn], .string (str t), undef, .pointer (some ⟨w.heap.size, 0, none⟩), undef, .bool false, .pointer (some ⟨g, 0, none⟩), .agg #[.int .u32 (i : Int), .int .u32 gn], .bool false, .bool true, .bool true, undef, undef, undef, undef, undef, undef, undef, undef, undef, undef, undef, undef, undef, undef, undef, undef, undef, undef, undef, undef, undef, undef], []⟩ _
    refine wpAny_take (i := 9) (v := undef) rfl (by kernel_rfl) (by kernel_rfl) (by kernel_rfl) (fun _ _ _ h => h) (Or.inr ⟨by kernel_rfl, rfl⟩) ?_
    change wpAny _ _ _ _ _ _ ⟨#[.pointer (some ⟨g, 0, none⟩), .agg #[.int .u32 (i : Int), .int .u32 gn], .string (str t), undef, .pointer (some ⟨w.heap.size, 0, none⟩), undef, .bool false, .pointer (some ⟨g, 0, none⟩), .agg #[.int .u32 (i : Int), .int .u32 gn], .bool false, .bool true, .bool true, undef, undef, undef, undef, undef, undef, undef, undef, undef, undef, undef, undef, undef, undef, undef, undef, undef, undef, undef, undef, undef, undef], []⟩ _
    refine wpAny_take (i := 10) (v := undef) rfl (by kernel_rfl) (by kernel_rfl) (by kernel_rfl) (fun _ _ _ h => h) (Or.inr ⟨by kernel_rfl, rfl⟩) ?_
    change wpAny _ _ _ _ _ _ ⟨#[.pointer (some ⟨g, 0, none⟩), .agg #[.int .u32 (i : Int), .int .u32 gn], .string (str t), undef, .pointer (some ⟨w.heap.size, 0, none⟩), undef, .bool false, .pointer (some ⟨g, 0, none⟩), .agg #[.int .u32 (i : Int), .int .u32 gn], .bool false, .bool true, .bool true, undef, undef, undef, undef, undef, undef, undef, undef, undef, undef, undef, undef, undef, undef, undef, undef, undef, undef, undef, undef, undef, undef], []⟩ _
    refine wpAny_take (i := 11) (v := undef) rfl (by kernel_rfl) (by kernel_rfl) (by kernel_rfl) (fun _ _ _ h => h) (Or.inr ⟨by kernel_rfl, rfl⟩) ?_
    change wpAny _ _ _ _ _ _ ⟨#[.pointer (some ⟨g, 0, none⟩), .agg #[.int .u32 (i : Int), .int .u32 gn], .string (str t), undef, .pointer (some ⟨w.heap.size, 0, none⟩), undef, .bool false, .pointer (some ⟨g, 0, none⟩), .agg #[.int .u32 (i : Int), .int .u32 gn], .bool false, .bool true, .bool true, undef, undef, undef, undef, undef, undef, undef, undef, undef, undef, undef, undef, undef, undef, undef, undef, undef, undef, undef, undef, undef, undef], []⟩ _
    refine wpAny_take (i := 12) (v := undef) rfl (by kernel_rfl) (by kernel_rfl) (by kernel_rfl) (fun _ _ _ h => h) (Or.inr ⟨by kernel_rfl, rfl⟩) ?_
    change wpAny _ _ _ _ _ _ ⟨#[.pointer (some ⟨g, 0, none⟩), .agg #[.int .u32 (i : Int), .int .u32 gn], .string (str t), undef, .pointer (some ⟨w.heap.size, 0, none⟩), undef, .bool false, .pointer (some ⟨g, 0, none⟩), .agg #[.int .u32 (i : Int), .int .u32 gn], .bool false, .bool true, .bool true, undef, undef, undef, undef, undef, undef, undef, undef, undef, undef, undef, undef, undef, undef, undef, undef, undef, undef, undef, undef, undef, undef], []⟩ _
    refine wpAny_take (i := 13) (v := undef) rfl (by kernel_rfl) (by kernel_rfl) (by kernel_rfl) (fun _ _ _ h => h) (Or.inr ⟨by kernel_rfl, rfl⟩) ?_
    change wpAny _ _ _ _ _ _ ⟨#[.pointer (some ⟨g, 0, none⟩), .agg #[.int .u32 (i : Int), .int .u32 gn], .string (str t), undef, .pointer (some ⟨w.heap.size, 0, none⟩), undef, .bool false, .pointer (some ⟨g, 0, none⟩), .agg #[.int .u32 (i : Int), .int .u32 gn], .bool false, .bool true, .bool true, undef, undef, undef, undef, undef, undef, undef, undef, undef, undef, undef, undef, undef, undef, undef, undef, undef, undef, undef, undef, undef, undef], []⟩ _
    refine wpAny_take (i := 14) (v := undef) rfl (by kernel_rfl) (by kernel_rfl) (by kernel_rfl) (fun _ _ _ h => h) (Or.inr ⟨by kernel_rfl, rfl⟩) ?_
    change wpAny _ _ _ _ _ _ ⟨#[.pointer (some ⟨g, 0, none⟩), .agg #[.int .u32 (i : Int), .int .u32 gn], .string (str t), undef, .pointer (some ⟨w.heap.size, 0, none⟩), undef, .bool false, .pointer (some ⟨g, 0, none⟩), .agg #[.int .u32 (i : Int), .int .u32 gn], .bool false, .bool true, .bool true, undef, undef, undef, undef, undef, undef, undef, undef, undef, undef, undef, undef, undef, undef, undef, undef, undef, undef, undef, undef, undef, undef], []⟩ _
    refine wpAny_take (i := 15) (v := undef) rfl (by kernel_rfl) (by kernel_rfl) (by kernel_rfl) (fun _ _ _ h => h) (Or.inr ⟨by kernel_rfl, rfl⟩) ?_
    change wpAny _ _ _ _ _ _ ⟨#[.pointer (some ⟨g, 0, none⟩), .agg #[.int .u32 (i : Int), .int .u32 gn], .string (str t), undef, .pointer (some ⟨w.heap.size, 0, none⟩), undef, .bool false, .pointer (some ⟨g, 0, none⟩), .agg #[.int .u32 (i : Int), .int .u32 gn], .bool false, .bool true, .bool true, undef, undef, undef, undef, undef, undef, undef, undef, undef, undef, undef, undef, undef, undef, undef, undef, undef, undef, undef, undef, undef, undef], []⟩ _
    refine wpAny_take (i := 16) (v := undef) rfl (by kernel_rfl) (by kernel_rfl) (by kernel_rfl) (fun _ _ _ h => h) (Or.inr ⟨by kernel_rfl, rfl⟩) ?_
    change wpAny _ _ _ _ _ _ ⟨#[.pointer (some ⟨g, 0, none⟩), .agg #[.int .u32 (i : Int), .int .u32 gn], .string (str t), undef, .pointer (some ⟨w.heap.size, 0, none⟩), undef, .bool false, .pointer (some ⟨g, 0, none⟩), .agg #[.int .u32 (i : Int), .int .u32 gn], .bool false, .bool true, .bool true, undef, undef, undef, undef, undef, undef, undef, undef, undef, undef, undef, undef, undef, undef, undef, undef, undef, undef, undef, undef, undef, undef], []⟩ _
    refine wpAny_take (i := 17) (v := .bool true) rfl (by kernel_rfl) (by kernel_rfl) (by kernel_rfl) (fun _ _ _ h => h) (Or.inl ⟨by rfl, by (intro w; go_simp)⟩) ?_
    change wpAny _ _ _ _ _ _ ⟨#[.pointer (some ⟨g, 0, none⟩), .agg #[.int .u32 (i : Int), .int .u32 gn], .string (str t), undef, .pointer (some ⟨w.heap.size, 0, none⟩), undef, .bool false, .pointer (some ⟨g, 0, none⟩), .agg #[.int .u32 (i : Int), .int .u32 gn], .bool false, .bool true, .bool true, undef, undef, undef, undef, undef, undef, undef, undef, undef, undef, undef, undef, .bool true, undef, undef, undef, undef, undef, undef, undef, undef, undef], []⟩ _
    refine wpAny_done (by kernel_rfl) ?_ _
    go_wp2
    go_ret
    exact ⟨ret_bool HG.out.symm, by rw [pto, if_neg (by rw [HG.out]; decide)]; exact H.out.below HB.out, .of_below HB.out⟩
  | true =>
    have hl := hit_lt hh
    have hn := h.wf.len
    obtain ⟨q, cap, rfl, hqg, hq, hcap, _, _, hr, htx, hfz⟩ := h.slot hl
    have hgl := h.lt
    have hc : w.cell? ⟨g, 2, none⟩ = some _ := h.blk.cell 2
    have HC := Lib.hid hc
    have HR := Lib.hid hr
    have HTX := Lib.hid htx
    have HFZ := Lib.hid (hfz (i * 4 + 3))
    have HH := Lib.hid hh
    have H := Lib.hid h
    have hok := h.wf.ok.at_ i
    have hr1 := hok.2.1
    have HL := Lib.hid hl
    have hi0 : (0 : Int) ≤ (i : Int) := by omega
    have hi1 : (i : Int) < (s.l.length : Int) := by omega
    have hb0 := rboxed w (.int .u32 i) (.int .u32 gn)
    have S0 : Hid ((w.alloc (.cells #[.int .u32 (i : Int), .int .u32 gn] 35)).cell? ⟨w.heap.size, 0, none⟩ = some (.int .u32 (i : Int)) ∧ (w.alloc (.cells #[.int .u32 (i : Int), .int .u32 gn] 35)).cell? ⟨w.heap.size, 1, none⟩ = some (.int .u32 gn) ∧ (w.alloc (.cells #[.int .u32 (i : Int), .int .u32 gn] 35)).cell? ⟨g, 2, none⟩ = some (.slice (some ⟨q, 0, none⟩) s.l.length cap) ∧ (w.alloc (.cells #[.int .u32 (i : Int), .int .u32 gn] 35)).cell? ⟨q, i * 4 + 2, none⟩ = some (.int .i64 (bk s.l i).r)) :=
      Lib.hid ⟨X0.out.1, X0.out.2, (hb0.cell (p := ⟨g, 2, none⟩) hgl).trans HC.out, (hb0.cell (p := ⟨q, i * 4 + 2, none⟩) hq).trans HR.out⟩
    clear hh h hr htx hfz hok hl hc hb0
    by_cases hle : (t.length : Int) ≤ (bk s.l i).r
    · have HP : Hid (pok s i gn t.length = true) := Lib.hid (by rw [pok, HH.out]; simpa using hle)
      have HBK : Hid (∃ r, (bk s.l i).r = r) := Lib.hid ⟨_, rfl⟩
      generalize hb9 : (bk s.l i).r = r at *
      have HB9 := Lib.hid hb9
      clear hb9 HBK
      go_enter Tryd.func13, Tryd.ntmps13
      go_wp2_with fail
      go_region_held3 (fun w' => w'.cell? ⟨w.heap.size, 0, none⟩ = some (.int .u32 (i : Int)) ∧ w'.cell? ⟨w.heap.size, 1, none⟩ = some (.int .u32 gn) ∧ w'.cell? ⟨g, 2, none⟩ = some (.slice (some ⟨q, 0, none⟩) s.l.length cap) ∧ w'.cell? ⟨q, i * 4 + 2, none⟩ = some (.int .i64 r))
        (first | exact ⟨X1.out.1, X1.out.2, C1.out, R1.out⟩ | exact S0.out)
        (first
          | (go_at_call 30; refine (refLives_any (HA.out.below (Below.refl _ _).drew) i gn hi hgn0 hgn1).mono ?_; rw [HH.out]; rintro e w1 ⟨rfl, hb⟩; have X1 := Lib.hid (rboxed_at w w1 (.int .u32 i) (.int .u32 gn) ((Below.refl _ _).drew.trans hb)); have HB := Lib.hid ((rboxed w (.int .u32 i) (.int .u32 gn)).trans (((Below.refl _ _).drew.trans hb).mono (by simp))); clear hb; have C1 := Lib.hid ((HB.out.cell (p := ⟨g, 2, none⟩) hgl).trans HC.out); have R1 := Lib.hid ((HB.out.cell (p := ⟨q, i * 4 + 2, none⟩) hq).trans HR.out)))
      have e0 := X1.out.1
      have e2 := C1.out
      have e3 := (HB.out.cell (p := ⟨q, i * 4 + 3, none⟩) hq).trans HTX.out
      have e4 := (HB.out.frozen (p := ⟨q, i * 4 + 3, none⟩) hq).trans HFZ.out
      clear S0 X0 X1 C1 R1
      go_wp2_with fail
      go_region
      go_wp2
      go_ret
      have hw := pto_wf H.out.wf i gn t
      have H1 := H.out.below HB.out
      rw [pto, if_pos HP.out] at hw ⊢
      refine ⟨ret_bool HP.out.symm, ⟨H1.low, H1.ne, hw, ?_, ?_⟩, ((Fr.of_below HB.out).seto _ _).drew⟩
      · have := (H1.row.stored (i * 4 + 3) (.string (str t))).1
        rw [rcells_put HL.out] at this
        show World.ownsRow _ _ _ _ _ (s.l.set _ _).length _
        rw [List.length_set]
        exact this
      · exact (Below.heap_setCell _ _ _ _ (fun e => hqg e.symm)).trans H1.blk
    · have HP : Hid (pok s i gn t.length = false) := Lib.hid (by rw [pok, HH.out]; simpa using hle)
      generalize hb9 : (bk s.l i).r = r at *
      clear hb9
      go_enter Tryd.func13, Tryd.ntmps13
      go_wp2_with fail
      go_region_held3 (fun w' => w'.cell? ⟨w.heap.size, 0, none⟩ = some (.int .u32 (i : Int)) ∧ w'.cell? ⟨w.heap.size, 1, none⟩ = some (.int .u32 gn) ∧ w'.cell? ⟨g, 2, none⟩ = some (.slice (some ⟨q, 0, none⟩) s.l.length cap) ∧ w'.cell? ⟨q, i * 4 + 2, none⟩ = some (.int .i64 r))
        (first | exact ⟨X1.out.1, X1.out.2, C1.out, R1.out⟩ | exact S0.out)
        (first
          | (go_at_call 30; refine (refLives_any (HA.out.below (Below.refl _ _).drew) i gn hi hgn0 hgn1).mono ?_; rw [HH.out]; rintro e w1 ⟨rfl, hb⟩; have X1 := Lib.hid (rboxed_at w w1 (.int .u32 i) (.int .u32 gn) ((Below.refl _ _).drew.trans hb)); have HB := Lib.hid ((rboxed w (.int .u32 i) (.int .u32 gn)).trans (((Below.refl _ _).drew.trans hb).mono (by simp))); clear hb; have C1 := Lib.hid ((HB.out.cell (p := ⟨g, 2, none⟩) hgl).trans HC.out); have R1 := Lib.hid ((HB.out.cell (p := ⟨q, i * 4 + 2, none⟩) hq).trans HR.out)))
      go_wp2
      go_ret
      exact ⟨ret_bool HP.out.symm, by rw [pto, if_neg (by rw [HP.out]; decide)]; exact H.out.below HB.out, .of_below HB.out⟩

end Go.Proofs.YtiandhfpdehicaaDoor
