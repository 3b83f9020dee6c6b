/- All: the words of a text, as lexA tells them. -/
import Derived.Test.YtblpbgknnnpamaaDoorLxEnd
import Derived.Test.YtblpbgknnnpamaaDoorLxMath
namespace Go.Proofs.YtblpbgknnnpamaaDoor
open Go.RowKit
set_option linter.unusedVariables false

theorem grown_iter (w : World) (k : Nat) (s : ByteArray) (p : Nat) : w.grownBy (w.iterAt k s p) (some k) :=
  ⟨rfl, rfl, rfl, by simp [World.iterAt], fun j hj hne => Lib.iterAt_other w k j s p (fun e => hne (by rw [e]))⟩
theorem close_len {k : Nat} {o : Nm} {fr : Nat} {ts : List Tok} (h : close k o fr = some ts) : ts.length ≤ 1 := by
  unfold close at h
  repeat' split at h
  all_goals first | (cases h; simp) | cases h
theorem take_go (s : Nm) {fr p d : Nat} (hf : fr ≤ p) (hp : p ≤ s.length) : (s.take (p + d)).drop fr = (s.take p).drop fr ++ (s.drop p).take d := by
  rw [List.take_add, List.drop_append_of_le_length (by rw [List.length_take]; omega)]
theorem take_new (s : Nm) {p d : Nat} (hp : p ≤ s.length) : (s.take (p + d)).drop p = (s.drop p).take d := by
  rw [List.drop_take]
  congr 1
  omega
/-- What All tells. -/
def AllPost (s : Nm) (R : Res) (w : World) (e : Ending) (w' : World) : Prop :=
  (match R with
    | .bad p => e = .returned (.tuple #[.slice none 0 0, .int .i64 p, .int .i64 2])
    | .good ts => ∃ A c, e = .returned (.tuple #[.slice A ts.length c, .int .i64 s.length, .int .i64 0]) ∧ Toks w' A c ts) ∧ Below w.heap.size w w'
/-- Ahead of a round: the reader, and what is left. -/
def Rel (s : Nm) (w : World) (wr : World) (pos k fr : Nat) (o : Nm) (v : Value) (acc : List Tok) : Prop :=
  wr.heap[w.heap.size + 1]? = some (.stringIter (str s) pos) ∧ Rd wr w.heap.size s k fr v ∧ TW wr (w.heap.size + 2) v acc ∧ (∃ fuel, s.length ≤ pos + fuel ∧ pre acc (lexF fuel k o fr pos (s.drop pos)) = lexA s) ∧ fr ≤ pos ∧ pos ≤ s.length ∧ (s.take pos).drop fr = o ∧ k ≤ 3 ∧ acc.length ≤ pos ∧ Below w.heap.size w wr ∧ w.heap.size + 2 ≤ wr.heap.size
set_option maxHeartbeats 4000000 in
set_option maxRecDepth 100000 in
theorem all_any (s : Nm) (w : World) (hs : s.length ≤ 2048) (hT : Tabs w) :
    Calls Tryd.prog 10 #[.string (str s)] w (AllPost s (lexA s) w) := by
  have hz := str_size s
  have dlong : decide ((s.length : Int) > 2048) = false := by simp; omega
  obtain ⟨W, hW⟩ : ∃ W, w.alloc (.cells #[.string (str s), .int .i64 0, .int .i64 0, .slice none 0 0] 44) = W := ⟨_, rfl⟩
  have bW : Below w.heap.size w W := by rw [← hW]; exact (Below.refl _ _).alloc (Nat.le_refl _) _
  have hA : Rd W w.heap.size s 0 0 (.slice none 0 0) := by rw [← hW]; exact heap_alloc_new w _
  have hWz : W.heap.size = w.heap.size + 1 := by rw [← hW]; simp
  have HA := Lib.hid hA
  have HW := Lib.hid hW
  clear hA hW
  go_enter Tryd.func10, Tryd.ntmps10
  go_wp2_with fail
  rw [HW.out]
  go_loopw [] (fun wr => ∃ pos k fr o v acc, Rel s w wr pos k fr o v acc) (fun wr => (str s).size - wr.iterPos (w.heap.size + 1))
  case atStart =>
    have bi : Below W.heap.size W (W.iter (str s) 0) := (Below.refl _ _).alloc (Nat.le_refl _) _
    refine ⟨0, 0, 0, [], .slice none 0 0, [], ?_, HA.out.below bi HA.out.lt, TW.nil _ _, ⟨s.length, by omega, by rw [pre_nil]; rfl⟩, by omega, by omega, rfl, by omega, by simp, bW.trans (bi.mono bW.size), ?_⟩
    · rw [← hWz]; exact World.iter_heap W (str s) 0
    · show w.heap.size + 2 ≤ (W.iter (str s) 0).heap.size
      have : (W.iter (str s) 0).heap.size = W.heap.size + 1 := by unfold World.iter; simp
      omega
  case round =>
    clear HA HW bW hWz
    obtain ⟨pos, k, fr, o, v, acc, hit, hR, hV, ⟨fuel, hfu, hres⟩, hfr, hpos, ho, hk, hacc, hB, hsz⟩ := hrel
    have HRES := Lib.hid hres
    clear hres
    by_cases hp : pos < (str s).size
    · have hp' : pos < s.length := by rw [← hz]; exact hp
      have hnx : ∀ ty, (Instr.next (.pointer (some ⟨w.heap.size + 1, 0, none⟩)) true ty).run Tryd.prog wr = _ := fun ty => Lib.run_next_any_at wr (w.heap.size + 1) (str s) pos ty hit hp
      have hwd : 1 ≤ (Utf8.decode (str s) pos).2 := Lib.width_pos _ _
      have hrl : (Utf8.decode (str s) pos).1 ≤ 1114111 := Lib.rune_le _ _
      have hit2 := Lib.iterAt_heap wr (w.heap.size + 1) (str s) pos (pos + (Utf8.decode (str s) pos).2) hit
      have hg2 := grown_iter wr (w.heap.size + 1) (str s) (pos + (Utf8.decode (str s) pos).2)
      obtain ⟨f, hf⟩ : ∃ f, fuel = f + 1 := ⟨fuel - 1, by omega⟩
      subst hf
      have hne : s.drop pos ≠ [] := by
        intro h
        have := congrArg List.length h
        simp at this
        omega
      have hdle := dec_le hne
      rw [List.length_drop] at hdle
      have hd1 := dec_at s pos
      obtain ⟨r, hr⟩ : ∃ r, (Utf8.decode (str s) pos).1 = r := ⟨_, rfl⟩
      obtain ⟨d, hd⟩ : ∃ d, (Utf8.decode (str s) pos).2 = d := ⟨_, rfl⟩
      have hr' : (Lib.decodeL (s.drop pos)).1 = r := by rw [← hd1]; exact hr
      have hd' : (Lib.decodeL (s.drop pos)).2 = d := by rw [← hd1]; exact hd
      rw [hd'] at hdle
      rw [hr] at hrl
      rw [hd] at hwd hit2 hg2
      have HD' := Lib.hid hd'
      have HR' := Lib.hid hr'
      have HNE := Lib.hid hne
      have HTG := Lib.hid (take_go s (d := d) hfr hpos)
      have HTN := Lib.hid (take_new s (d := d) hpos)
      clear hne hd1 hd' hr'
      have h2R : Rd (wr.iterAt (w.heap.size + 1) (str s) (pos + d)) w.heap.size s k fr v := hR.grown hg2 (by simp)
      have h2V : TW (wr.iterAt (w.heap.size + 1) (str s) (pos + d)) (w.heap.size + 2) v acc := World.ownsRow.kept hV hg2 (.inr (fun e => by have := (hV.lt _ e).1; omega))
      have h2B : Below w.heap.size w (wr.iterAt (w.heap.size + 1) (str s) (pos + d)) := Lib.below_iterAt hB (k := w.heap.size + 1) (by omega) (str s) (pos + d)
      have h2z : (wr.iterAt (w.heap.size + 1) (str s) (pos + d)).heap.size = wr.heap.size := by simp [World.iterAt]
      obtain ⟨w2, hw2⟩ : ∃ w2, wr.iterAt (w.heap.size + 1) (str s) (pos + d) = w2 := ⟨_, rfl⟩
      rw [hw2] at hit2 h2R h2V h2B h2z
      have hT2 := hT.below h2B
      have HO := Lib.hid ho
      have cg := goesOn_any s k fr w.heap.size pos r o v w2 h2R hk hs hfr hpos ho HR'.out hrl hT2
      have HIP : Hid (wr.iterPos (w.heap.size + 1) = pos) := Lib.hid (by simp only [World.iterPos, hit])
      clear hit hR hV hg2 ho
      have H2R := Lib.hid h2R
      have H2V := Lib.hid h2V
      have HIT := Lib.hid hit2
      clear h2R h2V hit2
      cases hg : goes k o (s.drop pos) with
      | true =>
        rw [hg] at cg
        go_wp2_with fail
        refine cg.mono ?_
        rintro e w3 ⟨rfl, b3⟩
        go_wp2_with fail
        go_roundw
        case rel =>
          refine ⟨pos + d, k, fr, o ++ (s.drop pos).take d, v, acc, (b3.block _ (by omega)).trans HIT.out, H2R.out.below b3 (by omega), H2V.out.below b3, ⟨f, by omega, ?_⟩, by omega, by omega, by rw [HTG.out, HO.out], hk, by omega, h2B.trans (b3.mono h2B.size), by have := b3.size; omega⟩
          have := HRES.out
          rw [lexF_go _ _ _ _ _ _ HNE.out hg, HD'.out, List.drop_drop] at this
          exact this
        case measure =>
          have e1 : w3.iterPos (w.heap.size + 1) = pos + d := by simp only [World.iterPos, (b3.block _ (show w.heap.size + 1 < w2.heap.size by omega)).trans HIT.out]
          rw [e1, HIP.out]
          omega
      | false =>
        rw [hg] at cg
        go_wp2_with fail
        refine cg.mono ?_
        rintro e w3 ⟨rfl, b3⟩
        have h3R := H2R.out.below b3 (show w.heap.size < w2.heap.size by omega)
        have h3V := H2V.out.below b3
        have h3B := h2B.trans (b3.mono h2B.size)
        have HI3 : Hid (w3.heap[w.heap.size + 1]? = some (.stringIter (str s) (pos + d))) := Lib.hid ((b3.block _ (by omega)).trans HIT.out)
        have h3z := b3.size
        clear H2R H2V HIT cg b3
        go_wp2_with fail
        refine (end_any s k fr w.heap.size pos (w.heap.size + 2) o v acc w3 h3R h3V rfl (by omega) (by omega) hk hs hfr hpos HO.out (hT.below h3B)).mono ?_
        intro e w4 hE
        obtain ⟨hE, hB4, hI4⟩ := hE
        have h4B := h3B.trans hB4
        have HI4 := Lib.hid (hI4 _ HI3.out)
        have h4z := hB4.size
        clear h3R h3V h3B HI3 hB4 hI4
        rcases hE with ⟨hc, rfl, h4R⟩ | ⟨ts, v4, hc, rfl, h4R, h4V⟩
        · have hbad : lexA s = .bad fr := by
            rw [← HRES.out, lexF_bad _ _ _ _ _ _ HNE.out hg hc]; rfl
          have HBAD := Lib.hid hbad
          clear hbad hc
          obtain ⟨x0, x1, x2, x3⟩ := four h4R
          go_wp2_with fail
          go_quiet (fail)
          go_wp2_with fail
          refine bodyPost_ret (v := .tuple #[.slice none 0 0, .int .i64 fr, .int .i64 2]) (by simp [results, Tryd.results10, go_sem]) rfl ?_
          refine ⟨?_, below_drewN h4B _⟩
          rw [HBAD.out]
        · have hc1 := close_len hc
          have HC := Lib.hid hc
          have H4V := Lib.hid h4V
          have cb := begin_any s k fr w.heap.size pos r v4 w4 h4R hs hpos HR'.out hrl (fun u hu => hT.below (h4B.grown hu (by omega) (fun g e => by cases e; omega)))
          clear hc h4V
          go_wp2_with fail
          refine cb.mono ?_
          rintro e w5 ⟨rfl, h5R, h5g⟩
          have h5B : Below w.heap.size w w5 := h4B.grown h5g (by omega) (fun g e => by cases e; omega)
          have h5V : TW w5 (w.heap.size + 2) v4 (acc ++ ts) := World.ownsRow.kept H4V.out h5g (.inr (fun e => by have := (H4V.out.lt _ e).1; omega))
          have h5I : w5.heap[w.heap.size + 1]? = some (.stringIter (str s) (pos + d)) := (h5g.block _ (by omega) (by simp)).trans HI4.out
          have h5z := h5g.size
          have H5R := Lib.hid h5R
          have H5V := Lib.hid h5V
          have H5I := Lib.hid h5I
          clear h5R h5V h5I h5g cb h4R
          go_wp2_with fail
          go_roundw
          case rel =>
            refine ⟨pos + d, beg (s.drop pos), pos, (s.drop pos).take d, v4, acc ++ ts, H5I.out, H5R.out, H5V.out, ⟨f, by omega, ?_⟩, by omega, by omega, HTN.out, beg_le _, by rw [List.length_append]; omega, h5B, by omega⟩
            have := HRES.out
            rw [lexF_new _ _ _ _ _ _ HNE.out hg HC.out, HD'.out, List.drop_drop, pre_pre] at this
            exact this
          case measure =>
            have e1 : w5.iterPos (w.heap.size + 1) = pos + d := by simp only [World.iterPos, H5I.out]
            rw [e1, HIP.out]
            omega
    · have hnx : ∀ ty, (Instr.next (.pointer (some ⟨w.heap.size + 1, 0, none⟩)) true ty).run Tryd.prog wr = _ := fun ty => Lib.run_next_end_at wr (w.heap.size + 1) (str s) pos ty hit hp
      obtain rfl : pos = s.length := by omega
      have hfin : pre acc (fin k o fr) = lexA s := by
        have := HRES.out
        rwa [List.drop_length, lexF_nil] at this
      have HF := Lib.hid hfin
      clear hfin HRES hit
      go_wp2_with fail
      refine (end_any s k fr w.heap.size s.length (w.heap.size + 2) o v acc wr hR hV rfl (by omega) (by omega) hk hs hfr (by omega) ho (hT.below hB)).mono ?_
      intro e w4 hE
      obtain ⟨hE, hB4, _⟩ := hE
      have h4B := hB.trans hB4
      clear hR hV hB hB4 hnx
      rcases hE with ⟨hc, rfl, h4R⟩ | ⟨ts, v4, hc, rfl, h4R, h4V⟩
      · have hbad : lexA s = .bad fr := by
          rw [← HF.out]; unfold fin; rw [hc]; rfl
        have HBAD := Lib.hid hbad
        clear hbad hc
        obtain ⟨x0, x1, x2, x3⟩ := four h4R
        go_wp2_with fail
        go_quiet (fail)
        go_wp2_with fail
        refine bodyPost_ret (v := .tuple #[.slice none 0 0, .int .i64 fr, .int .i64 2]) (by simp [results, Tryd.results10, go_sem]) rfl ?_
        refine ⟨?_, below_drewN h4B _⟩
        rw [HBAD.out]
      · have hgood : lexA s = .good (acc ++ ts) := by
          rw [← HF.out]; unfold fin; rw [hc]; rfl
        have HG := Lib.hid hgood
        obtain ⟨A, c, rfl, hTk⟩ := h4V.shape
        have HTK := Lib.hid hTk
        clear hgood hc h4V hTk
        obtain ⟨x0, x1, x2, x3⟩ := four h4R
        go_wp2_with fail
        refine bodyPost_ret (v := .tuple #[.slice A (acc ++ ts).length c, .int .i64 s.length, .int .i64 0]) (by simp [results, Tryd.results10, go_sem]) rfl ?_
        refine ⟨?_, h4B⟩
        rw [HG.out]
        exact ⟨A, c, rfl, HTK.out⟩
end Go.Proofs.YtblpbgknnnpamaaDoor
