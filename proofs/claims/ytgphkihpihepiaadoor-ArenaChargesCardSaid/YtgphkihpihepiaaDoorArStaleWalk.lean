/- ArenaStale tells true, however often it allocates, and whatever the sizes. -/
import Derived.Test.YtgphkihpihepiaaDoorArLimitsWalk
namespace Go.Proofs.YtgphkihpihepiaaDoor
open Go.RowKit
set_option linter.unusedVariables false

/-- One slot that is free, of the generation g; one that lives. -/
def stl (g : Int) : Ar := ⟨10000, 10000, [⟨[], 0, g⟩]⟩
def stf (t : List UInt8) (r g : Int) : Ar := ⟨10000, 10000, [⟨t, r, g⟩]⟩
theorem stl_alo (t : List UInt8) (ht : t.length ≤ 255) (g : Int) : alo (stl g) t = stf t (rnd t.length) g ∧ aslot (stl g) (t.length : Int) = 0 ∧ agen (stl g) (t.length : Int) = g ∧ aerr (stl g) (t.length : Int) = 0 := by
  have hr := rok_yes (n := (t.length : Int)) (by omega) (by omega)
  have h16 := rnd16 hr
  have he : aerr (stl g) (t.length : Int) = 0 := aerr_of hr (by show chg [⟨[], 0, g⟩] + _ ≤ 10000; simp only [chg]; omega) (by show fre [⟨[], 0, g⟩] < 4096; simp [fre])
  refine ⟨?_, ?_, ?_, he⟩
  · rw [alo, if_pos he]; rfl
  · rw [aslot, if_pos he]; rfl
  · rw [agen, if_pos he]; rfl
theorem stf_miss (t : List UInt8) {r g : Int} (hg : g ≠ 1) : got (stf t r g) 0 1 = [] ∧ hit (stf t r g).l 0 1 = false ∧ (∀ u : List UInt8, pto (stf t r g) 0 1 u = stf t r g ∧ pok (stf t r g) 0 1 (u.length : Int) = false) ∧ fro (stf t r g) 0 1 = stf t r g := by
  have hh : hit (stf t r g).l 0 1 = false := by simp [hit, stf, bk, hg]
  have hp : ∀ n : Int, pok (stf t r g) 0 1 n = false := fun n => by rw [pok, hh]; rfl
  refine ⟨by rw [got, hh]; rfl, hh, fun u => ⟨by rw [pto, hp]; rfl, hp _⟩, by rw [fro, hh]; rfl⟩
theorem stf_hit (t : List UInt8) {r g : Int} (hr : r ≠ 0) (h0 : 0 ≤ g) (h1 : g ≤ 1000) : hit (stf t r g).l 0 g = true ∧ fro (stf t r g) 0 g = stl (g + 1) := by
  have hh : hit (stf t r g).l 0 g = true := by simp [hit, stf, bk, hr]
  refine ⟨hh, ?_⟩
  rw [fro, hh]
  have e : (g + 1) % 4294967296 = g + 1 := by omega
  show (⟨10000, 10000, [⟨[], 0, (g + 1) % 4294967296⟩]⟩ : Ar) = _
  rw [e]; rfl
def oldt : List UInt8 := [111, 108, 100]
theorem stl_old : alo ⟨10000, 10000, []⟩ oldt = stf oldt 16 1 ∧ aslot ⟨10000, 10000, []⟩ (oldt.length : Int) = 0 ∧ agen ⟨10000, 10000, []⟩ (oldt.length : Int) = 1 ∧ aerr ⟨10000, 10000, []⟩ (oldt.length : Int) = 0 := ⟨rfl, rfl, rfl, rfl⟩

theorem byte_at {zs : List Int} (h : ∀ n ∈ zs, (Lit.int .u8 n).wf = true) (k : Nat) : ∃ x : Nat, zs.getD k 0 = (x : Int) ∧ x ≤ 255 := by
  by_cases hk : k < zs.length
  · have h1 := h zs[k] (List.getElem_mem hk)
    have h2 := bounds_u8 h1
    refine ⟨zs[k].toNat, ?_, by omega⟩
    simp only [List.getD, List.getElem?_eq_getElem hk, Option.getD_some]
    omega
  · exact ⟨0, by simp [List.getD, hk], by omega⟩

set_option maxHeartbeats 8000000 in
set_option maxRecDepth 100000 in
theorem stale_walk (a0 : Int) (a : Option Addr) (len cap : Nat) (zs : List Int) (h00 : 0 ≤ a0) (h01 : a0 ≤ 255) (w : World) (hr : IsRow .u8 w a len cap zs) (hz : ∀ n ∈ zs, (Lit.int .u8 n).wf = true) (ht : Tab w) (hT : Dbt w) :
    Calls Tryd.prog 5 #[.int .u8 a0, .slice a len cap] w fun e w' => e = .returned (.bool true) ∧ Below w.heap.size w w' := by
  have HT := Lib.hid ht
  have HD := Lib.hid hT
  have HR := Lib.hid hr
  have HZS := Lib.hid hz
  have hm1 : len ≤ 9223372036854775807 := by have h1 := hr.1; have h2 := hr.2.1; have h3 := hr.2.2.1; unfold maxLen at h3; omega
  clear ht hT hr hz
  obtain ⟨N, rfl⟩ : ∃ n : Nat, a0 = (n : Int) := ⟨a0.toNat, by omega⟩
  go_enter Tryd.func5, Tryd.ntmps5
  go_wp2_with fail
  refine (examples_any w HT.out HD.out).mono ?_
  rintro e w1 ⟨rfl, b1⟩
  have B1 := Lib.hid b1
  clear b1
  go_wp2_with fail
  refine (new_sc 10000 w1 (by omega) (by omega) (HT.out.below B1.out) (HD.out.below B1.out)).mono ?_
  rintro e w2 ⟨rfl, h2, b2⟩
  have H2 := Lib.hid h2
  have B2 := Lib.hid (B1.out.trans (b2.mono B1.out.size))
  have HZ := Lib.hid B1.out.size
  clear h2 b2
  generalize w1.heap.size = B at *
  go_wp2_with fail
  refine (alloc_sc H2.out oldt (by decide)).mono ?_
  rw [stl_old.1, stl_old.2.1, stl_old.2.2.1, stl_old.2.2.2]
  rintro e w3 ⟨rfl, h3, b3⟩
  have H3 := Lib.hid (h3.box (.cells #[.int .u32 0, .int .u32 1] 32))
  have C3 : Hid (Has (w3.alloc (.cells #[.int .u32 0, .int .u32 1] 32)) w3.heap.size 32 #[.int .u32 0, .int .u32 1]) := Lib.hid (heap_alloc_new w3 _)
  have B3 := Lib.hid (B2.out.trans ((b3.bel.trans (h3.kpa (.cells #[.int .u32 0, .int .u32 1] 32)).bel).mono HZ.out))
  clear h3 b3
  go_wp2_with fail
  generalize w3.alloc (.cells #[.int .u32 0, .int .u32 1] 32) = w4 at *
  generalize w3.heap.size = p at *
  refine (free_sc H3.out 0 1 (by omega) (by omega) (by omega)).mono ?_
  have hht := stf_hit oldt (r := 16) (g := 1) (by omega) (by omega) (by omega)
  rw [hht.1, hht.2]
  clear hht
  rintro e w5 ⟨rfl, h5, b5⟩
  have H5 := Lib.hid h5
  have C5 := Lib.hid (b5.has (by simp) C3.out)
  have B5 := Lib.hid (B3.out.trans (b5.bel.mono HZ.out))
  clear h5 b5 H3 C3 B3
  go_wp2_with fail
  go_loopw [9] (fun i wr => ∃ k : Nat, k ≤ N % 20 ∧ i = .int .i64 k ∧ Sc wr B B (stl ((k : Int) + 2)) [p] ∧ Has wr p 32 #[.int .u32 0, .int .u32 1] ∧ Below w.heap.size w wr) (fun i _ => N % 20 - (intOf i).toNat)
  case atStart => exact ⟨0, by omega, rfl, H5.out, C5.out, B5.out⟩
  case round =>
    obtain ⟨k, hk, rfl, hS, hC, hBW⟩ := hrel
    have HS' := Lib.hid hS
    have HC := Lib.hid hC
    have HBW := Lib.hid hBW
    have hN := Nat.mod_lt N (show 0 < 20 by omega)
    clear hS hC hBW H5 C5 B5
    by_cases hlt : k < N % 20
    · obtain ⟨g, hg⟩ : ∃ g : Int, g = (k : Int) + 2 := ⟨_, rfl⟩
      have HG := Lib.hid hg
      have hg2 : 2 ≤ g := by omega
      have hg3 : g ≤ 22 := by omega
      have HS : Hid (Sc wr B B (stl g) [p]) := Lib.hid (by rw [HG.out]; exact HS'.out)
      clear hg HS'
      by_cases hl : k < len
      · obtain ⟨b, off, rfl, hc⟩ := (HR.out.below HBW.out).at_ hl
        obtain ⟨x, hx, hx1⟩ : ∃ x : Nat, zs.getD k 0 = (x : Int) ∧ x ≤ 255 := byte_at HZS.out k
        rw [hx] at hc
        clear hx
        go_wp2_with fail
        clear hc
        refine (text_sc HS.out x 7 (by omega) (by omega) (by omega)).mono ?_
        rintro e w7 ⟨rfl, h7, b7⟩
        have C7 := Lib.hid (b7.has (by simp) HC.out)
        have H7 := Lib.hid h7
        have B7 := Lib.hid (HBW.out.trans (b7.bel.mono HZ.out))
        clear h7 b7
        go_wp2_with fail
        refine (alloc_sc H7.out (txt x 7) (by rw [txt_length]; exact small_len (by omega))).mono ?_
        have hst := stl_alo (txt x 7) (by rw [txt_length]; omega) g
        rw [hst.1, hst.2.1, hst.2.2.1, hst.2.2.2]
        clear hst
        rintro e w8 ⟨rfl, h8, b8⟩
        have hr0 := (rnd16 (n := ((txt x 7).length : Int)) (rok_yes (by omega) (by rw [txt_length]; omega))).1
        generalize rnd ((txt x 7).length : Int) = r at *
        generalize txt x 7 = t at *
        have h80 := b8.has (by simp) C7.out
        have H8 := Lib.hid (h8.box (.cells #[.int .u32 0, .int .u32 g] 32))
        have D8 : Hid (Has (w8.alloc (.cells #[.int .u32 0, .int .u32 g] 32)) w8.heap.size 32 #[.int .u32 0, .int .u32 g]) := Lib.hid (heap_alloc_new w8 _)
        have C8 := Lib.hid ((h8.kpa (.cells #[.int .u32 0, .int .u32 g] 32)).has (by simp) h80)
        have B8 := Lib.hid (B7.out.trans ((b8.bel.trans (h8.kpa (.cells #[.int .u32 0, .int .u32 g] 32)).bel).mono HZ.out))
        have c0 := h80.two.1
        have c1 := h80.two.2
        have cl := h80.lt
        clear h8 b8 h80 C7 H7 B7
        go_wp2_with fail
        clear c0 c1 cl
        generalize w8.alloc (.cells #[.int .u32 0, .int .u32 g] 32) = w9 at *
        generalize w8.heap.size = q at *
        have hms := stf_miss t (r := r) (g := g) (by omega)
        refine (get_sc H8.out 0 1 (by omega) (by omega) (by omega)).mono ?_
        rw [hms.1, hms.2.1]
        rintro e w10 ⟨rfl, h10, b10⟩
        have H10 := Lib.hid h10
        have C10 := Lib.hid (b10.has (by simp) C8.out)
        have D10 := Lib.hid (b10.has (by simp) D8.out)
        have B10 := Lib.hid (B8.out.trans (b10.bel.mono HZ.out))
        have c0 := C10.out.two.1
        have c1 := C10.out.two.2
        clear h10 b10 C8 D8 H8 B8 hms
        go_wp2_with fail
        clear c0 c1
        have hms := stf_miss t (r := r) (g := g) (by omega)
        refine (put_sc H10.out 0 1 (by omega) (by omega) (by omega) [] (by decide)).mono ?_
        rw [(hms.2.2.1 []).1, (hms.2.2.1 []).2]
        rintro e w11 ⟨rfl, h11, b11⟩
        have H11 := Lib.hid h11
        have C11 := Lib.hid (b11.has (by simp) C10.out)
        have D11 := Lib.hid (b11.has (by simp) D10.out)
        have B11 := Lib.hid (B10.out.trans (b11.bel.mono HZ.out))
        have c0 := C11.out.two.1
        have c1 := C11.out.two.2
        clear h11 b11 C10 D10 H10 B10 hms
        go_wp2_with fail
        clear c0 c1
        have hms := stf_miss t (r := r) (g := g) (by omega)
        refine (free_sc H11.out 0 1 (by omega) (by omega) (by omega)).mono ?_
        rw [hms.2.1, hms.2.2.2]
        rintro e w12 ⟨rfl, h12, b12⟩
        have H12 := Lib.hid h12
        have C12 := Lib.hid (b12.has (by simp) C11.out)
        have D12 := Lib.hid (b12.has (by simp) D11.out)
        have B12 := Lib.hid (B11.out.trans (b12.bel.mono HZ.out))
        have c0 := C12.out.two.1
        have c1 := C12.out.two.2
        have d0 := D12.out.two.1
        have d1 := D12.out.two.2
        have hg1 : (g == 1) = false := by simp; omega
        clear h12 b12 C11 D11 H11 B11 hms
        go_wp2_with fail
        clear c0 c1 d0 d1 hg1
        have hht := stf_hit t (r := r) (g := g) (by omega) (by omega) (by omega)
        refine (free_sc H12.out 0 g (by omega) (by omega) (by omega)).mono ?_
        rw [hht.1, hht.2]
        clear hht
        rintro e w13 ⟨rfl, h13, b13⟩
        have H13 := Lib.hid (h13.sub (L := [p]) (by simp))
        have C13 := Lib.hid (b13.has (by simp) C12.out)
        have B13 := Lib.hid (B12.out.trans (b13.bel.mono HZ.out))
        clear h13 b13 C12 D12 H12 B12
        go_wp2
        go_roundw
        case rel => exact ⟨k + 1, by omega, by go_num, by rw [show (((k + 1 : Nat) : Int) + 2) = g + 1 by rw [HG.out]; omega]; exact H13.out, C13.out, B13.out⟩
        case measure => simp [intOf]; omega
      · go_wp2_with fail
        refine (text_sc HS.out 3 7 (by omega) (by omega) (by omega)).mono ?_
        rintro e w7 ⟨rfl, h7, b7⟩
        have C7 := Lib.hid (b7.has (by simp) HC.out)
        have H7 := Lib.hid h7
        have B7 := Lib.hid (HBW.out.trans (b7.bel.mono HZ.out))
        clear h7 b7
        go_wp2_with fail
        refine (alloc_sc H7.out (txt 3 7) (by rw [txt_length]; exact small_len (by omega))).mono ?_
        have hst := stl_alo (txt 3 7) (by rw [txt_length]; omega) g
        rw [hst.1, hst.2.1, hst.2.2.1, hst.2.2.2]
        clear hst
        rintro e w8 ⟨rfl, h8, b8⟩
        have hr0 := (rnd16 (n := ((txt 3 7).length : Int)) (rok_yes (by omega) (by rw [txt_length]; omega))).1
        generalize rnd ((txt 3 7).length : Int) = r at *
        generalize txt 3 7 = t at *
        have h80 := b8.has (by simp) C7.out
        have H8 := Lib.hid (h8.box (.cells #[.int .u32 0, .int .u32 g] 32))
        have D8 : Hid (Has (w8.alloc (.cells #[.int .u32 0, .int .u32 g] 32)) w8.heap.size 32 #[.int .u32 0, .int .u32 g]) := Lib.hid (heap_alloc_new w8 _)
        have C8 := Lib.hid ((h8.kpa (.cells #[.int .u32 0, .int .u32 g] 32)).has (by simp) h80)
        have B8 := Lib.hid (B7.out.trans ((b8.bel.trans (h8.kpa (.cells #[.int .u32 0, .int .u32 g] 32)).bel).mono HZ.out))
        have c0 := h80.two.1
        have c1 := h80.two.2
        have cl := h80.lt
        clear h8 b8 h80 C7 H7 B7
        go_wp2_with fail
        clear c0 c1 cl
        generalize w8.alloc (.cells #[.int .u32 0, .int .u32 g] 32) = w9 at *
        generalize w8.heap.size = q at *
        have hms := stf_miss t (r := r) (g := g) (by omega)
        refine (get_sc H8.out 0 1 (by omega) (by omega) (by omega)).mono ?_
        rw [hms.1, hms.2.1]
        rintro e w10 ⟨rfl, h10, b10⟩
        have H10 := Lib.hid h10
        have C10 := Lib.hid (b10.has (by simp) C8.out)
        have D10 := Lib.hid (b10.has (by simp) D8.out)
        have B10 := Lib.hid (B8.out.trans (b10.bel.mono HZ.out))
        have c0 := C10.out.two.1
        have c1 := C10.out.two.2
        clear h10 b10 C8 D8 H8 B8 hms
        go_wp2_with fail
        clear c0 c1
        have hms := stf_miss t (r := r) (g := g) (by omega)
        refine (put_sc H10.out 0 1 (by omega) (by omega) (by omega) [] (by decide)).mono ?_
        rw [(hms.2.2.1 []).1, (hms.2.2.1 []).2]
        rintro e w11 ⟨rfl, h11, b11⟩
        have H11 := Lib.hid h11
        have C11 := Lib.hid (b11.has (by simp) C10.out)
        have D11 := Lib.hid (b11.has (by simp) D10.out)
        have B11 := Lib.hid (B10.out.trans (b11.bel.mono HZ.out))
        have c0 := C11.out.two.1
        have c1 := C11.out.two.2
        clear h11 b11 C10 D10 H10 B10 hms
        go_wp2_with fail
        clear c0 c1
        have hms := stf_miss t (r := r) (g := g) (by omega)
        refine (free_sc H11.out 0 1 (by omega) (by omega) (by omega)).mono ?_
        rw [hms.2.1, hms.2.2.2]
        rintro e w12 ⟨rfl, h12, b12⟩
        have H12 := Lib.hid h12
        have C12 := Lib.hid (b12.has (by simp) C11.out)
        have D12 := Lib.hid (b12.has (by simp) D11.out)
        have B12 := Lib.hid (B11.out.trans (b12.bel.mono HZ.out))
        have c0 := C12.out.two.1
        have c1 := C12.out.two.2
        have d0 := D12.out.two.1
        have d1 := D12.out.two.2
        have hg1 : (g == 1) = false := by simp; omega
        clear h12 b12 C11 D11 H11 B11 hms
        go_wp2_with fail
        clear c0 c1 d0 d1 hg1
        have hht := stf_hit t (r := r) (g := g) (by omega) (by omega) (by omega)
        refine (free_sc H12.out 0 g (by omega) (by omega) (by omega)).mono ?_
        rw [hht.1, hht.2]
        clear hht
        rintro e w13 ⟨rfl, h13, b13⟩
        have H13 := Lib.hid (h13.sub (L := [p]) (by simp))
        have C13 := Lib.hid (b13.has (by simp) C12.out)
        have B13 := Lib.hid (B12.out.trans (b13.bel.mono HZ.out))
        clear h13 b13 C12 D12 H12 B12
        go_wp2
        go_roundw
        case rel => exact ⟨k + 1, by omega, by go_num, by rw [show (((k + 1 : Nat) : Int) + 2) = g + 1 by rw [HG.out]; omega]; exact H13.out, C13.out, B13.out⟩
        case measure => simp [intOf]; omega
    · obtain rfl : k = N % 20 := by omega
      go_wp2_with fail
      refine (charged_sc HS'.out).mono ?_
      rintro e w' ⟨rfl, rfl⟩
      rw [show chg (stl (((N % 20 : Nat) : Int) + 2)).l = 0 from rfl]
      go_wp2_with fail
      refine (live_sc HS'.out).mono ?_
      rintro e w' ⟨rfl, rfl⟩
      rw [show liv (stl (((N % 20 : Nat) : Int) + 2)).l = 0 from rfl]
      go_wp2
      go_ret
      exact ⟨rfl, HBW.out⟩
end Go.Proofs.YtgphkihpihepiaaDoor
